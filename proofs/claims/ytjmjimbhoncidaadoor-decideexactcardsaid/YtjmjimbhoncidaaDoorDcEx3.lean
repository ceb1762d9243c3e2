/-
  DecideExact: what has grown, in memory.
-/
import Derived.Test.YtjmjimbhoncidaaDoorDcEx2
namespace Go.Proofs.YtjmjimbhoncidaaDoor
open Go.RowKit

/-- What the i-th list is written over with. -/
def zz (i : Nat) : Int × ByteArray := (-1 - (i : Int), nT)
structure DX (B : Nat) (rho : Nat → Nat) (vh : Value) (es : List Ent) (vg : Value) (gs : List Value) (wx : World) : Prop where
  hx : HX B rho vh es wx
  all : ∀ (j : Nat) (y : Ent), es[j]? = some y → y.l = List.replicate y.l.length (zz j)
  row : GRow wx B vg gs
  gr : ∀ g, vg.ownBlock = some g → rho g = 2
  gl : ∀ (j : Nat) (u : Value), gs[j]? = some u → ∃ y, es[j]? = some y ∧ ActRow wx B u (List.replicate (y.l.length + 90) (zz j)) ∧ ∀ g, u.ownBlock = some g → rho g = 4 + 2 * j
/-- The list that grows. -/
structure CX (B : Nat) (rho : Nat → Nat) (es : List Ent) (i n : Nat) (v : Value) (wx : World) : Prop where
  row : ActRow wx B v (List.replicate n (zz i))
  ro : ∀ g, v.ownBlock = some g → rho g = 4 + 2 * i
theorem DX.start {B : Nat} {rho : Nat → Nat} {vh : Value} {es : List Ent} {wx : World} (h : HX B rho vh es wx) (ha : ∀ (j : Nat) (y : Ent), es[j]? = some y → y.l = List.replicate y.l.length (zz j)) : DX B rho vh es (.slice none 0 0) [] wx :=
  ⟨h, ha, World.ownsRow_nil wx B _ 1, (fun g hg => by cases hg), (fun j u hu => by simp at hu)⟩
theorem CX.start {B : Nat} {rho : Nat → Nat} {vh vg : Value} {es : List Ent} {gs : List Value} {wx : World} {i : Nat} {y : Ent} (h : DX B rho vh es vg gs wx) (hy : es[i]? = some y) : CX B rho es i y.l.length y.v wx :=
  ⟨by rw [← h.all i y hy]; exact (h.hx.el i y hy).1, (h.hx.el i y hy).2.1⟩
theorem DX.below {B : Nat} {rho : Nat → Nat} {vh vg : Value} {es : List Ent} {gs : List Value} {wx w' : World} (h : DX B rho vh es vg gs wx) (hb : Below wx.heap.size wx w') : DX B rho vh es vg gs w' :=
  ⟨h.hx.below hb, h.all, ownAt h.row (fun g hg => hb.block g (World.ownsRow.lt h.row g hg).2), h.gr, fun j u hu => by
    obtain ⟨y, h1, h2, h3⟩ := h.gl j u hu
    exact ⟨y, h1, h2.below hb, h3⟩⟩
theorem CX.below {B : Nat} {rho : Nat → Nat} {es : List Ent} {i n : Nat} {v : Value} {wx w' : World} (h : CX B rho es i n v wx) (hb : Below wx.heap.size wx w') : CX B rho es i n v w' := ⟨h.row.below hb, h.ro⟩
theorem rep_snoc (n : Nat) (z : Int × ByteArray) : List.replicate n z ++ [z] = List.replicate (n + 1) z := by rw [List.replicate_succ']
/-- It grows by one. -/
theorem DX.grow {B : Nat} {rho : Nat → Nat} {vh vg : Value} {es : List Ent} {gs : List Value} {wx w' : World} {n : Nat} {v v' : Value} {y : Ent} {cs : Array Value} (h : DX B rho vh es vg gs wx) (hc : CX B rho es gs.length n v wx) (hy : es[gs.length]? = some y) (hn : y.l.length ≤ n)
    (hr : ActRow w' B v' (List.replicate n (zz gs.length) ++ [zz gs.length])) (hp : PutAt (wx.alloc (.cells cs 85)) w' v v' (wx.heap.size + 1) ((List.replicate n (zz gs.length)).length * 2) 85) :
    ∃ rho', DX B rho' vh es vg gs w' ∧ CX B rho' es gs.length (n + 1) v' w' := by
  have hal : ∀ g, g < wx.heap.size → (wx.alloc (.cells cs 85)).heap[g]? = wx.heap[g]? := fun g hg => Below.heap_alloc wx _ g hg
  have hold : ∀ g, g < wx.heap.size → v.ownBlock ≠ some g → w'.heap[g]? = wx.heap[g]? := fun g hg hne => by
    rw [hp.old (by simp; omega) hne]; exact hal g hg
  -- a row of another role stays
  have far : ∀ g, g < wx.heap.size → rho g ≠ 4 + 2 * gs.length → w'.heap[g]? = wx.heap[g]? := fun g hg hne => hold g hg (fun e => hne (hc.ro g e))
  have hrho : ∀ g, g < wx.heap.size → (if g = wx.heap.size + 1 then 4 + 2 * gs.length else rho g) = rho g := fun g hg => by rw [if_neg (by omega)]
  have hhx : HX B (fun g => if g = wx.heap.size + 1 then 4 + 2 * gs.length else rho g) vh es w' := by
    refine ⟨ownAt h.hx.row (fun g hg => far g (World.ownsRow.lt h.hx.row g hg).2 (by rw [h.hx.rr g hg]; omega)), fun g hg => ?_, fun j z hz => ?_, fun j z hz => ?_⟩
    · rw [hrho g (World.ownsRow.lt h.hx.row g hg).2]; exact h.hx.rr g hg
    · obtain ⟨r1, r2, r3⟩ := h.hx.el j z hz
      refine ⟨?_, fun g hg => by rw [hrho g (r1.lt hg)]; exact r2 g hg, r3⟩
      by_cases hj : j = gs.length
      · subst hj
        obtain rfl : z = y := by rw [hy] at hz; exact (Option.some.inj hz).symm
        by_cases hs : v.ownBlock = z.v.ownBlock
        · cases hg : z.v.ownBlock with
          | none => exact rowAt r1 (fun g e => by rw [hg] at e; cases e)
          | some g =>
            have hlt := r1.lt hg
            exact (hp.prefix (by rw [hs, hg]) hg (r1.below ((Below.refl _ _).alloc (Nat.le_refl _) _)) (by rw [List.length_replicate]; omega) (by omega)).1
        · exact rowAt r1 (fun g e => hold g (r1.lt e) (fun k => hs (by rw [k, e])))
      · exact rowAt r1 (fun g e => far g (r1.lt e) (by rw [r2 g e]; omega))
    · obtain ⟨r1, r2⟩ := h.hx.em j z hz
      exact ⟨rowAt r1 (fun g e => far g (r1.lt e) (by rw [r2 g e]; omega)), fun g hg => by rw [hrho g (r1.lt hg)]; exact r2 g hg⟩
  refine ⟨_, ⟨hhx, h.all, ownAt h.row (fun g hg => far g (World.ownsRow.lt h.row g hg).2 (by rw [h.gr g hg]; omega)), fun g hg => ?_, fun j u hu => ?_⟩, ⟨by rw [← rep_snoc]; exact hr, fun g hg => ?_⟩⟩
  · rw [hrho g (World.ownsRow.lt h.row g hg).2]; exact h.gr g hg
  · obtain ⟨z, h1, h2, h3⟩ := h.gl j u hu
    have hj : j < gs.length := (List.getElem?_eq_some_iff.1 hu).1
    exact ⟨z, h1, rowAt h2 (fun g e => far g (h2.lt e) (by rw [h3 g e]; omega)), fun g hg => by rw [hrho g (h2.lt hg)]; exact h3 g hg⟩
  · rcases hp with ⟨g0, _, _, h1, h2, _⟩ | ⟨h1, _, _⟩
    · obtain rfl : g = g0 := by rw [h2] at hg; simpa using hg.symm
      rw [hrho g (hc.row.lt h1)]; exact hc.ro g h1
    · obtain rfl : g = wx.heap.size + 1 := by rw [h1] at hg; simpa using hg.symm
      rw [if_pos rfl]
/-- What has grown is put beside the others. -/
theorem DX.put {B : Nat} {rho : Nat → Nat} {vh vg vg' : Value} {es : List Ent} {gs : List Value} {wx w' : World} {v : Value} {y : Ent} {c : Nat} {et : TypeId} (h : DX B rho vh es vg gs wx) (hc : CX B rho es gs.length (y.l.length + 90) v wx) (hy : es[gs.length]? = some y)
    (hr : GRow w' B vg' (gs ++ [v])) (hp : PutAt (wx.alloc (.cells #[v] 51)) w' vg vg' (wx.heap.size + 1) c et) :
    ∃ rho', DX B rho' vh es vg' (gs ++ [v]) w' := by
  have hal : ∀ g, g < wx.heap.size → (wx.alloc (.cells #[v] 51)).heap[g]? = wx.heap[g]? := fun g hg => Below.heap_alloc wx _ g hg
  have far : ∀ g, g < wx.heap.size → rho g ≠ 2 → w'.heap[g]? = wx.heap[g]? := fun g hg hne => by
    rw [hp.old (by simp; omega) (fun e => hne (h.gr g e))]; exact hal g hg
  have hrho : ∀ g, g < wx.heap.size → (if g = wx.heap.size + 1 then 2 else rho g) = rho g := fun g hg => by rw [if_neg (by omega)]
  refine ⟨fun g => if g = wx.heap.size + 1 then 2 else rho g, ⟨⟨ownAt h.hx.row (fun g hg => far g (World.ownsRow.lt h.hx.row g hg).2 (by rw [h.hx.rr g hg]; omega)), fun g hg => ?_, fun j z hz => ?_, fun j z hz => ?_⟩, h.all, hr, fun g hg => ?_, fun j u hu => ?_⟩⟩
  · rw [hrho g (World.ownsRow.lt h.hx.row g hg).2]; exact h.hx.rr g hg
  · obtain ⟨r1, r2, r3⟩ := h.hx.el j z hz
    exact ⟨rowAt r1 (fun g e => far g (r1.lt e) (by rw [r2 g e]; omega)), fun g hg => by rw [hrho g (r1.lt hg)]; exact r2 g hg, r3⟩
  · obtain ⟨r1, r2⟩ := h.hx.em j z hz
    exact ⟨rowAt r1 (fun g e => far g (r1.lt e) (by rw [r2 g e]; omega)), fun g hg => by rw [hrho g (r1.lt hg)]; exact r2 g hg⟩
  · rcases hp with ⟨g0, _, _, h1, h2, _⟩ | ⟨h1, _, _⟩
    · obtain rfl : g = g0 := by rw [h2] at hg; simpa using hg.symm
      rw [hrho g (World.ownsRow.lt h.row g h1).2]; exact h.gr g h1
    · obtain rfl : g = wx.heap.size + 1 := by rw [h1] at hg; simpa using hg.symm
      rw [if_pos rfl]
  · rcases Nat.lt_or_ge j gs.length with hj | hj
    · rw [List.getElem?_append_left hj] at hu
      obtain ⟨z, h1, h2, h3⟩ := h.gl j u hu
      exact ⟨z, h1, rowAt h2 (fun g e => far g (h2.lt e) (by rw [h3 g e]; omega)), fun g hg => by rw [hrho g (h2.lt hg)]; exact h3 g hg⟩
    · obtain rfl : j = gs.length := by
        have := (List.getElem?_eq_some_iff.1 hu).1
        simp at this; omega
      obtain rfl : u = v := by simpa using hu.symm
      exact ⟨y, hy, rowAt hc.row (fun g e => far g (hc.row.lt e) (by rw [hc.ro g e]; omega)), fun g hg => by rw [hrho g (hc.row.lt hg)]; exact hc.ro g hg⟩
end Go.Proofs.YtjmjimbhoncidaaDoor
