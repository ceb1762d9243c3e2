/-
  DecideExact: what is held, in memory.
-/
import Derived.Test.YtjmjimbhoncidaaDoorDcEx1
namespace Go.Proofs.YtjmjimbhoncidaaDoor
open Go.RowKit

structure Ent where
  v : Value
  m : Value
  l : ActL
  k : ActL
structure HX (B : Nat) (rho : Nat → Nat) (vh : Value) (es : List Ent) (wx : World) : Prop where
  row : HRow wx B vh (es.map fun y => (y.v, y.m))
  rr : ∀ g, vh.ownBlock = some g → rho g = 1
  el : ∀ (i : Nat) (y : Ent), es[i]? = some y → ActRow wx B y.v y.l ∧ (∀ g, y.v.ownBlock = some g → rho g = 4 + 2 * i) ∧ y.l.length ≤ 3
  em : ∀ (i : Nat) (y : Ent), es[i]? = some y → ActRow wx B y.m y.k ∧ ∀ g, y.m.ownBlock = some g → rho g = 5 + 2 * i
theorem HX.keep {B : Nat} {rho : Nat → Nat} {vh : Value} {es : List Ent} {wx w' : World} (h : HX B rho vh es wx) (hk : ∀ g, g < wx.heap.size → rho g ≠ 0 → w'.heap[g]? = wx.heap[g]?) : HX B rho vh es w' :=
  ⟨ownAt h.row (fun g hg => hk g (World.ownsRow.lt h.row g hg).2 (by rw [h.rr g hg]; omega)), h.rr,
    fun i y hy => ⟨rowAt (h.el i y hy).1 (fun g hg => hk g ((h.el i y hy).1.lt hg) (by rw [(h.el i y hy).2.1 g hg]; omega)), (h.el i y hy).2⟩,
    fun i y hy => ⟨rowAt (h.em i y hy).1 (fun g hg => hk g ((h.em i y hy).1.lt hg) (by rw [(h.em i y hy).2 g hg]; omega)), (h.em i y hy).2⟩⟩
theorem HX.below {B : Nat} {rho : Nat → Nat} {vh : Value} {es : List Ent} {wx w' : World} (h : HX B rho vh es wx) (hb : Below wx.heap.size wx w') : HX B rho vh es w' := h.keep fun g hg _ => hb.block g hg
theorem HX.drewN {B : Nat} {rho : Nat → Nat} {vh : Value} {es : List Ent} {wx : World} (h : HX B rho vh es wx) (n : Nat) : HX B rho vh es (wx.drewN n) := h.below (below_drewN (Below.refl _ _) n)
theorem HX.nil (B : Nat) (wx : World) : HX B (fun _ => 0) (.slice none 0 0) [] wx := ⟨World.ownsRow_nil wx B _ 2, (fun g hg => by cases hg), (fun i y h => by simp at h), (fun i y h => by simp at h)⟩
theorem one_slice {w : World} {B : Nat} {v : Value} {l : ActL} (h : ActRow w B v l) : v.oneCell' = true := by
  obtain ⟨a, c, rfl, _⟩ := h.isSlice; rfl
/-- What grownBy leaves of a block. -/
theorem PutAt.old {w w' : World} {v v' : Value} {N c g : Nat} {e : TypeId} (h : PutAt w w' v v' N c e) (hg : g < w.heap.size) (hn : v.ownBlock ≠ some g) : w'.heap[g]? = w.heap[g]? := by
  rcases h with ⟨g0, _, _, h1, _, h3, _⟩ | ⟨_, h2, _⟩
  · exact h3.block g hg (fun e => hn (by rw [h1, ← e]))
  · exact h2.block g hg (fun e => by cases e)
theorem PutAt.size {w w' : World} {v v' : Value} {N c : Nat} {e : TypeId} (h : PutAt w w' v v' N c e) : N ≤ w'.heap.size := by
  rcases h with ⟨_, _, _, _, _, _, h⟩ | ⟨_, _, h⟩ <;> omega
theorem PutAt.below {w w' : World} {v v' : Value} {N c B : Nat} {e : TypeId} (h : PutAt w w' v v' N c e) (hB : B ≤ w.heap.size) (hv : ∀ g, v.ownBlock = some g → B ≤ g) : Below B w w' := by
  rcases h with ⟨g, _, _, h1, _, h3, _⟩ | ⟨_, h2, _⟩
  · exact below_grown h3 hB (fun q hq => by cases hq; exact hv g h1)
  · exact below_grown h2 hB (fun q hq => by cases hq)
/-- A list that lies in the block that grew, no longer than what was there. -/
theorem PutAt.prefix {w w' : World} {v v' u : Value} {N c B g : Nat} {l : ActL} (h : PutAt w w' v v' N c 85) (hg : v.ownBlock = some g) (hu : u.ownBlock = some g) (hl : ActRow w B u l) (hc : l.length * 2 ≤ c) (hN : g < N) : ActRow w' B u l ∧ (v'.ownBlock = some g ∨ w'.heap[g]? = w.heap[g]?) := by
  rcases h with ⟨g0, cur, cur', h1, h2, h3, _, h5, h6, h7, h8⟩ | ⟨h1, h2, h3⟩
  · obtain rfl : g = g0 := by rw [hg] at h1; simpa using h1
    refine ⟨⟨hl.1, ?_⟩, Or.inl h2⟩
    rcases hl.2 with ⟨rfl, h0⟩ | ⟨g', cap, cu, rfl, hb, hh, hn, hm, hs, ht⟩
    · cases hu
    · obtain rfl : g' = g := by simpa [Value.ownBlock] using hu
      rw [hh] at h5
      obtain rfl : cu = cur := by simpa using h5
      refine Or.inr ⟨g', cap, cur', rfl, hb, h6, hn, hm, by rw [h7]; exact hs, ?_⟩
      have := congrArg (List.take (l.length * 2)) h8
      rw [List.take_take, List.take_take, Nat.min_eq_left hc] at this
      rw [this]; exact ht
  · have hk : w'.heap[g]? = w.heap[g]? := h2.block g (by have := hl.lt hu; exact this) (fun e => by cases e)
    exact ⟨rowAt hl (fun q hq => by rw [hu] at hq; obtain rfl := Option.some.inj hq; exact hk), Or.inr hk⟩
/-- One more is held. -/
theorem HX.push {B : Nat} {rho : Nat → Nat} {vh vh' : Value} {es : List Ent} {wx w1 w2 : World} {v m : Value} {l : ActL} (h : HX B rho vh es wx) (hB : B ≤ wx.heap.size) (ha : AskR wx v m l w1)
    (hr : HRow w2 B vh' ((es.map fun y => (y.v, y.m)) ++ [(v, m)])) {c : Nat} {et : TypeId} (hp : PutAt (w1.alloc (.cells #[v, m] 98)) w2 vh vh' (w1.heap.size + 1) c et) :
    ∃ rho', HX B rho' vh' (es ++ [⟨v, m, l, l⟩]) w2 := by
  obtain ⟨mid, hm1, hm2⟩ := ha.apart
  have hz := ha.bel.size
  have hlt := fun g hg => (World.ownsRow.lt h.row g hg).2
  have hkeep : ∀ g, g < w1.heap.size → vh.ownBlock ≠ some g → w2.heap[g]? = w1.heap[g]? := fun g hg hn => by
    rw [hp.old (by simp; omega) hn]
    exact Below.heap_alloc w1 _ g hg
  refine ⟨fun g => if g < wx.heap.size then rho g else if v.ownBlock = some g then 4 + 2 * es.length else if m.ownBlock = some g then 5 + 2 * es.length else 1, by rw [List.map_append]; exact hr, fun g hg => ?_, fun i y hy => ?_, fun i y hy => ?_⟩
  · rcases hp with ⟨g0, _, _, h1, h2, _, _⟩ | ⟨h1, _, _⟩
    · obtain rfl : g = g0 := by rw [h2] at hg; simpa using hg.symm
      rw [if_pos (hlt g h1)]; exact h.rr g h1
    · obtain rfl : g = w1.heap.size + 1 := by rw [h1] at hg; simpa using hg.symm
      rw [if_neg (by omega), if_neg (fun e => by have := ha.one.lt e; omega), if_neg (fun e => by have := ha.two.lt e; omega)]
  · rcases Nat.lt_or_ge i es.length with hi | hi
    · rw [List.getElem?_append_left hi] at hy
      obtain ⟨r1, r2, r3⟩ := h.el i y hy
      refine ⟨rowAt (r1.below ha.bel) (fun g hg => hkeep g (by have := r1.lt hg; omega) (fun e => ?_)), fun g hg => ?_, r3⟩
      · have a1 := h.rr g e; have a2 := r2 g hg; omega
      · rw [if_pos (r1.lt hg)]; exact r2 g hg
    · obtain rfl : i = es.length := by
        have := (List.getElem?_eq_some_iff.1 hy).1
        simp at this; omega
      obtain rfl : y = ⟨v, m, l, l⟩ := by simpa using hy.symm
      refine ⟨rowAt (ha.one.mono hB) (fun g hg => hkeep g (ha.one.lt hg) (fun e => ?_)), fun g hg => ?_, ha.len⟩
      · have a1 := hlt g e; have a2 := ha.one.ne hg; omega
      · rw [if_neg (by have := ha.one.ne hg; omega), if_pos hg]
  · rcases Nat.lt_or_ge i es.length with hi | hi
    · rw [List.getElem?_append_left hi] at hy
      obtain ⟨r1, r2⟩ := h.em i y hy
      refine ⟨rowAt (r1.below ha.bel) (fun g hg => hkeep g (by have := r1.lt hg; omega) (fun e => ?_)), fun g hg => ?_⟩
      · have a1 := h.rr g e; have a2 := r2 g hg; omega
      · rw [if_pos (r1.lt hg)]; exact r2 g hg
    · obtain rfl : i = es.length := by
        have := (List.getElem?_eq_some_iff.1 hy).1
        simp at this; omega
      obtain rfl : y = ⟨v, m, l, l⟩ := by simpa using hy.symm
      refine ⟨rowAt (ha.two.mono hB) (fun g hg => hkeep g (ha.two.lt hg) (fun e => ?_)), fun g hg => ?_⟩
      · have a1 := hlt g e; have a2 := ha.two.ne hg; omega
      · rw [if_neg (by have := ha.two.ne hg; omega), if_neg (fun e => by have a1 := hm1 g e; have a2 := hm2 g hg; omega), if_pos hg]
theorem aflat_set : ∀ (l : ActL) (k : Nat) (z : Int × ByteArray), ((l.flatMap acells).set (k * 2) (.int .i64 z.1)).set (k * 2 + 1) (.string z.2) = (l.set k z).flatMap acells
  | [], k, z => by simp
  | y :: r, 0, z => by simp [List.flatMap_cons, acells]
  | y :: r, k + 1, z => by
    have h := aflat_set r k z
    rw [List.set_cons_succ, List.flatMap_cons, List.flatMap_cons, ← h]
    have e : (k + 1) * 2 = k * 2 + 1 + 1 := by omega
    rw [e]
    simp [acells]
/-- An act of the i-th list is written over. -/
theorem HX.write {B : Nat} {rho : Nat → Nat} {vh : Value} {es : List Ent} {wx : World} {i k g n cap : Nat} {y : Ent} (z : Int × ByteArray) (h : HX B rho vh es wx) (hy : es[i]? = some y) (hv : y.v = .slice (some ⟨g, 0, none⟩) n cap) :
    HX B rho vh (es.set i { y with l := y.l.set k z }) ((wx.setCell ⟨g, k * 2, none⟩ (.int .i64 z.1)).setCell ⟨g, k * 2 + 1, none⟩ (.string z.2)) := by
  obtain ⟨r1, r2, r3⟩ := h.el i y hy
  have hr1 := r1
  unfold ActRow at r1
  have hn : n = y.l.length := by
    obtain ⟨a, c, e, _⟩ := hr1.isSlice
    rw [hv] at e
    simp at e
    exact e.2.1
  rw [hv, ← hn] at r1
  obtain ⟨s1, g1⟩ := World.ownsRow.stored r1 (k * 2) (.int .i64 z.1)
  obtain ⟨s2, g2⟩ := World.ownsRow.stored s1 (k * 2 + 1) (.string z.2)
  rw [aflat_set] at s2
  have hgr : rho g = 4 + 2 * i := r2 g (by rw [hv]; rfl)
  have hoff : ∀ q, q < wx.heap.size → q ≠ g → ((wx.setCell ⟨g, k * 2, none⟩ (.int .i64 z.1)).setCell ⟨g, k * 2 + 1, none⟩ (.string z.2)).heap[q]? = wx.heap[q]? := fun q hq hne => by
    rw [g2.block q (by simpa using hq) (fun e => hne (by simpa using e)), g1.block q hq (fun e => hne (by simpa using e))]
  have hmap : (es.set i { y with l := y.l.set k z }).map (fun y => (y.v, y.m)) = es.map fun y => (y.v, y.m) := by
    rw [List.map_set]
    apply List.ext_getElem?
    intro j
    rw [List.getElem?_set]
    split
    · rename_i e
      subst e
      split
      · rw [List.getElem?_map, hy]; rfl
      · rename_i hlt
        rw [List.getElem?_eq_none (by simpa using hlt)]
    · rfl
  refine ⟨by rw [hmap]; exact ownAt h.row (fun q hq => hoff q (World.ownsRow.lt h.row q hq).2 (fun e => by subst e; have := h.rr _ hq; omega)), h.rr, fun j x hx => ?_, fun j x hx => ?_⟩
  · rw [List.getElem?_set] at hx
    split at hx
    · rename_i e
      subst e
      split at hx
      · obtain rfl := Option.some.inj hx
        refine ⟨?_, r2, by simpa using r3⟩
        show ActRow _ B y.v (y.l.set k z)
        unfold ActRow
        rw [hv, List.length_set, ← hn]
        exact s2
      · cases hx
    · rename_i hne
      obtain ⟨q1, q2, q3⟩ := h.el j x hx
      exact ⟨rowAt q1 (fun q hq => hoff q (q1.lt hq) (fun e => by subst e; have := q2 _ hq; omega)), q2, q3⟩
  · have key : ∀ x', es[j]? = some x' → ActRow ((wx.setCell ⟨g, k * 2, none⟩ (.int .i64 z.1)).setCell ⟨g, k * 2 + 1, none⟩ (.string z.2)) B x'.m x'.k ∧ ∀ g, x'.m.ownBlock = some g → rho g = 5 + 2 * j := fun x' hx' => by
      obtain ⟨q1, q2⟩ := h.em j x' hx'
      exact ⟨rowAt q1 (fun q hq => hoff q (q1.lt hq) (fun e => by subst e; have := q2 _ hq; omega)), q2⟩
    rw [List.getElem?_set] at hx
    split at hx
    · rename_i e
      subst e
      split at hx
      · obtain rfl := Option.some.inj hx
        exact key y hy
      · cases hx
    · exact key x hx
end Go.Proofs.YtjmjimbhoncidaaDoor
