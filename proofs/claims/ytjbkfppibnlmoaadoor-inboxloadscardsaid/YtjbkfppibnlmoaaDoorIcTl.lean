import Derived.Test.YtjbkfppibnlmoaaDoorIcHd
import Derived.Test.YtjbkfppibnlmoaaDoorIcHd2
import Derived.Test.YtjbkfppibnlmoaaDoorIbOpn
import Derived.Test.YtjbkfppibnlmoaaDoorIlBoth
/-
  The law's accepts.
-/
namespace Go.Proofs.YtjbkfppibnlmoaaDoor
open Go.RowKit

theorem blk_below {w w' : World} {q : Nat} {x : Obj} (h : w.heap[q]? = some x) (hb : Below w.heap.size w w') : w'.heap[q]? = some x := (hb.block q (blk_lt h)).trans h
theorem num_any (c : Int) (w : World) : Calls Tryd.prog 11 #[.int .i64 c] w fun r w' => r = .returned (.int .i64 c) ∧ w' = w := by
  go_enter Tryd.func11, Tryd.ntmps11
  go_wp2
  go_ret
  exact ⟨rfl, rfl⟩
theorem mkd_type {w : World} {B g n : Nat} {bs : List Int} (h : Mkd w B g n bs) : ∃ cs, w.heap[g]? = some (.cells cs 5 (0, 0)) := by
  rcases h.1.2 with ⟨e, _⟩ | ⟨g1, c1, u1, e, _, b1, _⟩
  · cases e
  · simp only [Value.slice.injEq, Option.some.injEq, Addr.mk.injEq] at e
    rw [e.1.1]
    exact ⟨_, b1⟩
section
variable {W w w' : World} {X K n C D E : Nat} {bv mk ke rm L : Value} {o : Option (Int × Int)} {A A' : List Ent}
theorem LS.within {P : Nat → Prop} (h : LS W X K bv mk ke rm L C D E o A A' n w) (ho : Off P w w') (hP : ∀ q, P q → (C ≤ q ∧ q < D ∧ q < E) ∧ ∃ cs, w.heap[q]? = some (.cells cs 5 (0, 0))) (hC : W.heap.size ≤ C) : LS W X K bv mk ke rm L C D E o A A' n w' :=
  ⟨h.offT ho fun q cs t hc ht hp => by
    obtain ⟨cs', hc'⟩ := (hP q hp).2
    rw [hc] at hc'
    simp only [Option.some.injEq, Obj.cells.injEq] at hc'
    exact nLB (hc'.2.1 ▸ ht), h.sd.within ho fun q hp => (hP q hp).1, h.bel.trans (ho.below h.bel.size fun q hp => Nat.le_trans hC (hP q hp).1.1), h.lX, h.lK⟩
theorem ev_keep {B : Nat} {ev : Value} {c : Int} (h : OEv w B ev 0 c) {N : Nat} (hN : w.heap.size = N) (hk : ∀ q, B ≤ q → q < N → w'.heap[q]? = w.heap[q]?) : OEv w' B ev 0 c :=
  h.keep fun b o' hl hB => World.cell?_of_block (w := w) (hk b hB (by rw [← hN]; exact hl))
end
end Go.Proofs.YtjbkfppibnlmoaaDoor

/-
  A list of entries that is handed in, each with its marks.
-/
namespace Go.Proofs.YtjbkfppibnlmoaaDoor.Lg
open Go.RowKit

/-- The entries as they are handed in: each list in a block of its own. -/
def hsL : List Ent → List (Nat × Nat × Nat) → List Ent
  | e :: es, g :: gs => e.hd g.1 g.2.1 g.2.2 :: hsL es gs
  | _, _ => []
theorem hsL_len : ∀ (es : List Ent) (gs : List (Nat × Nat × Nat)), es.length = gs.length → (hsL es gs).length = es.length
  | [], [], _ => rfl
  | e :: es, g :: gs, h => by
    simp only [hsL, List.length_cons]
    rw [hsL_len es gs (by simpa using h)]
  | [], g :: gs, h => by simp at h
  | e :: es, [], h => by simp at h
theorem hsL_get : ∀ (es : List Ent) (gs : List (Nat × Nat × Nat)) (k : Nat) (e : Ent) (g : Nat × Nat × Nat), es[k]? = some e → gs[k]? = some g → (hsL es gs)[k]? = some (e.hd g.1 g.2.1 g.2.2)
  | [], _, k, e, g, h, _ => by simp at h
  | _ :: _, [], k, e, g, _, h => by simp at h
  | e' :: es, g' :: gs, 0, e, g, h1, h2 => by
    simp only [List.getElem?_cons_zero, Option.some.injEq] at h1 h2
    subst h1
    subst h2
    rfl
  | e' :: es, g' :: gs, k + 1, e, g, h1, h2 => by
    rw [List.getElem?_cons_succ] at h1 h2
    simp only [hsL, List.getElem?_cons_succ]
    exact hsL_get es gs k e g h1 h2
theorem hsL_snoc : ∀ (es : List Ent) (gs : List (Nat × Nat × Nat)) (e : Ent) (g : Nat × Nat × Nat), es.length = gs.length → hsL (es ++ [e]) (gs ++ [g]) = hsL es gs ++ [e.hd g.1 g.2.1 g.2.2]
  | [], [], e, g, _ => rfl
  | x :: es, y :: gs, e, g, h => by
    simp only [List.cons_append, hsL]
    rw [hsL_snoc es gs e g (by simpa using h)]
  | [], y :: gs, e, g, h => by simp at h
  | x :: es, [], e, g, h => by simp at h
theorem hsL_tws {es : List Ent} {gs : List (Nat × Nat × Nat)} (h : es.length = gs.length) : Tws (hsL es gs) es := by
  refine ⟨hsL_len es gs h, fun k l m hl hm => ?_⟩
  obtain ⟨g, hg⟩ : ∃ g, gs[k]? = some g := ⟨_, List.getElem?_eq_getElem (by rw [← h]; exact (List.getElem?_eq_some_iff.1 hm).1)⟩
  rw [hsL_get es gs k m g hm hg] at hl
  obtain rfl := Option.some.inj hl
  exact Tw.symm ⟨_, _, _, _, _, _, rfl⟩
/-- Each with its marks, one behind the other. -/
structure HdsAt (w : World) (B : Nat) (es : List Ent) (gs : List (Nat × Nat × Nat)) (i : Nat) : Prop where
  len : es.length = gs.length
  hd : ∀ k e g, i ≤ k → es[k]? = some e → gs[k]? = some g → Hd w B g.1 g.2.1 g.2.2 e
  up : ∀ (k k' : Nat) (g g' : Nat × Nat × Nat), k < k' → gs[k]? = some g → gs[k']? = some g' → g.2.2 < g'.1
section
variable {w w' : World} {B i : Nat} {es : List Ent} {gs : List (Nat × Nat × Nat)}
theorem HdsAt.below (h : HdsAt w B es gs i) (hb : Below w.heap.size w w') : HdsAt w' B es gs i := ⟨h.len, fun k e g hk he hg => (h.hd k e g hk he hg).below hb, h.up⟩
theorem HdsAt.keep (h : HdsAt w B es gs i) (hk : ∀ q cs, B ≤ q → q < w.heap.size → w.heap[q]? = some (.cells cs 5 (0, 0)) → w'.heap[q]? = w.heap[q]?) : HdsAt w' B es gs i := ⟨h.len, fun k e g hik he hg => by
  have h1 := h.hd k e g hik he hg
  have key : ∀ {g n : Nat} {bs : List Int}, Mkd w B g n bs → Mkd w' B g n bs := fun {g n bs} hm => by
    obtain ⟨cs, hc⟩ := mkd_type hm
    exact hm.keep (hk g cs hm.lt.1 hm.lt.2 hc)
  exact ⟨key h1.t, key h1.c, key h1.a, h1.n1, h1.n2⟩, h.up⟩
theorem HdsAt.snoc {e : Ent} {g1 g2 g3 : Nat} (h : HdsAt w B es gs 0) (hB : B ≤ w.heap.size) (hd : Hd w' w.heap.size g1 g2 g3 e) (hb : Below w.heap.size w w') : HdsAt w' B (es ++ [e]) (gs ++ [(g1, g2, g3)]) 0 := by
  have hl := h.len
  have g0 : ∀ (k : Nat) (g : Nat × Nat × Nat), (gs ++ [(g1, g2, g3)])[k]? = some g → (k < gs.length ∧ gs[k]? = some g) ∨ (k = gs.length ∧ g = (g1, g2, g3)) := fun k g hg => by
    by_cases hk : k < gs.length
    · rw [List.getElem?_append_left hk] at hg; exact Or.inl ⟨hk, hg⟩
    · have := (List.getElem?_eq_some_iff.1 hg).1
      simp only [List.length_append, List.length_singleton] at this
      obtain rfl : k = gs.length := by omega
      rw [List.getElem?_append_right (Nat.le_refl _), Nat.sub_self] at hg
      simp only [List.getElem?_cons_zero, Option.some.injEq] at hg
      exact Or.inr ⟨rfl, hg.symm⟩
  refine ⟨by rw [List.length_append, List.length_append, hl]; rfl, fun k x g _ hx hg => ?_, fun k k' g g' hk hg hg' => ?_⟩
  · rcases g0 k g hg with ⟨hk, hg1⟩ | ⟨rfl, rfl⟩
    · rw [List.getElem?_append_left (by omega)] at hx
      exact (h.hd k x g (Nat.zero_le _) hx hg1).below hb
    · rw [List.getElem?_append_right (by omega), ← hl, Nat.sub_self] at hx
      simp only [List.getElem?_cons_zero, Option.some.injEq] at hx
      subst hx
      exact ⟨hd.t.base hB, hd.c.base hB, hd.a.base hB, hd.n1, hd.n2⟩
  · rcases g0 k g hg with ⟨hk1, hg1⟩ | ⟨rfl, rfl⟩ <;> rcases g0 k' g' hg' with ⟨hk2, hg2⟩ | ⟨rfl, rfl⟩
    · exact h.up k k' g g' hk hg1 hg2
    · obtain ⟨x, hx⟩ : ∃ x, es[k]? = some x := ⟨_, List.getElem?_eq_getElem (by omega)⟩
      have := (h.hd k x g (Nat.zero_le _) hx hg1).a.lt.2
      have := hd.t.lt.1
      show g.2.2 < g1
      omega
    · omega
    · omega
theorem HdsAt.lies (h : HdsAt w B es gs 0) : ∀ x ∈ hsL es gs, Lies w x := fun x hx => by
  obtain ⟨k, hk, rfl⟩ := List.getElem_of_mem hx
  rw [hsL_len es gs h.len] at hk
  have h1 := List.getElem?_eq_getElem hk
  have h2 := List.getElem?_eq_getElem (show k < gs.length by rw [← h.len]; exact hk)
  have h3 := hsL_get es gs k _ _ h1 h2
  rw [List.getElem?_eq_getElem (by rw [hsL_len es gs h.len]; exact hk)] at h3
  rw [Option.some.inj h3]
  exact (h.hd k _ _ (Nat.zero_le _) h1 h2).lies
theorem hs_keys (hl : es.length = gs.length) (hk : ∀ e ∈ es, KeyS e.ct) : ∀ x ∈ hsL es gs, KeyS x.ct := fun x hx => by
  obtain ⟨k, hk', rfl⟩ := List.getElem_of_mem hx
  rw [hsL_len es gs hl] at hk'
  have h1 := List.getElem?_eq_getElem hk'
  have h2 := List.getElem?_eq_getElem (show k < gs.length by rw [← hl]; exact hk')
  have h3 := hsL_get es gs k _ _ h1 h2
  rw [List.getElem?_eq_getElem (by rw [hsL_len es gs hl]; exact hk')] at h3
  rw [Option.some.inj h3]
  exact hk es[k] (List.getElem_mem hk')
end
theorem DB.form {w : World} {B : Nat} {mk ke rm L : Value} {es : List Ent} {o : Option (Int × Int)} (h : DB w B mk ke rm L es o) : ∃ k0 r0 la ln lc, mk = .bool o.isSome ∧ ke = .int .i64 k0 ∧ rm = .int .i64 r0 ∧ L = .slice la ln lc := by
  rcases o with _ | ⟨K, R⟩
  · obtain ⟨h1, h2, h3, h4⟩ := h
    exact ⟨0, 0, none, 0, 0, h1, h2, h3, h4⟩
  · obtain ⟨h1, h2, h3, ls, h4, _⟩ := h
    obtain ⟨a, c, e, _⟩ := ERow.isSlice h4
    exact ⟨K, R, a, _, c, h1, h2, h3, e⟩
end Go.Proofs.YtjbkfppibnlmoaaDoor.Lg

/-
  The law's decides.
-/
namespace Go.Proofs.YtjbkfppibnlmoaaDoor
open Go.RowKit

section
variable {W w w' : World} {X K n C D E : Nat} {bv mk ke rm L : Value} {o : Option (Int × Int)} {A A' : List Ent}
end
end Go.Proofs.YtjbkfppibnlmoaaDoor

/-
  The law's finds and tells.
-/
namespace Go.Proofs.YtjbkfppibnlmoaaDoor
open Go.RowKit

theorem blk_new {w : World} {q : Nat} {x x' : Obj} (h : q = w.heap.size) (e : x = x') : (w.alloc x).heap[q]? = some x' := by
  subst h
  subst e
  exact heap_alloc_new _ _
theorem ent_kp {w w' : World} {q : Nat} {cs : Array Value} (h : w.heap[q]? = some (.cells cs 30 (0, 0))) (hk : Kp w w') : w'.heap[q]? = some (.cells cs 30 (0, 0)) := hk.2 q cs _ h nLE
section
variable {W w w' : World} {X K n C D E : Nat} {bv mk ke rm L : Value} {o : Option (Int × Int)} {A A' : List Ent}
end
end Go.Proofs.YtjbkfppibnlmoaaDoor
