/-
  The program's standing, whole; Due, Heard as the document says them.
-/
import Derived.Test.YtkngafnfenmfeaaDoorDcPl
import Derived.Test.YtkngafnfenmfeaaDoorDcOpen
import Derived.Shelf.Abstract
namespace Go.Proofs.YtkngafnfenmfeaaDoor
open Go.RowKit

theorem en_1 : Enters Tryd.prog 100 := enters_of Tryd.func100 (by kernel_rfl) rfl
theorem en_2 : Enters Tryd.prog 101 := enters_of Tryd.func101 (by kernel_rfl) rfl
theorem en_3 : Enters Tryd.prog 104 := enters_of Tryd.func104 (by kernel_rfl) rfl
theorem en_4 : Enters Tryd.prog 106 := enters_of Tryd.func106 (by kernel_rfl) rfl
theorem en_5 : Enters Tryd.prog 110 := enters_of Tryd.func110 (by kernel_rfl) rfl
theorem en_ahead : Enters Tryd.prog 102 := enters_of Tryd.func102 (by kernel_rfl) rfl
theorem en_behind : Enters Tryd.prog 105 := enters_of Tryd.func105 (by kernel_rfl) rfl
theorem en_again : Enters Tryd.prog 103 := enters_of Tryd.func103 (by kernel_rfl) rfl
theorem en_closed : Enters Tryd.prog 107 := enters_of Tryd.func107 (by kernel_rfl) rfl
theorem en_strange : Enters Tryd.prog 108 := enters_of Tryd.func108 (by kernel_rfl) rfl
theorem en_stay : Enters Tryd.prog 109 := enters_of Tryd.func109 (by kernel_rfl) rfl
/-- standing that answers a state. -/
def StOk (e : Bool) (a p st lf : Int) (f h d : FuncId) (w : World) : Prop := ∀ x, Below w.heap.size w x → Calls Tryd.prog 69 #[.agg #[.bool e, .int .i64 a, .int .i64 p], .agg #[.int .i64 st, .int .i64 lf]] x fun r x' => r = .returned (.tuple #[.agg #[.bool (caB e a), .bool (aaB e p), .bool (earB e a p (caB e a))], .agg #[.func (.func f) #[] #[], .func (.func h) #[] #[], .func (.func d) #[] #[]], .nilIface]) ∧ Below x.heap.size x x'
def StNo (e : Bool) (a p st lf cd : Int) (w : World) : Prop := ∀ x, Below w.heap.size w x → Calls Tryd.prog 69 #[.agg #[.bool e, .int .i64 a, .int .i64 p], .agg #[.int .i64 st, .int .i64 lf]] x (StE cd x)
section
variable {e : Bool} {a p lf : Int} {w : World} (hV : PVc w) (ok : okB e a p = true) (lk : decide (0 ≤ lf ∧ lf ≤ 16) = true)
include hV ok lk
theorem st_1 (h : caB e a = true) : StOk e a p 1 lf 101 102 103 w := fun x hx => standing_at e a p 1 lf _ _ _ true x (hV.below hx) ok (by decide) (by decide) lk idx_1 en_2 (fun y => by have := pfit_1 (caB e a) (aaB e p) (earB e a p (caB e a)) y; rw [h] at this ⊢; exact this)
theorem no_1 (h : caB e a = false) : StNo e a p 1 lf 222 w := fun x hx => standing_at e a p 1 lf _ _ _ false x (hV.below hx) ok (by decide) (by decide) lk idx_1 en_2 (fun y => by have := pfit_1 (caB e a) (aaB e p) (earB e a p (caB e a)) y; rw [h] at this ⊢; exact this)
theorem st_2 (h : aaB e p = true) : StOk e a p 2 lf 104 105 103 w := fun x hx => standing_at e a p 2 lf _ _ _ true x (hV.below hx) ok (by decide) (by decide) lk idx_2 en_3 (fun y => by have := pfit_2 (caB e a) (aaB e p) (earB e a p (caB e a)) y; rw [h] at this ⊢; exact this)
theorem no_2 (h : aaB e p = false) : StNo e a p 2 lf 222 w := fun x hx => standing_at e a p 2 lf _ _ _ false x (hV.below hx) ok (by decide) (by decide) lk idx_2 en_3 (fun y => by have := pfit_2 (caB e a) (aaB e p) (earB e a p (caB e a)) y; rw [h] at this ⊢; exact this)
theorem st_3 (h : earB e a p (caB e a) = true) : StOk e a p 3 lf 106 105 107 w := fun x hx => standing_at e a p 3 lf _ _ _ true x (hV.below hx) ok (by decide) (by decide) lk idx_3 en_4 (fun y => by have := pfit_3 (caB e a) (aaB e p) (earB e a p (caB e a)) y; rw [h] at this ⊢; exact this)
theorem no_3 (h : earB e a p (caB e a) = false) : StNo e a p 3 lf 222 w := fun x hx => standing_at e a p 3 lf _ _ _ false x (hV.below hx) ok (by decide) (by decide) lk idx_3 en_4 (fun y => by have := pfit_3 (caB e a) (aaB e p) (earB e a p (caB e a)) y; rw [h] at this ⊢; exact this)
theorem st_4 : StOk e a p 4 lf 100 108 109 w := fun x hx => standing_at e a p 4 lf _ _ _ true x (hV.below hx) ok (by decide) (by decide) lk idx_4 en_1 (fun y => pfit_4 _ _ _ y)
theorem st_5 : StOk e a p 5 lf 100 108 109 w := fun x hx => standing_at e a p 5 lf _ _ _ true x (hV.below hx) ok (by decide) (by decide) lk idx_5 en_1 (fun y => pfit_4 _ _ _ y)
theorem st_6 (h : (caB e a || aaB e p) = true) : StOk e a p 6 lf 110 108 109 w := fun x hx => standing_at e a p 6 lf _ _ _ true x (hV.below hx) ok (by decide) (by decide) lk idx_6 en_5 (fun y => by have := pfit_6 (caB e a) (aaB e p) (earB e a p (caB e a)) y; rw [h] at this; exact this)
theorem no_6 (h : (caB e a || aaB e p) = false) : StNo e a p 6 lf 222 w := fun x hx => standing_at e a p 6 lf _ _ _ false x (hV.below hx) ok (by decide) (by decide) lk idx_6 en_5 (fun y => by have := pfit_6 (caB e a) (aaB e p) (earB e a p (caB e a)) y; rw [h] at this; exact this)
end
/-- A want that does not fit. -/
theorem st_bad {e : Bool} {a p st lf : Int} {w : World} (hV : PVc w) (ok : okB e a p = true) (hf : fitB e a p st lf = false) : StNo e a p st lf 222 w := by
  by_cases s1 : st < 1
  · exact fun x hx => standing_lo e a p st lf x (hV.below hx) ok s1
  by_cases s6 : st > 6
  · exact fun x hx => standing_hi e a p st lf x (hV.below hx) ok s1 s6
  cases lk : decide (0 ≤ lf ∧ lf ≤ 16) with
  | false => exact fun x hx => standing_lf e a p st lf x (hV.below hx) ok s1 s6 lk
  | true =>
    have lk' : 0 ≤ lf ∧ lf ≤ 16 := of_decide_eq_true lk
    unfold fitB at hf
    rw [show decide (1 ≤ st ∧ st ≤ 6 ∧ 0 ≤ lf ∧ lf ≤ 16) = true from decide_eq_true (by omega), Bool.true_and] at hf
    rcases (by omega : st = 1 ∨ st = 2 ∨ st = 3 ∨ st = 4 ∨ st = 5 ∨ st = 6) with rfl | rfl | rfl | rfl | rfl | rfl
    · exact no_1 hV ok lk (by simpa using hf)
    · exact no_2 hV ok lk (by simpa using hf)
    · exact no_3 hV ok lk (by simpa using hf)
    · simp at hf
    · simp at hf
    · exact no_6 hV ok lk (by simpa using hf)
theorem fit_of {e : Bool} {a p st lf : Int} (hf : fitB e a p st lf = true) : (1 ≤ st ∧ st ≤ 6 ∧ 0 ≤ lf ∧ lf ≤ 16) ∧ (if st = 1 then caB e a else if st = 2 then aaB e p else if st = 3 then earB e a p (caB e a) else if st = 6 then caB e a || aaB e p else true) = true := by
  unfold fitB at hf
  rw [Bool.and_eq_true] at hf
  exact ⟨of_decide_eq_true hf.1, hf.2⟩
theorem ev_ok (w : World) (a : Int) : Ev w .nilIface a 0 := Or.inl ⟨rfl, rfl⟩
theorem ev_no {w : World} {z : Nat} {a c : Int} (h : DFault w z a c) (hc : c ≠ 0) : Ev w (.iface 116 (.pointer (some ⟨z, 0, none⟩))) a c := Or.inr ⟨hc, z, rfl, h⟩
/-- An answer of acts, as the law asks it. -/
theorem pans {st lf : Int} {l : ActL} {w : World} {r : Ending} {w' : World} {n : Nat} (hn : l.length = n) (h : ∃ po cap, r = .returned (.tuple #[.agg #[.int .i64 st, .int .i64 lf], .slice po n cap, .nilIface]) ∧ ActRow w' w.heap.size (.slice po n cap) l ∧ Below w.heap.size w w') : PAnsQ ⟨st, lf, l, 0, 0⟩ w r w' := by
  subst hn
  obtain ⟨po, cap, h1, h2, h3⟩ := h
  exact ⟨_, _, h1, h2, ev_ok _ _, h3⟩
theorem pansE {w : World} {r : Ending} {w' : World} {at_ cd : Int} (hc : cd ≠ 0) (h : ∃ z, r = .returned (.tuple #[.agg #[.int .i64 0, .int .i64 0], .slice none 0 0, .iface 116 (.pointer (some ⟨z, 0, none⟩))]) ∧ DFault w' z at_ cd ∧ Below w.heap.size w w') : PAnsQ ⟨0, 0, [], at_, cd⟩ w r w' := by
  obtain ⟨z, h1, h2, h3⟩ := h
  exact ⟨_, _, h1, ActRow.nil _ _, ev_no h2 hc, h3⟩
theorem due_ok (e : Bool) (a p st lf : Int) (w : World) (hV : PVc w) : Calls Tryd.prog 43 #[.agg #[.bool e, .int .i64 a, .int .i64 p], .agg #[.int .i64 st, .int .i64 lf]] w (PAnsQ (dueS e a p st lf) w) := by
  unfold dueS
  cases ok : okB e a p with
  | false =>
    rw [if_pos rfl]
    exact (Due_e e a p st lf 220 w (fun x _ => standing_no e a p st lf x ok)).mono fun _ _ h => pansE (by decide) h
  | true =>
    rw [if_neg (by simp)]
    cases hf : fitB e a p st lf with
    | false =>
      rw [if_pos rfl]
      exact (Due_e e a p st lf 222 w (st_bad hV ok hf)).mono fun _ _ h => pansE (by decide) h
    | true =>
      rw [if_neg (by simp)]
      obtain ⟨⟨g1, g2, g3, g4⟩, hq⟩ := fit_of hf
      have lk : decide (0 ≤ lf ∧ lf ≤ 16) = true := decide_eq_true ⟨g3, g4⟩
      rcases (by omega : st = 1 ∨ st = 2 ∨ st = 3 ∨ st = 4 ∨ st = 5 ∨ st = 6) with rfl | rfl | rfl | rfl | rfl | rfl
      · rw [if_neg (by decide), if_neg (by decide)]
        by_cases h0 : 0 < lf
        · rw [if_pos h0]; exact (Due_ok e a p 1 lf _ _ _ _ _ _ 1 (lf - 1) [(1, nT), (2, nT)] w (st_1 hV ok lk (by simpa using hq)) en_again (fun x => again_1 1 lf x h0 g4)).mono fun _ _ h => pans rfl h
        · rw [if_neg h0]; obtain rfl : lf = 0 := by omega
          exact (Due_ok e a p 1 0 _ _ _ _ _ _ 6 0 [(4, nT)] w (st_1 hV ok lk (by simpa using hq)) en_again (fun x => again_0 1 x)).mono fun _ _ h => pans rfl h
      · rw [if_neg (by decide), if_neg (by decide)]
        by_cases h0 : 0 < lf
        · rw [if_pos h0]; exact (Due_ok e a p 2 lf _ _ _ _ _ _ 2 (lf - 1) [(1, nT), (2, nT)] w (st_2 hV ok lk (by simpa using hq)) en_again (fun x => again_1 2 lf x h0 g4)).mono fun _ _ h => pans rfl h
        · rw [if_neg h0]; obtain rfl : lf = 0 := by omega
          exact (Due_ok e a p 2 0 _ _ _ _ _ _ 6 0 [(4, nT)] w (st_2 hV ok lk (by simpa using hq)) en_again (fun x => again_0 2 x)).mono fun _ _ h => pans rfl h
      · rw [if_neg (by decide), if_pos rfl]
        exact (Due_ok e a p 3 lf _ _ _ _ _ _ 5 lf [(4, nT)] w (st_3 hV ok lk (by simpa using hq)) en_closed (fun x => closed_any 3 lf x)).mono fun _ _ h => pans rfl h
      · rw [if_pos (by decide)]
        exact (Due_ok e a p 4 lf _ _ _ _ _ _ 4 lf [] w (st_4 hV ok lk) en_stay (fun x => stay_any 4 lf x)).mono fun _ _ h => pans rfl h
      · rw [if_pos (by decide)]
        exact (Due_ok e a p 5 lf _ _ _ _ _ _ 5 lf [] w (st_5 hV ok lk) en_stay (fun x => stay_any 5 lf x)).mono fun _ _ h => pans rfl h
      · rw [if_pos (by decide)]
        exact (Due_ok e a p 6 lf _ _ _ _ _ _ 6 lf [] w (st_6 hV ok lk (by simpa using hq)) en_stay (fun x => stay_any 6 lf x)).mono fun _ _ h => pans rfl h
end Go.Proofs.YtkngafnfenmfeaaDoor
