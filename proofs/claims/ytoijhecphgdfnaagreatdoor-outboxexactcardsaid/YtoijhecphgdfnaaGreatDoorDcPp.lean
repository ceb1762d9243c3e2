import Derived.Test.YtoijhecphgdfnaaGreatDoorDcPl
import Derived.Test.YtoijhecphgdfnaaGreatDoorDcPa
import Derived.Shelf.Abstract
/-
  The program's standing, whole; Due, Heard as the document says them.
-/
namespace Go.Proofs.YtoijhecphgdfnaaGreatDoor
open Go.RowKit

theorem en_1 : Enters Tryz.prog 112 := enters_of Tryz.func112 (by kernel_rfl) rfl
theorem en_2 : Enters Tryz.prog 113 := enters_of Tryz.func113 (by kernel_rfl) rfl
theorem en_3 : Enters Tryz.prog 116 := enters_of Tryz.func116 (by kernel_rfl) rfl
theorem en_4 : Enters Tryz.prog 118 := enters_of Tryz.func118 (by kernel_rfl) rfl
theorem en_5 : Enters Tryz.prog 122 := enters_of Tryz.func122 (by kernel_rfl) rfl
theorem en_ahead : Enters Tryz.prog 114 := enters_of Tryz.func114 (by kernel_rfl) rfl
theorem en_behind : Enters Tryz.prog 117 := enters_of Tryz.func117 (by kernel_rfl) rfl
theorem en_again : Enters Tryz.prog 115 := enters_of Tryz.func115 (by kernel_rfl) rfl
theorem en_closed : Enters Tryz.prog 119 := enters_of Tryz.func119 (by kernel_rfl) rfl
theorem en_strange : Enters Tryz.prog 120 := enters_of Tryz.func120 (by kernel_rfl) rfl
theorem en_stay : Enters Tryz.prog 121 := enters_of Tryz.func121 (by kernel_rfl) rfl
/-- standing that answers a state. -/
def StOk (e : Bool) (a p st lf : Int) (f h d : FuncId) (w : World) : Prop := ∀ x, Below w.heap.size w x → Calls Tryz.prog 95 #[.agg #[.bool e, .int .i64 a, .int .i64 p], .agg #[.int .i64 st, .int .i64 lf]] x fun r x' => r = .returned (.tuple #[.agg #[.bool (caB e a), .bool (aaB e p), .bool (earB e a p (caB e a))], .agg #[.func (.func f) #[] #[], .func (.func h) #[] #[], .func (.func d) #[] #[]], .nilIface]) ∧ Below x.heap.size x x'
def StNo (e : Bool) (a p st lf cd : Int) (w : World) : Prop := ∀ x, Below w.heap.size w x → Calls Tryz.prog 95 #[.agg #[.bool e, .int .i64 a, .int .i64 p], .agg #[.int .i64 st, .int .i64 lf]] x (StE cd x)
section
variable {e : Bool} {a p lf : Int} {w : World} (hV : PVc w) (ok : okB e a p = true) (lk : decide (0 ≤ lf ∧ lf ≤ 16) = true)
include hV ok lk
theorem st_1 (h : caB e a = true) : StOk e a p 1 lf 113 114 115 w := fun x hx => standing_at e a p 1 lf _ _ _ true x (hV.below hx) ok (by decide) (by decide) lk idx_1 en_2 (fun y => by have := pfit_1 (caB e a) (aaB e p) (earB e a p (caB e a)) y; rw [h] at this ⊢; exact this)
theorem no_1 (h : caB e a = false) : StNo e a p 1 lf 222 w := fun x hx => standing_at e a p 1 lf _ _ _ false x (hV.below hx) ok (by decide) (by decide) lk idx_1 en_2 (fun y => by have := pfit_1 (caB e a) (aaB e p) (earB e a p (caB e a)) y; rw [h] at this ⊢; exact this)
theorem st_2 (h : aaB e p = true) : StOk e a p 2 lf 116 117 115 w := fun x hx => standing_at e a p 2 lf _ _ _ true x (hV.below hx) ok (by decide) (by decide) lk idx_2 en_3 (fun y => by have := pfit_2 (caB e a) (aaB e p) (earB e a p (caB e a)) y; rw [h] at this ⊢; exact this)
theorem no_2 (h : aaB e p = false) : StNo e a p 2 lf 222 w := fun x hx => standing_at e a p 2 lf _ _ _ false x (hV.below hx) ok (by decide) (by decide) lk idx_2 en_3 (fun y => by have := pfit_2 (caB e a) (aaB e p) (earB e a p (caB e a)) y; rw [h] at this ⊢; exact this)
theorem st_3 (h : earB e a p (caB e a) = true) : StOk e a p 3 lf 118 117 119 w := fun x hx => standing_at e a p 3 lf _ _ _ true x (hV.below hx) ok (by decide) (by decide) lk idx_3 en_4 (fun y => by have := pfit_3 (caB e a) (aaB e p) (earB e a p (caB e a)) y; rw [h] at this ⊢; exact this)
theorem no_3 (h : earB e a p (caB e a) = false) : StNo e a p 3 lf 222 w := fun x hx => standing_at e a p 3 lf _ _ _ false x (hV.below hx) ok (by decide) (by decide) lk idx_3 en_4 (fun y => by have := pfit_3 (caB e a) (aaB e p) (earB e a p (caB e a)) y; rw [h] at this ⊢; exact this)
theorem st_4 : StOk e a p 4 lf 112 120 121 w := fun x hx => standing_at e a p 4 lf _ _ _ true x (hV.below hx) ok (by decide) (by decide) lk idx_4 en_1 (fun y => pfit_4 _ _ _ y)
theorem st_5 : StOk e a p 5 lf 112 120 121 w := fun x hx => standing_at e a p 5 lf _ _ _ true x (hV.below hx) ok (by decide) (by decide) lk idx_5 en_1 (fun y => pfit_4 _ _ _ y)
theorem st_6 (h : (caB e a || aaB e p) = true) : StOk e a p 6 lf 122 120 121 w := fun x hx => standing_at e a p 6 lf _ _ _ true x (hV.below hx) ok (by decide) (by decide) lk idx_6 en_5 (fun y => by have := pfit_6 (caB e a) (aaB e p) (earB e a p (caB e a)) y; rw [h] at this; exact this)
theorem no_6 (h : (caB e a || aaB e p) = false) : StNo e a p 6 lf 222 w := fun x hx => standing_at e a p 6 lf _ _ _ false x (hV.below hx) ok (by decide) (by decide) lk idx_6 en_5 (fun y => by have := pfit_6 (caB e a) (aaB e p) (earB e a p (caB e a)) y; rw [h] at this; exact this)
end
/-- A want that does not fit. -/
theorem st_bad {e : Bool} {a p st lf : Int} {w : World} (hV : PVc w) (ok : okB e a p = true) (hf : fitB e a p st lf = false) : StNo e a p st lf 222 w := by
  by_cases s1 : st < 1
  · exact fun x hx => standing_lo e a p st lf x (hV.below hx) ok s1
  by_cases s6 : st > 6
  · exact fun x hx => standing_hi e a p st lf x (hV.below hx) ok s1 s6
  cases lk : decide (0 ≤ lf ∧ lf ≤ 16) with
  | false => exact fun x hx => standing_lf e a p st lf x (hV.below hx) ok s1 s6 lk
  | true =>
    have lk' : 0 ≤ lf ∧ lf ≤ 16 := of_decide_eq_true lk
    unfold fitB at hf
    rw [show decide (1 ≤ st ∧ st ≤ 6 ∧ 0 ≤ lf ∧ lf ≤ 16) = true from decide_eq_true (by omega), Bool.true_and] at hf
    rcases (by omega : st = 1 ∨ st = 2 ∨ st = 3 ∨ st = 4 ∨ st = 5 ∨ st = 6) with rfl | rfl | rfl | rfl | rfl | rfl
    · exact no_1 hV ok lk (by simpa using hf)
    · exact no_2 hV ok lk (by simpa using hf)
    · exact no_3 hV ok lk (by simpa using hf)
    · simp at hf
    · simp at hf
    · exact no_6 hV ok lk (by simpa using hf)
theorem fit_of {e : Bool} {a p st lf : Int} (hf : fitB e a p st lf = true) : (1 ≤ st ∧ st ≤ 6 ∧ 0 ≤ lf ∧ lf ≤ 16) ∧ (if st = 1 then caB e a else if st = 2 then aaB e p else if st = 3 then earB e a p (caB e a) else if st = 6 then caB e a || aaB e p else true) = true := by
  unfold fitB at hf
  rw [Bool.and_eq_true] at hf
  exact ⟨of_decide_eq_true hf.1, hf.2⟩
theorem ev_ok (w : World) (a : Int) : Ev w .nilIface a 0 := Or.inl ⟨rfl, rfl⟩
theorem ev_no {w : World} {z : Nat} {a c : Int} (h : DFault w z a c) (hc : c ≠ 0) : Ev w (.iface 122 (.pointer (some ⟨z, 0, none⟩))) a c := Or.inr ⟨hc, z, rfl, h⟩
/-- An answer of acts, as the law asks it. -/
theorem pans {st lf : Int} {l : ActL} {w : World} {r : Ending} {w' : World} {n : Nat} (hn : l.length = n) (h : ∃ po cap, r = .returned (.tuple #[.agg #[.int .i64 st, .int .i64 lf], .slice po n cap, .nilIface]) ∧ ActRow w' w.heap.size (.slice po n cap) l ∧ Below w.heap.size w w') : PAnsQ ⟨st, lf, l, 0, 0⟩ w r w' := by
  subst hn
  obtain ⟨po, cap, h1, h2, h3⟩ := h
  exact ⟨_, _, h1, h2, ev_ok _ _, h3⟩
theorem pansE {w : World} {r : Ending} {w' : World} {at_ cd : Int} (hc : cd ≠ 0) (h : ∃ z, r = .returned (.tuple #[.agg #[.int .i64 0, .int .i64 0], .slice none 0 0, .iface 122 (.pointer (some ⟨z, 0, none⟩))]) ∧ DFault w' z at_ cd ∧ Below w.heap.size w w') : PAnsQ ⟨0, 0, [], at_, cd⟩ w r w' := by
  obtain ⟨z, h1, h2, h3⟩ := h
  exact ⟨_, _, h1, ActRow.nil _ _, ev_no h2 hc, h3⟩
theorem due_ok (e : Bool) (a p st lf : Int) (w : World) (hV : PVc w) : Calls Tryz.prog 66 #[.agg #[.bool e, .int .i64 a, .int .i64 p], .agg #[.int .i64 st, .int .i64 lf]] w (PAnsQ (dueS e a p st lf) w) := by
  unfold dueS
  cases ok : okB e a p with
  | false =>
    rw [if_pos rfl]
    exact (Due_e e a p st lf 220 w (fun x _ => standing_no e a p st lf x ok)).mono fun _ _ h => pansE (by decide) h
  | true =>
    rw [if_neg (by simp)]
    cases hf : fitB e a p st lf with
    | false =>
      rw [if_pos rfl]
      exact (Due_e e a p st lf 222 w (st_bad hV ok hf)).mono fun _ _ h => pansE (by decide) h
    | true =>
      rw [if_neg (by simp)]
      obtain ⟨⟨g1, g2, g3, g4⟩, hq⟩ := fit_of hf
      have lk : decide (0 ≤ lf ∧ lf ≤ 16) = true := decide_eq_true ⟨g3, g4⟩
      rcases (by omega : st = 1 ∨ st = 2 ∨ st = 3 ∨ st = 4 ∨ st = 5 ∨ st = 6) with rfl | rfl | rfl | rfl | rfl | rfl
      · rw [if_neg (by decide), if_neg (by decide)]
        by_cases h0 : 0 < lf
        · rw [if_pos h0]; exact (Due_ok e a p 1 lf _ _ _ _ _ _ 1 (lf - 1) [(1, nT), (2, nT)] w (st_1 hV ok lk (by simpa using hq)) en_again (fun x => again_1 1 lf x h0 g4)).mono fun _ _ h => pans rfl h
        · rw [if_neg h0]; obtain rfl : lf = 0 := by omega
          exact (Due_ok e a p 1 0 _ _ _ _ _ _ 6 0 [(4, nT)] w (st_1 hV ok lk (by simpa using hq)) en_again (fun x => again_0 1 x)).mono fun _ _ h => pans rfl h
      · rw [if_neg (by decide), if_neg (by decide)]
        by_cases h0 : 0 < lf
        · rw [if_pos h0]; exact (Due_ok e a p 2 lf _ _ _ _ _ _ 2 (lf - 1) [(1, nT), (2, nT)] w (st_2 hV ok lk (by simpa using hq)) en_again (fun x => again_1 2 lf x h0 g4)).mono fun _ _ h => pans rfl h
        · rw [if_neg h0]; obtain rfl : lf = 0 := by omega
          exact (Due_ok e a p 2 0 _ _ _ _ _ _ 6 0 [(4, nT)] w (st_2 hV ok lk (by simpa using hq)) en_again (fun x => again_0 2 x)).mono fun _ _ h => pans rfl h
      · rw [if_neg (by decide), if_pos rfl]
        exact (Due_ok e a p 3 lf _ _ _ _ _ _ 5 lf [(4, nT)] w (st_3 hV ok lk (by simpa using hq)) en_closed (fun x => closed_any 3 lf x)).mono fun _ _ h => pans rfl h
      · rw [if_pos (by decide)]
        exact (Due_ok e a p 4 lf _ _ _ _ _ _ 4 lf [] w (st_4 hV ok lk) en_stay (fun x => stay_any 4 lf x)).mono fun _ _ h => pans rfl h
      · rw [if_pos (by decide)]
        exact (Due_ok e a p 5 lf _ _ _ _ _ _ 5 lf [] w (st_5 hV ok lk) en_stay (fun x => stay_any 5 lf x)).mono fun _ _ h => pans rfl h
      · rw [if_pos (by decide)]
        exact (Due_ok e a p 6 lf _ _ _ _ _ _ 6 lf [] w (st_6 hV ok lk (by simpa using hq)) en_stay (fun x => stay_any 6 lf x)).mono fun _ _ h => pans rfl h
end Go.Proofs.YtoijhecphgdfnaaGreatDoor

/-
  The program's Heard as the document says it.
-/
namespace Go.Proofs.YtoijhecphgdfnaaGreatDoor
open Go.RowKit

theorem h_two {e : Bool} {a p st lf : Int} {s : ByteArray} {n : Bool} {f h d : FuncId} {w : World} {x : Ans} (hV : PVc w) (hs : StOk e a p st lf f h d w) (hen : Enters Tryz.prog h)
    (hx : sentB e a p s = true → ∃ st' lf' l, x = ⟨st', lf', l, 0, 0⟩ ∧ ∀ y, Calls Tryz.prog h #[.agg #[.bool (caB e a), .bool (aaB e p), .bool (earB e a p (caB e a))], .agg #[.int .i64 st, .int .i64 lf], .agg #[.string s, .bool n]] y (WQ st' lf' l y))
    (hy : sentB e a p s = false → x = ⟨st, lf, [(6, nT)], 0, 0⟩) : Calls Tryz.prog 64 #[.agg #[.bool e, .int .i64 a, .int .i64 p], .agg #[.int .i64 st, .int .i64 lf], .string s, .bool n] w (PAnsQ x w) := by
  cases hm : sentB e a p s with
  | true =>
    obtain ⟨st', lf', l, rfl, hd⟩ := hx hm
    exact (Heard_ok e a p st lf s n _ _ _ _ _ _ st' lf' l w hV hs hen hd hm).mono fun _ _ h => pans rfl h
  | false =>
    rw [hy hm]
    exact (Heard_s e a p st lf s n _ _ _ _ _ _ w hV hs hm).mono fun _ _ h => pans rfl h
theorem heard_ok (e : Bool) (a p st lf : Int) (s : ByteArray) (n : Bool) (w : World) (hV : PVc w) : Calls Tryz.prog 64 #[.agg #[.bool e, .int .i64 a, .int .i64 p], .agg #[.int .i64 st, .int .i64 lf], .string s, .bool n] w (PAnsQ (heardS e a p st lf s n) w) := by
  cases ok : okB e a p with
  | false =>
    unfold heardS
    rw [ok, if_pos rfl]
    exact (Heard_e e a p st lf s n 220 w (fun x _ => standing_no e a p st lf x ok)).mono fun _ _ h => pansE (by decide) h
  | true =>
    cases hf : fitB e a p st lf with
    | false =>
      unfold heardS
      rw [ok, hf, if_neg (by simp), if_pos rfl]
      exact (Heard_e e a p st lf s n 222 w (st_bad hV ok hf)).mono fun _ _ h => pansE (by decide) h
    | true =>
      have hS : heardS e a p st lf s n = (if (decide (4 ≤ st) || !sentB e a p s) = true then ⟨st, lf, [(6, nT)], 0, 0⟩ else
        if (s.toList == [67, 65]) = true then (if st = 1 then (if aaB e p = true then ⟨2, lf, [(3, nT)], 0, 0⟩ else if p = 2 then ⟨3, lf, [(3, nT), (2, nT)], 0, 0⟩ else ⟨4, lf, [(4, kCA)], 0, 0⟩) else ⟨st, lf, [], 0, 0⟩)
        else if numB s n = true then (if (caB e a && !decide (st = 1)) = true then ⟨st, lf, [(6, nT)], 0, 0⟩ else if 0 < lf then ⟨st, lf - 1, [(5, nT), (1, nT), (2, nT)], 0, 0⟩ else ⟨4, lf, [(4, s)], 0, 0⟩)
        else ⟨4, lf, [(4, s)], 0, 0⟩) := by
        unfold heardS numB
        rw [ok, hf, if_neg (by simp), if_neg (by simp)]
      obtain ⟨⟨g1, g2, g3, g4⟩, hq⟩ := fit_of hf
      have lk : decide (0 ≤ lf ∧ lf ≤ 16) = true := decide_eq_true ⟨g3, g4⟩
      have hca : (s.toList == [67, 65]) = true → s = kCA := fun g => by
        rcases code_cases s with h | h | h | h | h | h | ⟨h, _⟩
        · exact h
        all_goals first | (subst h; simp [Lib.toList_data] at g; done) | (rw [h.h1] at g; cases g)
      rw [hS]
      clear hS hf
      rcases (by omega : st = 1 ∨ st = 2 ∨ st = 3 ∨ st = 4 ∨ st = 5 ∨ st = 6) with rfl | rfl | rfl | rfl | rfl | rfl
      · have hc : caB e a = true := by simpa using hq
        refine h_two hV (st_1 hV ok lk hc) en_ahead (fun hm => ?_) (fun hm => by rw [hm, if_pos (by simp)])
        rw [hm, if_neg (by simp)]
        cases g : (s.toList == [67, 65]) with
        | true =>
          rw [if_pos rfl, if_pos rfl]
          cases h1 : aaB e p with
          | true => rw [if_pos rfl]; exact ⟨_, _, _, rfl, fun y => ha_1 _ _ _ 1 lf s n y g rfl⟩
          | false =>
            rw [if_neg (by simp)]
            have he : earB e a p (caB e a) = decide (p = 2) := by unfold earB; rw [h1, hc]; simp
            by_cases h2 : p = 2
            · rw [if_pos h2]; exact ⟨_, _, _, rfl, fun y => ha_2 _ _ _ 1 lf s n y g rfl (by rw [he]; exact decide_eq_true h2)⟩
            · rw [if_neg h2, ← hca g]; exact ⟨_, _, _, rfl, fun y => ha_3 _ _ _ 1 lf s n y g rfl (by rw [he]; exact decide_eq_false h2)⟩
        | false =>
          rw [if_neg (by simp)]
          cases hn : numB s n with
          | false => rw [if_neg (by simp)]; exact ⟨_, _, _, rfl, fun y => ha_4x _ _ _ 1 lf s n y g hn⟩
          | true =>
            rw [if_pos rfl, if_neg (by simp)]
            by_cases h0 : 0 < lf
            · rw [if_pos h0]; exact ⟨_, _, _, rfl, fun y => ha_4z _ _ _ 1 lf s n y g hn h0 g4⟩
            · rw [if_neg h0]; exact ⟨_, _, _, rfl, fun y => ha_4y _ _ _ 1 lf s n y g hn (show lf = 0 by omega)⟩
      · refine h_two hV (st_2 hV ok lk (by simpa using hq)) en_behind (fun hm => ?_) (fun hm => by rw [hm, if_pos (by simp)])
        rw [hm, if_neg (by simp)]
        cases g : (s.toList == [67, 65]) with
        | true => rw [if_pos rfl, if_neg (by decide)]; exact ⟨_, _, _, rfl, fun y => hb_1 _ _ _ 2 lf s n y g⟩
        | false =>
          rw [if_neg (by simp)]
          cases hn : numB s n with
          | false => rw [if_neg (by simp)]; exact ⟨_, _, _, rfl, fun y => hb_3x _ _ _ 2 lf s n y g hn⟩
          | true =>
            rw [if_pos rfl]
            cases hc : caB e a with
            | true => rw [if_pos (by simp)]; exact ⟨_, _, _, rfl, fun y => hb_2 _ _ _ 2 lf s n y g hn rfl⟩
            | false =>
              rw [if_neg (by simp)]
              by_cases h0 : 0 < lf
              · rw [if_pos h0]; exact ⟨_, _, _, rfl, fun y => hb_3z _ _ _ 2 lf s n y g hn h0 g4 rfl⟩
              · rw [if_neg h0]; exact ⟨_, _, _, rfl, fun y => hb_3y _ _ _ 2 lf s n y g hn (show lf = 0 by omega) rfl⟩
      · refine h_two hV (st_3 hV ok lk (by simpa using hq)) en_behind (fun hm => ?_) (fun hm => by rw [hm, if_pos (by simp)])
        rw [hm, if_neg (by simp)]
        cases g : (s.toList == [67, 65]) with
        | true => rw [if_pos rfl, if_neg (by decide)]; exact ⟨_, _, _, rfl, fun y => hb_1 _ _ _ 3 lf s n y g⟩
        | false =>
          rw [if_neg (by simp)]
          cases hn : numB s n with
          | false => rw [if_neg (by simp)]; exact ⟨_, _, _, rfl, fun y => hb_3x _ _ _ 3 lf s n y g hn⟩
          | true =>
            rw [if_pos rfl]
            cases hc : caB e a with
            | true => rw [if_pos (by simp)]; exact ⟨_, _, _, rfl, fun y => hb_2 _ _ _ 3 lf s n y g hn rfl⟩
            | false =>
              rw [if_neg (by simp)]
              by_cases h0 : 0 < lf
              · rw [if_pos h0]; exact ⟨_, _, _, rfl, fun y => hb_3z _ _ _ 3 lf s n y g hn h0 g4 rfl⟩
              · rw [if_neg h0]; exact ⟨_, _, _, rfl, fun y => hb_3y _ _ _ 3 lf s n y g hn (show lf = 0 by omega) rfl⟩
      · rw [if_pos (by simp)]
        exact h_two hV (st_4 hV ok lk) en_strange (fun _ => ⟨_, _, _, rfl, fun y => strange_any _ _ _ 4 lf s n y⟩) (fun _ => rfl)
      · rw [if_pos (by simp)]
        exact h_two hV (st_5 hV ok lk) en_strange (fun _ => ⟨_, _, _, rfl, fun y => strange_any _ _ _ 5 lf s n y⟩) (fun _ => rfl)
      · rw [if_pos (by simp)]
        exact h_two hV (st_6 hV ok lk (by simpa using hq)) en_strange (fun _ => ⟨_, _, _, rfl, fun y => strange_any _ _ _ 6 lf s n y⟩) (fun _ => rfl)
theorem start_ok (e : Bool) (a p t : Int) (noted : Bool) (w : World) (hV : PVc w) : Calls Tryz.prog 59 #[.agg #[.bool e, .int .i64 a, .int .i64 p], .int .i64 t, .bool noted] w (PAnsQ (startS e a p t noted) w) := by
  unfold startS
  cases ok : okB e a p with
  | false =>
    rw [if_pos rfl]
    exact (Start_no e a p t noted w ok).mono fun _ _ h => pansE (by decide) h
  | true =>
    rw [if_neg (by simp)]
    by_cases ht : 0 ≤ t ∧ t ≤ 16
    · rw [if_neg (by simpa using ht)]
      have tr : decide (0 ≤ t ∧ t ≤ 16) = true := decide_eq_true ht
      cases hc : caB e a with
      | false =>
        cases noted with
        | true => rw [if_pos rfl]; exact (Start_nt e a p t true w hV ok tr rfl hc).mono fun _ _ h => pansE (by decide) h
        | false =>
          rw [if_neg (by simp), if_neg (by simp)]
          have he : earB e a p (caB e a) = earB e a p false := by rw [hc]
          cases h1 : aaB e p with
          | true => rw [if_pos rfl]; exact (Start_oka e a p t false 2 2 nT w hV ok tr rfl (fun x => by rw [hc]; exact begin_2a _ _ _ _ x rfl h1)).mono fun _ _ h => pans rfl h
          | false =>
            rw [if_neg (by simp)]
            cases h2 : earB e a p false with
            | true => rw [if_pos rfl]; exact (Start_oka e a p t false 3 2 nT w hV ok tr rfl (fun x => by rw [hc, h2]; exact begin_3a _ _ _ _ x rfl h1 rfl)).mono fun _ _ h => pans rfl h
            | false => rw [if_neg (by simp), if_neg (by simp)]; exact (Start_oka e a p t false 5 4 nT w hV ok tr rfl (fun x => by rw [hc, h2]; exact begin_5 _ _ _ _ x rfl rfl h1 rfl)).mono fun _ _ h => pans rfl h
      | true =>
        rw [if_neg (by simp)]
        cases noted with
        | false => rw [if_pos (by simp)]; exact (Start_oka e a p t false 1 2 nT w hV ok tr rfl (fun x => by rw [hc]; exact begin_1 _ _ _ _ x rfl rfl)).mono fun _ _ h => pans rfl h
        | true =>
          rw [if_neg (by simp)]
          cases h1 : aaB e p with
          | true => rw [if_pos rfl]; exact (Start_okb e a p t true 2 2 nT w hV ok tr rfl hc (fun x => by rw [hc]; exact begin_2b _ _ _ _ x rfl rfl h1)).mono fun _ _ h => pans rfl h
          | false =>
            rw [if_neg (by simp)]
            cases h2 : earB e a p true with
            | true => rw [if_pos rfl]; exact (Start_okb e a p t true 3 2 nT w hV ok tr rfl hc (fun x => by rw [hc, h2]; exact begin_3b _ _ _ _ x rfl rfl h1 rfl)).mono fun _ _ h => pans rfl h
            | false => rw [if_neg (by simp), if_pos rfl]; exact (Start_okb e a p t true 4 4 kCA w hV ok tr rfl hc (fun x => by rw [hc, h2]; exact begin_4b _ _ _ _ x rfl rfl h1 rfl)).mono fun _ _ h => pans rfl h
    · rw [if_pos ht]
      exact (Start_tr e a p t noted w ok (decide_eq_false ht)).mono fun _ _ h => pansE (by decide) h
end Go.Proofs.YtoijhecphgdfnaaGreatDoor
