/-
  The reference's At; the law StampAts, walked.
-/
import Derived.Test.YtohaiibecniacabDoorAt
import Derived.Test.YtohaiibecniacabDoorRefOf
import Derived.Test.YtohaiibecniacabDoorRefCmp
namespace Go.Proofs.YtohaiibecniacabDoor
open Go.RowKit

set_option maxHeartbeats 1000000 in
theorem refAt_bad {lv y mo d h mi s p dg zn : Int} {z : Bool} (hr : rightB lv y mo d h mi s p dg zn z = false) (tick : Int) (w : World) :
    Calls Tryd.prog 23 #[.agg #[.int .i64 lv, .int .i64 y, .int .i64 mo, .int .i64 d, .int .i64 h, .int .i64 mi, .int .i64 s, .int .i64 p, .int .i64 dg, .bool z, .int .i64 zn], .int .i64 tick] w fun e w' => e = .returned (.tuple #[.agg #[.int .i64 0, .int .i64 0, .int .i64 0, .int .i64 0, .int .i64 0, .int .i64 0, .int .i64 0, .int .i64 0, .int .i64 0, .bool false, .int .i64 0], .int .i64 20]) ∧ Below w.heap.size w w' := by
  have HR : Hid (rightB lv y mo d h mi s p dg zn z = false) := hr
  clear hr
  go_enter Tryd.func23, Tryd.ntmps23
  go_wp2_with fail
  refine (refInst_rel' HR.out (Below.refl _ _)).mono ?_
  rintro e w1 ⟨rfl, hb1⟩
  obtain ⟨hc, hf⟩ := bcell hb1
  have HB1 : Hid (Below ((w.alloc (.cells #[.int .i64 lv, .int .i64 y, .int .i64 mo, .int .i64 d, .int .i64 h, .int .i64 mi, .int .i64 s, .int .i64 p, .int .i64 dg, .bool z, .int .i64 zn] 31)).alloc (.cells #[.int .i64 0, .int .i64 0, .int .i64 0, .int .i64 0, .int .i64 0, .int .i64 0, .int .i64 0, .int .i64 0, .int .i64 0, .bool false, .int .i64 0] 31)).heap.size ((w.alloc (.cells #[.int .i64 lv, .int .i64 y, .int .i64 mo, .int .i64 d, .int .i64 h, .int .i64 mi, .int .i64 s, .int .i64 p, .int .i64 dg, .bool z, .int .i64 zn] 31)).alloc (.cells #[.int .i64 0, .int .i64 0, .int .i64 0, .int .i64 0, .int .i64 0, .int .i64 0, .int .i64 0, .int .i64 0, .int .i64 0, .bool false, .int .i64 0] 31)) w1) := hb1
  have hz : w.heap.size + 1 < w1.heap.size := by have := hb1.size; simp at this; omega
  clear hb1
  go_wp2_with fail
  exact bodyPost_ret (v := .tuple #[.agg #[.int .i64 0, .int .i64 0, .int .i64 0, .int .i64 0, .int .i64 0, .int .i64 0, .int .i64 0, .int .i64 0, .int .i64 0, .bool false, .int .i64 0], .int .i64 20]) (by simp [results, Tryd.results23, go_sem, hc]) rfl ⟨rfl, below_set11k (below_two HB1.out) (Nat.le_succ _) _ _ _ _ _ _ _ _ _ _ _⟩

set_option maxHeartbeats 1000000 in
theorem refAt_level {lv y mo d h mi s p dg zn : Int} {z : Bool} (hr : rightB lv y mo d h mi s p dg zn z = true) (h6 : lv ≠ 6) (tick : Int) (w : World) :
    Calls Tryd.prog 23 #[.agg #[.int .i64 lv, .int .i64 y, .int .i64 mo, .int .i64 d, .int .i64 h, .int .i64 mi, .int .i64 s, .int .i64 p, .int .i64 dg, .bool z, .int .i64 zn], .int .i64 tick] w fun e w' => e = .returned (.tuple #[.agg #[.int .i64 0, .int .i64 0, .int .i64 0, .int .i64 0, .int .i64 0, .int .i64 0, .int .i64 0, .int .i64 0, .int .i64 0, .bool false, .int .i64 0], .int .i64 20]) ∧ Below w.heap.size w w' := by
  have HR : Hid (rightB lv y mo d h mi s p dg zn z = true) := hr
  have h6b : (lv != 6) = true := by simpa using h6
  have h6c : (lv == 6) = false := by simpa using h6
  clear h6
  clear hr
  go_enter Tryd.func23, Tryd.ntmps23
  go_wp2_with fail
  refine (refInst_rel HR.out (Below.refl _ _)).mono ?_
  rintro e w1 ⟨rfl, hb1⟩
  obtain ⟨hc, hf⟩ := bcell hb1
  have HB1 : Hid (Below ((w.alloc (.cells #[.int .i64 lv, .int .i64 y, .int .i64 mo, .int .i64 d, .int .i64 h, .int .i64 mi, .int .i64 s, .int .i64 p, .int .i64 dg, .bool z, .int .i64 zn] 31)).alloc (.cells #[.int .i64 0, .int .i64 0, .int .i64 0, .int .i64 0, .int .i64 0, .int .i64 0, .int .i64 0, .int .i64 0, .int .i64 0, .bool false, .int .i64 0] 31)).heap.size ((w.alloc (.cells #[.int .i64 lv, .int .i64 y, .int .i64 mo, .int .i64 d, .int .i64 h, .int .i64 mi, .int .i64 s, .int .i64 p, .int .i64 dg, .bool z, .int .i64 zn] 31)).alloc (.cells #[.int .i64 0, .int .i64 0, .int .i64 0, .int .i64 0, .int .i64 0, .int .i64 0, .int .i64 0, .int .i64 0, .int .i64 0, .bool false, .int .i64 0] 31)) w1) := hb1
  have hz : w.heap.size + 1 < w1.heap.size := by have := hb1.size; simp at this; omega
  clear hb1
  go_wp2_with fail
  exact bodyPost_ret (v := .tuple #[.agg #[.int .i64 0, .int .i64 0, .int .i64 0, .int .i64 0, .int .i64 0, .int .i64 0, .int .i64 0, .int .i64 0, .int .i64 0, .bool false, .int .i64 0], .int .i64 20]) (by simp [results, Tryd.results23, go_sem, hc]) rfl ⟨rfl, below_set11k (below_two HB1.out) (Nat.le_succ _) _ _ _ _ _ _ _ _ _ _ _⟩

set_option maxHeartbeats 1000000 in
theorem refAt_zone {y mo d h mi s p dg zn : Int} (hr : rightB 6 y mo d h mi s p dg zn true = true) (tick : Int) (w : World) :
    Calls Tryd.prog 23 #[.agg #[.int .i64 6, .int .i64 y, .int .i64 mo, .int .i64 d, .int .i64 h, .int .i64 mi, .int .i64 s, .int .i64 p, .int .i64 dg, .bool true, .int .i64 zn], .int .i64 tick] w fun e w' => e = .returned (.tuple #[.agg #[.int .i64 0, .int .i64 0, .int .i64 0, .int .i64 0, .int .i64 0, .int .i64 0, .int .i64 0, .int .i64 0, .int .i64 0, .bool false, .int .i64 0], .int .i64 20]) ∧ Below w.heap.size w w' := by
  have HR : Hid (rightB 6 y mo d h mi s p dg zn true = true) := hr
  clear hr
  go_enter Tryd.func23, Tryd.ntmps23
  go_wp2_with fail
  refine (refInst_rel HR.out (Below.refl _ _)).mono ?_
  rintro e w1 ⟨rfl, hb1⟩
  obtain ⟨hc, hf⟩ := bcell hb1
  have HB1 : Hid (Below ((w.alloc (.cells #[.int .i64 6, .int .i64 y, .int .i64 mo, .int .i64 d, .int .i64 h, .int .i64 mi, .int .i64 s, .int .i64 p, .int .i64 dg, .bool true, .int .i64 zn] 31)).alloc (.cells #[.int .i64 0, .int .i64 0, .int .i64 0, .int .i64 0, .int .i64 0, .int .i64 0, .int .i64 0, .int .i64 0, .int .i64 0, .bool false, .int .i64 0] 31)).heap.size ((w.alloc (.cells #[.int .i64 6, .int .i64 y, .int .i64 mo, .int .i64 d, .int .i64 h, .int .i64 mi, .int .i64 s, .int .i64 p, .int .i64 dg, .bool true, .int .i64 zn] 31)).alloc (.cells #[.int .i64 0, .int .i64 0, .int .i64 0, .int .i64 0, .int .i64 0, .int .i64 0, .int .i64 0, .int .i64 0, .int .i64 0, .bool false, .int .i64 0] 31)) w1) := hb1
  have hz : w.heap.size + 1 < w1.heap.size := by have := hb1.size; simp at this; omega
  clear hb1
  go_wp2_with fail
  exact bodyPost_ret (v := .tuple #[.agg #[.int .i64 0, .int .i64 0, .int .i64 0, .int .i64 0, .int .i64 0, .int .i64 0, .int .i64 0, .int .i64 0, .int .i64 0, .bool false, .int .i64 0], .int .i64 20]) (by simp [results, Tryd.results23, go_sem, hc]) rfl ⟨rfl, below_set11k (below_two HB1.out) (Nat.le_succ _) _ _ _ _ _ _ _ _ _ _ _⟩

set_option maxHeartbeats 1000000 in
theorem refAt_neg {y mo d h mi s p dg zn : Int} (hr : rightB 6 y mo d h mi s p dg zn false = true) (tick : Int) (w : World) (ht : tick < 0) :
    Calls Tryd.prog 23 #[.agg #[.int .i64 6, .int .i64 y, .int .i64 mo, .int .i64 d, .int .i64 h, .int .i64 mi, .int .i64 s, .int .i64 p, .int .i64 dg, .bool false, .int .i64 zn], .int .i64 tick] w fun e w' => e = .returned (.tuple #[.agg #[.int .i64 0, .int .i64 0, .int .i64 0, .int .i64 0, .int .i64 0, .int .i64 0, .int .i64 0, .int .i64 0, .int .i64 0, .bool false, .int .i64 0], .int .i64 2]) ∧ Below w.heap.size w w' := by
  have HR : Hid (rightB 6 y mo d h mi s p dg zn false = true) := hr
  clear hr
  go_enter Tryd.func23, Tryd.ntmps23
  go_wp2_with fail
  refine (refInst_rel HR.out (Below.refl _ _)).mono ?_
  rintro e w1 ⟨rfl, hb1⟩
  obtain ⟨hc, hf⟩ := bcell hb1
  have HB1 : Hid (Below ((w.alloc (.cells #[.int .i64 6, .int .i64 y, .int .i64 mo, .int .i64 d, .int .i64 h, .int .i64 mi, .int .i64 s, .int .i64 p, .int .i64 dg, .bool false, .int .i64 zn] 31)).alloc (.cells #[.int .i64 0, .int .i64 0, .int .i64 0, .int .i64 0, .int .i64 0, .int .i64 0, .int .i64 0, .int .i64 0, .int .i64 0, .bool false, .int .i64 0] 31)).heap.size ((w.alloc (.cells #[.int .i64 6, .int .i64 y, .int .i64 mo, .int .i64 d, .int .i64 h, .int .i64 mi, .int .i64 s, .int .i64 p, .int .i64 dg, .bool false, .int .i64 zn] 31)).alloc (.cells #[.int .i64 0, .int .i64 0, .int .i64 0, .int .i64 0, .int .i64 0, .int .i64 0, .int .i64 0, .int .i64 0, .int .i64 0, .bool false, .int .i64 0] 31)) w1) := hb1
  have hz : w.heap.size + 1 < w1.heap.size := by have := hb1.size; simp at this; omega
  clear hb1
  go_wp2_with fail
  exact bodyPost_ret (v := .tuple #[.agg #[.int .i64 0, .int .i64 0, .int .i64 0, .int .i64 0, .int .i64 0, .int .i64 0, .int .i64 0, .int .i64 0, .int .i64 0, .bool false, .int .i64 0], .int .i64 2]) (by simp [results, Tryd.results23, go_sem, hc]) rfl ⟨rfl, below_set11k (below_two HB1.out) (Nat.le_succ _) _ _ _ _ _ _ _ _ _ _ _⟩

set_option maxHeartbeats 1000000 in
theorem refAt_far {y mo d h mi s p dg zn : Int} (hr : rightB 6 y mo d h mi s p dg zn false = true) (tick : Int) (w : World) (ht : 1099511627776 < tick) :
    Calls Tryd.prog 23 #[.agg #[.int .i64 6, .int .i64 y, .int .i64 mo, .int .i64 d, .int .i64 h, .int .i64 mi, .int .i64 s, .int .i64 p, .int .i64 dg, .bool false, .int .i64 zn], .int .i64 tick] w fun e w' => e = .returned (.tuple #[.agg #[.int .i64 0, .int .i64 0, .int .i64 0, .int .i64 0, .int .i64 0, .int .i64 0, .int .i64 0, .int .i64 0, .int .i64 0, .bool false, .int .i64 0], .int .i64 2]) ∧ Below w.heap.size w w' := by
  have HR : Hid (rightB 6 y mo d h mi s p dg zn false = true) := hr
  have ht0 : ¬ tick < 0 := by omega
  clear hr
  go_enter Tryd.func23, Tryd.ntmps23
  go_wp2_with fail
  refine (refInst_rel HR.out (Below.refl _ _)).mono ?_
  rintro e w1 ⟨rfl, hb1⟩
  obtain ⟨hc, hf⟩ := bcell hb1
  have HB1 : Hid (Below ((w.alloc (.cells #[.int .i64 6, .int .i64 y, .int .i64 mo, .int .i64 d, .int .i64 h, .int .i64 mi, .int .i64 s, .int .i64 p, .int .i64 dg, .bool false, .int .i64 zn] 31)).alloc (.cells #[.int .i64 0, .int .i64 0, .int .i64 0, .int .i64 0, .int .i64 0, .int .i64 0, .int .i64 0, .int .i64 0, .int .i64 0, .bool false, .int .i64 0] 31)).heap.size ((w.alloc (.cells #[.int .i64 6, .int .i64 y, .int .i64 mo, .int .i64 d, .int .i64 h, .int .i64 mi, .int .i64 s, .int .i64 p, .int .i64 dg, .bool false, .int .i64 zn] 31)).alloc (.cells #[.int .i64 0, .int .i64 0, .int .i64 0, .int .i64 0, .int .i64 0, .int .i64 0, .int .i64 0, .int .i64 0, .int .i64 0, .bool false, .int .i64 0] 31)) w1) := hb1
  have hz : w.heap.size + 1 < w1.heap.size := by have := hb1.size; simp at this; omega
  clear hb1
  go_wp2_with fail
  exact bodyPost_ret (v := .tuple #[.agg #[.int .i64 0, .int .i64 0, .int .i64 0, .int .i64 0, .int .i64 0, .int .i64 0, .int .i64 0, .int .i64 0, .int .i64 0, .bool false, .int .i64 0], .int .i64 2]) (by simp [results, Tryd.results23, go_sem, hc]) rfl ⟨rfl, below_set11k (below_two HB1.out) (Nat.le_succ _) _ _ _ _ _ _ _ _ _ _ _⟩

set_option maxHeartbeats 1000000 in
theorem refAt_ok {y mo d h mi s p dg zn : Int} (hr : rightB 6 y mo d h mi s p dg zn false = true) (tick : Int) (w : World) (t0 : 0 ≤ tick) (t1 : tick ≤ 1099511627776) :
    Calls Tryd.prog 23 #[.agg #[.int .i64 6, .int .i64 y, .int .i64 mo, .int .i64 d, .int .i64 h, .int .i64 mi, .int .i64 s, .int .i64 p, .int .i64 dg, .bool false, .int .i64 zn], .int .i64 tick] w fun e w' => (∃ y' m' d' : Int, e = .returned (.tuple #[ofV 6 (atS (instI 6 y mo d h mi s p dg zn) tick * 10000) y' m' d', .int .i64 0]) ∧ vldB y' m' d' = true ∧ num y' m' d' = atS (instI 6 y mo d h mi s p dg zn) tick * 10000 / 864000000) ∧ Below w.heap.size w w' := by
  have HR : Hid (rightB 6 y mo d h mi s p dg zn false = true) := hr
  have ib := inst_6 hr
  obtain ⟨x, hx⟩ : ∃ x, instI 6 y mo d h mi s p dg zn = x := ⟨_, rfl⟩
  have HX : Hid (instI 6 y mo d h mi s p dg zn = x) := hx
  rw [hx] at ib
  rw [hx]
  have ib1 := ib.1
  have ib2 := ib.2.1
  clear hr hx ib
  go_enter Tryd.func23, Tryd.ntmps23
  go_wp2_with fail
  refine (refInst_rel HR.out (Below.refl _ _)).mono ?_
  rintro e w1 ⟨he, hb1⟩
  rw [HX.out] at he
  subst he
  obtain ⟨hc, hf⟩ := bcell hb1
  have HB1 : Hid (Below ((w.alloc (.cells #[.int .i64 6, .int .i64 y, .int .i64 mo, .int .i64 d, .int .i64 h, .int .i64 mi, .int .i64 s, .int .i64 p, .int .i64 dg, .bool false, .int .i64 zn] 31)).alloc (.cells #[.int .i64 0, .int .i64 0, .int .i64 0, .int .i64 0, .int .i64 0, .int .i64 0, .int .i64 0, .int .i64 0, .int .i64 0, .bool false, .int .i64 0] 31)).heap.size ((w.alloc (.cells #[.int .i64 6, .int .i64 y, .int .i64 mo, .int .i64 d, .int .i64 h, .int .i64 mi, .int .i64 s, .int .i64 p, .int .i64 dg, .bool false, .int .i64 zn] 31)).alloc (.cells #[.int .i64 0, .int .i64 0, .int .i64 0, .int .i64 0, .int .i64 0, .int .i64 0, .int .i64 0, .int .i64 0, .int .i64 0, .bool false, .int .i64 0] 31)) w1) := hb1
  have hz : w.heap.size + 1 < w1.heap.size := by have := hb1.size; simp at this; omega
  clear hb1
  by_cases g : 315537897599 < x / 10000 + tick
  · have HS : Hid ((3155378975990000 : Int) = atS x tick * 10000) := by unfold atS Hid; omega
    go_wp2_with fail
    refine (refOf6 _ _ (by omega) (by omega)).mono ?_
    rintro e w3 ⟨⟨y', m', d', he, hv, hn⟩, hb3⟩
    rw [HS.out, ofV6] at he
    subst he
    have HV : Hid (vldB y' m' d' = true) := hv
    have HN : Hid (num y' m' d' = atS x tick * 10000 / 864000000) := by rw [HS.out] at hn; exact hn
    have HB3 : Hid (Below ((w.alloc (.cells #[.int .i64 6, .int .i64 y, .int .i64 mo, .int .i64 d, .int .i64 h, .int .i64 mi, .int .i64 s, .int .i64 p, .int .i64 dg, .bool false, .int .i64 zn] 31)).alloc (.cells #[.int .i64 0, .int .i64 0, .int .i64 0, .int .i64 0, .int .i64 0, .int .i64 0, .int .i64 0, .int .i64 0, .int .i64 0, .bool false, .int .i64 0] 31)).heap.size ((w.alloc (.cells #[.int .i64 6, .int .i64 y, .int .i64 mo, .int .i64 d, .int .i64 h, .int .i64 mi, .int .i64 s, .int .i64 p, .int .i64 dg, .bool false, .int .i64 zn] 31)).alloc (.cells #[.int .i64 0, .int .i64 0, .int .i64 0, .int .i64 0, .int .i64 0, .int .i64 0, .int .i64 0, .int .i64 0, .int .i64 0, .bool false, .int .i64 0] 31)) w3) := below_then HB1.out hb3
    clear hb3 hc hf hv hn
    obtain ⟨hc, hf⟩ := bcell HB3.out
    have hz3 : w.heap.size + 1 < w3.heap.size := by have := HB3.out.size; simp at this; omega
    go_wp2_with fail
    exact bodyPost_ret (v := .tuple #[ofV 6 (atS x tick * 10000) y' m' d', .int .i64 0]) (by simp [results, Tryd.results23, go_sem, ofV6, hc]) rfl ⟨⟨y', m', d', rfl, HV.out, HN.out⟩, below_set11k (below_two HB3.out) (Nat.le_succ _) _ _ _ _ _ _ _ _ _ _ _⟩
  · have HS : Hid ((x / 10000 + tick) * 10000 = atS x tick * 10000) := by unfold atS Hid; omega
    go_wp2_with fail
    refine (refOf6 _ _ (by omega) (by omega)).mono ?_
    rintro e w3 ⟨⟨y', m', d', he, hv, hn⟩, hb3⟩
    rw [HS.out, ofV6] at he
    subst he
    have HV : Hid (vldB y' m' d' = true) := hv
    have HN : Hid (num y' m' d' = atS x tick * 10000 / 864000000) := by rw [HS.out] at hn; exact hn
    have HB3 : Hid (Below ((w.alloc (.cells #[.int .i64 6, .int .i64 y, .int .i64 mo, .int .i64 d, .int .i64 h, .int .i64 mi, .int .i64 s, .int .i64 p, .int .i64 dg, .bool false, .int .i64 zn] 31)).alloc (.cells #[.int .i64 0, .int .i64 0, .int .i64 0, .int .i64 0, .int .i64 0, .int .i64 0, .int .i64 0, .int .i64 0, .int .i64 0, .bool false, .int .i64 0] 31)).heap.size ((w.alloc (.cells #[.int .i64 6, .int .i64 y, .int .i64 mo, .int .i64 d, .int .i64 h, .int .i64 mi, .int .i64 s, .int .i64 p, .int .i64 dg, .bool false, .int .i64 zn] 31)).alloc (.cells #[.int .i64 0, .int .i64 0, .int .i64 0, .int .i64 0, .int .i64 0, .int .i64 0, .int .i64 0, .int .i64 0, .int .i64 0, .bool false, .int .i64 0] 31)) w3) := below_then HB1.out hb3
    clear hb3 hc hf hv hn
    obtain ⟨hc, hf⟩ := bcell HB3.out
    have hz3 : w.heap.size + 1 < w3.heap.size := by have := HB3.out.size; simp at this; omega
    go_wp2_with fail
    exact bodyPost_ret (v := .tuple #[ofV 6 (atS x tick * 10000) y' m' d', .int .i64 0]) (by simp [results, Tryd.results23, go_sem, ofV6, hc]) rfl ⟨⟨y', m', d', rfl, HV.out, HN.out⟩, below_set11k (below_two HB3.out) (Nat.le_succ _) _ _ _ _ _ _ _ _ _ _ _⟩


set_option maxHeartbeats 2000000 in
theorem ats_bad {lv y mo d h mi s p dg zn : Int} {z : Bool} (hr : rightB lv y mo d h mi s p dg zn z = false) (tick : Int) (w : World) (hM : Months w) (hE : ErrType w) :
    Calls Tryd.prog 7 #[.agg #[.int .i64 lv, .int .i64 y, .int .i64 mo, .int .i64 d, .int .i64 h, .int .i64 mi, .int .i64 s, .int .i64 p, .int .i64 dg, .bool z, .int .i64 zn], .int .i64 tick] w fun e w' => e = .returned (.bool true) ∧ Below w.heap.size w w' := by
  have HM : Hid (Months (w.alloc (.cells #[.int .i64 lv, .int .i64 y, .int .i64 mo, .int .i64 d, .int .i64 h, .int .i64 mi, .int .i64 s, .int .i64 p, .int .i64 dg, .bool z, .int .i64 zn] 31))) := months_alloc hM _
  have HE : Hid (ErrType w) := hE
  clear hM hE
  go_enter Tryd.func7, Tryd.ntmps7
  go_wp2_with fail
  refine (at_bad hr tick _ HM.out).mono ?_
  rintro e w1 ⟨⟨b, rfl, hf1⟩, hb1⟩
  have HF : Hid (FaultAt w1 b 0 20) := hf1
  have HB1 : Hid (Below (w.alloc (.cells #[.int .i64 lv, .int .i64 y, .int .i64 mo, .int .i64 d, .int .i64 h, .int .i64 mi, .int .i64 s, .int .i64 p, .int .i64 dg, .bool z, .int .i64 zn] 31)).heap.size (w.alloc (.cells #[.int .i64 lv, .int .i64 y, .int .i64 mo, .int .i64 d, .int .i64 h, .int .i64 mi, .int .i64 s, .int .i64 p, .int .i64 dg, .bool z, .int .i64 zn] 31)) w1) := hb1
  obtain ⟨hc, hf⟩ := bcell hb1
  have hz1 : w.heap.size < w1.heap.size := by have := hb1.size; simp at this; omega
  clear hb1 hf1
  go_wp2_with fail
  refine (refAt_bad hr tick _).mono ?_
  rintro e w2 ⟨rfl, hb2⟩
  obtain ⟨hc2, hf2⟩ := bcell hb2
  have hz : w1.heap.size < w2.heap.size := by have := hb2.size; simp at this; omega
  have HB2 : Hid (Below w.heap.size w w2) := below_step (below_step (Below.refl _ _) HB1.out) hb2
  have HF2 : Hid (FaultAt w2 b 0 20) := faultAt_below HF.out (below_step (Below.refl _ _) hb2)
  clear hb2 hc hf
  go_wp2_with fail
  refine (isFault _ _ _ _ (by decide) (errType_below HE.out (below_new HB2.out _)) (faultAt_below HF2.out (below_new (Below.refl _ _) _))).mono ?_
  rintro e w3 ⟨rfl, hb3⟩
  have HB3 : Hid (Below w.heap.size w w3) := below_then (below_new HB2.out _) hb3
  clear hb3
  go_wp2
  go_ret
  exact ⟨rfl, HB3.out⟩

set_option maxHeartbeats 2000000 in
theorem ats_level {lv y mo d h mi s p dg zn : Int} {z : Bool} (hr : rightB lv y mo d h mi s p dg zn z = true) (h6 : lv ≠ 6) (tick : Int) (w : World) (hM : Months w) (hE : ErrType w) :
    Calls Tryd.prog 7 #[.agg #[.int .i64 lv, .int .i64 y, .int .i64 mo, .int .i64 d, .int .i64 h, .int .i64 mi, .int .i64 s, .int .i64 p, .int .i64 dg, .bool z, .int .i64 zn], .int .i64 tick] w fun e w' => e = .returned (.bool true) ∧ Below w.heap.size w w' := by
  have HM : Hid (Months (w.alloc (.cells #[.int .i64 lv, .int .i64 y, .int .i64 mo, .int .i64 d, .int .i64 h, .int .i64 mi, .int .i64 s, .int .i64 p, .int .i64 dg, .bool z, .int .i64 zn] 31))) := months_alloc hM _
  have HE : Hid (ErrType w) := hE
  clear hM hE
  go_enter Tryd.func7, Tryd.ntmps7
  go_wp2_with fail
  refine (at_level hr h6 tick _ HM.out).mono ?_
  rintro e w1 ⟨⟨b, rfl, hf1⟩, hb1⟩
  have HF : Hid (FaultAt w1 b 0 20) := hf1
  have HB1 : Hid (Below (w.alloc (.cells #[.int .i64 lv, .int .i64 y, .int .i64 mo, .int .i64 d, .int .i64 h, .int .i64 mi, .int .i64 s, .int .i64 p, .int .i64 dg, .bool z, .int .i64 zn] 31)).heap.size (w.alloc (.cells #[.int .i64 lv, .int .i64 y, .int .i64 mo, .int .i64 d, .int .i64 h, .int .i64 mi, .int .i64 s, .int .i64 p, .int .i64 dg, .bool z, .int .i64 zn] 31)) w1) := hb1
  obtain ⟨hc, hf⟩ := bcell hb1
  have hz1 : w.heap.size < w1.heap.size := by have := hb1.size; simp at this; omega
  clear hb1 hf1
  go_wp2_with fail
  refine (refAt_level hr h6 tick _).mono ?_
  rintro e w2 ⟨rfl, hb2⟩
  obtain ⟨hc2, hf2⟩ := bcell hb2
  have hz : w1.heap.size < w2.heap.size := by have := hb2.size; simp at this; omega
  have HB2 : Hid (Below w.heap.size w w2) := below_step (below_step (Below.refl _ _) HB1.out) hb2
  have HF2 : Hid (FaultAt w2 b 0 20) := faultAt_below HF.out (below_step (Below.refl _ _) hb2)
  clear hb2 hc hf
  go_wp2_with fail
  refine (isFault _ _ _ _ (by decide) (errType_below HE.out (below_new HB2.out _)) (faultAt_below HF2.out (below_new (Below.refl _ _) _))).mono ?_
  rintro e w3 ⟨rfl, hb3⟩
  have HB3 : Hid (Below w.heap.size w w3) := below_then (below_new HB2.out _) hb3
  clear hb3
  go_wp2
  go_ret
  exact ⟨rfl, HB3.out⟩

set_option maxHeartbeats 2000000 in
theorem ats_zone {y mo d h mi s p dg zn : Int} (hr : rightB 6 y mo d h mi s p dg zn true = true) (tick : Int) (w : World) (hM : Months w) (hE : ErrType w) :
    Calls Tryd.prog 7 #[.agg #[.int .i64 6, .int .i64 y, .int .i64 mo, .int .i64 d, .int .i64 h, .int .i64 mi, .int .i64 s, .int .i64 p, .int .i64 dg, .bool true, .int .i64 zn], .int .i64 tick] w fun e w' => e = .returned (.bool true) ∧ Below w.heap.size w w' := by
  have HM : Hid (Months (w.alloc (.cells #[.int .i64 6, .int .i64 y, .int .i64 mo, .int .i64 d, .int .i64 h, .int .i64 mi, .int .i64 s, .int .i64 p, .int .i64 dg, .bool true, .int .i64 zn] 31))) := months_alloc hM _
  have HE : Hid (ErrType w) := hE
  clear hM hE
  go_enter Tryd.func7, Tryd.ntmps7
  go_wp2_with fail
  refine (at_zone hr tick _ HM.out).mono ?_
  rintro e w1 ⟨⟨b, rfl, hf1⟩, hb1⟩
  have HF : Hid (FaultAt w1 b 0 20) := hf1
  have HB1 : Hid (Below (w.alloc (.cells #[.int .i64 6, .int .i64 y, .int .i64 mo, .int .i64 d, .int .i64 h, .int .i64 mi, .int .i64 s, .int .i64 p, .int .i64 dg, .bool true, .int .i64 zn] 31)).heap.size (w.alloc (.cells #[.int .i64 6, .int .i64 y, .int .i64 mo, .int .i64 d, .int .i64 h, .int .i64 mi, .int .i64 s, .int .i64 p, .int .i64 dg, .bool true, .int .i64 zn] 31)) w1) := hb1
  obtain ⟨hc, hf⟩ := bcell hb1
  have hz1 : w.heap.size < w1.heap.size := by have := hb1.size; simp at this; omega
  clear hb1 hf1
  go_wp2_with fail
  refine (refAt_zone hr tick _).mono ?_
  rintro e w2 ⟨rfl, hb2⟩
  obtain ⟨hc2, hf2⟩ := bcell hb2
  have hz : w1.heap.size < w2.heap.size := by have := hb2.size; simp at this; omega
  have HB2 : Hid (Below w.heap.size w w2) := below_step (below_step (Below.refl _ _) HB1.out) hb2
  have HF2 : Hid (FaultAt w2 b 0 20) := faultAt_below HF.out (below_step (Below.refl _ _) hb2)
  clear hb2 hc hf
  go_wp2_with fail
  refine (isFault _ _ _ _ (by decide) (errType_below HE.out (below_new HB2.out _)) (faultAt_below HF2.out (below_new (Below.refl _ _) _))).mono ?_
  rintro e w3 ⟨rfl, hb3⟩
  have HB3 : Hid (Below w.heap.size w w3) := below_then (below_new HB2.out _) hb3
  clear hb3
  go_wp2
  go_ret
  exact ⟨rfl, HB3.out⟩

set_option maxHeartbeats 2000000 in
theorem ats_neg {y mo d h mi s p dg zn : Int} (hr : rightB 6 y mo d h mi s p dg zn false = true) (tick : Int) (w : World) (hM : Months w) (hE : ErrType w) (ht : tick < 0) :
    Calls Tryd.prog 7 #[.agg #[.int .i64 6, .int .i64 y, .int .i64 mo, .int .i64 d, .int .i64 h, .int .i64 mi, .int .i64 s, .int .i64 p, .int .i64 dg, .bool false, .int .i64 zn], .int .i64 tick] w fun e w' => e = .returned (.bool true) ∧ Below w.heap.size w w' := by
  have HM : Hid (Months (w.alloc (.cells #[.int .i64 6, .int .i64 y, .int .i64 mo, .int .i64 d, .int .i64 h, .int .i64 mi, .int .i64 s, .int .i64 p, .int .i64 dg, .bool false, .int .i64 zn] 31))) := months_alloc hM _
  have HE : Hid (ErrType w) := hE
  clear hM hE
  go_enter Tryd.func7, Tryd.ntmps7
  go_wp2_with fail
  refine (at_neg hr tick _ HM.out ht).mono ?_
  rintro e w1 ⟨⟨b, rfl, hf1⟩, hb1⟩
  have HF : Hid (FaultAt w1 b 0 2) := hf1
  have HB1 : Hid (Below (w.alloc (.cells #[.int .i64 6, .int .i64 y, .int .i64 mo, .int .i64 d, .int .i64 h, .int .i64 mi, .int .i64 s, .int .i64 p, .int .i64 dg, .bool false, .int .i64 zn] 31)).heap.size (w.alloc (.cells #[.int .i64 6, .int .i64 y, .int .i64 mo, .int .i64 d, .int .i64 h, .int .i64 mi, .int .i64 s, .int .i64 p, .int .i64 dg, .bool false, .int .i64 zn] 31)) w1) := hb1
  obtain ⟨hc, hf⟩ := bcell hb1
  have hz1 : w.heap.size < w1.heap.size := by have := hb1.size; simp at this; omega
  clear hb1 hf1
  go_wp2_with fail
  refine (refAt_neg hr tick _ ht).mono ?_
  rintro e w2 ⟨rfl, hb2⟩
  obtain ⟨hc2, hf2⟩ := bcell hb2
  have hz : w1.heap.size < w2.heap.size := by have := hb2.size; simp at this; omega
  have HB2 : Hid (Below w.heap.size w w2) := below_step (below_step (Below.refl _ _) HB1.out) hb2
  have HF2 : Hid (FaultAt w2 b 0 2) := faultAt_below HF.out (below_step (Below.refl _ _) hb2)
  clear hb2 hc hf
  go_wp2_with fail
  refine (isFault _ _ _ _ (by decide) (errType_below HE.out (below_new HB2.out _)) (faultAt_below HF2.out (below_new (Below.refl _ _) _))).mono ?_
  rintro e w3 ⟨rfl, hb3⟩
  have HB3 : Hid (Below w.heap.size w w3) := below_then (below_new HB2.out _) hb3
  clear hb3
  go_wp2
  go_ret
  exact ⟨rfl, HB3.out⟩

set_option maxHeartbeats 2000000 in
theorem ats_far {y mo d h mi s p dg zn : Int} (hr : rightB 6 y mo d h mi s p dg zn false = true) (tick : Int) (w : World) (hM : Months w) (hE : ErrType w) (ht : 1099511627776 < tick) :
    Calls Tryd.prog 7 #[.agg #[.int .i64 6, .int .i64 y, .int .i64 mo, .int .i64 d, .int .i64 h, .int .i64 mi, .int .i64 s, .int .i64 p, .int .i64 dg, .bool false, .int .i64 zn], .int .i64 tick] w fun e w' => e = .returned (.bool true) ∧ Below w.heap.size w w' := by
  have HM : Hid (Months (w.alloc (.cells #[.int .i64 6, .int .i64 y, .int .i64 mo, .int .i64 d, .int .i64 h, .int .i64 mi, .int .i64 s, .int .i64 p, .int .i64 dg, .bool false, .int .i64 zn] 31))) := months_alloc hM _
  have HE : Hid (ErrType w) := hE
  clear hM hE
  go_enter Tryd.func7, Tryd.ntmps7
  go_wp2_with fail
  refine (at_far hr tick _ HM.out ht).mono ?_
  rintro e w1 ⟨⟨b, rfl, hf1⟩, hb1⟩
  have HF : Hid (FaultAt w1 b 0 2) := hf1
  have HB1 : Hid (Below (w.alloc (.cells #[.int .i64 6, .int .i64 y, .int .i64 mo, .int .i64 d, .int .i64 h, .int .i64 mi, .int .i64 s, .int .i64 p, .int .i64 dg, .bool false, .int .i64 zn] 31)).heap.size (w.alloc (.cells #[.int .i64 6, .int .i64 y, .int .i64 mo, .int .i64 d, .int .i64 h, .int .i64 mi, .int .i64 s, .int .i64 p, .int .i64 dg, .bool false, .int .i64 zn] 31)) w1) := hb1
  obtain ⟨hc, hf⟩ := bcell hb1
  have hz1 : w.heap.size < w1.heap.size := by have := hb1.size; simp at this; omega
  clear hb1 hf1
  go_wp2_with fail
  refine (refAt_far hr tick _ ht).mono ?_
  rintro e w2 ⟨rfl, hb2⟩
  obtain ⟨hc2, hf2⟩ := bcell hb2
  have hz : w1.heap.size < w2.heap.size := by have := hb2.size; simp at this; omega
  have HB2 : Hid (Below w.heap.size w w2) := below_step (below_step (Below.refl _ _) HB1.out) hb2
  have HF2 : Hid (FaultAt w2 b 0 2) := faultAt_below HF.out (below_step (Below.refl _ _) hb2)
  clear hb2 hc hf
  go_wp2_with fail
  refine (isFault _ _ _ _ (by decide) (errType_below HE.out (below_new HB2.out _)) (faultAt_below HF2.out (below_new (Below.refl _ _) _))).mono ?_
  rintro e w3 ⟨rfl, hb3⟩
  have HB3 : Hid (Below w.heap.size w w3) := below_then (below_new HB2.out _) hb3
  clear hb3
  go_wp2
  go_ret
  exact ⟨rfl, HB3.out⟩

set_option maxHeartbeats 2000000 in
theorem ats_ok {y mo d h mi s p dg zn : Int} (hr : rightB 6 y mo d h mi s p dg zn false = true) (tick : Int) (w : World) (hM : Months w) (hE : ErrType w) (t0 : 0 ≤ tick) (t1 : tick ≤ 1099511627776) :
    Calls Tryd.prog 7 #[.agg #[.int .i64 6, .int .i64 y, .int .i64 mo, .int .i64 d, .int .i64 h, .int .i64 mi, .int .i64 s, .int .i64 p, .int .i64 dg, .bool false, .int .i64 zn], .int .i64 tick] w fun e w' => e = .returned (.bool true) ∧ Below w.heap.size w w' := by
  have HM : Hid (Months (w.alloc (.cells #[.int .i64 6, .int .i64 y, .int .i64 mo, .int .i64 d, .int .i64 h, .int .i64 mi, .int .i64 s, .int .i64 p, .int .i64 dg, .bool false, .int .i64 zn] 31))) := months_alloc hM _
  have HE : Hid (ErrType w) := hE
  clear hM hE
  go_enter Tryd.func7, Tryd.ntmps7
  go_wp2_with fail
  refine (at_ok hr tick _ HM.out t0 t1).mono ?_
  rintro e w1 ⟨⟨y1, m1, d1, he, hv, hn⟩, hb1⟩
  rw [ofV6] at he
  subst he
  have HV : Hid (vldB y1 m1 d1 = true) := hv
  have HN : Hid (num y1 m1 d1 = atS (instI 6 y mo d h mi s p dg zn) tick * 10000 / 864000000) := hn
  have HB1 : Hid (Below (w.alloc (.cells #[.int .i64 6, .int .i64 y, .int .i64 mo, .int .i64 d, .int .i64 h, .int .i64 mi, .int .i64 s, .int .i64 p, .int .i64 dg, .bool false, .int .i64 zn] 31)).heap.size (w.alloc (.cells #[.int .i64 6, .int .i64 y, .int .i64 mo, .int .i64 d, .int .i64 h, .int .i64 mi, .int .i64 s, .int .i64 p, .int .i64 dg, .bool false, .int .i64 zn] 31)) w1) := hb1
  obtain ⟨hc, hf⟩ := bcell hb1
  have hz1 : w.heap.size < w1.heap.size := by have := hb1.size; simp at this; omega
  clear hb1 hv hn
  go_wp2_with fail
  refine (refAt_ok hr tick _ t0 t1).mono ?_
  rintro e w2 ⟨⟨y2, m2, d2, he, hv, hn⟩, hb2⟩
  obtain ⟨rfl, rfl, rfl⟩ := num_inj HV.out hv (HN.out.trans hn.symm)
  rw [ofV6] at he
  subst he
  obtain ⟨hc2, hf2⟩ := bcell hb2
  have hz : w1.heap.size < w2.heap.size := by have := hb2.size; simp at this; omega
  have HB2 : Hid (Below w.heap.size w w2) := below_step (below_step (Below.refl _ _) HB1.out) hb2
  clear hb2 hv hn hc hf
  go_wp2_with fail
  refine (isOk _ _).mono ?_
  rintro e w3 ⟨rfl, rfl⟩
  go_wp2
  go_ret
  exact ⟨rfl, below_new HB2.out _⟩

theorem ats_any (lv y mo d h mi s p dg zn : Int) (z : Bool) (tick : Int) (w : World) (hM : Months w) (hE : ErrType w) :
    Calls Tryd.prog 7 #[.agg #[.int .i64 lv, .int .i64 y, .int .i64 mo, .int .i64 d, .int .i64 h, .int .i64 mi, .int .i64 s, .int .i64 p, .int .i64 dg, .bool z, .int .i64 zn], .int .i64 tick] w fun e w' => e = .returned (.bool true) ∧ Below w.heap.size w w' := by
  cases hr : rightB lv y mo d h mi s p dg zn z with
  | false => exact ats_bad hr tick w hM hE
  | true =>
    by_cases h6 : lv = 6
    · subst h6
      cases z
      · by_cases t0 : tick < 0
        · exact ats_neg hr tick w hM hE t0
        · by_cases t1 : 1099511627776 < tick
          · exact ats_far hr tick w hM hE t1
          · exact ats_ok hr tick w hM hE (by omega) (by omega)
      · exact ats_zone hr tick w hM hE
    · exact ats_level hr h6 tick w hM hE
end Go.Proofs.YtohaiibecniacabDoor
