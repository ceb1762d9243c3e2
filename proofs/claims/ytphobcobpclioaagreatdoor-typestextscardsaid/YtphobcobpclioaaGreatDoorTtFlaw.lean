/-
  The document's Primitive and flaw.
-/
import Derived.Test.YtphobcobpclioaaGreatDoorTtTOf
import Derived.Test.YtphobcobpclioaaGreatDoorTtDate
import Derived.Test.YtphobcobpclioaaGreatDoorTtJudge
namespace Go.Proofs.YtphobcobpclioaaGreatDoor.Td
open Go.RowKit

theorem six {α : Type} {l : List α} (h : l.length = 6) : ∃ a b c d e f, l = [a, b, c, d, e, f] := by
  match l, h with
  | [a, b, c, d, e, f], _ => exact ⟨a, b, c, d, e, f, rfl⟩
theorem u8_of {a : UInt8} {n : Nat} (h : a.toNat = n) (hn : n < 256) : a = UInt8.ofNat n := UInt8.toNat_inj.1 (by rw [h]; simp; omega)
theorem tabN_nums {n : Nat} (h : tabN n ≠ none) : n = 3 ∨ n = 8 ∨ n = 61 ∨ n = 76 ∨ n = 103 ∨ n = 104 ∨ n = 155 ∨ n = 357 ∨ n = 516 := by
  by_cases g : n = 3 ∨ n = 8 ∨ n = 61 ∨ n = 76 ∨ n = 103 ∨ n = 104 ∨ n = 155 ∨ n = 357 ∨ n = 516
  · exact g
  · exfalso
    apply h
    unfold tabN
    rw [if_neg (by omega), if_neg (by omega), if_neg (by omega), if_neg (by omega), if_neg (by omega), if_neg (by omega), if_neg (by omega), if_neg (by omega), if_neg (by omega)]
theorem tno_none {l : List UInt8} (h : tabOf l = none) : tno l = 0 := by
  unfold tno
  split
  · rename_i g
    obtain ⟨h6, h2, d2, d3, d4, d5⟩ := g
    split
    · rfl
    · rename_i ht
      exfalso
      obtain ⟨a, b, c, d, e, f, rfl⟩ := six h6
      simp only [List.take_succ_cons, List.take_zero, List.cons.injEq, and_true] at h2
      obtain ⟨rfl, rfl⟩ := h2
      have hn : nvS [73, 68, c, d, e, f] 6 = 1000 * (c.toNat - 48) + 100 * (d.toNat - 48) + 10 * (e.toNat - 48) + (f.toNat - 48) := by
        simp [nvS]; omega
      rw [hn] at ht
      have b2 := dg_yes (b := c) d2
      have b3 := dg_yes (b := d) d3
      have b4 := dg_yes (b := e) d4
      have b5 := dg_yes (b := f) d5
      rcases tabN_nums ht with q | q | q | q | q | q | q | q | q
      · obtain rfl := u8_of (a := c) (n := 48) (by omega) (by omega)
        obtain rfl := u8_of (a := d) (n := 48) (by omega) (by omega)
        obtain rfl := u8_of (a := e) (n := 48) (by omega) (by omega)
        obtain rfl := u8_of (a := f) (n := 51) (by omega) (by omega)
        revert h; decide
      · obtain rfl := u8_of (a := c) (n := 48) (by omega) (by omega)
        obtain rfl := u8_of (a := d) (n := 48) (by omega) (by omega)
        obtain rfl := u8_of (a := e) (n := 48) (by omega) (by omega)
        obtain rfl := u8_of (a := f) (n := 56) (by omega) (by omega)
        revert h; decide
      · obtain rfl := u8_of (a := c) (n := 48) (by omega) (by omega)
        obtain rfl := u8_of (a := d) (n := 48) (by omega) (by omega)
        obtain rfl := u8_of (a := e) (n := 54) (by omega) (by omega)
        obtain rfl := u8_of (a := f) (n := 49) (by omega) (by omega)
        revert h; decide
      · obtain rfl := u8_of (a := c) (n := 48) (by omega) (by omega)
        obtain rfl := u8_of (a := d) (n := 48) (by omega) (by omega)
        obtain rfl := u8_of (a := e) (n := 55) (by omega) (by omega)
        obtain rfl := u8_of (a := f) (n := 54) (by omega) (by omega)
        revert h; decide
      · obtain rfl := u8_of (a := c) (n := 48) (by omega) (by omega)
        obtain rfl := u8_of (a := d) (n := 49) (by omega) (by omega)
        obtain rfl := u8_of (a := e) (n := 48) (by omega) (by omega)
        obtain rfl := u8_of (a := f) (n := 51) (by omega) (by omega)
        revert h; decide
      · obtain rfl := u8_of (a := c) (n := 48) (by omega) (by omega)
        obtain rfl := u8_of (a := d) (n := 49) (by omega) (by omega)
        obtain rfl := u8_of (a := e) (n := 48) (by omega) (by omega)
        obtain rfl := u8_of (a := f) (n := 52) (by omega) (by omega)
        revert h; decide
      · obtain rfl := u8_of (a := c) (n := 48) (by omega) (by omega)
        obtain rfl := u8_of (a := d) (n := 49) (by omega) (by omega)
        obtain rfl := u8_of (a := e) (n := 53) (by omega) (by omega)
        obtain rfl := u8_of (a := f) (n := 53) (by omega) (by omega)
        revert h; decide
      · obtain rfl := u8_of (a := c) (n := 48) (by omega) (by omega)
        obtain rfl := u8_of (a := d) (n := 51) (by omega) (by omega)
        obtain rfl := u8_of (a := e) (n := 53) (by omega) (by omega)
        obtain rfl := u8_of (a := f) (n := 55) (by omega) (by omega)
        revert h; decide
      · obtain rfl := u8_of (a := c) (n := 48) (by omega) (by omega)
        obtain rfl := u8_of (a := d) (n := 53) (by omega) (by omega)
        obtain rfl := u8_of (a := e) (n := 49) (by omega) (by omega)
        obtain rfl := u8_of (a := f) (n := 54) (by omega) (by omega)
        revert h; decide
  · rfl
theorem tno_some {l : List UInt8} {L : List (List UInt8)} (h : tabOf l = some L) : 0 < tno l ∧ tabN (tno l) = some L ∧ 0 < L.length ∧ L.length ≤ 100 := by
  by_cases h0 : l = [73, 68, 48, 48, 48, 51]
  · subst h0
    rw [tab_at0] at h
    obtain rfl := Option.some.inj h
    exact ⟨by decide, by decide, by decide, by decide⟩
  by_cases h1 : l = [73, 68, 48, 48, 48, 56]
  · subst h1
    rw [tab_at1] at h
    obtain rfl := Option.some.inj h
    exact ⟨by decide, by decide, by decide, by decide⟩
  by_cases h2 : l = [73, 68, 48, 48, 54, 49]
  · subst h2
    rw [tab_at2] at h
    obtain rfl := Option.some.inj h
    exact ⟨by decide, by decide, by decide, by decide⟩
  by_cases h3 : l = [73, 68, 48, 48, 55, 54]
  · subst h3
    rw [tab_at3] at h
    obtain rfl := Option.some.inj h
    exact ⟨by decide, by decide, by decide, by decide⟩
  by_cases h4 : l = [73, 68, 48, 49, 48, 51]
  · subst h4
    rw [tab_at4] at h
    obtain rfl := Option.some.inj h
    exact ⟨by decide, by decide, by decide, by decide⟩
  by_cases h5 : l = [73, 68, 48, 49, 48, 52]
  · subst h5
    rw [tab_at5] at h
    obtain rfl := Option.some.inj h
    exact ⟨by decide, by decide, by decide, by decide⟩
  by_cases h6 : l = [73, 68, 48, 49, 53, 53]
  · subst h6
    rw [tab_at6] at h
    obtain rfl := Option.some.inj h
    exact ⟨by decide, by decide, by decide, by decide⟩
  by_cases h7 : l = [73, 68, 48, 51, 53, 55]
  · subst h7
    rw [tab_at7] at h
    obtain rfl := Option.some.inj h
    exact ⟨by decide, by decide, by decide, by decide⟩
  by_cases h8 : l = [73, 68, 48, 53, 49, 54]
  · subst h8
    rw [tab_at8] at h
    obtain rfl := Option.some.inj h
    exact ⟨by decide, by decide, by decide, by decide⟩
  rw [tab_none (fun i hi e => by
    rcases (by omega : i = 0 ∨ i = 1 ∨ i = 2 ∨ i = 3 ∨ i = 4 ∨ i = 5 ∨ i = 6 ∨ i = 7 ∨ i = 8) with rfl | rfl | rfl | rfl | rfl | rfl | rfl | rfl | rfl
    · exact h0 e.symm
    · exact h1 e.symm
    · exact h2 e.symm
    · exact h3 e.symm
    · exact h4 e.symm
    · exact h5 e.symm
    · exact h6 e.symm
    · exact h7 e.symm
    · exact h8 e.symm)] at h
  cases h
theorem tof_st (w : World) : Calls Tryz.prog 30 #[.string ⟨#[83, 84]⟩] w fun e w' => e = .returned (.int .i64 0) ∧ Below w.heap.size w w' := by
  have c := tableOf_any ⟨#[83, 84]⟩ w
  rw [show tno (bl ⟨#[83, 84]⟩) = 0 from by decide] at c
  exact c
set_option maxHeartbeats 1000000 in
theorem rprim_st (w : World) : Calls Tryz.prog 12 #[.string ⟨#[83, 84]⟩] w fun e w' => e = .returned (.bool true) ∧ Below w.heap.size w w' := by
  go_enter Tryz.func12, Tryz.ntmps12
  go_wp2_with fail
  go_ret
  exact ⟨rfl, Below.refl _ _⟩
theorem tof_tx (w : World) : Calls Tryz.prog 30 #[.string ⟨#[84, 88]⟩] w fun e w' => e = .returned (.int .i64 0) ∧ Below w.heap.size w w' := by
  have c := tableOf_any ⟨#[84, 88]⟩ w
  rw [show tno (bl ⟨#[84, 88]⟩) = 0 from by decide] at c
  exact c
set_option maxHeartbeats 1000000 in
theorem rprim_tx (w : World) : Calls Tryz.prog 12 #[.string ⟨#[84, 88]⟩] w fun e w' => e = .returned (.bool true) ∧ Below w.heap.size w w' := by
  go_enter Tryz.func12, Tryz.ntmps12
  go_wp2_with fail
  go_ret
  exact ⟨rfl, Below.refl _ _⟩
theorem tof_ft (w : World) : Calls Tryz.prog 30 #[.string ⟨#[70, 84]⟩] w fun e w' => e = .returned (.int .i64 0) ∧ Below w.heap.size w w' := by
  have c := tableOf_any ⟨#[70, 84]⟩ w
  rw [show tno (bl ⟨#[70, 84]⟩) = 0 from by decide] at c
  exact c
set_option maxHeartbeats 1000000 in
theorem rprim_ft (w : World) : Calls Tryz.prog 12 #[.string ⟨#[70, 84]⟩] w fun e w' => e = .returned (.bool true) ∧ Below w.heap.size w w' := by
  go_enter Tryz.func12, Tryz.ntmps12
  go_wp2_with fail
  go_ret
  exact ⟨rfl, Below.refl _ _⟩
theorem tof_nm (w : World) : Calls Tryz.prog 30 #[.string ⟨#[78, 77]⟩] w fun e w' => e = .returned (.int .i64 0) ∧ Below w.heap.size w w' := by
  have c := tableOf_any ⟨#[78, 77]⟩ w
  rw [show tno (bl ⟨#[78, 77]⟩) = 0 from by decide] at c
  exact c
set_option maxHeartbeats 1000000 in
theorem rprim_nm (w : World) : Calls Tryz.prog 12 #[.string ⟨#[78, 77]⟩] w fun e w' => e = .returned (.bool true) ∧ Below w.heap.size w w' := by
  go_enter Tryz.func12, Tryz.ntmps12
  go_wp2_with fail
  go_ret
  exact ⟨rfl, Below.refl _ _⟩
theorem tof_si (w : World) : Calls Tryz.prog 30 #[.string ⟨#[83, 73]⟩] w fun e w' => e = .returned (.int .i64 0) ∧ Below w.heap.size w w' := by
  have c := tableOf_any ⟨#[83, 73]⟩ w
  rw [show tno (bl ⟨#[83, 73]⟩) = 0 from by decide] at c
  exact c
set_option maxHeartbeats 1000000 in
theorem rprim_si (w : World) : Calls Tryz.prog 12 #[.string ⟨#[83, 73]⟩] w fun e w' => e = .returned (.bool true) ∧ Below w.heap.size w w' := by
  go_enter Tryz.func12, Tryz.ntmps12
  go_wp2_with fail
  go_ret
  exact ⟨rfl, Below.refl _ _⟩
theorem tof_id (w : World) : Calls Tryz.prog 30 #[.string ⟨#[73, 68]⟩] w fun e w' => e = .returned (.int .i64 0) ∧ Below w.heap.size w w' := by
  have c := tableOf_any ⟨#[73, 68]⟩ w
  rw [show tno (bl ⟨#[73, 68]⟩) = 0 from by decide] at c
  exact c
set_option maxHeartbeats 1000000 in
theorem rprim_id (w : World) : Calls Tryz.prog 12 #[.string ⟨#[73, 68]⟩] w fun e w' => e = .returned (.bool true) ∧ Below w.heap.size w w' := by
  go_enter Tryz.func12, Tryz.ntmps12
  go_wp2_with fail
  go_ret
  exact ⟨rfl, Below.refl _ _⟩
theorem tof_is (w : World) : Calls Tryz.prog 30 #[.string ⟨#[73, 83]⟩] w fun e w' => e = .returned (.int .i64 0) ∧ Below w.heap.size w w' := by
  have c := tableOf_any ⟨#[73, 83]⟩ w
  rw [show tno (bl ⟨#[73, 83]⟩) = 0 from by decide] at c
  exact c
set_option maxHeartbeats 1000000 in
theorem rprim_is (w : World) : Calls Tryz.prog 12 #[.string ⟨#[73, 83]⟩] w fun e w' => e = .returned (.bool true) ∧ Below w.heap.size w w' := by
  go_enter Tryz.func12, Tryz.ntmps12
  go_wp2_with fail
  go_ret
  exact ⟨rfl, Below.refl _ _⟩
theorem tof_dt (w : World) : Calls Tryz.prog 30 #[.string ⟨#[68, 84]⟩] w fun e w' => e = .returned (.int .i64 0) ∧ Below w.heap.size w w' := by
  have c := tableOf_any ⟨#[68, 84]⟩ w
  rw [show tno (bl ⟨#[68, 84]⟩) = 0 from by decide] at c
  exact c
set_option maxHeartbeats 1000000 in
theorem rprim_dt (w : World) : Calls Tryz.prog 12 #[.string ⟨#[68, 84]⟩] w fun e w' => e = .returned (.bool true) ∧ Below w.heap.size w w' := by
  go_enter Tryz.func12, Tryz.ntmps12
  go_wp2_with fail
  go_ret
  exact ⟨rfl, Below.refl _ _⟩
theorem tof_tm (w : World) : Calls Tryz.prog 30 #[.string ⟨#[84, 77]⟩] w fun e w' => e = .returned (.int .i64 0) ∧ Below w.heap.size w w' := by
  have c := tableOf_any ⟨#[84, 77]⟩ w
  rw [show tno (bl ⟨#[84, 77]⟩) = 0 from by decide] at c
  exact c
set_option maxHeartbeats 1000000 in
theorem rprim_tm (w : World) : Calls Tryz.prog 12 #[.string ⟨#[84, 77]⟩] w fun e w' => e = .returned (.bool true) ∧ Below w.heap.size w w' := by
  go_enter Tryz.func12, Tryz.ntmps12
  go_wp2_with fail
  go_ret
  exact ⟨rfl, Below.refl _ _⟩
theorem tof_ts (w : World) : Calls Tryz.prog 30 #[.string ⟨#[84, 83]⟩] w fun e w' => e = .returned (.int .i64 0) ∧ Below w.heap.size w w' := by
  have c := tableOf_any ⟨#[84, 83]⟩ w
  rw [show tno (bl ⟨#[84, 83]⟩) = 0 from by decide] at c
  exact c
set_option maxHeartbeats 1000000 in
theorem rprim_ts (w : World) : Calls Tryz.prog 12 #[.string ⟨#[84, 83]⟩] w fun e w' => e = .returned (.bool true) ∧ Below w.heap.size w w' := by
  go_enter Tryz.func12, Tryz.ntmps12
  go_wp2_with fail
  go_ret
  exact ⟨rfl, Below.refl _ _⟩
set_option maxHeartbeats 1000000 in
theorem rprim_rest (k : ByteArray) (w : World) (h0 : (k.toList == [83, 84]) = false) (h1 : (k.toList == [84, 88]) = false) (h2 : (k.toList == [70, 84]) = false) (h3 : (k.toList == [78, 77]) = false) (h4 : (k.toList == [83, 73]) = false) (h5 : (k.toList == [73, 68]) = false) (h6 : (k.toList == [73, 83]) = false) (h7 : (k.toList == [68, 84]) = false) (h8 : (k.toList == [84, 77]) = false) (h9 : (k.toList == [84, 83]) = false) (b : Bool) (hb : b = decide (0 < tno (bl k))) : Calls Tryz.prog 12 #[.string k] w fun e w' => e = .returned (.bool b) ∧ Below w.heap.size w w' := by
  have HT : Hid (∀ w, Calls Tryz.prog 30 #[.string k] w fun e w' => e = .returned (.int .i64 (tno (bl k))) ∧ Below w.heap.size w w') := fun w => tableOf_any k w
  obtain ⟨n, hn⟩ : ∃ n, tno (bl k) = n := ⟨_, rfl⟩
  rw [hn] at HT hb
  clear hn
  have HB : Hid (b = decide (0 < n)) := hb
  clear hb
  go_enter Tryz.func12, Tryz.ntmps12
  go_wp2_with fail
  refine (HT.out _).mono ?_
  rintro _ w1 ⟨rfl, hb⟩
  have H1 : Hid (Below w.heap.size w w1) := hb
  clear hb HT
  by_cases h0 : 0 < n
  · have hi : (0 : Int) < n := by omega
    go_wp2_with fail
    go_ret
    exact ⟨ret_bool (by rw [HB.out]; simp [h0]), H1.out⟩
  · have hi : ¬ (0 : Int) < n := by omega
    go_wp2_with fail
    go_ret
    exact ⟨ret_bool (by rw [HB.out]; simp [h0]), H1.out⟩
set_option maxRecDepth 100000 in
set_option maxHeartbeats 2000000 in
theorem rflaw_st (s : ByteArray) (w : World) (hs : s.size ≤ 8192) : Calls Tryz.prog 14 #[.string ⟨#[83, 84]⟩, .string s] w fun e w' => e = .returned (.int .i64 (if decide (s.size ≤ 199) then 0 else 102)) ∧ Below w.heap.size w w' := by
  by_cases h : s.size ≤ 199
  · have hi : (s.size : Int) ≤ 199 := by omega
    rw [decide_eq_true h]
    go_enter Tryz.func14, Tryz.ntmps14
    go_wp2_with fail
    refine (tof_st _).mono ?_
    rintro _ w2 ⟨rfl, hb⟩
    have H2 : Hid (Below w.heap.size w w2) := hb
    clear hb
    go_wp2_with fail
    go_ret
    exact ⟨rfl, H2.out⟩
  · have hi : ¬ (s.size : Int) ≤ 199 := by omega
    rw [decide_eq_false h]
    go_enter Tryz.func14, Tryz.ntmps14
    go_wp2_with fail
    go_ret
    exact ⟨rfl, Below.refl _ _⟩
set_option maxRecDepth 100000 in
set_option maxHeartbeats 2000000 in
theorem rflaw_tx (s : ByteArray) (w : World) (_hs : s.size ≤ 8192) : Calls Tryz.prog 14 #[.string ⟨#[84, 88]⟩, .string s] w fun e w' => e = .returned (.int .i64 (if true then 0 else 102)) ∧ Below w.heap.size w w' := by
  go_enter Tryz.func14, Tryz.ntmps14
  go_wp2_with fail
  refine (tof_tx _).mono ?_
  rintro _ w2 ⟨rfl, hb⟩
  have H2 : Hid (Below w.heap.size w w2) := hb
  clear hb
  go_wp2_with fail
  go_ret
  exact ⟨rfl, H2.out⟩
set_option maxRecDepth 100000 in
set_option maxHeartbeats 2000000 in
theorem rflaw_ft (s : ByteArray) (w : World) (_hs : s.size ≤ 8192) : Calls Tryz.prog 14 #[.string ⟨#[70, 84]⟩, .string s] w fun e w' => e = .returned (.int .i64 (if true then 0 else 102)) ∧ Below w.heap.size w w' := by
  go_enter Tryz.func14, Tryz.ntmps14
  go_wp2_with fail
  refine (tof_ft _).mono ?_
  rintro _ w2 ⟨rfl, hb⟩
  have H2 : Hid (Below w.heap.size w w2) := hb
  clear hb
  go_wp2_with fail
  go_ret
  exact ⟨rfl, H2.out⟩
theorem isNm_zero {s : ByteArray} (h : s.size = 0) : isNm (bl s) = false := by rw [bl_nil h]; rfl
theorem rdec_q (s : ByteArray) (w : World) : Calls Tryz.prog 31 #[.string s] w fun r w' => (∃ x y z, r = .returned (.tuple #[.string x, .string y, .bool z, .bool (isNm (bl s))])) ∧ Below w.heap.size w w' := by
  by_cases h : s.size = 0 ∨ 16 < s.size
  · refine (rdecimal_bad s w h).mono ?_
    rintro _ w' ⟨rfl, hb⟩
    have e : isNm (bl s) = false := by
      rcases h with h | h
      · exact isNm_zero h
      · exact nm_long h
    exact ⟨⟨_, _, _, by rw [e]⟩, hb⟩
  · refine (rdecimal_ok s w (by omega) (by omega)).mono ?_
    rintro _ w' ⟨rfl, hb⟩
    refine ⟨⟨⟨(cutA (uns (bl s))).toArray⟩, ⟨(cutB (uns (bl s))).toArray⟩, ((bl s).head? == some 45), ?_⟩, hb⟩
    unfold rdV isNm
    rw [decide_eq_true (by rw [bl_len]; omega : (bl s).length ≤ 16), Bool.true_and]
set_option maxRecDepth 100000 in
set_option maxHeartbeats 2000000 in
theorem rflaw_nm (s : ByteArray) (w : World) (_hs : s.size ≤ 8192) : Calls Tryz.prog 14 #[.string ⟨#[78, 77]⟩, .string s] w fun e w' => e = .returned (.int .i64 (if isNm (bl s) then 0 else 102)) ∧ Below w.heap.size w w' := by
  have HC : Hid (type_of% (rdec_q s w)) := rdec_q s w
  obtain ⟨q, hq⟩ : ∃ q, isNm (bl s) = q := ⟨_, rfl⟩
  rw [hq] at HC ⊢
  clear hq
  go_enter Tryz.func14, Tryz.ntmps14
  go_wp2_with fail
  refine HC.out.mono ?_
  rintro _ w1 ⟨⟨x, y, z, rfl⟩, hb⟩
  have H1 : Hid (Below w.heap.size w w1) := hb
  clear hb HC
  cases q with
  | false =>
    go_wp2_with fail
    go_ret
    exact ⟨rfl, H1.out⟩
  | true =>
    go_wp2_with fail
    refine (tof_nm _).mono ?_
    rintro _ w2 ⟨rfl, hb⟩
    have H2 : Hid (Below w.heap.size w w2) := below_then H1.out hb
    clear hb
    go_wp2_with fail
    go_ret
    exact ⟨rfl, H2.out⟩
set_option maxRecDepth 100000 in
set_option maxHeartbeats 2000000 in
theorem rflaw_si (s : ByteArray) (w : World) (hs : s.size ≤ 8192) : Calls Tryz.prog 14 #[.string ⟨#[83, 73]⟩, .string s] w fun e w' => e = .returned (.int .i64 (if isCt (bl s) then 0 else 102)) ∧ Below w.heap.size w w' := by
  have HC : Hid (type_of% (rdigits_any s w (by omega))) := rdigits_any s w (by omega)
  have HE : Hid (isCt (bl s) = (dgs (bl s) && decide (s.size ≤ 4))) := by unfold Hid isCt; rw [bl_len]
  obtain ⟨q, hq⟩ : ∃ q, isCt (bl s) = q := ⟨_, rfl⟩
  obtain ⟨d, hd⟩ : ∃ d, dgs (bl s) = d := ⟨_, rfl⟩
  rw [hd] at HC HE
  rw [hq] at HE ⊢
  clear hq hd
  go_enter Tryz.func14, Tryz.ntmps14
  go_wp2_with fail
  refine HC.out.mono ?_
  rintro _ w1 ⟨rfl, hb⟩
  have H1 : Hid (Below w.heap.size w w1) := hb
  clear hb HC
  cases d with
  | false =>
    obtain rfl : q = false := by rw [HE.out]; rfl
    go_wp2_with fail
    go_ret
    exact ⟨rfl, H1.out⟩
  | true =>
    by_cases h4 : s.size ≤ 4
    · have h4i : (s.size : Int) ≤ 4 := by omega
      obtain rfl : q = true := by rw [HE.out]; simp [h4]
      go_wp2_with fail
      refine (tof_si _).mono ?_
      rintro _ w2 ⟨rfl, hb⟩
      have H2 : Hid (Below w.heap.size w w2) := below_then H1.out hb
      clear hb
      go_wp2_with fail
      go_ret
      exact ⟨rfl, H2.out⟩
    · have h4i : decide ((s.size : Int) ≤ 4) = false := by simp; omega
      obtain rfl : q = false := by rw [HE.out]; simp [h4]
      go_wp2_with fail
      go_ret
      exact ⟨rfl, H1.out⟩
set_option maxRecDepth 100000 in
set_option maxHeartbeats 2000000 in
theorem rflaw_id (s : ByteArray) (w : World) (hs : s.size ≤ 8192) : Calls Tryz.prog 14 #[.string ⟨#[73, 68]⟩, .string s] w fun e w' => e = .returned (.int .i64 (if isCd (bl s) then 0 else 102)) ∧ Below w.heap.size w w' := by
  have HC : Hid (type_of% (rcode_any s w (by omega))) := rcode_any s w (by omega)
  obtain ⟨q, hq⟩ : ∃ q, isCd (bl s) = q := ⟨_, rfl⟩
  rw [hq] at HC ⊢
  clear hq
  go_enter Tryz.func14, Tryz.ntmps14
  go_wp2_with fail
  refine HC.out.mono ?_
  rintro _ w1 ⟨rfl, hb⟩
  have H1 : Hid (Below w.heap.size w w1) := hb
  clear hb HC
  cases q with
  | false =>
    go_wp2_with fail
    go_ret
    exact ⟨rfl, H1.out⟩
  | true =>
    go_wp2_with fail
    refine (tof_id _).mono ?_
    rintro _ w2 ⟨rfl, hb⟩
    have H2 : Hid (Below w.heap.size w w2) := below_then H1.out hb
    clear hb
    go_wp2_with fail
    go_ret
    exact ⟨rfl, H2.out⟩
set_option maxRecDepth 100000 in
set_option maxHeartbeats 2000000 in
theorem rflaw_is (s : ByteArray) (w : World) (hs : s.size ≤ 8192) : Calls Tryz.prog 14 #[.string ⟨#[73, 83]⟩, .string s] w fun e w' => e = .returned (.int .i64 (if isCd (bl s) then 0 else 102)) ∧ Below w.heap.size w w' := by
  have HC : Hid (type_of% (rcode_any s w (by omega))) := rcode_any s w (by omega)
  obtain ⟨q, hq⟩ : ∃ q, isCd (bl s) = q := ⟨_, rfl⟩
  rw [hq] at HC ⊢
  clear hq
  go_enter Tryz.func14, Tryz.ntmps14
  go_wp2_with fail
  refine HC.out.mono ?_
  rintro _ w1 ⟨rfl, hb⟩
  have H1 : Hid (Below w.heap.size w w1) := hb
  clear hb HC
  cases q with
  | false =>
    go_wp2_with fail
    go_ret
    exact ⟨rfl, H1.out⟩
  | true =>
    go_wp2_with fail
    refine (tof_is _).mono ?_
    rintro _ w2 ⟨rfl, hb⟩
    have H2 : Hid (Below w.heap.size w w2) := below_then H1.out hb
    clear hb
    go_wp2_with fail
    go_ret
    exact ⟨rfl, H2.out⟩
set_option maxRecDepth 100000 in
set_option maxHeartbeats 2000000 in
theorem rflaw_dt (s : ByteArray) (w : World) (hs : s.size ≤ 8192) : Calls Tryz.prog 14 #[.string ⟨#[68, 84]⟩, .string s] w fun e w' => e = .returned (.int .i64 (if (dateE s).isNone then 0 else 102)) ∧ Below w.heap.size w w' := by
  have HC : Hid (type_of% (refDate_any s w (by unfold maxLen; omega))) := refDate_any s w (by unfold maxLen; omega)
  cases hE : dateE s with
  | none =>
    rw [hE] at HC
    clear hE
    have HC2 : Hid (Calls Tryz.prog 33 #[.string s] w fun e w' => e = .returned (.tuple #[.int .i64 0, .int .i64 0]) ∧ Below w.heap.size w w') := HC.out
    clear HC
    go_enter Tryz.func14, Tryz.ntmps14
    go_wp2_with fail
    refine HC2.out.mono ?_
    rintro _ w1 ⟨rfl, hb⟩
    have H1 : Hid (Below w.heap.size w w1) := hb
    clear hb HC2
    go_wp2_with fail
    refine (tof_dt _).mono ?_
    rintro _ w2 ⟨rfl, hb⟩
    have H2 : Hid (Below w.heap.size w w2) := below_then H1.out hb
    clear hb
    go_wp2_with fail
    go_ret
    exact ⟨rfl, H2.out⟩
  | some p =>
    rw [hE] at HC
    clear hE
    have HC2 : Hid (Calls Tryz.prog 33 #[.string s] w fun e w' => e = .returned (.tuple #[.int .i64 (p : Int), .int .i64 10]) ∧ Below w.heap.size w w') := HC.out
    clear HC
    go_enter Tryz.func14, Tryz.ntmps14
    go_wp2_with fail
    refine HC2.out.mono ?_
    rintro _ w1 ⟨rfl, hb⟩
    have H1 : Hid (Below w.heap.size w w1) := hb
    clear hb HC2
    go_wp2_with fail
    go_ret
    exact ⟨rfl, H1.out⟩
set_option maxRecDepth 100000 in
set_option maxHeartbeats 2000000 in
theorem rflaw_tm (s : ByteArray) (w : World) (hs : s.size ≤ 8192) : Calls Tryz.prog 14 #[.string ⟨#[84, 77]⟩, .string s] w fun e w' => e = .returned (.int .i64 (if (timeE s).isNone then 0 else 102)) ∧ Below w.heap.size w w' := by
  have HC : Hid (type_of% (refTime_any s w (by unfold maxLen; omega))) := refTime_any s w (by unfold maxLen; omega)
  cases hE : timeE s with
  | none =>
    rw [hE] at HC
    clear hE
    have HC2 : Hid (Calls Tryz.prog 34 #[.string s] w fun e w' => e = .returned (.tuple #[.int .i64 0, .int .i64 0]) ∧ Below w.heap.size w w') := HC.out
    clear HC
    go_enter Tryz.func14, Tryz.ntmps14
    go_wp2_with fail
    refine HC2.out.mono ?_
    rintro _ w1 ⟨rfl, hb⟩
    have H1 : Hid (Below w.heap.size w w1) := hb
    clear hb HC2
    go_wp2_with fail
    refine (tof_tm _).mono ?_
    rintro _ w2 ⟨rfl, hb⟩
    have H2 : Hid (Below w.heap.size w w2) := below_then H1.out hb
    clear hb
    go_wp2_with fail
    go_ret
    exact ⟨rfl, H2.out⟩
  | some p =>
    rw [hE] at HC
    clear hE
    have HC2 : Hid (Calls Tryz.prog 34 #[.string s] w fun e w' => e = .returned (.tuple #[.int .i64 (p : Int), .int .i64 10]) ∧ Below w.heap.size w w') := HC.out
    clear HC
    go_enter Tryz.func14, Tryz.ntmps14
    go_wp2_with fail
    refine HC2.out.mono ?_
    rintro _ w1 ⟨rfl, hb⟩
    have H1 : Hid (Below w.heap.size w w1) := hb
    clear hb HC2
    go_wp2_with fail
    go_ret
    exact ⟨rfl, H1.out⟩
set_option maxRecDepth 100000 in
set_option maxHeartbeats 2000000 in
theorem rflaw_ts (s : ByteArray) (w : World) (hs : s.size ≤ 8192) : Calls Tryz.prog 14 #[.string ⟨#[84, 83]⟩, .string s] w fun e w' => e = .returned (.int .i64 (if (parE s).isNone then 0 else 102)) ∧ Below w.heap.size w w' := by
  obtain ⟨⟨lv, y, mo, d, A, B⟩, hd⟩ : ∃ x, dateS s 0 none = x := ⟨_, rfl⟩
  obtain ⟨⟨lv2, h, mi, sc, p, dg, A2, B2⟩, hc⟩ : ∃ x, clkS s A B lv = x := ⟨_, rfl⟩
  obtain ⟨⟨Z, ZN, A3, B3⟩, hz⟩ : ∃ x, zoneS s A2 B2 = x := ⟨_, rfl⟩
  obtain ⟨E, he⟩ : ∃ x, endB s A3 B3 = x := ⟨_, rfl⟩
  have hp : parE s = E := by simp only [parE, hd, hc, hz, he]
  have HC := refParse_any s w (by unfold maxLen; omega) hd hc hz he
  have HC : Hid (type_of% HC) := HC
  rw [hp]
  clear hd hc hz he hp
  cases E with
  | none =>
    go_enter Tryz.func14, Tryz.ntmps14
    go_wp2_with fail
    refine HC.out.mono ?_
    rintro e w1 ⟨he, hb⟩
    obtain rfl : e = _ := he
    have H1 : Hid (Below w.heap.size w w1) := hb
    clear hb HC
    go_wp2_with fail
    refine (tof_ts _).mono ?_
    rintro _ w2 ⟨rfl, hb⟩
    have H2 : Hid (Below w.heap.size w w2) := below_then (H1.out.alloc H1.out.size _) hb
    clear hb
    go_wp2_with fail
    go_ret
    exact ⟨rfl, H2.out⟩
  | some e0 =>
    go_enter Tryz.func14, Tryz.ntmps14
    go_wp2_with fail
    refine HC.out.mono ?_
    rintro e w1 ⟨he, hb⟩
    obtain rfl : e = _ := he
    have H1 : Hid (Below w.heap.size w w1) := hb
    clear hb HC
    go_wp2_with fail
    go_ret
    exact ⟨rfl, H1.out.alloc H1.out.size _⟩
/-- The flaw that a text of a kind with a table has. -/
def fT (l : List (List UInt8)) (s : ByteArray) : Int := if isCd (bl s) then (if bl s ∈ l then 0 else 103) else 102
set_option maxRecDepth 100000 in
set_option maxHeartbeats 2000000 in
theorem rflaw_rest (k s : ByteArray) (l : List (List UInt8)) (w : World) (ht : tabOf (bl k) = some l) (hs : s.size ≤ 8192) (h0 : (k.toList == [83, 84]) = false) (h1 : (k.toList == [84, 88]) = false) (h2 : (k.toList == [70, 84]) = false) (h3 : (k.toList == [78, 77]) = false) (h4 : (k.toList == [83, 73]) = false) (_h5 : (k.toList == [73, 68]) = false) (_h6 : (k.toList == [73, 83]) = false) (h7 : (k.toList == [68, 84]) = false) (h8 : (k.toList == [84, 77]) = false) (h9 : (k.toList == [84, 83]) = false) :
    Calls Tryz.prog 14 #[.string k, .string s] w fun e w' => e = .returned (.int .i64 (fT l s)) ∧ Below w.heap.size w w' := by
  obtain ⟨t1, t2, t3, t4⟩ := tno_some ht
  have HC : Hid (type_of% (rcode_any s w (by omega))) := rcode_any s w (by omega)
  have HT : Hid (∀ w, Calls Tryz.prog 30 #[.string k] w fun e w' => e = .returned (.int .i64 (tno (bl k))) ∧ Below w.heap.size w w') := fun w => tableOf_any k w
  obtain ⟨n, hn⟩ : ∃ n, tno (bl k) = n := ⟨_, rfl⟩
  rw [hn] at HT t1 t2
  have hni : (0 : Int) < n := by omega
  have HN : Hid (∀ w, Calls Tryz.prog 38 #[.int .i64 n] w fun e w' => ∃ b c, e = .returned (.slice (some ⟨b, 0, none⟩) l.length c) ∧ Strs w' b l ∧ Below w.heap.size w w') := fun w => (table_any n w).mono fun e w' h => by
    obtain ⟨⟨L, b, c, g1, g2, _, _, rfl⟩ | ⟨g1, _⟩, hb⟩ := h
    · obtain rfl : L = l := Option.some.inj (g1.symm.trans t2)
      exact ⟨b, c, rfl, g2, hb⟩
    · rw [t2] at g1; cases g1
  obtain ⟨q, hq⟩ : ∃ q, isCd (bl s) = q := ⟨_, rfl⟩
  obtain ⟨m, hm⟩ : ∃ m, decide (bl s ∈ l) = m := ⟨_, rfl⟩
  have HJ : Hid (fT l s = if q then (if m then 0 else 103) else 102) := by unfold Hid fT; rw [← hq, ← hm]; simp
  have HM : Hid (∀ w b c, Strs w b l → Calls Tryz.prog 37 #[.slice (some ⟨b, 0, none⟩) l.length c, .string s] w fun e w' => e = .returned (.bool m) ∧ Below w.heap.size w w') := fun w b c h => hm ▸ in_any b c l s w h t4
  rw [hq] at HC
  rw [HJ.out]
  clear hq hm hn t1 t2 t3 t4 ht
  go_enter Tryz.func14, Tryz.ntmps14
  go_wp2_with fail
  refine HC.out.mono ?_
  rintro _ w1 ⟨rfl, hb⟩
  have H1 : Hid (Below w.heap.size w w1) := hb
  clear hb HC
  cases q with
  | false =>
    go_wp2_with fail
    go_ret
    exact ⟨rfl, H1.out⟩
  | true =>
    go_wp2_with fail
    refine (HT.out _).mono ?_
    rintro _ w2 ⟨rfl, hb⟩
    have H2 : Hid (Below w.heap.size w w2) := below_then H1.out hb
    clear hb HT
    go_wp2_with fail
    refine (HN.out _).mono ?_
    rintro _ w3 ⟨b, c, rfl, hss, hb⟩
    have H3 : Hid (Strs w3 b l ∧ Below w.heap.size w w3) := ⟨hss, below_then H2.out hb⟩
    clear hb hss HN
    go_wp2_with fail
    refine (HM.out _ _ _ H3.out.1).mono ?_
    rintro _ w4 ⟨rfl, hb⟩
    have H4 : Hid (Below w.heap.size w w4) := below_then H3.out.2 hb
    clear hb HM
    cases m with
    | true =>
      go_wp2_with fail
      go_ret
      exact ⟨rfl, H4.out⟩
    | false =>
      go_wp2_with fail
      go_ret
      exact ⟨rfl, H4.out⟩
end Go.Proofs.YtphobcobpclioaaGreatDoor.Td
