/-
  Primitive kinds, of any name: the program's and the document's word.
-/
import Derived.Test.YtjdpjielpbiedaaGreatDoorKSpec
import Derived.Test.YtjdpjielpbiedaaGreatDoorTtPrimA
import Derived.Test.YtjdpjielpbiedaaGreatDoorTtPrimB
import Derived.Test.YtjdpjielpbiedaaGreatDoorTtPrimC
import Derived.Test.YtjdpjielpbiedaaGreatDoorTtPrimD
import Derived.Test.YtjdpjielpbiedaaGreatDoorTtPrimE
namespace Go.Proofs.YtjdpjielpbiedaaGreatDoor.Td
open Go.RowKit

theorem six {α : Type} {l : List α} (h : l.length = 6) : ∃ a b c d e f, l = [a, b, c, d, e, f] := by
  match l, h with
  | [a, b, c, d, e, f], _ => exact ⟨a, b, c, d, e, f, rfl⟩
theorem u8_of {a : UInt8} {n : Nat} (h : a.toNat = n) (hn : n < 256) : a = UInt8.ofNat n := UInt8.toNat_inj.1 (by rw [h]; simp; omega)
theorem tabN_nums {n : Nat} (h : tabN n ≠ none) : n = 3 ∨ n = 8 ∨ n = 61 ∨ n = 76 ∨ n = 103 ∨ n = 104 ∨ n = 155 ∨ n = 357 ∨ n = 516 := by
  by_cases g : n = 3 ∨ n = 8 ∨ n = 61 ∨ n = 76 ∨ n = 103 ∨ n = 104 ∨ n = 155 ∨ n = 357 ∨ n = 516
  · exact g
  · exfalso
    apply h
    unfold tabN
    rw [if_neg (by omega), if_neg (by omega), if_neg (by omega), if_neg (by omega), if_neg (by omega), if_neg (by omega), if_neg (by omega), if_neg (by omega), if_neg (by omega)]
theorem tno_none {l : List UInt8} (h : tabOf l = none) : tno l = 0 := by
  unfold tno
  split
  · rename_i g
    obtain ⟨h6, h2, d2, d3, d4, d5⟩ := g
    split
    · rfl
    · rename_i ht
      exfalso
      obtain ⟨a, b, c, d, e, f, rfl⟩ := six h6
      simp only [List.take_succ_cons, List.take_zero, List.cons.injEq, and_true] at h2
      obtain ⟨rfl, rfl⟩ := h2
      have hn : nvS [73, 68, c, d, e, f] 6 = 1000 * (c.toNat - 48) + 100 * (d.toNat - 48) + 10 * (e.toNat - 48) + (f.toNat - 48) := by
        simp [nvS]; omega
      rw [hn] at ht
      have b2 := dg_yes (b := c) d2
      have b3 := dg_yes (b := d) d3
      have b4 := dg_yes (b := e) d4
      have b5 := dg_yes (b := f) d5
      rcases tabN_nums ht with q | q | q | q | q | q | q | q | q
      · obtain rfl := u8_of (a := c) (n := 48) (by omega) (by omega)
        obtain rfl := u8_of (a := d) (n := 48) (by omega) (by omega)
        obtain rfl := u8_of (a := e) (n := 48) (by omega) (by omega)
        obtain rfl := u8_of (a := f) (n := 51) (by omega) (by omega)
        revert h; decide
      · obtain rfl := u8_of (a := c) (n := 48) (by omega) (by omega)
        obtain rfl := u8_of (a := d) (n := 48) (by omega) (by omega)
        obtain rfl := u8_of (a := e) (n := 48) (by omega) (by omega)
        obtain rfl := u8_of (a := f) (n := 56) (by omega) (by omega)
        revert h; decide
      · obtain rfl := u8_of (a := c) (n := 48) (by omega) (by omega)
        obtain rfl := u8_of (a := d) (n := 48) (by omega) (by omega)
        obtain rfl := u8_of (a := e) (n := 54) (by omega) (by omega)
        obtain rfl := u8_of (a := f) (n := 49) (by omega) (by omega)
        revert h; decide
      · obtain rfl := u8_of (a := c) (n := 48) (by omega) (by omega)
        obtain rfl := u8_of (a := d) (n := 48) (by omega) (by omega)
        obtain rfl := u8_of (a := e) (n := 55) (by omega) (by omega)
        obtain rfl := u8_of (a := f) (n := 54) (by omega) (by omega)
        revert h; decide
      · obtain rfl := u8_of (a := c) (n := 48) (by omega) (by omega)
        obtain rfl := u8_of (a := d) (n := 49) (by omega) (by omega)
        obtain rfl := u8_of (a := e) (n := 48) (by omega) (by omega)
        obtain rfl := u8_of (a := f) (n := 51) (by omega) (by omega)
        revert h; decide
      · obtain rfl := u8_of (a := c) (n := 48) (by omega) (by omega)
        obtain rfl := u8_of (a := d) (n := 49) (by omega) (by omega)
        obtain rfl := u8_of (a := e) (n := 48) (by omega) (by omega)
        obtain rfl := u8_of (a := f) (n := 52) (by omega) (by omega)
        revert h; decide
      · obtain rfl := u8_of (a := c) (n := 48) (by omega) (by omega)
        obtain rfl := u8_of (a := d) (n := 49) (by omega) (by omega)
        obtain rfl := u8_of (a := e) (n := 53) (by omega) (by omega)
        obtain rfl := u8_of (a := f) (n := 53) (by omega) (by omega)
        revert h; decide
      · obtain rfl := u8_of (a := c) (n := 48) (by omega) (by omega)
        obtain rfl := u8_of (a := d) (n := 51) (by omega) (by omega)
        obtain rfl := u8_of (a := e) (n := 53) (by omega) (by omega)
        obtain rfl := u8_of (a := f) (n := 55) (by omega) (by omega)
        revert h; decide
      · obtain rfl := u8_of (a := c) (n := 48) (by omega) (by omega)
        obtain rfl := u8_of (a := d) (n := 53) (by omega) (by omega)
        obtain rfl := u8_of (a := e) (n := 49) (by omega) (by omega)
        obtain rfl := u8_of (a := f) (n := 54) (by omega) (by omega)
        revert h; decide
  · rfl
theorem tno_some {l : List UInt8} {L : List (List UInt8)} (h : tabOf l = some L) : 0 < tno l ∧ tabN (tno l) = some L ∧ 0 < L.length ∧ L.length ≤ 100 := by
  by_cases h0 : l = [73, 68, 48, 48, 48, 51]
  · subst h0
    rw [tab_at0] at h
    obtain rfl := Option.some.inj h
    exact ⟨by decide, by decide, by decide, by decide⟩
  by_cases h1 : l = [73, 68, 48, 48, 48, 56]
  · subst h1
    rw [tab_at1] at h
    obtain rfl := Option.some.inj h
    exact ⟨by decide, by decide, by decide, by decide⟩
  by_cases h2 : l = [73, 68, 48, 48, 54, 49]
  · subst h2
    rw [tab_at2] at h
    obtain rfl := Option.some.inj h
    exact ⟨by decide, by decide, by decide, by decide⟩
  by_cases h3 : l = [73, 68, 48, 48, 55, 54]
  · subst h3
    rw [tab_at3] at h
    obtain rfl := Option.some.inj h
    exact ⟨by decide, by decide, by decide, by decide⟩
  by_cases h4 : l = [73, 68, 48, 49, 48, 51]
  · subst h4
    rw [tab_at4] at h
    obtain rfl := Option.some.inj h
    exact ⟨by decide, by decide, by decide, by decide⟩
  by_cases h5 : l = [73, 68, 48, 49, 48, 52]
  · subst h5
    rw [tab_at5] at h
    obtain rfl := Option.some.inj h
    exact ⟨by decide, by decide, by decide, by decide⟩
  by_cases h6 : l = [73, 68, 48, 49, 53, 53]
  · subst h6
    rw [tab_at6] at h
    obtain rfl := Option.some.inj h
    exact ⟨by decide, by decide, by decide, by decide⟩
  by_cases h7 : l = [73, 68, 48, 51, 53, 55]
  · subst h7
    rw [tab_at7] at h
    obtain rfl := Option.some.inj h
    exact ⟨by decide, by decide, by decide, by decide⟩
  by_cases h8 : l = [73, 68, 48, 53, 49, 54]
  · subst h8
    rw [tab_at8] at h
    obtain rfl := Option.some.inj h
    exact ⟨by decide, by decide, by decide, by decide⟩
  rw [tab_none (fun i hi e => by
    rcases (by omega : i = 0 ∨ i = 1 ∨ i = 2 ∨ i = 3 ∨ i = 4 ∨ i = 5 ∨ i = 6 ∨ i = 7 ∨ i = 8) with rfl | rfl | rfl | rfl | rfl | rfl | rfl | rfl | rfl
    · exact h0 e.symm
    · exact h1 e.symm
    · exact h2 e.symm
    · exact h3 e.symm
    · exact h4 e.symm
    · exact h5 e.symm
    · exact h6 e.symm
    · exact h7 e.symm
    · exact h8 e.symm)] at h
  cases h
theorem tof_st (w : World) : Calls Tryz.prog 33 #[.string ⟨#[83, 84]⟩] w fun e w' => e = .returned (.int .i64 0) ∧ Below w.heap.size w w' := by
  have c := tableOf_any ⟨#[83, 84]⟩ w
  rw [show tno (bl ⟨#[83, 84]⟩) = 0 from by decide] at c
  exact c
set_option maxHeartbeats 1000000 in
theorem rprim_st (w : World) : Calls Tryz.prog 19 #[.string ⟨#[83, 84]⟩] w fun e w' => e = .returned (.bool true) ∧ Below w.heap.size w w' := by
  go_enter Tryz.func19, Tryz.ntmps19
  go_wp2_with fail
  go_ret
  exact ⟨rfl, Below.refl _ _⟩
theorem tof_tx (w : World) : Calls Tryz.prog 33 #[.string ⟨#[84, 88]⟩] w fun e w' => e = .returned (.int .i64 0) ∧ Below w.heap.size w w' := by
  have c := tableOf_any ⟨#[84, 88]⟩ w
  rw [show tno (bl ⟨#[84, 88]⟩) = 0 from by decide] at c
  exact c
set_option maxHeartbeats 1000000 in
theorem rprim_tx (w : World) : Calls Tryz.prog 19 #[.string ⟨#[84, 88]⟩] w fun e w' => e = .returned (.bool true) ∧ Below w.heap.size w w' := by
  go_enter Tryz.func19, Tryz.ntmps19
  go_wp2_with fail
  go_ret
  exact ⟨rfl, Below.refl _ _⟩
theorem tof_ft (w : World) : Calls Tryz.prog 33 #[.string ⟨#[70, 84]⟩] w fun e w' => e = .returned (.int .i64 0) ∧ Below w.heap.size w w' := by
  have c := tableOf_any ⟨#[70, 84]⟩ w
  rw [show tno (bl ⟨#[70, 84]⟩) = 0 from by decide] at c
  exact c
set_option maxHeartbeats 1000000 in
theorem rprim_ft (w : World) : Calls Tryz.prog 19 #[.string ⟨#[70, 84]⟩] w fun e w' => e = .returned (.bool true) ∧ Below w.heap.size w w' := by
  go_enter Tryz.func19, Tryz.ntmps19
  go_wp2_with fail
  go_ret
  exact ⟨rfl, Below.refl _ _⟩
theorem tof_nm (w : World) : Calls Tryz.prog 33 #[.string ⟨#[78, 77]⟩] w fun e w' => e = .returned (.int .i64 0) ∧ Below w.heap.size w w' := by
  have c := tableOf_any ⟨#[78, 77]⟩ w
  rw [show tno (bl ⟨#[78, 77]⟩) = 0 from by decide] at c
  exact c
set_option maxHeartbeats 1000000 in
theorem rprim_nm (w : World) : Calls Tryz.prog 19 #[.string ⟨#[78, 77]⟩] w fun e w' => e = .returned (.bool true) ∧ Below w.heap.size w w' := by
  go_enter Tryz.func19, Tryz.ntmps19
  go_wp2_with fail
  go_ret
  exact ⟨rfl, Below.refl _ _⟩
theorem tof_si (w : World) : Calls Tryz.prog 33 #[.string ⟨#[83, 73]⟩] w fun e w' => e = .returned (.int .i64 0) ∧ Below w.heap.size w w' := by
  have c := tableOf_any ⟨#[83, 73]⟩ w
  rw [show tno (bl ⟨#[83, 73]⟩) = 0 from by decide] at c
  exact c
set_option maxHeartbeats 1000000 in
theorem rprim_si (w : World) : Calls Tryz.prog 19 #[.string ⟨#[83, 73]⟩] w fun e w' => e = .returned (.bool true) ∧ Below w.heap.size w w' := by
  go_enter Tryz.func19, Tryz.ntmps19
  go_wp2_with fail
  go_ret
  exact ⟨rfl, Below.refl _ _⟩
theorem tof_id (w : World) : Calls Tryz.prog 33 #[.string ⟨#[73, 68]⟩] w fun e w' => e = .returned (.int .i64 0) ∧ Below w.heap.size w w' := by
  have c := tableOf_any ⟨#[73, 68]⟩ w
  rw [show tno (bl ⟨#[73, 68]⟩) = 0 from by decide] at c
  exact c
set_option maxHeartbeats 1000000 in
theorem rprim_id (w : World) : Calls Tryz.prog 19 #[.string ⟨#[73, 68]⟩] w fun e w' => e = .returned (.bool true) ∧ Below w.heap.size w w' := by
  go_enter Tryz.func19, Tryz.ntmps19
  go_wp2_with fail
  go_ret
  exact ⟨rfl, Below.refl _ _⟩
theorem tof_is (w : World) : Calls Tryz.prog 33 #[.string ⟨#[73, 83]⟩] w fun e w' => e = .returned (.int .i64 0) ∧ Below w.heap.size w w' := by
  have c := tableOf_any ⟨#[73, 83]⟩ w
  rw [show tno (bl ⟨#[73, 83]⟩) = 0 from by decide] at c
  exact c
set_option maxHeartbeats 1000000 in
theorem rprim_is (w : World) : Calls Tryz.prog 19 #[.string ⟨#[73, 83]⟩] w fun e w' => e = .returned (.bool true) ∧ Below w.heap.size w w' := by
  go_enter Tryz.func19, Tryz.ntmps19
  go_wp2_with fail
  go_ret
  exact ⟨rfl, Below.refl _ _⟩
theorem tof_dt (w : World) : Calls Tryz.prog 33 #[.string ⟨#[68, 84]⟩] w fun e w' => e = .returned (.int .i64 0) ∧ Below w.heap.size w w' := by
  have c := tableOf_any ⟨#[68, 84]⟩ w
  rw [show tno (bl ⟨#[68, 84]⟩) = 0 from by decide] at c
  exact c
set_option maxHeartbeats 1000000 in
theorem rprim_dt (w : World) : Calls Tryz.prog 19 #[.string ⟨#[68, 84]⟩] w fun e w' => e = .returned (.bool true) ∧ Below w.heap.size w w' := by
  go_enter Tryz.func19, Tryz.ntmps19
  go_wp2_with fail
  go_ret
  exact ⟨rfl, Below.refl _ _⟩
theorem tof_tm (w : World) : Calls Tryz.prog 33 #[.string ⟨#[84, 77]⟩] w fun e w' => e = .returned (.int .i64 0) ∧ Below w.heap.size w w' := by
  have c := tableOf_any ⟨#[84, 77]⟩ w
  rw [show tno (bl ⟨#[84, 77]⟩) = 0 from by decide] at c
  exact c
set_option maxHeartbeats 1000000 in
theorem rprim_tm (w : World) : Calls Tryz.prog 19 #[.string ⟨#[84, 77]⟩] w fun e w' => e = .returned (.bool true) ∧ Below w.heap.size w w' := by
  go_enter Tryz.func19, Tryz.ntmps19
  go_wp2_with fail
  go_ret
  exact ⟨rfl, Below.refl _ _⟩
theorem tof_ts (w : World) : Calls Tryz.prog 33 #[.string ⟨#[84, 83]⟩] w fun e w' => e = .returned (.int .i64 0) ∧ Below w.heap.size w w' := by
  have c := tableOf_any ⟨#[84, 83]⟩ w
  rw [show tno (bl ⟨#[84, 83]⟩) = 0 from by decide] at c
  exact c
set_option maxHeartbeats 1000000 in
theorem rprim_ts (w : World) : Calls Tryz.prog 19 #[.string ⟨#[84, 83]⟩] w fun e w' => e = .returned (.bool true) ∧ Below w.heap.size w w' := by
  go_enter Tryz.func19, Tryz.ntmps19
  go_wp2_with fail
  go_ret
  exact ⟨rfl, Below.refl _ _⟩
set_option maxHeartbeats 1000000 in
theorem rprim_rest (k : ByteArray) (w : World) (h0 : (k.toList == [83, 84]) = false) (h1 : (k.toList == [84, 88]) = false) (h2 : (k.toList == [70, 84]) = false) (h3 : (k.toList == [78, 77]) = false) (h4 : (k.toList == [83, 73]) = false) (h5 : (k.toList == [73, 68]) = false) (h6 : (k.toList == [73, 83]) = false) (h7 : (k.toList == [68, 84]) = false) (h8 : (k.toList == [84, 77]) = false) (h9 : (k.toList == [84, 83]) = false) (b : Bool) (hb : b = decide (0 < tno (bl k))) : Calls Tryz.prog 19 #[.string k] w fun e w' => e = .returned (.bool b) ∧ Below w.heap.size w w' := by
  have HT : Hid (∀ w, Calls Tryz.prog 33 #[.string k] w fun e w' => e = .returned (.int .i64 (tno (bl k))) ∧ Below w.heap.size w w') := fun w => tableOf_any k w
  obtain ⟨n, hn⟩ : ∃ n, tno (bl k) = n := ⟨_, rfl⟩
  rw [hn] at HT hb
  clear hn
  have HB : Hid (b = decide (0 < n)) := hb
  clear hb
  go_enter Tryz.func19, Tryz.ntmps19
  go_wp2_with fail
  refine (HT.out _).mono ?_
  rintro _ w1 ⟨rfl, hb⟩
  have H1 : Hid (Below w.heap.size w w1) := hb
  clear hb HT
  by_cases h0 : 0 < n
  · have hi : (0 : Int) < n := by omega
    go_wp2_with fail
    go_ret
    exact ⟨ret_bool (by rw [HB.out]; simp [h0]), H1.out⟩
  · have hi : ¬ (0 : Int) < n := by omega
    go_wp2_with fail
    go_ret
    exact ⟨ret_bool (by rw [HB.out]; simp [h0]), H1.out⟩
theorem ne_l {k : ByteArray} {l : List UInt8} (h : k ≠ ⟨l.toArray⟩) : (k.toList == l) = false ∧ (l == k.toList) = false := by
  have hb : bl k ≠ l := fun e => h (bl_inj e)
  rw [Lib.toList_data]
  exact ⟨beq_eq_false_iff_ne.2 hb, beq_eq_false_iff_ne.2 (Ne.symm hb)⟩
/-- What primitiveOf answers. -/
def PmE (q : Bool) (e : Ending) : Prop := (q = true ∧ ∃ s fa fb a n c, e = .returned (.tuple #[.agg #[.string s, .func (.func fa) #[] #[], .func (.func fb) #[] #[], .slice a n c], .bool true])) ∨ (q = false ∧ e = .returned (.tuple #[.agg #[.string ⟨#[]⟩, .nilFunc, .nilFunc, .slice none 0 0], .bool false]))
/-- What both say of a name. -/
def PmQ (k : ByteArray) : Prop := (∀ w, Tabs w → Spc w → Calls Tryz.prog 31 #[.string k] w fun e w' => PmE (prB (bl k)) e ∧ Below w.heap.size w w') ∧ (∀ w, Calls Tryz.prog 19 #[.string k] w fun e w' => e = .returned (.bool (prB (bl k))) ∧ Below w.heap.size w w')
theorem pm_st : PmQ ⟨#[83, 84]⟩ := ⟨fun w _ _ => (prim_st w).mono fun _ _ ⟨he, hb⟩ => ⟨Or.inl ⟨rfl, _, _, _, _, _, _, he⟩, hb⟩, fun w => (rprim_st w).mono fun _ _ h => h⟩
theorem pm_tx : PmQ ⟨#[84, 88]⟩ := ⟨fun w _ _ => (prim_tx w).mono fun _ _ ⟨he, hb⟩ => ⟨Or.inl ⟨rfl, _, _, _, _, _, _, he⟩, hb⟩, fun w => (rprim_tx w).mono fun _ _ h => h⟩
theorem pm_ft : PmQ ⟨#[70, 84]⟩ := ⟨fun w _ _ => (prim_ft w).mono fun _ _ ⟨he, hb⟩ => ⟨Or.inl ⟨rfl, _, _, _, _, _, _, he⟩, hb⟩, fun w => (rprim_ft w).mono fun _ _ h => h⟩
theorem pm_nm : PmQ ⟨#[78, 77]⟩ := ⟨fun w _ _ => (prim_nm w).mono fun _ _ ⟨he, hb⟩ => ⟨Or.inl ⟨rfl, _, _, _, _, _, _, he⟩, hb⟩, fun w => (rprim_nm w).mono fun _ _ h => h⟩
theorem pm_si : PmQ ⟨#[83, 73]⟩ := ⟨fun w _ _ => (prim_si w).mono fun _ _ ⟨he, hb⟩ => ⟨Or.inl ⟨rfl, _, _, _, _, _, _, he⟩, hb⟩, fun w => (rprim_si w).mono fun _ _ h => h⟩
theorem pm_id : PmQ ⟨#[73, 68]⟩ := ⟨fun w _ _ => (prim_id w).mono fun _ _ ⟨he, hb⟩ => ⟨Or.inl ⟨rfl, _, _, _, _, _, _, he⟩, hb⟩, fun w => (rprim_id w).mono fun _ _ h => h⟩
theorem pm_is : PmQ ⟨#[73, 83]⟩ := ⟨fun w _ _ => (prim_is w).mono fun _ _ ⟨he, hb⟩ => ⟨Or.inl ⟨rfl, _, _, _, _, _, _, he⟩, hb⟩, fun w => (rprim_is w).mono fun _ _ h => h⟩
theorem pm_dt : PmQ ⟨#[68, 84]⟩ := ⟨fun w _ _ => (prim_dt w).mono fun _ _ ⟨he, hb⟩ => ⟨Or.inl ⟨rfl, _, _, _, _, _, _, he⟩, hb⟩, fun w => (rprim_dt w).mono fun _ _ h => h⟩
theorem pm_tm : PmQ ⟨#[84, 77]⟩ := ⟨fun w _ _ => (prim_tm w).mono fun _ _ ⟨he, hb⟩ => ⟨Or.inl ⟨rfl, _, _, _, _, _, _, he⟩, hb⟩, fun w => (rprim_tm w).mono fun _ _ h => h⟩
theorem pm_ts : PmQ ⟨#[84, 83]⟩ := ⟨fun w _ _ => (prim_ts w).mono fun _ _ ⟨he, hb⟩ => ⟨Or.inl ⟨rfl, _, _, _, _, _, _, he⟩, hb⟩, fun w => (rprim_ts w).mono fun _ _ h => h⟩
theorem pm_any (k : ByteArray) : PmQ k := by
  by_cases n0 : k = ⟨#[83, 84]⟩
  · subst n0; exact pm_st
  by_cases n1 : k = ⟨#[84, 88]⟩
  · subst n1; exact pm_tx
  by_cases n2 : k = ⟨#[70, 84]⟩
  · subst n2; exact pm_ft
  by_cases n3 : k = ⟨#[78, 77]⟩
  · subst n3; exact pm_nm
  by_cases n4 : k = ⟨#[83, 73]⟩
  · subst n4; exact pm_si
  by_cases n5 : k = ⟨#[73, 68]⟩
  · subst n5; exact pm_id
  by_cases n6 : k = ⟨#[73, 83]⟩
  · subst n6; exact pm_is
  by_cases n7 : k = ⟨#[68, 84]⟩
  · subst n7; exact pm_dt
  by_cases n8 : k = ⟨#[84, 77]⟩
  · subst n8; exact pm_tm
  by_cases n9 : k = ⟨#[84, 83]⟩
  · subst n9; exact pm_ts
  obtain ⟨a0, b0⟩ := ne_l (l := [83, 84]) n0
  obtain ⟨a1, b1⟩ := ne_l (l := [84, 88]) n1
  obtain ⟨a2, b2⟩ := ne_l (l := [70, 84]) n2
  obtain ⟨a3, b3⟩ := ne_l (l := [78, 77]) n3
  obtain ⟨a4, b4⟩ := ne_l (l := [83, 73]) n4
  obtain ⟨a5, b5⟩ := ne_l (l := [73, 68]) n5
  obtain ⟨a6, b6⟩ := ne_l (l := [73, 83]) n6
  obtain ⟨a7, b7⟩ := ne_l (l := [68, 84]) n7
  obtain ⟨a8, b8⟩ := ne_l (l := [84, 77]) n8
  obtain ⟨a9, b9⟩ := ne_l (l := [84, 83]) n9
  have hten : bl k ∉ tenN := by
    simp only [tenN, List.mem_cons, List.not_mem_nil, or_false, not_or]
    exact ⟨fun e => n0 (bl_inj e), fun e => n1 (bl_inj e), fun e => n2 (bl_inj e), fun e => n3 (bl_inj e), fun e => n4 (bl_inj e), fun e => n5 (bl_inj e), fun e => n6 (bl_inj e), fun e => n7 (bl_inj e), fun e => n8 (bl_inj e), fun e => n9 (bl_inj e)⟩
  cases ht : tabOf (bl k) with
  | none =>
    have hp : prB (bl k) = false := by simp [prB, hten, ht]
    unfold PmQ
    rw [hp]
    refine ⟨fun w h1 h2 => (prim_rest k w h1 h2 b0 b1 b2 b3 b4 b5 b6 b7 b8 b9).mono fun e w' h => ?_, fun w => rprim_rest k w a0 a1 a2 a3 a4 a5 a6 a7 a8 a9 false (by rw [tno_none ht]; rfl)⟩
    obtain ⟨⟨l, b, g, _⟩ | ⟨_, rfl⟩, hb⟩ := h
    · rw [ht] at g; cases g
    · exact ⟨Or.inr ⟨rfl, rfl⟩, hb⟩
  | some l =>
    have hp : prB (bl k) = true := by simp [prB, ht]
    unfold PmQ
    rw [hp]
    obtain ⟨t1, _, _, t4⟩ := tno_some ht
    refine ⟨fun w h1 h2 => (prim_rest k w h1 h2 b0 b1 b2 b3 b4 b5 b6 b7 b8 b9).mono fun e w' h => ?_, fun w => rprim_rest k w a0 a1 a2 a3 a4 a5 a6 a7 a8 a9 true (by simp [t1])⟩
    obtain ⟨⟨L, b, g, hs, h0, rfl⟩ | ⟨g, _⟩, hb⟩ := h
    · exact ⟨Or.inl ⟨rfl, _, _, _, _, _, _, rfl⟩, hb⟩
    · rw [ht] at g; cases g
end Go.Proofs.YtjdpjielpbiedaaGreatDoor.Td
