/-
  The document's tables: Table, in, TableOf.
-/
import Derived.Test.YtjdpjielpbiedaaGreatDoorTtWords
namespace Go.Proofs.YtjdpjielpbiedaaGreatDoor.Td
open Go.RowKit

/-- The values of a table by its number. -/
def tabN (n : Nat) : Option (List (List UInt8)) :=
  if n = 3 then some [[65, 48, 49], [65, 48, 50], [65, 48, 51], [65, 48, 52], [65, 48, 56], [65, 49, 49], [65, 49, 50], [65, 49, 51], [79, 48, 49], [79, 50, 49], [80, 48, 49], [81, 48, 49], [82, 48, 49]] else if n = 8 then some [[65, 65], [65, 69], [65, 82], [67, 65], [67, 69], [67, 82]] else if n = 61 then some [[68, 78, 83], [73, 83, 79], [77, 49, 48], [77, 49, 49], [85, 85, 73, 68]] else if n = 76 then some [[65, 67, 75], [65, 68, 84], [66, 65, 82], [79, 82, 77], [79, 82, 85], [81, 82, 89]] else if n = 103 then some [[68], [80], [84]] else if n = 104 then some [[50, 46, 49], [50, 46, 50], [50, 46, 51], [50, 46, 51, 46, 49], [50, 46, 52], [50, 46, 53], [50, 46, 53, 46, 49]] else if n = 155 then some [[65, 76], [69, 82], [78, 69], [83, 85]] else if n = 357 then some [[48], [49, 48, 48], [49, 48, 49], [49, 48, 50], [49, 48, 51], [50, 48, 48], [50, 48, 49], [50, 48, 50], [50, 48, 51], [50, 48, 52], [50, 48, 53], [50, 48, 54], [50, 48, 55]] else if n = 516 then some [[69], [70], [73], [87]] else none
def TbQ (n : Nat) (w : World) (e : Ending) (w' : World) : Prop :=
  ((∃ l b c, tabN n = some l ∧ Strs w' b l ∧ 0 < l.length ∧ l.length ≤ 100 ∧ e = .returned (.slice (some ⟨b, 0, none⟩) l.length c)) ∨ (tabN n = none ∧ e = .returned (.slice none 0 0))) ∧ Below w.heap.size w w'
theorem words_0 (w : World) : Calls Tryz.prog 21 #[.string ⟨#[65, 48, 49, 32, 65, 48, 50, 32, 65, 48, 51, 32, 65, 48, 52, 32, 65, 48, 56, 32, 65, 49, 49, 32, 65, 49, 50, 32, 65, 49, 51, 32, 79, 48, 49, 32, 79, 50, 49, 32, 80, 48, 49, 32, 81, 48, 49, 32, 82, 48, 49]⟩] w fun e w' => ∃ b c, e = .returned (.slice (some ⟨b, 0, none⟩) 13 c) ∧ Strs w' b [[65, 48, 49], [65, 48, 50], [65, 48, 51], [65, 48, 52], [65, 48, 56], [65, 49, 49], [65, 49, 50], [65, 49, 51], [79, 48, 49], [79, 50, 49], [80, 48, 49], [81, 48, 49], [82, 48, 49]] ∧ Below w.heap.size w w' := by
  refine (words_any ⟨#[65, 48, 49, 32, 65, 48, 50, 32, 65, 48, 51, 32, 65, 48, 52, 32, 65, 48, 56, 32, 65, 49, 49, 32, 65, 49, 50, 32, 65, 49, 51, 32, 79, 48, 49, 32, 79, 50, 49, 32, 80, 48, 49, 32, 81, 48, 49, 32, 82, 48, 49]⟩ w (by decide)).mono ?_
  rintro _ w' ⟨v, rfl, hr, hb⟩
  rw [show (wst (bl ⟨#[65, 48, 49, 32, 65, 48, 50, 32, 65, 48, 51, 32, 65, 48, 52, 32, 65, 48, 56, 32, 65, 49, 49, 32, 65, 49, 50, 32, 65, 49, 51, 32, 79, 48, 49, 32, 79, 50, 49, 32, 80, 48, 49, 32, 81, 48, 49, 32, 82, 48, 49]⟩) ((⟨#[65, 48, 49, 32, 65, 48, 50, 32, 65, 48, 51, 32, 65, 48, 52, 32, 65, 48, 56, 32, 65, 49, 49, 32, 65, 49, 50, 32, 65, 49, 51, 32, 79, 48, 49, 32, 79, 50, 49, 32, 80, 48, 49, 32, 81, 48, 49, 32, 82, 48, 49]⟩ : ByteArray).size + 1)).2 = [[65, 48, 49], [65, 48, 50], [65, 48, 51], [65, 48, 52], [65, 48, 56], [65, 49, 49], [65, 49, 50], [65, 49, 51], [79, 48, 49], [79, 50, 49], [80, 48, 49], [81, 48, 49], [82, 48, 49]] from by kernel_rfl] at hr
  obtain ⟨b, c, rfl, h⟩ := hr.strs (by decide)
  exact ⟨b, c, rfl, h, hb⟩
set_option maxHeartbeats 1000000 in
theorem table_0 (w : World) : Calls Tryz.prog 7 #[.int .i64 3] w (TbQ 3 w) := by
  go_enter Tryz.func7, Tryz.ntmps7
  go_wp2_with fail
  refine (words_0 _).mono ?_
  rintro _ w1 ⟨b, c, rfl, hs, hb⟩
  have HH : Hid (Strs w1 b [[65, 48, 49], [65, 48, 50], [65, 48, 51], [65, 48, 52], [65, 48, 56], [65, 49, 49], [65, 49, 50], [65, 49, 51], [79, 48, 49], [79, 50, 49], [80, 48, 49], [81, 48, 49], [82, 48, 49]] ∧ Below w.heap.size w w1) := ⟨hs, hb⟩
  clear hs hb
  go_wp2_with fail
  go_ret
  exact ⟨Or.inl ⟨_, b, c, by decide, HH.out.1, by decide, by decide, rfl⟩, HH.out.2⟩
theorem words_1 (w : World) : Calls Tryz.prog 21 #[.string ⟨#[65, 65, 32, 65, 69, 32, 65, 82, 32, 67, 65, 32, 67, 69, 32, 67, 82]⟩] w fun e w' => ∃ b c, e = .returned (.slice (some ⟨b, 0, none⟩) 6 c) ∧ Strs w' b [[65, 65], [65, 69], [65, 82], [67, 65], [67, 69], [67, 82]] ∧ Below w.heap.size w w' := by
  refine (words_any ⟨#[65, 65, 32, 65, 69, 32, 65, 82, 32, 67, 65, 32, 67, 69, 32, 67, 82]⟩ w (by decide)).mono ?_
  rintro _ w' ⟨v, rfl, hr, hb⟩
  rw [show (wst (bl ⟨#[65, 65, 32, 65, 69, 32, 65, 82, 32, 67, 65, 32, 67, 69, 32, 67, 82]⟩) ((⟨#[65, 65, 32, 65, 69, 32, 65, 82, 32, 67, 65, 32, 67, 69, 32, 67, 82]⟩ : ByteArray).size + 1)).2 = [[65, 65], [65, 69], [65, 82], [67, 65], [67, 69], [67, 82]] from by kernel_rfl] at hr
  obtain ⟨b, c, rfl, h⟩ := hr.strs (by decide)
  exact ⟨b, c, rfl, h, hb⟩
set_option maxHeartbeats 1000000 in
theorem table_1 (w : World) : Calls Tryz.prog 7 #[.int .i64 8] w (TbQ 8 w) := by
  go_enter Tryz.func7, Tryz.ntmps7
  go_wp2_with fail
  refine (words_1 _).mono ?_
  rintro _ w1 ⟨b, c, rfl, hs, hb⟩
  have HH : Hid (Strs w1 b [[65, 65], [65, 69], [65, 82], [67, 65], [67, 69], [67, 82]] ∧ Below w.heap.size w w1) := ⟨hs, hb⟩
  clear hs hb
  go_wp2_with fail
  go_ret
  exact ⟨Or.inl ⟨_, b, c, by decide, HH.out.1, by decide, by decide, rfl⟩, HH.out.2⟩
theorem words_2 (w : World) : Calls Tryz.prog 21 #[.string ⟨#[68, 78, 83, 32, 73, 83, 79, 32, 77, 49, 48, 32, 77, 49, 49, 32, 85, 85, 73, 68]⟩] w fun e w' => ∃ b c, e = .returned (.slice (some ⟨b, 0, none⟩) 5 c) ∧ Strs w' b [[68, 78, 83], [73, 83, 79], [77, 49, 48], [77, 49, 49], [85, 85, 73, 68]] ∧ Below w.heap.size w w' := by
  refine (words_any ⟨#[68, 78, 83, 32, 73, 83, 79, 32, 77, 49, 48, 32, 77, 49, 49, 32, 85, 85, 73, 68]⟩ w (by decide)).mono ?_
  rintro _ w' ⟨v, rfl, hr, hb⟩
  rw [show (wst (bl ⟨#[68, 78, 83, 32, 73, 83, 79, 32, 77, 49, 48, 32, 77, 49, 49, 32, 85, 85, 73, 68]⟩) ((⟨#[68, 78, 83, 32, 73, 83, 79, 32, 77, 49, 48, 32, 77, 49, 49, 32, 85, 85, 73, 68]⟩ : ByteArray).size + 1)).2 = [[68, 78, 83], [73, 83, 79], [77, 49, 48], [77, 49, 49], [85, 85, 73, 68]] from by kernel_rfl] at hr
  obtain ⟨b, c, rfl, h⟩ := hr.strs (by decide)
  exact ⟨b, c, rfl, h, hb⟩
set_option maxHeartbeats 1000000 in
theorem table_2 (w : World) : Calls Tryz.prog 7 #[.int .i64 61] w (TbQ 61 w) := by
  go_enter Tryz.func7, Tryz.ntmps7
  go_wp2_with fail
  refine (words_2 _).mono ?_
  rintro _ w1 ⟨b, c, rfl, hs, hb⟩
  have HH : Hid (Strs w1 b [[68, 78, 83], [73, 83, 79], [77, 49, 48], [77, 49, 49], [85, 85, 73, 68]] ∧ Below w.heap.size w w1) := ⟨hs, hb⟩
  clear hs hb
  go_wp2_with fail
  go_ret
  exact ⟨Or.inl ⟨_, b, c, by decide, HH.out.1, by decide, by decide, rfl⟩, HH.out.2⟩
theorem words_3 (w : World) : Calls Tryz.prog 21 #[.string ⟨#[65, 67, 75, 32, 65, 68, 84, 32, 66, 65, 82, 32, 79, 82, 77, 32, 79, 82, 85, 32, 81, 82, 89]⟩] w fun e w' => ∃ b c, e = .returned (.slice (some ⟨b, 0, none⟩) 6 c) ∧ Strs w' b [[65, 67, 75], [65, 68, 84], [66, 65, 82], [79, 82, 77], [79, 82, 85], [81, 82, 89]] ∧ Below w.heap.size w w' := by
  refine (words_any ⟨#[65, 67, 75, 32, 65, 68, 84, 32, 66, 65, 82, 32, 79, 82, 77, 32, 79, 82, 85, 32, 81, 82, 89]⟩ w (by decide)).mono ?_
  rintro _ w' ⟨v, rfl, hr, hb⟩
  rw [show (wst (bl ⟨#[65, 67, 75, 32, 65, 68, 84, 32, 66, 65, 82, 32, 79, 82, 77, 32, 79, 82, 85, 32, 81, 82, 89]⟩) ((⟨#[65, 67, 75, 32, 65, 68, 84, 32, 66, 65, 82, 32, 79, 82, 77, 32, 79, 82, 85, 32, 81, 82, 89]⟩ : ByteArray).size + 1)).2 = [[65, 67, 75], [65, 68, 84], [66, 65, 82], [79, 82, 77], [79, 82, 85], [81, 82, 89]] from by kernel_rfl] at hr
  obtain ⟨b, c, rfl, h⟩ := hr.strs (by decide)
  exact ⟨b, c, rfl, h, hb⟩
set_option maxHeartbeats 1000000 in
theorem table_3 (w : World) : Calls Tryz.prog 7 #[.int .i64 76] w (TbQ 76 w) := by
  go_enter Tryz.func7, Tryz.ntmps7
  go_wp2_with fail
  refine (words_3 _).mono ?_
  rintro _ w1 ⟨b, c, rfl, hs, hb⟩
  have HH : Hid (Strs w1 b [[65, 67, 75], [65, 68, 84], [66, 65, 82], [79, 82, 77], [79, 82, 85], [81, 82, 89]] ∧ Below w.heap.size w w1) := ⟨hs, hb⟩
  clear hs hb
  go_wp2_with fail
  go_ret
  exact ⟨Or.inl ⟨_, b, c, by decide, HH.out.1, by decide, by decide, rfl⟩, HH.out.2⟩
theorem words_4 (w : World) : Calls Tryz.prog 21 #[.string ⟨#[68, 32, 80, 32, 84]⟩] w fun e w' => ∃ b c, e = .returned (.slice (some ⟨b, 0, none⟩) 3 c) ∧ Strs w' b [[68], [80], [84]] ∧ Below w.heap.size w w' := by
  refine (words_any ⟨#[68, 32, 80, 32, 84]⟩ w (by decide)).mono ?_
  rintro _ w' ⟨v, rfl, hr, hb⟩
  rw [show (wst (bl ⟨#[68, 32, 80, 32, 84]⟩) ((⟨#[68, 32, 80, 32, 84]⟩ : ByteArray).size + 1)).2 = [[68], [80], [84]] from by kernel_rfl] at hr
  obtain ⟨b, c, rfl, h⟩ := hr.strs (by decide)
  exact ⟨b, c, rfl, h, hb⟩
set_option maxHeartbeats 1000000 in
theorem table_4 (w : World) : Calls Tryz.prog 7 #[.int .i64 103] w (TbQ 103 w) := by
  go_enter Tryz.func7, Tryz.ntmps7
  go_wp2_with fail
  refine (words_4 _).mono ?_
  rintro _ w1 ⟨b, c, rfl, hs, hb⟩
  have HH : Hid (Strs w1 b [[68], [80], [84]] ∧ Below w.heap.size w w1) := ⟨hs, hb⟩
  clear hs hb
  go_wp2_with fail
  go_ret
  exact ⟨Or.inl ⟨_, b, c, by decide, HH.out.1, by decide, by decide, rfl⟩, HH.out.2⟩
theorem words_5 (w : World) : Calls Tryz.prog 21 #[.string ⟨#[50, 46, 49, 32, 50, 46, 50, 32, 50, 46, 51, 32, 50, 46, 51, 46, 49, 32, 50, 46, 52, 32, 50, 46, 53, 32, 50, 46, 53, 46, 49]⟩] w fun e w' => ∃ b c, e = .returned (.slice (some ⟨b, 0, none⟩) 7 c) ∧ Strs w' b [[50, 46, 49], [50, 46, 50], [50, 46, 51], [50, 46, 51, 46, 49], [50, 46, 52], [50, 46, 53], [50, 46, 53, 46, 49]] ∧ Below w.heap.size w w' := by
  refine (words_any ⟨#[50, 46, 49, 32, 50, 46, 50, 32, 50, 46, 51, 32, 50, 46, 51, 46, 49, 32, 50, 46, 52, 32, 50, 46, 53, 32, 50, 46, 53, 46, 49]⟩ w (by decide)).mono ?_
  rintro _ w' ⟨v, rfl, hr, hb⟩
  rw [show (wst (bl ⟨#[50, 46, 49, 32, 50, 46, 50, 32, 50, 46, 51, 32, 50, 46, 51, 46, 49, 32, 50, 46, 52, 32, 50, 46, 53, 32, 50, 46, 53, 46, 49]⟩) ((⟨#[50, 46, 49, 32, 50, 46, 50, 32, 50, 46, 51, 32, 50, 46, 51, 46, 49, 32, 50, 46, 52, 32, 50, 46, 53, 32, 50, 46, 53, 46, 49]⟩ : ByteArray).size + 1)).2 = [[50, 46, 49], [50, 46, 50], [50, 46, 51], [50, 46, 51, 46, 49], [50, 46, 52], [50, 46, 53], [50, 46, 53, 46, 49]] from by kernel_rfl] at hr
  obtain ⟨b, c, rfl, h⟩ := hr.strs (by decide)
  exact ⟨b, c, rfl, h, hb⟩
set_option maxHeartbeats 1000000 in
theorem table_5 (w : World) : Calls Tryz.prog 7 #[.int .i64 104] w (TbQ 104 w) := by
  go_enter Tryz.func7, Tryz.ntmps7
  go_wp2_with fail
  refine (words_5 _).mono ?_
  rintro _ w1 ⟨b, c, rfl, hs, hb⟩
  have HH : Hid (Strs w1 b [[50, 46, 49], [50, 46, 50], [50, 46, 51], [50, 46, 51, 46, 49], [50, 46, 52], [50, 46, 53], [50, 46, 53, 46, 49]] ∧ Below w.heap.size w w1) := ⟨hs, hb⟩
  clear hs hb
  go_wp2_with fail
  go_ret
  exact ⟨Or.inl ⟨_, b, c, by decide, HH.out.1, by decide, by decide, rfl⟩, HH.out.2⟩
theorem words_6 (w : World) : Calls Tryz.prog 21 #[.string ⟨#[65, 76, 32, 69, 82, 32, 78, 69, 32, 83, 85]⟩] w fun e w' => ∃ b c, e = .returned (.slice (some ⟨b, 0, none⟩) 4 c) ∧ Strs w' b [[65, 76], [69, 82], [78, 69], [83, 85]] ∧ Below w.heap.size w w' := by
  refine (words_any ⟨#[65, 76, 32, 69, 82, 32, 78, 69, 32, 83, 85]⟩ w (by decide)).mono ?_
  rintro _ w' ⟨v, rfl, hr, hb⟩
  rw [show (wst (bl ⟨#[65, 76, 32, 69, 82, 32, 78, 69, 32, 83, 85]⟩) ((⟨#[65, 76, 32, 69, 82, 32, 78, 69, 32, 83, 85]⟩ : ByteArray).size + 1)).2 = [[65, 76], [69, 82], [78, 69], [83, 85]] from by kernel_rfl] at hr
  obtain ⟨b, c, rfl, h⟩ := hr.strs (by decide)
  exact ⟨b, c, rfl, h, hb⟩
set_option maxHeartbeats 1000000 in
theorem table_6 (w : World) : Calls Tryz.prog 7 #[.int .i64 155] w (TbQ 155 w) := by
  go_enter Tryz.func7, Tryz.ntmps7
  go_wp2_with fail
  refine (words_6 _).mono ?_
  rintro _ w1 ⟨b, c, rfl, hs, hb⟩
  have HH : Hid (Strs w1 b [[65, 76], [69, 82], [78, 69], [83, 85]] ∧ Below w.heap.size w w1) := ⟨hs, hb⟩
  clear hs hb
  go_wp2_with fail
  go_ret
  exact ⟨Or.inl ⟨_, b, c, by decide, HH.out.1, by decide, by decide, rfl⟩, HH.out.2⟩
theorem words_7 (w : World) : Calls Tryz.prog 21 #[.string ⟨#[48, 32, 49, 48, 48, 32, 49, 48, 49, 32, 49, 48, 50, 32, 49, 48, 51, 32, 50, 48, 48, 32, 50, 48, 49, 32, 50, 48, 50, 32, 50, 48, 51, 32, 50, 48, 52, 32, 50, 48, 53, 32, 50, 48, 54, 32, 50, 48, 55]⟩] w fun e w' => ∃ b c, e = .returned (.slice (some ⟨b, 0, none⟩) 13 c) ∧ Strs w' b [[48], [49, 48, 48], [49, 48, 49], [49, 48, 50], [49, 48, 51], [50, 48, 48], [50, 48, 49], [50, 48, 50], [50, 48, 51], [50, 48, 52], [50, 48, 53], [50, 48, 54], [50, 48, 55]] ∧ Below w.heap.size w w' := by
  refine (words_any ⟨#[48, 32, 49, 48, 48, 32, 49, 48, 49, 32, 49, 48, 50, 32, 49, 48, 51, 32, 50, 48, 48, 32, 50, 48, 49, 32, 50, 48, 50, 32, 50, 48, 51, 32, 50, 48, 52, 32, 50, 48, 53, 32, 50, 48, 54, 32, 50, 48, 55]⟩ w (by decide)).mono ?_
  rintro _ w' ⟨v, rfl, hr, hb⟩
  rw [show (wst (bl ⟨#[48, 32, 49, 48, 48, 32, 49, 48, 49, 32, 49, 48, 50, 32, 49, 48, 51, 32, 50, 48, 48, 32, 50, 48, 49, 32, 50, 48, 50, 32, 50, 48, 51, 32, 50, 48, 52, 32, 50, 48, 53, 32, 50, 48, 54, 32, 50, 48, 55]⟩) ((⟨#[48, 32, 49, 48, 48, 32, 49, 48, 49, 32, 49, 48, 50, 32, 49, 48, 51, 32, 50, 48, 48, 32, 50, 48, 49, 32, 50, 48, 50, 32, 50, 48, 51, 32, 50, 48, 52, 32, 50, 48, 53, 32, 50, 48, 54, 32, 50, 48, 55]⟩ : ByteArray).size + 1)).2 = [[48], [49, 48, 48], [49, 48, 49], [49, 48, 50], [49, 48, 51], [50, 48, 48], [50, 48, 49], [50, 48, 50], [50, 48, 51], [50, 48, 52], [50, 48, 53], [50, 48, 54], [50, 48, 55]] from by kernel_rfl] at hr
  obtain ⟨b, c, rfl, h⟩ := hr.strs (by decide)
  exact ⟨b, c, rfl, h, hb⟩
set_option maxHeartbeats 1000000 in
theorem table_7 (w : World) : Calls Tryz.prog 7 #[.int .i64 357] w (TbQ 357 w) := by
  go_enter Tryz.func7, Tryz.ntmps7
  go_wp2_with fail
  refine (words_7 _).mono ?_
  rintro _ w1 ⟨b, c, rfl, hs, hb⟩
  have HH : Hid (Strs w1 b [[48], [49, 48, 48], [49, 48, 49], [49, 48, 50], [49, 48, 51], [50, 48, 48], [50, 48, 49], [50, 48, 50], [50, 48, 51], [50, 48, 52], [50, 48, 53], [50, 48, 54], [50, 48, 55]] ∧ Below w.heap.size w w1) := ⟨hs, hb⟩
  clear hs hb
  go_wp2_with fail
  go_ret
  exact ⟨Or.inl ⟨_, b, c, by decide, HH.out.1, by decide, by decide, rfl⟩, HH.out.2⟩
theorem words_8 (w : World) : Calls Tryz.prog 21 #[.string ⟨#[69, 32, 70, 32, 73, 32, 87]⟩] w fun e w' => ∃ b c, e = .returned (.slice (some ⟨b, 0, none⟩) 4 c) ∧ Strs w' b [[69], [70], [73], [87]] ∧ Below w.heap.size w w' := by
  refine (words_any ⟨#[69, 32, 70, 32, 73, 32, 87]⟩ w (by decide)).mono ?_
  rintro _ w' ⟨v, rfl, hr, hb⟩
  rw [show (wst (bl ⟨#[69, 32, 70, 32, 73, 32, 87]⟩) ((⟨#[69, 32, 70, 32, 73, 32, 87]⟩ : ByteArray).size + 1)).2 = [[69], [70], [73], [87]] from by kernel_rfl] at hr
  obtain ⟨b, c, rfl, h⟩ := hr.strs (by decide)
  exact ⟨b, c, rfl, h, hb⟩
set_option maxHeartbeats 1000000 in
theorem table_8 (w : World) : Calls Tryz.prog 7 #[.int .i64 516] w (TbQ 516 w) := by
  go_enter Tryz.func7, Tryz.ntmps7
  go_wp2_with fail
  refine (words_8 _).mono ?_
  rintro _ w1 ⟨b, c, rfl, hs, hb⟩
  have HH : Hid (Strs w1 b [[69], [70], [73], [87]] ∧ Below w.heap.size w w1) := ⟨hs, hb⟩
  clear hs hb
  go_wp2_with fail
  go_ret
  exact ⟨Or.inl ⟨_, b, c, by decide, HH.out.1, by decide, by decide, rfl⟩, HH.out.2⟩
set_option maxHeartbeats 1000000 in
theorem table_none (n : Nat) (w : World) (h0 : n ≠ 3) (h1 : n ≠ 8) (h2 : n ≠ 61) (h3 : n ≠ 76) (h4 : n ≠ 103) (h5 : n ≠ 104) (h6 : n ≠ 155) (h7 : n ≠ 357) (h8 : n ≠ 516) : Calls Tryz.prog 7 #[.int .i64 n] w (TbQ n w) := by
  have HN : Hid (tabN n = none) := by unfold Hid tabN; rw [if_neg h0, if_neg h1, if_neg h2, if_neg h3, if_neg h4, if_neg h5, if_neg h6, if_neg h7, if_neg h8]
  have q0 : ((n : Int) == 3) = false := by simp; omega
  have q1 : ((n : Int) == 8) = false := by simp; omega
  have q2 : ((n : Int) == 61) = false := by simp; omega
  have q3 : ((n : Int) == 76) = false := by simp; omega
  have q4 : ((n : Int) == 103) = false := by simp; omega
  have q5 : ((n : Int) == 104) = false := by simp; omega
  have q6 : ((n : Int) == 155) = false := by simp; omega
  have q7 : ((n : Int) == 357) = false := by simp; omega
  have q8 : ((n : Int) == 516) = false := by simp; omega
  clear h0 h1 h2 h3 h4 h5 h6 h7 h8
  go_enter Tryz.func7, Tryz.ntmps7
  go_wp2_with fail
  go_ret
  exact ⟨Or.inr ⟨HN.out, rfl⟩, Below.refl _ _⟩
theorem table_any (n : Nat) (w : World) : Calls Tryz.prog 7 #[.int .i64 n] w (TbQ n w) := by
  by_cases h0 : n = 3
  · subst h0; exact table_0 w
  by_cases h1 : n = 8
  · subst h1; exact table_1 w
  by_cases h2 : n = 61
  · subst h2; exact table_2 w
  by_cases h3 : n = 76
  · subst h3; exact table_3 w
  by_cases h4 : n = 103
  · subst h4; exact table_4 w
  by_cases h5 : n = 104
  · subst h5; exact table_5 w
  by_cases h6 : n = 155
  · subst h6; exact table_6 w
  by_cases h7 : n = 357
  · subst h7; exact table_7 w
  by_cases h8 : n = 516
  · subst h8; exact table_8 w
  exact table_none n w h0 h1 h2 h3 h4 h5 h6 h7 h8
theorem mem_of {l : List (List UInt8)} {i : Nat} {x : List UInt8} (h : i < l.length) (he : l.getD i [] = x) : x ∈ l := by
  rw [← he]; simp [List.getD, h]
theorem not_mem_of {l : List (List UInt8)} {x : List UInt8} (h : ∀ j, j < l.length → l.getD j [] ≠ x) : x ∉ l := fun hm => by
  obtain ⟨j, hj, e⟩ := List.mem_iff_getElem.1 hm
  exact h j hj (by simp [List.getD, hj, e])
end Go.Proofs.YtjdpjielpbiedaaGreatDoor.Td
