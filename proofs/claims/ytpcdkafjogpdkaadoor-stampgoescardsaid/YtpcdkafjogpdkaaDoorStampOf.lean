/-
  stamp.stampOf: the stamp of an instant.
-/
import Derived.Test.YtpcdkafjogpdkaaDoorDay
import Derived.Test.YtpcdkafjogpdkaaDoorLawIs
namespace Go.Proofs.YtpcdkafjogpdkaaDoor
open Go.RowKit

def hourOf (t : Int) : Int := t % 864000000 / 36000000
def minuteOf (t : Int) : Int := t % 36000000 / 600000
def secondOf (t : Int) : Int := t % 600000 / 10000
def partOf (t : Int) : Int := t % 10000
theorem ret_stamp {a0 a1 a2 a3 a4 a5 a6 a7 a8 a10 b0 b1 b2 b3 b4 b5 b6 b7 b8 b10 : Int} {z z' : Bool} (h0 : a0 = b0) (h1 : a1 = b1) (h2 : a2 = b2) (h3 : a3 = b3) (h4 : a4 = b4) (h5 : a5 = b5) (h6 : a6 = b6) (h7 : a7 = b7) (h8 : a8 = b8) (h9 : z = z') (h10 : a10 = b10) :
    (Value.agg #[.int .i64 a0, .int .i64 a1, .int .i64 a2, .int .i64 a3, .int .i64 a4, .int .i64 a5, .int .i64 a6, .int .i64 a7, .int .i64 a8, .bool z, .int .i64 a10]) = .agg #[.int .i64 b0, .int .i64 b1, .int .i64 b2, .int .i64 b3, .int .i64 b4, .int .i64 b5, .int .i64 b6, .int .i64 b7, .int .i64 b8, .bool z', .int .i64 b10] := by
  rw [h0, h1, h2, h3, h4, h5, h6, h7, h8, h9, h10]

theorem below_set11 {B : Nat} {w w1 : World} (h : Below B w w1) (v0 v1 v2 v3 v4 v5 v6 v7 v8 v9 v10 : Value) :
    Below B w (((((((((((w1.setCell ⟨B, 0, none⟩ v0).setCell ⟨B, 1, none⟩ v1).setCell ⟨B, 2, none⟩ v2).setCell ⟨B, 3, none⟩ v3).setCell ⟨B, 4, none⟩ v4).setCell ⟨B, 5, none⟩ v5).setCell ⟨B, 6, none⟩ v6).setCell ⟨B, 7, none⟩ v7).setCell ⟨B, 8, none⟩ v8).setCell ⟨B, 9, none⟩ v9).setCell ⟨B, 10, none⟩ v10) :=
  ((((((((((h.setCell (p := ⟨B, 0, none⟩) (Nat.le_refl _) _).setCell (p := ⟨B, 1, none⟩) (Nat.le_refl _) _).setCell (p := ⟨B, 2, none⟩) (Nat.le_refl _) _).setCell (p := ⟨B, 3, none⟩) (Nat.le_refl _) _).setCell (p := ⟨B, 4, none⟩) (Nat.le_refl _) _).setCell (p := ⟨B, 5, none⟩) (Nat.le_refl _) _).setCell (p := ⟨B, 6, none⟩) (Nat.le_refl _) _).setCell (p := ⟨B, 7, none⟩) (Nat.le_refl _) _).setCell (p := ⟨B, 8, none⟩) (Nat.le_refl _) _).setCell (p := ⟨B, 9, none⟩) (Nat.le_refl _) _).setCell (p := ⟨B, 10, none⟩) (Nat.le_refl _) _

set_option maxHeartbeats 1000000 in
theorem stampOf6 (t : Int) (w : World) (hM : Months w) (h0 : 0 ≤ t) (h1 : t ≤ 3155378975999999) :
    Calls Tryd.prog 34 #[.int .i64 t, .int .i64 6] w fun e w' => (∃ y m d : Int, e = .returned (.agg #[.int .i64 6, .int .i64 y, .int .i64 m, .int .i64 d, .int .i64 (hourOf t), .int .i64 (minuteOf t), .int .i64 (secondOf t), .int .i64 0, .int .i64 0, .bool false, .int .i64 0]) ∧ vldB y m d = true ∧ num y m d = t / 864000000) ∧ Below w.heap.size w w' := by
  have hM1 := months_alloc hM (.cells #[.int .i64 0, .int .i64 0, .int .i64 0, .int .i64 0, .int .i64 0, .int .i64 0, .int .i64 0, .int .i64 0, .int .i64 0, .bool false, .int .i64 0] 23)
  go_enter Tryd.func34, Tryd.ntmps34
  go_wp2_with fail
  refine (dayAt_any _ _ hM1 (by omega) (by omega)).mono ?_
  rintro e w' ⟨⟨y, m, d, rfl, hv, hn⟩, rfl⟩
  have HN : Hid (num y m d = t / 864000000) := hn
  have hy := (vld_iff.1 hv).1
  have hy2 := (vld_iff.1 hv).2.1
  have hm := (vld_iff.1 hv).2.2.1
  have hm2 := (vld_iff.1 hv).2.2.2.1
  have hd := (vld_iff.1 hv).2.2.2.2.1
  have hd2 : d ≤ 31 := by have := (vld_iff.1 hv).2.2.2.2.2; have := dim_bd y m; omega
  have HV : Hid (vldB y m d = true) := hv
  clear hn hv hM hM1
  go_wp2
  refine bodyPost_ret (v := .agg #[.int .i64 6, .int .i64 y, .int .i64 m, .int .i64 d, .int .i64 (t % 864000000 / 36000000), .int .i64 (t % 864000000 % 36000000 / 600000), .int .i64 (t % 864000000 % 600000 / 10000), .int .i64 0, .int .i64 0, .bool false, .int .i64 0]) (by simp [results, Tryd.results34, go_sem]) rfl ⟨⟨y, m, d, ?_, HV.out, HN.out⟩, ?_⟩
  · exact congrArg Ending.returned (ret_stamp rfl rfl rfl rfl rfl (by unfold minuteOf; omega) (by unfold secondOf; omega) rfl rfl rfl rfl)
  · exact ((Below.refl _ _).alloc (Nat.le_refl _) _).alloc (by simp) _
set_option maxHeartbeats 1000000 in
theorem stampOf7 (t : Int) (w : World) (hM : Months w) (h0 : 0 ≤ t) (h1 : t ≤ 3155378975999999) :
    Calls Tryd.prog 34 #[.int .i64 t, .int .i64 7] w fun e w' => (∃ y m d : Int, e = .returned (.agg #[.int .i64 7, .int .i64 y, .int .i64 m, .int .i64 d, .int .i64 (hourOf t), .int .i64 (minuteOf t), .int .i64 (secondOf t), .int .i64 (partOf t), .int .i64 4, .bool false, .int .i64 0]) ∧ vldB y m d = true ∧ num y m d = t / 864000000) ∧ Below w.heap.size w w' := by
  have hM1 := months_alloc hM (.cells #[.int .i64 0, .int .i64 0, .int .i64 0, .int .i64 0, .int .i64 0, .int .i64 0, .int .i64 0, .int .i64 0, .int .i64 0, .bool false, .int .i64 0] 23)
  go_enter Tryd.func34, Tryd.ntmps34
  go_wp2_with fail
  refine (dayAt_any _ _ hM1 (by omega) (by omega)).mono ?_
  rintro e w' ⟨⟨y, m, d, rfl, hv, hn⟩, rfl⟩
  have HN : Hid (num y m d = t / 864000000) := hn
  have hy := (vld_iff.1 hv).1
  have hy2 := (vld_iff.1 hv).2.1
  have hm := (vld_iff.1 hv).2.2.1
  have hm2 := (vld_iff.1 hv).2.2.2.1
  have hd := (vld_iff.1 hv).2.2.2.2.1
  have hd2 : d ≤ 31 := by have := (vld_iff.1 hv).2.2.2.2.2; have := dim_bd y m; omega
  have HV : Hid (vldB y m d = true) := hv
  clear hn hv hM hM1
  go_wp2
  refine bodyPost_ret (v := .agg #[.int .i64 7, .int .i64 y, .int .i64 m, .int .i64 d, .int .i64 (t % 864000000 / 36000000), .int .i64 (t % 864000000 % 36000000 / 600000), .int .i64 (t % 864000000 % 600000 / 10000), .int .i64 (t % 864000000 % 10000), .int .i64 4, .bool false, .int .i64 0]) (by simp [results, Tryd.results34, go_sem]) rfl ⟨⟨y, m, d, ?_, HV.out, HN.out⟩, ?_⟩
  · exact congrArg Ending.returned (ret_stamp rfl rfl rfl rfl rfl (by unfold minuteOf; omega) (by unfold secondOf; omega) (by unfold partOf; omega) rfl rfl rfl)
  · exact ((Below.refl _ _).alloc (Nat.le_refl _) _).alloc (by simp) _

/-- The stamp that Of tells, but for its day. -/
def ofV (level t y m d : Int) : Value := .agg #[.int .i64 level, .int .i64 y, .int .i64 m, .int .i64 d, .int .i64 (hourOf t), .int .i64 (minuteOf t), .int .i64 (secondOf t), .int .i64 (if level = 7 then partOf t else 0), .int .i64 (if level = 7 then 4 else 0), .bool false, .int .i64 0]
theorem ofV6 (t y m d : Int) : ofV 6 t y m d = .agg #[.int .i64 6, .int .i64 y, .int .i64 m, .int .i64 d, .int .i64 (hourOf t), .int .i64 (minuteOf t), .int .i64 (secondOf t), .int .i64 0, .int .i64 0, .bool false, .int .i64 0] := rfl
theorem ofV7 (t y m d : Int) : ofV 7 t y m d = .agg #[.int .i64 7, .int .i64 y, .int .i64 m, .int .i64 d, .int .i64 (hourOf t), .int .i64 (minuteOf t), .int .i64 (secondOf t), .int .i64 (partOf t), .int .i64 4, .bool false, .int .i64 0] := rfl

end Go.Proofs.YtpcdkafjogpdkaaDoor
