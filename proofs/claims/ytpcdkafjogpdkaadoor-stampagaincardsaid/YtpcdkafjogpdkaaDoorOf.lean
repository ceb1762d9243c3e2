/-
  stamp.Of.
-/
import Derived.Test.YtpcdkafjogpdkaaDoorStampOf
namespace Go.Proofs.YtpcdkafjogpdkaaDoor
open Go.RowKit

set_option maxHeartbeats 1000000 in
theorem of_ok (t level : Int) (w : World) (hM : Months w) (h0 : 0 ≤ t) (h1 : t ≤ 3155378975999999) (hl : level = 6 ∨ level = 7) :
    Calls Tryd.prog 15 #[.int .i64 t, .int .i64 level] w fun e w' => (∃ y m d : Int, e = .returned (.tuple #[ofV level t y m d, .nilIface]) ∧ vldB y m d = true ∧ num y m d = t / 864000000) ∧ Below w.heap.size w w' := by
  have hM1 := months_alloc hM (.cells #[.int .i64 0, .int .i64 0, .int .i64 0, .int .i64 0, .int .i64 0, .int .i64 0, .int .i64 0, .int .i64 0, .int .i64 0, .bool false, .int .i64 0] 23)
  have k0 : ¬ t < 0 := by omega
  rcases hl with rfl | rfl
  · go_enter Tryd.func15, Tryd.ntmps15
    go_wp2_with fail
    refine (stampOf6 _ _ hM1 h0 h1).mono ?_
    rintro e w1 ⟨⟨y, m, d, rfl, hv, hn⟩, hb⟩
    have HN : Hid (num y m d = t / 864000000) := hn
    have HV : Hid (vldB y m d = true) := hv
    obtain ⟨hc, hf⟩ := bcell hb
    have HB : Hid (Below w.heap.size w w1) := Below.trans ((Below.refl w.heap.size w).alloc (Nat.le_refl _) _) (hb.mono (by simp))
    clear hn hv hM hM1 hb
    go_wp2
    refine bodyPost_ret (v := .tuple #[ofV 6 t y m d, .nilIface]) (by simp [results, Tryd.results15, go_sem, ofV6, hc]) rfl ⟨⟨y, m, d, rfl, HV.out, HN.out⟩, ?_⟩
    exact below_set11 HB.out _ _ _ _ _ _ _ _ _ _ _
  · go_enter Tryd.func15, Tryd.ntmps15
    go_wp2_with fail
    refine (stampOf7 _ _ hM1 h0 h1).mono ?_
    rintro e w1 ⟨⟨y, m, d, rfl, hv, hn⟩, hb⟩
    have HN : Hid (num y m d = t / 864000000) := hn
    have HV : Hid (vldB y m d = true) := hv
    obtain ⟨hc, hf⟩ := bcell hb
    have HB : Hid (Below w.heap.size w w1) := Below.trans ((Below.refl w.heap.size w).alloc (Nat.le_refl _) _) (hb.mono (by simp))
    clear hn hv hM hM1 hb
    go_wp2
    refine bodyPost_ret (v := .tuple #[ofV 7 t y m d, .nilIface]) (by simp [results, Tryd.results15, go_sem, ofV7, hc]) rfl ⟨⟨y, m, d, rfl, HV.out, HN.out⟩, ?_⟩
    exact below_set11 HB.out _ _ _ _ _ _ _ _ _ _ _

set_option maxHeartbeats 1000000 in
theorem of_bad (t level : Int) (w : World) (h : t < 0 ∨ 3155378975999999 < t ∨ (level ≠ 6 ∧ level ≠ 7)) :
    Calls Tryd.prog 15 #[.int .i64 t, .int .i64 level] w fun e w' => (∃ b, e = .returned (.tuple #[.agg #[.int .i64 0, .int .i64 0, .int .i64 0, .int .i64 0, .int .i64 0, .int .i64 0, .int .i64 0, .int .i64 0, .int .i64 0, .bool false, .int .i64 0], .iface 52 (.pointer (some ⟨b, 0, none⟩))]) ∧ FaultAt w' b 0 2) ∧ Below w.heap.size w w' := by
  have fin : ∀ W : World, W = (w.alloc (.cells #[.int .i64 0, .int .i64 0, .int .i64 0, .int .i64 0, .int .i64 0, .int .i64 0, .int .i64 0, .int .i64 0, .int .i64 0, .bool false, .int .i64 0] 23)).alloc (.cells #[.string ⟨#[115, 116, 97, 109, 112]⟩, .int .i64 0, .int .i64 2, .nilIface] 56) →
      (∃ b, (Ending.returned (.tuple #[.agg #[.int .i64 0, .int .i64 0, .int .i64 0, .int .i64 0, .int .i64 0, .int .i64 0, .int .i64 0, .int .i64 0, .int .i64 0, .bool false, .int .i64 0], .iface 52 (.pointer (some ⟨w.heap.size + 1, 0, none⟩))]) : Ending) = .returned (.tuple #[.agg #[.int .i64 0, .int .i64 0, .int .i64 0, .int .i64 0, .int .i64 0, .int .i64 0, .int .i64 0, .int .i64 0, .int .i64 0, .bool false, .int .i64 0], .iface 52 (.pointer (some ⟨b, 0, none⟩))]) ∧ FaultAt W b 0 2) ∧ Below w.heap.size w W := by
    rintro W rfl
    exact ⟨⟨_, rfl, by simp [FaultAt]⟩, ((Below.refl _ _).alloc (Nat.le_refl _) _).alloc (by simp) _⟩
  by_cases h1 : t < 0
  · go_enter Tryd.func15, Tryd.ntmps15
    go_wp2_with (go_at_call 22; refine (fault_any _ _ _).mono ?_; rintro e w' ⟨rfl, rfl⟩)
    refine bodyPost_ret (v := .tuple #[.agg #[.int .i64 0, .int .i64 0, .int .i64 0, .int .i64 0, .int .i64 0, .int .i64 0, .int .i64 0, .int .i64 0, .int .i64 0, .bool false, .int .i64 0], .iface 52 (.pointer (some ⟨w.heap.size + 1, 0, none⟩))]) (by simp [results, Tryd.results15, go_sem]) rfl (fin _ rfl)
  · by_cases h2 : 3155378975999999 < t
    · go_enter Tryd.func15, Tryd.ntmps15
      go_wp2_with (go_at_call 22; refine (fault_any _ _ _).mono ?_; rintro e w' ⟨rfl, rfl⟩)
      refine bodyPost_ret (v := .tuple #[.agg #[.int .i64 0, .int .i64 0, .int .i64 0, .int .i64 0, .int .i64 0, .int .i64 0, .int .i64 0, .int .i64 0, .int .i64 0, .bool false, .int .i64 0], .iface 52 (.pointer (some ⟨w.heap.size + 1, 0, none⟩))]) (by simp [results, Tryd.results15, go_sem]) rfl (fin _ rfl)
    · have h3 : level ≠ 6 ∧ level ≠ 7 := by omega
      have h4 : (level != 6) = true := by simpa using h3.1
      have h5 : (level != 7) = true := by simpa using h3.2
      have h4' : (level == 6) = false := by simpa using h3.1
      have h5' : (level == 7) = false := by simpa using h3.2
      clear h h3
      go_enter Tryd.func15, Tryd.ntmps15
      go_wp2_with (go_at_call 22; refine (fault_any _ _ _).mono ?_; rintro e w' ⟨rfl, rfl⟩)
      refine bodyPost_ret (v := .tuple #[.agg #[.int .i64 0, .int .i64 0, .int .i64 0, .int .i64 0, .int .i64 0, .int .i64 0, .int .i64 0, .int .i64 0, .int .i64 0, .bool false, .int .i64 0], .iface 52 (.pointer (some ⟨w.heap.size + 1, 0, none⟩))]) (by simp [results, Tryd.results15, go_sem]) rfl (fin _ rfl)
end Go.Proofs.YtpcdkafjogpdkaaDoor
