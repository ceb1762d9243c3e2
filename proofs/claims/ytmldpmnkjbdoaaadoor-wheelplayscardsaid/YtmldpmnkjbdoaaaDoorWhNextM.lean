/-
  Wheel: the next of many, of none.
-/
import Derived.Test.YtmldpmnkjbdoaaaDoorWhMin
namespace Go.Proofs.YtmldpmnkjbdoaaaDoor
open Go.RowKit

def NxQ (ys : List Tm) (w : World) (e : Ending) (w' : World) : Prop := ∃ x : Tm, e = .returned (.tuple #[.int .i64 (x.2 : Int), .bool true]) ∧ x ∈ ys ∧ (∀ y ∈ ys, ¬ tlt y x) ∧ Below w.heap.size w w'
section
variable {w : World} {B T M now n : Nat} {v : Nat → Value} {L : Nat → List Tm} {f : Int → Option (Nat × Nat)}
set_option maxRecDepth 100000 in
set_option maxHeartbeats 4000000 in
theorem next_many (h : Tms w B T M now v L f n) {ys : List Tm} {i0 : Nat} (hi0 : i0 < 448) (h0 : L i0 = ys) (hne : 0 < ys.length) (hyl : ys.length ≤ 1000000) (he : ∀ i, i < i0 → L i = []) :
    Calls Tryd.prog 42 #[.pointer (some ⟨T, 0, none⟩)] w (NxQ ys w) := by
  have hr0 := h.row i0 hi0
  rw [h0] at hr0
  obtain ⟨a0, c0, hv0, _⟩ := hr0.isSlice
  rw [hv0] at hr0
  obtain ⟨m, hm⟩ : ∃ m, ys.length = m := ⟨_, rfl⟩
  have HMM := min_any hr0 hne hyl
  rw [hm] at HMM hv0 hne
  have hm0 : (0 : Int) < m := by omega
  have hm1 : (m : Int) > 0 := by omega
  have HM : Hid (type_of% HMM) := HMM
  have HT : Hid (Tms w B T M now v L f n ∧ (∀ i, i < i0 → L i = []) ∧ v i0 = .slice a0 m c0) := ⟨h, he, hv0⟩
  have hfld : ∀ (k T : Int) (w : World), (Instr.field 67 (.agg #[.int .i64 k, .int .i64 T]) 1).run Tryd.prog w = .ok (.int .i64 T) w := fun k T w => by kernel_rfl
  clear h h0 he hr0 hv0 HMM hyl hm
  go_enter Tryd.func42, Tryd.ntmps42
  go_wp2_with fail
  go_loopw [4, 5, 6, 7, 10] (fun _ _ _ t7 _ wx => ∃ p : Nat, 64 * p ≤ i0 ∧ t7 = .int .i64 (p : Int) ∧ wx = w) (fun _ _ _ t7 _ _ => 7 - (intOf t7).toNat)
  case atStart => exact ⟨0, by omega, rfl, rfl⟩
  case round =>
    obtain ⟨p, hp, rfl, hw⟩ := hrel
    subst wr
    have hlt1 : (p : Int) < 7 := by omega
    go_wp2_with fail
    go_loopw [5, 6, 10] (fun _ _ t10 wx => ∃ q : Nat, q ≤ 64 ∧ 64 * p + q ≤ i0 ∧ t10 = .int .i64 (q : Int) ∧ wx = w) (fun _ _ t10 _ => 64 - (intOf t10).toNat)
    case atStart => exact ⟨0, by omega, by omega, rfl, rfl⟩
    case round =>
      obtain ⟨q, hq, hpq, rfl, hw⟩ := hrel
      subst wr
      by_cases hq64 : q < 64
      · have hq1 : (q : Int) < 64 := by omega
        have hi : 64 * p + q < 448 := by omega
        by_cases hpi : 64 * p + q = i0
        · have cl : w.cell? ⟨T, 1 + p * 64 + q, none⟩ = some (.slice a0 m c0) := by
            rw [show 1 + p * 64 + q = 1 + (64 * p + q) by omega, hpi, ← HT.out.2.2]; exact HT.out.1.tb.cl hi0
          go_wp2_with fail
          refine HM.out.mono ?_
          rintro _ w1 ⟨⟨kz, tz⟩, rfl, hz1, hz2, hb1⟩
          have HZ : Hid ((kz, tz) ∈ ys ∧ (∀ y ∈ ys, ¬ tlt y (kz, tz)) ∧ Below w.heap.size w w1) := ⟨hz1, hz2, hb1⟩
          clear hz1 hz2 hb1
          simp only
          go_wp2_with fail
          refine bodyPost_ret (v := .tuple #[.int .i64 (tz : Int), .bool true]) ?_ rfl ⟨(kz, tz), rfl, HZ.out.1, HZ.out.2.1, HZ.out.2.2⟩
          simp [results, Tryd.results42, go_sem]
        · have hr := HT.out.1.row _ hi
          rw [HT.out.2.1 _ (by omega)] at hr
          obtain ⟨a1, c1, hv1, _⟩ := hr.isSlice
          have cl : w.cell? ⟨T, 1 + p * 64 + q, none⟩ = some (.slice a1 0 c1) := by
            rw [show 1 + p * 64 + q = 1 + (64 * p + q) by omega]
            have := HT.out.1.tb.cl hi
            rwa [show v (64 * p + q) = .slice a1 0 c1 from hv1] at this
          clear hr hv1
          go_wp2_with fail
          go_roundw
          case rel => exact ⟨q + 1, by omega, by omega, by go_num, trivial⟩
          case measure => simp [intOf]; omega
      · have hq1 : ¬ (q : Int) < 64 := by omega
        go_wp2_with fail
        go_roundw
        case rel => exact ⟨p + 1, by omega, by go_num, trivial⟩
        case measure => simp [intOf]; omega
set_option maxRecDepth 100000 in
set_option maxHeartbeats 4000000 in
theorem next_none (h : Tms w B T M now v L f n) (he : ∀ i, i < 448 → L i = []) :
    Calls Tryd.prog 42 #[.pointer (some ⟨T, 0, none⟩)] w fun e w' => e = .returned (.tuple #[.int .i64 0, .bool false]) ∧ Below w.heap.size w w' := by
  have HT : Hid (Tms w B T M now v L f n ∧ (∀ i, i < 448 → L i = [])) := ⟨h, he⟩
  clear h he
  go_enter Tryd.func42, Tryd.ntmps42
  go_wp2_with fail
  go_loopw [4, 5, 6, 7, 10] (fun _ _ _ t7 _ wx => ∃ p : Nat, p ≤ 7 ∧ t7 = .int .i64 (p : Int) ∧ wx = w) (fun _ _ _ t7 _ _ => 7 - (intOf t7).toNat)
  case atStart => exact ⟨0, by omega, rfl, rfl⟩
  case round =>
    obtain ⟨p, hp, rfl, hw⟩ := hrel
    subst wr
    by_cases hp7 : p < 7
    · have hlt1 : (p : Int) < 7 := by omega
      go_wp2_with fail
      go_loopw [5, 6, 10] (fun _ _ t10 wx => ∃ q : Nat, q ≤ 64 ∧ t10 = .int .i64 (q : Int) ∧ wx = w) (fun _ _ t10 _ => 64 - (intOf t10).toNat)
      case atStart => exact ⟨0, by omega, rfl, rfl⟩
      case round =>
        obtain ⟨q, hq, rfl, hw⟩ := hrel
        subst wr
        by_cases hq64 : q < 64
        · have hq1 : (q : Int) < 64 := by omega
          have hi : 64 * p + q < 448 := by omega
          have hr := HT.out.1.row _ hi
          rw [HT.out.2 _ hi] at hr
          obtain ⟨a1, c1, hv1, _⟩ := hr.isSlice
          have cl : w.cell? ⟨T, 1 + p * 64 + q, none⟩ = some (.slice a1 0 c1) := by
            rw [show 1 + p * 64 + q = 1 + (64 * p + q) by omega]
            have := HT.out.1.tb.cl hi
            rwa [show v (64 * p + q) = .slice a1 0 c1 from hv1] at this
          clear hr hv1
          go_wp2_with fail
          go_roundw
          case rel => exact ⟨q + 1, by omega, by go_num, trivial⟩
          case measure => simp [intOf]; omega
        · have hq1 : ¬ (q : Int) < 64 := by omega
          go_wp2_with fail
          go_roundw
          case rel => exact ⟨p + 1, by omega, by go_num, trivial⟩
          case measure => simp [intOf]; omega
    · have hlt1 : ¬ (p : Int) < 7 := by omega
      go_wp2_with fail
      refine bodyPost_ret (v := .tuple #[.int .i64 0, .bool false]) ?_ rfl ⟨rfl, Below.refl _ _⟩
      simp [results, Tryd.results42, go_sem]
end
end Go.Proofs.YtmldpmnkjbdoaaaDoor
