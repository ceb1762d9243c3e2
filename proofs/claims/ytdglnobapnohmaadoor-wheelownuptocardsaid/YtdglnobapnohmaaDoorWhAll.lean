/-
  timers: all.
-/
import Derived.Test.YtdglnobapnohmaaDoorWhAdv
namespace Go.Proofs.YtdglnobapnohmaaDoor
open Go.RowKit

theorem btw_all (L : Nat → List Tm) : btw L 0 448 = allL L := by
  have := btw_pick L 0 448 (by omega)
  rw [Nat.zero_add] at this
  rw [this]
  have e : (List.range 448).filter (rng 0 448) = (List.range 448).filter (fun _ => true) := List.filter_congr fun i hi => by
    have := List.mem_range.1 hi
    unfold rng
    rw [decide_eq_true this, decide_eq_true (Nat.zero_le i)]
    rfl
  show ((List.range 448).filter (rng 0 448)).flatMap L = ((List.range 448).filter fun _ => true).flatMap L
  rw [e]
section
variable {w : World} {B T M now n : Nat} {v : Nat → Value} {L : Nat → List Tm} {f : Int → Option (Nat × Nat)}
set_option maxRecDepth 100000 in
set_option maxHeartbeats 4000000 in
theorem all_any (h : Tms w B T M now v L f n) (hn : (allL L).length ≤ 1000000) :
    Calls Tryd.prog 45 #[.pointer (some ⟨T, 0, none⟩)] w fun e w' => ∃ a1 n1 c1, e = .returned (.slice a1 n1 c1) ∧ TRow w' w.heap.size (.slice a1 n1 c1) (allL L) ∧ Below w.heap.size w w' := by
  have HT : Hid (Tms w B T M now v L f n ∧ (allL L).length ≤ 1000000) := ⟨h, hn⟩
  clear h hn
  go_enter Tryd.func45, Tryd.ntmps45
  go_wp2_with fail
  go_loopw [3, 4, 5, 6, 9] (fun t3 _ _ t6 _ wx => ∃ (p : Nat) (a1 : Option Addr) (n1 c1 : Nat), p ≤ 7 ∧ t6 = .int .i64 (p : Int) ∧ t3 = .slice a1 n1 c1 ∧ Hid (TRow wx w.heap.size (.slice a1 n1 c1) (btw L 0 (64 * p)) ∧ Below w.heap.size w wx)) (fun _ _ _ t6 _ _ => 7 - (intOf t6).toNat)
  case atStart => exact ⟨0, none, 0, 0, by omega, rfl, rfl, by rw [Nat.mul_zero, btw_self]; exact ERow.nil _ _ _ _ _, Below.refl _ _⟩
  case round =>
    obtain ⟨p, a1, n1, c1, hp, rfl, rfl, HJ⟩ := hrel
    by_cases hlt : p < 7
    · have hlt1 : (p : Int) < 7 := by omega
      go_wp2_with fail
      go_loopw [3, 5, 9] (fun t3 _ t9 wx => ∃ (q : Nat) (a1 : Option Addr) (n1 c1 : Nat), q ≤ 64 ∧ t9 = .int .i64 (q : Int) ∧ t3 = .slice a1 n1 c1 ∧ Hid (TRow wx w.heap.size (.slice a1 n1 c1) (btw L 0 (64 * p + q)) ∧ Below w.heap.size w wx)) (fun _ _ t9 _ => 64 - (intOf t9).toNat)
      case atStart => exact ⟨0, a1, n1, c1, by omega, rfl, rfl, HJ.out⟩
      case round =>
        obtain ⟨q, a1, n1, c1, hq, rfl, rfl, HK⟩ := hrel
        by_cases hlq : q < 64
        · have hlq1 : (q : Int) < 64 := by omega
          have hi : 64 * p + q < 448 := by omega
          have ht := HT.out.1.below HK.out.2
          have hrow := ht.row _ hi
          obtain ⟨ga, gc, hv, _⟩ := hrow.isSlice
          have cl : wr.cell? ⟨T, 1 + p * 64 + q, none⟩ = some (v (64 * p + q)) := by
            rw [show 1 + p * 64 + q = 1 + (64 * p + q) by omega]; exact ht.tb.cl hi
          rw [hv] at cl
          have hlen : (btw L 0 (64 * p + q)).length + (L (64 * p + q)).length ≤ 1000000 := by
            have h1 := btw_len L (a := 0) (b := 64 * p + q + 1) (c := 448) (by omega) (by omega)
            rw [btw_step L (by omega), btw_all, List.length_append] at h1
            have := HT.out.2
            omega
          obtain ⟨a2, c2, W1, hap, r1, o1, b1⟩ := run_tapp HK.out.1 hrow hv (by omega) HK.out.2.size
          obtain ⟨n2, hn2⟩ : ∃ z, (btw L 0 (64 * p + q)).length + (L (64 * p + q)).length = z := ⟨_, rfl⟩
          obtain ⟨m, hm⟩ : ∃ z, (L (64 * p + q)).length = z := ⟨_, rfl⟩
          rw [hn2] at hap r1 b1
          rw [hm] at hap cl
          have HN : Hid (TRow W1 w.heap.size (.slice a2 n2 c2) (btw L 0 (64 * p + (q + 1))) ∧ Below w.heap.size w W1) := by
            refine ⟨?_, HK.out.2.trans (o1.below HK.out.2.size fun g e => (HK.out.1.lt e).1)⟩
            rw [show 64 * p + (q + 1) = 64 * p + q + 1 by omega, btw_step L (by omega)]
            exact r1
          clear ht hrow hv hlen hn2 hm r1 o1 b1 HK HJ
          go_wp2_with (at_builtin; refine wpList_append_run rfl (.tmp 12) (.tmp 20) 49 _ rfl hap ?_)
          go_roundw
          case rel => exact ⟨q + 1, a2, n2, c2, by omega, by go_num, rfl, HN.out⟩
          case measure => simp [intOf]; omega
        · have hlq1 : ¬ (q : Int) < 64 := by omega
          obtain rfl : q = 64 := by omega
          clear HJ
          go_wp2_with fail
          go_roundw
          case rel => exact ⟨p + 1, a1, n1, c1, by omega, by go_num, rfl, by rw [show 64 * (p + 1) = 64 * p + 64 by omega]; exact HK.out⟩
          case measure => simp [intOf]; omega
    · have hlt1 : ¬ (p : Int) < 7 := by omega
      obtain rfl : p = 7 := by omega
      go_wp2_with fail
      go_ret
      exact ⟨a1, n1, c1, rfl, by rw [← btw_all]; exact HJ.out.1, HJ.out.2⟩
end
end Go.Proofs.YtdglnobapnohmaaDoor
