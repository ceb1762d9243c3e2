/-
  SeqRising.
-/
import Derived.Test.YtnabpjfdpelejaaDoorSqBegun
namespace Go.Proofs.YtnabpjfdpelejaaDoor
open Go.RowKit

set_option maxRecDepth 100000 in
set_option maxHeartbeats 4000000 in
theorem rising_law (nx ct : Int) (w : World) (hV : PV w) : Calls Tryd.prog 3 #[.int .i64 nx, .int .i64 ct] w fun r w' => r = .returned (.bool true) ∧ Below w.heap.size w w' := by
  have HV : Hid (PV w) := hV
  clear hV
  go_enter Tryd.func3, Tryd.ntmps3
  go_wp2_with fail
  refine (begun_any w HV.out).mono ?_
  rintro _ w1 ⟨bs, br, rfl, H1⟩
  by_cases hok : SOk nx
  · obtain ⟨g1, g2⟩ := hok
    go_wp2_with fail
    refine (pNewS_ok nx ⟨g1, g2⟩ w1 H1.out.here).mono ?_
    rintro _ w2 ⟨s, rfl, hge, hs, hb⟩
    have HI : Hid (BR w w2 s br nx 1 0) := ⟨hs, H1.out.rc.off (P := fun _ => False) (Off.of_below hb) id, by have := H1.out.rc.lt; omega, ⟨HV.out, below_then H1.out.inn.bl hb, fun k hk => by have := H1.out.inn.bl.size; rcases hk with rfl | rfl; omega; exact H1.out.inn.ge _ (Or.inr rfl)⟩⟩
    clear hge hs hb H1
    by_cases hct : 100000 < ct
    · go_wp2_with fail
      go_ret
      exact ⟨rfl, HI.out.inn.bl⟩
    · go_wp2_with fail
      clear g1 g2
      go_loopw [10, 11] (fun tw ti wx => ∃ (v : Int) (j : Nat), tw = .int .i64 v ∧ ti = .int .i64 j ∧ j ≤ ct.toNat ∧ Hid (BR w wx s br v 1 0)) (fun _ ti _ => ct.toNat - (intOf ti).toNat)
      case atStart => exact ⟨nx, 0, rfl, rfl, Nat.zero_le _, HI⟩
      case round =>
        obtain ⟨v, j, rfl, rfl, hj, HI⟩ := hrel
        by_cases hlt : (j : Int) < ct
        · have hj2 : j < ct.toNat := by omega
          by_cases hv : v = 0
          · subst hv
            go_wp2_with fail
            refine HI.out.take.mono ?_
            rintro _ w3 ⟨ev, rfl, H3⟩
            go_wp2_with fail
            refine (H3.out.1.code H3.out.2.1).mono ?_
            rw [show takeC 0 = 9 from rfl]
            rintro _ w4 ⟨rfl, H4⟩
            go_wp2_with fail
            refine H4.out.1.next.mono ?_
            rw [show takeS 0 = 0 from rfl]
            rintro _ w5 ⟨rfl, H5⟩
            go_wp2_with fail
            go_roundw
            case rel => exact ⟨0, j + 1, rfl, by go_num, hj2, H5.out.1⟩
            case measure => simp [intOf]; omega
          · have hv1 : (v == 0) = false := by simpa using hv
            have hr := HI.out.sn.ok
            obtain ⟨r1, r2⟩ := hr
            have t1 : takeC v = 0 := if_neg hv
            have t2 : takeS v = aft v := if_neg hv
            go_wp2_with fail
            refine HI.out.take.mono ?_
            rw [t1, t2]
            rintro _ w3 ⟨ev, rfl, H3⟩
            obtain rfl := H3.out.2.1.nil
            by_cases hm : v = 2147483647
            · subst hm
              go_wp2_with fail
              refine H3.out.1.next.mono ?_
              rw [show aft 2147483647 = 0 from rfl]
              rintro _ w5 ⟨rfl, H5⟩
              go_wp2_with fail
              go_roundw
              case rel => exact ⟨0, j + 1, rfl, by go_num, hj2, H5.out.1⟩
              case measure => simp [intOf]; omega
            · have hm1 : ¬ 2147483647 < v + 1 := by omega
              have t3 : aft v = v + 1 := if_neg hm
              go_wp2_with fail
              refine H3.out.1.next.mono ?_
              rw [t3]
              rintro _ w5 ⟨rfl, H5⟩
              go_wp2_with fail
              go_roundw
              case rel => exact ⟨v + 1, j + 1, by go_num, by go_num, hj2, H5.out.1⟩
              case measure => simp [intOf]; omega
        · go_wp2_with fail
          go_ret
          exact ⟨rfl, HI.out.inn.bl⟩
  · have hn : ¬ (0 ≤ nx ∧ nx ≤ 2147483647) := hok
    go_wp2_with fail
    refine (pNewS_no nx hok w1 H1.out.here).mono ?_
    rintro _ w2 ⟨ev, rfl, hev, hb⟩
    obtain ⟨b, rfl⟩ := hev.some (by decide)
    have HB : Hid (Below w.heap.size w w2) := below_then H1.out.inn.bl hb
    clear hev hb
    by_cases h0 : 0 ≤ nx
    · have h2 : ¬ nx ≤ 2147483647 := fun h => hn ⟨h0, h⟩
      clear hn hok
      go_wp2_with fail
      go_ret
      exact ⟨rfl, HB.out⟩
    · clear hn hok
      go_wp2_with fail
      go_ret
      exact ⟨rfl, HB.out⟩
end Go.Proofs.YtnabpjfdpelejaaDoor
