/-
  The law StampBack, walked.
-/
import Derived.Test.YtpcdkafjogpdkaaDoorBk4
import Derived.Test.YtpcdkafjogpdkaaDoorAnchor
namespace Go.Proofs.YtpcdkafjogpdkaaDoor
open Go.RowKit

set_option maxRecDepth 100000 in
set_option maxHeartbeats 1000000 in
theorem back_any (s : ByteArray) (w : World) (hs : s.size ≤ maxLen) (hP : Pow w) (hM : Months w) : Calls Tryd.prog 4 #[.string s] w fun e w' => e = .returned (.bool true) ∧ Below w.heap.size w w' := by
  obtain ⟨lv, y, mo, d, A, B, hd⟩ : ∃ lv y mo d A B, dateS s 0 none = (lv, y, mo, d, A, B) := ⟨_, _, _, _, _, _, rfl⟩
  obtain ⟨lv2, h, mi, sc, p, dg, A2, B2, hc⟩ : ∃ lv2 h mi sc p dg A2 B2, clkS s A B lv = (lv2, h, mi, sc, p, dg, A2, B2) := ⟨_, _, _, _, _, _, _, _, rfl⟩
  obtain ⟨Z, ZN, A3, B3, hz⟩ : ∃ Z ZN A3 B3, zoneS s A2 B2 = (Z, ZN, A3, B3) := ⟨_, _, _, _, rfl⟩
  have HM : Hid (Months w) := hM
  have HP : Hid (Pow w) := hP
  clear hM hP
  cases he : endB s A3 B3 with
  | some q =>
    have HPb : Hid (Calls Tryd.prog 12 #[.string s] w fun e w' => (∃ b, e = .returned (.tuple #[.agg #[.int .i64 0, .int .i64 0, .int .i64 0, .int .i64 0, .int .i64 0, .int .i64 0, .int .i64 0, .int .i64 0, .int .i64 0, .bool false, .int .i64 0], .iface 52 (.pointer (some ⟨b, 0, none⟩))]) ∧ FaultAt w' b q 10) ∧ Below w.heap.size w w') := Parse_any s w hs HM.out hd hc hz he
    clear hd hc hz he
    go_enter Tryd.func4, Tryd.ntmps4
    go_wp2_with fail
    refine HPb.out.mono ?_
    rintro e w1 ⟨⟨b, rfl, _⟩, hb⟩
    have HB1 : Hid (Below w.heap.size w (w1.alloc (.cells #[.int .i64 0, .int .i64 0, .int .i64 0, .int .i64 0, .int .i64 0, .int .i64 0, .int .i64 0, .int .i64 0, .int .i64 0, .bool false, .int .i64 0] 23))) := hb.alloc hb.size _
    clear hb
    go_wp2_with fail
    refine (anchor_any _ (months_below HM.out HB1.out) (HP.out.below HB1.out)).mono ?_
    rintro e wa ⟨rfl, hb⟩
    have HBa : Hid (Below w.heap.size w wa) := below_then HB1.out hb
    clear hb
    go_wp2_with fail
    go_ret
    exact ⟨rfl, HBa.out⟩
  | none =>
    have HPb : Hid (Calls Tryd.prog 12 #[.string s] w fun e w' => e = .returned (.tuple #[.agg #[.int .i64 lv2, .int .i64 y, .int .i64 mo, .int .i64 d, .int .i64 h, .int .i64 mi, .int .i64 sc, .int .i64 p, .int .i64 dg, .bool Z, .int .i64 ZN], .nilIface]) ∧ Below w.heap.size w w') := Parse_any s w hs HM.out hd hc hz he
    obtain ⟨hr, ht⟩ := back_text hd hc hz he
    have HR : Hid (rightB lv2 y mo d h mi sc p dg ZN Z = true) := hr
    have HT : Hid (Txt s (textI lv2 y mo d h mi sc p dg Z ZN)) := ht
    clear hd hc hz he hr ht
    go_enter Tryd.func4, Tryd.ntmps4
    go_wp2_with fail
    refine HPb.out.mono ?_
    rintro e w1 ⟨rfl, hb⟩
    have HB1 : Hid (Below w.heap.size w (w1.alloc (.cells #[.int .i64 lv2, .int .i64 y, .int .i64 mo, .int .i64 d, .int .i64 h, .int .i64 mi, .int .i64 sc, .int .i64 p, .int .i64 dg, .bool Z, .int .i64 ZN] 23))) := hb.alloc hb.size _
    clear hb
    go_wp2_with fail
    refine (Print_ok HR.out _ (months_below HM.out HB1.out) (HP.out.below HB1.out)).mono ?_
    rintro e w2 ⟨T, rfl, HT2, hb⟩
    obtain rfl : T = s := HT2.out.trans HT.out.symm
    have HB2 : Hid (Below w.heap.size w w2) := below_then HB1.out hb
    clear hb
    go_wp2_with fail
    refine (anchor_any _ (months_below HM.out HB2.out) (HP.out.below HB2.out)).mono ?_
    rintro e wa ⟨rfl, hb⟩
    have HBa : Hid (Below w.heap.size w wa) := below_then HB2.out hb
    clear hb
    go_wp2_with fail
    go_ret
    exact ⟨rfl, HBa.out⟩
end Go.Proofs.YtpcdkafjogpdkaaDoor
