/-
  The program's link: every call where there is no such side.
-/
import Derived.Test.YtpcickhellkiaaaDoorLpLeaf
namespace Go.Proofs.YtpcickhellkiaaaDoor
open Go.RowKit

section
variable {w : World} {l : Option Addr} {s code : Int}
set_option maxRecDepth 100000 in
set_option maxHeartbeats 1000000 in
theorem pSend_no (H : NoWay w l s code) {po : Option Addr} {m c : Nat} : Calls Tryd.prog 11 #[.pointer l, .int .i64 s, .slice po m c] w fun e w' => ∃ v, e = .returned v ∧ Hid (EvIs w' v 0 code ∧ Below w.heap.size w w') := by
  have HW := H.out
  clear H
  go_enter Tryd.func11, Tryd.ntmps11
  go_wp2_with fail
  refine HW.mono ?_
  rintro _ w1 ⟨b, rfl, HE⟩
  go_wp2_with fail
  go_ret
  exact ⟨_, rfl, HE.out⟩
set_option maxRecDepth 100000 in
set_option maxHeartbeats 1000000 in
theorem pNoise_no (H : NoWay w l s code) {po : Option Addr} {m c : Nat} : Calls Tryd.prog 19 #[.pointer l, .int .i64 s, .slice po m c] w fun e w' => ∃ v, e = .returned v ∧ Hid (EvIs w' v 0 code ∧ Below w.heap.size w w') := by
  have HW := H.out
  clear H
  go_enter Tryd.func19, Tryd.ntmps19
  go_wp2_with fail
  refine HW.mono ?_
  rintro _ w1 ⟨b, rfl, HE⟩
  go_wp2_with fail
  go_ret
  exact ⟨_, rfl, HE.out⟩
set_option maxRecDepth 100000 in
set_option maxHeartbeats 1000000 in
theorem pDrop_no (H : NoWay w l s code) (i : Int) : Calls Tryd.prog 22 #[.pointer l, .int .i64 s, .int .i64 i] w fun e w' => ∃ v, e = .returned v ∧ Hid (EvIs w' v 0 code ∧ Below w.heap.size w w') := by
  have HW := H.out
  clear H
  go_enter Tryd.func22, Tryd.ntmps22
  go_wp2_with fail
  refine HW.mono ?_
  rintro _ w1 ⟨b, rfl, HE⟩
  go_wp2_with fail
  go_ret
  exact ⟨_, rfl, HE.out⟩
set_option maxRecDepth 100000 in
set_option maxHeartbeats 1000000 in
theorem pDouble_no (H : NoWay w l s code) (i : Int) : Calls Tryd.prog 21 #[.pointer l, .int .i64 s, .int .i64 i] w fun e w' => ∃ v, e = .returned v ∧ Hid (EvIs w' v 0 code ∧ Below w.heap.size w w') := by
  have HW := H.out
  clear H
  go_enter Tryd.func21, Tryd.ntmps21
  go_wp2_with fail
  refine HW.mono ?_
  rintro _ w1 ⟨b, rfl, HE⟩
  go_wp2_with fail
  go_ret
  exact ⟨_, rfl, HE.out⟩
set_option maxRecDepth 100000 in
set_option maxHeartbeats 1000000 in
theorem pClip_no (H : NoWay w l s code) (i n : Int) : Calls Tryd.prog 23 #[.pointer l, .int .i64 s, .int .i64 i, .int .i64 n] w fun e w' => ∃ v, e = .returned v ∧ Hid (EvIs w' v 0 code ∧ Below w.heap.size w w') := by
  have HW := H.out
  clear H
  go_enter Tryd.func23, Tryd.ntmps23
  go_wp2_with fail
  refine HW.mono ?_
  rintro _ w1 ⟨b, rfl, HE⟩
  go_wp2_with fail
  go_ret
  exact ⟨_, rfl, HE.out⟩
set_option maxRecDepth 100000 in
set_option maxHeartbeats 1000000 in
theorem pCarry_no (H : NoWay w l s code) (i n : Int) : Calls Tryd.prog 12 #[.pointer l, .int .i64 s, .int .i64 i, .int .i64 n] w fun e w' => ∃ v, e = .returned (.tuple #[.slice none 0 0, v]) ∧ Hid (EvIs w' v 0 code ∧ Below w.heap.size w w') := by
  have HW := H.out
  clear H
  go_enter Tryd.func12, Tryd.ntmps12
  go_wp2_with fail
  refine HW.mono ?_
  rintro _ w1 ⟨b, rfl, HE⟩
  go_wp2_with fail
  refine bodyPost_ret (v := .tuple #[.slice none 0 0, .iface 88 (.pointer (some ⟨b, 0, none⟩))]) ?_ rfl ⟨_, rfl, HE.out⟩
  simp [results, Tryd.results12, go_sem]
set_option maxRecDepth 100000 in
set_option maxHeartbeats 1000000 in
theorem pHalf_no (H : NoWay w l s code)  : Calls Tryd.prog 14 #[.pointer l, .int .i64 s] w fun e w' => e = .returned (.int .i64 (-1)) ∧ Below w.heap.size w w' := by
  have HW := H.out
  clear H
  go_enter Tryd.func14, Tryd.ntmps14
  go_wp2_with fail
  refine HW.mono ?_
  rintro _ w1 ⟨b, rfl, HE⟩
  go_wp2_with fail
  go_ret
  exact ⟨rfl, HE.out.2⟩
set_option maxRecDepth 100000 in
set_option maxHeartbeats 1000000 in
theorem pFlight_no (H : NoWay w l s code)  : Calls Tryd.prog 16 #[.pointer l, .int .i64 s] w fun e w' => e = .returned (.slice none 0 0) ∧ Below w.heap.size w w' := by
  have HW := H.out
  clear H
  go_enter Tryd.func16, Tryd.ntmps16
  go_wp2_with fail
  refine HW.mono ?_
  rintro _ w1 ⟨b, rfl, HE⟩
  go_wp2_with fail
  go_ret
  exact ⟨rfl, HE.out.2⟩
set_option maxRecDepth 100000 in
set_option maxHeartbeats 1000000 in
theorem pLen_no (H : NoWay w l s code)  : Calls Tryd.prog 17 #[.pointer l, .int .i64 s] w fun e w' => e = .returned (.int .i64 0) ∧ Below w.heap.size w w' := by
  have HW := H.out
  clear H
  go_enter Tryd.func17, Tryd.ntmps17
  go_wp2_with fail
  refine HW.mono ?_
  rintro _ w1 ⟨b, rfl, HE⟩
  go_wp2_with fail
  go_ret
  exact ⟨rfl, HE.out.2⟩
set_option maxRecDepth 100000 in
set_option maxHeartbeats 1000000 in
theorem pRaw_of {P : Value → World → Prop} {po : Option Addr} {m c : Nat} (H : Calls Tryd.prog 11 #[.pointer l, .int .i64 s, .slice po m c] w fun e w' => ∃ v, e = .returned v ∧ Hid (P v w')) : Calls Tryd.prog 18 #[.pointer l, .int .i64 s, .slice po m c] w fun e w' => ∃ v, e = .returned v ∧ Hid (P v w') := by
  go_enter Tryd.func18, Tryd.ntmps18
  go_wp2_with fail
  refine H.mono ?_
  rintro _ w1 ⟨v, rfl, HE⟩
  go_wp2_with fail
  go_ret
  exact ⟨v, rfl, HE.out⟩
end
end Go.Proofs.YtpcickhellkiaaaDoor
