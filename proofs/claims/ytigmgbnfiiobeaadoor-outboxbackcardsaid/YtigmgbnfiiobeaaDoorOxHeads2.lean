/-
  The law's 'heads', walked.
-/
import Derived.Test.YtigmgbnfiiobeaaDoorOxHeads
namespace Go.Proofs.YtigmgbnfiiobeaaDoor
open Go.RowKit

set_option maxRecDepth 100000 in
set_option maxHeartbeats 4000000 in
theorem heads_true (w : World) (hV : PVc w) : Calls Tryd.prog 4 #[] w fun e w' => e = .returned (.bool true) ∧ Below w.heap.size w w' := by
  have HV : Hid (PVc w) := hV
  clear hV
  go_enter Tryd.func4, Tryd.ntmps4
  go_wp2_with fail
  refine (load_li w true 1 w (by decide) (by decide) (Below.refl _ _)).mono ?_
  rintro _ w1 ⟨b, kb, v1, rfl, HL⟩
  have HL1 : Hid (∀ o, Li w (w1.alloc o) b kb v1 true 1 []) := fun o => HL.out.1.below ((Below.refl _ _).alloc (Nat.le_refl _) _)
  clear HL
  have qc := Go.Lib.run_convert_bytes_const (P := Tryd.prog) w1 35 5 #[.int .u8 116] 1 1 Tryd.underlying35 Tryd.underlying5
  simp at qc
  go_wp2_with (first | (go_at_call 13; refine (always_any _).mono ?_; rintro _ w9 ⟨rfl, h9⟩))
  refine (hd_add1 ((HL1.out _).below (by assumption)) HV.out ((byts_t w1).below (by assumption))).mono ?_
  rintro _ w2 ⟨rfl, HX⟩
  obtain ⟨v2, a1, c1, L2⟩ := HX.out
  have HL2 : Hid (∀ o, Li w (w2.alloc o) b kb v2 true 1 [M1 a1 c1 0 0 0 false]) := fun o => L2.below ((Below.refl _ _).alloc (Nat.le_refl _) _)
  clear HX L2 HL1 qc h9
  have qc := Go.Lib.run_convert_bytes_const (P := Tryd.prog) w2 35 5 #[.int .u8 116] 1 1 Tryd.underlying35 Tryd.underlying5
  simp at qc
  go_wp2_with (first | (go_at_call 13; refine (always_any _).mono ?_; rintro _ w9 ⟨rfl, h9⟩))
  refine (hd_add2 ((HL2.out _).below (by assumption)) HV.out ((byts_t w2).below (by assumption))).mono ?_
  rintro _ w3 ⟨rfl, HX⟩
  obtain ⟨v3, a2, c2, L3⟩ := HX.out
  have HL3 : Hid (Li w w3 b kb v3 true 1 [M1 a1 c1 0 0 0 false, M2 a2 c2]) := L3
  clear HX L3 HL2 qc h9
  go_wp2_with fail
  refine (hd_give HL3.out).mono ?_
  rintro _ w4 ⟨rfl, HX⟩
  obtain ⟨v4, L4⟩ := HX.out
  have HL4 : Hid (Li w w4 b kb v4 true 1 [M1 a1 c1 7 0 0 false, M2 a2 c2]) := L4
  clear HX L4 HL3
  go_wp2_with fail
  refine (hd_go HL4.out HV.out).mono ?_
  rintro _ w5 ⟨g5, k5, rfl, HX⟩
  obtain ⟨⟨v5, L5⟩, D5⟩ := HX.out
  have HL5 : Hid (Li w w5 b kb v5 true 1 [M1 a1 c1 7 1 1 true, M2 a2 c2] ∧ DRow w5 w.heap.size (.slice (some ⟨g5, 0, none⟩) 2 k5) [(cA1, 1, nT), (cA1, 2, nT)]) := ⟨L5, D5⟩
  clear HX L5 D5 HL4
  go_wp2_with fail
  refine (hd_next HL5.out.1).mono ?_
  rintro _ w6 ⟨a6, c6, rfl, b6⟩
  have HL6 : Hid (∀ o, Li w (w6.alloc o) b kb v5 true 1 [M1 a1 c1 7 1 1 true, M2 a2 c2]) := fun o => HL5.out.1.below (b6.alloc b6.size o)
  have HC6 : Hid (∀ o, (w6.alloc o).cell? ⟨g5, 0, none⟩ = some (.string cA1) ∧ (w6.alloc o).cell? ⟨g5, 1, none⟩ = some (.int .i64 1) ∧ (w6.alloc o).cell? ⟨g5, 2, none⟩ = some (.string nT)) := fun o => DRow.cells (ERow.below HL5.out.2 (b6.alloc b6.size o))
  clear b6 HL5
  have q0 := fun o => (HC6.out o).1
  have q1 := fun o => (HC6.out o).2.1
  have q2 := fun o => (HC6.out o).2.2
  go_wp2_with fail
  refine (hd_heard (HL6.out _) HV.out).mono ?_
  rintro _ w7 ⟨g7, k7, rfl, HX⟩
  obtain ⟨⟨v7, L7⟩, D7⟩ := HX.out
  have HL7 : Hid (Li w w7 b kb v7 true 1 [M1 a1 c1 9 1 0 true, M2 a2 c2] ∧ DRow w7 w.heap.size (.slice (some ⟨g7, 0, none⟩) 3 k7) [(cA1, 5, nT), (cA1, 1, nT), (cA1, 2, nT)]) := ⟨L7, D7⟩
  clear HX L7 D7 HL6 HC6 q0 q1 q2
  go_wp2_with fail
  refine (hd_get HL7.out.1).mono ?_
  rintro _ w8 ⟨a8, c8, rfl, b8⟩
  have HB8 : Hid (∀ o, Below w.heap.size w (w8.alloc o)) := fun o => below_then HL7.out.1.bel (b8.alloc b8.size o)
  have q1 := fun o => (DRow.cells (ERow.below HL7.out.2 (b8.alloc b8.size o))).2.1
  clear b8 HL7
  go_wp2_with fail
  go_ret
  exact ⟨rfl, HB8.out _⟩
end Go.Proofs.YtigmgbnfiiobeaaDoor
