/-
  The document's Compare, whatever the numbers.
-/
import Derived.Test.YtnilmmfbliogiaaGreatDoorTdPCmp
namespace Go.Proofs.YtnilmmfbliogiaaGreatDoor
open Go.RowKit

set_option maxRecDepth 100000 in
set_option maxHeartbeats 4000000 in
theorem rCompare_any (na : Bool) (da : ByteArray) (sa : Int) (nb : Bool) (db : ByteArray) (sb : Int) (w : World) (hza : da.size ≤ 140737488351232) (hzb : db.size ≤ 140737488351232) :
    Calls Tryz.prog 9 #[.agg #[.bool na, .string da, .int .i64 sa], .agg #[.bool nb, .string db, .int .i64 sb]] w fun r w' => ∃ no, r = .returned (.tuple #[.int .i64 (cpV na da sa nb db sb), no]) ∧ TNo w' no (cpA na da sa) (cpE na da sa nb db sb) ∧ Below w.heap.size w w' := by
  have cA := fun w => rRight_any na da sa w hza
  have cB := fun w => rRight_any nb db sb w hzb
  have HU : Hid (NB2 w na da sa nb db sb ((w.alloc (.cells #[.bool na, .string da, .int .i64 sa] 23)).alloc (.cells #[.bool nb, .string db, .int .i64 sb] 23))) := NB2.new w na da sa nb db sb
  cases ra : rgt na (bl da) sa with
  | false =>
    rw [ra] at cA
    have HV : Hid (cpV na da sa nb db sb = 0 ∧ cpA na da sa = 0 ∧ cpE na da sa nb db sb = 164) := by unfold Hid cpV cpA cpE; rw [ra]; exact ⟨rfl, rfl, rfl⟩
    rw [HV.out.1, HV.out.2.1, HV.out.2.2]
    go_enter Tryz.func9, Tryz.ntmps9
    go_wp2_with fail
    refine (cA _).mono ?_
    rintro _ w1 ⟨rfl, hb⟩
    have H1 : Hid (Below w.heap.size w w1) := (HU.out.below hb).1
    clear hb
    go_wp2_with fail
    refine (rNo_any 0 164 (by decide) _).mono ?_
    rintro _ w2 ⟨no, rfl, hno, hb⟩
    have H2 : Hid (TNo w2 no 0 164 ∧ Below w.heap.size w w2) := ⟨hno, below_then H1.out hb⟩
    clear hno hb
    go_wp2_with fail
    refine bodyPost_ret ?_ rfl ⟨no, rfl, H2.out.1, H2.out.2⟩
    simp [results, Tryz.results9, go_sem]
  | true =>
    rw [ra] at cA
    cases rb : rgt nb (bl db) sb with
    | false =>
      rw [rb] at cB
      have HV : Hid (cpV na da sa nb db sb = 0 ∧ cpA na da sa = 1 ∧ cpE na da sa nb db sb = 164) := by unfold Hid cpV cpA cpE; rw [ra, rb]; exact ⟨rfl, rfl, rfl⟩
      rw [HV.out.1, HV.out.2.1, HV.out.2.2]
      go_enter Tryz.func9, Tryz.ntmps9
      go_wp2_with fail
      refine (cA _).mono ?_
      rintro _ w1 ⟨rfl, hb⟩
      have H1 : Hid (NB2 w na da sa nb db sb w1) := HU.out.below hb
      clear hb
      have kb := H1.out.2.2.cell
      go_wp2_with fail
      refine (cB _).mono ?_
      rintro _ w2 ⟨rfl, hb⟩
      have H2 : Hid (Below w.heap.size w w2) := (H1.out.below hb).1
      clear hb kb
      go_wp2_with fail
      refine (rNo_any 1 164 (by decide) _).mono ?_
      rintro _ w3 ⟨no, rfl, hno, hb⟩
      have H3 : Hid (TNo w3 no 1 164 ∧ Below w.heap.size w w3) := ⟨hno, below_then H2.out hb⟩
      clear hno hb
      go_wp2_with fail
      refine bodyPost_ret ?_ rfl ⟨no, rfl, H3.out.1, H3.out.2⟩
      simp [results, Tryz.results9, go_sem]
    | true =>
      obtain ⟨ma, rfl, ha16⟩ := rgt_sc ra
      obtain ⟨mb, rfl, hb16⟩ := rgt_sc rb
      refine (rCompare_ok na da ma nb db mb w ra rb).mono ?_
      rintro r w' ⟨rfl, hb⟩
      have hV : cpV na da (ma : Int) nb db (mb : Int) = ordN na (bl da) ma nb (bl db) mb := by unfold cpV; rw [ra, rb]; rfl
      have hE : cpE na da (ma : Int) nb db (mb : Int) = 0 := by unfold cpE; rw [ra, rb]; rfl
      exact ⟨.slice none 0 0, by rw [hV], by rw [hE]; exact Or.inl ⟨rfl, rfl⟩, hb⟩
end Go.Proofs.YtnilmmfbliogiaaGreatDoor
