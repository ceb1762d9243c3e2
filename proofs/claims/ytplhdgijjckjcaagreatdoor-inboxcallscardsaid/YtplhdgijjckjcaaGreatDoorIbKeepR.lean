/-
  InboxKeeps: the document's MayBe.
-/
import Derived.Test.YtplhdgijjckjcaaGreatDoorIbKeepT
namespace Go.Proofs.YtplhdgijjckjcaaGreatDoor
open Go.RowKit

set_option maxRecDepth 100000 in
set_option maxHeartbeats 4000000 in
theorem rMayBe_any (e : Ent) (w : World) : Calls Tryz.prog 54 #[.agg #[.string e.ct, .slice e.tp e.tn e.tc, .int .i64 e.nu, .int .i64 e.tk, .slice e.cp e.cn e.cc, .string e.cd, .slice e.ap e.an e.ac]] w fun r w' => r = .returned (.bool (mayB e)) ∧ Below w.heap.size w w' := by
  have bv : Below w.heap.size w (w.alloc (.cells #[.string e.ct, .slice e.tp e.tn e.tc, .int .i64 e.nu, .int .i64 e.tk, .slice e.cp e.cn e.cc, .string e.cd, .slice e.ap e.an e.ac] 29)) := (Below.refl _ _).alloc (Nat.le_refl _) _
  have bx := Box.new w #[.string e.ct, .slice e.tp e.tn e.tc, .int .i64 e.nu, .int .i64 e.tk, .slice e.cp e.cn e.cc, .string e.cd, .slice e.ap e.an e.ac] 29
  obtain ⟨V, hV⟩ : ∃ V, w.alloc (.cells #[.string e.ct, .slice e.tp e.tn e.tc, .int .i64 e.nu, .int .i64 e.tk, .slice e.cp e.cn e.cc, .string e.cd, .slice e.ap e.an e.ac] 29) = V := ⟨_, rfl⟩
  rw [hV] at bv bx
  have HB : Hid (Below w.heap.size w V) := bv
  have hct := rControl_any e.ct V
  have hvd := rVerdict_any e.cd V
  have cx := bx.cell
  clear bv bx
  cases h0 : ctB e.ct with
  | false =>
    have HE : Hid (mayB e = false) := mayB_no (i := 0) (by decide) h0
    rw [h0] at hct
    clear h0 hvd
    go_enter Tryz.func54, Tryz.ntmps54
    go_wp2_with (go_at_call 73; refine hct.mono ?_; rintro _ w9 ⟨rfl, h9⟩; subst w9)
    go_ret
    exact ⟨ret_bool HE.out.symm, HB.out⟩
  | true =>
    rw [h0] at hct
    have H0 : Hid (ctB e.ct = true) := h0
    clear h0
    by_cases h1 : ruB e 1 = true ∧ ruB e 2 = true ∧ ruB e 3 = true ∧ ruB e 4 = true ∧ ruB e 5 = true
    · obtain ⟨h1, h2, h3, h4, h5⟩ := h1
      simp only [ruB, Bool.and_eq_true, decide_eq_true_eq] at h1 h2 h3 h4 h5
      have g1 : ¬ (e.tn : Int) < 1 := by omega
      have g2 : ¬ (e.tn : Int) > 8192 := by omega
      have g3 : ¬ e.nu < 0 := by omega
      have g4 : ¬ e.nu > 2147483647 := by omega
      have g5 : ¬ e.tk < 0 := by omega
      have g6 : ¬ e.tk > 1099511627776 := by omega
      have g7 : ¬ (e.cn : Int) > 2048 := by omega
      have g8 : ¬ (e.an : Int) > 2048 := by omega
      have HM : Hid (mayB e = (ruB e 6 && ruB e 7)) := by
        unfold Hid mayB
        rw [show ruB e 0 = true from H0.out, show ruB e 1 = true by simp [ruB]; omega, show ruB e 2 = true by simp [ruB]; omega, show ruB e 3 = true by simp [ruB]; omega, show ruB e 4 = true by simp [ruB]; omega, show ruB e 5 = true by simp [ruB]; omega]
        rfl
      cases h6 : e.cd.toList.isEmpty with
      | true =>
        have HE : Hid (mayB e = decide (e.an = 0)) := by unfold Hid; rw [HM.out]; simp [ruB, h6]
        clear h1 h2 h3 h4 h5 hvd HM
        by_cases h7 : e.an = 0
        · have q7 : ((e.an : Int) == 0) = true := by rw [h7]; rfl
          have HE2 : Hid (mayB e = true) := by unfold Hid; rw [HE.out, decide_eq_true h7]
          clear h7 HE
          go_enter Tryz.func54, Tryz.ntmps54
          go_wp2_with (go_at_call 73; refine hct.mono ?_; rintro _ w9 ⟨rfl, h9⟩; subst w9)
          go_ret
          exact ⟨ret_bool HE2.out.symm, HB.out⟩
        · have q7 : ((e.an : Int) == 0) = false := by rw [beq_eq_false_iff_ne]; omega
          have HE2 : Hid (mayB e = false) := by unfold Hid; rw [HE.out, decide_eq_false h7]
          clear h7 HE
          go_enter Tryz.func54, Tryz.ntmps54
          go_wp2_with (go_at_call 73; refine hct.mono ?_; rintro _ w9 ⟨rfl, h9⟩; subst w9)
          go_ret
          exact ⟨ret_bool HE2.out.symm, HB.out⟩
      | false =>
        have HE : Hid (mayB e = vdB e.cd) := by unfold Hid; rw [HM.out]; simp [ruB, h6]
        clear h1 h2 h3 h4 h5 HM
        go_enter Tryz.func54, Tryz.ntmps54
        go_wp2_with (first | (go_at_call 73; refine hct.mono ?_; rintro _ w9 ⟨rfl, h9⟩; subst w9) | (go_at_call 63; refine hvd.mono ?_; rintro _ w9 ⟨rfl, h9⟩; subst w9))
        go_ret
        exact ⟨ret_bool HE.out.symm, HB.out⟩
    · have HE : Hid (mayB e = false) := by
        unfold Hid
        rw [Bool.eq_false_iff]
        intro h
        have := mayB_is h
        apply h1
        simp only [ruB, Bool.and_eq_true, decide_eq_true_eq]
        omega
      simp only [ruB, Bool.and_eq_true, decide_eq_true_eq] at h1
      clear hvd
      by_cases g1 : (e.tn : Int) < 1
      · clear h1
        go_enter Tryz.func54, Tryz.ntmps54
        go_wp2_with (go_at_call 73; refine hct.mono ?_; rintro _ w9 ⟨rfl, h9⟩; subst w9)
        go_ret
        exact ⟨ret_bool HE.out.symm, HB.out⟩
      by_cases g2 : (e.tn : Int) > 8192
      · clear h1
        go_enter Tryz.func54, Tryz.ntmps54
        go_wp2_with (go_at_call 73; refine hct.mono ?_; rintro _ w9 ⟨rfl, h9⟩; subst w9)
        go_ret
        exact ⟨ret_bool HE.out.symm, HB.out⟩
      by_cases g3 : e.nu < 0
      · clear h1
        go_enter Tryz.func54, Tryz.ntmps54
        go_wp2_with (go_at_call 73; refine hct.mono ?_; rintro _ w9 ⟨rfl, h9⟩; subst w9)
        go_ret
        exact ⟨ret_bool HE.out.symm, HB.out⟩
      by_cases g4 : e.nu > 2147483647
      · clear h1
        go_enter Tryz.func54, Tryz.ntmps54
        go_wp2_with (go_at_call 73; refine hct.mono ?_; rintro _ w9 ⟨rfl, h9⟩; subst w9)
        go_ret
        exact ⟨ret_bool HE.out.symm, HB.out⟩
      by_cases g5 : e.tk < 0
      · clear h1
        go_enter Tryz.func54, Tryz.ntmps54
        go_wp2_with (go_at_call 73; refine hct.mono ?_; rintro _ w9 ⟨rfl, h9⟩; subst w9)
        go_ret
        exact ⟨ret_bool HE.out.symm, HB.out⟩
      by_cases g6 : e.tk > 1099511627776
      · clear h1
        go_enter Tryz.func54, Tryz.ntmps54
        go_wp2_with (go_at_call 73; refine hct.mono ?_; rintro _ w9 ⟨rfl, h9⟩; subst w9)
        go_ret
        exact ⟨ret_bool HE.out.symm, HB.out⟩
      by_cases g7 : (e.cn : Int) > 2048
      · clear h1
        go_enter Tryz.func54, Tryz.ntmps54
        go_wp2_with (go_at_call 73; refine hct.mono ?_; rintro _ w9 ⟨rfl, h9⟩; subst w9)
        go_ret
        exact ⟨ret_bool HE.out.symm, HB.out⟩
      have g8 : (e.an : Int) > 2048 := by omega
      clear h1
      go_enter Tryz.func54, Tryz.ntmps54
      go_wp2_with (go_at_call 73; refine hct.mono ?_; rintro _ w9 ⟨rfl, h9⟩; subst w9)
      go_ret
      exact ⟨ret_bool HE.out.symm, HB.out⟩
end Go.Proofs.YtplhdgijjckjcaaGreatDoor
