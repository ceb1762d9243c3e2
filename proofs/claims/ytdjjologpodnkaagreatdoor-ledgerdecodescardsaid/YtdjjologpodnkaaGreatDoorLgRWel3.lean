/-
  The document's Well, walked.
-/
import Derived.Test.YtdjjologpodnkaaGreatDoorLgRWel2
namespace Go.Proofs.YtdjjologpodnkaaGreatDoor
open Go.RowKit

theorem wr_stepR {r : Rec} {f : Nat} (h2 : 2 ≤ f) (h10 : f ≤ 10) (h : wrFrom r (f - 1) (11 - f) = wrR r) : (wl r (f - 1) = true → wrFrom r (f + 1 - 1) (11 - (f + 1)) = wrR r) ∧ (wl r (f - 1) = false → wrR r = f) := by
  rw [show 11 - f = (11 - (f + 1)) + 1 by omega, wrFrom] at h
  constructor
  · intro g
    rw [if_pos g] at h
    rw [show f + 1 - 1 = f - 1 + 1 by omega]
    exact h
  · intro g
    rw [if_neg (by rw [g]; decide)] at h
    omega
set_option maxRecDepth 100000 in
set_option maxHeartbeats 4000000 in
theorem rWellR_any (r : Rec) (w : World) : Calls Tryz.prog 18 #[.agg #[.int .i64 r.kd, .string r.ct, .slice r.tp r.tn r.tc, .bool r.e, .int .i64 r.a, .int .i64 r.p, .int .i64 r.nu, .int .i64 r.tk, .int .i64 r.st, .string r.cd, .slice r.cp r.cn r.cc, .slice r.ap r.an r.ac]] w fun e w' => e = .returned (.int .i64 (wrR r : Nat)) ∧ Below w.heap.size w w' := by
  have bv := (Below.refl w.heap.size w).alloc (Nat.le_refl _) (.cells (#[.int .i64 r.kd, .string r.ct, .slice r.tp r.tn r.tc, .bool r.e, .int .i64 r.a, .int .i64 r.p, .int .i64 r.nu, .int .i64 r.tk, .int .i64 r.st, .string r.cd, .slice r.cp r.cn r.cc, .slice r.ap r.an r.ac]) 26)
  have bx := Box.new w (#[.int .i64 r.kd, .string r.ct, .slice r.tp r.tn r.tc, .bool r.e, .int .i64 r.a, .int .i64 r.p, .int .i64 r.nu, .int .i64 r.tk, .int .i64 r.st, .string r.cd, .slice r.cp r.cn r.cc, .slice r.ap r.an r.ac]) 26
  have HB : Hid (Below w.heap.size w (w.alloc (.cells (#[.int .i64 r.kd, .string r.ct, .slice r.tp r.tn r.tc, .bool r.e, .int .i64 r.a, .int .i64 r.p, .int .i64 r.nu, .int .i64 r.tk, .int .i64 r.st, .string r.cd, .slice r.cp r.cn r.cc, .slice r.ap r.an r.ac]) 26))) := bv
  by_cases hk1 : 1 ≤ r.kd ∧ r.kd ≤ 8
  rotate_left
  · have HW : Hid (wrR r = 1) := by
      unfold Hid wrR wrFrom
      rw [if_neg]
      unfold wl fdOf fdWell
      simp only [Bool.and_eq_true, decide_eq_true_eq]
      exact hk1
    have cx := bx.cell
    by_cases h1 : r.kd < 1
    · clear bv bx hk1
      go_enter Tryz.func18, Tryz.ntmps18
      go_wp2_with fail
      go_ret
      exact ⟨ret_int (by rw [HW.out]; rfl), HB.out⟩
    · have h8 : r.kd > 8 := by omega
      clear bv bx hk1
      go_enter Tryz.func18, Tryz.ntmps18
      go_wp2_with fail
      go_ret
      exact ⟨ret_int (by rw [HW.out]; rfl), HB.out⟩
  obtain ⟨k, hk⟩ : ∃ k : Nat, r.kd = k := ⟨r.kd.toNat, by omega⟩
  have q1 : ¬ r.kd < 1 := by omega
  have q2 : ¬ r.kd > 8 := by omega
  have HK : Hid (1 ≤ k ∧ k ≤ 8 ∧ r.kd = k) := ⟨by omega, by omega, hk⟩
  have HS : Hid (wrFrom r 1 9 = wrR r) := by
    unfold Hid wrR
    conv => rhs; unfold wrFrom
    rw [if_pos]
    unfold wl fdOf fdWell
    simp only [Bool.and_eq_true, decide_eq_true_eq]
    exact hk1
  have HX : Hid (Box (w.alloc (.cells (#[.int .i64 r.kd, .string r.ct, .slice r.tp r.tn r.tc, .bool r.e, .int .i64 r.a, .int .i64 r.p, .int .i64 r.nu, .int .i64 r.tk, .int .i64 r.st, .string r.cd, .slice r.cp r.cn r.cc, .slice r.ap r.an r.ac]) 26)) w.heap.size (#[.int .i64 r.kd, .string r.ct, .slice r.tp r.tn r.tc, .bool r.e, .int .i64 r.a, .int .i64 r.p, .int .i64 r.nu, .int .i64 r.tk, .int .i64 r.st, .string r.cd, .slice r.cp r.cn r.cc, .slice r.ap r.an r.ac])) := bx
  have cx := bx.cell
  clear hk hk1 bv bx
  go_enter Tryz.func18, Tryz.ntmps18
  go_wp2_with fail
  generalize w.alloc (.cells (#[.int .i64 r.kd, .string r.ct, .slice r.tp r.tn r.tc, .bool r.e, .int .i64 r.a, .int .i64 r.p, .int .i64 r.nu, .int .i64 r.tk, .int .i64 r.st, .string r.cd, .slice r.cp r.cn r.cc, .slice r.ap r.an r.ac]) 26) = V at HB HX cx ⊢
  obtain ⟨xb, hxb⟩ : ∃ xb, w.heap.size = xb := ⟨_, rfl⟩
  rw [hxb] at HX cx ⊢
  clear hxb cx
  go_loopw [3] (fun t wx => ∃ f : Nat, 2 ≤ f ∧ f ≤ 11 ∧ t = .int .i64 f ∧ Hid (wrFrom r (f - 1) (11 - f) = wrR r ∧ Below V.heap.size V wx)) (fun t _ => 11 - (intOf t).toNat)
  case atStart => exact ⟨2, by omega, by omega, rfl, HS.out, Below.refl _ _⟩
  case round =>
    obtain ⟨f, h2, hf, rfl, HI⟩ := hrel
    by_cases hlt : f ≤ 10
    · have hlt1 : (f : Int) ≤ 10 := by omega
      have bxr := HX.out.below HI.out.2
      have cx := bxr.cell
      have hn : Calls Tryz.prog 20 #[.int .i64 r.kd, .int .i64 f] wr fun e w' => e = .returned (.bool (nmB k f)) ∧ Below wr.heap.size wr w' := by rw [HK.out.2.2]; exact rNamed_any k f HK.out.2.1 wr
      have HST : Hid ((wl r (f - 1) = true → wrFrom r (f + 1 - 1) (11 - (f + 1)) = wrR r) ∧ (wl r (f - 1) = false → wrR r = f)) := wr_stepR h2 hlt HI.out.1
      have hro : rOk r k f = wl r (f - 1) := rOk_eq r k HK.out.2.2 HK.out.1 HK.out.2.1 h2 hlt
      rw [← hro] at HST
      unfold rOk at HST
      have HBX : Hid (Box wr xb (#[.int .i64 r.kd, .string r.ct, .slice r.tp r.tn r.tc, .bool r.e, .int .i64 r.a, .int .i64 r.p, .int .i64 r.nu, .int .i64 r.tk, .int .i64 r.st, .string r.cd, .slice r.cp r.cn r.cc, .slice r.ap r.an r.ac])) := bxr
      clear hro bxr
      go_wp2_with fail
      refine hn.mono ?_
      rintro _ w1 ⟨rfl, hb1⟩
      have bx1 := HBX.out.below hb1
      have cx1 := bx1.cell
      have HI1 : Hid (Below V.heap.size V w1) := below_then HI.out.2 hb1
      have hz := rZero_any r h2 hlt w1
      have HBX1 : Hid (Box w1 xb (#[.int .i64 r.kd, .string r.ct, .slice r.tp r.tn r.tc, .bool r.e, .int .i64 r.a, .int .i64 r.p, .int .i64 r.nu, .int .i64 r.tk, .int .i64 r.st, .string r.cd, .slice r.cp r.cn r.cc, .slice r.ap r.an r.ac])) := bx1
      clear hn hb1 bx1 cx HBX HI
      go_wp2_with fail
      refine hz.mono ?_
      rintro _ w2 ⟨rfl, hb2⟩
      have bx2 := HBX1.out.below hb2
      have cx2 := bx2.cell
      have HI2 : Hid (Below V.heap.size V w2) := below_then HI1.out hb2
      have hwl := rWell_any r h2 hlt w2
      clear hz hb2 bx2 cx1 HBX1 HI1
      cases hnm : nmB k f with
      | true =>
        rw [hnm] at HST
        simp only [if_true] at HST
        generalize rW r f = q at hwl HST
        clear hnm
        go_wp2_with fail
        refine hwl.mono ?_
        rintro _ w3 ⟨rfl, hb3⟩
        have HI3 : Hid (Below V.heap.size V w3) := below_then HI2.out hb3
        clear hwl hb3 cx2 HI2
        cases q with
        | true =>
          have HST2 : Hid (wrFrom r (f + 1 - 1) (11 - (f + 1)) = wrR r) := HST.out.1 rfl
          clear HST
          go_wp2_with fail
          go_roundw
          case rel => exact ⟨f + 1, by omega, by omega, by go_num, HST2.out, HI3.out⟩
          case measure => simp [intOf]; omega
        | false =>
          have HST2 : Hid (wrR r = f) := HST.out.2 rfl
          clear HST
          go_wp2_with fail
          go_ret
          exact ⟨ret_int (by rw [HST2.out]), below_then HB.out HI3.out⟩
      | false =>
        rw [hnm] at HST
        simp only [Bool.false_eq_true, if_false] at HST
        generalize rZ r f = q at HST ⊢
        clear hnm hwl
        cases q with
        | true =>
          have HST2 : Hid (wrFrom r (f + 1 - 1) (11 - (f + 1)) = wrR r) := HST.out.1 rfl
          clear HST
          go_wp2_with fail
          go_roundw
          case rel => exact ⟨f + 1, by omega, by omega, by go_num, HST2.out, HI2.out⟩
          case measure => simp [intOf]; omega
        | false =>
          have HST2 : Hid (wrR r = f) := HST.out.2 rfl
          clear HST
          go_wp2_with fail
          go_ret
          exact ⟨ret_int (by rw [HST2.out]), below_then HB.out HI2.out⟩
    · have hlt1 : ¬ (f : Int) ≤ 10 := by omega
      obtain rfl : f = 11 := by omega
      have HS2 : Hid (wrR r = 0) := HI.out.1.symm
      have HI2 : Hid (Below V.heap.size V wr) := HI.out.2
      clear HI
      go_wp2_with fail
      go_ret
      exact ⟨ret_int (by rw [HS2.out]; rfl), below_then HB.out HI2.out⟩
end Go.Proofs.YtdjjologpodnkaaGreatDoor
