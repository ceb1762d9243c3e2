/-
  The document's box: Accept, walked.
-/
import Derived.Test.YtplhdgijjckjcaaGreatDoorIbRb5
namespace Go.Proofs.YtplhdgijjckjcaaGreatDoor
open Go.RowKit

theorem accC_may {R : Int} {es : List Ent} {e : Ent} (h : mayB e = false) : accC R es e = 300 := by
  unfold accC
  split
  · rfl
  · unfold refS; rw [h]; rfl
theorem accC_dc {R : Int} {es : List Ent} {e : Ent} (h : e.cd.toList.isEmpty = false) : accC R es e = 300 := by
  unfold accC
  rw [if_pos (by unfold dcB; rw [h]; rfl)]
theorem accC_bf {R : Int} {es : List Ent} {e : Ent} (hb : decide (e.tk < lastT es) = true) : accC R es e = 300 := by
  unfold accC
  split
  · rfl
  · unfold refS; rw [hb, Bool.or_true]; rfl
theorem accC_op {R : Int} {es : List Ent} {e : Ent} (hm : mayB e = true) (hd : e.cd.toList.isEmpty = true) (hb : decide (e.tk < lastT es) = false) : accC R es e = if (fi e.ct es).isSome = true then 6 else if (nOp es : Int) = R then 7 else 0 := by
  unfold accC
  rw [if_neg (by unfold dcB; rw [hd]; decide)]
  unfold refS opB
  rw [hm, hb, hd]
  by_cases h : (nOp es : Int) = R <;> simp [h]
section
variable {w w' : World} {B X : Nat} {v : Value} {K R : Int} {es : List Ent}
set_option maxRecDepth 100000 in
set_option maxHeartbeats 8000000 in
theorem racc_any (h : RBx w B X v K R es) (hXt : ∃ cs t cur, w.heap[X]? = some (.cells cs t cur) ∧ t ≠ 5 ∧ t ≠ 29) (hB : B ≤ w.heap.size) (e : Ent) (hl : Lies w e) : Calls Tryz.prog 21 #[.pointer (some ⟨X, 1, none⟩), .agg #[.string e.ct, .slice e.tp e.tn e.tc, .int .i64 e.nu, .int .i64 e.tk, .slice e.cp e.cn e.cc, .string e.cd, .slice e.ap e.an e.ac]] w fun r w' => r = .returned (.int .i64 (accC R es e)) ∧ Hid ((accC R es e ≠ 0 ∧ Below w.heap.size w w') ∨ (accC R es e = 0 ∧ ∃ a c a' c' a'' c'', RBQ w B X v K R (es ++ [e.wi a c a' c' a'' c'']) w' ∧ Own w' w.heap.size (e.wi a c a' c' a'' c''))) := by
  have bv : Below w.heap.size w (w.alloc (.cells #[.string e.ct, .slice e.tp e.tn e.tc, .int .i64 e.nu, .int .i64 e.tk, .slice e.cp e.cn e.cc, .string e.cd, .slice e.ap e.an e.ac] 29)) := (Below.refl _ _).alloc (Nat.le_refl _) _
  have bx := Box.new w #[.string e.ct, .slice e.tp e.tn e.tc, .int .i64 e.nu, .int .i64 e.tk, .slice e.cp e.cn e.cc, .string e.cd, .slice e.ap e.an e.ac] 29
  obtain ⟨V, hV⟩ : ∃ V, w.alloc (.cells #[.string e.ct, .slice e.tp e.tn e.tc, .int .i64 e.nu, .int .i64 e.tk, .slice e.cp e.cn e.cc, .string e.cd, .slice e.ap e.an e.ac] 29) = V := ⟨_, rfl⟩
  rw [hV] at bv bx
  obtain ⟨xb, hxb⟩ : ∃ xb, w.heap.size = xb := ⟨_, rfl⟩
  have hlen := h.inv.len
  have HH : Hid (RBx w B X v K R es ∧ (∃ cs t cur, w.heap[X]? = some (.cells cs t cur) ∧ t ≠ 5 ∧ t ≠ 29) ∧ B ≤ w.heap.size ∧ Lies w e ∧ es.length ≤ 97) := ⟨h, hXt, hB, hl, hlen⟩
  have HV : Hid (Below w.heap.size w V ∧ Box V xb #[.string e.ct, .slice e.tp e.tn e.tc, .int .i64 e.nu, .int .i64 e.tk, .slice e.cp e.cn e.cc, .string e.cd, .slice e.ap e.an e.ac]) := ⟨bv, by rw [← hxb]; exact bx⟩
  have c1 := (h.below bv).c1
  have cx := HV.out.2.cell
  clear h hXt hB hl hlen bx bv
  go_enter Tryz.func21, Tryz.ntmps21
  go_wp2_with fail
  clear hV
  refine (rMayBe_any e V).mono ?_
  rintro _ w1 ⟨rfl, b1⟩
  have H1 : Hid (Below w.heap.size w w1 ∧ Box w1 xb #[.string e.ct, .slice e.tp e.tn e.tc, .int .i64 e.nu, .int .i64 e.tk, .slice e.cp e.cn e.cc, .string e.cd, .slice e.ap e.an e.ac]) := ⟨below_then HV.out.1 b1, HV.out.2.below b1⟩
  have cx1 := H1.out.2.cell
  clear b1 c1 cx
  cases hm : mayB e with
  | false =>
    have HC : Hid (accC R es e = 300) := accC_may hm
    clear hm
    go_wp2_with fail
    go_ret
    exact ⟨by rw [HC.out]; rfl, Or.inl ⟨by rw [HC.out]; decide, H1.out.1⟩⟩
  | true =>
    cases hd : e.cd.toList.isEmpty with
    | false =>
      have HC : Hid (accC R es e = 300) := accC_dc hd
      clear hm
      go_wp2_with fail
      go_ret
      exact ⟨by rw [HC.out]; rfl, Or.inl ⟨by rw [HC.out]; decide, H1.out.1⟩⟩
    | true =>
      have HM : Hid (mayB e = true) := hm
      go_wp2_with fail
      have hbf := rbefore_any (HH.out.1.below H1.out.1) e.tk (by have := HH.out.2.2.2.2; omega)
      rw [bf_eq hm] at hbf
      clear hm
      refine hbf.mono ?_
      rintro _ w2 ⟨rfl, b2⟩
      have H2 : Hid (Below w.heap.size w w2 ∧ Box w2 xb #[.string e.ct, .slice e.tp e.tn e.tc, .int .i64 e.nu, .int .i64 e.tk, .slice e.cp e.cn e.cc, .string e.cd, .slice e.ap e.an e.ac]) := ⟨below_then H1.out.1 b2, H1.out.2.below b2⟩
      have cx2 := H2.out.2.cell
      clear b2 cx1 H1 hbf
      cases hb : decide (e.tk < lastT es) with
      | true =>
        have HC : Hid (accC R es e = 300) := accC_bf hb
        clear hb
        go_wp2_with fail
        go_ret
        exact ⟨by rw [HC.out]; rfl, Or.inl ⟨by rw [HC.out]; decide, H2.out.1⟩⟩
      | false =>
        have HC : Hid (accC R es e = if (fi e.ct es).isSome = true then 6 else if (nOp es : Int) = R then 7 else 0) := accC_op HM.out hd hb
        have HD : Hid (dcB e = false ∧ ¬ e.tk < lastT es ∧ e.tn ≤ 8192 ∧ e.cn ≤ 2048 ∧ e.an ≤ 2048) := by
          have := mayB_is HM.out
          exact ⟨by unfold dcB; rw [hd]; rfl, of_decide_eq_false hb, this.2.2.1, this.2.2.2.2.2.2.2.1, this.2.2.2.2.2.2.2.2⟩
        clear hb hd
        go_wp2_with fail
        refine (rat_any (HH.out.1.below H2.out.1) e.ct (by have := HH.out.2.2.2.2; omega)).mono ?_
        rintro _ w9 ⟨rfl, h9⟩
        subst w9
        cases hf : fi e.ct es with
        | some i =>
          have hfi : fiI e.ct es = (i : Int) := by unfold fiI; rw [hf]
          have HC2 : Hid (accC R es e = 6) := by unfold Hid; rw [HC.out, hf]; rfl
          rw [hfi]
          have hi0 : (i : Int) ≥ 0 := by omega
          clear hf hfi HC
          go_wp2_with fail
          go_ret
          exact ⟨by rw [HC2.out]; rfl, Or.inl ⟨by rw [HC2.out]; decide, H2.out.1⟩⟩
        | none =>
          have hfi : fiI e.ct es = -1 := by unfold fiI; rw [hf]
          have HC2 : Hid (accC R es e = if (nOp es : Int) = R then 7 else 0) := by unfold Hid; rw [HC.out, hf]; rfl
          rw [hfi]
          have HO : Hid (∀ k, Calls Tryz.prog 57 #[.pointer (some ⟨X, 1, none⟩)] (w2.drewN k) fun r w' => r = .returned (.int .i64 (nOp es : Int)) ∧ w' = w2.drewN k) := fun k => ropen_any ((HH.out.1.below H2.out.1).below (below_drewN (Below.refl _ _) k)) (by have := HH.out.2.2.2.2; omega)
          have c3 := (HH.out.1.below H2.out.1).c3
          obtain ⟨m, hm⟩ : ∃ m, nOp es = m := ⟨_, rfl⟩
          have HMM : Hid (nOp es = m) := hm
          rw [hm] at HO HC2
          clear hf hfi HC hm
          by_cases hr : (m : Int) = R
          · have hr1 : ((m : Int) == R) = true := by simpa using hr
            have HC3 : Hid (accC R es e = 7) := by unfold Hid; rw [HC2.out, if_pos hr]
            clear hr HC2
            go_wp2_with fail
            go_quiet ((go_at_call 57; exact Calls.quiet_of_same (HO.out _)))
            go_wp2_with fail
            go_ret
            exact ⟨by rw [HC3.out]; rfl, Or.inl ⟨by rw [HC3.out]; decide, below_drewN H2.out.1 _⟩⟩
          · have hr1 : ((m : Int) == R) = false := by simpa using hr
            have HC3 : Hid (accC R es e = 0) := by unfold Hid; rw [HC2.out, if_neg hr]
            have HIv : Hid (∀ a c a' c' a'' c'', Inv K R (es ++ [e.wi a c a' c' a'' c''])) := fun a c a' c' a'' c'' => inv_snoc (e := e.wi a c a' c' a'' c'') HH.out.1.inv HD.out.1 (by have := HD.out.2.1; show ¬ e.tk < lastT es; omega) (by rw [HMM.out]; exact hr)
            clear hr HC2
            go_wp2_with fail
            go_quiet ((go_at_call 57; exact Calls.quiet_of_same (HO.out _)))
            have c4 := (HH.out.1.below H2.out.1).c4
            have HT : Hid (∀ z, Below w2.heap.size w2 z → Calls Tryz.prog 24 #[.agg #[.string e.ct, .slice e.tp e.tn e.tc, .int .i64 e.nu, .int .i64 e.tk, .slice e.cp e.cn e.cc, .string e.cd, .slice e.ap e.an e.ac]] z fun r z' => ∃ a c a' c' a'' c'' a2 n2 c2 W2, r = .returned (.agg #[.string e.ct, .slice a e.tn c, .int .i64 e.nu, .int .i64 e.tk, .slice a' e.cn c', .string e.cd, .slice a'' e.an c'']) ∧ (Builtin.append_ #[39, 39] 39 #[v, .slice (some ⟨z'.heap.size, 0, none⟩) 1 1]).run Tryz.prog (z'.alloc (.cells #[.string e.ct, .slice a e.tn c, .int .i64 e.nu, .int .i64 e.tk, .slice a' e.cn c', .string e.cd, .slice a'' e.an c''] 29)) = .ok (.slice a2 n2 c2) W2 ∧ z'.cell? ⟨X, 4, none⟩ = some v ∧ (z'.alloc (.cells #[.string e.ct, .slice a e.tn c, .int .i64 e.nu, .int .i64 e.tk, .slice a' e.cn c', .string e.cd, .slice a'' e.an c''] 29)).cell? ⟨X, 4, none⟩ = some v ∧ W2.cell? ⟨X, 4, none⟩ = some v ∧ W2.frozen? ⟨X, 4, none⟩ = false ∧ Hid (RBQ w B X v K R (es ++ [e.wi a c a' c' a'' c'']) (W2.setCell ⟨X, 4, none⟩ (.slice a2 n2 c2)) ∧ Own (W2.setCell ⟨X, 4, none⟩ (.slice a2 n2 c2)) w.heap.size (e.wi a c a' c' a'' c''))) := fun z hz => by
              have hbz := below_then H2.out.1 hz
              refine (rtwin_any e z (HH.out.2.2.2.1.below hbz) (by have := HD.out.2.2.1; omega) (by have := HD.out.2.2.2.1; omega) (by have := HD.out.2.2.2.2; omega)).mono ?_
              rintro r z' ⟨a, c, a', c', a'', c'', e1, e2, e3⟩
              obtain ⟨a2, n2, c2, W2, q1, q2, q3, q4, q5, q6⟩ := racc_step (z := z') HH.out.1 HH.out.2.1 HH.out.2.2.1 (e := e.wi a c a' c' a'' c'') (e2.base hbz.size) (below_then hbz e3) (HIv.out _ _ _ _ _ _)
              exact ⟨a, c, a', c', a'', c'', a2, n2, c2, W2, e1, q1, q2, q3, q4, q5, q6⟩
            clear HIv HD HM HO HMM HV H2 HH
            go_wp2_with fail
            go_region_law (first | (go_simp; go_at_call 24; refine (HT.out _ ?_).mono ?_; (first | exact below_drewN (Below.refl _ _) _ | exact (below_drewN (Below.refl _ _) _).drew); rintro _ y1 ⟨a1, k1, a3, k3, a5, k5, a2, n2, c2, W2, rfl, hap, g1, g2, g3, g4, HF⟩; go_wp2_with fail) | (refine step_app_run rfl (.tmp 42) (.tmp 45) 39 rfl rfl rfl hap ?_))
            all_goals
              go_wp2_with fail
              go_ret
              exact ⟨by rw [HC3.out]; rfl, Or.inr ⟨HC3.out, a1, k1, a3, k3, a5, k5, HF.out⟩⟩
end
end Go.Proofs.YtplhdgijjckjcaaGreatDoor
