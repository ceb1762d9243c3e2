/-
  refuse of the shelf.
-/
import Derived.Test.YtplhdgijjckjcaaGreatDoorIbShelf
namespace Go.Proofs.YtplhdgijjckjcaaGreatDoor
open Go.RowKit

section
variable {w w' : World} {B sb M : Nat} {v : Value} {K R : Int} {es : List Ent}
set_option maxRecDepth 100000 in
set_option maxHeartbeats 4000000 in
theorem refuse_any (h : Shf w B sb M v K R es) (e : Ent) (hk : KeyS e.ct) : Calls Tryz.prog 45 #[.pointer (some ⟨sb, 0, none⟩), .agg #[.string e.ct, .slice e.tp e.tn e.tc, .int .i64 e.nu, .int .i64 e.tk, .slice e.cp e.cn e.cc, .string e.cd, .slice e.ap e.an e.ac]] w fun r w' => r = .returned (.int .i64 (refS R es e)) ∧ Below w.heap.size w w' := by
  have bv : Below w.heap.size w (w.alloc (.cells #[.string e.ct, .slice e.tp e.tn e.tc, .int .i64 e.nu, .int .i64 e.tk, .slice e.cp e.cn e.cc, .string e.cd, .slice e.ap e.an e.ac] 29)) := (Below.refl _ _).alloc (Nat.le_refl _) _
  have bx := Box.new w #[.string e.ct, .slice e.tp e.tn e.tc, .int .i64 e.nu, .int .i64 e.tk, .slice e.cp e.cn e.cc, .string e.cd, .slice e.ap e.an e.ac] 29
  obtain ⟨V, hV⟩ : ∃ V, w.alloc (.cells #[.string e.ct, .slice e.tp e.tn e.tc, .int .i64 e.nu, .int .i64 e.tk, .slice e.cp e.cn e.cc, .string e.cd, .slice e.ap e.an e.ac] 29) = V := ⟨_, rfl⟩
  rw [hV] at bv bx
  obtain ⟨l, hl⟩ : ∃ l, lasE es = l := ⟨_, rfl⟩
  have hls := last_any (h.below bv) hl
  obtain ⟨b0, hb0⟩ : ∃ b0, decide (0 < es.length) = b0 := ⟨_, rfl⟩
  rw [hb0] at hls
  have HT : Hid (lastT es = l.tk) := by unfold Hid; rw [lastT_eq, hl]
  have HS : Hid (Shf V B sb M v K R es) := h.below bv
  have HX : Hid (Box V w.heap.size #[.string e.ct, .slice e.tp e.tn e.tc, .int .i64 e.nu, .int .i64 e.tk, .slice e.cp e.cn e.cc, .string e.cd, .slice e.ap e.an e.ac]) := bx
  have HB : Hid (Below w.heap.size w V) := bv
  obtain ⟨xb, hxb⟩ : ∃ xb, w.heap.size = xb := ⟨_, rfl⟩
  clear hl hb0 bv bx h
  go_enter Tryz.func45, Tryz.ntmps45
  go_wp2_with fail
  clear hV
  rw [hxb] at HX
  refine hls.mono ?_
  rintro _ w1 ⟨rfl, hb1⟩
  have HB1 : Hid (Below w.heap.size w w1) := below_then HB.out hb1
  have HS1 : Hid (Shf w1 B sb M v K R es) := HS.out.below hb1
  have HX1 : Hid (Box w1 xb #[.string e.ct, .slice e.tp e.tn e.tc, .int .i64 e.nu, .int .i64 e.tk, .slice e.cp e.cn e.cc, .string e.cd, .slice e.ap e.an e.ac]) := HX.out.below hb1
  clear hls hb1 hxb HS HX HB
  go_wp2_with fail
  have bv2 : Below w1.heap.size w1 (w1.alloc (.cells #[.string l.ct, .slice l.tp l.tn l.tc, .int .i64 l.nu, .int .i64 l.tk, .slice l.cp l.cn l.cc, .string l.cd, .slice l.ap l.an l.ac] 29)) := (Below.refl _ _).alloc (Nat.le_refl _) _
  have by2 := Box.new w1 #[.string l.ct, .slice l.tp l.tn l.tc, .int .i64 l.nu, .int .i64 l.tk, .slice l.cp l.cn l.cc, .string l.cd, .slice l.ap l.an l.ac] 29
  generalize w1.alloc (.cells #[.string l.ct, .slice l.tp l.tn l.tc, .int .i64 l.nu, .int .i64 l.tk, .slice l.cp l.cn l.cc, .string l.cd, .slice l.ap l.an l.ac] 29) = V2 at bv2 by2 ⊢
  have HB2 : Hid (Below w.heap.size w V2) := below_then HB1.out bv2
  have HS2 : Hid (Shf V2 B sb M v K R es) := HS1.out.below bv2
  have hx2 := HX1.out.below bv2
  obtain ⟨lb, hlb⟩ : ∃ lb, w1.heap.size = lb := ⟨_, rfl⟩
  rw [hlb] at by2 ⊢
  clear hlb bv2 HB1 HS1 HX1
  have hlk : ∀ n, (Instr.lookup 93 (.map (some M)) (.string e.ct) true).run Tryz.prog (V2.drewN n) = .ok (.tuple #[.int .i64 (atP (fi e.ct es)), .bool (fi e.ct es).isSome]) (V2.drewN n) := fun n => (HS2.out.below (below_drewN (Below.refl _ _) n)).map.look hk
  obtain ⟨k0, k1, k2, k3, k4⟩ := HS2.out.cells
  obtain ⟨at0, hat0⟩ : ∃ z, atP (fi e.ct es) = z := ⟨_, rfl⟩
  obtain ⟨hs0, hhs0⟩ : ∃ z, (fi e.ct es).isSome = z := ⟨_, rfl⟩
  rw [hat0, hhs0] at hlk
  have HH : Hid ((fi e.ct es).isSome = hs0) := hhs0
  clear hat0 hhs0
  have cx := hx2.cell
  have cy := by2.cell
  have HX2 : Hid (Box V2 xb #[.string e.ct, .slice e.tp e.tn e.tc, .int .i64 e.nu, .int .i64 e.tk, .slice e.cp e.cn e.cc, .string e.cd, .slice e.ap e.an e.ac] ∧ Box V2 lb #[.string l.ct, .slice l.tp l.tn l.tc, .int .i64 l.nu, .int .i64 l.tk, .slice l.cp l.cn l.cc, .string l.cd, .slice l.ap l.an l.ac]) := ⟨hx2, by2⟩
  clear hx2 by2
  go_quiet (fail)
  have HB3 : Hid (Below w.heap.size w (V2.drewN nq)) := below_drewN HB2.out nq
  have HS3 : Hid (Shf (V2.drewN nq) B sb M v K R es) := HS2.out.below (below_drewN (Below.refl _ _) nq)
  have HX3 : Hid (Box (V2.drewN nq) xb #[.string e.ct, .slice e.tp e.tn e.tc, .int .i64 e.nu, .int .i64 e.tk, .slice e.cp e.cn e.cc, .string e.cd, .slice e.ap e.an e.ac] ∧ Box (V2.drewN nq) lb #[.string l.ct, .slice l.tp l.tn l.tc, .int .i64 l.nu, .int .i64 l.tk, .slice l.cp l.cn l.cc, .string l.cd, .slice l.ap l.an l.ac]) := ⟨HX2.out.1.below (below_drewN (Below.refl _ _) nq), HX2.out.2.below (below_drewN (Below.refl _ _) nq)⟩
  generalize V2.drewN nq = V3 at HB3 HS3 HX3 ⊢
  clear hlk k0 k1 k2 k3 k4 cx cy HB2 HS2 HX2
  have cx := HX3.out.1.cell
  have cy := HX3.out.2.cell
  have hmb := mayBe_any e V3
  cases hm : mayB e with
  | false =>
    rw [hm] at hmb
    have HM : Hid (refS R es e = 300) := by unfold Hid refS; rw [hm]; rfl
    clear hm
    go_wp2_with fail
    refine hmb.mono ?_
    rintro _ w4 ⟨rfl, hb4⟩
    have HB4 : Hid (Below w.heap.size w w4) := below_then HB3.out hb4
    clear hmb hb4 cx cy
    go_wp2_with fail
    go_ret
    exact ⟨ret_int HM.out.symm, HB4.out⟩
  | true =>
    rw [hm] at hmb
    have HM : Hid (mayB e = true) := hm
    clear hm
    go_wp2_with fail
    refine hmb.mono ?_
    rintro _ w4 ⟨rfl, hb4⟩
    have HB4 : Hid (Below w.heap.size w w4) := below_then HB3.out hb4
    have HS4 : Hid (Shf w4 B sb M v K R es) := HS3.out.below hb4
    have HX4 : Hid (Box w4 xb #[.string e.ct, .slice e.tp e.tn e.tc, .int .i64 e.nu, .int .i64 e.tk, .slice e.cp e.cn e.cc, .string e.cd, .slice e.ap e.an e.ac] ∧ Box w4 lb #[.string l.ct, .slice l.tp l.tn l.tc, .int .i64 l.nu, .int .i64 l.tk, .slice l.cp l.cn l.cc, .string l.cd, .slice l.ap l.an l.ac]) := ⟨HX3.out.1.below hb4, HX3.out.2.below hb4⟩
    clear hmb hb4 cx cy HB3 HS3 HX3
    have cx := HX4.out.1.cell
    have cy := HX4.out.2.cell
    by_cases ht : e.tk < l.tk
    · have HE : Hid (refS R es e = 300) := by unfold Hid refS; rw [HM.out, HT.out, decide_eq_true ht]; rfl
      go_wp2_with fail
      go_ret
      exact ⟨ret_int HE.out.symm, HB4.out⟩
    · cases hs0 with
      | true =>
        have HE : Hid (refS R es e = 6) := by unfold Hid refS; rw [HM.out, HT.out, decide_eq_false ht, HH.out]; rfl
        go_wp2_with fail
        go_ret
        exact ⟨ret_int HE.out.symm, HB4.out⟩
      | false =>
        have HE : Hid (refS R es e = if (opB e && decide ((nOp es : Int) = R)) = true then 7 else 0) := by unfold Hid refS; rw [HM.out, HT.out, decide_eq_false ht, HH.out]; rfl
        have hdc := sub_of (V := w4) (isDecided_any e)
        have lx := sub_box HX4.out.1
        have l1 : ∀ x : Sub w4, x.1.cell? ⟨sb, 1, none⟩ = some (.int .i64 R) := fun x => (HS4.out.below x.2).cells.2.1
        have l4 : ∀ x : Sub w4, x.1.cell? ⟨sb, 4, none⟩ = some (.int .i64 (nOp es : Int)) := fun x => (HS4.out.below x.2).cells.2.2.2.2
        haveI hne : Nonempty (Sub w4) := ⟨⟨w4, Below.refl _ _⟩⟩
        obtain ⟨no, hno⟩ : ∃ no : Int, (nOp es : Int) = no := ⟨_, rfl⟩
        rw [hno] at l4 HE
        clear hno
        cases hd : dcB e with
        | true =>
          have HE2 : Hid (refS R es e = 0) := by
            unfold Hid
            rw [HE.out, show opB e = false by unfold opB; unfold dcB at hd; simpa using hd]
            rfl
          rw [hd] at hdc
          clear hd HE
          go_wp2_with fail
          refine wp_region_class (V := w4) (Below.refl _ _) (by kernel_rfl) (by kernel_rfl) ?_
          repeat (go_big_quiet_step ((exact hdc _)))
          refine wpQuiet_nil ?_
          rintro wc ⟨xwc, rfl⟩
          have HB5 : Hid (Below w.heap.size w xwc.1) := below_then HB4.out xwc.2
          clear hdc lx l1 l4 hne
          go_wp2_with fail
          go_ret
          exact ⟨ret_int HE2.out.symm, HB5.out⟩
        | false =>
          rw [hd] at hdc
          have HO : Hid (opB e = true) := by unfold Hid opB; unfold dcB at hd; simpa using hd
          clear hd
          by_cases hr : no = R
          · have HE2 : Hid (refS R es e = 7) := by unfold Hid; rw [HE.out, HO.out, decide_eq_true hr]; rfl
            subst hr
            clear HE
            go_wp2_with fail
            refine wp_region_class (V := w4) (Below.refl _ _) (by kernel_rfl) (by kernel_rfl) ?_
            repeat (go_big_quiet_step ((exact hdc _)))
            refine wpQuiet_nil ?_
            rintro wc ⟨xwc, rfl⟩
            have HB5 : Hid (Below w.heap.size w xwc.1) := below_then HB4.out xwc.2
            clear hdc lx l1 l4 hne
            go_wp2_with fail
            go_ret
            exact ⟨ret_int HE2.out.symm, HB5.out⟩
          · have HE2 : Hid (refS R es e = 0) := by unfold Hid; rw [HE.out, HO.out, decide_eq_false hr]; rfl
            have hq : (no == R) = false := by rw [beq_eq_false_iff_ne]; exact hr
            clear HE hr
            go_wp2_with fail
            refine wp_region_class (V := w4) (Below.refl _ _) (by kernel_rfl) (by kernel_rfl) ?_
            repeat (go_big_quiet_step ((exact hdc _)))
            refine wpQuiet_nil ?_
            rintro wc ⟨xwc, rfl⟩
            have HB5 : Hid (Below w.heap.size w xwc.1) := below_then HB4.out xwc.2
            clear hdc lx l1 l4 hne
            go_wp2_with fail
            go_ret
            exact ⟨ret_int HE2.out.symm, HB5.out⟩
end
end Go.Proofs.YtplhdgijjckjcaaGreatDoor
