/-
  Accept.
-/
import Derived.Test.YtplhdgijjckjcaaGreatDoorIbBx
namespace Go.Proofs.YtplhdgijjckjcaaGreatDoor
open Go.RowKit

/-- Accept's answer. -/
def accC (R : Int) (es : List Ent) (e : Ent) : Int := if dcB e = true then 300 else refS R es e
theorem refS_zero {R : Int} {es : List Ent} {e : Ent} (h : refS R es e = 0) : mayB e = true ∧ ¬ e.tk < lastT es ∧ fi e.ct es = none ∧ (opB e = true → (nOp es : Int) ≠ R) := by
  unfold refS at h
  split at h
  · cases h
  · rename_i h1
    split at h
    · cases h
    · rename_i h2
      split at h
      · cases h
      · rename_i h3
        simp only [Bool.or_eq_true, Bool.not_eq_true', decide_eq_true_eq, not_or, Bool.not_eq_false] at h1
        refine ⟨h1.1, h1.2, by simpa using h2, fun ho e => h3 (by rw [ho, decide_eq_true e]; rfl)⟩
theorem srt_snoc {es : List Ent} {e : Ent} (h : Srt es) (ht : lastT es ≤ e.tk) : Srt (es ++ [e]) := fun i x y hx hy => by
  have hi := (List.getElem?_eq_some_iff.1 hy).1
  simp only [List.length_append, List.length_singleton] at hi
  by_cases hl : i + 1 < es.length
  · rw [List.getElem?_append_left (by omega)] at hx
    rw [List.getElem?_append_left hl] at hy
    exact h i x y hx hy
  · have hie : i + 1 = es.length := by omega
    rw [List.getElem?_append_left (by omega)] at hx
    rw [List.getElem?_append_right (by omega), hie, Nat.sub_self] at hy
    simp only [List.getElem?_cons_zero, Option.some.injEq] at hy
    subst hy
    have := lasE_at (es := es) hie.symm
    rw [hx] at this
    rw [Option.some.inj this, ← lastT_eq]
    exact ht
theorem nDc_snoc {es : List Ent} {e : Ent} (hd : dcB e = false) : nDc (es ++ [e]) = nDc es := by
  unfold nDc
  rw [List.countP_append, List.countP_cons, hd]
  simp
theorem inv_snoc {K R : Int} {es : List Ent} {e : Ent} (h : Inv K R es) (hd : dcB e = false) (ht : ¬ e.tk < lastT es) (hn : (nOp es : Int) ≠ R) : Inv K R (es ++ [e]) := by
  refine ⟨h.k1, h.k2, h.r1, h.r2, ?_, by rw [nDc_snoc hd]; exact h.dc, srt_snoc h.srt (by omega)⟩
  rw [nOp_snoc, hd]
  have := h.op
  simp
  omega
section
variable {w w' : World} {B b sb M : Nat} {v : Value} {K R : Int} {es : List Ent}
set_option maxRecDepth 100000 in
set_option maxHeartbeats 4000000 in
theorem acc_no (h : Bx w B b sb M v K R es) (e : Ent) (hk : KeyS e.ct) {z : Int} (hz : accC R es e = z) (h0 : z ≠ 0) : Calls Tryz.prog 20 #[.pointer (some ⟨b, 0, none⟩), .agg #[.string e.ct, .slice e.tp e.tn e.tc, .int .i64 e.nu, .int .i64 e.tk, .slice e.cp e.cn e.cc, .string e.cd, .slice e.ap e.an e.ac]] w fun r w' => ∃ ev, r = .returned (.iface 98 (.pointer (some ⟨ev, 0, none⟩))) ∧ IFault w' ev 0 z ∧ w.heap.size ≤ ev ∧ Below w.heap.size w w' := by
  have bv : Below w.heap.size w (w.alloc (.cells #[.string e.ct, .slice e.tp e.tn e.tc, .int .i64 e.nu, .int .i64 e.tk, .slice e.cp e.cn e.cc, .string e.cd, .slice e.ap e.an e.ac] 29)) := (Below.refl _ _).alloc (Nat.le_refl _) _
  have bx := Box.new w #[.string e.ct, .slice e.tp e.tn e.tc, .int .i64 e.nu, .int .i64 e.tk, .slice e.cp e.cn e.cc, .string e.cd, .slice e.ap e.an e.ac] 29
  obtain ⟨V, hV⟩ : ∃ V, w.alloc (.cells #[.string e.ct, .slice e.tp e.tn e.tc, .int .i64 e.nu, .int .i64 e.tk, .slice e.cp e.cn e.cc, .string e.cd, .slice e.ap e.an e.ac] 29) = V := ⟨_, rfl⟩
  rw [hV] at bv bx
  have h1 := h.below bv
  have hmk := made_yes h1
  have hdc := isDecided_any e V
  obtain ⟨xb, hxb⟩ : ∃ xb, w.heap.size = xb := ⟨_, rfl⟩
  have cx := bx.cell
  rw [hxb] at cx
  have HX : Hid (Box V xb #[.string e.ct, .slice e.tp e.tn e.tc, .int .i64 e.nu, .int .i64 e.tk, .slice e.cp e.cn e.cc, .string e.cd, .slice e.ap e.an e.ac]) := by unfold Hid; rw [← hxb]; exact bx
  have HB : Hid (Below w.heap.size w V) := bv
  have HH : Hid (Bx V B b sb M v K R es) := h1
  cases hd : dcB e with
  | true =>
    rw [hd] at hdc
    obtain rfl : 300 = z := by rw [← hz]; unfold accC; rw [if_pos hd]
    clear hd hz h0 h h1 bv bx
    go_enter Tryz.func20, Tryz.ntmps20
    go_wp2_with (go_at_call 51; refine hmk.mono ?_; rintro _ w9 ⟨rfl, h9⟩; subst w9)
    clear hV
    refine hdc.mono ?_
    rintro _ w1 ⟨rfl, hb1⟩
    have HB1 : Hid (Below w.heap.size w w1) := below_then HB.out hb1
    have hft := fault_any 0 300 w1
    clear hdc hb1 cx hmk
    go_wp2_with fail
    refine hft.mono ?_
    rintro _ w2 ⟨rfl, hf2, hb2⟩
    have HB2 : Hid (Below w.heap.size w w2) := below_then HB1.out hb2
    have HF : Hid (IFault w2 w1.heap.size 0 300) := hf2
    clear hft hb2 hf2
    go_wp2_with fail
    go_ret
    exact ⟨w1.heap.size, rfl, HF.out, HB1.out.size, HB2.out⟩
  | false =>
    rw [hd] at hdc
    have hr : refS R es e = z := by rw [← hz]; unfold accC; rw [hd]; rfl
    have HR : Hid (refS R es e = z) := hr
    have hz1 : (z == 0) = false := by rw [beq_eq_false_iff_ne]; exact h0
    have hz2 : (z != 0) = true := by simp [h0]
    clear hd hz h h1 bv bx hr
    go_enter Tryz.func20, Tryz.ntmps20
    go_wp2_with (go_at_call 51; refine hmk.mono ?_; rintro _ w9 ⟨rfl, h9⟩; subst w9)
    clear hV hxb
    refine hdc.mono ?_
    rintro _ w1 ⟨rfl, hb1⟩
    have HB1 : Hid (Below w.heap.size w w1) := below_then HB.out hb1
    have HH1 : Hid (Bx w1 B b sb M v K R es) := HH.out.below hb1
    have lx := sub_box (HX.out.below hb1)
    have l0 : ∀ x : Sub w1, x.1.cell? ⟨b, 0, none⟩ = some (.pointer (some ⟨sb, 0, none⟩)) := fun x => hcell (HH1.out.below x.2).blk 0
    have crf : ∀ x : Sub w1, Calls Tryz.prog 45 #[.pointer (some ⟨sb, 0, none⟩), .agg #[.string e.ct, .slice e.tp e.tn e.tc, .int .i64 e.nu, .int .i64 e.tk, .slice e.cp e.cn e.cc, .string e.cd, .slice e.ap e.an e.ac]] x.1 fun r x' => r = .returned (.int .i64 z) ∧ ∃ y : Sub w1, x' = y.1 := fun x => (refuse_any (HH1.out.below x.2).sh e hk).mono fun _ x' ⟨g1, g2⟩ => ⟨by rw [g1, HR.out], ⟨x', below_then x.2 g2⟩, rfl⟩
    haveI hne : Nonempty (Sub w1) := ⟨⟨w1, Below.refl _ _⟩⟩
    clear hdc hb1 cx hmk
    go_wp2_with fail
    refine wp_region_class (V := w1) (Below.refl _ _) (by kernel_rfl) (by kernel_rfl) ?_
    repeat (go_big_quiet_step ((exact crf _)))
    refine wpQuiet_nil ?_
    rintro wc ⟨xwc, rfl⟩
    obtain ⟨W2, hW2⟩ : ∃ W2, xwc.1 = W2 := ⟨_, rfl⟩
    have HB2 : Hid (Below w.heap.size w W2) := by unfold Hid; rw [← hW2]; exact below_then HB1.out xwc.2
    rw [hW2]
    clear hW2 lx l0 crf hne xwc
    have hft := fault_any 0 z W2
    go_wp2_with fail
    refine hft.mono ?_
    rintro _ w3 ⟨rfl, hf3, hb3⟩
    have HB3 : Hid (Below w.heap.size w w3) := below_then HB2.out hb3
    have HF : Hid (IFault w3 W2.heap.size 0 z) := hf3
    clear hft hb3 hf3
    go_wp2_with fail
    go_ret
    exact ⟨W2.heap.size, rfl, HF.out, HB2.out.size, HB3.out⟩
set_option maxRecDepth 100000 in
set_option maxHeartbeats 4000000 in
theorem acc_yes2 (h : Bx w B b sb M v K R es) (e : Ent) (hk : KeyS e.ct) (hl : Lies w e) (hz : accC R es e = 0) : Calls Tryz.prog 20 #[.pointer (some ⟨b, 0, none⟩), .agg #[.string e.ct, .slice e.tp e.tn e.tc, .int .i64 e.nu, .int .i64 e.tk, .slice e.cp e.cn e.cc, .string e.cd, .slice e.ap e.an e.ac]] w fun r w' => r = .returned .nilIface ∧ Hid (∃ a c a' c' a'' c'', BxQ w B b sb M v K R (es ++ [e.wi a c a' c' a'' c'']) w' ∧ Own w' w.heap.size (e.wi a c a' c' a'' c'')) := by
  have bv : Below w.heap.size w (w.alloc (.cells #[.string e.ct, .slice e.tp e.tn e.tc, .int .i64 e.nu, .int .i64 e.tk, .slice e.cp e.cn e.cc, .string e.cd, .slice e.ap e.an e.ac] 29)) := (Below.refl _ _).alloc (Nat.le_refl _) _
  have bx := Box.new w #[.string e.ct, .slice e.tp e.tn e.tc, .int .i64 e.nu, .int .i64 e.tk, .slice e.cp e.cn e.cc, .string e.cd, .slice e.ap e.an e.ac] 29
  obtain ⟨V, hV⟩ : ∃ V, w.alloc (.cells #[.string e.ct, .slice e.tp e.tn e.tc, .int .i64 e.nu, .int .i64 e.tk, .slice e.cp e.cn e.cc, .string e.cd, .slice e.ap e.an e.ac] 29) = V := ⟨_, rfl⟩
  rw [hV] at bv bx
  have h1 := h.below bv
  have hmk := made_yes h1
  have hdc := isDecided_any e V
  obtain ⟨xb, hxb⟩ : ∃ xb, w.heap.size = xb := ⟨_, rfl⟩
  have cx := bx.cell
  rw [hxb] at cx
  have HX : Hid (Box V xb #[.string e.ct, .slice e.tp e.tn e.tc, .int .i64 e.nu, .int .i64 e.tk, .slice e.cp e.cn e.cc, .string e.cd, .slice e.ap e.an e.ac]) := by unfold Hid; rw [← hxb]; exact bx
  have HB : Hid (Below w.heap.size w V) := bv
  have HH : Hid (Bx V B b sb M v K R es) := h1
  have HLi : Hid (Lies V e) := hl.below bv
  have hd : dcB e = false := by
    cases hd : dcB e with
    | true => unfold accC at hz; rw [if_pos hd] at hz; cases hz
    | false => rfl
  have hr : refS R es e = 0 := by rw [← hz]; unfold accC; rw [hd]; rfl
  obtain ⟨z1, z2, z3, z4⟩ := refS_zero hr
  have hmm := mayB_is z1
  have HI : Hid (∀ a c a' c' a'' c'', Inv K R (es ++ [e.wi a c a' c' a'' c''])) := fun a c a' c' a'' c'' => inv_snoc (e := e.wi a c a' c' a'' c'') h.inv hd z2 (z4 (by unfold opB; unfold dcB at hd; simpa using hd))
  have hln := h.inv.len
  have HR : Hid (refS R es e = 0 ∧ fi e.ct es = none ∧ mayB e = true ∧ es.length < 1000000 ∧ e.tn ≤ 1000000 ∧ e.cn ≤ 1000000 ∧ e.an ≤ 1000000) := ⟨hr, z3, z1, by omega, by omega, by omega, by omega⟩
  rw [hd] at hdc
  clear hd hz h h1 bv bx hr z1 z2 z3 z4 hmm hl hln
  go_enter Tryz.func20, Tryz.ntmps20
  go_wp2_with (go_at_call 51; refine hmk.mono ?_; rintro _ w9 ⟨rfl, h9⟩; subst w9)
  clear hV hxb
  refine hdc.mono ?_
  rintro _ w1 ⟨rfl, hb1⟩
  have HB1 : Hid (Below w.heap.size w w1) := below_then HB.out hb1
  have HH1 : Hid (Bx w1 B b sb M v K R es) := HH.out.below hb1
  have HX1 : Hid (Box w1 xb #[.string e.ct, .slice e.tp e.tn e.tc, .int .i64 e.nu, .int .i64 e.tk, .slice e.cp e.cn e.cc, .string e.cd, .slice e.ap e.an e.ac]) := HX.out.below hb1
  have HL1 : Hid (Lies w1 e) := HLi.out.below hb1
  have lx := sub_box HX1.out
  have l0 : ∀ x : Sub w1, x.1.cell? ⟨b, 0, none⟩ = some (.pointer (some ⟨sb, 0, none⟩)) := fun x => hcell (HH1.out.below x.2).blk 0
  have crf : ∀ x : Sub w1, Calls Tryz.prog 45 #[.pointer (some ⟨sb, 0, none⟩), .agg #[.string e.ct, .slice e.tp e.tn e.tc, .int .i64 e.nu, .int .i64 e.tk, .slice e.cp e.cn e.cc, .string e.cd, .slice e.ap e.an e.ac]] x.1 fun r x' => r = .returned (.int .i64 0) ∧ ∃ y : Sub w1, x' = y.1 := fun x => (refuse_any (HH1.out.below x.2).sh e hk).mono fun _ x' ⟨g1, g2⟩ => ⟨by rw [g1, HR.out.1], ⟨x', below_then x.2 g2⟩, rfl⟩
  haveI hne : Nonempty (Sub w1) := ⟨⟨w1, Below.refl _ _⟩⟩
  clear hdc hb1 cx hmk HB HH HX HLi
  go_wp2_with fail
  refine wp_region_class (V := w1) (Below.refl _ _) (by kernel_rfl) (by kernel_rfl) ?_
  repeat (go_big_quiet_step ((exact crf _)))
  refine wpQuiet_nil ?_
  rintro wc ⟨xwc, rfl⟩
  obtain ⟨W2, hW2⟩ : ∃ W2, xwc.1 = W2 := ⟨_, rfl⟩
  have HB2 : Hid (Below w.heap.size w W2) := by unfold Hid; rw [← hW2]; exact below_then HB1.out xwc.2
  have HH2 : Hid (Bx W2 B b sb M v K R es) := by unfold Hid; rw [← hW2]; exact HH1.out.below xwc.2
  have HX2 : Hid (Box W2 xb #[.string e.ct, .slice e.tp e.tn e.tc, .int .i64 e.nu, .int .i64 e.tk, .slice e.cp e.cn e.cc, .string e.cd, .slice e.ap e.an e.ac]) := by unfold Hid; rw [← hW2]; exact HX1.out.below xwc.2
  have HL2 : Hid (Lies W2 e) := by unfold Hid; rw [← hW2]; exact HL1.out.below xwc.2
  rw [hW2]
  clear hW2 lx l0 crf hne xwc HB1 HH1 HX1 HL1
  have cx := HX2.out.cell
  have c0 := hcell HH2.out.blk 0
  have lb := HH2.out.lt
  have lxx := HX2.out.lt
  have hcp : Hid (∀ z, Below W2.heap.size W2 z → Calls Tryz.prog 53 #[.agg #[.string e.ct, .slice e.tp e.tn e.tc, .int .i64 e.nu, .int .i64 e.tk, .slice e.cp e.cn e.cc, .string e.cd, .slice e.ap e.an e.ac]] z fun r z' => ∃ a c a' c' a'' c'', r = .returned (.agg #[.string e.ct, .slice a e.tn c, .int .i64 e.nu, .int .i64 e.tk, .slice a' e.cn c', .string e.cd, .slice a'' e.an c'']) ∧ Hid (Own z' W2.heap.size (e.wi a c a' c' a'' c'') ∧ Below W2.heap.size W2 z')) := fun z hz =>
    (copied_any e z (HL2.out.below hz) HR.out.2.2.2.2.1 HR.out.2.2.2.2.2.1 HR.out.2.2.2.2.2.2).mono fun r z' ⟨a, c, a', c', a'', c'', g1, g2, g3⟩ => ⟨a, c, a', c', a'', c'', g1, g2.base hz.size, below_then hz g3⟩
  have hpt : Hid (∀ a c a' c' a'' c'' z, Own z W2.heap.size (e.wi a c a' c' a'' c'') ∧ Below W2.heap.size W2 z → Calls Tryz.prog 46 #[.pointer (some ⟨sb, 0, none⟩), .agg #[.string e.ct, .slice a e.tn c, .int .i64 e.nu, .int .i64 e.tk, .slice a' e.cn c', .string e.cd, .slice a'' e.an c'']] z fun r z' => r = .returned (.tuple #[]) ∧ Hid (∃ a c a' c' a'' c'', BxQ w B b sb M v K R (es ++ [e.wi a c a' c' a'' c'']) z' ∧ Own z' w.heap.size (e.wi a c a' c' a'' c''))) := fun a c a' c' a'' c'' z ⟨hz1, hz⟩ => by
    have hz2 := HH2.out.below hz
    have hBz : B ≤ W2.heap.size := Nat.le_trans HH2.out.lb (Nat.le_of_lt HH2.out.lt)
    refine (put_any hz2.sh (e := e.wi a c a' c' a'' c'') (Nat.le_trans hBz hz.size) HR.out.2.1 HR.out.2.2.1 hk HR.out.2.2.2.1).mono fun r z' ⟨g1, g2⟩ => ⟨g1, a, c, a', c', a'', c'', ?_, ?_⟩
    · refine BxQ.of_below (below_then HB2.out hz) (bxq_of hz2 g2 (HI.out a c a' c' a'' c'') fun y hy => ?_)
      rcases List.mem_append.1 hy with g | g
      · exact hz2.own y g
      · obtain rfl : y = e.wi a c a' c' a'' c'' := by simpa using g
        exact hz1.base hBz
    · obtain ⟨_, _, t2, _⟩ := g2
      exact (hz1.byType t2 hz2.sh.notBytes).base HB2.out.size
  clear HB2 HH2 HX2 HL2 HI HR
  go_wp2_with fail
  go_region_law (first | (go_simp; go_at_call 53; refine (hcp.out _ ?_).mono ?_; (repeat' (first | exact Below.refl _ _ | refine Below.drew ?_)); rintro _ w5 ⟨a5, c5, a6, c6, a7, c7, rfl, hh5⟩; have hc5 := (held_of hh5.out.2).cell; go_wp2_with fail) | (go_simp; go_at_call 46; refine (hpt.out _ _ _ _ _ _ _ ?_).mono ?_; (exact hh5.out); rintro _ w6 ⟨rfl, hh6⟩; go_wp2_with fail))
  all_goals
    go_wp2_with fail
    go_ret
    exact ⟨rfl, hh6⟩
theorem acc_yes (h : Bx w B b sb M v K R es) (e : Ent) (hk : KeyS e.ct) (hl : Lies w e) (hz : accC R es e = 0) : Calls Tryz.prog 20 #[.pointer (some ⟨b, 0, none⟩), .agg #[.string e.ct, .slice e.tp e.tn e.tc, .int .i64 e.nu, .int .i64 e.tk, .slice e.cp e.cn e.cc, .string e.cd, .slice e.ap e.an e.ac]] w fun r w' => r = .returned .nilIface ∧ Hid (∃ a c a' c' a'' c'', BxQ w B b sb M v K R (es ++ [e.wi a c a' c' a'' c'']) w') :=
  (acc_yes2 h e hk hl hz).mono fun r w' ⟨h1, h2⟩ => ⟨h1, by
    obtain ⟨a, c, a', c', a'', c'', h3, _⟩ := h2.out
    exact ⟨a, c, a', c', a'', c'', h3⟩⟩
end
end Go.Proofs.YtplhdgijjckjcaaGreatDoor
