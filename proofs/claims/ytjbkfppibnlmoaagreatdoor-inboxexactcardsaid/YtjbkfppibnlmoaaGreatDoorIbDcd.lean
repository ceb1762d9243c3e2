import Derived.Test.YtjbkfppibnlmoaaGreatDoorIbRead
/-
  Accept.
-/
namespace Go.Proofs.YtjbkfppibnlmoaaGreatDoor
open Go.RowKit

/-- Accept's answer. -/
def accC (R : Int) (es : List Ent) (e : Ent) : Int := if dcB e = true then 300 else refS R es e
theorem refS_zero {R : Int} {es : List Ent} {e : Ent} (h : refS R es e = 0) : mayB e = true ∧ ¬ e.tk < lastT es ∧ fi e.ct es = none ∧ (opB e = true → (nOp es : Int) ≠ R) := by
  unfold refS at h
  split at h
  · cases h
  · rename_i h1
    split at h
    · cases h
    · rename_i h2
      split at h
      · cases h
      · rename_i h3
        simp only [Bool.or_eq_true, Bool.not_eq_true', decide_eq_true_eq, not_or, Bool.not_eq_false] at h1
        refine ⟨h1.1, h1.2, by simpa using h2, fun ho e => h3 (by rw [ho, decide_eq_true e]; rfl)⟩
theorem srt_snoc {es : List Ent} {e : Ent} (h : Srt es) (ht : lastT es ≤ e.tk) : Srt (es ++ [e]) := fun i x y hx hy => by
  have hi := (List.getElem?_eq_some_iff.1 hy).1
  simp only [List.length_append, List.length_singleton] at hi
  by_cases hl : i + 1 < es.length
  · rw [List.getElem?_append_left (by omega)] at hx
    rw [List.getElem?_append_left hl] at hy
    exact h i x y hx hy
  · have hie : i + 1 = es.length := by omega
    rw [List.getElem?_append_left (by omega)] at hx
    rw [List.getElem?_append_right (by omega), hie, Nat.sub_self] at hy
    simp only [List.getElem?_cons_zero, Option.some.injEq] at hy
    subst hy
    have := lasE_at (es := es) hie.symm
    rw [hx] at this
    rw [Option.some.inj this, ← lastT_eq]
    exact ht
theorem nDc_snoc {es : List Ent} {e : Ent} (hd : dcB e = false) : nDc (es ++ [e]) = nDc es := by
  unfold nDc
  rw [List.countP_append, List.countP_cons, hd]
  simp
theorem inv_snoc {K R : Int} {es : List Ent} {e : Ent} (h : Inv K R es) (hd : dcB e = false) (ht : ¬ e.tk < lastT es) (hn : (nOp es : Int) ≠ R) : Inv K R (es ++ [e]) := by
  refine ⟨h.k1, h.k2, h.r1, h.r2, ?_, by rw [nDc_snoc hd]; exact h.dc, srt_snoc h.srt (by omega)⟩
  rw [nOp_snoc, hd]
  have := h.op
  simp
  omega
section
variable {w w' : World} {B b sb M : Nat} {v : Value} {K R : Int} {es : List Ent}
set_option maxRecDepth 100000 in
set_option maxHeartbeats 4000000 in
theorem acc_no (h : Bx w B b sb M v K R es) (e : Ent) (hk : KeyS e.ct) {z : Int} (hz : accC R es e = z) (h0 : z ≠ 0) : Calls Tryz.prog 54 #[.pointer (some ⟨b, 0, none⟩), .agg #[.string e.ct, .slice e.tp e.tn e.tc, .int .i64 e.nu, .int .i64 e.tk, .slice e.cp e.cn e.cc, .string e.cd, .slice e.ap e.an e.ac]] w fun r w' => ∃ ev, r = .returned (.iface 94 (.pointer (some ⟨ev, 0, none⟩))) ∧ IFault w' ev 0 z ∧ w.heap.size ≤ ev ∧ Below w.heap.size w w' := by
  have bv : Below w.heap.size w (w.alloc (.cells #[.string e.ct, .slice e.tp e.tn e.tc, .int .i64 e.nu, .int .i64 e.tk, .slice e.cp e.cn e.cc, .string e.cd, .slice e.ap e.an e.ac] 30)) := (Below.refl _ _).alloc (Nat.le_refl _) _
  have bx := Box.new w #[.string e.ct, .slice e.tp e.tn e.tc, .int .i64 e.nu, .int .i64 e.tk, .slice e.cp e.cn e.cc, .string e.cd, .slice e.ap e.an e.ac] 30
  obtain ⟨V, hV⟩ : ∃ V, w.alloc (.cells #[.string e.ct, .slice e.tp e.tn e.tc, .int .i64 e.nu, .int .i64 e.tk, .slice e.cp e.cn e.cc, .string e.cd, .slice e.ap e.an e.ac] 30) = V := ⟨_, rfl⟩
  rw [hV] at bv bx
  have h1 := h.below bv
  have hmk := made_yes h1
  have hdc := isDecided_any e V
  obtain ⟨xb, hxb⟩ : ∃ xb, w.heap.size = xb := ⟨_, rfl⟩
  have cx := bx.cell
  rw [hxb] at cx
  have HX : Hid (Box V xb #[.string e.ct, .slice e.tp e.tn e.tc, .int .i64 e.nu, .int .i64 e.tk, .slice e.cp e.cn e.cc, .string e.cd, .slice e.ap e.an e.ac]) := by unfold Hid; rw [← hxb]; exact bx
  have HB : Hid (Below w.heap.size w V) := bv
  have HH : Hid (Bx V B b sb M v K R es) := h1
  cases hd : dcB e with
  | true =>
    rw [hd] at hdc
    obtain rfl : 300 = z := by rw [← hz]; unfold accC; rw [if_pos hd]
    clear hd hz h0 h h1 bv bx
    go_enter Tryz.func54, Tryz.ntmps54
    go_wp2_with (go_at_call 60; refine hmk.mono ?_; rintro _ w9 ⟨rfl, h9⟩; subst w9)
    clear hV
    refine hdc.mono ?_
    rintro _ w1 ⟨rfl, hb1⟩
    have HB1 : Hid (Below w.heap.size w w1) := below_then HB.out hb1
    have hft := fault_any 0 300 w1
    clear hdc hb1 cx hmk
    go_wp2_with fail
    refine hft.mono ?_
    rintro _ w2 ⟨rfl, hf2, hb2⟩
    have HB2 : Hid (Below w.heap.size w w2) := below_then HB1.out hb2
    have HF : Hid (IFault w2 w1.heap.size 0 300) := hf2
    clear hft hb2 hf2
    go_wp2_with fail
    go_ret
    exact ⟨w1.heap.size, rfl, HF.out, HB1.out.size, HB2.out⟩
  | false =>
    rw [hd] at hdc
    have hr : refS R es e = z := by rw [← hz]; unfold accC; rw [hd]; rfl
    have HR : Hid (refS R es e = z) := hr
    have hz1 : (z == 0) = false := by rw [beq_eq_false_iff_ne]; exact h0
    have hz2 : (z != 0) = true := by simp [h0]
    clear hd hz h h1 bv bx hr
    go_enter Tryz.func54, Tryz.ntmps54
    go_wp2_with (go_at_call 60; refine hmk.mono ?_; rintro _ w9 ⟨rfl, h9⟩; subst w9)
    clear hV hxb
    refine hdc.mono ?_
    rintro _ w1 ⟨rfl, hb1⟩
    have HB1 : Hid (Below w.heap.size w w1) := below_then HB.out hb1
    have HH1 : Hid (Bx w1 B b sb M v K R es) := HH.out.below hb1
    have lx := sub_box (HX.out.below hb1)
    have l0 : ∀ x : Sub w1, x.1.cell? ⟨b, 0, none⟩ = some (.pointer (some ⟨sb, 0, none⟩)) := fun x => hcell (HH1.out.below x.2).blk 0
    have crf : ∀ x : Sub w1, Calls Tryz.prog 41 #[.pointer (some ⟨sb, 0, none⟩), .agg #[.string e.ct, .slice e.tp e.tn e.tc, .int .i64 e.nu, .int .i64 e.tk, .slice e.cp e.cn e.cc, .string e.cd, .slice e.ap e.an e.ac]] x.1 fun r x' => r = .returned (.int .i64 z) ∧ ∃ y : Sub w1, x' = y.1 := fun x => (refuse_any (HH1.out.below x.2).sh e hk).mono fun _ x' ⟨g1, g2⟩ => ⟨by rw [g1, HR.out], ⟨x', below_then x.2 g2⟩, rfl⟩
    haveI hne : Nonempty (Sub w1) := ⟨⟨w1, Below.refl _ _⟩⟩
    clear hdc hb1 cx hmk
    go_wp2_with fail
    refine wp_region_class (V := w1) (Below.refl _ _) (by kernel_rfl) (by kernel_rfl) ?_
    repeat (go_big_quiet_step ((exact crf _)))
    refine wpQuiet_nil ?_
    rintro wc ⟨xwc, rfl⟩
    obtain ⟨W2, hW2⟩ : ∃ W2, xwc.1 = W2 := ⟨_, rfl⟩
    have HB2 : Hid (Below w.heap.size w W2) := by unfold Hid; rw [← hW2]; exact below_then HB1.out xwc.2
    rw [hW2]
    clear hW2 lx l0 crf hne xwc
    have hft := fault_any 0 z W2
    go_wp2_with fail
    refine hft.mono ?_
    rintro _ w3 ⟨rfl, hf3, hb3⟩
    have HB3 : Hid (Below w.heap.size w w3) := below_then HB2.out hb3
    have HF : Hid (IFault w3 W2.heap.size 0 z) := hf3
    clear hft hb3 hf3
    go_wp2_with fail
    go_ret
    exact ⟨W2.heap.size, rfl, HF.out, HB2.out.size, HB3.out⟩
set_option maxRecDepth 100000 in
set_option maxHeartbeats 4000000 in
theorem acc_yes2 (h : Bx w B b sb M v K R es) (e : Ent) (hk : KeyS e.ct) (hl : Lies w e) (hz : accC R es e = 0) : Calls Tryz.prog 54 #[.pointer (some ⟨b, 0, none⟩), .agg #[.string e.ct, .slice e.tp e.tn e.tc, .int .i64 e.nu, .int .i64 e.tk, .slice e.cp e.cn e.cc, .string e.cd, .slice e.ap e.an e.ac]] w fun r w' => r = .returned .nilIface ∧ Hid (∃ a c a' c' a'' c'', BxQ w B b sb M v K R (es ++ [e.wi a c a' c' a'' c'']) w' ∧ Own w' w.heap.size (e.wi a c a' c' a'' c'')) := by
  have bv : Below w.heap.size w (w.alloc (.cells #[.string e.ct, .slice e.tp e.tn e.tc, .int .i64 e.nu, .int .i64 e.tk, .slice e.cp e.cn e.cc, .string e.cd, .slice e.ap e.an e.ac] 30)) := (Below.refl _ _).alloc (Nat.le_refl _) _
  have bx := Box.new w #[.string e.ct, .slice e.tp e.tn e.tc, .int .i64 e.nu, .int .i64 e.tk, .slice e.cp e.cn e.cc, .string e.cd, .slice e.ap e.an e.ac] 30
  obtain ⟨V, hV⟩ : ∃ V, w.alloc (.cells #[.string e.ct, .slice e.tp e.tn e.tc, .int .i64 e.nu, .int .i64 e.tk, .slice e.cp e.cn e.cc, .string e.cd, .slice e.ap e.an e.ac] 30) = V := ⟨_, rfl⟩
  rw [hV] at bv bx
  have h1 := h.below bv
  have hmk := made_yes h1
  have hdc := isDecided_any e V
  obtain ⟨xb, hxb⟩ : ∃ xb, w.heap.size = xb := ⟨_, rfl⟩
  have cx := bx.cell
  rw [hxb] at cx
  have HX : Hid (Box V xb #[.string e.ct, .slice e.tp e.tn e.tc, .int .i64 e.nu, .int .i64 e.tk, .slice e.cp e.cn e.cc, .string e.cd, .slice e.ap e.an e.ac]) := by unfold Hid; rw [← hxb]; exact bx
  have HB : Hid (Below w.heap.size w V) := bv
  have HH : Hid (Bx V B b sb M v K R es) := h1
  have HLi : Hid (Lies V e) := hl.below bv
  have hd : dcB e = false := by
    cases hd : dcB e with
    | true => unfold accC at hz; rw [if_pos hd] at hz; cases hz
    | false => rfl
  have hr : refS R es e = 0 := by rw [← hz]; unfold accC; rw [hd]; rfl
  obtain ⟨z1, z2, z3, z4⟩ := refS_zero hr
  have hmm := mayB_is z1
  have HI : Hid (∀ a c a' c' a'' c'', Inv K R (es ++ [e.wi a c a' c' a'' c''])) := fun a c a' c' a'' c'' => inv_snoc (e := e.wi a c a' c' a'' c'') h.inv hd z2 (z4 (by unfold opB; unfold dcB at hd; simpa using hd))
  have hln := h.inv.len
  have HR : Hid (refS R es e = 0 ∧ fi e.ct es = none ∧ mayB e = true ∧ es.length < 1000000 ∧ e.tn ≤ 1000000 ∧ e.cn ≤ 1000000 ∧ e.an ≤ 1000000) := ⟨hr, z3, z1, by omega, by omega, by omega, by omega⟩
  rw [hd] at hdc
  clear hd hz h h1 bv bx hr z1 z2 z3 z4 hmm hl hln
  go_enter Tryz.func54, Tryz.ntmps54
  go_wp2_with (go_at_call 60; refine hmk.mono ?_; rintro _ w9 ⟨rfl, h9⟩; subst w9)
  clear hV hxb
  refine hdc.mono ?_
  rintro _ w1 ⟨rfl, hb1⟩
  have HB1 : Hid (Below w.heap.size w w1) := below_then HB.out hb1
  have HH1 : Hid (Bx w1 B b sb M v K R es) := HH.out.below hb1
  have HX1 : Hid (Box w1 xb #[.string e.ct, .slice e.tp e.tn e.tc, .int .i64 e.nu, .int .i64 e.tk, .slice e.cp e.cn e.cc, .string e.cd, .slice e.ap e.an e.ac]) := HX.out.below hb1
  have HL1 : Hid (Lies w1 e) := HLi.out.below hb1
  have lx := sub_box HX1.out
  have l0 : ∀ x : Sub w1, x.1.cell? ⟨b, 0, none⟩ = some (.pointer (some ⟨sb, 0, none⟩)) := fun x => hcell (HH1.out.below x.2).blk 0
  have crf : ∀ x : Sub w1, Calls Tryz.prog 41 #[.pointer (some ⟨sb, 0, none⟩), .agg #[.string e.ct, .slice e.tp e.tn e.tc, .int .i64 e.nu, .int .i64 e.tk, .slice e.cp e.cn e.cc, .string e.cd, .slice e.ap e.an e.ac]] x.1 fun r x' => r = .returned (.int .i64 0) ∧ ∃ y : Sub w1, x' = y.1 := fun x => (refuse_any (HH1.out.below x.2).sh e hk).mono fun _ x' ⟨g1, g2⟩ => ⟨by rw [g1, HR.out.1], ⟨x', below_then x.2 g2⟩, rfl⟩
  haveI hne : Nonempty (Sub w1) := ⟨⟨w1, Below.refl _ _⟩⟩
  clear hdc hb1 cx hmk HB HH HX HLi
  go_wp2_with fail
  refine wp_region_class (V := w1) (Below.refl _ _) (by kernel_rfl) (by kernel_rfl) ?_
  repeat (go_big_quiet_step ((exact crf _)))
  refine wpQuiet_nil ?_
  rintro wc ⟨xwc, rfl⟩
  obtain ⟨W2, hW2⟩ : ∃ W2, xwc.1 = W2 := ⟨_, rfl⟩
  have HB2 : Hid (Below w.heap.size w W2) := by unfold Hid; rw [← hW2]; exact below_then HB1.out xwc.2
  have HH2 : Hid (Bx W2 B b sb M v K R es) := by unfold Hid; rw [← hW2]; exact HH1.out.below xwc.2
  have HX2 : Hid (Box W2 xb #[.string e.ct, .slice e.tp e.tn e.tc, .int .i64 e.nu, .int .i64 e.tk, .slice e.cp e.cn e.cc, .string e.cd, .slice e.ap e.an e.ac]) := by unfold Hid; rw [← hW2]; exact HX1.out.below xwc.2
  have HL2 : Hid (Lies W2 e) := by unfold Hid; rw [← hW2]; exact HL1.out.below xwc.2
  rw [hW2]
  clear hW2 lx l0 crf hne xwc HB1 HH1 HX1 HL1
  have cx := HX2.out.cell
  have c0 := hcell HH2.out.blk 0
  have lb := HH2.out.lt
  have lxx := HX2.out.lt
  have hcp : Hid (∀ z, Below W2.heap.size W2 z → Calls Tryz.prog 62 #[.agg #[.string e.ct, .slice e.tp e.tn e.tc, .int .i64 e.nu, .int .i64 e.tk, .slice e.cp e.cn e.cc, .string e.cd, .slice e.ap e.an e.ac]] z fun r z' => ∃ a c a' c' a'' c'', r = .returned (.agg #[.string e.ct, .slice a e.tn c, .int .i64 e.nu, .int .i64 e.tk, .slice a' e.cn c', .string e.cd, .slice a'' e.an c'']) ∧ Hid (Own z' W2.heap.size (e.wi a c a' c' a'' c'') ∧ Below W2.heap.size W2 z')) := fun z hz =>
    (copied_any e z (HL2.out.below hz) HR.out.2.2.2.2.1 HR.out.2.2.2.2.2.1 HR.out.2.2.2.2.2.2).mono fun r z' ⟨a, c, a', c', a'', c'', g1, g2, g3⟩ => ⟨a, c, a', c', a'', c'', g1, g2.base hz.size, below_then hz g3⟩
  have hpt : Hid (∀ a c a' c' a'' c'' z, Own z W2.heap.size (e.wi a c a' c' a'' c'') ∧ Below W2.heap.size W2 z → Calls Tryz.prog 42 #[.pointer (some ⟨sb, 0, none⟩), .agg #[.string e.ct, .slice a e.tn c, .int .i64 e.nu, .int .i64 e.tk, .slice a' e.cn c', .string e.cd, .slice a'' e.an c'']] z fun r z' => r = .returned (.tuple #[]) ∧ Hid (∃ a c a' c' a'' c'', BxQ w B b sb M v K R (es ++ [e.wi a c a' c' a'' c'']) z' ∧ Own z' w.heap.size (e.wi a c a' c' a'' c''))) := fun a c a' c' a'' c'' z ⟨hz1, hz⟩ => by
    have hz2 := HH2.out.below hz
    have hBz : B ≤ W2.heap.size := Nat.le_trans HH2.out.lb (Nat.le_of_lt HH2.out.lt)
    refine (put_any hz2.sh (e := e.wi a c a' c' a'' c'') (Nat.le_trans hBz hz.size) HR.out.2.1 HR.out.2.2.1 hk HR.out.2.2.2.1).mono fun r z' ⟨g1, g2⟩ => ⟨g1, a, c, a', c', a'', c'', ?_, ?_⟩
    · refine BxQ.of_below (below_then HB2.out hz) (bxq_of hz2 g2 (HI.out a c a' c' a'' c'') fun y hy => ?_)
      rcases List.mem_append.1 hy with g | g
      · exact hz2.own y g
      · obtain rfl : y = e.wi a c a' c' a'' c'' := by simpa using g
        exact hz1.base hBz
    · obtain ⟨_, _, t2, _⟩ := g2
      exact (hz1.byType t2 hz2.sh.notBytes).base HB2.out.size
  clear HB2 HH2 HX2 HL2 HI HR
  go_wp2_with fail
  go_region_law (first | (go_simp; go_at_call 62; refine (hcp.out _ ?_).mono ?_; (repeat' (first | exact Below.refl _ _ | refine Below.drew ?_)); rintro _ w5 ⟨a5, c5, a6, c6, a7, c7, rfl, hh5⟩; have hc5 := (held_of hh5.out.2).cell; go_wp2_with fail) | (go_simp; go_at_call 42; refine (hpt.out _ _ _ _ _ _ _ ?_).mono ?_; (exact hh5.out); rintro _ w6 ⟨rfl, hh6⟩; go_wp2_with fail))
  all_goals
    go_wp2_with fail
    go_ret
    exact ⟨rfl, hh6⟩
theorem acc_yes (h : Bx w B b sb M v K R es) (e : Ent) (hk : KeyS e.ct) (hl : Lies w e) (hz : accC R es e = 0) : Calls Tryz.prog 54 #[.pointer (some ⟨b, 0, none⟩), .agg #[.string e.ct, .slice e.tp e.tn e.tc, .int .i64 e.nu, .int .i64 e.tk, .slice e.cp e.cn e.cc, .string e.cd, .slice e.ap e.an e.ac]] w fun r w' => r = .returned .nilIface ∧ Hid (∃ a c a' c' a'' c'', BxQ w B b sb M v K R (es ++ [e.wi a c a' c' a'' c'']) w') :=
  (acc_yes2 h e hk hl hz).mono fun r w' ⟨h1, h2⟩ => ⟨h1, by
    obtain ⟨a, c, a', c', a'', c'', h3, _⟩ := h2.out
    exact ⟨a, c, a', c', a'', c'', h3⟩⟩
end
end Go.Proofs.YtjbkfppibnlmoaaGreatDoor

/-
  Decide.
-/
namespace Go.Proofs.YtjbkfppibnlmoaaGreatDoor
open Go.RowKit

/-- Decide's answer. -/
def decC (es : List Ent) (s cd : ByteArray) (n : Nat) : Int :=
  if vdB cd = false then 302 else if 2048 < n then 4 else match fi s es with | none => 11 | some i => if dcB (es.getD i zE) = true then 6 else 0
theorem decC_zero {es : List Ent} {s cd : ByteArray} {n : Nat} (h : decC es s cd n = 0) : vdB cd = true ∧ n ≤ 2048 ∧ ∃ i x, fi s es = some i ∧ es[i]? = some x ∧ opB x = true := by
  unfold decC at h
  split at h
  · cases h
  · rename_i h1
    split at h
    · cases h
    · rename_i h2
      refine ⟨by simpa using h1, by omega, ?_⟩
      cases hf : fi s es with
      | none => rw [hf] at h; cases h
      | some i =>
        rw [hf] at h
        obtain ⟨x, hx, _⟩ := fi_some hf
        simp only at h
        rw [List.getD_eq_getElem?_getD, hx] at h
        simp only [Option.getD_some] at h
        split at h
        · cases h
        · rename_i h3
          exact ⟨i, x, rfl, hx, by unfold opB; unfold dcB at h3; simpa using h3⟩
theorem srt_le {es : List Ent} (h : Srt es) : ∀ (d i : Nat) (x y : Ent), es[i]? = some x → es[i + d]? = some y → x.tk ≤ y.tk
  | 0, i, x, y, hx, hy => by
    rw [Nat.add_zero, hx] at hy
    cases hy
    exact Int.le_refl _
  | d + 1, i, x, y, hx, hy => by
    have hl := (List.getElem?_eq_some_iff.1 hy).1
    obtain ⟨z, hz⟩ : ∃ z, es[i + d]? = some z := ⟨_, List.getElem?_eq_getElem (by omega)⟩
    exact Int.le_trans (srt_le h d i x z hx hz) (h (i + d) z y hz hy)
theorem srt_erase {es : List Ent} (h : Srt es) (k : Nat) : Srt (es.eraseIdx k) := fun i x y hx hy => by
  rw [List.getElem?_eraseIdx] at hx hy
  split at hx <;> split at hy
  · exact h i x y hx hy
  · exact srt_le h 2 i x y hx hy
  · omega
  · exact h (i + 1) x y hx hy
theorem srt_set {es : List Ent} (h : Srt es) {i : Nat} {x y : Ent} (hx : es[i]? = some x) (hy : y.tk = x.tk) : Srt (es.set i y) := fun j p q hp hq => by
  have key : ∀ (a : Nat) (p : Ent), (es.set i y)[a]? = some p → ∃ p' : Ent, es[a]? = some p' ∧ p'.tk = p.tk := fun a p hp => by
    by_cases ha : i = a
    · subst ha
      rw [List.getElem?_set_self (List.getElem?_eq_some_iff.1 hx).1] at hp
      cases hp
      exact ⟨x, hx, hy.symm⟩
    · rw [List.getElem?_set_ne ha] at hp
      exact ⟨p, hp, rfl⟩
  obtain ⟨p', h1, h2⟩ := key j p hp
  obtain ⟨q', g1, g2⟩ := key (j + 1) q hq
  rw [← h2, ← g2]
  exact h j p' q' h1 g1
theorem inv_shed {K R : Int} {es : List Ent} (h : Inv K R es) {i : Nat} {x y : Ent} (hx : es[i]? = some x) (ho : opB x = true) (hd : opB y = false) (ht : y.tk = x.tk) : Inv K R (shedS K (es.set i y)) := by
  have h1 := nOp_set hx ho hd
  have h2 := nOp_add es
  have h3 := nOp_add (es.set i y)
  rw [List.length_set] at h3
  have h4 := h.op
  have h5 := h.dc
  have h6 := srt_set h.srt hx ht
  unfold shedS
  cases hm : manyB K (es.set i y) with
  | false =>
    unfold manyB at hm
    have hm := of_decide_eq_false hm
    exact ⟨h.k1, h.k2, h.r1, h.r2, by simp; omega, by simp; omega, by simpa using h6⟩
  | true =>
    obtain ⟨j, z, hf, hz, hdz⟩ := many_fd (by have := h.k1; omega) hm
    rw [hf]
    have hn := nOp_erase hz hdz
    have h7 := nOp_add ((es.set i y).eraseIdx j)
    have hjl := (List.getElem?_eq_some_iff.1 hz).1
    rw [List.length_eraseIdx, if_pos hjl, List.length_set] at h7
    rw [List.length_set] at hjl
    exact ⟨h.k1, h.k2, h.r1, h.r2, by simp; omega, by simp; omega, by simpa using srt_erase h6 j⟩
theorem mem_shed {K : Int} {es : List Ent} {e : Ent} (h : e ∈ shedS K es) : e ∈ es := by
  unfold shedS at h
  split at h
  · split at h
    · exact List.mem_of_mem_eraseIdx h
    · exact h
  · exact h
section
variable {w w' : World} {B b sb M : Nat} {v : Value} {K R : Int} {es : List Ent}
set_option maxRecDepth 100000 in
set_option maxHeartbeats 4000000 in
theorem dec_no (h : Bx w B b sb M v K R es) {s cd : ByteArray} {p : Option Addr} {n c : Nat} (hk : KeyS s) (hn : n ≤ 9223372036854775807) {z : Int} (hz : decC es s cd n = z) (h0 : z ≠ 0) : Calls Tryz.prog 56 #[.pointer (some ⟨b, 0, none⟩), .string s, .string cd, .slice p n c] w fun r w' => ∃ ev, r = .returned (.tuple #[.slice none 0 0, .iface 94 (.pointer (some ⟨ev, 0, none⟩))]) ∧ IFault w' ev 0 z ∧ w.heap.size ≤ ev ∧ Below w.heap.size w w' := by
  have hmk := made_yes h
  have hvd := isVerdict_any cd w
  have c0 := hcell h.blk 0
  have k2 := h.sh.cells.2.2.1
  have k3 := h.sh.cells.2.2.2.1
  cases hv : vdB cd with
  | false =>
    rw [hv] at hvd
    obtain rfl : 302 = z := by rw [← hz]; unfold decC; rw [hv]; rfl
    have hft := fault_any 0 302 w
    clear hv hz h0 h c0 k2 k3
    go_enter Tryz.func56, Tryz.ntmps56
    go_wp2_with (first | (go_at_call 60; refine hmk.mono ?_; rintro _ w9 ⟨rfl, h9⟩; subst w9) | (go_at_call 81; refine hvd.mono ?_; rintro _ w9 ⟨rfl, h9⟩; subst w9))
    refine hft.mono ?_
    rintro _ w2 ⟨rfl, hf2, hb2⟩
    have HF : Hid (IFault w2 w.heap.size 0 302 ∧ Below w.heap.size w w2) := ⟨hf2, hb2⟩
    clear hft hb2 hf2 hmk hvd
    go_wp2_with fail
    go_ret2
    exact ⟨w.heap.size, rfl, HF.out.1, Nat.le_refl _, HF.out.2⟩
  | true =>
    rw [hv] at hvd
    by_cases hl : 2048 < n
    · obtain rfl : 4 = z := by rw [← hz]; unfold decC; rw [hv, if_pos hl]; rfl
      have hft := fault_any 0 4 w
      have q1 : (n : Int) > 2048 := by omega
      clear hv hz h0 h c0 k2 k3 hl
      go_enter Tryz.func56, Tryz.ntmps56
      go_wp2_with (first | (go_at_call 60; refine hmk.mono ?_; rintro _ w9 ⟨rfl, h9⟩; subst w9) | (go_at_call 81; refine hvd.mono ?_; rintro _ w9 ⟨rfl, h9⟩; subst w9))
      refine hft.mono ?_
      rintro _ w2 ⟨rfl, hf2, hb2⟩
      have HF : Hid (IFault w2 w.heap.size 0 4 ∧ Below w.heap.size w w2) := ⟨hf2, hb2⟩
      clear hft hb2 hf2 hmk hvd
      go_wp2_with fail
      go_ret2
      exact ⟨w.heap.size, rfl, HF.out.1, Nat.le_refl _, HF.out.2⟩
    · have q1 : ¬ (n : Int) > 2048 := by omega
      cases hf : fi s es with
      | none =>
        have hlk := h.sh.map.look_no hk hf
        obtain rfl : 11 = z := by rw [← hz]; unfold decC; rw [hv, if_neg hl, hf]; rfl
        have hft := fault_any 0 11 w
        clear hv hz h0 h hl hf
        go_enter Tryz.func56, Tryz.ntmps56
        go_wp2_with (first | (go_at_call 60; refine hmk.mono ?_; rintro _ w9 ⟨rfl, h9⟩; subst w9) | (go_at_call 81; refine hvd.mono ?_; rintro _ w9 ⟨rfl, h9⟩; subst w9))
        refine hft.mono ?_
        rintro _ w2 ⟨rfl, hf2, hb2⟩
        have HF : Hid (IFault w2 w.heap.size 0 11 ∧ Below w.heap.size w w2) := ⟨hf2, hb2⟩
        clear hft hb2 hf2 hmk hvd hlk
        go_wp2_with fail
        go_ret2
        exact ⟨w.heap.size, rfl, HF.out.1, Nat.le_refl _, HF.out.2⟩
      | some i =>
        have hlk := h.sh.map.look_yes hk hf
        obtain ⟨x, hx, _⟩ := fi_some hf
        have hil := (List.getElem?_eq_some_iff.1 hx).1
        have hdx : dcB x = true ∧ z = 6 := by
          rw [← hz]
          unfold decC
          rw [hv, if_neg hl, hf]
          simp only [List.getD_eq_getElem?_getD, hx, Option.getD_some]
          cases hd : dcB x with
          | true => exact ⟨rfl, rfl⟩
          | false =>
            exfalso
            apply h0
            rw [← hz]
            unfold decC
            rw [hv, if_neg hl, hf]
            simp only [List.getD_eq_getElem?_getD, hx, Option.getD_some, hd]
            rfl
        obtain ⟨hd, rfl⟩ := hdx
        obtain ⟨a, cc, hvv, _⟩ := h.sh.row.isSlice
        obtain ⟨m, hm⟩ : ∃ m, es.length = m := ⟨_, rfl⟩
        have hrow := h.sh.row
        rw [hvv, hm] at hrow k2
        rw [hm] at hil
        obtain ⟨g, rfl, hg, hc⟩ := nrow_cells hrow hx
        obtain ⟨d0, d1, d2, d3, d4, d5, d6⟩ := hc
        have q2 : (i : Int) < m := by omega
        have hdc := isDecided_any x w
        rw [hd] at hdc
        clear hv hz h0 h hl hf hx hd hvv hm hrow hg
        go_enter Tryz.func56, Tryz.ntmps56
        go_wp2_with (first | (go_at_call 60; refine hmk.mono ?_; rintro _ w9 ⟨rfl, h9⟩; subst w9) | (go_at_call 81; refine hvd.mono ?_; rintro _ w9 ⟨rfl, h9⟩; subst w9))
        refine hdc.mono ?_
        rintro _ w1 ⟨rfl, hb1⟩
        have HB1 : Hid (Below w.heap.size w w1) := hb1
        have hft := fault_any 0 6 w1
        clear hdc hb1 d0 d1 d2 d3 d4 d5 d6 c0 k2 k3 hlk hmk hvd
        go_wp2_with fail
        refine hft.mono ?_
        rintro _ w2 ⟨rfl, hf2, hb2⟩
        have HF : Hid (IFault w2 w1.heap.size 0 6 ∧ Below w.heap.size w w2) := ⟨hf2, below_then HB1.out hb2⟩
        clear hft hb2 hf2
        go_wp2_with fail
        go_ret2
        exact ⟨w1.heap.size, rfl, HF.out.1, HB1.out.size, HF.out.2⟩
/-- What a Decide that is done tells and leaves: the place i, the entry x. -/
def DcQ (w : World) (B b sb M : Nat) (v : Value) (K R : Int) (es : List Ent) (i : Nat) (x : Ent) (cd : ByteArray) (n : Nat) (bs : List Int) (u : Value) (w' : World) : Prop :=
  ∃ p c, TRow w' w.heap.size u (goneS K (es.set i (x.vd cd p n c bs))) ∧ BxQ w B b sb M v K R (shedS K (es.set i (x.vd cd p n c bs))) w'
/-- The same; the answer lies in memory of its own. -/
def DcQ2 (w : World) (B b sb M : Nat) (v : Value) (K R : Int) (es : List Ent) (i : Nat) (x : Ent) (cd : ByteArray) (n : Nat) (bs : List Int) (u : Value) (w' : World) : Prop :=
  ∃ p c, TRow w' w.heap.size u (goneS K (es.set i (x.vd cd p n c bs))) ∧ BxQ w B b sb M v K R (shedS K (es.set i (x.vd cd p n c bs))) w' ∧ BRow w' w.heap.size (.slice p n c) bs
set_option maxRecDepth 100000 in
set_option maxHeartbeats 4000000 in
theorem dec_yes2 (h : Bx w B b sb M v K R es) {s cd : ByteArray} {po : Option Addr} {n co i : Nat} {bs : List Int} {x : Ent} (hk : KeyS s) (hb : Byts w po n bs) (hv : vdB cd = true) (hn : n ≤ 2048) (hf : fi s es = some i) (hx : es[i]? = some x) (ho : opB x = true) : Calls Tryz.prog 56 #[.pointer (some ⟨b, 0, none⟩), .string s, .string cd, .slice po n co] w fun r w' => ∃ u, r = .returned (.tuple #[u, .nilIface]) ∧ Hid (DcQ2 w B b sb M v K R es i x cd n bs u w') := by
  have hmk := made_yes h
  have hvd := isVerdict_any cd w
  rw [hv] at hvd
  have c0 := hcell h.blk 0
  have k2 := h.sh.cells.2.2.1
  have k3 := h.sh.cells.2.2.2.1
  have q1 : ¬ (n : Int) > 2048 := by omega
  have hlk := h.sh.map.look_yes hk hf
  have hil := (List.getElem?_eq_some_iff.1 hx).1
  obtain ⟨a, cc, hvv, _⟩ := h.sh.row.isSlice
  obtain ⟨m, hm⟩ : ∃ m, es.length = m := ⟨_, rfl⟩
  have hrow := h.sh.row
  rw [hvv, hm] at hrow k2
  rw [hm] at hil
  obtain ⟨g, rfl, hg, hc⟩ := nrow_cells hrow hx
  obtain ⟨d0, d1, d2, d3, d4, d5, d6⟩ := hc
  have q2 : (i : Int) < m := by omega
  have hdc := isDecided_any x w
  rw [show dcB x = false by unfold opB at ho; unfold dcB; simpa using ho] at hdc
  have HH : Hid (Bx w B b sb M v K R es) := h
  have HA : Hid (Byts w po n bs ∧ vdB cd = true ∧ n ≤ 2048 ∧ es[i]? = some x ∧ opB x = true) := ⟨hb, hv, hn, hx, ho⟩
  clear h hb hv hf hx ho hvv hm hrow hg
  go_enter Tryz.func56, Tryz.ntmps56
  go_wp2_with (first | (go_at_call 60; refine hmk.mono ?_; rintro _ w9 ⟨rfl, h9⟩; subst w9) | (go_at_call 81; refine hvd.mono ?_; rintro _ w9 ⟨rfl, h9⟩; subst w9))
  refine hdc.mono ?_
  rintro _ w1 ⟨rfl, hb1⟩
  have HB1 : Hid (Below w.heap.size w w1) := hb1
  have HH1 : Hid (Bx w1 B b sb M v K R es) := HH.out.below hb1
  have c01 := hcell HH1.out.blk 0
  have lb := HH1.out.lt
  have hfr : Hid (∀ z, Below w1.heap.size w1 z → Calls Tryz.prog 83 #[.slice po n co] z fun r z' => ∃ a k, r = .returned (.slice a n k) ∧ Hid (BRow z' w1.heap.size (.slice a n k) bs ∧ Below w1.heap.size w1 z')) := fun z hz =>
    (fresh_any z ((HA.out.1.below HB1.out).below hz) (by have := HA.out.2.2.1; omega)).mono fun r z' ⟨a, k, g1, g2, g3⟩ => ⟨a, k, g1, ERow.base g2 hz.size, below_then hz g3⟩
  have hde : Hid (∀ a k z, BRow z w1.heap.size (.slice a n k) bs ∧ Below w1.heap.size w1 z → Calls Tryz.prog 82 #[.pointer (some ⟨sb, 0, none⟩), .int .i64 (i : Int), .string cd, .slice a n k] z fun r z' => r = .returned (.tuple #[]) ∧ Hid (∃ v', Shf z' B sb M v' K R (es.set i (x.vd cd a n k bs)) ∧ (∀ e ∈ es.set i (x.vd cd a n k bs), Own z' B e) ∧ z'.heap[b]? = some (.cells #[.pointer (some ⟨sb, 0, none⟩)] 91 (0, 0)) ∧ Off (Ft sb M v) w z' ∧ (∀ q, v'.ownBlock = some q → v.ownBlock = some q ∨ w.heap.size ≤ q) ∧ (∀ q, w.heap.size ≤ q → ¬ Ft sb M v q) ∧ BRow z' w.heap.size (.slice a n k) bs)) := fun a k z ⟨hr, hz⟩ => by
    have hz2 := HH1.out.below hz
    refine (sdecide_any (bs := bs) hz2.sh HA.out.2.2.2.1 HA.out.2.2.2.2 HA.out.2.1 HA.out.2.2.1).mono fun r z' ⟨g1, g2⟩ => ⟨g1, ?_⟩
    obtain ⟨v', s1, s2, s3⟩ := g2.of_below (below_then HB1.out hz)
    obtain ⟨v'', t1, t2, t3⟩ := g2
    have hB : B ≤ w1.heap.size := Nat.le_trans HH1.out.lb (Nat.le_of_lt HH1.out.lt)
    refine ⟨v', s1, fun e he => ?_, (t2.block b hz2.lt hz2.nb).trans hz2.blk, s2, s3, fun q hq hF => ?_, ?_⟩
    · refine Own.byType (w := z) ?_ t2 hz2.sh.notBytes
      rcases List.mem_or_eq_of_mem_set he with g | rfl
      · exact hz2.own e g
      · have hx := hz2.own x (List.mem_of_getElem? HA.out.2.2.2.1)
        exact ⟨hx.t, hx.c, ERow.base hr hB⟩
    · rcases hF with rfl | rfl | hF
      · have := HH.out.sh.lt; omega
      · have := HH.out.sh.map.lt; omega
      · have := (HH.out.sh.row.lt hF).2; omega
    · have ho' : Own z w1.heap.size (zE.vd cd a n k bs) := ⟨ERow.nil _ _ _ _ _, ERow.nil _ _ _ _ _, hr⟩
      exact ERow.base (ho'.byType t2 hz2.sh.notBytes).a HB1.out.size
  clear hdc hb1 d0 d1 d2 d3 d4 d5 d6 c0 k2 k3 hlk hmk hvd q2 hil
  go_wp2_with fail
  go_region_law (first | (go_simp; go_at_call 83; refine (hfr.out _ ?_).mono ?_; (repeat' (first | exact Below.refl _ _ | refine Below.drew ?_)); rintro _ w5 ⟨a5, c5, rfl, hh5⟩; have hc5 := (held_of hh5.out.2).cell; go_wp2_with fail) | (go_simp; go_at_call 82; refine (hde.out _ _ _ ?_).mono ?_; (exact hh5.out); rintro _ w6 ⟨rfl, hh6⟩; go_wp2_with fail))
  all_goals
    obtain ⟨v', s1, s2, s3, s4, s5, s6, s7⟩ := hh6.out
    have c06 := hcell s3 0
    have hsd := shed_any s1 (by have := HH.out.inv.k1; have := HH.out.inv.k2; omega)
    have HZ : Hid (∀ r w7, ShdQ w6 B sb M v' K R (es.set i (x.vd cd a5 n c5 bs)) r w7 → ∃ u, r = .returned u ∧ DcQ2 w B b sb M v K R es i x cd n bs u w7) := fun r w7 ⟨u, t1, t2, v7, t3, t4, t5⟩ => by
      refine ⟨u, t1, a5, c5, ERow.base t2 s4.size, ⟨v7, ⟨?_, t3, fun e he => ?_, HH.out.lb, HH.out.ls, HH.out.lm, ?_⟩, ?_, fun q hq => ?_⟩, ?_⟩
      · refine (t4.block b (blk_lt s3) ?_).trans s3
        rintro (g | g | g)
        · exact HH.out.nb (Or.inl g)
        · exact HH.out.nb (Or.inr (Or.inl g))
        · obtain ⟨cs, g2⟩ := row_type s1.row g
          rw [s3] at g2
          simp at g2
      · exact (s2 e (mem_shed he)).byType t4 s1.notBytes
      · have hmv := may_vd (HH.out.sh.ok x (List.mem_of_getElem? HA.out.2.2.2.1)) a5 c5 bs HA.out.2.1 HA.out.2.2.1
        exact inv_shed HH.out.inv HA.out.2.2.2.1 HA.out.2.2.2.2 hmv.2 rfl
      · refine s4.join t4 fun q hq hF => ?_
        rcases hF with g | g | g
        · exact Or.inl g
        · exact Or.inr (Or.inl g)
        · rcases s5 q g with g2 | g2
          · exact Or.inr (Or.inr g2)
          · omega
      · rcases t5 q hq with g | g
        · exact s5 q g
        · exact Or.inr (Nat.le_trans s4.size g)
      · have ho' : Own w6 w.heap.size (zE.vd cd a5 n c5 bs) := ⟨ERow.nil _ _ _ _ _, ERow.nil _ _ _ _ _, s7⟩
        exact (ho'.byType t4 s1.notBytes).a
    clear hh5 hh6 s1 s2 s3 s4 s5 s6 s7 hfr hde HH1 HB1 c01 hc5
    go_wp2_with fail
    refine hsd.mono ?_
    rintro rr w7 hq
    obtain ⟨u, rfl, h7⟩ := HZ.out rr w7 hq
    have H7 : Hid (DcQ2 w B b sb M v K R es i x cd n bs u w7) := h7
    clear hsd hq h7 c06 HZ
    go_wp2_with fail
    go_ret2
    exact ⟨u, rfl, H7⟩
theorem dec_yes (h : Bx w B b sb M v K R es) {s cd : ByteArray} {po : Option Addr} {n co i : Nat} {bs : List Int} {x : Ent} (hk : KeyS s) (hb : Byts w po n bs) (hv : vdB cd = true) (hn : n ≤ 2048) (hf : fi s es = some i) (hx : es[i]? = some x) (ho : opB x = true) : Calls Tryz.prog 56 #[.pointer (some ⟨b, 0, none⟩), .string s, .string cd, .slice po n co] w fun r w' => ∃ u, r = .returned (.tuple #[u, .nilIface]) ∧ Hid (DcQ w B b sb M v K R es i x cd n bs u w') :=
  (dec_yes2 h hk hb hv hn hf hx ho).mono fun r w' ⟨u, h1, h2⟩ => ⟨u, h1, by
    obtain ⟨p, c, t1, t2, _⟩ := h2.out
    exact ⟨p, c, t1, t2⟩⟩
end
end Go.Proofs.YtjbkfppibnlmoaaGreatDoor
