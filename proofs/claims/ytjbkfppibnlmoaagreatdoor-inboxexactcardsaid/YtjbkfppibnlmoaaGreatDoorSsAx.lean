import Derived.Test.YtjbkfppibnlmoaaGreatDoorSsUp
/-
  The strong pair: Accept and Decide of either box.
-/
namespace Go.Proofs.YtjbkfppibnlmoaaGreatDoor
open Go.RowKit

section
variable {W w w' : World} {X K n m : Nat} {bv mk ke rm L : Value} {o : Option (Int × Int)} {A A' : List Ent} {τ : Nat → Nat}
theorem newTy_refl (h : SS W X K bv mk ke rm L o A A' τ n m w) : NewTy τ w w' := fun q hq => Or.inl (h.new q hq)
theorem u_acc_s (h : SS W X K bv mk ke rm L o A A' τ n m w) (e e0 : Ent) (he : Tw e e0) (hk : KeyS e.ct) (hl : Lies w e) : Calls Tryz.prog 54 #[bv, .agg #[.string e.ct, .slice e.tp e.tn e.tc, .int .i64 e.nu, .int .i64 e.tk, .slice e.cp e.cn e.cc, .string e.cd, .slice e.ap e.an e.ac]] w fun r w' => ∃ ev, r = .returned ev ∧ Hid (∃ τ', SS W X K bv mk ke rm L o (accSo o A e0) A' τ' n m w' ∧ XF τ τ' w w' ∧ EvK τ' w' w.heap.size ev (accCo o A e0)) := by
  rcases o with _ | ⟨K0, R⟩
  · have hun := h.s4
    obtain ⟨rfl, h2, h3, h4, h5, h6, h7⟩ := hun
    refine (accept_un (Or.inl rfl) e).mono fun r w' ⟨b, hr, hf⟩ => ⟨_, hr, ?_⟩
    obtain ⟨f1, f2, f3⟩ := hf.out
    exact ⟨τ, h.below f3, XF.of_below f3, Or.inr ⟨Or.inr ⟨by show (3 : Int) ≠ 0; decide, b, rfl, f2, f1⟩, h.new⟩⟩
  · obtain ⟨rfl, rfl, rfl, b, sb, M, v, es, es', hbv, hs, hf⟩ := h.s4
    have hz : accC R es e = accC R A e0 := hs.t.acc_eq he
    by_cases h0 : accC R A e0 = 0
    · rw [hbv]
      refine (acc_yes2 hs.bx e hk hl (hz.trans h0)).mono fun r w' ⟨hr, hq⟩ => ⟨_, hr, ?_⟩
      obtain ⟨a, c, a', c', a'', c'', hb, hw⟩ := hq.out
      have ht : Tws (es ++ [e.wi a c a' c' a'' c'']) (accS R A e0) := by
        unfold accS
        rw [if_pos h0]
        exact hs.t.snoc (Tw.trans (Tw.symm ⟨a, c, a', c', a'', c'', rfl⟩) he)
      obtain ⟨τ', g1, g2, g3⟩ := h.up hbv hs hf hb ht fun e hm q hq => blk_snoc hw hm hq (Nat.le_refl _)
      rw [hbv] at g1
      exact ⟨τ', g1, g2, Or.inl ⟨rfl, h0⟩⟩
    · rw [hbv]
      refine (acc_no hs.bx e hk hz h0).mono fun r w' ⟨ev, hr, hf', hle, hb⟩ => ⟨_, hr, ?_⟩
      have e1 : accSo (some (K0, R)) A e0 = A := by
        show accS R A e0 = A
        unfold accS
        rw [if_neg h0]
      have h9 := h.below hb
      rw [hbv] at h9
      rw [e1]
      exact ⟨τ, h9, XF.of_below hb, Or.inr ⟨Or.inr ⟨h0, ev, rfl, hle, hf'⟩, h.new⟩⟩
theorem r_acc_s (h : SS W X K bv mk ke rm L o A A' τ n m w) (e e0 : Ent) (he : Tw e e0) (hl : Lies w e) : Calls Tryz.prog 55 #[.pointer (some ⟨X, 1, none⟩), .agg #[.string e.ct, .slice e.tp e.tn e.tc, .int .i64 e.nu, .int .i64 e.tk, .slice e.cp e.cn e.cc, .string e.cd, .slice e.ap e.an e.ac]] w fun r w' => r = .returned (.int .i64 (accCo o A' e0)) ∧ Hid (∃ L' τ', SS W X K bv mk ke rm L' o A (accSo o A' e0) τ' n m w' ∧ XF τ τ' w w') := by
  rcases o with _ | ⟨K0, R⟩
  · obtain ⟨h1, rfl, h3, h4, h5, h6, h7⟩ := h.s4
    refine (racc0 h.cells.2.1 e).mono fun r w' ⟨hr, hb⟩ => ⟨hr, L, τ, h.below hb, XF.of_below hb⟩
  · obtain ⟨rfl, rfl, rfl, b, sb, M, v, es, es', hbv, hs, hf⟩ := h.s4
    obtain ⟨v5, v6, v7, hX⟩ := h.sx.ex
    have hz : accC R es' e = accC R A' e0 := hs.t'.acc_eq he
    refine (racc_any (hs.rbx hX) ⟨_, _, _, hX, by decide, by decide⟩ h.bel.size e hl).mono fun r w' ⟨hr, hq⟩ => ⟨by rw [hr, hz]; rfl, ?_⟩
    rw [hz] at hq
    rcases hq.out with ⟨h0, hb⟩ | ⟨h0, a, c, a', c', a'', c'', hb, hw⟩
    · have e1 : accSo (some (K0, R)) A' e0 = A' := by
        show accS R A' e0 = A'
        unfold accS
        rw [if_neg h0]
      rw [e1]
      exact ⟨L, τ, h.below hb, XF.of_below hb⟩
    · have ht : Tws (es' ++ [e.wi a c a' c' a'' c'']) (accS R A' e0) := by
        unfold accS
        rw [if_pos h0]
        exact hs.t'.snoc (Tw.trans (Tw.symm ⟨a, c, a', c', a'', c'', rfl⟩) he)
      obtain ⟨L', τ', g1, g2, _⟩ := h.dn hbv hs hf hb ht fun e hm q hq => blk_snoc hw hm hq (Nat.le_refl _)
      exact ⟨L', τ', g1, g2⟩
theorem u_dec_s (h : SS W X K bv mk ke rm L o A A' τ n m w) {s cd : ByteArray} {po : Option Addr} {k co : Nat} {bs : List Int} (hk : KeyS s) (hb : Byts w po k bs) (hm : k ≤ 9223372036854775807) : Calls Tryz.prog 56 #[bv, .string s, .string cd, .slice po k co] w fun r w' => ∃ a q c ev, r = .returned (.tuple #[.slice a q c, ev]) ∧ Hid (∃ τ', SS W X K bv mk ke rm L o (dcSo o A s cd k bs) A' τ' n m w' ∧ XF τ τ' w w' ∧ EvK τ' w' w.heap.size ev (decCo o A s cd k) ∧ TRow w' w.heap.size (.slice a q c) (gnSo o A s cd k bs) ∧ ∀ b, (Value.slice a q c).ownBlock = some b → τ' b = 0) := by
  rcases o with _ | ⟨K0, R⟩
  · obtain ⟨rfl, h2, h3, h4, h5, h6, h7⟩ := h.s4
    refine (decide_un (Or.inl rfl) s cd po k co).mono fun r w' ⟨hr, hf⟩ => ⟨none, 0, 0, _, hr, ?_⟩
    obtain ⟨f1, f3⟩ := hf.out
    exact ⟨τ, h.below f3, XF.of_below f3, Or.inr ⟨Or.inr ⟨by show (3 : Int) ≠ 0; decide, _, rfl, Nat.le_refl _, f1⟩, h.new⟩, ERow.nil _ _ _ _ _, fun b e => (by cases e)⟩
  · obtain ⟨rfl, rfl, rfl, b, sb, M, v, es, es', hbv, hs, hf4⟩ := h.s4
    have hz : decC es s cd k = decC A s cd k := hs.t.dec_eq
    by_cases h0 : decC A s cd k = 0
    · obtain ⟨hv, hn2, i, x, hf, hx, ho⟩ := decC_zero (hz.trans h0)
      obtain ⟨y, hy, hxy⟩ := hs.t.at_ hx
      have hfA : fi s A = some i := by rw [← hs.t.fi_eq]; exact hf
      have hgD : A.getD i zE = y := by rw [List.getD_eq_getElem?_getD, hy]; rfl
      rw [hbv]
      refine (dec_yes2 hs.bx hk hb hv hn2 hf hx ho).mono ?_
      rintro r w' ⟨u, hr, hq⟩
      obtain ⟨p, c, hT, hB, hR⟩ := hq.out
      have hts : Tws (es.set i (x.vd cd p k c bs)) (A.set i (y.vd cd none k 0 bs)) := hs.t.set (hxy.vd cd p k c bs none 0) i
      have e1 : dcS K0 A s cd k bs = shedS K0 (A.set i (y.vd cd none k 0 bs)) := by unfold dcS; rw [if_pos h0, hfA]; simp only [hgD]
      have e2 : gnS K0 A s cd k bs = goneS K0 (A.set i (y.vd cd none k 0 bs)) := by unfold gnS; rw [if_pos h0, hfA]; simp only [hgD]
      rw [hts.gone] at hT
      obtain ⟨a, c2, e3, _⟩ := ERow.isSlice hT
      subst e3
      obtain ⟨τ', g1, g2, g3⟩ := h.up hbv hs hf4 hB hts.shed fun e he q hq => blk_vd hx hR he hq
      rw [hbv] at g1
      show ∃ a q c ev, _ = Ending.returned (.tuple #[.slice a q c, ev]) ∧ Hid (∃ τ', SS W X K _ _ _ _ L _ (dcS K0 A s cd k bs) A' τ' n m w' ∧ XF τ τ' w w' ∧ EvK τ' w' w.heap.size ev (decC A s cd k) ∧ TRow w' w.heap.size (.slice a q c) (gnS K0 A s cd k bs) ∧ _)
      rw [e1, e2]
      refine ⟨a, _, c2, .nilIface, hr, τ', g1, g2, Or.inl ⟨rfl, h0⟩, hT, fun b hb' => ?_⟩
      rcases g3 b (ERow.lt hT hb').1 with z | ⟨t, z, z2⟩
      · exact z
      · have hty : Ty w' b 9 := erow_type hT hb'
        rcases z2 with rfl | rfl
        · exact absurd rfl (z.ne hty (by decide))
        · exact absurd rfl (z.ne hty (by decide))
    · rw [hbv]
      refine (dec_no hs.bx hk hm hz h0).mono ?_
      rintro r w' ⟨ev, hr, hf, hle, hb'⟩
      have e1 : dcS K0 A s cd k bs = A := by unfold dcS; rw [if_neg h0]
      have e2 : gnS K0 A s cd k bs = [] := by unfold gnS; rw [if_neg h0]
      have h9 := h.below hb'
      rw [hbv] at h9
      show ∃ a q c ev, _ = Ending.returned (.tuple #[.slice a q c, ev]) ∧ Hid (∃ τ', SS W X K _ _ _ _ L _ (dcS K0 A s cd k bs) A' τ' n m w' ∧ XF τ τ' w w' ∧ EvK τ' w' w.heap.size ev (decC A s cd k) ∧ TRow w' w.heap.size (.slice a q c) (gnS K0 A s cd k bs) ∧ _)
      rw [e1, e2]
      exact ⟨none, 0, 0, _, hr, τ, h9, XF.of_below hb', Or.inr ⟨Or.inr ⟨h0, ev, rfl, hle, hf⟩, h.new⟩, ERow.nil _ _ _ _ _, fun b e => (by cases e)⟩
theorem r_dec_s (h : SS W X K bv mk ke rm L o A A' τ n m w) {s cd : ByteArray} {po : Option Addr} {k co : Nat} {bs : List Int} (hb : Byts w po k bs) (hpB : ∀ b of_, po = some ⟨b, of_, none⟩ → 0 < k → b < W.heap.size) : Calls Tryz.prog 57 #[.pointer (some ⟨X, 1, none⟩), .string s, .string cd, .slice po k co] w fun r w' => ∃ a q c, r = .returned (.tuple #[.slice a q c, .int .i64 (decCo o A' s cd k)]) ∧ Hid (∃ L' τ', SS W X K bv mk ke rm L' o A (dcSo o A' s cd k bs) τ' n m w' ∧ TRow w' w.heap.size (.slice a q c) (gnSo o A' s cd k bs) ∧ XF τ τ' w w') := by
  rcases o with _ | ⟨K0, R⟩
  · obtain ⟨h1, rfl, h3, h4, h5, h6, h7⟩ := h.s4
    refine (rdec0 h.cells.2.1 s cd po k co).mono fun r w' ⟨hr, hw⟩ => ⟨none, 0, 0, hr, L, τ, ?_⟩
    subst hw
    exact ⟨h, ERow.nil _ _ _ _ _, XF.refl _ _⟩
  · obtain ⟨rfl, rfl, rfl, b, sb, M, v, es, es', hbv, hs, hf4⟩ := h.s4
    obtain ⟨v5, v6, v7, hX⟩ := h.sx.ex
    have hrb := hs.rbx hX
    have hz : decC es' s cd k = decC A' s cd k := hs.t'.dec_eq
    show Calls _ _ _ _ fun r w' => ∃ a q c, r = .returned (.tuple #[.slice a q c, .int .i64 (decC A' s cd k)]) ∧ Hid (∃ L' τ', SS W X K _ _ _ _ L' _ A (dcS K0 A' s cd k bs) τ' n m w' ∧ TRow w' w.heap.size (.slice a q c) (gnS K0 A' s cd k bs) ∧ _)
    by_cases h0 : decC A' s cd k = 0
    · obtain ⟨hv, hn2, i, x, hf, hx, ho⟩ := decC_zero (hz.trans h0)
      obtain ⟨y, hy, hxy⟩ := hs.t'.at_ hx
      have hfA : fi s A' = some i := by rw [← hs.t'.fi_eq]; exact hf
      have hgD : A'.getD i zE = y := by rw [List.getD_eq_getElem?_getD, hy]; rfl
      have e1 : dcS K0 A' s cd k bs = shedS K0 (A'.set i (y.vd cd none k 0 bs)) := by unfold dcS; rw [if_pos h0, hfA]; simp only [hgD]
      have e2 : gnS K0 A' s cd k bs = goneS K0 (A'.set i (y.vd cd none k 0 bs)) := by unfold gnS; rw [if_pos h0, hfA]; simp only [hgD]
      have hT0 : Tws (es'.set i (x.vd cd none k 0 bs)) (A'.set i (y.vd cd none k 0 bs)) := hs.t'.set (hxy.vd cd none k 0 bs none 0) i
      have hTa : ∀ a c, Tws (es'.set i (x.vd cd a k c bs)) (es'.set i (x.vd cd none k 0 bs)) := fun a c => (Tws.refl es').set ((Tw.refl x).vd cd a k c bs none 0) i
      have hiv : ∀ a c, Inv K0 R (shedS K0 (es'.set i (x.vd cd a k c bs))) := fun a c => inv_shed hs.inv hx ho (opB_vd hv x a k c bs) rfl
      rw [e1, e2, h0]
      cases hmm : manyB K0 (es'.set i (x.vd cd none k 0 bs)) with
      | false =>
        have hm : ∀ a c, manyB K0 (es'.set i (x.vd cd a k c bs)) = false := fun a c => (many_tws (hTa a c)).trans hmm
        have hsd : ∀ a c, shedS K0 (es'.set i (x.vd cd a k c bs)) = es'.set i (x.vd cd a k c bs) := fun a c => by unfold shedS; rw [hm a c]; rfl
        have hgn : goneS K0 (A'.set i (y.vd cd none k 0 bs)) = [] := by rw [← hT0.gone]; unfold goneS; rw [hmm]; rfl
        refine (rdec_stay hrb ⟨_, _, _, hX, by decide, by decide⟩ h.bel.size s cd po k co bs hb hpB hv hn2 hf hx ho hm fun a c => by rw [← hsd a c]; exact hiv a c).mono ?_
        rintro r w' ⟨hr, hq⟩
        obtain ⟨a, c, hB, hR⟩ := hq.out
        have ht : Tws (es'.set i (x.vd cd a k c bs)) (shedS K0 (A'.set i (y.vd cd none k 0 bs))) := by
          rw [← hsd a c]
          exact ((hTa a c).trans hT0).shed
        obtain ⟨L', τ', g1, g2, _⟩ := h.dn hbv hs hf4 hB ht fun e he q hq => blk_vd (K := K0) hx hR (by rw [hsd a c]; exact he) hq
        exact ⟨none, 0, 0, hr, L', τ', g1, by rw [hgn]; exact ERow.nil _ _ _ _ _, g2⟩
      | true =>
        have hm : ∀ a c, manyB K0 (es'.set i (x.vd cd a k c bs)) = true := fun a c => (many_tws (hTa a c)).trans hmm
        obtain ⟨f, z, hfd, hzf, _⟩ := many_fd (by have := hs.inv.k1; omega) hmm
        have hgn : goneS K0 (A'.set i (y.vd cd none k 0 bs)) = [z.ct] := by
          rw [← hT0.gone]
          unfold goneS
          rw [hmm, hfd, if_pos rfl]
          simp only [List.getD_eq_getElem?_getD, hzf, Option.getD_some]
        refine (rdec_shed hrb ⟨_, _, _, hX, by decide, by decide⟩ h.bel.size s cd po k co bs hb hpB hv hn2 hf hx ho hm hiv (f := f) (y := z) fun a c => ?_).mono ?_
        · obtain ⟨z', h1, a1, c1, a2, c2, a3, c3, rfl⟩ := (hTa a c).symm.at_ hzf
          exact ⟨_, by rw [(hTa a c).fd_eq]; exact hfd, h1, rfl⟩
        · rintro r w' ⟨u, hr, hq⟩
          obtain ⟨hT, a, c, hB, hR⟩ := hq.out
          obtain ⟨a3, k3, e3, _⟩ := ERow.isSlice hT
          subst e3
          obtain ⟨L', τ', g1, g2, _⟩ := h.dn hbv hs hf4 hB ((hTa a c).trans hT0).shed fun e he q hq => blk_vd hx hR he hq
          exact ⟨a3, _, k3, hr, L', τ', g1, by rw [hgn]; exact hT, g2⟩
    · have e1 : dcS K0 A' s cd k bs = A' := by unfold dcS; rw [if_neg h0]
      have e2 : gnS K0 A' s cd k bs = [] := by unfold gnS; rw [if_neg h0]
      rw [e1, e2]
      refine (rdec_no hrb s cd po k co (by rw [hz]; exact h0)).mono ?_
      rintro r w' ⟨hr, hw⟩
      subst hw
      exact ⟨none, 0, 0, by rw [hr, hz], L, τ, h, ERow.nil _ _ _ _ _, XF.refl _ _⟩
end
end Go.Proofs.YtjbkfppibnlmoaaGreatDoor

/-
  The law's accepts, by the strong pair.
-/
namespace Go.Proofs.YtjbkfppibnlmoaaGreatDoor
open Go.RowKit

theorem XF.blk {τ τ' : Nat → Nat} {w w' : World} (h : XF τ τ' w w') {q : Nat} {x : Obj} (hx : w.heap[q]? = some x) (ht : τ q = 0) : w'.heap[q]? = some x := (h.off.block q (blk_lt hx) (by rw [ht]; decide)).trans hx
theorem XF.fresh {τ τ' : Nat → Nat} {w w1 w2 : World} {P : Nat → Prop} (h : XF τ τ' w w1) (o : Off P w1 w2) (hP : ∀ q, P q → w.heap.size ≤ q) : XF τ τ' w w2 := ⟨h.off.join o fun q hq p => by have := hP q p; omega, h.keep⟩
theorem EvK.below {τ : Nat → Nat} {w w' : World} {B : Nat} {ev : Value} {c : Int} (h : EvK τ w B ev c) (hb : Below w.heap.size w w') : EvK τ w' B ev c := by
  rcases h with h | ⟨h, h0⟩
  · exact Or.inl h
  · exact Or.inr ⟨h.below hb, h0⟩
section
variable {W w w' : World} {X K n m : Nat} {bv mk ke rm L : Value} {o : Option (Int × Int)} {A A' : List Ent} {τ : Nat → Nat}
set_option maxRecDepth 100000 in
set_option maxHeartbeats 8000000 in
theorem accepts_s (h : SS W X K bv mk ke rm L o A A τ n m w) (hE : ErrType W) (e : Ent) (hl : Lies W e) (hk : KeyS e.ct) (n1 : e.tn + 90 ≤ 140737488355328) (n2 : e.cn + 90 ≤ 140737488355328) (n3 : e.an + 90 ≤ 140737488355328) :
    Calls Tryz.prog 21 #[.pointer (some ⟨X, 0, none⟩), .agg #[.string e.ct, .slice e.tp e.tn e.tc, .int .i64 e.nu, .int .i64 e.tk, .slice e.cp e.cn e.cc, .string e.cd, .slice e.ap e.an e.ac]] w fun r w' => r = .returned (.bool true) ∧ Hid (∃ L' τ', SS W X K bv mk ke rm L' o (accSo o A e) (accSo o A e) τ' n m w' ∧ XF τ τ' w w') := by
  have HI : Hid (ErrType W ∧ Lies W e ∧ KeyS e.ct ∧ e.tn + 90 ≤ 140737488355328 ∧ e.cn + 90 ≤ 140737488355328 ∧ e.an + 90 ≤ 140737488355328 ∧ SS W X K bv mk ke rm L o A A τ n m w) := ⟨hE, hl, hk, n1, n2, n3, h⟩
  obtain ⟨eb, heb⟩ : ∃ b, w.heap.size = b := ⟨_, rfl⟩
  have bv0 : Below w.heap.size w (w.alloc (.cells #[.string e.ct, .slice e.tp e.tn e.tc, .int .i64 e.nu, .int .i64 e.tk, .slice e.cp e.cn e.cc, .string e.cd, .slice e.ap e.an e.ac] 30)) := (Below.refl _ _).alloc (Nat.le_refl _) _
  have hb0 : (w.alloc (.cells #[.string e.ct, .slice e.tp e.tn e.tc, .int .i64 e.nu, .int .i64 e.tk, .slice e.cp e.cn e.cc, .string e.cd, .slice e.ap e.an e.ac] 30)).heap[w.heap.size]? = some (.cells #[.string e.ct, .slice e.tp e.tn e.tc, .int .i64 e.nu, .int .i64 e.tk, .slice e.cp e.cn e.cc, .string e.cd, .slice e.ap e.an e.ac] 30 (0, 0)) := heap_alloc_new _ _
  obtain ⟨V0, hV0⟩ : ∃ V, w.alloc (.cells #[.string e.ct, .slice e.tp e.tn e.tc, .int .i64 e.nu, .int .i64 e.tk, .slice e.cp e.cn e.cc, .string e.cd, .slice e.ap e.an e.ac] 30) = V := ⟨_, rfl⟩
  rw [hV0] at bv0 hb0
  rw [heb] at hb0
  have HV0 : Hid (Below w.heap.size w V0 ∧ V0.heap[eb]? = some (.cells #[.string e.ct, .slice e.tp e.tn e.tc, .int .i64 e.nu, .int .i64 e.tk, .slice e.cp e.cn e.cc, .string e.cd, .slice e.ap e.an e.ac] 30 (0, 0)) ∧ w.heap.size = eb) := ⟨bv0, hb0, heb⟩
  have hd := handed_full e V0 (hl.below (below_then h.bel bv0)) n1 n2 n3
  have cx := hcell hb0
  clear h hE hl hk n1 n2 n3 bv0 hb0
  go_enter Tryz.func21, Tryz.ntmps21
  go_wp2_with fail
  clear hV0
  refine hd.mono ?_
  rintro _ w1 ⟨g1, g2, g3, rfl, hh1, b1⟩
  clear hd cx
  have HH1 : Hid (Hd w1 V0.heap.size g1 g2 g3 e ∧ Below V0.heap.size V0 w1) := ⟨hh1, b1⟩
  clear hh1 b1
  go_upto_region 2 with fail
  have HV1 : Hid (Below w1.heap.size w1 (w1.alloc (.cells #[.string e.ct, .slice (some ⟨g1, 0, none⟩) e.tn (e.tn + 90), .int .i64 e.nu, .int .i64 e.tk, .slice (some ⟨g2, 0, none⟩) e.cn (e.cn + 90), .string e.cd, .slice (some ⟨g3, 0, none⟩) e.an (e.an + 90)] 30)) ∧ (w1.alloc (.cells #[.string e.ct, .slice (some ⟨g1, 0, none⟩) e.tn (e.tn + 90), .int .i64 e.nu, .int .i64 e.tk, .slice (some ⟨g2, 0, none⟩) e.cn (e.cn + 90), .string e.cd, .slice (some ⟨g3, 0, none⟩) e.an (e.an + 90)] 30)).heap[w1.heap.size]? = some (.cells #[.string e.ct, .slice (some ⟨g1, 0, none⟩) e.tn (e.tn + 90), .int .i64 e.nu, .int .i64 e.tk, .slice (some ⟨g2, 0, none⟩) e.cn (e.cn + 90), .string e.cd, .slice (some ⟨g3, 0, none⟩) e.an (e.an + 90)] 30 (0, 0))) := ⟨(Below.refl _ _).alloc (Nat.le_refl _) _, heap_alloc_new _ _⟩
  obtain ⟨V1, hV1⟩ : ∃ V, w1.alloc (.cells #[.string e.ct, .slice (some ⟨g1, 0, none⟩) e.tn (e.tn + 90), .int .i64 e.nu, .int .i64 e.tk, .slice (some ⟨g2, 0, none⟩) e.cn (e.cn + 90), .string e.cd, .slice (some ⟨g3, 0, none⟩) e.an (e.an + 90)] 30) = V := ⟨_, rfl⟩
  rw [hV1] at HV1 ⊢
  clear hV1
  obtain ⟨hb, hhb⟩ : ∃ b, w1.heap.size = b := ⟨_, rfl⟩
  have HS : Hid (w1.heap.size = hb) := hhb
  rw [hhb] at HV1 ⊢
  clear hhb
  have HVW : Hid (Below w.heap.size w V1 ∧ V1.heap[eb]? = some (.cells #[.string e.ct, .slice e.tp e.tn e.tc, .int .i64 e.nu, .int .i64 e.tk, .slice e.cp e.cn e.cc, .string e.cd, .slice e.ap e.an e.ac] 30 (0, 0)) ∧ V1.heap[hb]? = some (.cells #[.string e.ct, .slice (some ⟨g1, 0, none⟩) e.tn (e.tn + 90), .int .i64 e.nu, .int .i64 e.tk, .slice (some ⟨g2, 0, none⟩) e.cn (e.cn + 90), .string e.cd, .slice (some ⟨g3, 0, none⟩) e.an (e.an + 90)] 30 (0, 0)) ∧ Hd V1 w.heap.size g1 g2 g3 e ∧ w.heap.size ≤ eb ∧ eb < V1.heap.size ∧ w.heap.size ≤ hb ∧ hb < V1.heap.size ∧ w.heap.size ≤ V1.heap.size) := by
    have q1 := HV0.out.1
    have q2 := below_then q1 HH1.out.2
    have hbl : Below w1.heap.size w1 V1 := by rw [HS.out]; exact HV1.out.1
    have q3 := below_then q2 hbl
    have q4 : V1.heap[eb]? = some (.cells #[.string e.ct, .slice e.tp e.tn e.tc, .int .i64 e.nu, .int .i64 e.tk, .slice e.cp e.cn e.cc, .string e.cd, .slice e.ap e.an e.ac] 30 (0, 0)) := ((below_then HH1.out.2 hbl).block eb (blk_lt HV0.out.2.1)).trans HV0.out.2.1
    have q5 : Hd V1 V0.heap.size g1 g2 g3 e := HH1.out.1.below hbl
    have q6 := q1.size
    have q7 := q2.size
    exact ⟨q3, q4, HV1.out.2, ⟨q5.t.base q6, q5.c.base q6, q5.a.base q6, q5.n1, q5.n2⟩, by rw [HV0.out.2.2]; exact Nat.le_refl _, blk_lt q4, by rw [← HS.out]; exact q7, blk_lt HV1.out.2, q3.size⟩
  have HN0 : Hid (∀ q, w.heap.size ≤ q → τ q = 0) := HI.out.2.2.2.2.2.2.new
  have HU : Hid (∀ z, Below V1.heap.size V1 z → Calls Tryz.prog 54 #[bv, .agg #[.string e.ct, .slice (some ⟨g1, 0, none⟩) e.tn (e.tn + 90), .int .i64 e.nu, .int .i64 e.tk, .slice (some ⟨g2, 0, none⟩) e.cn (e.cn + 90), .string e.cd, .slice (some ⟨g3, 0, none⟩) e.an (e.an + 90)]] z fun r z' => ∃ ev, r = .returned ev ∧ Hid (∃ τ1 B, SS W X K bv mk ke rm L o (accSo o A e) A τ1 n m z' ∧ XF τ τ1 V1 z' ∧ EvK τ1 z' B ev (accCo o A e))) := fun z hz => by
    refine (u_acc_s (HI.out.2.2.2.2.2.2.below (below_then HVW.out.1 hz)) (e.hd g1 g2 g3) e (Tw.symm ⟨_, _, _, _, _, _, rfl⟩) HI.out.2.2.1 (HVW.out.2.2.2.1.lies.below hz)).mono ?_
    rintro r z' ⟨ev, hr, hq⟩
    obtain ⟨τ1, p1, p2, p3⟩ := hq.out
    exact ⟨ev, hr, τ1, _, p1, XF.from hz p2, p3⟩
  have x0 : V1.cell? ⟨X, 0, none⟩ = some bv := (HI.out.2.2.2.2.2.2.below HVW.out.1).cells.1
  have lx : X < V1.heap.size := (HI.out.2.2.2.2.2.2.below HVW.out.1).cells.2.2.2.2
  have cy := hcell HVW.out.2.2.1
  have lh := HVW.out.2.2.2.2.2.2.2.1
  clear HV0 HH1 HV1 HS
  go_cut [6] (fun t6 wx => Hid (∃ τ1 B, SS W X K bv mk ke rm L o (accSo o A e) A τ1 n m wx ∧ XF τ τ1 V1 wx ∧ EvK τ1 wx B t6 (accCo o A e)))
  case first =>
    clear HI HVW
    go_region_law (go_simp; go_at_call 54; refine (HU.out _ ?_).mono ?_; (first | exact Below.refl _ _ | exact Below.drew (Below.refl _ _)); rintro _ y1 ⟨ev, rfl, H1⟩)
    all_goals
      have H2 : Hid (∃ τ1 B, SS W X K bv mk ke rm L o (accSo o A e) A τ1 n m y1.drew ∧ XF τ τ1 V1 y1.drew ∧ EvK τ1 y1.drew B ev (accCo o A e)) := by
        obtain ⟨τ1, B, p1, p2, p3⟩ := H1.out
        exact ⟨τ1, B, p1.below (Below.refl _ _).drew, p2.below (Below.refl _ _).drew, p3.below (Below.refl _ _).drew⟩
      go_wp2_with fail
      go_meet
      first | exact H1 | exact H2
  case rest =>
    obtain ⟨w3, rfl⟩ : ∃ U, U = wc := ⟨_, rfl⟩
    obtain ⟨τ1, B1, p1, p2, p3⟩ := hcut.out
    have H1 : Hid (SS W X K bv mk ke rm L o (accSo o A e) A τ1 n m w3 ∧ XF τ τ1 V1 w3 ∧ EvK τ1 w3 B1 u6 (accCo o A e)) := ⟨p1, p2, p3⟩
    clear hcut HU x0 cy p1 p2 p3
    have he1 : w3.heap[eb]? = some (.cells #[.string e.ct, .slice e.tp e.tn e.tc, .int .i64 e.nu, .int .i64 e.tk, .slice e.cp e.cn e.cc, .string e.cd, .slice e.ap e.an e.ac] 30 (0, 0)) := H1.out.2.1.blk HVW.out.2.1 (HN0.out eb HVW.out.2.2.2.2.1)
    have cx := hcell he1
    have le := blk_lt he1
    have lx2 : X < w3.heap.size := H1.out.1.cells.2.2.2.2
    clear lx lh
    have HR : Hid (∀ z, Below w3.heap.size w3 z → Calls Tryz.prog 55 #[.pointer (some ⟨X, 1, none⟩), .agg #[.string e.ct, .slice e.tp e.tn e.tc, .int .i64 e.nu, .int .i64 e.tk, .slice e.cp e.cn e.cc, .string e.cd, .slice e.ap e.an e.ac]] z fun r z' => r = .returned (.int .i64 (accCo o A e)) ∧ Hid (∃ L' τ2, SS W X K bv mk ke rm L' o (accSo o A e) (accSo o A e) τ2 n m z' ∧ XF τ1 τ2 w3 z')) := fun z hz => by
      refine (r_acc_s (H1.out.1.below hz) e e (Tw.refl e) (HI.out.2.1.below (below_then H1.out.1.bel hz))).mono ?_
      rintro r z' ⟨hr, hq⟩
      obtain ⟨L', τ2, p1, p2⟩ := hq.out
      exact ⟨hr, L', τ2, p1, XF.from hz p2⟩
    go_upto_region 3 with fail
    go_cut [7] (fun t7 wx => t7 = .int .i64 (accCo o A e) ∧ Hid (∃ L' τ2, SS W X K bv mk ke rm L' o (accSo o A e) (accSo o A e) τ2 n m wx ∧ XF τ1 τ2 w3 wx))
    case first =>
      clear HI HVW H1
      go_region_law (go_simp; go_at_call 55; refine (HR.out _ ?_).mono ?_; (first | exact Below.refl _ _ | exact Below.drew (Below.refl _ _)); rintro _ y1 ⟨rfl, H2⟩)
      all_goals
        have H3 : Hid (∃ L' τ2, SS W X K bv mk ke rm L' o (accSo o A e) (accSo o A e) τ2 n m y1.drew ∧ XF τ1 τ2 w3 y1.drew) := by
          obtain ⟨L', τ2, p1, p2⟩ := H2.out
          exact ⟨L', τ2, p1.below (Below.refl _ _).drew, p2.below (Below.refl _ _).drew⟩
        go_wp2_with fail
        go_meet
        first | exact ⟨rfl, H2⟩ | exact ⟨rfl, H3⟩
    case rest =>
      obtain ⟨w4, rfl⟩ : ∃ U, U = wc := ⟨_, rfl⟩
      obtain ⟨rfl, H2⟩ := hcut
      clear HR cx le lx2
      obtain ⟨L', τ2, p1, p2⟩ := H2.out
      have z1 : ∀ q, w.heap.size ≤ q → q < V1.heap.size → τ1 q = 0 := fun q h1 h2 => H1.out.2.1.zero h2 (HN0.out q h1)
      have z2 : ∀ q, w.heap.size ≤ q → q < V1.heap.size → τ2 q = 0 := fun q h1 h2 => p2.zero (Nat.lt_of_lt_of_le h2 H1.out.2.1.off.size) (z1 q h1 h2)
      have hd4 : Hd w4 w.heap.size g1 g2 g3 e := by
        have hh := HVW.out.2.2.2.1
        have key : ∀ {q k : Nat} {bs : List Int}, Mkd V1 w.heap.size q k bs → Mkd w4 w.heap.size q k bs := fun {q k bs} hm => (hm.off H1.out.2.1.off (by rw [HN0.out q hm.lt.1]; decide)).off p2.off (by rw [z1 q hm.lt.1 hm.lt.2]; decide)
        exact ⟨key hh.t, key hh.c, key hh.a, hh.n1, hh.n2⟩
      have HP : Hid (SS W X K bv mk ke rm L' o (accSo o A e) (accSo o A e) τ2 n m w4 ∧ OEv w4 B1 u6 0 (accCo o A e) ∧ Hd w4 w.heap.size g1 g2 g3 e) := ⟨p1, H1.out.2.2.at_ p2.off, hd4⟩
      have HC : Hid (w4.heap[eb]? = some (.cells #[.string e.ct, .slice e.tp e.tn e.tc, .int .i64 e.nu, .int .i64 e.tk, .slice e.cp e.cn e.cc, .string e.cd, .slice e.ap e.an e.ac] 30 (0, 0)) ∧ w4.heap[hb]? = some (.cells #[.string e.ct, .slice (some ⟨g1, 0, none⟩) e.tn (e.tn + 90), .int .i64 e.nu, .int .i64 e.tk, .slice (some ⟨g2, 0, none⟩) e.cn (e.cn + 90), .string e.cd, .slice (some ⟨g3, 0, none⟩) e.an (e.an + 90)] 30 (0, 0))) := ⟨p2.blk he1 (z1 eb HVW.out.2.2.2.2.1 HVW.out.2.2.2.2.2.1), p2.blk (H1.out.2.1.blk HVW.out.2.2.1 (HN0.out hb HVW.out.2.2.2.2.2.2.1)) (z1 hb HVW.out.2.2.2.2.2.2.1 HVW.out.2.2.2.2.2.2.2.1)⟩
      have HG : Hid (W.heap.size ≤ w.heap.size ∧ g1 < V1.heap.size ∧ g2 < V1.heap.size ∧ g3 < V1.heap.size ∧ (∀ q, w.heap.size ≤ q → q < V1.heap.size → τ2 q = 0) ∧ XF τ τ2 w w4) := ⟨HI.out.2.2.2.2.2.2.bel.size, HVW.out.2.2.2.1.t.lt.2, HVW.out.2.2.2.1.c.lt.2, HVW.out.2.2.2.1.a.lt.2, z2, (XF.from HVW.out.1 H1.out.2.1).trans p2⟩
      clear he1 H1 H2 p1 p2 HVW z1 z2 hd4
      obtain ⟨cc, hcc⟩ : ∃ c, accCo o A e = c := ⟨_, rfl⟩
      have hcd := code_any HP.out.2.1 (errType_below HI.out.1 HP.out.1.bel)
      rw [hcc] at hcd ⊢
      clear hcc
      go_wp2_with fail
      refine hcd.mono ?_
      rintro _ w5 ⟨rfl, b5⟩
      clear hcd
      go_wp2_with fail
      refine (num_any _ _).mono ?_
      rintro _ w9 ⟨rfl, h9⟩
      subst w9
      have HP5 : Hid (SS W X K bv mk ke rm L' o (accSo o A e) (accSo o A e) τ2 n m w5 ∧ Hd w5 w.heap.size g1 g2 g3 e ∧ XF τ τ2 w w5) := ⟨HP.out.1.below b5, HP.out.2.2.below b5, HG.out.2.2.2.2.2.below b5⟩
      have cx5 := hcell (blk_below HC.out.1 b5)
      have cy5 := hcell (blk_below HC.out.2 b5)
      have HC5 : Hid (w5.heap[hb]? = some (.cells #[.string e.ct, .slice (some ⟨g1, 0, none⟩) e.tn (e.tn + 90), .int .i64 e.nu, .int .i64 e.tk, .slice (some ⟨g2, 0, none⟩) e.cn (e.cn + 90), .string e.cd, .slice (some ⟨g3, 0, none⟩) e.an (e.an + 90)] 30 (0, 0))) := blk_below HC.out.2 b5
      have hkp := kept_any e HP5.out.2.1 (HI.out.2.1.below HP5.out.1.bel) HI.out.2.2.2.1 HI.out.2.2.2.2.1 HI.out.2.2.2.2.2.1
      clear b5 HC HP
      go_wp2_with fail
      refine hkp.mono ?_
      rintro _ w6 ⟨rfl, b6⟩
      have HP6 : Hid (SS W X K bv mk ke rm L' o (accSo o A e) (accSo o A e) τ2 n m w6 ∧ Hd w6 w.heap.size g1 g2 g3 e ∧ XF τ τ2 w w6) := ⟨HP5.out.1.below b6, HP5.out.2.1.below b6, HP5.out.2.2.below b6⟩
      have cy6 := hcell (blk_below HC5.out b6)
      have htu := turned_any e HP6.out.2.1
      clear b6 HC5 HP5 cx5 cy5 hkp
      go_wp2_with fail
      refine htu.mono ?_
      rintro _ w7 ⟨rfl, O7⟩
      have HZ : Hid (∃ L' τ', SS W X K bv mk ke rm L' o (accSo o A e) (accSo o A e) τ' n m w7 ∧ XF τ τ' w w7) := by
        have hg : ∀ q, (q = g1 ∨ q = g2 ∨ q = g3) → w.heap.size ≤ q ∧ q < V1.heap.size := fun q hq => by
          rcases hq with rfl | rfl | rfl
          · exact ⟨HP6.out.2.1.t.lt.1, HG.out.2.1⟩
          · exact ⟨HP6.out.2.1.c.lt.1, HG.out.2.2.1⟩
          · exact ⟨HP6.out.2.1.a.lt.1, HG.out.2.2.2.1⟩
        exact ⟨L', τ2, HP6.out.1.off O7.out (fun q _ hq => HG.out.2.2.2.2.1 q (hg q hq).1 (hg q hq).2) (fun q hq => Nat.le_trans HG.out.1 (hg q hq).1), HP6.out.2.2.fresh O7.out fun q hq => (hg q hq).1⟩
      clear htu cy6
      go_wp2_with fail
      go_ret
      exact ⟨rfl, HZ⟩
end
end Go.Proofs.YtjbkfppibnlmoaaGreatDoor
