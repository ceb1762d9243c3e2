import Derived.Test.YtjbkfppibnlmoaaGreatDoorLrLoad
import Derived.Test.YtjbkfppibnlmoaaGreatDoorLgMap
/-
  Load on both sides: the same number, the same place, both boxes or none.
-/
namespace Go.Proofs.YtjbkfppibnlmoaaGreatDoor.Lg
open Go.RowKit

theorem refS_tw {R : Int} {hs es : List Ent} {x y : Ent} (h : Tws hs es) (t : Tw x y) : refS R hs x = refS R es y := by
  obtain ⟨a, c, a', c', a'', c'', rfl⟩ := t
  rw [ref_tws h]
  rfl
theorem Tws.take {hs es : List Ent} (h : Tws hs es) (i : Nat) : Tws (hs.take i) (es.take i) := by
  refine ⟨by rw [List.length_take, List.length_take, h.1], fun j l m hl hm => ?_⟩
  rw [List.getElem?_take] at hl hm
  split at hl
  · rename_i hj; rw [if_pos hj] at hm; exact h.2 j l m hl hm
  · cases hl
theorem Tws.get {hs es : List Ent} (h : Tws hs es) {i : Nat} {y : Ent} (hy : es[i]? = some y) : ∃ x, hs[i]? = some x ∧ Tw x y := by
  have hi := (List.getElem?_eq_some_iff.1 hy).1
  have hj : i < hs.length := by rw [h.1]; exact hi
  exact ⟨hs[i], List.getElem?_eq_getElem hj, h.2 i _ y (List.getElem?_eq_getElem hj) hy⟩
theorem gd_tws {R : Int} {hs es : List Ent} (h : Tws hs es) {i : Nat} (hg : gdS R es i) : gdS R hs i := fun j x hj hx => by
  obtain ⟨y, hy, t⟩ := Tws.get (Tws.symm h) hx
  rw [refS_tw (Tws.take h j) (Tw.symm t)]
  exact hg j y hj hy
/-- What may stand all together. -/
theorem good_all {R : Int} {es : List Ent} (hR : 0 ≤ R) : ∀ i, i ≤ es.length → gdS R es i → (∀ e ∈ es.take i, mayB e = true) ∧ Dis (es.take i) ∧ Srt (es.take i) ∧ (nOp (es.take i) : Int) ≤ R := by
  intro i
  induction i with
  | zero => exact fun _ _ => ⟨fun e he => (by simp at he), fun i j x y hx => (by simp at hx), fun i x y hx => (by simp at hx), by simp [nOp]; exact hR⟩
  | succ i ih =>
    intro hi hg
    obtain ⟨h1, h2, h3, h4⟩ := ih (by omega) fun j x hj hx => hg j x (by omega) hx
    obtain ⟨y, hy⟩ : ∃ y, es[i]? = some y := ⟨_, List.getElem?_eq_getElem (by omega)⟩
    obtain ⟨m1, m2, m3, m4⟩ := refS_zero (hg i y (by omega) hy)
    rw [take_one hy]
    refine ⟨fun e he => ?_, h2.snoc m3, srt_snoc h3 (by omega), ?_⟩
    · rcases List.mem_append.1 he with g | g
      · exact h1 e g
      · obtain rfl : e = y := by simpa using g
        exact m1
    · rw [nOp_snoc]
      cases hd : dcB y with
      | true => simp; exact h4
      | false =>
        have := m4 (by unfold opB; unfold dcB at hd; simpa using hd)
        simp
        omega
/-- The program's box behind Load. -/
def PB (w : World) (B : Nat) (p : Value) (es : List Ent) : Option (Int × Int) → Prop
  | none => p = .pointer none
  | some (K, R) => ∃ b sb M v ls, p = .pointer (some ⟨b, 0, none⟩) ∧ Bx w B b sb M v K R ls ∧ Tws ls es
/-- The document's. -/
def DB (w : World) (B : Nat) (mk ke rm L : Value) (es : List Ent) : Option (Int × Int) → Prop
  | none => mk = .bool false ∧ ke = .int .i64 0 ∧ rm = .int .i64 0 ∧ L = .slice none 0 0
  | some (K, R) => mk = .bool true ∧ ke = .int .i64 K ∧ rm = .int .i64 R ∧ ∃ ls, NRow w B L ls ∧ (∀ l ∈ ls, Own w B l) ∧ Tws ls es ∧ Inv K R ls
section
variable {w : World}
set_option maxRecDepth 100000 in
set_option maxHeartbeats 2000000 in
theorem rload_no (K R : Int) (h : ¬ (1 ≤ K ∧ K ≤ 64 ∧ 1 ≤ R ∧ R ≤ 32)) (ao : Option Addr) (n c : Nat) : Calls Tryz.prog 16 #[.int .i64 K, .int .i64 R, .slice ao n c] w fun r w' => r = .returned (.tuple #[.agg #[.bool false, .int .i64 0, .int .i64 0, .slice none 0 0], .int .i64 0, .int .i64 1]) ∧ Below w.heap.size w w' := by
  have bv : Below w.heap.size w (w.alloc (.cells #[.bool false, .int .i64 0, .int .i64 0, .slice none 0 0] 43)) := (Below.refl _ _).alloc (Nat.le_refl _) _
  have hv : (w.alloc (.cells #[.bool false, .int .i64 0, .int .i64 0, .slice none 0 0] 43)).heap[w.heap.size]? = some (.cells #[.bool false, .int .i64 0, .int .i64 0, .slice none 0 0] 43 (0, 0)) := heap_alloc_new _ _
  obtain ⟨V, hV⟩ : ∃ V, w.alloc (.cells #[.bool false, .int .i64 0, .int .i64 0, .slice none 0 0] 43) = V := ⟨_, rfl⟩
  rw [hV] at bv hv
  obtain ⟨S, hS⟩ : ∃ S, w.heap.size = S := ⟨_, rfl⟩
  rw [hS] at hv
  have HV : Hid (Below w.heap.size w V ∧ V.heap[S]? = some (.cells #[.bool false, .int .i64 0, .int .i64 0, .slice none 0 0] 43 (0, 0)) ∧ w.heap.size = S) := ⟨bv, hv, hS⟩
  have hnw := rnew_no (w := V) K R h
  clear h bv hv
  go_enter Tryz.func16, Tryz.ntmps16
  go_wp2_with fail
  clear hV
  refine hnw.mono ?_
  rintro _ w1 ⟨rfl, b1⟩
  have b2 : Below V.heap.size V (w1.alloc (.cells #[.bool false, .int .i64 0, .int .i64 0, .slice none 0 0] 43)) := b1.alloc b1.size _
  have HW : Hid (Below w.heap.size w (w1.alloc (.cells #[.bool false, .int .i64 0, .int .i64 0, .slice none 0 0] 43)) ∧ (w1.alloc (.cells #[.bool false, .int .i64 0, .int .i64 0, .slice none 0 0] 43)).heap[S]? = some (.cells #[.bool false, .int .i64 0, .int .i64 0, .slice none 0 0] 43 (0, 0)) ∧ w.heap.size ≤ S) := ⟨below_then HV.out.1 b2, (b2.block S (blk_lt HV.out.2.1)).trans HV.out.2.1, by rw [HV.out.2.2]; exact Nat.le_refl _⟩
  clear hnw b1 b2 HV
  go_upto_region 2 with fail
  obtain ⟨V1, hV1⟩ : ∃ V, w1.alloc (.cells #[.bool false, .int .i64 0, .int .i64 0, .slice none 0 0] 43) = V := ⟨_, rfl⟩
  rw [hV1] at HW ⊢
  clear hV1
  have cS := hcell HW.out.2.1
  have fS := hfroz HW.out.2.1
  go_wp2_with fail
  refine bodyPost_ret (v := .tuple #[.agg #[.bool false, .int .i64 0, .int .i64 0, .slice none 0 0], .int .i64 0, .int .i64 1]) ?_ rfl ⟨rfl, ?_⟩
  · simp [results, Tryz.results16, go_sem, cS]
  · have := HW.out.2.2
    repeat' (first | (with_reducible exact HW.out.1) | (with_reducible refine Below.setCell ?_ (by assumption) _))
end
theorem load_both (K R : Int) (es : List Ent) {n : Nat} (hn : es.length = n) (hN : n ≤ 1200000000000) : ∃ (cd at_ : Int) (o : Option (Int × Int)), (cd = 0 → at_ = 0) ∧ ((cd = 0) ↔ o.isSome = true) ∧
    (∀ (w : World) (B : Nat) (a : Option Addr) (c : Nat) (hs : List Ent), NRow w B (.slice a n c) hs → (∀ h ∈ hs, Lies w h) → (∀ h ∈ hs, KeyS h.ct) → Tws hs es → Calls Tryz.prog 15 #[.int .i64 K, .int .i64 R, .slice a n c] w fun r w' => ∃ p ev, r = .returned (.tuple #[p, ev]) ∧ Hid (OEv w' w.heap.size ev at_ cd ∧ Below w.heap.size w w' ∧ PB w' w.heap.size p es o)) ∧
    (∀ (w : World) (ao : Option Addr) (c : Nat), LsAt w ao n es → Calls Tryz.prog 16 #[.int .i64 K, .int .i64 R, .slice ao n c] w fun r w' => ∃ mk ke rm L, r = .returned (.tuple #[.agg #[mk, ke, rm, L], .int .i64 at_, .int .i64 cd]) ∧ Hid (Below w.heap.size w w' ∧ DB w' w.heap.size mk ke rm L es o)) := by
  by_cases hKR : 1 ≤ K ∧ K ≤ 64 ∧ 1 ≤ R ∧ R ≤ 32
  rotate_left
  · refine ⟨1, 0, none, fun h => absurd h (by decide), ⟨fun h => absurd h (by decide), fun h => absurd h (by decide)⟩, fun w B a c hs _ _ _ _ => ?_, fun w ao c _ => ?_⟩
    · exact (load_args K R w hKR).mono fun r w' ⟨h1, h2, h3⟩ => ⟨_, _, h1, Or.inr ⟨by decide, _, rfl, Nat.le_refl _, h2⟩, h3, rfl⟩
    · exact (rload_no K R hKR ao n c).mono fun r w' ⟨h1, h2⟩ => ⟨_, _, _, _, h1, h2, rfl, rfl, rfl, rfl⟩
  obtain ⟨k1, k2, r1, r2⟩ := hKR
  rcases gd_or R es n with hg | ⟨j, y, hj, hy, hne, hg⟩
  rotate_left
  · refine ⟨refS R (es.take j) y, j, none, fun h => absurd h hne, ⟨fun h => absurd h hne, fun h => absurd h (by decide)⟩, fun w B a c hs hr hl hks ht => ?_, fun w ao c hL => ?_⟩
    · obtain ⟨x, hx, t⟩ := Tws.get ht hy
      exact (load_bad hr hks hN k1 k2 r1 r2 hx (refS_tw (Tws.take ht j) t) hne (gd_tws ht hg)).mono fun r w' ⟨b, h1, h2⟩ => ⟨_, _, h1, Or.inr ⟨hne, b, rfl, h2.out.2.1, h2.out.1⟩, h2.out.2.2, rfl⟩
    · refine (rload_any hL hN k1 k2 r1 r2).mono fun r w' hq => ?_
      rcases hq with ⟨j', y', z, e1, e2, e3, e4, e5, e6⟩ | ⟨e1, _⟩ | ⟨e1, _⟩
      · obtain rfl : j' = j := by
          rcases Nat.lt_trichotomy j' j with h | h | h
          · exact absurd (hg j' y' h e1) (by rw [e2]; exact e3)
          · exact h
          · exact absurd (e4 j y h hy) hne
        rw [hy] at e1
        obtain rfl := Option.some.inj e1
        subst e2
        exact ⟨_, _, _, _, e5, e6, rfl, rfl, rfl, rfl⟩
      · exact absurd (e1 j y (by rw [hn]; exact hj) hy) hne
      · exact absurd (e1 j y (by rw [hn]; exact hj) hy) hne
  have hgl : gdS R es es.length := by rw [hn]; exact hg
  cases hm : manyB K es with
  | true =>
    refine ⟨301, fdI es, none, fun h => absurd h (by decide), ⟨fun h => absurd h (by decide), fun h => absurd h (by decide)⟩, fun w B a c hs hr hl hks ht => ?_, fun w ao c hL => ?_⟩
    · have hfd : fdI hs = fdI es := by unfold fdI; rw [ht.fd_eq]
      refine (load_many hr hN k1 k2 r1 r2 (gd_tws ht hg) (by unfold manyB at hm ⊢; rw [ht.dc_eq]; exact hm)).mono fun r w' ⟨b, h1, h2⟩ => ⟨_, _, h1, Or.inr ⟨by decide, b, rfl, h2.out.2.1, by rw [← hfd]; exact h2.out.1⟩, h2.out.2.2, rfl⟩
    · refine (rload_any hL hN k1 k2 r1 r2).mono fun r w' hq => ?_
      rcases hq with ⟨j', y', z, e1, e2, e3, e4, e5, e6⟩ | ⟨_, _, e5, e6⟩ | ⟨_, e2, _⟩
      · exact absurd (hg j' y' (by rw [← hn]; exact (List.getElem?_eq_some_iff.1 e1).1) e1) (by rw [e2]; exact e3)
      · exact ⟨_, _, _, _, e5, e6, rfl, rfl, rfl, rfl⟩
      · rw [hm] at e2; cases e2
  | false =>
    have hinv : ∀ hs, Tws hs es → Inv K R hs ∧ (∀ e ∈ hs, mayB e = true) ∧ Dis hs := fun hs ht => by
      obtain ⟨h1, h2, h3, h4⟩ := good_all (es := hs) (by omega : 0 ≤ R) hs.length (Nat.le_refl _) (by rw [ht.1, hn]; exact gd_tws ht hg)
      rw [List.take_length] at h1 h2 h3 h4
      refine ⟨⟨k1, k2, r1, r2, h4, ?_, h3⟩, h1, h2⟩
      unfold manyB at hm
      have := of_decide_eq_false hm
      rw [ht.dc_eq]
      omega
    refine ⟨0, 0, some (K, R), fun _ => rfl, ⟨fun _ => rfl, fun _ => rfl⟩, fun w B a c hs hr hl hks ht => ?_, fun w ao c hL => ?_⟩
    · obtain ⟨i1, i2, i3⟩ := hinv hs ht
      refine (load_yes hr hl i2 i3 i1).mono fun r w' ⟨b, sb, M, v, ls, h1, h2, h3, h4⟩ => ⟨_, _, h1, Or.inl ⟨rfl, rfl⟩, h4, b, sb, M, v, ls, rfl, h2, h3.tws.trans ht⟩
    · refine (rload_any hL hN k1 k2 r1 r2).mono fun r w' hq => ?_
      rcases hq with ⟨j', y', z, e1, e2, e3, e4, e5, e6⟩ | ⟨_, e2, _⟩ | ⟨_, _, L, ls, e1, e2, e3, e4, e5⟩
      · exact absurd (hg j' y' (by rw [← hn]; exact (List.getElem?_eq_some_iff.1 e1).1) e1) (by rw [e2]; exact e3)
      · rw [hm] at e2; cases e2
      · exact ⟨_, _, _, _, e1, e5, rfl, rfl, rfl, ls, e2, e3, e4, (hinv ls e4).1⟩
end Go.Proofs.YtjbkfppibnlmoaaGreatDoor.Lg

/-
  The document's box: Accept, walked.
-/
namespace Go.Proofs.YtjbkfppibnlmoaaGreatDoor
open Go.RowKit

theorem accC_may {R : Int} {es : List Ent} {e : Ent} (h : mayB e = false) : accC R es e = 300 := by
  unfold accC
  split
  · rfl
  · unfold refS; rw [h]; rfl
theorem accC_dc {R : Int} {es : List Ent} {e : Ent} (h : e.cd.toList.isEmpty = false) : accC R es e = 300 := by
  unfold accC
  rw [if_pos (by unfold dcB; rw [h]; rfl)]
theorem accC_bf {R : Int} {es : List Ent} {e : Ent} (hb : decide (e.tk < lastT es) = true) : accC R es e = 300 := by
  unfold accC
  split
  · rfl
  · unfold refS; rw [hb, Bool.or_true]; rfl
theorem accC_op {R : Int} {es : List Ent} {e : Ent} (hm : mayB e = true) (hd : e.cd.toList.isEmpty = true) (hb : decide (e.tk < lastT es) = false) : accC R es e = if (fi e.ct es).isSome = true then 6 else if (nOp es : Int) = R then 7 else 0 := by
  unfold accC
  rw [if_neg (by unfold dcB; rw [hd]; decide)]
  unfold refS opB
  rw [hm, hb, hd]
  by_cases h : (nOp es : Int) = R <;> simp [h]
section
variable {w w' : World} {B X : Nat} {v : Value} {K R : Int} {es : List Ent}
set_option maxRecDepth 100000 in
set_option maxHeartbeats 8000000 in
theorem racc_any (h : RBx w B X v K R es) (hXt : ∃ cs t cur, w.heap[X]? = some (.cells cs t cur) ∧ t ≠ 5 ∧ t ≠ 30) (hB : B ≤ w.heap.size) (e : Ent) (hl : Lies w e) : Calls Tryz.prog 55 #[.pointer (some ⟨X, 1, none⟩), .agg #[.string e.ct, .slice e.tp e.tn e.tc, .int .i64 e.nu, .int .i64 e.tk, .slice e.cp e.cn e.cc, .string e.cd, .slice e.ap e.an e.ac]] w fun r w' => r = .returned (.int .i64 (accC R es e)) ∧ Hid ((accC R es e ≠ 0 ∧ Below w.heap.size w w') ∨ (accC R es e = 0 ∧ ∃ a c a' c' a'' c'', RBQ w B X v K R (es ++ [e.wi a c a' c' a'' c'']) w' ∧ Own w' w.heap.size (e.wi a c a' c' a'' c''))) := by
  have bv : Below w.heap.size w (w.alloc (.cells #[.string e.ct, .slice e.tp e.tn e.tc, .int .i64 e.nu, .int .i64 e.tk, .slice e.cp e.cn e.cc, .string e.cd, .slice e.ap e.an e.ac] 30)) := (Below.refl _ _).alloc (Nat.le_refl _) _
  have bx := Box.new w #[.string e.ct, .slice e.tp e.tn e.tc, .int .i64 e.nu, .int .i64 e.tk, .slice e.cp e.cn e.cc, .string e.cd, .slice e.ap e.an e.ac] 30
  obtain ⟨V, hV⟩ : ∃ V, w.alloc (.cells #[.string e.ct, .slice e.tp e.tn e.tc, .int .i64 e.nu, .int .i64 e.tk, .slice e.cp e.cn e.cc, .string e.cd, .slice e.ap e.an e.ac] 30) = V := ⟨_, rfl⟩
  rw [hV] at bv bx
  obtain ⟨xb, hxb⟩ : ∃ xb, w.heap.size = xb := ⟨_, rfl⟩
  have hlen := h.inv.len
  have HH : Hid (RBx w B X v K R es ∧ (∃ cs t cur, w.heap[X]? = some (.cells cs t cur) ∧ t ≠ 5 ∧ t ≠ 30) ∧ B ≤ w.heap.size ∧ Lies w e ∧ es.length ≤ 97) := ⟨h, hXt, hB, hl, hlen⟩
  have HV : Hid (Below w.heap.size w V ∧ Box V xb #[.string e.ct, .slice e.tp e.tn e.tc, .int .i64 e.nu, .int .i64 e.tk, .slice e.cp e.cn e.cc, .string e.cd, .slice e.ap e.an e.ac]) := ⟨bv, by rw [← hxb]; exact bx⟩
  have c1 := (h.below bv).c1
  have cx := HV.out.2.cell
  clear h hXt hB hl hlen bx bv
  go_enter Tryz.func55, Tryz.ntmps55
  go_wp2_with fail
  clear hV
  refine (rMayBe_any e V).mono ?_
  rintro _ w1 ⟨rfl, b1⟩
  have H1 : Hid (Below w.heap.size w w1 ∧ Box w1 xb #[.string e.ct, .slice e.tp e.tn e.tc, .int .i64 e.nu, .int .i64 e.tk, .slice e.cp e.cn e.cc, .string e.cd, .slice e.ap e.an e.ac]) := ⟨below_then HV.out.1 b1, HV.out.2.below b1⟩
  have cx1 := H1.out.2.cell
  clear b1 c1 cx
  cases hm : mayB e with
  | false =>
    have HC : Hid (accC R es e = 300) := accC_may hm
    clear hm
    go_wp2_with fail
    go_ret
    exact ⟨by rw [HC.out]; rfl, Or.inl ⟨by rw [HC.out]; decide, H1.out.1⟩⟩
  | true =>
    cases hd : e.cd.toList.isEmpty with
    | false =>
      have HC : Hid (accC R es e = 300) := accC_dc hd
      clear hm
      go_wp2_with fail
      go_ret
      exact ⟨by rw [HC.out]; rfl, Or.inl ⟨by rw [HC.out]; decide, H1.out.1⟩⟩
    | true =>
      have HM : Hid (mayB e = true) := hm
      go_wp2_with fail
      have hbf := rbefore_any (HH.out.1.below H1.out.1) e.tk (by have := HH.out.2.2.2.2; omega)
      rw [bf_eq hm] at hbf
      clear hm
      refine hbf.mono ?_
      rintro _ w2 ⟨rfl, b2⟩
      have H2 : Hid (Below w.heap.size w w2 ∧ Box w2 xb #[.string e.ct, .slice e.tp e.tn e.tc, .int .i64 e.nu, .int .i64 e.tk, .slice e.cp e.cn e.cc, .string e.cd, .slice e.ap e.an e.ac]) := ⟨below_then H1.out.1 b2, H1.out.2.below b2⟩
      have cx2 := H2.out.2.cell
      clear b2 cx1 H1 hbf
      cases hb : decide (e.tk < lastT es) with
      | true =>
        have HC : Hid (accC R es e = 300) := accC_bf hb
        clear hb
        go_wp2_with fail
        go_ret
        exact ⟨by rw [HC.out]; rfl, Or.inl ⟨by rw [HC.out]; decide, H2.out.1⟩⟩
      | false =>
        have HC : Hid (accC R es e = if (fi e.ct es).isSome = true then 6 else if (nOp es : Int) = R then 7 else 0) := accC_op HM.out hd hb
        have HD : Hid (dcB e = false ∧ ¬ e.tk < lastT es ∧ e.tn ≤ 8192 ∧ e.cn ≤ 2048 ∧ e.an ≤ 2048) := by
          have := mayB_is HM.out
          exact ⟨by unfold dcB; rw [hd]; rfl, of_decide_eq_false hb, this.2.2.1, this.2.2.2.2.2.2.2.1, this.2.2.2.2.2.2.2.2⟩
        clear hb hd
        go_wp2_with fail
        refine (rat_any (HH.out.1.below H2.out.1) e.ct (by have := HH.out.2.2.2.2; omega)).mono ?_
        rintro _ w9 ⟨rfl, h9⟩
        subst w9
        cases hf : fi e.ct es with
        | some i =>
          have hfi : fiI e.ct es = (i : Int) := by unfold fiI; rw [hf]
          have HC2 : Hid (accC R es e = 6) := by unfold Hid; rw [HC.out, hf]; rfl
          rw [hfi]
          have hi0 : (i : Int) ≥ 0 := by omega
          clear hf hfi HC
          go_wp2_with fail
          go_ret
          exact ⟨by rw [HC2.out]; rfl, Or.inl ⟨by rw [HC2.out]; decide, H2.out.1⟩⟩
        | none =>
          have hfi : fiI e.ct es = -1 := by unfold fiI; rw [hf]
          have HC2 : Hid (accC R es e = if (nOp es : Int) = R then 7 else 0) := by unfold Hid; rw [HC.out, hf]; rfl
          rw [hfi]
          have HO : Hid (∀ k, Calls Tryz.prog 49 #[.pointer (some ⟨X, 1, none⟩)] (w2.drewN k) fun r w' => r = .returned (.int .i64 (nOp es : Int)) ∧ w' = w2.drewN k) := fun k => ropen_any ((HH.out.1.below H2.out.1).below (below_drewN (Below.refl _ _) k)) (by have := HH.out.2.2.2.2; omega)
          have c3 := (HH.out.1.below H2.out.1).c3
          obtain ⟨m, hm⟩ : ∃ m, nOp es = m := ⟨_, rfl⟩
          have HMM : Hid (nOp es = m) := hm
          rw [hm] at HO HC2
          clear hf hfi HC hm
          by_cases hr : (m : Int) = R
          · have hr1 : ((m : Int) == R) = true := by simpa using hr
            have HC3 : Hid (accC R es e = 7) := by unfold Hid; rw [HC2.out, if_pos hr]
            clear hr HC2
            go_wp2_with fail
            go_quiet ((go_at_call 49; exact Calls.quiet_of_same (HO.out _)))
            go_wp2_with fail
            go_ret
            exact ⟨by rw [HC3.out]; rfl, Or.inl ⟨by rw [HC3.out]; decide, below_drewN H2.out.1 _⟩⟩
          · have hr1 : ((m : Int) == R) = false := by simpa using hr
            have HC3 : Hid (accC R es e = 0) := by unfold Hid; rw [HC2.out, if_neg hr]
            have HIv : Hid (∀ a c a' c' a'' c'', Inv K R (es ++ [e.wi a c a' c' a'' c''])) := fun a c a' c' a'' c'' => inv_snoc (e := e.wi a c a' c' a'' c'') HH.out.1.inv HD.out.1 (by have := HD.out.2.1; show ¬ e.tk < lastT es; omega) (by rw [HMM.out]; exact hr)
            clear hr HC2
            go_wp2_with fail
            go_quiet ((go_at_call 49; exact Calls.quiet_of_same (HO.out _)))
            have c4 := (HH.out.1.below H2.out.1).c4
            have HT : Hid (∀ z, Below w2.heap.size w2 z → Calls Tryz.prog 50 #[.agg #[.string e.ct, .slice e.tp e.tn e.tc, .int .i64 e.nu, .int .i64 e.tk, .slice e.cp e.cn e.cc, .string e.cd, .slice e.ap e.an e.ac]] z fun r z' => ∃ a c a' c' a'' c'' a2 n2 c2 W2, r = .returned (.agg #[.string e.ct, .slice a e.tn c, .int .i64 e.nu, .int .i64 e.tk, .slice a' e.cn c', .string e.cd, .slice a'' e.an c'']) ∧ (Builtin.append_ #[22, 22] 22 #[v, .slice (some ⟨z'.heap.size, 0, none⟩) 1 1]).run Tryz.prog (z'.alloc (.cells #[.string e.ct, .slice a e.tn c, .int .i64 e.nu, .int .i64 e.tk, .slice a' e.cn c', .string e.cd, .slice a'' e.an c''] 30)) = .ok (.slice a2 n2 c2) W2 ∧ z'.cell? ⟨X, 4, none⟩ = some v ∧ (z'.alloc (.cells #[.string e.ct, .slice a e.tn c, .int .i64 e.nu, .int .i64 e.tk, .slice a' e.cn c', .string e.cd, .slice a'' e.an c''] 30)).cell? ⟨X, 4, none⟩ = some v ∧ W2.cell? ⟨X, 4, none⟩ = some v ∧ W2.frozen? ⟨X, 4, none⟩ = false ∧ Hid (RBQ w B X v K R (es ++ [e.wi a c a' c' a'' c'']) (W2.setCell ⟨X, 4, none⟩ (.slice a2 n2 c2)) ∧ Own (W2.setCell ⟨X, 4, none⟩ (.slice a2 n2 c2)) w.heap.size (e.wi a c a' c' a'' c''))) := fun z hz => by
              have hbz := below_then H2.out.1 hz
              refine (rtwin_any e z (HH.out.2.2.2.1.below hbz) (by have := HD.out.2.2.1; omega) (by have := HD.out.2.2.2.1; omega) (by have := HD.out.2.2.2.2; omega)).mono ?_
              rintro r z' ⟨a, c, a', c', a'', c'', e1, e2, e3⟩
              obtain ⟨a2, n2, c2, W2, q1, q2, q3, q4, q5, q6⟩ := racc_step (z := z') HH.out.1 HH.out.2.1 HH.out.2.2.1 (e := e.wi a c a' c' a'' c'') (e2.base hbz.size) (below_then hbz e3) (HIv.out _ _ _ _ _ _)
              exact ⟨a, c, a', c', a'', c'', a2, n2, c2, W2, e1, q1, q2, q3, q4, q5, q6⟩
            clear HIv HD HM HO HMM HV H2 HH
            go_wp2_with fail
            go_region_law (first | (go_simp; go_at_call 50; refine (HT.out _ ?_).mono ?_; (first | exact below_drewN (Below.refl _ _) _ | exact (below_drewN (Below.refl _ _) _).drew); rintro _ y1 ⟨a1, k1, a3, k3, a5, k5, a2, n2, c2, W2, rfl, hap, g1, g2, g3, g4, HF⟩; go_wp2_with fail) | (refine step_app_run rfl (.tmp 42) (.tmp 45) 22 rfl rfl rfl hap ?_))
            all_goals
              go_wp2_with fail
              go_ret
              exact ⟨by rw [HC3.out]; rfl, Or.inr ⟨HC3.out, a1, k1, a3, k3, a5, k5, HF.out⟩⟩
end
end Go.Proofs.YtjbkfppibnlmoaaGreatDoor
