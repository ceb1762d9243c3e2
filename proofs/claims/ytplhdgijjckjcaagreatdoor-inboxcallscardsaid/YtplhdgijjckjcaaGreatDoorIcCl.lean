import Derived.Test.YtplhdgijjckjcaaGreatDoorIcBl5
import Derived.Test.YtplhdgijjckjcaaGreatDoorIcR0
/-
  Both boxes: Accept and Decide, whatever they answer.
-/
namespace Go.Proofs.YtplhdgijjckjcaaGreatDoor
open Go.RowKit

def accCo (o : Option (Int × Int)) (A : List Ent) (e : Ent) : Int := match o with | none => 3 | some (_, R) => accC R A e
def accSo (o : Option (Int × Int)) (A : List Ent) (e : Ent) : List Ent := match o with | none => A | some (_, R) => accS R A e
def decCo (o : Option (Int × Int)) (A : List Ent) (s cd : ByteArray) (n : Nat) : Int := match o with | none => 3 | some _ => decC A s cd n
def dcSo (o : Option (Int × Int)) (A : List Ent) (s cd : ByteArray) (n : Nat) (bs : List Int) : List Ent := match o with | none => A | some (K, _) => dcS K A s cd n bs
def gnSo (o : Option (Int × Int)) (A : List Ent) (s cd : ByteArray) (n : Nat) (bs : List Int) : List ByteArray := match o with | none => [] | some (K, _) => gnS K A s cd n bs
section
variable {W w w' : World} {X K n C D E : Nat} {bv mk ke rm L : Value} {o : Option (Int × Int)} {A A' : List Ent}
/-- Behind a call of the program's box. -/
theorem LS.up {K0 R : Int} {b sb M : Nat} {v : Value} {es es' es1 A1 : List Ent} (h : LS W X K bv (.bool true) (.int .i64 K0) (.int .i64 R) L C D E (some (K0, R)) A A' n w) (hbv : bv = .pointer (some ⟨b, 0, none⟩)) (hs : Sm w W.heap.size C D E X b sb M v L K0 R es A es' A') (hD : D ≤ w.heap.size) (hE : E = w.heap.size) (hq : BxQ w W.heap.size b sb M v K0 R es1 w') (ht : Tws es1 A1) (hn : ∀ e ∈ es1, ∀ q, Blk e q → (∃ e0 ∈ es, Blk e0 q) ∨ w.heap.size ≤ q) : LS W X K bv (.bool true) (.int .i64 K0) (.int .i64 R) L C D w'.heap.size (some (K0, R)) A1 A' n w' ∧ (∀ q, C ≤ q → q < D → w'.heap[q]? = w.heap[q]?) ∧ w.heap.size ≤ w'.heap.size := by
  obtain ⟨v', hs1, ho⟩ := hs.up h.cells.2.2.2.2 hD hE hq ht hn
  refine ⟨⟨h.offT ho fun q cs t hc ht' => hs.bx.sh.notType (ht'.no (by decide) (by decide) (by decide) (by decide) (by decide)) (ht'.no (by decide) (by decide) (by decide) (by decide) (by decide)) hc, ⟨rfl, rfl, rfl, b, sb, M, v', es1, es', hbv, hs1⟩, h.bel.trans (ho.below h.bel.size fun q hq => hs.bx.ft hq), h.lX, h.lK⟩, fun q h1 h2 => ho.block q (by omega) fun hf => ?_, ho.size⟩
  have := hs.hp q (Or.inr (Or.inl hf))
  omega
/-- Behind a call of the document's. -/
theorem LS.dn {K0 R : Int} {b sb M : Nat} {v : Value} {es es' es1 A1 : List Ent} (h : LS W X K bv (.bool true) (.int .i64 K0) (.int .i64 R) L C D E (some (K0, R)) A A' n w) (hbv : bv = .pointer (some ⟨b, 0, none⟩)) (hs : Sm w W.heap.size C D E X b sb M v L K0 R es A es' A') (hE : E ≤ w.heap.size) (hq : RBQ w W.heap.size X L K0 R es1 w') (ht : Tws es1 A1) (hn : ∀ e ∈ es1, ∀ q, Blk e q → (∃ e0 ∈ es', Blk e0 q) ∨ w.heap.size ≤ q) : ∃ L', LS W X K bv (.bool true) (.int .i64 K0) (.int .i64 R) L' C D E (some (K0, R)) A A1 n w' ∧ (∀ q, C ≤ q → q < E → w'.heap[q]? = w.heap[q]?) ∧ w.heap.size ≤ w'.heap.size := by
  obtain ⟨v0, v1, v4, v5, v6, v7, x0, x1, x4, x5, x6, x7, hX, hK, ⟨a0, a1, a2, a3, a4⟩, ⟨b0, b1, b2, b3, b4⟩, ⟨c0, c1, c2, c3, c4⟩⟩ := h.ex
  obtain ⟨L', hs1, hX1, ho⟩ := hs.dn hX hE hq ht hn
  have nT : ∀ {q : Nat} {cs : Array Value} {t : TypeId}, w.heap[q]? = some (.cells cs t (0, 0)) → t ≠ 44 → t ≠ 29 → ¬ (q = X ∨ L.ownBlock = some q) := fun {q cs t} hc h1 h2 => by
    rintro (g | g)
    · rw [g, hX] at hc
      simp only [Option.some.injEq, Obj.cells.injEq] at hc
      exact h1 hc.2.1.symm
    · obtain ⟨cs', hc'⟩ := row_type hs.row g
      rw [hc'] at hc
      simp only [Option.some.injEq, Obj.cells.injEq] at hc
      exact h2 hc.2.1.symm
  have key : ∀ {e : TypeId} {v : Value} {xs : List Sl}, e ≠ 44 → e ≠ 29 → ERow w W.heap.size e 1 encSl v xs → ERow w' W.heap.size e 1 encSl v xs := fun {e v xs} h1 h2 hr => ERow.off hr ho fun g hg => by
    obtain ⟨cs, hc⟩ := erow_type hr hg
    exact nT hc h1 h2
  refine ⟨L', ⟨⟨v0, v1, v4, v5, v6, v7, x0, x1, x4, x5, x6, x7, hX1, (ho.block K (blk_lt hK) (nT hK (by decide) (by decide))).trans hK, ⟨key (by decide) (by decide) a0, key (by decide) (by decide) a1, a2, a3, a4⟩, ⟨key (by decide) (by decide) b0, key (by decide) (by decide) b1, b2, b3, b4⟩, ⟨key (by decide) (by decide) c0, key (by decide) (by decide) c1, c2, c3, c4⟩⟩, ⟨rfl, rfl, rfl, b, sb, M, v, es, es1, hbv, hs1⟩, h.bel.trans (ho.below h.bel.size fun q hq => ?_), h.lX, h.lK⟩, fun q h1 h2 => ho.block q (by omega) fun hf => ?_, ho.size⟩
  · rcases hq with rfl | hq
    · exact h.lX
    · exact (ERow.lt hs.row hq).1
  · have := hs.hd q (hf.imp id fun g => Or.inl g)
    omega
theorem blk_snoc {es : List Ent} {x : Ent} {V z : World} {B : Nat} (hx : Own z B x) {e : Ent} (he : e ∈ es ++ [x]) {q : Nat} (hq : Blk e q) (hV : V.heap.size ≤ B) : (∃ e0 ∈ es, Blk e0 q) ∨ V.heap.size ≤ q := by
  rcases List.mem_append.1 he with g | g
  · exact Or.inl ⟨e, g, hq⟩
  · obtain rfl : e = x := by simpa using g
    exact Or.inr (Nat.le_trans hV (hx.blk hq).1)
theorem u_acc (h : LS W X K bv mk ke rm L C D E o A A' n w) (hD : D ≤ w.heap.size) (hE : E = w.heap.size) (e e0 : Ent) (he : Tw e e0) (hk : KeyS e.ct) (hl : Lies w e) : Calls Tryz.prog 20 #[bv, .agg #[.string e.ct, .slice e.tp e.tn e.tc, .int .i64 e.nu, .int .i64 e.tk, .slice e.cp e.cn e.cc, .string e.cd, .slice e.ap e.an e.ac]] w fun r w' => ∃ ev, r = .returned ev ∧ Hid (LS W X K bv mk ke rm L C D w'.heap.size o (accSo o A e0) A' n w' ∧ OEv w' w.heap.size ev 0 (accCo o A e0) ∧ (∀ q, C ≤ q → q < D → w'.heap[q]? = w.heap[q]?) ∧ w.heap.size ≤ w'.heap.size) := by
  rcases o with _ | ⟨K0, R⟩
  · obtain ⟨rfl, h2, h3, h4, h5, h6, h7⟩ := h.sd
    refine (accept_un (Or.inl rfl) e).mono fun r w' ⟨b, hr, hf⟩ => ⟨_, hr, ?_⟩
    obtain ⟨f1, f2, f3⟩ := hf.out
    have hb := h.below f3
    exact ⟨⟨hb.ex, ⟨rfl, h2, h3, h4, h5, h6, h7⟩, hb.bel, h.lX, h.lK⟩, Or.inr ⟨by show (3 : Int) ≠ 0; decide, b, rfl, f2, f1⟩, fun q _ h2 => f3.block q (by omega), f3.size⟩
  · obtain ⟨rfl, rfl, rfl, b, sb, M, v, es, es', hbv, hs⟩ := h.sd
    have hz : accC R es e = accC R A e0 := hs.t.acc_eq he
    by_cases h0 : accC R A e0 = 0
    · rw [hbv]
      refine (acc_yes2 hs.bx e hk hl (hz.trans h0)).mono fun r w' ⟨hr, hq⟩ => ⟨_, hr, ?_⟩
      obtain ⟨a, c, a', c', a'', c'', hb, hw⟩ := hq.out
      have ht : Tws (es ++ [e.wi a c a' c' a'' c'']) (accS R A e0) := by
        unfold accS
        rw [if_pos h0]
        exact hs.t.snoc (Tw.trans (Tw.symm ⟨a, c, a', c', a'', c'', rfl⟩) he)
      obtain ⟨g1, g2, g3⟩ := h.up hbv hs hD hE hb ht fun e hm q hq => blk_snoc hw hm hq (Nat.le_refl _)
      rw [hbv] at g1
      exact ⟨g1, Or.inl ⟨rfl, h0⟩, g2, g3⟩
    · rw [hbv]
      refine (acc_no hs.bx e hk hz h0).mono fun r w' ⟨ev, hr, hf, hle, hb⟩ => ⟨_, hr, ?_⟩
      have ht : Tws es (accS R A e0) := by
        unfold accS
        rw [if_neg h0]
        exact hs.t
      obtain ⟨g1, g2, g3⟩ := h.up hbv hs hD hE (hs.bx.same hb) ht fun e hm q hq => Or.inl ⟨e, hm, hq⟩
      rw [hbv] at g1
      exact ⟨g1, Or.inr ⟨h0, ev, rfl, hle, hf⟩, g2, g3⟩
theorem r_acc (h : LS W X K bv mk ke rm L C D E o A A' n w) (hE : E ≤ w.heap.size) (e e0 : Ent) (he : Tw e e0) (hl : Lies w e) : Calls Tryz.prog 21 #[.pointer (some ⟨X, 1, none⟩), .agg #[.string e.ct, .slice e.tp e.tn e.tc, .int .i64 e.nu, .int .i64 e.tk, .slice e.cp e.cn e.cc, .string e.cd, .slice e.ap e.an e.ac]] w fun r w' => r = .returned (.int .i64 (accCo o A' e0)) ∧ Hid (∃ L', LS W X K bv mk ke rm L' C D E o A (accSo o A' e0) n w' ∧ (∀ q, C ≤ q → q < E → w'.heap[q]? = w.heap[q]?) ∧ w.heap.size ≤ w'.heap.size) := by
  rcases o with _ | ⟨K0, R⟩
  · obtain ⟨h1, rfl, h3, h4, h5, h6, h7⟩ := h.sd
    refine (racc0 h.cells.2.1 e).mono fun r w' ⟨hr, hb⟩ => ⟨hr, L, ?_⟩
    have hb' := h.below hb
    exact ⟨⟨hb'.ex, ⟨h1, rfl, h3, h4, h5, h6, h7⟩, hb'.bel, h.lX, h.lK⟩, fun q _ h2 => hb.block q (by omega), hb.size⟩
  · obtain ⟨rfl, rfl, rfl, b, sb, M, v, es, es', hbv, hs⟩ := h.sd
    obtain ⟨v0, v1, v4, v5, v6, v7, x0, x1, x4, x5, x6, x7, hX, _⟩ := h.ex
    have hz : accC R es' e = accC R A' e0 := hs.t'.acc_eq he
    refine (racc_any (hs.rbx hX) ⟨_, _, _, hX, by decide, by decide⟩ h.bel.size e hl).mono fun r w' ⟨hr, hq⟩ => ⟨by rw [hr, hz]; rfl, ?_⟩
    rw [hz] at hq
    rcases hq.out with ⟨h0, hb⟩ | ⟨h0, a, c, a', c', a'', c'', hb, hw⟩
    · have ht : Tws es' (accS R A' e0) := by
        unfold accS
        rw [if_neg h0]
        exact hs.t'
      exact h.dn hbv hs hE ⟨L, (hs.rbx hX).below hb, Off.of_below hb, fun q hq => Or.inl hq, XK.of_off (P := fun _ => False) (Off.of_below hb) (fun hf => hf)⟩ ht fun e hm q hq => Or.inl ⟨e, hm, hq⟩
    · have ht : Tws (es' ++ [e.wi a c a' c' a'' c'']) (accS R A' e0) := by
        unfold accS
        rw [if_pos h0]
        exact hs.t'.snoc (Tw.trans (Tw.symm ⟨a, c, a', c', a'', c'', rfl⟩) he)
      exact h.dn hbv hs hE hb ht fun e hm q hq => blk_snoc hw hm hq (Nat.le_refl _)
end
end Go.Proofs.YtplhdgijjckjcaaGreatDoor

/-
  Both boxes: Decide, whatever it answers.
-/
namespace Go.Proofs.YtplhdgijjckjcaaGreatDoor
open Go.RowKit

theorem opB_vd {cd : ByteArray} (hv : vdB cd = true) (x : Ent) (p : Option Addr) (n c : Nat) (bs : List Int) : opB (x.vd cd p n c bs) = false := by
  show cd.toList.isEmpty = false
  unfold vdB at hv
  cases h : cd.toList with
  | nil => rw [h] at hv; simp at hv
  | cons _ _ => rfl
theorem blk_vd {es : List Ent} {i : Nat} {x : Ent} (hx : es[i]? = some x) {cd : ByteArray} {p : Option Addr} {n c : Nat} {bs : List Int} {K : Int} {V z : World} (hr : BRow z V.heap.size (.slice p n c) bs) {e : Ent} (he : e ∈ shedS K (es.set i (x.vd cd p n c bs))) {q : Nat} (hq : Blk e q) : (∃ e0 ∈ es, Blk e0 q) ∨ V.heap.size ≤ q := by
  rcases List.mem_or_eq_of_mem_set (mem_shed he) with g | rfl
  · exact Or.inl ⟨e, g, hq⟩
  · rcases hq with g | g | g
    · exact Or.inl ⟨x, List.mem_of_getElem? hx, Or.inl g⟩
    · exact Or.inl ⟨x, List.mem_of_getElem? hx, Or.inr (Or.inl g)⟩
    · exact Or.inr (ERow.lt hr g).1
section
variable {W w w' : World} {X K n C D E : Nat} {bv mk ke rm L : Value} {o : Option (Int × Int)} {A A' : List Ent}
theorem u_dec (h : LS W X K bv mk ke rm L C D E o A A' n w) (hD : D ≤ w.heap.size) (hE : E = w.heap.size) {s cd : ByteArray} {po : Option Addr} {m co : Nat} {bs : List Int} (hk : KeyS s) (hb : Byts w po m bs) (hm : m ≤ 9223372036854775807) : Calls Tryz.prog 26 #[bv, .string s, .string cd, .slice po m co] w fun r w' => ∃ a q k ev, r = .returned (.tuple #[.slice a q k, ev]) ∧ Hid (LS W X K bv mk ke rm L C D w'.heap.size o (dcSo o A s cd m bs) A' n w' ∧ OEv w' w.heap.size ev 0 (decCo o A s cd m) ∧ TRow w' w.heap.size (.slice a q k) (gnSo o A s cd m bs) ∧ (∀ q, C ≤ q → q < D → w'.heap[q]? = w.heap[q]?) ∧ w.heap.size ≤ w'.heap.size) := by
  rcases o with _ | ⟨K0, R⟩
  · obtain ⟨rfl, h2, h3, h4, h5, h6, h7⟩ := h.sd
    refine (decide_un (Or.inl rfl) s cd po m co).mono fun r w' ⟨hr, hf⟩ => ⟨none, 0, 0, _, hr, ?_⟩
    obtain ⟨f1, f3⟩ := hf.out
    have hb := h.below f3
    exact ⟨⟨hb.ex, ⟨rfl, h2, h3, h4, h5, h6, h7⟩, hb.bel, h.lX, h.lK⟩, Or.inr ⟨by show (3 : Int) ≠ 0; decide, _, rfl, Nat.le_refl _, f1⟩, ERow.nil _ _ _ _ _, fun q _ h2 => f3.block q (by omega), f3.size⟩
  · obtain ⟨rfl, rfl, rfl, b, sb, M, v, es, es', hbv, hs⟩ := h.sd
    have hz : decC es s cd m = decC A s cd m := hs.t.dec_eq
    by_cases h0 : decC A s cd m = 0
    · obtain ⟨hv, hn2, i, x, hf, hx, ho⟩ := decC_zero (hz.trans h0)
      obtain ⟨y, hy, hxy⟩ := hs.t.at_ hx
      have hfA : fi s A = some i := by rw [← hs.t.fi_eq]; exact hf
      have hgD : A.getD i zE = y := by rw [List.getD_eq_getElem?_getD, hy]; rfl
      rw [hbv]
      refine (dec_yes2 hs.bx hk hb hv hn2 hf hx ho).mono ?_
      rintro r w' ⟨u, hr, hq⟩
      obtain ⟨p, c, hT, hB, hR⟩ := hq.out
      have hts : Tws (es.set i (x.vd cd p m c bs)) (A.set i (y.vd cd none m 0 bs)) := hs.t.set (hxy.vd cd p m c bs none 0) i
      have e1 : dcS K0 A s cd m bs = shedS K0 (A.set i (y.vd cd none m 0 bs)) := by unfold dcS; rw [if_pos h0, hfA]; simp only [hgD]
      have e2 : gnS K0 A s cd m bs = goneS K0 (A.set i (y.vd cd none m 0 bs)) := by unfold gnS; rw [if_pos h0, hfA]; simp only [hgD]
      rw [hts.gone] at hT
      obtain ⟨a, k, e3, _⟩ := ERow.isSlice hT
      subst e3
      obtain ⟨g1, g2, g3⟩ := h.up hbv hs hD hE hB hts.shed fun e he q hq => blk_vd hx hR he hq
      rw [hbv] at g1
      show ∃ a q k ev, _ = Ending.returned (.tuple #[.slice a q k, ev]) ∧ Hid (LS W X K _ _ _ _ L C D w'.heap.size _ (dcS K0 A s cd m bs) A' n w' ∧ OEv w' w.heap.size ev 0 (decC A s cd m) ∧ TRow w' w.heap.size (.slice a q k) (gnS K0 A s cd m bs) ∧ _)
      rw [e1, e2]
      exact ⟨a, _, k, .nilIface, hr, g1, Or.inl ⟨rfl, h0⟩, hT, g2, g3⟩
    · rw [hbv]
      refine (dec_no hs.bx hk hm hz h0).mono ?_
      rintro r w' ⟨ev, hr, hf, hle, hb'⟩
      have e1 : dcS K0 A s cd m bs = A := by unfold dcS; rw [if_neg h0]
      have e2 : gnS K0 A s cd m bs = [] := by unfold gnS; rw [if_neg h0]
      obtain ⟨g1, g2, g3⟩ := h.up hbv hs hD hE (hs.bx.same hb') hs.t fun e he q hq => Or.inl ⟨e, he, hq⟩
      rw [hbv] at g1
      show ∃ a q k ev, _ = Ending.returned (.tuple #[.slice a q k, ev]) ∧ Hid (LS W X K _ _ _ _ L C D w'.heap.size _ (dcS K0 A s cd m bs) A' n w' ∧ OEv w' w.heap.size ev 0 (decC A s cd m) ∧ TRow w' w.heap.size (.slice a q k) (gnS K0 A s cd m bs) ∧ _)
      rw [e1, e2]
      exact ⟨none, 0, 0, _, hr, g1, Or.inr ⟨h0, ev, rfl, hle, hf⟩, ERow.nil _ _ _ _ _, g2, g3⟩
theorem many_tws {K : Int} {ls ms : List Ent} (h : Tws ls ms) : manyB K ls = manyB K ms := by unfold manyB; rw [h.dc_eq]
theorem r_dec (h : LS W X K bv mk ke rm L C D E o A A' n w) (hE : E ≤ w.heap.size) {s cd : ByteArray} {po : Option Addr} {m co : Nat} {bs : List Int} (hb : Byts w po m bs) (hpB : ∀ b of_, po = some ⟨b, of_, none⟩ → 0 < m → b < W.heap.size) : Calls Tryz.prog 27 #[.pointer (some ⟨X, 1, none⟩), .string s, .string cd, .slice po m co] w fun r w' => ∃ a q k, r = .returned (.tuple #[.slice a q k, .int .i64 (decCo o A' s cd m)]) ∧ Hid (∃ L', LS W X K bv mk ke rm L' C D E o A (dcSo o A' s cd m bs) n w' ∧ TRow w' w.heap.size (.slice a q k) (gnSo o A' s cd m bs) ∧ (∀ q, C ≤ q → q < E → w'.heap[q]? = w.heap[q]?) ∧ w.heap.size ≤ w'.heap.size) := by
  rcases o with _ | ⟨K0, R⟩
  · obtain ⟨h1, rfl, h3, h4, h5, h6, h7⟩ := h.sd
    refine (rdec0 h.cells.2.1 s cd po m co).mono fun r w' ⟨hr, hw⟩ => ⟨none, 0, 0, hr, L, ?_⟩
    subst hw
    exact ⟨⟨h.ex, ⟨h1, rfl, h3, h4, h5, h6, h7⟩, h.bel, h.lX, h.lK⟩, ERow.nil _ _ _ _ _, fun q _ h2 => rfl, Nat.le_refl _⟩
  · obtain ⟨rfl, rfl, rfl, b, sb, M, v, es, es', hbv, hs⟩ := h.sd
    obtain ⟨v0, v1, v4, v5, v6, v7, x0, x1, x4, x5, x6, x7, hX, _⟩ := h.ex
    have hrb := hs.rbx hX
    have hz : decC es' s cd m = decC A' s cd m := hs.t'.dec_eq
    show Calls _ _ _ _ fun r w' => ∃ a q k, r = .returned (.tuple #[.slice a q k, .int .i64 (decC A' s cd m)]) ∧ Hid (∃ L', LS W X K _ _ _ _ L' C D E _ A (dcS K0 A' s cd m bs) n w' ∧ TRow w' w.heap.size (.slice a q k) (gnS K0 A' s cd m bs) ∧ _)
    by_cases h0 : decC A' s cd m = 0
    · obtain ⟨hv, hn2, i, x, hf, hx, ho⟩ := decC_zero (hz.trans h0)
      obtain ⟨y, hy, hxy⟩ := hs.t'.at_ hx
      have hfA : fi s A' = some i := by rw [← hs.t'.fi_eq]; exact hf
      have hgD : A'.getD i zE = y := by rw [List.getD_eq_getElem?_getD, hy]; rfl
      have e1 : dcS K0 A' s cd m bs = shedS K0 (A'.set i (y.vd cd none m 0 bs)) := by unfold dcS; rw [if_pos h0, hfA]; simp only [hgD]
      have e2 : gnS K0 A' s cd m bs = goneS K0 (A'.set i (y.vd cd none m 0 bs)) := by unfold gnS; rw [if_pos h0, hfA]; simp only [hgD]
      have hT0 : Tws (es'.set i (x.vd cd none m 0 bs)) (A'.set i (y.vd cd none m 0 bs)) := hs.t'.set (hxy.vd cd none m 0 bs none 0) i
      have hTa : ∀ a k, Tws (es'.set i (x.vd cd a m k bs)) (es'.set i (x.vd cd none m 0 bs)) := fun a k => (Tws.refl es').set ((Tw.refl x).vd cd a m k bs none 0) i
      have hiv : ∀ a k, Inv K0 R (shedS K0 (es'.set i (x.vd cd a m k bs))) := fun a k => inv_shed hs.inv hx ho (opB_vd hv x a m k bs) rfl
      rw [e1, e2, h0]
      cases hmm : manyB K0 (es'.set i (x.vd cd none m 0 bs)) with
      | false =>
        have hm : ∀ a k, manyB K0 (es'.set i (x.vd cd a m k bs)) = false := fun a k => (many_tws (hTa a k)).trans hmm
        have hsd : ∀ a k, shedS K0 (es'.set i (x.vd cd a m k bs)) = es'.set i (x.vd cd a m k bs) := fun a k => by unfold shedS; rw [hm a k]; rfl
        have hgn : goneS K0 (A'.set i (y.vd cd none m 0 bs)) = [] := by rw [← hT0.gone]; unfold goneS; rw [hmm]; rfl
        refine (rdec_stay hrb ⟨_, _, _, hX, by decide, by decide⟩ h.bel.size s cd po m co bs hb hpB hv hn2 hf hx ho hm fun a k => by rw [← hsd a k]; exact hiv a k).mono ?_
        rintro r w' ⟨hr, hq⟩
        obtain ⟨a, k, hB, hR⟩ := hq.out
        have ht : Tws (es'.set i (x.vd cd a m k bs)) (shedS K0 (A'.set i (y.vd cd none m 0 bs))) := by
          rw [← hsd a k]
          exact ((hTa a k).trans hT0).shed
        obtain ⟨L', g1, g2, g3⟩ := h.dn hbv hs hE hB ht fun e he q hq => blk_vd (K := K0) hx hR (by rw [hsd a k]; exact he) hq
        exact ⟨none, 0, 0, hr, L', g1, by rw [hgn]; exact ERow.nil _ _ _ _ _, g2, g3⟩
      | true =>
        have hm : ∀ a k, manyB K0 (es'.set i (x.vd cd a m k bs)) = true := fun a k => (many_tws (hTa a k)).trans hmm
        obtain ⟨f, z, hfd, hzf, _⟩ := many_fd (by have := hs.inv.k1; omega) hmm
        have hgn : goneS K0 (A'.set i (y.vd cd none m 0 bs)) = [z.ct] := by
          rw [← hT0.gone]
          unfold goneS
          rw [hmm, hfd, if_pos rfl]
          simp only [List.getD_eq_getElem?_getD, hzf, Option.getD_some]
        refine (rdec_shed hrb ⟨_, _, _, hX, by decide, by decide⟩ h.bel.size s cd po m co bs hb hpB hv hn2 hf hx ho hm hiv (f := f) (y := z) fun a k => ?_).mono ?_
        · obtain ⟨z', h1, a1, c1, a2, c2, a3, c3, rfl⟩ := (hTa a k).symm.at_ hzf
          exact ⟨_, by rw [(hTa a k).fd_eq]; exact hfd, h1, rfl⟩
        · rintro r w' ⟨u, hr, hq⟩
          obtain ⟨hT, a, k, hB, hR⟩ := hq.out
          obtain ⟨a3, k3, e3, _⟩ := ERow.isSlice hT
          subst e3
          obtain ⟨L', g1, g2, g3⟩ := h.dn hbv hs hE hB ((hTa a k).trans hT0).shed fun e he q hq => blk_vd hx hR he hq
          exact ⟨a3, _, k3, hr, L', g1, by rw [hgn]; exact hT, g2, g3⟩
    · have e1 : dcS K0 A' s cd m bs = A' := by unfold dcS; rw [if_neg h0]
      have e2 : gnS K0 A' s cd m bs = [] := by unfold gnS; rw [if_neg h0]
      rw [e1, e2]
      refine (rdec_no hrb s cd po m co (by rw [hz]; exact h0)).mono ?_
      rintro r w' ⟨hr, hw⟩
      subst hw
      exact ⟨none, 0, 0, by rw [hr, hz], L, h, ERow.nil _ _ _ _ _, fun q _ _ => rfl, Nat.le_refl _⟩
end
end Go.Proofs.YtplhdgijjckjcaaGreatDoor

/-
  Both boxes: the calls that only tell.
-/
namespace Go.Proofs.YtplhdgijjckjcaaGreatDoor
open Go.RowKit

/-- What Find tells. -/
def fdE (s : ByteArray) (A : List Ent) : Ent := match fi s A with | some i => A.getD i zE | none => zE
theorem EnQ.tw {w w' : World} {x y : Ent} {t : Bool} {r : Ending} (h : Tw x y) (hq : EnQ w x t r w') : EnQ w y t r w' := by
  obtain ⟨a, c, a', c', a'', c'', rfl⟩ := h
  obtain ⟨p, d, p', d', p'', d'', h1, h2, h3⟩ := hq
  exact ⟨p, d, p', d', p'', d'', h1, h2, h3⟩
theorem Tws.las {es A : List Ent} (h : Tws es A) : Tw (lasE es) (lasE A) := by
  rcases Nat.eq_zero_or_pos es.length with h0 | h0
  · have h1 : es = [] := List.eq_nil_of_length_eq_zero h0
    have h2 : A = [] := List.eq_nil_of_length_eq_zero (by rw [← h.1]; exact h0)
    rw [h1, h2]
    exact Tw.refl _
  · obtain ⟨n, hn⟩ : ∃ n, es.length = n + 1 := ⟨es.length - 1, by omega⟩
    exact h.2 n _ _ (lasE_at hn) (lasE_at (by rw [← h.1]; exact hn))
theorem Tws.gt {es A : List Ent} (h : Tws es A) (i : Nat) : Tw (es.getD i zE) (A.getD i zE) := by
  rw [List.getD_eq_getElem?_getD, List.getD_eq_getElem?_getD]
  rcases Nat.lt_or_ge i es.length with hi | hi
  · have h1 := List.getElem?_eq_getElem hi
    have h2 := List.getElem?_eq_getElem (show i < A.length by rw [← h.1]; exact hi)
    rw [h1, h2]
    exact h.2 i _ _ h1 h2
  · rw [List.getElem?_eq_none hi, List.getElem?_eq_none (by rw [← h.1]; exact hi)]
    exact Tw.refl _
theorem Tws.ops {es A : List Ent} (h : Tws es A) : opS es = opS A := by
  have key : ∀ l : List Ent, opS (l.map Ent.nf) = opS l := fun l => by
    unfold opS
    induction l with
    | nil => rfl
    | cons x r ih =>
      rw [List.map_cons, List.filter_cons, List.filter_cons]
      have : opB x.nf = opB x := rfl
      rw [this]
      split
      · rw [List.map_cons, List.map_cons, ih]; rfl
      · exact ih
  rw [← key, ← key A, h.nf]
/-- A list of copies. -/
def LtQ (w : World) (A : List Ent) (r : Ending) (w' : World) : Prop := ∃ ls a c, r = .returned (.slice a A.length c) ∧ NRow w' w.heap.size (.slice a A.length c) ls ∧ (∀ l ∈ ls, Own w' w.heap.size l) ∧ Tws ls A ∧ Below w.heap.size w w'
section
variable {W w w' : World} {X K n C D E : Nat} {bv mk ke rm L : Value} {o : Option (Int × Int)} {A A' : List Ent}
theorem LS.bnd (h : LS W X K bv mk ke rm L C D E o A A' n w) : A.length ≤ 97 ∧ A'.length ≤ 97 ∧ (∀ e ∈ A, mayB e = true) := by
  rcases o with _ | ⟨K0, R⟩
  · obtain ⟨_, _, _, _, _, rfl, rfl⟩ := h.sd
    exact ⟨by decide, by decide, fun e he => by cases he⟩
  · obtain ⟨rfl, rfl, rfl, b, sb, M, v, es, es', hbv, hs⟩ := h.sd
    refine ⟨by rw [← hs.t.1]; exact hs.bx.inv.len, by rw [← hs.t'.1]; exact hs.inv.len, fun e he => ?_⟩
    obtain ⟨i, hi, rfl⟩ := List.getElem_of_mem he
    have hj : i < es.length := by rw [hs.t.1]; exact hi
    obtain ⟨a, c, a', c', a'', c'', e1⟩ := hs.t.2 i _ _ (List.getElem?_eq_getElem hj) (List.getElem?_eq_getElem hi)
    have := hs.bx.sh.ok es[i] (List.getElem_mem hj)
    rw [e1]
    exact this
theorem zE_bnd : zE.tn ≤ 8192 ∧ zE.cn ≤ 2048 ∧ zE.an ≤ 2048 := by decide
theorem may_bnd {e : Ent} (h : mayB e = true) : e.tn ≤ 8192 ∧ e.cn ≤ 2048 ∧ e.an ≤ 2048 := by have := mayB_is h; exact ⟨this.2.2.1, this.2.2.2.2.2.2.2.1, this.2.2.2.2.2.2.2.2⟩
theorem get_bnd {A : List Ent} (h : ∀ e ∈ A, mayB e = true) (i : Nat) : (A.getD i zE).tn ≤ 8192 ∧ (A.getD i zE).cn ≤ 2048 ∧ (A.getD i zE).an ≤ 2048 := by
  rw [List.getD_eq_getElem?_getD]
  cases hi : A[i]? with
  | none => exact zE_bnd
  | some x => exact may_bnd (h x (List.mem_of_getElem? hi))
theorem fd_bnd {A : List Ent} (h : ∀ e ∈ A, mayB e = true) (s : ByteArray) : (fdE s A).tn ≤ 8192 ∧ (fdE s A).cn ≤ 2048 ∧ (fdE s A).an ≤ 2048 := by
  unfold fdE
  cases fi s A with
  | none => exact zE_bnd
  | some i => exact get_bnd h i
theorem las_bnd {A : List Ent} (h : ∀ e ∈ A, mayB e = true) : (lasE A).tn ≤ 8192 ∧ (lasE A).cn ≤ 2048 ∧ (lasE A).an ≤ 2048 := by
  unfold lasE
  cases hi : A.getLast? with
  | none => exact zE_bnd
  | some x => exact may_bnd (h x (List.mem_of_getLast? hi))
theorem u_open (h : LS W X K bv mk ke rm L C D E o A A' n w) : Calls Tryz.prog 37 #[bv] w fun r w' => ∃ a c, r = .returned (.slice a (opS A).length c) ∧ TRow w' w.heap.size (.slice a (opS A).length c) (opS A) ∧ Below w.heap.size w w' := by
  rcases o with _ | ⟨K0, R⟩
  · obtain ⟨rfl, _, _, _, _, rfl, _⟩ := h.sd
    refine (open_un (Or.inl rfl)).mono fun r w' ⟨hr, hw⟩ => ⟨none, 0, hr, ERow.nil _ _ _ _ _, by rw [hw]; exact Below.refl _ _⟩
  · obtain ⟨rfl, rfl, rfl, b, sb, M, v, es, es', hbv, hs⟩ := h.sd
    rw [hbv]
    refine (open_any hs.bx).mono fun r w' ⟨u, hr, ht, hb⟩ => ?_
    rw [hs.t.ops] at ht
    obtain ⟨a, c, e, _⟩ := ERow.isSlice ht
    subst e
    exact ⟨a, c, hr, ht, hb⟩
theorem r_open (h : LS W X K bv mk ke rm L C D E o A A' n w) : Calls Tryz.prog 10 #[.pointer (some ⟨X, 1, none⟩)] w fun r w' => ∃ a c, r = .returned (.slice a (opS A').length c) ∧ TRow w' w.heap.size (.slice a (opS A').length c) (opS A') ∧ Below w.heap.size w w' := by
  rcases o with _ | ⟨K0, R⟩
  · obtain ⟨_, _, _, _, rfl, _, rfl⟩ := h.sd
    refine (ropen0 h.cells.2.2.1).mono fun r w' ⟨hr, hw⟩ => ⟨none, 0, hr, ERow.nil _ _ _ _ _, by rw [hw]; exact Below.refl _ _⟩
  · obtain ⟨rfl, rfl, rfl, b, sb, M, v, es, es', hbv, hs⟩ := h.sd
    obtain ⟨v0, v1, v4, v5, v6, v7, x0, x1, x4, x5, x6, x7, hX, _⟩ := h.ex
    refine (ropens_any (hs.rbx hX) (by have := hs.inv.len; omega)).mono fun r w' ⟨u, hr, ht, hb⟩ => ?_
    rw [hs.t'.ops] at ht
    obtain ⟨a, c, e, _⟩ := ERow.isSlice ht
    subst e
    exact ⟨a, c, hr, ht, hb⟩
theorem u_last (h : LS W X K bv mk ke rm L C D E o A A' n w) : Calls Tryz.prog 36 #[bv] w (EnQ w (lasE A) (decide (0 < A.length))) := by
  rcases o with _ | ⟨K0, R⟩
  · obtain ⟨rfl, _, _, _, _, rfl, _⟩ := h.sd
    exact last_un (Or.inl rfl)
  · obtain ⟨rfl, rfl, rfl, b, sb, M, v, es, es', hbv, hs⟩ := h.sd
    rw [hbv]
    exact (blast_any hs.bx rfl (t := decide (0 < A.length)) (by rw [hs.t.1])).mono fun r w' hq => EnQ.tw hs.t.las hq
/-- The document's own list. -/
theorem LS.docrow (h : LS W X K bv mk ke rm L C D E o A A n w) : ∃ a c ls, L = .slice a A.length c ∧ NRow w W.heap.size (.slice a A.length c) ls ∧ (∀ l ∈ ls, Own w W.heap.size l) ∧ Tws ls A ∧ ∀ l ∈ ls, l.tn ≤ 8192 ∧ l.cn ≤ 2048 ∧ l.an ≤ 2048 := by
  rcases o with _ | ⟨K0, R⟩
  · obtain ⟨_, _, _, _, rfl, rfl, _⟩ := h.sd
    exact ⟨none, 0, [], rfl, ERow.nil _ _ _ _ _, fun l hl => (by cases hl), Tws.refl _, fun l hl => (by cases hl)⟩
  · have hbn := h.bnd.2.2
    obtain ⟨rfl, rfl, rfl, b, sb, M, v, es, es', hbv, hs⟩ := h.sd
    have hr := hs.row
    obtain ⟨a, c, e, _⟩ := ERow.isSlice hr
    rw [e, hs.t'.1] at hr
    refine ⟨a, c, es', by rw [e, hs.t'.1], hr, hs.own, hs.t', fun l hl => ?_⟩
    obtain ⟨i, hi, rfl⟩ := List.getElem_of_mem hl
    have hj : i < A.length := by rw [← hs.t'.1]; exact hi
    have h1 := may_bnd (hbn A[i] (List.getElem_mem hj))
    obtain ⟨a, c, a', c', a'', c'', e1⟩ := hs.t'.2 i _ _ (List.getElem?_eq_getElem hi) (List.getElem?_eq_getElem hj)
    rw [e1] at h1
    exact h1
theorem r_last (h : LS W X K bv mk ke rm L C D E o A A n w) : Calls Tryz.prog 12 #[.pointer (some ⟨X, 1, none⟩)] w (EnQ w (lasE A) (decide (0 < A.length))) := by
  have hE : ∀ z z', Below z.heap.size z z' → EnQ z zE false (.returned (.tuple #[.agg #[.string ⟨#[]⟩, .slice none 0 0, .int .i64 0, .int .i64 0, .slice none 0 0, .string ⟨#[]⟩, .slice none 0 0], .bool false])) z' := fun z z' hb => ⟨none, 0, none, 0, none, 0, rfl, zE_own _ _, hb⟩
  obtain ⟨a0, c0, ls0, eL, hrow, hown, htw, hbn⟩ := h.docrow
  rcases Nat.eq_zero_or_pos A.length with h0 | h0
  · have h2 : A = [] := List.eq_nil_of_length_eq_zero h0
    have cL := h.cells.2.2.1
    rw [eL, h0] at cL
    rw [h2]
    refine (rlastN cL).mono fun r w' ⟨hr, hb⟩ => by rw [hr]; exact hE _ _ hb
  · rcases o with _ | ⟨K0, R⟩
    · obtain ⟨_, _, _, _, _, rfl, _⟩ := h.sd
      exact absurd h0 (by decide)
    · obtain ⟨rfl, rfl, rfl, b, sb, M, v, es, es', hbv, hs⟩ := h.sd
      obtain ⟨v0, v1, v4, v5, v6, v7, x0, x1, x4, x5, x6, x7, hX, _⟩ := h.ex
      obtain ⟨k, hk⟩ : ∃ k, es'.length = k + 1 := ⟨es'.length - 1, by have := hs.t'.1; omega⟩
      have hl := lasE_at hk
      obtain ⟨q1, q2, q3⟩ : (lasE es').tn ≤ 8192 ∧ (lasE es').cn ≤ 2048 ∧ (lasE es').an ≤ 2048 := by
        obtain ⟨a, c, a', c', a'', c'', e1⟩ := hs.t'.las
        have h1 := las_bnd h.bnd.2.2
        rw [e1] at h1
        exact h1
      rw [show decide (0 < A.length) = true from decide_eq_true h0]
      exact (rlast_yes (hs.rbx hX) hk hl (by have := hs.inv.len; omega) ⟨by omega, by omega, by omega⟩).mono fun r w' hq => EnQ.tw hs.t'.las hq
theorem u_find (h : LS W X K bv mk ke rm L C D E o A A' n w) {s : ByteArray} (hk : KeyS s) : Calls Tryz.prog 32 #[bv, .string s] w (EnQ w (fdE s A) (fi s A).isSome) := by
  rcases o with _ | ⟨K0, R⟩
  · obtain ⟨rfl, _, _, _, _, rfl, _⟩ := h.sd
    exact find_un (Or.inl rfl) s
  · obtain ⟨rfl, rfl, rfl, b, sb, M, v, es, es', hbv, hs⟩ := h.sd
    rw [hbv]
    unfold fdE
    rw [← hs.t.fi_eq]
    cases hf : fi s es with
    | none => exact find_no hs.bx hk hf
    | some i =>
      obtain ⟨x, hx, _, _⟩ := fi_some hf
      have hg := hs.t.gt i
      rw [List.getD_eq_getElem?_getD, hx] at hg
      exact (find_yes hs.bx hk hf hx).mono fun r w' hq => EnQ.tw hg hq
theorem r_find (h : LS W X K bv mk ke rm L C D E o A A n w) (s : ByteArray) : Calls Tryz.prog 33 #[.pointer (some ⟨X, 1, none⟩), .string s] w (EnQ w (fdE s A) (fi s A).isSome) := by
  have hbn := h.bnd.2.2
  rcases o with _ | ⟨K0, R⟩
  · obtain ⟨_, _, _, _, rfl, rfl, _⟩ := h.sd
    exact rfind0 h.cells.2.2.1 s
  · obtain ⟨rfl, rfl, rfl, b, sb, M, v, es, es', hbv, hs⟩ := h.sd
    obtain ⟨v0, v1, v4, v5, v6, v7, x0, x1, x4, x5, x6, x7, hX, _⟩ := h.ex
    unfold fdE
    rw [← hs.t'.fi_eq]
    cases hf : fi s es' with
    | none => exact rfind_no (hs.rbx hX) s hf
    | some i =>
      obtain ⟨x, hx, _, _⟩ := fi_some hf
      have hg := hs.t'.gt i
      rw [List.getD_eq_getElem?_getD, hx] at hg
      obtain ⟨q1, q2, q3⟩ : x.tn ≤ 8192 ∧ x.cn ≤ 2048 ∧ x.an ≤ 2048 := by
        obtain ⟨a, c, a', c', a'', c'', e1⟩ := hg
        have h1 := get_bnd hbn i
        rw [e1] at h1
        exact h1
      exact (rfind_yes (hs.rbx hX) s hf hx ⟨by omega, by omega, by omega⟩).mono fun r w' hq => EnQ.tw hg hq
theorem u_list (h : LS W X K bv mk ke rm L C D E o A A' n w) : Calls Tryz.prog 38 #[bv] w (LtQ w A) := by
  rcases o with _ | ⟨K0, R⟩
  · obtain ⟨rfl, _, _, _, _, rfl, _⟩ := h.sd
    exact (list_un (Or.inl rfl)).mono fun r w' ⟨hr, hw⟩ => ⟨[], none, 0, hr, ERow.nil _ _ _ _ _, fun l hl => (by cases hl), Tws.refl _, by rw [hw]; exact Below.refl _ _⟩
  · obtain ⟨rfl, rfl, rfl, b, sb, M, v, es, es', hbv, hs⟩ := h.sd
    rw [hbv]
    refine (list_any hs.bx).mono fun r w' ⟨ls, a, c, hr, h1, h2, h3⟩ => ?_
    rw [hs.t.1] at hr h1
    refine ⟨ls, a, c, hr, h1, fun l hl => ?_, h2.tws.trans hs.t, h3⟩
    obtain ⟨i, hi, rfl⟩ := List.getElem_of_mem hl
    exact (h2.2 i _ _ (List.getElem?_eq_getElem hi) (List.getElem?_eq_getElem (by rw [← h2.1]; exact hi))).2
theorem u_count (h : LS W X K bv mk ke rm L C D E o A A' n w) : Calls Tryz.prog 41 #[bv] w fun r w' => r = .returned (.tuple #[.int .i64 (A.length : Int), .int .i64 (nOp A : Int)]) ∧ Below w.heap.size w w' := by
  rcases o with _ | ⟨K0, R⟩
  · obtain ⟨rfl, _, _, _, _, rfl, _⟩ := h.sd
    exact (count_un (Or.inl rfl)).mono fun r w' ⟨hr, hw⟩ => ⟨hr, by rw [hw]; exact Below.refl _ _⟩
  · obtain ⟨rfl, rfl, rfl, b, sb, M, v, es, es', hbv, hs⟩ := h.sd
    rw [hbv, ← hs.t.1, ← hs.t.op_eq]
    exact (count_any hs.bx).mono fun r w' ⟨hr, m, hw⟩ => ⟨hr, by rw [hw]; exact below_drewN (Below.refl _ _) _⟩
theorem r_count (h : LS W X K bv mk ke rm L C D E o A A' n w) : Calls Tryz.prog 42 #[.pointer (some ⟨X, 1, none⟩)] w fun r w' => r = .returned (.tuple #[.int .i64 (A'.length : Int), .int .i64 (nOp A' : Int)]) ∧ Below w.heap.size w w' := by
  rcases o with _ | ⟨K0, R⟩
  · obtain ⟨_, _, _, _, rfl, _, rfl⟩ := h.sd
    exact (rcount0 h.cells.2.2.1).mono fun r w' ⟨hr, hw⟩ => ⟨hr, hw.out⟩
  · obtain ⟨rfl, rfl, rfl, b, sb, M, v, es, es', hbv, hs⟩ := h.sd
    obtain ⟨v0, v1, v4, v5, v6, v7, x0, x1, x4, x5, x6, x7, hX, _⟩ := h.ex
    rw [← hs.t'.1, ← hs.t'.op_eq]
    exact rcount_any (hs.rbx hX) (by have := hs.inv.len; omega)
end
end Go.Proofs.YtplhdgijjckjcaaGreatDoor
