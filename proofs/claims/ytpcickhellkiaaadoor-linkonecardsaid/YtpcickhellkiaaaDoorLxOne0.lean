/-
  LinkOne's round: the link, the call's box.
-/
import Derived.Test.YtpcickhellkiaaaDoorLxOps
namespace Go.Proofs.YtpcickhellkiaaaDoor
open Go.RowKit

/-- The link, and the call in its box at Z. -/
structure OJ (W : World) (lb : Nat) (σ : LSt) (Z : Nat) (cs : Array Value) (X : World) : Prop where
  ps : PS W (some ⟨lb, 0, none⟩) σ X
  ok : SOk σ
  o : ∀ j, X.cell? ⟨Z, j, none⟩ = cs[j]?
  z : Z < X.heap.size
  ne : Z ≠ lb
/-- What is asked of Half, Len, Flight of a side. -/
def hfS (σ : LSt) (s : Int) : Int := cV (-1) (-1) (fun c => c.2) σ s
def flS (σ : LSt) (s : Int) : List (List Int) := cV [] [] (fun c => c.1) σ s
section
variable {W z y : World} {lb Z : Nat} {σ σ' : LSt} {cs : Array Value}
theorem half_ok (ho : SOk σ) (s : Int) : -1 ≤ hfS σ s ∧ hfS σ s < ((flS σ s).length : Int) ∧ (flS σ s).length ≤ 256 := by
  unfold hfS flS
  rcases side_cases σ s with ⟨code, hn⟩ | ⟨cc, k, rfl, hk, rfl⟩
  · rw [hn.v2, hn.v2]; simp
  · rw [cV_at hk, cV_at hk]
    have := ho.at_ k
    exact ⟨this.h1, this.h2, this.len⟩
theorem OJ.below (h : OJ W lb σ Z cs z) (hb : Below z.heap.size z y) : OJ W lb σ Z cs y :=
  ⟨h.ps.below hb, h.ok, fun j => (hb.cell (p := ⟨Z, j, none⟩) h.z).trans (h.o j), Nat.lt_of_lt_of_le h.z hb.size, h.ne⟩
theorem OJ.step (h : OJ W lb σ Z cs z) (hp : PS W (some ⟨lb, 0, none⟩) σ' y) (ho : SOk σ') (hoff : Off (fun q => (some ⟨lb, 0, none⟩ : Option Addr) = some ⟨q, 0, none⟩) z y) : OJ W lb σ' Z cs y := by
  refine ⟨hp, ho, fun j => (hoff.cell (p := ⟨Z, j, none⟩) h.z fun e => ?_).trans (h.o j), Nat.lt_of_lt_of_le h.z hoff.size, h.ne⟩
  injection e with e; injection e with e
  exact h.ne e.symm
theorem OJ.start {X : World} (h : PS W (some ⟨lb, 0, none⟩) σ X) (ho : SOk σ) (cs : Array Value) : OJ W lb σ X.heap.size cs (X.alloc (.cells cs 45)) := by
  have b1 := (Below.refl X.heap.size X).alloc (Nat.le_refl _) (.cells cs 45)
  refine ⟨h.below b1, ho, fun j => cell_new X cs _ j, by simp, fun e => ?_⟩
  obtain ⟨F, k1, _⟩ := h
  have := (k1.lt.2 lb rfl).1
  omega
theorem oSend (h : OJ W lb σ Z cs z) {po : Option Addr} {m c : Nat} {bs : List Int} (hb : Byts W po m bs) (s : Int) : Calls Tryd.prog 11 #[.pointer (some ⟨lb, 0, none⟩), .int .i64 s, .slice po m c] z fun e w' => ∃ v, e = .returned v ∧ Hid (∃ σ', OJ W lb σ' Z cs w') :=
  (kSend h.ps (hb.below h.ps.b) s).mono fun _ _ ⟨v, e1, e2⟩ => ⟨v, e1, _, h.step e2.out.2.1 (h.ok.step (fun _ hc => hc.send) s) e2.out.2.2⟩
theorem oRaw (h : OJ W lb σ Z cs z) {po : Option Addr} {m c : Nat} {bs : List Int} (hb : Byts W po m bs) (s : Int) : Calls Tryd.prog 18 #[.pointer (some ⟨lb, 0, none⟩), .int .i64 s, .slice po m c] z fun e w' => ∃ v, e = .returned v ∧ Hid (∃ σ', OJ W lb σ' Z cs w') :=
  (kRaw h.ps (hb.below h.ps.b) s).mono fun _ _ ⟨v, e1, e2⟩ => ⟨v, e1, _, h.step e2.out.2.1 (h.ok.step (fun _ hc => hc.send) s) e2.out.2.2⟩
theorem oNoise (h : OJ W lb σ Z cs z) {po : Option Addr} {m c : Nat} {bs : List Int} (hb : Byts W po m bs) (s : Int) : Calls Tryd.prog 19 #[.pointer (some ⟨lb, 0, none⟩), .int .i64 s, .slice po m c] z fun e w' => ∃ v, e = .returned v ∧ Hid (∃ σ', OJ W lb σ' Z cs w') :=
  (kNoise h.ps (hb.below h.ps.b) s).mono fun _ _ ⟨v, e1, e2⟩ => ⟨v, e1, _, h.step e2.out.2.1 (h.ok.step (fun _ hc => hc.noise) s) e2.out.2.2⟩
theorem oDrop (h : OJ W lb σ Z cs z) (s i : Int) : Calls Tryd.prog 22 #[.pointer (some ⟨lb, 0, none⟩), .int .i64 s, .int .i64 i] z fun e w' => ∃ v, e = .returned v ∧ Hid (∃ σ', OJ W lb σ' Z cs w') :=
  (kDrop h.ps s i).mono fun _ _ ⟨v, e1, e2⟩ => ⟨v, e1, _, h.step e2.out.2.1 (h.ok.step (fun _ hc => hc.drop) s) e2.out.2.2⟩
theorem oClip (h : OJ W lb σ Z cs z) (s i n : Int) : Calls Tryd.prog 23 #[.pointer (some ⟨lb, 0, none⟩), .int .i64 s, .int .i64 i, .int .i64 n] z fun e w' => ∃ v, e = .returned v ∧ Hid (∃ σ', OJ W lb σ' Z cs w') :=
  (kClip h.ps s i n).mono fun _ _ ⟨v, e1, e2⟩ => ⟨v, e1, _, h.step e2.out.2.1 (h.ok.step (fun _ hc => hc.clip) s) e2.out.2.2⟩
/-- Of the broken piece no copy is made. -/
theorem dbl_half (s i : Int) (h0 : 0 ≤ hfS σ s) (hi : hfS σ s = i) : cV 3 1 (fun c => dblE c i) σ s = 2 := by
  unfold hfS at h0 hi
  rcases side_cases σ s with ⟨code, hn⟩ | ⟨cc, k, rfl, hk, rfl⟩
  · rw [hn.v2] at h0; omega
  · rw [cV_at hk] at hi ⊢
    unfold dblE
    rw [if_neg fun g => g.2 hi.symm]
theorem oDouble (h : OJ W lb σ Z cs z) (s i : Int) : Calls Tryd.prog 21 #[.pointer (some ⟨lb, 0, none⟩), .int .i64 s, .int .i64 i] z fun e w' => ∃ v, e = .returned v ∧ Hid ((0 ≤ hfS σ s → hfS σ s = i → EvIs w' v 0 2) ∧ ∃ σ', OJ W lb σ' Z cs w') :=
  (kDouble h.ps s i).mono fun _ _ ⟨v, e1, e2⟩ => ⟨v, e1, fun h0 hi => by
    have := e2.out.1
    rw [dbl_half s i h0 hi] at this
    exact this, _, h.step e2.out.2.1 (h.ok.step (fun _ hc => hc.dbl) s) e2.out.2.2⟩
theorem oHalf (h : OJ W lb σ Z cs z) (s : Int) : Calls Tryd.prog 14 #[.pointer (some ⟨lb, 0, none⟩), .int .i64 s] z fun e w' => e = .returned (.int .i64 (hfS σ s)) ∧ Hid (OJ W lb σ Z cs w' ∧ Below z.heap.size z w') :=
  (kHalf h.ps s).mono fun _ _ ⟨e1, e2⟩ => ⟨e1, h.below e2.out, e2.out⟩
theorem oLen (h : OJ W lb σ Z cs z) (s : Int) : Calls Tryd.prog 17 #[.pointer (some ⟨lb, 0, none⟩), .int .i64 s] z fun e w' => e = .returned (.int .i64 ((flS σ s).length : Int)) ∧ Hid (OJ W lb σ Z cs w') :=
  (kLen h.ps s).mono fun _ _ ⟨e1, e2⟩ => ⟨e1, h.below e2.out⟩
theorem oFlight (h : OJ W lb σ Z cs z) (s : Int) : Calls Tryd.prog 16 #[.pointer (some ⟨lb, 0, none⟩), .int .i64 s] z fun e w' => ∃ a c, e = .returned (.slice a (flS σ s).length c) ∧ Hid (OJ W lb σ Z cs w' ∧ (∃ ls, FlL w' z.heap.size (.slice a (flS σ s).length c) ls (flS σ s)) ∧ Below z.heap.size z w') :=
  (kFlight h.ps s rfl (half_ok h.ok s).2.2).mono fun _ _ ⟨a, c, e1, e2⟩ => ⟨a, c, e1, h.below e2.out.2.2, e2.out.2.1, e2.out.2.2⟩
/-- The piece at a place of what Flight told. -/
theorem FlL.at_ {X : World} {n₀ : Nat} {a : Option Addr} {n c : Nat} {ls : List Pc} {t : List (List Int)} (h : FlL X n₀ (.slice a n c) ls t) {k : Nat} (hk : k < n) : ∃ g pb pn pc, a = some ⟨g, 0, none⟩ ∧ g < X.heap.size ∧ n₀ ≤ g ∧ X.cell? ⟨g, k, none⟩ = some (.slice (some ⟨pb, 0, none⟩) pn pc) ∧ BRow X n₀ (.slice (some ⟨pb, 0, none⟩) pn pc) (t.getD k []) ∧ pn ≤ 8195 ∧ pn ≤ pc ∧ pc ≤ maxLen ∧ pb < X.heap.size := by
  have hl := ERow.len h.row
  obtain ⟨p, hp⟩ : ∃ p, ls[k]? = some p := ⟨_, List.getElem?_eq_getElem (by omega)⟩
  obtain ⟨g, eg, hg, hc⟩ := ERow.at_ encPc_len h.row hp
  have d1 := hc 0 (by decide)
  simp only [encPc, List.getElem?_cons_zero, Nat.mul_one, Nat.add_zero] at d1
  obtain ⟨hok, b, eb⟩ := h.pcs p (List.mem_of_getElem? hp)
  have hb : BRow X n₀ (.slice (some ⟨b, 0, none⟩) p.n p.c) p.bs := by have := hok.1; rwa [eb] at this
  have hcap : p.n ≤ p.c ∧ p.c ≤ maxLen := by
    rcases ERow.form hb with ⟨e, _⟩ | ⟨g, cap, e, _, _, h1, h2⟩
    · cases e
    · simp only [Value.slice.injEq] at e
      have := ERow.len hb
      omega
  rw [eb] at d1
  refine ⟨g, b, p.n, p.c, eg, hg, ?_, d1, ?_, hok.2, hcap.1, hcap.2, (ERow.lt hb rfl).2⟩
  · subst eg; exact (ERow.lt h.row rfl).1
  · rw [← h.bs, List.getD_eq_getElem?_getD, List.getElem?_map, hp]
    exact hb
/-- What a Carry that is done tells and leaves. -/
structure CarD (σ σ' : LSt) (s : Int) (k : Nat) (R : List Int) : Prop where
  lt : k < (flS σ s).length
  h : ¬ (0 ≤ hfS σ s ∧ hfS σ s ≠ k)
  r1 : 1 ≤ R.length
  r2 : R.length ≤ ((flS σ s).getD k []).length
  r3 : R = ((flS σ s).getD k []).take R.length
  part : R.length < ((flS σ s).getD k []).length → hfS σ' s = k ∧ (flS σ' s).length = (flS σ s).length ∧ (flS σ' s).getD k [] = ((flS σ s).getD k []).drop R.length
  whole : R.length = ((flS σ s).getD k []).length → hfS σ' s = -1 ∧ (flS σ' s).length = (flS σ s).length - 1
theorem car_told (ho : SOk σ) (s i n : Int) (hc : cV 3 1 (fun c => carE c i n) σ s = 0) : ∃ k : Nat, i = k ∧ CarD σ (cS (fun c => carC c i n) σ s) s k (cV [] [] (fun c => carR c i n) σ s) := by
  rcases side_cases σ s with ⟨code, hn⟩ | ⟨cc, j, rfl, hj, rfl⟩
  · rw [hn.v] at hc
    have := hn.cd
    rw [hc] at this
    cases this
  · rw [cV_at hj] at hc
    have hc' : isAt (csd cc j) i = true ∧ 0 ≤ n ∧ n ≤ (pcAt (csd cc j) i).length ∧ ¬ (0 ≤ (csd cc j).2 ∧ (csd cc j).2 ≠ i) := by
      have := hc
      unfold carE at this
      split at this
      · assumption
      · omega
    have hi := isAt_iff.1 hc'.1
    obtain ⟨k, rfl⟩ : ∃ k : Nat, i = k := ⟨i.toNat, by omega⟩
    obtain ⟨m, rfl⟩ : ∃ m : Nat, n = m := ⟨n.toNat, by omega⟩
    have hok := ho.at_ j
    have hp := hok.pcs _ (pcAt_mem hc'.1).1
    have eP : (csd cc j).1.getD k [] = pcAt (csd cc j) (k : Int) := by unfold pcAt; rw [Int.toNat_natCast]
    have eF : flS (some cc) (j : Int) = (csd cc j).1 := cV_at hj
    have eH : hfS (some cc) (j : Int) = (csd cc j).2 := cV_at hj
    have key : ∀ g : Sd → Sd, flS (cS g (some cc) (j : Int)) (j : Int) = (g (csd cc j)).1 ∧ hfS (cS g (some cc) (j : Int)) (j : Int) = (g (csd cc j)).2 := fun g => by
      rcases (by omega : j = 0 ∨ j = 1) with rfl | rfl <;> exact ⟨rfl, rfl⟩
    obtain ⟨kF, kH⟩ := key (fun c => carC c k m)
    rw [cV_at hj]
    refine ⟨k, rfl, ?_⟩
    by_cases hw : carW (csd cc j) (k : Int) (m : Int) = true
    · have eR : carR (csd cc j) k m = pcAt (csd cc j) k := by unfold carR; rw [if_pos hc, if_pos hw]
      have eC : carC (csd cc j) k m = goneC (csd cc j) k := by unfold carC; rw [if_pos hc, if_pos hw, Int.toNat_natCast]
      rw [eR]
      refine ⟨by rw [eF]; omega, by rw [eH]; exact hc'.2.2.2, hp.1, by rw [eF, eP]; exact Nat.le_refl _, by rw [eF, eP, List.take_length], fun hlt => ?_, fun _ => ?_⟩
      · rw [eF, eP] at hlt; omega
      · rw [kH, kF, eC, eF]
        refine ⟨?_, ?_⟩
        · show goneH (csd cc j).2 k = -1
          have := hok.h1
          unfold goneH
          split
          · rfl
          · split <;> omega
        · show ((csd cc j).1.eraseIdx k).length = _
          rw [List.length_eraseIdx_of_lt (by omega)]
    · have eR : carR (csd cc j) k m = (pcAt (csd cc j) k).take m := by unfold carR; rw [if_pos hc, if_neg hw, Int.toNat_natCast]
      have eC : carC (csd cc j) k m = ((csd cc j).1.set k ((pcAt (csd cc j) k).drop m), (k : Int)) := by unfold carC; rw [if_pos hc, if_neg hw, Int.toNat_natCast, Int.toNat_natCast]
      have hw' : m ≠ 0 ∧ m ≠ (pcAt (csd cc j) (k : Int)).length := by
        unfold carW at hw
        simp only [Bool.or_eq_true, decide_eq_true_eq, not_or] at hw
        omega
      have hl : ((pcAt (csd cc j) (k : Int)).take m).length = m := by rw [List.length_take]; omega
      rw [eR]
      refine ⟨by rw [eF]; omega, by rw [eH]; exact hc'.2.2.2, by rw [hl]; omega, by rw [hl, eF, eP]; omega, by rw [hl, eF, eP], fun _ => ?_, fun he => ?_⟩
      · rw [kH, kF, eC, eF, hl, eP]
        refine ⟨rfl, by simp, ?_⟩
        show ((csd cc j).1.set k ((pcAt (csd cc j) (k : Int)).drop m)).getD k [] = _
        rw [List.getD_eq_getElem?_getD, List.getElem?_set_self (by omega)]
        rfl
      · rw [hl, eF, eP] at he; omega
theorem oCarry (h : OJ W lb σ Z cs z) (s i n : Int) : Calls Tryd.prog 12 #[.pointer (some ⟨lb, 0, none⟩), .int .i64 s, .int .i64 i, .int .i64 n] z fun e w' => ∃ a m c v, e = .returned (.tuple #[.slice a m c, v]) ∧ Hid (((m = 0 ∧ ∃ b, v = .iface 88 (.pointer (some ⟨b, 0, none⟩))) ∨ (v = .nilIface ∧ ∃ k R, i = (k : Nat) ∧ CarD σ (cS (fun c => carC c i n) σ s) s k R ∧ BRow w' z.heap.size (.slice a m c) R)) ∧ OJ W lb (cS (fun c => carC c i n) σ s) Z cs w' ∧ Off (fun q => (some ⟨lb, 0, none⟩ : Option Addr) = some ⟨q, 0, none⟩) z w') := by
  refine (kCarry h.ps s i n).mono fun e w' ⟨a, m, c, v, e1, e2⟩ => ⟨a, m, c, v, e1, ?_, h.step e2.out.2.2.2.1 (h.ok.step (fun _ hc => hc.car) s) e2.out.2.2.2.2, e2.out.2.2.2.2⟩
  by_cases hc : cV 3 1 (fun c => carE c i n) σ s = 0
  · obtain ⟨k, hk, hD⟩ := car_told h.ok s i n hc
    have hv := e2.out.2.2.1
    rw [hc] at hv
    exact Or.inr ⟨ev0 hv, k, _, hk, hD, e2.out.1⟩
  · refine Or.inl ⟨?_, ?_⟩
    · have hl := ERow.len e2.out.1
      have : cV [] [] (fun c : Sd => carR c i n) σ s = [] := by
        rcases side_cases σ s with ⟨code, hn⟩ | ⟨cc, j, rfl, hj, rfl⟩
        · rw [hn.v2]
        · rw [cV_at hj] at hc ⊢
          exact (car_ne hc).2.1
      rw [this] at hl
      exact hl
    · rcases e2.out.2.2.1 with ⟨h0, _⟩ | ⟨_, b, hb, _⟩
      · exact (hc h0).elim
      · exact ⟨b, hb⟩
end
end Go.Proofs.YtpcickhellkiaaaDoor
