/-
  The law's 'refused', 'appends'.
-/
import Derived.Test.YtlgjjemfckmidaaPrSync
namespace Go.Proofs.Ytlgjjemfckmidaa
open Go.RowKit

set_option maxHeartbeats 400000 in
theorem refused_ok (a : Int) (w : World) : Calls Try.prog 33 #[.nilIface, .int .i64 a, .int .i64 0] w fun e w' => e = .returned (.bool true) ∧ w' = w := by
  go_enter Try.func33, Try.ntmps33
  go_wp2
  go_ret
  exact ⟨rfl, rfl⟩
theorem refused_any {w : World} {N : Nat} {ev : Value} {c : Int} (h : EvD w N ev c) : Calls Try.prog 33 #[ev, .int .i64 0, .int .i64 c] w fun e w' => e = .returned (.bool true) ∧ w' = w := by
  rcases h with ⟨rfl, rfl⟩ | ⟨b, rfl, h2, h3, _⟩
  · exact refused_ok 0 w
  · exact refused_zero w h3 h2
theorem appS_ok {σ : Sg} (ok : σ.Ok) (ar : Int) (bs : List Int) : (appS σ ar bs).Ok := by
  unfold appS
  split
  · split
    · exact ok
    · split
      · exact ⟨by simp [Sg.wr]; have := ok.s0; omega, ok.s1, by simp; omega, ok.l1⟩
      · exact ⟨ok.s0, ok.s1, ok.l0, ok.l1⟩
  · split
    · split
      · exact ok
      · split
        · exact ⟨ok.s0, by simp [Sg.wr]; have := ok.s1; omega, ok.l0, by simp; omega⟩
        · exact ⟨ok.s0, ok.s1, ok.l0, ok.l1⟩
    · exact ok
theorem PStep.of_below {a b : World} (K R : Nat) (v0 v1 : Value) (v : Nat → Value) (h : Below a.heap.size a b) : PStep a b K R v0 v1 v v0 v1 v := ⟨Off.of_below h, fun _ _ g => g⟩
theorem Pr.below {w w1 : World} {B K R : Nat} {v0 v1 : Value} {v : Nat → Value} {σ : Sg} (h : Pr w B K R v0 v1 v σ) (hb : Below w.heap.size w w1) : Pr w1 B K R v0 v1 v σ := h.off (Off.of_below (P := fun _ => False) hb) (fun _ _ => id)
theorem Pr.foot_lt {w : World} {B K R : Nat} {v0 v1 : Value} {v : Nat → Value} {σ : Sg} (h : Pr w B K R v0 v1 v σ) {k : Nat} (hk : Foot K v0 v1 k ∨ RFoot R v k) : k < w.heap.size := by
  rcases hk with hk | hk
  · exact (h.d.foot_lt hk).2
  · exact (h.r.foot_lt hk).2
set_option maxRecDepth 100000 in
set_option maxHeartbeats 4000000 in
theorem appends_any {w : World} {B K R : Nat} {v0 v1 : Value} {v : Nat → Value} {σ : Sg} {po : Option Addr} {m c : Nat} {bs : List Int} (h : Pr w B K R v0 v1 v σ) (ok : σ.Ok) (ar : Int) (hb : Byts w po m bs) (hpo : po = none → c = 0) (hm : m + 90 ≤ 140737488355328) (hfar : 0 < m → ∀ b o, po = some ⟨b, o, none⟩ → ¬ (Foot K v0 v1 b ∨ RFoot R v b)) :
    Calls Try.prog 35 #[.agg #[.pointer (some ⟨K, 0, none⟩), .pointer (some ⟨R, 0, none⟩)], .int .i64 ar, .slice po m c] w fun e w' => e = .returned (.bool true) ∧ ∃ v0' v1' v', Pr w' B K R v0' v1' v' (appS σ ar bs) ∧ PStep w w' K R v0 v1 v v0' v1' v' := by
  have HL : Hid (bs.length = m) := hb.len
  obtain ⟨T, hT⟩ : ∃ y, w.alloc (.cells #[.pointer (some ⟨K, 0, none⟩), .pointer (some ⟨R, 0, none⟩)] 45) = y := ⟨_, rfl⟩
  have HW : Hid (w.alloc (.cells #[.pointer (some ⟨K, 0, none⟩), .pointer (some ⟨R, 0, none⟩)] 45) = T) := hT
  have bT : Below w.heap.size w T := by rw [← hT]; exact (Below.refl _ _).alloc (Nat.le_refl _) _
  have t0 : T.cell? ⟨w.heap.size, 0, none⟩ = some (.pointer (some ⟨K, 0, none⟩)) := by rw [← hT]; simp
  have t1 : T.cell? ⟨w.heap.size, 1, none⟩ = some (.pointer (some ⟨R, 0, none⟩)) := by rw [← hT]; simp
  have sT : w.heap.size < T.heap.size := by rw [← hT]; simp
  have HP : Hid (Pr T B K R v0 v1 v σ ∧ σ.Ok ∧ Below w.heap.size w T ∧ (∀ k, (Foot K v0 v1 k ∨ RFoot R v k) → k < w.heap.size)) := ⟨h.below bT, ok, bT, fun k hk => h.foot_lt hk⟩
  have HB : Hid (Byts T po m bs ∧ (po = none → c = 0) ∧ (0 < m → ∀ b o, po = some ⟨b, o, none⟩ → ¬ (Foot K v0 v1 b ∨ RFoot R v b))) := ⟨hb.below bT, hpo, hfar⟩
  have HT : Hid (T.cell? ⟨w.heap.size, 0, none⟩ = some (.pointer (some ⟨K, 0, none⟩)) ∧ T.cell? ⟨w.heap.size, 1, none⟩ = some (.pointer (some ⟨R, 0, none⟩)) ∧ w.heap.size < T.heap.size) := ⟨t0, t1, sT⟩
  clear h ok hb hpo hfar hT bT t0 t1 sT
  go_enter Try.func35, Try.ntmps35
  go_wp2_with fail
  rw [HW.out]
  refine (Hand_any T HB.out.1 hm).mono ?_
  rintro e w1 ⟨rfl, r1, o1⟩
  have H1 : Hid (Row w1 T.heap.size (.slice (some ⟨T.heap.size, 0, none⟩) (m + 90) (m + 90)) (bs ++ marks) ∧ Below T.heap.size T w1) := ⟨r1, o1⟩
  have b1 : Byts w1 (some ⟨T.heap.size, 0, none⟩) m bs := by
    have := (r1.prefix (m := m) (by omega)).bytes
    rw [List.take_left' HL.out] at this
    exact this
  have u0 : w1.cell? ⟨w.heap.size, 0, none⟩ = some (.pointer (some ⟨K, 0, none⟩)) := by rw [o1.cell (p := ⟨w.heap.size, 0, none⟩) HT.out.2.2]; exact HT.out.1
  have hD := dAppend (HP.out.1.below o1).d ar (c := m + 90) b1 (fun e => by cases e) (fun b o e hf => by
    simp only [Option.some.injEq, Addr.mk.injEq, and_true] at e
    have := HP.out.2.2.2 b (Or.inl hf)
    have := HT.out.2.2
    omega)
  have HD : Hid (Calls Try.prog 21 #[.pointer (some ⟨K, 0, none⟩), .int .i64 ar, .slice (some ⟨T.heap.size, 0, none⟩) m (m + 90)] w1 fun e w' => ∃ ev v0' v1', e = .returned ev ∧ EvD w' w1.heap.size ev (appC σ ar m) ∧ DskS w' B K v0' v1' (appS σ ar bs) ∧ DStep w1 w' K v0 v1 v0' v1') := hD
  clear r1 o1 b1 hD
  go_wp2_with fail
  refine HD.out.mono ?_
  rintro e w2 ⟨ev, v0', v1', rfl, hev, hd2, hs2⟩
  obtain ⟨hk2, hap2, hjoin⟩ := (HP.out.1.below H1.out.2).step (τ := appS σ ar bs) hd2 hs2
  have hT1 : ∀ k, (Foot K v0 v1 k ∨ RFoot R v k) → k < w.heap.size := HP.out.2.2.2
  have u1 : w2.cell? ⟨w.heap.size, 1, none⟩ = some (.pointer (some ⟨R, 0, none⟩)) := by
    rw [hs2.off.cell (p := ⟨w.heap.size, 1, none⟩) (by have := HT.out.2.2; have := H1.out.2.size; show w.heap.size < _; omega) (fun hf => by have := hT1 _ (Or.inl hf); simp only at this; omega), H1.out.2.cell (p := ⟨w.heap.size, 1, none⟩) HT.out.2.2]; exact HT.out.2.1
  have hR := rAppend (bs := bs) (c := c) hk2 HP.out.2.1 ar (by omega) ((HB.out.1.below H1.out.2).off' hs2.off (fun hm0 b o e hf => HB.out.2.2 hm0 b o e (Or.inl hf))) HB.out.2.1 (fun hm0 b o e hf => HB.out.2.2 hm0 b o e (Or.inr hf))
  have HR : Hid (Calls Try.prog 67 #[.pointer (some ⟨R, 0, none⟩), .int .i64 ar, .slice po m c] w2 fun e w' => e = .returned (.int .i64 (appC σ ar m)) ∧ ∃ v', RkS w' B R v' (appS σ ar bs) ∧ RStep w2 w' R v v') := hR
  have H2 : Hid (EvD w2 w1.heap.size ev (appC σ ar m) ∧ DStep w1 w2 K v0 v1 v0' v1' ∧ (∀ w2' v', Rk w2' B R v' (rx (appS σ ar bs)) (appS σ ar bs).dead (appS σ ar bs).fuse (appS σ ar bs).na (appS σ ar bs).ns (appS σ ar bs).nc → RStep w2 w2' R v v' → Pr w2' B K R v0' v1' v' (appS σ ar bs) ∧ PStep w1 w2' K R v0 v1 v v0' v1' v')) := ⟨hev, hs2, hjoin⟩
  clear hev hd2 hs2 hk2 hap2 hjoin hR u0 HD hT1
  go_wp2_with fail
  refine HR.out.mono ?_
  rintro e w3 ⟨rfl, v', hr3, hs3⟩
  obtain ⟨hp3, hst3⟩ := H2.out.2.2 w3 v' hr3 hs3
  have hev3 : EvD w3 w1.heap.size ev (appC σ ar m) := H2.out.1.off hs3.off (fun k hk hf => by have h1 := HP.out.2.2.2 k (Or.inr hf); have h2 := HT.out.2.2; have h3 := H1.out.2.size; omega)
  have hin : Row w3 T.heap.size (.slice (some ⟨T.heap.size, 0, none⟩) (m + 90) (m + 90)) (bs ++ marks) := H1.out.1.off hst3.off (fun g e hf => by
    simp only [Value.ownBlock, Option.some.injEq] at e
    have h1 := HP.out.2.2.2 g hf
    have h2 := HT.out.2.2
    omega)
  have hby : Byts w3 po m bs := (HB.out.1.below H1.out.2).off' hst3.off HB.out.2.2
  have H3 : Hid (Pr w3 B K R v0' v1' v' (appS σ ar bs) ∧ PStep w1 w3 K R v0 v1 v v0' v1' v' ∧ Row w3 T.heap.size (.slice (some ⟨T.heap.size, 0, none⟩) (m + 90) (m + 90)) (bs ++ marks) ∧ Byts w3 po m bs) := ⟨hp3, hst3, hin, hby⟩
  have HF : Hid (Calls Try.prog 33 #[ev, .int .i64 0, .int .i64 (appC σ ar m)] w3 fun e w' => e = .returned (.bool true) ∧ w' = w3) := refused_any hev3
  clear hr3 hs3 hp3 hst3 hev3 hin hby HR H2 u1
  go_wp2_with fail
  refine HF.out.mono ?_
  rintro e w4 ⟨rfl, hw4⟩
  rw [hw4]
  clear hw4 w4
  go_wp2_with fail
  refine (Kept_true w3 H3.out.2.2.1 H3.out.2.2.2 hm).mono ?_
  rintro e w4 ⟨rfl, k4, hw4⟩
  have b4 : Below w3.heap.size w3 w4 := by rw [hw4]; exact ((Off.refl (fun _ => False) w3).drewN k4).below (Nat.le_refl _) (fun _ p => p.elim)
  have H4 : Hid (Pr w4 B K R v0' v1' v' (appS σ ar bs) ∧ PStep w w4 K R v0 v1 v v0' v1' v' ∧ Row w4 T.heap.size (.slice (some ⟨T.heap.size, 0, none⟩) (m + 90) (m + 90)) (bs ++ marks)) := by
    refine ⟨H3.out.1.below b4, ?_, H3.out.2.2.1.keep (fun g e => b4.block g (H3.out.2.2.1.lt e).2)⟩
    have q1 : Below w.heap.size w w1 := HP.out.2.2.1.trans (H1.out.2.mono HP.out.2.2.1.size)
    exact ((PStep.of_below K R v0 v1 v q1).trans H3.out.2.1).trans (PStep.of_below K R v0' v1' v' b4)
  have HFt : Hid (∀ k, (Foot K v0' v1' k ∨ RFoot R v' k) → k ≠ T.heap.size) := fun k hk e => by
    subst e
    have h2 := H3.out.2.1.foot T.heap.size (H1.out.1.lt (g := T.heap.size) rfl).2 hk
    have h3 := HP.out.2.2.2 _ h2
    have h4 := HT.out.2.2
    omega
  clear hw4 b4 H3 H1 HF HP HB
  go_wp2_with fail
  go_loopw [11] (fun t11 wx => ∃ i : Nat, i ≤ m ∧ t11 = .int .i64 i ∧ Hid (∃ ys : List Int, ys.length = m + 90 ∧ Row wx T.heap.size (.slice (some ⟨T.heap.size, 0, none⟩) (m + 90) (m + 90)) ys ∧ Off (fun k => k = T.heap.size) w4 wx)) (fun t11 _ => m - (intOf t11).toNat)
  case atStart => exact ⟨0, Nat.zero_le _, rfl, _, by have := HL.out; simp [marks]; omega, H4.out.2.2, Off.refl _ _⟩
  case round =>
    obtain ⟨i, hi, rfl, HI⟩ := hrel
    by_cases hlt : i < m
    · have hlt1 : (i : Int) < m := by omega
      obtain ⟨ys, hy, hrow, hoff⟩ := HI.out
      have k1 := hrow.slot (j := i) (by omega)
      have k2 := hrow.thaw i
      obtain ⟨z, hz⟩ : ∃ z, ys.getD i 0 = z := ⟨_, rfl⟩
      rw [hz] at k1
      have HJ : Hid (∀ q : Int, ∃ ys : List Int, ys.length = m + 90 ∧ Row (wr.setCell ⟨T.heap.size, i, none⟩ (.int .u8 q)) T.heap.size (.slice (some ⟨T.heap.size, 0, none⟩) (m + 90) (m + 90)) ys ∧ Off (fun k => k = T.heap.size) w4 (wr.setCell ⟨T.heap.size, i, none⟩ (.int .u8 q))) := fun q => ⟨_, by rw [List.length_set]; exact hy, hrow.stored i q, hoff.setCell (P := fun k => k = T.heap.size) (p := ⟨T.heap.size, i, none⟩) rfl _⟩
      clear hrow hoff HI hy hz
      go_wp2_with fail
      go_roundw
      case rel => exact ⟨i + 1, hlt, by go_num, HJ.out _⟩
      case measure => simp [intOf]; omega
    · have hlt1 : ¬ (i : Int) < m := by omega
      have HX : Hid (Pr wr B K R v0' v1' v' (appS σ ar bs) ∧ PStep w wr K R v0 v1 v v0' v1' v') := by
        obtain ⟨ys, hy, hrow, hoff⟩ := HI.out
        have hsz := HT.out.2.2
        exact ⟨H4.out.1.off hoff (fun k hk e => HFt.out k hk e), ⟨H4.out.2.1.off.join hoff (fun i hi e => by omega), H4.out.2.1.foot⟩⟩
      go_wp2_with fail
      go_ret
      exact ⟨rfl, _, _, _, HX.out⟩
end Go.Proofs.Ytlgjjemfckmidaa
