/-
  LinkFull, walked: so many pieces as a side takes.
-/
import Derived.Test.YtpcickhellkiaaaDoorLxAnc
namespace Go.Proofs.YtpcickhellkiaaaDoor
open Go.RowKit

/-- The link behind i calls: so many pieces of the side k, none of the other. -/
def FullS (k i : Nat) (σ : LSt) : Prop := ∃ c : Sd × Sd, σ = some c ∧ SdOk c.1 ∧ SdOk c.2 ∧ (csd c k).1.length = min i 256 ∧ (csd c (1 - k)).1 = [] ∧ (csd c k).2 = -1
theorem full0 (k : Nat) : FullS k 0 sg0 := by
  refine ⟨_, rfl, ⟨by simp, by simp, by simp, by simp⟩, ⟨by simp, by simp, by simp, by simp⟩, ?_, ?_, ?_⟩
  · unfold csd; split <;> rfl
  · unfold csd; split <;> rfl
  · unfold csd; split <;> rfl
theorem full_step {k i : Nat} {σ : LSt} (hk : k < 2) (h : FullS k i σ) (f : Sd → Int) (g : Sd → Sd) {bs : List Int} (h1 : bs.length = 1 ∨ bs.length = 2) (hf : ∀ c, f c = putE c) (hg : ∀ c, g c = putC c bs) : cV 3 1 f σ (k : Int) = (if 256 ≤ i then 7 else 0) ∧ FullS k (i + 1) (cS g σ (k : Int)) := by
  obtain ⟨c, rfl, o1, o2, hl, hz, hh⟩ := h
  refine ⟨?_, ?_⟩
  · rw [cV_at hk, hf]
    unfold putE
    rw [hl]
    split <;> split <;> omega
  · have ho : SdOk (csd c k) := by unfold csd; split <;> assumption
    have hp : SdOk (putC (csd c k) bs) := ho.put (by omega) (by omega)
    have hn : (putC (csd c k) bs).1.length = min (i + 1) 256 := by
      unfold putC
      split
      · omega
      · simp; omega
    have hq : (putC (csd c k) bs).2 = -1 := by
      unfold putC
      split <;> exact hh
    rcases (by omega : k = 0 ∨ k = 1) with rfl | rfl
    · exact ⟨(g c.1, c.2), rfl, by rw [hg]; exact hp, o2, by show (g c.1).1.length = _; rw [hg]; exact hn, hz, by show (g c.1).2 = _; rw [hg]; exact hq⟩
    · exact ⟨(c.1, g c.2), rfl, o1, by rw [hg]; exact hp, by show (g c.2).1.length = _; rw [hg]; exact hn, hz, by show (g c.2).2 = _; rw [hg]; exact hq⟩
theorem sendE_put {bs : List Int} (h1 : bs.length = 1 ∨ bs.length = 2) (c : Sd) : sendE c bs = putE c := by unfold sendE; rw [if_neg (by omega)]
theorem sendC_put {bs : List Int} (h1 : bs.length = 1 ∨ bs.length = 2) (c : Sd) : sendC c bs = putC c bs := by unfold sendC; rw [if_neg (by omega)]
/-- The link in the law's loop. -/
def FuI (W : World) (lb k i : Nat) (X : World) : Prop := ∃ σ, PS W (some ⟨lb, 0, none⟩) σ X ∧ FullS k i σ
section
variable {W z : World} {lb k i : Nat}
def wantI (i : Nat) : Int := if 256 ≤ i then 7 else 0
theorem FuI.below {Y : World} (h : FuI W lb k i z) (hb : Below z.heap.size z Y) : FuI W lb k i Y := by
  obtain ⟨σ, h1, h2⟩ := h
  exact ⟨σ, h1.below hb, h2⟩
theorem FuI.b (h : FuI W lb k i z) : Below W.heap.size W z := by
  obtain ⟨σ, h1, h2⟩ := h
  exact h1.b
theorem fSend (h : FuI W lb k i z) (hk : k < 2) {po : Option Addr} {m c : Nat} {bs : List Int} (hb : Byts z po m bs) (h1 : bs.length = 1 ∨ bs.length = 2) : Calls Tryd.prog 11 #[.pointer (some ⟨lb, 0, none⟩), .int .i64 (k : Int), .slice po m c] z fun e w' => ∃ v, e = .returned v ∧ Hid (EvIs w' v 0 (wantI i) ∧ FuI W lb k (i + 1) w') := by
  obtain ⟨σ, q1, q2⟩ := h
  have q := full_step hk q2 (fun c => sendE c bs) (fun c => sendC c bs) h1 (sendE_put h1) (sendC_put h1)
  refine (kSend q1 hb (k : Int)).mono fun e w' ⟨v, e1, e2⟩ => ⟨v, e1, ?_, _, e2.out.2.1, q.2⟩
  have := e2.out.1
  rw [q.1] at this
  exact this
theorem fRaw (h : FuI W lb k i z) (hk : k < 2) {po : Option Addr} {m c : Nat} {bs : List Int} (hb : Byts z po m bs) (h1 : bs.length = 1 ∨ bs.length = 2) : Calls Tryd.prog 18 #[.pointer (some ⟨lb, 0, none⟩), .int .i64 (k : Int), .slice po m c] z fun e w' => ∃ v, e = .returned v ∧ Hid (EvIs w' v 0 (wantI i) ∧ FuI W lb k (i + 1) w') := by
  obtain ⟨σ, q1, q2⟩ := h
  have q := full_step hk q2 (fun c => sendE c bs) (fun c => sendC c bs) h1 (sendE_put h1) (sendC_put h1)
  refine (kRaw q1 hb (k : Int)).mono fun e w' ⟨v, e1, e2⟩ => ⟨v, e1, ?_, _, e2.out.2.1, q.2⟩
  have := e2.out.1
  rw [q.1] at this
  exact this
theorem fNoise (h : FuI W lb k i z) (hk : k < 2) {po : Option Addr} {m c : Nat} (hb : Byts z po m [110]) : Calls Tryd.prog 19 #[.pointer (some ⟨lb, 0, none⟩), .int .i64 (k : Int), .slice po m c] z fun e w' => ∃ v, e = .returned v ∧ Hid (EvIs w' v 0 (wantI i) ∧ FuI W lb k (i + 1) w') := by
  obtain ⟨σ, q1, q2⟩ := h
  have q := full_step hk q2 (fun c => (noiseE c [110]).2) (fun c => noiseC c [110]) (bs := [110]) (Or.inl rfl) (fun c => rfl) (fun c => rfl)
  obtain ⟨cc, rfl, _⟩ := q2
  refine (kNoise q1 hb (k : Int)).mono fun e w' ⟨v, e1, e2⟩ => ⟨v, e1, ?_, _, e2.out.2.1, q.2⟩
  have := e2.out.1
  rw [cV_at hk] at this
  have q1 := q.1
  rw [cV_at hk] at q1
  have e3 : (noiseE (csd cc k) [110]).1 = 0 := rfl
  rw [e3, q1] at this
  exact this
theorem fDouble (h : FuI W lb k i z) (hk : k < 2) (hi : 256 ≤ i) : Calls Tryd.prog 21 #[.pointer (some ⟨lb, 0, none⟩), .int .i64 (k : Int), .int .i64 0] z fun e w' => ∃ v, e = .returned v ∧ Hid (EvIs w' v 0 7 ∧ FuI W lb k i w') := by
  obtain ⟨σ, q1, cc, rfl, o1, o2, q3, q4, q5⟩ := h
  have hm : min i 256 = 256 := by omega
  have ha : isAt (csd cc k) 0 = true ∧ (0 : Int) ≠ (csd cc k).2 := ⟨isAt_iff.2 (by rw [q3, hm]; omega), by rw [q5]; omega⟩
  have hE : dblE (csd cc k) 0 = 7 := by unfold dblE putE; rw [if_pos ha, if_pos (by omega)]
  have hC : dblC (csd cc k) 0 = csd cc k := by unfold dblC putC; rw [if_pos ha, if_pos (by omega)]
  refine (kDouble q1 (k : Int) 0).mono fun e w' ⟨v, e1, e2⟩ => ⟨v, e1, ?_, some cc, ?_, cc, rfl, o1, o2, q3, q4, q5⟩
  · have := e2.out.1
    rw [cV_at hk, hE] at this
    exact this
  · have := e2.out.2.1
    have e3 : cS (fun c => dblC c 0) (some cc) (k : Int) = some cc := by
      rcases (by omega : k = 0 ∨ k = 1) with rfl | rfl
      · show some (dblC cc.1 0, cc.2) = some cc; rw [show dblC cc.1 0 = cc.1 from hC]
      · show some (cc.1, dblC cc.2 0) = some cc; rw [show dblC cc.2 0 = cc.2 from hC]
    rw [e3] at this
    exact this
/-- Behind the other side's piece. -/
def FuO (W : World) (lb k n : Nat) (X : World) : Prop := ∃ c : Sd × Sd, PS W (some ⟨lb, 0, none⟩) (some c) X ∧ (csd c k).1.length = min n 256 ∧ (csd c (1 - k)).1.length = 1
theorem FuO.below {Y : World} (h : FuO W lb k i z) (hb : Below z.heap.size z Y) : FuO W lb k i Y := by
  obtain ⟨c, h1, h2⟩ := h
  exact ⟨c, h1.below hb, h2⟩
theorem FuO.b (h : FuO W lb k i z) : Below W.heap.size W z := by
  obtain ⟨c, h1, h2⟩ := h
  exact h1.b
theorem fOther (h : FuI W lb k i z) (hk : k < 2) {po : Option Addr} {m c : Nat} (hb : Byts z po m [97]) : Calls Tryd.prog 11 #[.pointer (some ⟨lb, 0, none⟩), .int .i64 (1 - (k : Int)), .slice po m c] z fun e w' => e = .returned .nilIface ∧ Hid (FuO W lb k i w') := by
  obtain ⟨σ, q1, cc, rfl, o1, o2, q3, q4, q5⟩ := h
  have e0 : (1 - (k : Int)) = ((1 - k : Nat) : Int) := by omega
  rw [e0]
  have e1 : sendE (csd cc (1 - k)) [97] = 0 := by rw [sendE_put (Or.inl rfl)]; unfold putE; rw [if_neg (by rw [q4]; simp)]
  have e2 : (sendC (csd cc (1 - k)) [97]).1.length = 1 := by rw [sendC_put (Or.inl rfl)]; unfold putC; rw [if_neg (by rw [q4]; simp), q4]; rfl
  refine (kSend q1 hb ((1 - k : Nat) : Int)).mono fun e w' ⟨v, h1, h2⟩ => ?_
  have h3 := h2.out.1
  rw [cV_at (by omega), e1] at h3
  refine ⟨by rw [h1, ev0 h3], ?_⟩
  have h4 := h2.out.2.1
  rcases (by omega : k = 0 ∨ k = 1) with rfl | rfl
  · exact ⟨(cc.1, sendC cc.2 [97]), h4, q3, e2⟩
  · exact ⟨(sendC cc.1 [97], cc.2), h4, q3, e2⟩
theorem fLen (h : FuO W lb k i z) (hk : k < 2) : Calls Tryd.prog 17 #[.pointer (some ⟨lb, 0, none⟩), .int .i64 (k : Int)] z fun e w' => e = .returned (.int .i64 ((min i 256 : Nat) : Int)) ∧ Hid (FuO W lb k i w') := by
  have h0 := h
  obtain ⟨c, h1, h2, h3⟩ := h
  refine (kLen h1 (k : Int)).mono fun e w' ⟨e1, e2⟩ => ⟨?_, h0.below e2.out⟩
  rw [e1, cV_at hk, h2]
theorem fLen2 (h : FuO W lb k i z) (hk : k < 2) : Calls Tryd.prog 17 #[.pointer (some ⟨lb, 0, none⟩), .int .i64 (1 - (k : Int))] z fun e w' => e = .returned (.int .i64 1) ∧ Hid (FuO W lb k i w') := by
  have h0 := h
  obtain ⟨c, h1, h2, h3⟩ := h
  have e0 : (1 - (k : Int)) = ((1 - k : Nat) : Int) := by omega
  rw [e0]
  refine (kLen h1 ((1 - k : Nat) : Int)).mono fun e w' ⟨e1, e2⟩ => ⟨?_, h0.below e2.out⟩
  rw [e1, cV_at (by omega), h3]
  rfl
end
set_option maxRecDepth 100000 in
set_option maxHeartbeats 4000000 in
theorem full_bad (side n : Int) (W : World) (hE : ErrType W) (hs : side < 0 ∨ 1 < side ∨ n < 0 ∨ 768 < n) : Calls Tryd.prog 4 #[.int .i64 side, .int .i64 n] W fun e w' => e = .returned (.bool true) ∧ Below W.heap.size W w' := by
  have HE : Hid (ErrType W) := hE
  have HN := kNew W
  clear hE
  rcases (by omega : side < 0 ∨ (¬ side < 0 ∧ side > 1) ∨ (¬ side < 0 ∧ ¬ side > 1 ∧ n < 0) ∨ (¬ side < 0 ∧ ¬ side > 1 ∧ ¬ n < 0 ∧ n > 768)) with h1 | ⟨h1, h2⟩ | ⟨h1, h2, h3⟩ | ⟨h1, h2, h3, h4⟩
  all_goals (
    clear hs
    go_enter Tryd.func4, Tryd.ntmps4
    go_wp2_with fail
    refine HN.mono ?_
    rintro _ w1 ⟨rfl, H1⟩
    go_wp2_with fail
    refine (anchor_true _ (errType_below HE.out H1.out.1.b)).mono ?_
    rintro _ w7 ⟨rfl, hb7⟩
    have H7 : Hid (Below W.heap.size W w7) := below_then H1.out.1.b hb7
    clear hb7 H1
    go_wp2_with fail
    go_ret
    exact ⟨rfl, H7.out⟩)
set_option maxRecDepth 100000 in
set_option maxHeartbeats 8000000 in
theorem full_ok (k n : Nat) (W : World) (hE : ErrType W) (hk : k < 2) (hn : n ≤ 768) : Calls Tryd.prog 4 #[.int .i64 (k : Int), .int .i64 (n : Int)] W fun e w' => e = .returned (.bool true) ∧ Below W.heap.size W w' := by
  have kc := fun (v : World) (C : Array Value) (n c : Nat) => Lib.run_convert_bytes_const (P := Tryd.prog) v 27 5 C n c Tryd.underlying27 Tryd.underlying5
  have HE : Hid (ErrType W) := hE
  have HN := kNew W
  obtain ⟨lb, hlb⟩ : ∃ lb, W.heap.size = lb := ⟨_, rfl⟩
  rw [hlb] at HN
  clear hE hlb
  have k1 : ¬ (k : Int) < 0 := by omega
  have k2 : ¬ (k : Int) > 1 := by omega
  have k3 : ¬ (n : Int) < 0 := by omega
  have k4 : ¬ (n : Int) > 768 := by omega
  go_enter Tryd.func4, Tryd.ntmps4
  go_wp2_with fail
  refine HN.mono ?_
  rintro _ w1 ⟨rfl, H1⟩
  have H0 : Hid (FuI W lb k 0 w1) := ⟨sg0, H1.out.1, full0 k⟩
  clear HN H1
  go_wp2_with fail
  go_loopw [6] (fun t6 wx => ∃ i : Nat, i ≤ n ∧ t6 = .int .i64 i ∧ Hid (FuI W lb k i wx)) (fun t6 _ => n - (intOf t6).toNat)
  case atStart => exact ⟨0, Nat.zero_le _, rfl, H0⟩
  case round =>
    obtain ⟨i, hi, rfl, HI⟩ := hrel
    by_cases hlt : i < n
    · have hlt1 : (i : Int) < n := by omega
      by_cases g : (i : Int) ≥ 256
      · have eW : wantI i = 7 := by unfold wantI; rw [if_pos (by omega)]
        have hr3 : i % 3 = 0 ∨ i % 3 = 1 ∨ i % 3 = 2 := by omega
        rcases hr3 with hr3 | hr3 | hr3
        · skip
          have m0 : ((i : Int) % 3 == 0) = true := by simp; omega
          clear hr3
          go_wp2_with fail
          refine (fSend (HI.out.below ((Below.refl _ _).alloc (Nat.le_refl _) _)) hk (byts_new _ [_, _] (0, 0)) (Or.inr rfl)).mono ?_
          rintro _ w2 ⟨v2, rfl, H2⟩
          rw [eW] at H2
          clear HI eW
          go_wp2_with fail
          refine (is_any H2.out.1 (errType_below HE.out H2.out.2.b)).mono ?_
          rintro _ w3 ⟨rfl, hb3⟩
          have H3 : Hid (FuI W lb k (i + 1) w3) := H2.out.2.below hb3
          clear hb3 H2
          go_wp2_with fail
          go_roundw
          case rel => exact ⟨i + 1, hlt, by go_num, H3⟩
          case measure => simp [intOf]; omega
        · skip
          have m0 : ((i : Int) % 3 == 0) = false := by simp; omega
          have m1 : ((i : Int) % 3 == 1) = true := by simp; omega
          clear hr3
          go_wp2_with fail
          refine (fRaw (HI.out.below ((Below.refl _ _).alloc (Nat.le_refl _) _)) hk (byts_new _ [_, _] (0, 0)) (Or.inr rfl)).mono ?_
          rintro _ w2 ⟨v2, rfl, H2⟩
          rw [eW] at H2
          clear HI eW
          go_wp2_with fail
          refine (is_any H2.out.1 (errType_below HE.out H2.out.2.b)).mono ?_
          rintro _ w3 ⟨rfl, hb3⟩
          have H3 : Hid (FuI W lb k (i + 1) w3) := H2.out.2.below hb3
          clear hb3 H2
          go_wp2_with fail
          go_roundw
          case rel => exact ⟨i + 1, hlt, by go_num, H3⟩
          case measure => simp [intOf]; omega
        · skip
          have m0 : ((i : Int) % 3 == 0) = false := by simp; omega
          have m1 : ((i : Int) % 3 == 1) = false := by simp; omega
          clear hr3
          go_wp2_with fail
          refine (fNoise (HI.out.below ((Below.refl _ _).alloc (Nat.le_refl _) _)) hk (byts_new _ [110] (0, 0))).mono ?_
          rintro _ w2 ⟨v2, rfl, H2⟩
          rw [eW] at H2
          clear HI eW
          go_wp2_with fail
          refine (is_any H2.out.1 (errType_below HE.out H2.out.2.b)).mono ?_
          rintro _ w3 ⟨rfl, hb3⟩
          have H3 : Hid (FuI W lb k (i + 1) w3) := H2.out.2.below hb3
          clear hb3 H2
          go_wp2_with fail
          go_roundw
          case rel => exact ⟨i + 1, hlt, by go_num, H3⟩
          case measure => simp [intOf]; omega
      · have eW : wantI i = 0 := by unfold wantI; rw [if_neg (by omega)]
        have hr3 : i % 3 = 0 ∨ i % 3 = 1 ∨ i % 3 = 2 := by omega
        rcases hr3 with hr3 | hr3 | hr3
        · skip
          have m0 : ((i : Int) % 3 == 0) = true := by simp; omega
          clear hr3
          go_wp2_with fail
          refine (fSend (HI.out.below ((Below.refl _ _).alloc (Nat.le_refl _) _)) hk (byts_new _ [_, _] (0, 0)) (Or.inr rfl)).mono ?_
          rintro _ w2 ⟨v2, rfl, H2⟩
          rw [eW] at H2
          clear HI eW
          go_wp2_with fail
          refine (is_any H2.out.1 (errType_below HE.out H2.out.2.b)).mono ?_
          rintro _ w3 ⟨rfl, hb3⟩
          have H3 : Hid (FuI W lb k (i + 1) w3) := H2.out.2.below hb3
          clear hb3 H2
          go_wp2_with fail
          go_roundw
          case rel => exact ⟨i + 1, hlt, by go_num, H3⟩
          case measure => simp [intOf]; omega
        · skip
          have m0 : ((i : Int) % 3 == 0) = false := by simp; omega
          have m1 : ((i : Int) % 3 == 1) = true := by simp; omega
          clear hr3
          go_wp2_with fail
          refine (fRaw (HI.out.below ((Below.refl _ _).alloc (Nat.le_refl _) _)) hk (byts_new _ [_, _] (0, 0)) (Or.inr rfl)).mono ?_
          rintro _ w2 ⟨v2, rfl, H2⟩
          rw [eW] at H2
          clear HI eW
          go_wp2_with fail
          refine (is_any H2.out.1 (errType_below HE.out H2.out.2.b)).mono ?_
          rintro _ w3 ⟨rfl, hb3⟩
          have H3 : Hid (FuI W lb k (i + 1) w3) := H2.out.2.below hb3
          clear hb3 H2
          go_wp2_with fail
          go_roundw
          case rel => exact ⟨i + 1, hlt, by go_num, H3⟩
          case measure => simp [intOf]; omega
        · skip
          have m0 : ((i : Int) % 3 == 0) = false := by simp; omega
          have m1 : ((i : Int) % 3 == 1) = false := by simp; omega
          clear hr3
          go_wp2_with fail
          refine (fNoise (HI.out.below ((Below.refl _ _).alloc (Nat.le_refl _) _)) hk (byts_new _ [110] (0, 0))).mono ?_
          rintro _ w2 ⟨v2, rfl, H2⟩
          rw [eW] at H2
          clear HI eW
          go_wp2_with fail
          refine (is_any H2.out.1 (errType_below HE.out H2.out.2.b)).mono ?_
          rintro _ w3 ⟨rfl, hb3⟩
          have H3 : Hid (FuI W lb k (i + 1) w3) := H2.out.2.below hb3
          clear hb3 H2
          go_wp2_with fail
          go_roundw
          case rel => exact ⟨i + 1, hlt, by go_num, H3⟩
          case measure => simp [intOf]; omega
    · have hlt1 : ¬ (i : Int) < n := by omega
      obtain rfl : i = n := by omega
      by_cases g : (i : Int) ≥ 256
      · have em : min i 256 = 256 := by omega
        have en : min (i : Int) 256 = 256 := by omega
        go_wp2_with fail
        refine (fDouble HI.out hk (by omega)).mono ?_
        rintro _ w2 ⟨v2, rfl, H2⟩
        clear HI
        go_wp2_with fail
        refine (is_any H2.out.1 (errType_below HE.out H2.out.2.b)).mono ?_
        rintro _ w3 ⟨rfl, hb3⟩
        have H3 : Hid (FuI W lb k i w3) := H2.out.2.below hb3
        clear hb3 H2
        go_wp2_with fail
        refine (fOther (H3.out.below ((Below.refl _ _).alloc (Nat.le_refl _) _)) hk (byts_new _ [97] (1, 2))).mono ?_
        rintro _ w4 ⟨rfl, H4⟩
        clear H3
        go_wp2_with fail
        have HLn := fLen H4.out hk
        rw [em] at HLn
        refine HLn.mono ?_
        rintro _ w5 ⟨rfl, H5⟩
        clear H4 HLn
        go_wp2_with fail
        all_goals (
          refine (fLen2 H5.out hk).mono ?_
          rintro _ w6 ⟨rfl, H6⟩
          clear H5
          go_wp2_with fail
          refine (anchor_true _ (errType_below HE.out H6.out.b)).mono ?_
          rintro _ w7 ⟨rfl, hb7⟩
          have H7 : Hid (Below W.heap.size W w7) := below_then H6.out.b hb7
          clear hb7 H6
          go_wp2_with fail
          go_ret
          exact ⟨rfl, H7.out⟩)
      · have em : min i 256 = i := by omega
        have en : min (i : Int) 256 = i := by omega
        go_wp2_with fail
        refine (fOther (HI.out.below ((Below.refl _ _).alloc (Nat.le_refl _) _)) hk (byts_new _ [97] (1, 2))).mono ?_
        rintro _ w4 ⟨rfl, H4⟩
        clear HI
        go_wp2_with fail
        have HLn := fLen H4.out hk
        rw [em] at HLn
        refine HLn.mono ?_
        rintro _ w5 ⟨rfl, H5⟩
        clear H4 HLn
        go_wp2_with fail
        all_goals (
          refine (fLen2 H5.out hk).mono ?_
          rintro _ w6 ⟨rfl, H6⟩
          clear H5
          go_wp2_with fail
          refine (anchor_true _ (errType_below HE.out H6.out.b)).mono ?_
          rintro _ w7 ⟨rfl, hb7⟩
          have H7 : Hid (Below W.heap.size W w7) := below_then H6.out.b hb7
          clear hb7 H6
          go_wp2_with fail
          go_ret
          exact ⟨rfl, H7.out⟩)
theorem full_law (side n : Int) (W : World) (hE : ErrType W) : Calls Tryd.prog 4 #[.int .i64 side, .int .i64 n] W fun e w' => e = .returned (.bool true) ∧ Below W.heap.size W w' := by
  by_cases h : side < 0 ∨ 1 < side ∨ n < 0 ∨ 768 < n
  · exact full_bad side n W hE h
  · obtain ⟨k, rfl⟩ : ∃ k : Nat, side = k := ⟨side.toNat, by omega⟩
    obtain ⟨m, rfl⟩ : ∃ m : Nat, n = m := ⟨n.toNat, by omega⟩
    exact full_ok k m W hE (by omega) (by omega)
end Go.Proofs.YtpcickhellkiaaaDoor
