/-
  The document's Parse of a place's text, walked.
-/
import Derived.Test.YtachkeipknakgaaDoorPRState
namespace Go.Proofs.YtachkeipknakgaaDoor
open Go.RowKit

/-- Behind the three bytes of the name. -/
def NmS (s : ByteArray) (i : Nat) (bad : Option Nat) : Prop := (bad = none ∧ ∀ j, j < i → nmAt s j = true) ∨ (∃ k, bad = some k ∧ k < 3 ∧ nmC s = k)
/-- What it answers, whole. -/
def RAll (s : ByteArray) (e : Ending) (w' : World) : Prop :=
  if nmC s = 3 then (ROut s (S6 s (sg s)) (S5 s (sg s)) e w' ∧ (S5 s (sg s)).a ≤ s.size) else ROut s (some (nmC s)) S0 e w'
theorem new_rrd {s : ByteArray} (w : World) (n : Nat) (hn : w.heap.size = n) (hs : s.size ≤ maxLen) : RRd (w.alloc (.cells #[.string s, .int .i64 0, .int .i64 (-1)] 42)) n s 0 none := by
  subst hn
  exact ⟨by simp, by simp, by simp [bdI], by simp, by simp, Nat.zero_le _, hs⟩
theorem new_pb {seg : ByteArray} (w : World) (n : Nat) (hn : w.heap.size = n) : Pb (w.alloc (.cells #[.string seg, .int .i64 1, .int .i64 3, .int .i64 1, .int .i64 1, .int .i64 1] 23)) n seg 1 3 1 1 1 := by
  subst hn
  exact ⟨by simp, by simp, by simp, by simp, by simp, by simp, fun j => by simp⟩
theorem adv_no {s : ByteArray} {ch : Nat} {x : RS} (h : isQ s ch x.a x.bad = false) : adv s ch x = x := by
  unfold adv isA; rw [h]; rfl
set_option maxRecDepth 100000 in
set_option maxHeartbeats 8000000 in
theorem RParse_any (s : ByteArray) (w : World) (hs : s.size ≤ maxLen) : Calls Tryd.prog 5 #[.string s] w fun e w' => RAll s e w' ∧ Below w.heap.size w w' := by
  have HS : Hid (s.size ≤ maxLen) := hs
  unfold maxLen at hs
  obtain ⟨Q, hQ⟩ : ∃ Q : Ending → World → Prop, RAll s = Q := ⟨_, rfl⟩
  have HQ : Hid (RAll s = Q) := hQ
  rw [hQ]
  clear hQ
  go_enter Tryd.func5, Tryd.ntmps5
  go_wp2_with fail
  obtain ⟨W0, hW0⟩ : ∃ W0, ((w.alloc (.cells #[.string ⟨#[]⟩, .int .i64 0, .int .i64 0, .int .i64 0, .int .i64 0, .int .i64 0] 23)).alloc (.cells #[.string s, .int .i64 0, .int .i64 (-1)] 42)) = W0 := ⟨_, rfl⟩
  have HR : Hid (RRd W0 (w.heap.size + 1) s 0 none) := by unfold Hid; rw [← hW0]; exact new_rrd _ _ (by simp) HS.out
  have HZ : Hid (Zr W0 w.heap.size) := by unfold Hid; rw [← hW0]; exact (Zr.new w).off (P := fun _ => False) ((Off.refl _ _).alloc _) id
  have HB : Hid (Below w.heap.size w W0) := by unfold Hid; rw [← hW0]; exact ((Below.refl _ _).alloc (Nat.le_refl _) _).alloc (by simp) _
  have HSZ : Hid (W0.heap.size = w.heap.size + 2) := by unfold Hid; rw [← hW0]; simp
  have HNR : Hid (¬ w.heap.size = w.heap.size + 1) := by unfold Hid; omega
  rw [hW0]
  clear hW0
  go_loopw [5] (fun t5 wx => ∃ (i : Nat) (bad : Option Nat), i ≤ 3 ∧ t5 = .int .i64 i ∧ Hid (NmS s i bad ∧ RRd wx (w.heap.size + 1) s 0 bad ∧ Off (· = w.heap.size + 1) W0 wx)) (fun t5 _ => 3 - (intOf t5).toNat)
  case atStart => exact ⟨0, none, by omega, rfl, Or.inl ⟨rfl, fun _ h => absurd h (by omega)⟩, HR.out, Off.refl _ _⟩
  case round =>
    obtain ⟨i, bad, hi, rfl, HK⟩ := hrel
    cases bad with
    | some k =>
      have c2 : wr.cell? ⟨w.heap.size + 1, 2, none⟩ = some (.int .i64 (k : Int)) := HK.out.2.1.bad
      have hk0 : ¬ (k : Int) < 0 := by omega
      have hk1 : (0 : Int) ≤ k := by omega
      have HNM : Hid (nmC s = k ∧ k < 3) := by
        rcases HK.out.1 with ⟨h, _⟩ | ⟨k', h, h3, hn⟩
        · cases h
        · cases h; exact ⟨hn, h3⟩
      have HZ' : Hid (Zr wr w.heap.size) := HZ.out.off HK.out.2.2 HNR.out
      have HB' : Hid (Below w.heap.size w wr) := HB.out.trans (HK.out.2.2.below (B := w.heap.size) HB.out.size (by rintro k rfl; omega))
      by_cases h3 : i < 3
      · have h3i : (i : Int) < 3 := by omega
        go_wp2_with fail
        refine (rlink_any (k : Int) 10 _).mono ?_
        rintro e y ⟨rfl, rfl⟩
        have hb : Below wr.heap.size wr (wr.alloc (.cells #[.string ⟨#[112, 97, 116, 104]⟩, .int .i64 (k : Int), .int .i64 10] 52)) := (Below.refl _ _).alloc (Nat.le_refl _) _
        have HL : Hid ((wr.alloc (.cells #[.string ⟨#[112, 97, 116, 104]⟩, .int .i64 (k : Int), .int .i64 10] 52)).cell? ⟨wr.heap.size, 0, none⟩ = some (.string ⟨#[112, 97, 116, 104]⟩) ∧ (wr.alloc (.cells #[.string ⟨#[112, 97, 116, 104]⟩, .int .i64 (k : Int), .int .i64 10] 52)).cell? ⟨wr.heap.size, 1, none⟩ = some (.int .i64 (k : Int)) ∧ (wr.alloc (.cells #[.string ⟨#[112, 97, 116, 104]⟩, .int .i64 (k : Int), .int .i64 10] 52)).cell? ⟨wr.heap.size, 2, none⟩ = some (.int .i64 10)) := ⟨by simp, by simp, by simp⟩
        have HZ2 : Hid (Zr (wr.alloc (.cells #[.string ⟨#[112, 97, 116, 104]⟩, .int .i64 (k : Int), .int .i64 10] 52)) w.heap.size) := HZ'.out.off (P := fun _ => False) (Off.of_below hb) id
        have HB2 : Hid (Below w.heap.size w (wr.alloc (.cells #[.string ⟨#[112, 97, 116, 104]⟩, .int .i64 (k : Int), .int .i64 10] 52))) := below_then HB'.out hb
        have hll : wr.heap.size < (wr.alloc (.cells #[.string ⟨#[112, 97, 116, 104]⟩, .int .i64 (k : Int), .int .i64 10] 52)).heap.size := by simp
        have HNB : Hid (¬ wr.heap.size = w.heap.size) := by have := cell_lt HZ'.out.z0; simp only at this; unfold Hid; omega
        obtain ⟨Y, hY⟩ : ∃ Y, wr.alloc (.cells #[.string ⟨#[112, 97, 116, 104]⟩, .int .i64 (k : Int), .int .i64 10] 52) = Y := ⟨_, rfl⟩
        rw [hY] at HL HZ2 HB2 hll ⊢
        clear hY hb c2
        have z0 := HZ2.out.z0
        have z1 := HZ2.out.z1
        have z2 := HZ2.out.z2
        have z3 := HZ2.out.z3
        have z4 := HZ2.out.z4
        have z5 := HZ2.out.z5
        have zf := HZ2.out.fr
        have HH : Hid (wr.heap.size < Y.heap.size) := hll
        clear hll
        go_wp2_with fail
        refine bodyPost_ret (v := .tuple #[plc ⟨#[]⟩ 0 0 0 0 0, .slice (some ⟨wr.heap.size, 0, none⟩) 1 1]) (by simp [results, Tryd.results5, go_sem, plc, z0, z1, z2, z3, z4, z5]) rfl ⟨?_, HB2.out.trans ((off_six _ _ _ _ _ _ _ _).below (B := w.heap.size) HB2.out.size (by rintro k rfl; omega))⟩
        rw [← HQ.out]
        have hk3 : ¬ nmC s = 3 := by have := HNM.out; omega
        unfold RAll
        rw [if_neg hk3]
        have hc := fun j => (off_six Y w.heap.size (.string ⟨#[]⟩) (.int .i64 0) (.int .i64 0) (.int .i64 0) (.int .i64 0) (.int .i64 0)).cell (p := ⟨wr.heap.size, j, none⟩) HH.out HNB.out
        exact Or.inr ⟨k, _, by rw [HNM.out.1], rfl, (hc 0).trans HL.out.1, (hc 1).trans HL.out.2.1, (hc 2).trans HL.out.2.2⟩
      · have h3i : ¬ (i : Int) < 3 := by omega
        go_wp2_with fail
        refine (rlink_any (k : Int) 10 _).mono ?_
        rintro e y ⟨rfl, rfl⟩
        have hb : Below wr.heap.size wr (wr.alloc (.cells #[.string ⟨#[112, 97, 116, 104]⟩, .int .i64 (k : Int), .int .i64 10] 52)) := (Below.refl _ _).alloc (Nat.le_refl _) _
        have HL : Hid ((wr.alloc (.cells #[.string ⟨#[112, 97, 116, 104]⟩, .int .i64 (k : Int), .int .i64 10] 52)).cell? ⟨wr.heap.size, 0, none⟩ = some (.string ⟨#[112, 97, 116, 104]⟩) ∧ (wr.alloc (.cells #[.string ⟨#[112, 97, 116, 104]⟩, .int .i64 (k : Int), .int .i64 10] 52)).cell? ⟨wr.heap.size, 1, none⟩ = some (.int .i64 (k : Int)) ∧ (wr.alloc (.cells #[.string ⟨#[112, 97, 116, 104]⟩, .int .i64 (k : Int), .int .i64 10] 52)).cell? ⟨wr.heap.size, 2, none⟩ = some (.int .i64 10)) := ⟨by simp, by simp, by simp⟩
        have HZ2 : Hid (Zr (wr.alloc (.cells #[.string ⟨#[112, 97, 116, 104]⟩, .int .i64 (k : Int), .int .i64 10] 52)) w.heap.size) := HZ'.out.off (P := fun _ => False) (Off.of_below hb) id
        have HB2 : Hid (Below w.heap.size w (wr.alloc (.cells #[.string ⟨#[112, 97, 116, 104]⟩, .int .i64 (k : Int), .int .i64 10] 52))) := below_then HB'.out hb
        have hll : wr.heap.size < (wr.alloc (.cells #[.string ⟨#[112, 97, 116, 104]⟩, .int .i64 (k : Int), .int .i64 10] 52)).heap.size := by simp
        have HNB : Hid (¬ wr.heap.size = w.heap.size) := by have := cell_lt HZ'.out.z0; simp only at this; unfold Hid; omega
        obtain ⟨Y, hY⟩ : ∃ Y, wr.alloc (.cells #[.string ⟨#[112, 97, 116, 104]⟩, .int .i64 (k : Int), .int .i64 10] 52) = Y := ⟨_, rfl⟩
        rw [hY] at HL HZ2 HB2 hll ⊢
        clear hY hb c2
        have z0 := HZ2.out.z0
        have z1 := HZ2.out.z1
        have z2 := HZ2.out.z2
        have z3 := HZ2.out.z3
        have z4 := HZ2.out.z4
        have z5 := HZ2.out.z5
        have zf := HZ2.out.fr
        have HH : Hid (wr.heap.size < Y.heap.size) := hll
        clear hll
        go_wp2_with fail
        refine bodyPost_ret (v := .tuple #[plc ⟨#[]⟩ 0 0 0 0 0, .slice (some ⟨wr.heap.size, 0, none⟩) 1 1]) (by simp [results, Tryd.results5, go_sem, plc, z0, z1, z2, z3, z4, z5]) rfl ⟨?_, HB2.out.trans ((off_six _ _ _ _ _ _ _ _).below (B := w.heap.size) HB2.out.size (by rintro k rfl; omega))⟩
        rw [← HQ.out]
        have hk3 : ¬ nmC s = 3 := by have := HNM.out; omega
        unfold RAll
        rw [if_neg hk3]
        have hc := fun j => (off_six Y w.heap.size (.string ⟨#[]⟩) (.int .i64 0) (.int .i64 0) (.int .i64 0) (.int .i64 0) (.int .i64 0)).cell (p := ⟨wr.heap.size, j, none⟩) HH.out HNB.out
        exact Or.inr ⟨k, _, by rw [HNM.out.1], rfl, (hc 0).trans HL.out.1, (hc 1).trans HL.out.2.1, (hc 2).trans HL.out.2.2⟩
    | none =>
      have c2 : wr.cell? ⟨w.heap.size + 1, 2, none⟩ = some (.int .i64 (-1)) := HK.out.2.1.bad_none
      have HNM : Hid (∀ j, j < i → nmAt s j = true) := by
        rcases HK.out.1 with ⟨_, h⟩ | ⟨k', h, _⟩
        · exact h
        · cases h
      by_cases h3 : i < 3
      · have h3i : (i : Int) < 3 := by omega
        by_cases hz : i < s.size
        · have hzi : (i : Int) < s.size := by omega
          have hbt := bt_in hz
          by_cases h65 : 65 ≤ (s[i].toNat : Int)
          · by_cases h90 : (s[i].toNat : Int) ≤ 90
            · skip
              have HF : Hid (nmAt s i = true) := by unfold Hid nmAt; rw [hbt]; simp [isL]; omega
              go_wp2_with fail
              go_roundw
              case rel => exact ⟨i + 1, none, by omega, by go_num, Or.inl ⟨rfl, fun j hj => by
                  by_cases e : j = i
                  · subst e; exact HF.out
                  · exact HNM.out j (by omega)⟩, HK.out.2.1, HK.out.2.2⟩
              case measure => simp [intOf]; omega
            · by_cases h0 : 0 < i
              · have h0i : (0 : Int) < i := by omega
                have h48 : 48 ≤ (s[i].toNat : Int) := by omega
                have h57 : ¬ (s[i].toNat : Int) ≤ 57 := by omega
                have HF : Hid (nmAt s i = false) := by unfold Hid nmAt; rw [hbt]; simp [isL, isD]; omega
                have HC : Hid (nmC s = i) := nmC_is hi HNM.out (fun _ => HF.out)
                go_wp2_with fail
                refine (rfault_any i _ HK.out.2.1).mono ?_
                rintro e w2 ⟨rfl, r2, o2⟩
                have HR2 : Hid (RRd w2 (w.heap.size + 1) s 0 (some i)) := r2
                have HO2 : Hid (Off (· = w.heap.size + 1) W0 w2) := HK.out.2.2.trans o2
                clear r2 o2
                go_wp2_with fail
                go_roundw
                case rel => exact ⟨i + 1, some i, by omega, by go_num, Or.inr ⟨i, rfl, h3, HC.out⟩, HR2.out, HO2.out⟩
                case measure => simp [intOf]; omega
              · have h0i : ¬ (0 : Int) < i := by omega
                have HF : Hid (nmAt s i = false) := by unfold Hid nmAt; rw [hbt]; simp [isL, isD]; omega
                have HC : Hid (nmC s = i) := nmC_is hi HNM.out (fun _ => HF.out)
                go_wp2_with fail
                refine (rfault_any i _ HK.out.2.1).mono ?_
                rintro e w2 ⟨rfl, r2, o2⟩
                have HR2 : Hid (RRd w2 (w.heap.size + 1) s 0 (some i)) := r2
                have HO2 : Hid (Off (· = w.heap.size + 1) W0 w2) := HK.out.2.2.trans o2
                clear r2 o2
                go_wp2_with fail
                go_roundw
                case rel => exact ⟨i + 1, some i, by omega, by go_num, Or.inr ⟨i, rfl, h3, HC.out⟩, HR2.out, HO2.out⟩
                case measure => simp [intOf]; omega
          · by_cases h0 : 0 < i
            · have h0i : (0 : Int) < i := by omega
              by_cases h48 : 48 ≤ (s[i].toNat : Int)
              · by_cases h57 : (s[i].toNat : Int) ≤ 57
                · skip
                  have HF : Hid (nmAt s i = true) := by unfold Hid nmAt; rw [hbt]; simp [isL, isD]; omega
                  go_wp2_with fail
                  go_roundw
                  case rel => exact ⟨i + 1, none, by omega, by go_num, Or.inl ⟨rfl, fun j hj => by
                      by_cases e : j = i
                      · subst e; exact HF.out
                      · exact HNM.out j (by omega)⟩, HK.out.2.1, HK.out.2.2⟩
                  case measure => simp [intOf]; omega
                · skip
                  have HF : Hid (nmAt s i = false) := by unfold Hid nmAt; rw [hbt]; simp [isL, isD]; omega
                  have HC : Hid (nmC s = i) := nmC_is hi HNM.out (fun _ => HF.out)
                  go_wp2_with fail
                  refine (rfault_any i _ HK.out.2.1).mono ?_
                  rintro e w2 ⟨rfl, r2, o2⟩
                  have HR2 : Hid (RRd w2 (w.heap.size + 1) s 0 (some i)) := r2
                  have HO2 : Hid (Off (· = w.heap.size + 1) W0 w2) := HK.out.2.2.trans o2
                  clear r2 o2
                  go_wp2_with fail
                  go_roundw
                  case rel => exact ⟨i + 1, some i, by omega, by go_num, Or.inr ⟨i, rfl, h3, HC.out⟩, HR2.out, HO2.out⟩
                  case measure => simp [intOf]; omega
              · skip
                have HF : Hid (nmAt s i = false) := by unfold Hid nmAt; rw [hbt]; simp [isL, isD]; omega
                have HC : Hid (nmC s = i) := nmC_is hi HNM.out (fun _ => HF.out)
                go_wp2_with fail
                refine (rfault_any i _ HK.out.2.1).mono ?_
                rintro e w2 ⟨rfl, r2, o2⟩
                have HR2 : Hid (RRd w2 (w.heap.size + 1) s 0 (some i)) := r2
                have HO2 : Hid (Off (· = w.heap.size + 1) W0 w2) := HK.out.2.2.trans o2
                clear r2 o2
                go_wp2_with fail
                go_roundw
                case rel => exact ⟨i + 1, some i, by omega, by go_num, Or.inr ⟨i, rfl, h3, HC.out⟩, HR2.out, HO2.out⟩
                case measure => simp [intOf]; omega
            · have h0i : ¬ (0 : Int) < i := by omega
              have HF : Hid (nmAt s i = false) := by unfold Hid nmAt; rw [hbt]; simp [isL, isD]; omega
              have HC : Hid (nmC s = i) := nmC_is hi HNM.out (fun _ => HF.out)
              go_wp2_with fail
              refine (rfault_any i _ HK.out.2.1).mono ?_
              rintro e w2 ⟨rfl, r2, o2⟩
              have HR2 : Hid (RRd w2 (w.heap.size + 1) s 0 (some i)) := r2
              have HO2 : Hid (Off (· = w.heap.size + 1) W0 w2) := HK.out.2.2.trans o2
              clear r2 o2
              go_wp2_with fail
              go_roundw
              case rel => exact ⟨i + 1, some i, by omega, by go_num, Or.inr ⟨i, rfl, h3, HC.out⟩, HR2.out, HO2.out⟩
              case measure => simp [intOf]; omega
        · have hzi : (s.size : Int) ≤ i := by omega
          have HF : Hid (nmAt s i = false) := nmAt_end (by omega)
          have HC : Hid (nmC s = i) := nmC_is hi HNM.out (fun _ => HF.out)
          go_wp2_with fail
          refine (rfault_any i _ HK.out.2.1).mono ?_
          rintro e w2 ⟨rfl, r2, o2⟩
          have HR2 : Hid (RRd w2 (w.heap.size + 1) s 0 (some i)) := r2
          have HO2 : Hid (Off (· = w.heap.size + 1) W0 w2) := HK.out.2.2.trans o2
          clear r2 o2
          go_wp2_with fail
          go_roundw
          case rel => exact ⟨i + 1, some i, by omega, by go_num, Or.inr ⟨i, rfl, h3, HC.out⟩, HR2.out, HO2.out⟩
          case measure => simp [intOf]; omega
      · have h3i : ¬ (i : Int) < 3 := by omega
        have HN3 : Hid (nmC s = 3) := nmC_is (k := 3) (by omega) (fun j hj => HNM.out j (by omega)) (fun h => absurd h (by omega))
        have HSZ3 : Hid (3 ≤ s.size) := by have := nmC_size s; have := HN3.out; unfold Hid; omega
        have h3z : (3 : Int) ≤ s.size := by have := HSZ3.out; omega
        have c1 := HK.out.2.1.at_
        have f1 := HK.out.2.1.fr1
        go_wp2_with fail
        obtain ⟨W1, hW1⟩ : ∃ W1, (wr.setCell ⟨w.heap.size + 1, 1, none⟩ (.int .i64 3)).alloc (.cells #[.string (s.extract 0 3), .int .i64 1, .int .i64 3, .int .i64 1, .int .i64 1, .int .i64 1] 23) = W1 := ⟨_, rfl⟩
        have HB0 : Hid (Below w.heap.size w wr) := HB.out.trans (HK.out.2.2.below (B := w.heap.size) HB.out.size (by rintro k rfl; omega))
        have HZ0 : Hid (Zr wr w.heap.size) := HZ.out.off HK.out.2.2 HNR.out
        have hsz1 : w.heap.size + 1 < wr.heap.size := by have := HK.out.2.2.size; have := HSZ.out; omega
        have HJ : Hid (JW w (w.heap.size + 1) wr.heap.size s (sg s) S0 W1) := by
          have r1 : RRd (wr.setCell ⟨w.heap.size + 1, 1, none⟩ (.int .i64 3)) (w.heap.size + 1) s 3 none := HK.out.2.1.moved (c := 3) HSZ3.out
          have o1 : Off (· = w.heap.size + 1) wr (wr.setCell ⟨w.heap.size + 1, 1, none⟩ (.int .i64 3)) := (Off.refl (· = w.heap.size + 1) wr).setCell (p := ⟨w.heap.size + 1, 1, none⟩) rfl _
          have oA : Off (fun _ => False) (wr.setCell ⟨w.heap.size + 1, 1, none⟩ (.int .i64 3)) W1 := by rw [← hW1]; exact (Off.refl _ _).alloc _
          exact ⟨r1.off oA id, by rw [← hW1]; exact new_pb _ _ (by simp), (HZ0.out.off o1 HNR.out).off oA id, (HB0.out.trans (o1.below (B := w.heap.size) HB0.out.size (by rintro k rfl; omega))).trans (oA.below (B := w.heap.size) (by have := HB0.out.size; simpa using this) (by rintro k hk; exact hk.elim)), by omega, hsz1⟩
        rw [hW1]
        clear hW1 c1 f1 c2
        obtain ⟨B, hB⟩ : ∃ B, wr.heap.size = B := ⟨_, rfl⟩
        obtain ⟨SG, hSG⟩ : ∃ SG, sg s = SG := ⟨_, rfl⟩
        rw [hB, hSG] at HJ
        rw [hB]
        have HSG : Hid (sg s = SG) := hSG
        have HBR : Hid (w.heap.size + 1 < B) := by unfold Hid; rw [← hB]; exact hsz1
        clear hB hSG hsz1 h3z HZ HB HZ0 HB0 HK HR HSZ HNM
        obtain ⟨x, hx⟩ : ∃ x, S0 = x := ⟨_, rfl⟩
        have HX : Hid (S0 = x) := hx
        rw [hx] at HJ
        clear hx
        go_wp2_with fail
        refine (is_any 91 _ HJ.out.rd (by decide)).mono ?_
        rintro e v ⟨he, r, o⟩
        have HJn : Hid (JW w (w.heap.size + 1) B s SG (adv s 91 x) v) := HJ.out.step r o
        obtain ⟨q, hq⟩ : ∃ q, isQ s 91 x.a x.bad = q := ⟨_, rfl⟩
        have HQq : Hid (isQ s 91 x.a x.bad = q) := hq
        rw [hq] at he
        subst he
        clear hq r o HJ
        go_upto_if 76 with fail
        go_cut [7] from 8 (fun _ wx => Hid (JW w (w.heap.size + 1) B s SG (S1 s SG) wx))
        case first =>
          have HJ := HJn
          clear HJn
          cases q with
          | false =>
            go_wp2_with fail
            go_meet
            have e1 : adv s 91 x = S1 s SG := by rw [adv_no HQq.out, ← HX.out]; unfold S1; rw [if_neg (by have := HQq.out; rw [← HX.out] at this; rw [show isQ s 91 3 none = false from this]; decide)]
            rw [← e1]; exact HJ
          | true =>
            obtain ⟨y, hy⟩ : ∃ y, adv s 91 x = y := ⟨_, rfl⟩
            have HY : Hid (adv s 91 x = y) := hy
            rw [hy] at HJ
            clear hy
            go_wp2_with fail
            refine (rnum_any _ HJ.out.rd).mono ?_
            rintro e v ⟨rfl, r, o⟩
            obtain ⟨n, hn⟩ : ∃ n : Int, ((nN s y.a y.bad : Nat) : Int) = n := ⟨_, rfl⟩
            rw [hn]
            have HNn : Hid (((nN s y.a y.bad : Nat) : Int) = n) := hn
            have HJa : Hid (JW w (w.heap.size + 1) B s SG { y with a := nA s y.a y.bad, bad := nB s y.a y.bad } v) := HJ.out.step r o
            have HJb : Hid (JW w (w.heap.size + 1) B s SG (qutO { y with a := nA s y.a y.bad, bad := nB s y.a y.bad } n) (v.setCell ⟨B, 1, none⟩ (.int .i64 n))) := HJa.out.putO n
            have z0 := HJa.out.pb.z0
            have z1 : v.cell? ⟨B, 1, none⟩ = some (.int .i64 y.o) := HJa.out.pb.z1
            have z2 : v.cell? ⟨B, 2, none⟩ = some (.int .i64 y.f) := HJa.out.pb.z2
            have z3 : v.cell? ⟨B, 3, none⟩ = some (.int .i64 y.r) := HJa.out.pb.z3
            have z4 : v.cell? ⟨B, 4, none⟩ = some (.int .i64 y.c) := HJa.out.pb.z4
            have z5 : v.cell? ⟨B, 5, none⟩ = some (.int .i64 y.b) := HJa.out.pb.z5
            have zf := HJa.out.pb.fr 1
            clear hn r o HJ HJa
            go_wp2_with fail
            clear z0 z1 z2 z3 z4 z5 zf
            refine (rright_any SG n y.f y.r y.c y.b y.a _ HJb.out.rd).mono ?_
            rintro e v2 ⟨rfl, r, o⟩
            have HJ : Hid (JW w (w.heap.size + 1) B s SG (nums s SG qutO y) v2) := by
              have h := HJb.out.step r o
              have e1 : nums s SG qutO y = { qutO { y with a := nA s y.a y.bad, bad := nB s y.a y.bad } n with a := nA s y.a y.bad, bad := rgtB (rgt SG n y.f y.r y.c y.b) y.a (nB s y.a y.bad) } := by
                unfold nums; rw [HNn.out]; rfl
              unfold Hid; rw [e1]; exact h
            clear r o HJb HNn
            obtain ⟨z, hz⟩ : ∃ z, nums s SG qutO y = z := ⟨_, rfl⟩
            have HZd : Hid (nums s SG qutO y = z) := hz
            rw [hz] at HJ
            clear hz
            go_wp2_with fail
            refine (must_any 93 _ HJ.out.rd (by decide)).mono ?_
            rintro e v3 ⟨rfl, r, o⟩
            have HJm : Hid (JW w (w.heap.size + 1) B s SG (mst s 93 z) v3) := HJ.out.step r o
            clear r o HJ
            go_wp2_with fail
            go_meet
            have e1 : mst s 93 z = S1 s SG := by
              rw [← HZd.out, ← HY.out, ← HX.out]; unfold S1; rw [if_pos (by have := HQq.out; rw [← HX.out] at this; exact this)]
            rw [← e1]; exact HJm
        case rest =>
        have HJ := hcut
        clear hcut HJn HQq HX
        obtain ⟨z, hz⟩ : ∃ z, S1 s SG = z := ⟨_, rfl⟩
        have HX : Hid (S1 s SG = z) := hz
        rw [hz] at HJ
        clear hz
        go_wp2_with fail
        refine (must_any 45 _ HJ.out.rd (by decide)).mono ?_
        rintro e v3 ⟨rfl, r, o⟩
        have HJm : Hid (JW w (w.heap.size + 1) B s SG (mst s 45 z) v3) := HJ.out.step r o
        clear r o HJ
        have HJ := HJm
        clear HJm
        obtain ⟨y, hy⟩ : ∃ y, mst s 45 z = y := ⟨_, rfl⟩
        have HY : Hid (mst s 45 z = y) := hy
        rw [hy] at HJ
        clear hy
        go_wp2_with fail
        refine (rnum_any _ HJ.out.rd).mono ?_
        rintro e v ⟨rfl, r, o⟩
        obtain ⟨n, hn⟩ : ∃ n : Int, ((nN s y.a y.bad : Nat) : Int) = n := ⟨_, rfl⟩
        rw [hn]
        have HNn : Hid (((nN s y.a y.bad : Nat) : Int) = n) := hn
        have HJa : Hid (JW w (w.heap.size + 1) B s SG { y with a := nA s y.a y.bad, bad := nB s y.a y.bad } v) := HJ.out.step r o
        have HJb : Hid (JW w (w.heap.size + 1) B s SG (qutF { y with a := nA s y.a y.bad, bad := nB s y.a y.bad } n) (v.setCell ⟨B, 2, none⟩ (.int .i64 n))) := HJa.out.putF n
        have z0 := HJa.out.pb.z0
        have z1 : v.cell? ⟨B, 1, none⟩ = some (.int .i64 y.o) := HJa.out.pb.z1
        have z2 : v.cell? ⟨B, 2, none⟩ = some (.int .i64 y.f) := HJa.out.pb.z2
        have z3 : v.cell? ⟨B, 3, none⟩ = some (.int .i64 y.r) := HJa.out.pb.z3
        have z4 : v.cell? ⟨B, 4, none⟩ = some (.int .i64 y.c) := HJa.out.pb.z4
        have z5 : v.cell? ⟨B, 5, none⟩ = some (.int .i64 y.b) := HJa.out.pb.z5
        have zf := HJa.out.pb.fr 2
        clear hn r o HJ HJa
        go_wp2_with fail
        clear z0 z1 z2 z3 z4 z5 zf
        refine (rright_any SG y.o n y.r y.c y.b y.a _ HJb.out.rd).mono ?_
        rintro e v2 ⟨rfl, r, o⟩
        have HJ : Hid (JW w (w.heap.size + 1) B s SG (nums s SG qutF y) v2) := by
          have h := HJb.out.step r o
          have e1 : nums s SG qutF y = { qutF { y with a := nA s y.a y.bad, bad := nB s y.a y.bad } n with a := nA s y.a y.bad, bad := rgtB (rgt SG y.o n y.r y.c y.b) y.a (nB s y.a y.bad) } := by
            unfold nums; rw [HNn.out]; rfl
          unfold Hid; rw [e1]; exact h
        clear r o HJb HNn
        have e2 : nums s SG qutF y = S2 s SG := by unfold S2; rw [HX.out, HY.out]
        rw [e2] at HJ
        clear e2 HX HY
        obtain ⟨x2, hx2⟩ : ∃ x, S2 s SG = x := ⟨_, rfl⟩
        have HX2 : Hid (S2 s SG = x2) := hx2
        rw [hx2] at HJ
        clear hx2
        go_wp2_with fail
        refine (is_any 91 _ HJ.out.rd (by decide)).mono ?_
        rintro e v ⟨he, r, o⟩
        have HJn : Hid (JW w (w.heap.size + 1) B s SG (adv s 91 x2) v) := HJ.out.step r o
        obtain ⟨q, hq⟩ : ∃ q, isQ s 91 x2.a x2.bad = q := ⟨_, rfl⟩
        have HQq : Hid (isQ s 91 x2.a x2.bad = q) := hq
        rw [hq] at he
        subst he
        clear hq r o HJ
        go_upto_if 102 with fail
        go_cut [7] from 8 (fun _ wx => Hid (JW w (w.heap.size + 1) B s SG (S3 s SG) wx))
        case first =>
          have HJ := HJn
          clear HJn
          cases q with
          | false =>
            go_wp2_with fail
            go_meet
            have e1 : adv s 91 x2 = S3 s SG := by rw [adv_no HQq.out]; unfold S3; rw [HX2.out, HQq.out]; rfl
            rw [← e1]; exact HJ
          | true =>
            obtain ⟨y, hy⟩ : ∃ y, adv s 91 x2 = y := ⟨_, rfl⟩
            have HY : Hid (adv s 91 x2 = y) := hy
            rw [hy] at HJ
            clear hy
            go_wp2_with fail
            refine (rnum_any _ HJ.out.rd).mono ?_
            rintro e v ⟨rfl, r, o⟩
            obtain ⟨n, hn⟩ : ∃ n : Int, ((nN s y.a y.bad : Nat) : Int) = n := ⟨_, rfl⟩
            rw [hn]
            have HNn : Hid (((nN s y.a y.bad : Nat) : Int) = n) := hn
            have HJa : Hid (JW w (w.heap.size + 1) B s SG { y with a := nA s y.a y.bad, bad := nB s y.a y.bad } v) := HJ.out.step r o
            have HJb : Hid (JW w (w.heap.size + 1) B s SG (qutR { y with a := nA s y.a y.bad, bad := nB s y.a y.bad } n) (v.setCell ⟨B, 3, none⟩ (.int .i64 n))) := HJa.out.putR n
            have z0 := HJa.out.pb.z0
            have z1 : v.cell? ⟨B, 1, none⟩ = some (.int .i64 y.o) := HJa.out.pb.z1
            have z2 : v.cell? ⟨B, 2, none⟩ = some (.int .i64 y.f) := HJa.out.pb.z2
            have z3 : v.cell? ⟨B, 3, none⟩ = some (.int .i64 y.r) := HJa.out.pb.z3
            have z4 : v.cell? ⟨B, 4, none⟩ = some (.int .i64 y.c) := HJa.out.pb.z4
            have z5 : v.cell? ⟨B, 5, none⟩ = some (.int .i64 y.b) := HJa.out.pb.z5
            have zf := HJa.out.pb.fr 3
            clear hn r o HJ HJa
            go_wp2_with fail
            clear z0 z1 z2 z3 z4 z5 zf
            refine (rright_any SG y.o y.f n y.c y.b y.a _ HJb.out.rd).mono ?_
            rintro e v2 ⟨rfl, r, o⟩
            have HJ : Hid (JW w (w.heap.size + 1) B s SG (nums s SG qutR y) v2) := by
              have h := HJb.out.step r o
              have e1 : nums s SG qutR y = { qutR { y with a := nA s y.a y.bad, bad := nB s y.a y.bad } n with a := nA s y.a y.bad, bad := rgtB (rgt SG y.o y.f n y.c y.b) y.a (nB s y.a y.bad) } := by
                unfold nums; rw [HNn.out]; rfl
              unfold Hid; rw [e1]; exact h
            clear r o HJb HNn
            obtain ⟨z, hz⟩ : ∃ z, nums s SG qutR y = z := ⟨_, rfl⟩
            have HZd : Hid (nums s SG qutR y = z) := hz
            rw [hz] at HJ
            clear hz
            go_wp2_with fail
            refine (must_any 93 _ HJ.out.rd (by decide)).mono ?_
            rintro e v3 ⟨rfl, r, o⟩
            have HJm : Hid (JW w (w.heap.size + 1) B s SG (mst s 93 z) v3) := HJ.out.step r o
            clear r o HJ
            go_wp2_with fail
            go_meet
            have e1 : mst s 93 z = S3 s SG := by
              unfold S3; rw [HX2.out, HQq.out, HY.out, HZd.out]; rfl
            rw [← e1]; exact HJm
        case rest =>
        have HJ := hcut
        clear hcut HJn HQq HX2
        obtain ⟨x3, hx3⟩ : ∃ x, S3 s SG = x := ⟨_, rfl⟩
        have HX3 : Hid (S3 s SG = x3) := hx3
        rw [hx3] at HJ
        clear hx3
        go_wp2_with fail
        refine (is_any 46 _ HJ.out.rd (by decide)).mono ?_
        rintro e v ⟨he, r, o⟩
        have HJn : Hid (JW w (w.heap.size + 1) B s SG (adv s 46 x3) v) := HJ.out.step r o
        obtain ⟨q, hq⟩ : ∃ q, isQ s 46 x3.a x3.bad = q := ⟨_, rfl⟩
        have HQq : Hid (isQ s 46 x3.a x3.bad = q) := hq
        rw [hq] at he
        subst he
        clear hq r o HJ
        go_upto_if 116 with fail
        go_cut [7] from 8 (fun _ wx => Hid (JW w (w.heap.size + 1) B s SG (S5 s SG) wx))
        case first =>
          have HJ := HJn
          clear HJn
          cases q with
          | false =>
            go_wp2_with fail
            go_meet
            have e1 : adv s 46 x3 = S5 s SG := by rw [adv_no HQq.out]; unfold S5; rw [HX3.out, HQq.out]; rfl
            rw [← e1]; exact HJ
          | true =>
            obtain ⟨y, hy⟩ : ∃ y, adv s 46 x3 = y := ⟨_, rfl⟩
            have HY : Hid (adv s 46 x3 = y) := hy
            rw [hy] at HJ
            clear hy
            go_wp2_with fail
            refine (rnum_any _ HJ.out.rd).mono ?_
            rintro e v ⟨rfl, r, o⟩
            obtain ⟨n, hn⟩ : ∃ n : Int, ((nN s y.a y.bad : Nat) : Int) = n := ⟨_, rfl⟩
            rw [hn]
            have HNn : Hid (((nN s y.a y.bad : Nat) : Int) = n) := hn
            have HJa : Hid (JW w (w.heap.size + 1) B s SG { y with a := nA s y.a y.bad, bad := nB s y.a y.bad } v) := HJ.out.step r o
            have HJb : Hid (JW w (w.heap.size + 1) B s SG (qutC { y with a := nA s y.a y.bad, bad := nB s y.a y.bad } n) (v.setCell ⟨B, 4, none⟩ (.int .i64 n))) := HJa.out.putC n
            have z0 := HJa.out.pb.z0
            have z1 : v.cell? ⟨B, 1, none⟩ = some (.int .i64 y.o) := HJa.out.pb.z1
            have z2 : v.cell? ⟨B, 2, none⟩ = some (.int .i64 y.f) := HJa.out.pb.z2
            have z3 : v.cell? ⟨B, 3, none⟩ = some (.int .i64 y.r) := HJa.out.pb.z3
            have z4 : v.cell? ⟨B, 4, none⟩ = some (.int .i64 y.c) := HJa.out.pb.z4
            have z5 : v.cell? ⟨B, 5, none⟩ = some (.int .i64 y.b) := HJa.out.pb.z5
            have zf := HJa.out.pb.fr 4
            clear hn r o HJ HJa
            go_wp2_with fail
            clear z0 z1 z2 z3 z4 z5 zf
            refine (rright_any SG y.o y.f y.r n y.b y.a _ HJb.out.rd).mono ?_
            rintro e v2 ⟨rfl, r, o⟩
            have HJ : Hid (JW w (w.heap.size + 1) B s SG (nums s SG qutC y) v2) := by
              have h := HJb.out.step r o
              have e1 : nums s SG qutC y = { qutC { y with a := nA s y.a y.bad, bad := nB s y.a y.bad } n with a := nA s y.a y.bad, bad := rgtB (rgt SG y.o y.f y.r n y.b) y.a (nB s y.a y.bad) } := by
                unfold nums; rw [HNn.out]; rfl
              unfold Hid; rw [e1]; exact h
            clear r o HJb HNn
            have e4 : nums s SG qutC y = S4 s SG := by unfold S4; rw [HX3.out, HQq.out, HY.out]; rfl
            rw [e4] at HJ
            clear e4 HY
            have HQ3 : Hid (isQ s 46 x3.a x3.bad = true) := HQq
            clear HQq
            obtain ⟨x4, hx4⟩ : ∃ x, S4 s SG = x := ⟨_, rfl⟩
            have HX4 : Hid (S4 s SG = x4) := hx4
            rw [hx4] at HJ
            clear hx4
            go_wp2_with fail
            refine (is_any 46 _ HJ.out.rd (by decide)).mono ?_
            rintro e v ⟨he, r, o⟩
            have HJn : Hid (JW w (w.heap.size + 1) B s SG (adv s 46 x4) v) := HJ.out.step r o
            obtain ⟨q, hq⟩ : ∃ q, isQ s 46 x4.a x4.bad = q := ⟨_, rfl⟩
            have HQq : Hid (isQ s 46 x4.a x4.bad = q) := hq
            rw [hq] at he
            subst he
            clear hq r o HJ
            have HJ := HJn
            clear HJn
            cases q with
            | false =>
              go_wp2_with fail
              go_meet
              have e1 : adv s 46 x4 = S5 s SG := by rw [adv_no HQq.out]; unfold S5; rw [HX3.out, HQ3.out, HX4.out, HQq.out]; rfl
              rw [← e1]; exact HJ
            | true =>
              obtain ⟨y, hy⟩ : ∃ y, adv s 46 x4 = y := ⟨_, rfl⟩
              have HY : Hid (adv s 46 x4 = y) := hy
              rw [hy] at HJ
              clear hy
              go_wp2_with fail
              refine (rnum_any _ HJ.out.rd).mono ?_
              rintro e v ⟨rfl, r, o⟩
              obtain ⟨n, hn⟩ : ∃ n : Int, ((nN s y.a y.bad : Nat) : Int) = n := ⟨_, rfl⟩
              rw [hn]
              have HNn : Hid (((nN s y.a y.bad : Nat) : Int) = n) := hn
              have HJa : Hid (JW w (w.heap.size + 1) B s SG { y with a := nA s y.a y.bad, bad := nB s y.a y.bad } v) := HJ.out.step r o
              have HJb : Hid (JW w (w.heap.size + 1) B s SG (qutB { y with a := nA s y.a y.bad, bad := nB s y.a y.bad } n) (v.setCell ⟨B, 5, none⟩ (.int .i64 n))) := HJa.out.putB n
              have z0 := HJa.out.pb.z0
              have z1 : v.cell? ⟨B, 1, none⟩ = some (.int .i64 y.o) := HJa.out.pb.z1
              have z2 : v.cell? ⟨B, 2, none⟩ = some (.int .i64 y.f) := HJa.out.pb.z2
              have z3 : v.cell? ⟨B, 3, none⟩ = some (.int .i64 y.r) := HJa.out.pb.z3
              have z4 : v.cell? ⟨B, 4, none⟩ = some (.int .i64 y.c) := HJa.out.pb.z4
              have z5 : v.cell? ⟨B, 5, none⟩ = some (.int .i64 y.b) := HJa.out.pb.z5
              have zf := HJa.out.pb.fr 5
              clear hn r o HJ HJa
              go_wp2_with fail
              clear z0 z1 z2 z3 z4 z5 zf
              refine (rright_any SG y.o y.f y.r y.c n y.a _ HJb.out.rd).mono ?_
              rintro e v2 ⟨rfl, r, o⟩
              have HJ : Hid (JW w (w.heap.size + 1) B s SG (nums s SG qutB y) v2) := by
                have h := HJb.out.step r o
                have e1 : nums s SG qutB y = { qutB { y with a := nA s y.a y.bad, bad := nB s y.a y.bad } n with a := nA s y.a y.bad, bad := rgtB (rgt SG y.o y.f y.r y.c n) y.a (nB s y.a y.bad) } := by
                  unfold nums; rw [HNn.out]; rfl
                unfold Hid; rw [e1]; exact h
              clear r o HJb HNn
              go_wp2_with fail
              go_meet
              have e1 : nums s SG qutB y = S5 s SG := by
                unfold S5; rw [HX3.out, HQ3.out, HX4.out, HQq.out, HY.out]; rfl
              rw [← e1]; exact HJ
        case rest =>
        have HJ := hcut
        clear hcut HJn HQq HX3
        obtain ⟨x5, hx5⟩ : ∃ x, S5 s SG = x := ⟨_, rfl⟩
        have HX5 : Hid (S5 s SG = x5) := hx5
        rw [hx5] at HJ
        clear hx5
        have HXS : Hid (S6 s SG = endB s x5.a x5.bad) := by unfold Hid S6; rw [HX5.out]
        have HIN : Hid (x5.a ≤ s.size) := HJ.out.rd.in_
        have HALL : Hid (∀ e w', ROut s (S6 s SG) x5 e w' → Q e w') := fun e w' h => by
          rw [← HQ.out]; unfold RAll; rw [if_pos HN3.out, HSG.out, HX5.out]; exact ⟨h, HIN.out⟩
        clear HQ HX5
        have hxa := HJ.out.rd.in_
        obtain ⟨xa, hxa2⟩ : ∃ z, x5.a = z := ⟨_, rfl⟩
        obtain ⟨xb, hxb2⟩ : ∃ z, x5.bad = z := ⟨_, rfl⟩
        have HRD : Hid (RRd wc (w.heap.size + 1) s xa xb) := by have := HJ.out.rd; rw [hxa2, hxb2] at this; exact this
        rw [hxa2, hxb2] at HXS
        rw [hxa2] at hxa
        clear hxa2 hxb2
        have c1 := HRD.out.at_
        cases xb with
        | some k =>
          have c2 : wc.cell? ⟨w.heap.size + 1, 2, none⟩ = some (.int .i64 (k : Int)) := HRD.out.bad
          have hk0 : ¬ (k : Int) < 0 := by omega
          have hk1 : (0 : Int) ≤ k := by omega
          have HF6 : Hid (S6 s SG = some k) := HXS.out
          have HZ' : Hid (Zr wc w.heap.size) := HJ.out.zr
          have HB' : Hid (Below w.heap.size w wc) := HJ.out.bl
          go_wp2_with fail
          refine (rlink_any (k : Int) 10 _).mono ?_
          rintro e y ⟨rfl, rfl⟩
          have hb : Below wc.heap.size wc (wc.alloc (.cells #[.string ⟨#[112, 97, 116, 104]⟩, .int .i64 (k : Int), .int .i64 10] 52)) := (Below.refl _ _).alloc (Nat.le_refl _) _
          have HL : Hid ((wc.alloc (.cells #[.string ⟨#[112, 97, 116, 104]⟩, .int .i64 (k : Int), .int .i64 10] 52)).cell? ⟨wc.heap.size, 0, none⟩ = some (.string ⟨#[112, 97, 116, 104]⟩) ∧ (wc.alloc (.cells #[.string ⟨#[112, 97, 116, 104]⟩, .int .i64 (k : Int), .int .i64 10] 52)).cell? ⟨wc.heap.size, 1, none⟩ = some (.int .i64 (k : Int)) ∧ (wc.alloc (.cells #[.string ⟨#[112, 97, 116, 104]⟩, .int .i64 (k : Int), .int .i64 10] 52)).cell? ⟨wc.heap.size, 2, none⟩ = some (.int .i64 10)) := ⟨by simp, by simp, by simp⟩
          have HZ2 : Hid (Zr (wc.alloc (.cells #[.string ⟨#[112, 97, 116, 104]⟩, .int .i64 (k : Int), .int .i64 10] 52)) w.heap.size) := HZ'.out.off (P := fun _ => False) (Off.of_below hb) id
          have HB2 : Hid (Below w.heap.size w (wc.alloc (.cells #[.string ⟨#[112, 97, 116, 104]⟩, .int .i64 (k : Int), .int .i64 10] 52))) := below_then HB'.out hb
          have hll : wc.heap.size < (wc.alloc (.cells #[.string ⟨#[112, 97, 116, 104]⟩, .int .i64 (k : Int), .int .i64 10] 52)).heap.size := by simp
          have HNB : Hid (¬ wc.heap.size = w.heap.size) := by have := cell_lt HZ'.out.z0; simp only at this; unfold Hid; omega
          obtain ⟨Y, hY⟩ : ∃ Y, wc.alloc (.cells #[.string ⟨#[112, 97, 116, 104]⟩, .int .i64 (k : Int), .int .i64 10] 52) = Y := ⟨_, rfl⟩
          rw [hY] at HL HZ2 HB2 hll ⊢
          clear hY hb c2
          have z0 := HZ2.out.z0
          have z1 := HZ2.out.z1
          have z2 := HZ2.out.z2
          have z3 := HZ2.out.z3
          have z4 := HZ2.out.z4
          have z5 := HZ2.out.z5
          have zf := HZ2.out.fr
          have HH : Hid (wc.heap.size < Y.heap.size) := hll
          clear hll
          go_wp2_with fail
          refine bodyPost_ret (v := .tuple #[plc ⟨#[]⟩ 0 0 0 0 0, .slice (some ⟨wc.heap.size, 0, none⟩) 1 1]) (by simp [results, Tryd.results5, go_sem, plc, z0, z1, z2, z3, z4, z5]) rfl ⟨HALL.out _ _ ?_, HB2.out.trans ((off_six _ _ _ _ _ _ _ _).below (B := w.heap.size) HB2.out.size (by rintro k rfl; omega))⟩
          have hc := fun j => (off_six Y w.heap.size (.string ⟨#[]⟩) (.int .i64 0) (.int .i64 0) (.int .i64 0) (.int .i64 0) (.int .i64 0)).cell (p := ⟨wc.heap.size, j, none⟩) HH.out HNB.out
          exact Or.inr ⟨k, _, HF6.out, rfl, (hc 0).trans HL.out.1, (hc 1).trans HL.out.2.1, (hc 2).trans HL.out.2.2⟩
        | none =>
          have c2 : wc.cell? ⟨w.heap.size + 1, 2, none⟩ = some (.int .i64 (-1)) := HRD.out.bad_none
          by_cases hl : xa < s.size
          · have hli : (xa : Int) < s.size := by omega
            have HF6 : Hid (S6 s SG = some xa) := by unfold Hid; rw [HXS.out]; simp only [endB, if_pos hl]
            clear HXS
            go_wp2_with fail
            refine (rfault_any xa _ HRD.out).mono ?_
            rintro e v9 ⟨rfl, r, o⟩
            have HJ9 : Hid (JW w (w.heap.size + 1) B s SG { x5 with a := xa, bad := some xa } v9) := HJ.out.step r o
            have c2' : v9.cell? ⟨w.heap.size + 1, 2, none⟩ = some (.int .i64 (xa : Int)) := HJ9.out.rd.bad
            have hk0 : ¬ (xa : Int) < 0 := by omega
            have hk1 : (0 : Int) ≤ xa := by omega
            have HZ' : Hid (Zr v9 w.heap.size) := HJ9.out.zr
            have HB' : Hid (Below w.heap.size w v9) := HJ9.out.bl
            clear r o c1 c2 hl hli hxa
            go_wp2_with fail
            refine (rlink_any (xa : Int) 10 _).mono ?_
            rintro e y ⟨rfl, rfl⟩
            have hb : Below v9.heap.size v9 (v9.alloc (.cells #[.string ⟨#[112, 97, 116, 104]⟩, .int .i64 (xa : Int), .int .i64 10] 52)) := (Below.refl _ _).alloc (Nat.le_refl _) _
            have HL : Hid ((v9.alloc (.cells #[.string ⟨#[112, 97, 116, 104]⟩, .int .i64 (xa : Int), .int .i64 10] 52)).cell? ⟨v9.heap.size, 0, none⟩ = some (.string ⟨#[112, 97, 116, 104]⟩) ∧ (v9.alloc (.cells #[.string ⟨#[112, 97, 116, 104]⟩, .int .i64 (xa : Int), .int .i64 10] 52)).cell? ⟨v9.heap.size, 1, none⟩ = some (.int .i64 (xa : Int)) ∧ (v9.alloc (.cells #[.string ⟨#[112, 97, 116, 104]⟩, .int .i64 (xa : Int), .int .i64 10] 52)).cell? ⟨v9.heap.size, 2, none⟩ = some (.int .i64 10)) := ⟨by simp, by simp, by simp⟩
            have HZ2 : Hid (Zr (v9.alloc (.cells #[.string ⟨#[112, 97, 116, 104]⟩, .int .i64 (xa : Int), .int .i64 10] 52)) w.heap.size) := HZ'.out.off (P := fun _ => False) (Off.of_below hb) id
            have HB2 : Hid (Below w.heap.size w (v9.alloc (.cells #[.string ⟨#[112, 97, 116, 104]⟩, .int .i64 (xa : Int), .int .i64 10] 52))) := below_then HB'.out hb
            have hll : v9.heap.size < (v9.alloc (.cells #[.string ⟨#[112, 97, 116, 104]⟩, .int .i64 (xa : Int), .int .i64 10] 52)).heap.size := by simp
            have HNB : Hid (¬ v9.heap.size = w.heap.size) := by have := cell_lt HZ'.out.z0; simp only at this; unfold Hid; omega
            obtain ⟨Y, hY⟩ : ∃ Y, v9.alloc (.cells #[.string ⟨#[112, 97, 116, 104]⟩, .int .i64 (xa : Int), .int .i64 10] 52) = Y := ⟨_, rfl⟩
            rw [hY] at HL HZ2 HB2 hll ⊢
            clear hY hb c2'
            have z0 := HZ2.out.z0
            have z1 := HZ2.out.z1
            have z2 := HZ2.out.z2
            have z3 := HZ2.out.z3
            have z4 := HZ2.out.z4
            have z5 := HZ2.out.z5
            have zf := HZ2.out.fr
            have HH : Hid (v9.heap.size < Y.heap.size) := hll
            clear hll
            go_wp2_with fail
            refine bodyPost_ret (v := .tuple #[plc ⟨#[]⟩ 0 0 0 0 0, .slice (some ⟨v9.heap.size, 0, none⟩) 1 1]) (by simp [results, Tryd.results5, go_sem, plc, z0, z1, z2, z3, z4, z5]) rfl ⟨HALL.out _ _ ?_, HB2.out.trans ((off_six _ _ _ _ _ _ _ _).below (B := w.heap.size) HB2.out.size (by rintro k rfl; omega))⟩
            have hc := fun j => (off_six Y w.heap.size (.string ⟨#[]⟩) (.int .i64 0) (.int .i64 0) (.int .i64 0) (.int .i64 0) (.int .i64 0)).cell (p := ⟨v9.heap.size, j, none⟩) HH.out HNB.out
            exact Or.inr ⟨xa, _, HF6.out, rfl, (hc 0).trans HL.out.1, (hc 1).trans HL.out.2.1, (hc 2).trans HL.out.2.2⟩
          · have hli : ¬ (xa : Int) < s.size := by omega
            have HF6 : Hid (S6 s SG = none) := by unfold Hid; rw [HXS.out]; simp only [endB, if_neg hl]
            have p0 := HJ.out.pb.z0
            have p1 := HJ.out.pb.z1
            have p2 := HJ.out.pb.z2
            have p3 := HJ.out.pb.z3
            have p4 := HJ.out.pb.z4
            have p5 := HJ.out.pb.z5
            have z0 := HJ.out.zr.z0
            have z1 := HJ.out.zr.z1
            have z2 := HJ.out.zr.z2
            have z3 := HJ.out.zr.z3
            have z4 := HJ.out.zr.z4
            have z5 := HJ.out.zr.z5
            have zf := HJ.out.zr.fr
            go_wp2_with fail
            refine bodyPost_ret (v := .tuple #[plc SG x5.o x5.f x5.r x5.c x5.b, .slice none 0 0]) (by simp [results, Tryd.results5, go_sem, plc, z0, z1, z2, z3, z4, z5]) rfl ⟨HALL.out _ _ (Or.inl ⟨HF6.out, by rw [HSG.out]⟩), HJ.out.bl.trans ((off_six _ _ _ _ _ _ _ _).below (B := w.heap.size) HJ.out.bl.size (by rintro k rfl; omega))⟩
end Go.Proofs.YtachkeipknakgaaDoor
