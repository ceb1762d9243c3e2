/-
  The document's link: Noise.
-/
import Derived.Test.YtpcickhellkiaaaDoorLkMore
namespace Go.Proofs.YtpcickhellkiaaaDoor
open Go.RowKit

theorem fr_some {bs : List Int} {i : Nat} (hi : i < bs.length) (h : frB (bs.getD i 0) = true) (hn : ∀ j, j < i → frB (bs.getD j 0) = false) : bs.findIdx? frB = some i := by
  rw [List.findIdx?_eq_some_iff_getElem]
  refine ⟨hi, ?_, fun j hj => ?_⟩
  · rw [List.getD_eq_getElem?_getD, List.getElem?_eq_getElem hi] at h
    exact h
  · have := hn j hj
    rw [List.getD_eq_getElem?_getD, List.getElem?_eq_getElem (by omega)] at this
    simp only [Option.getD_some] at this
    simp [this]
theorem fr_none {bs : List Int} (hn : ∀ j, j < bs.length → frB (bs.getD j 0) = false) : bs.findIdx? frB = none := by
  rw [List.findIdx?_eq_none_iff]
  intro z hz
  obtain ⟨j, hj, rfl⟩ := List.mem_iff_getElem.1 hz
  have := hn j hj
  rw [List.getD_eq_getElem?_getD, List.getElem?_eq_getElem hj] at this
  exact this
section
variable {w w' : World} {rb s : Nat} {x y z' : Wy} {c' : Sd}
set_option maxRecDepth 100000 in
set_option maxHeartbeats 4000000 in
theorem rnoise_any (h : RLk w rb x y) (hs : s < 2) {po : Option Addr} {m c : Nat} {bs : List Int} (hb : Byts w po m bs) : Calls Tryd.prog 51 #[.pointer (some ⟨rb, 0, none⟩), .int .i64 (s : Int), .slice po m c] w fun e w' => e = .returned (.tuple #[.int .i64 (noiseE (sdOf (sdW x y s)) bs).1, .int .i64 (noiseE (sdOf (sdW x y s)) bs).2]) ∧ Hid (RQ w rb x y s (noiseC (sdOf (sdW x y s)) bs) w') := by
  have HW := rway_ok h hs
  have HA := h.at_ hs
  have hm := hb.len
  by_cases h0 : m = 0 ∨ 64 < m
  · have HQ : Hid (RQ w rb x y s (noiseC (sdOf (sdW x y s)) bs) w) := RQ.same h (by unfold noiseC; rw [if_pos (by omega)])
    have eE : noiseE (sdOf (sdW x y s)) bs = (0, 4) := by unfold noiseE; rw [if_pos (by omega)]
    rw [eE]
    generalize 1 + 2 * s = o at HW HA
    rcases h0 with g | g
    · have g1 : ((m : Int) == 0) = true := by simp; omega
      clear HA hb h hm eE
      go_enter Tryd.func51, Tryd.ntmps51
      go_wp2_with fail
      refine HW.mono ?_
      rintro _ _ ⟨rfl, rfl⟩
      go_wp2_with fail
      refine bodyPost_ret (v := .tuple #[.int .i64 0, .int .i64 4]) ?_ rfl ⟨rfl, HQ.out⟩
      simp [results, Tryd.results51, go_sem]
    · have g1 : ((m : Int) == 0) = false := by simp; omega
      have g2 : (m : Int) > 64 := by omega
      clear HA hb h hm eE
      go_enter Tryd.func51, Tryd.ntmps51
      go_wp2_with fail
      refine HW.mono ?_
      rintro _ _ ⟨rfl, rfl⟩
      go_wp2_with fail
      refine bodyPost_ret (v := .tuple #[.int .i64 0, .int .i64 4]) ?_ rfl ⟨rfl, HQ.out⟩
      simp [results, Tryd.results51, go_sem]
  · have g1 : ((m : Int) == 0) = false := by simp; omega
    have g2 : ¬ (m : Int) > 64 := by omega
    have m6 : m ≤ 64 := by omega
    obtain ⟨b, o', rfl, _, _⟩ := hb.cell 0 (by omega)
    have HP : Hid (Calls Tryd.prog 71 #[.pointer (some ⟨rb, 1 + 2 * s, none⟩), .slice (some ⟨b, o', none⟩) m c] w fun e w' => e = .returned (.int .i64 (putE (sdOf (sdW x y s)))) ∧ Hid (RQ w rb x y s (putC (sdOf (sdW x y s)) bs) w')) := rput_any h hs hb (by omega)
    have HC : Hid (∀ j, j < m → w.cell? ⟨b, o' + j, none⟩ = some (.int .u8 (bs.getD j 0))) := fun j hj => by
      obtain ⟨b', o2, e, _, hc⟩ := hb.cell j hj
      simp only [Option.some.injEq, Addr.mk.injEq, and_true] at e
      obtain ⟨rfl, rfl⟩ := e
      exact hc
    have HS : Hid (∀ i, i < m → frB (bs.getD i 0) = true → (∀ j, j < i → frB (bs.getD j 0) = false) → noiseE (sdOf (sdW x y s)) bs = ((i : Int), 80) ∧ RQ w rb x y s (noiseC (sdOf (sdW x y s)) bs) w) := fun i hi hf hn => by
      have e := fr_some (by omega) hf hn
      unfold noiseE noiseC
      rw [if_neg (by omega), if_neg (by omega), e]
      exact ⟨rfl, RQ.same h rfl⟩
    have HN : Hid ((∀ j, j < m → frB (bs.getD j 0) = false) → noiseE (sdOf (sdW x y s)) bs = (0, putE (sdOf (sdW x y s))) ∧ noiseC (sdOf (sdW x y s)) bs = putC (sdOf (sdW x y s)) bs) := fun hn => by
      have e := fr_none (bs := bs) (fun j hj => hn j (by omega))
      unfold noiseE noiseC
      rw [if_neg (by omega), if_neg (by omega), e]
      exact ⟨rfl, rfl⟩
    clear HA hb h hm h0
    generalize 1 + 2 * s = o at HW HP
    go_enter Tryd.func51, Tryd.ntmps51
    go_wp2_with fail
    refine HW.mono ?_
    rintro _ w1 ⟨rfl, e1⟩
    obtain rfl : w = w1 := e1.symm
    clear e1
    go_wp2_with fail
    clear HW
    go_loopw [10] (fun t wx => ∃ i : Nat, i ≤ m ∧ t = .int .i64 i ∧ w = wx ∧ Hid (∀ j, j < i → frB (bs.getD j 0) = false)) (fun t _ => m - (intOf t).toNat)
    case atStart => exact ⟨0, Nat.zero_le _, rfl, rfl, fun j hj => by omega⟩
    case round =>
      obtain ⟨i, hi, rfl, rfl, HI⟩ := hrel
      by_cases hlt : i < m
      · have hlt1 : (i : Int) < m := by omega
        have d0 := HC.out i hlt
        by_cases hf : frB (bs.getD i 0) = true
        · obtain ⟨eE, HQ'⟩ := HS.out i hlt hf HI.out
          have HQ : Hid (RQ w rb x y s (noiseC (sdOf (sdW x y s)) bs) w) := HQ'
          have EE : Hid (noiseE (sdOf (sdW x y s)) bs = ((i : Int), 80)) := eE
          clear HQ' HC HS HN HP HI eE
          generalize bs.getD i 0 = z at d0 hf
          by_cases k1 : z = 11
          · subst k1
            go_wp2_with fail
            refine bodyPost_ret (v := .tuple #[.int .i64 (i : Int), .int .i64 80]) ?_ rfl ⟨by rw [EE.out], HQ.out⟩
            simp [results, Tryd.results51, go_sem]
          · have k1' : (z == 11) = false := by simp; exact k1
            by_cases k2 : z = 28
            · subst k2
              go_wp2_with fail
              refine bodyPost_ret (v := .tuple #[.int .i64 (i : Int), .int .i64 80]) ?_ rfl ⟨by rw [EE.out], HQ.out⟩
              simp [results, Tryd.results51, go_sem]
            · have k2' : (z == 28) = false := by simp; exact k2
              have k3 : z = 13 := by simpa [frB, k1, k2] using hf
              subst k3
              clear hf k1 k2 k1' k2'
              go_wp2_with fail
              refine bodyPost_ret (v := .tuple #[.int .i64 (i : Int), .int .i64 80]) ?_ rfl ⟨by rw [EE.out], HQ.out⟩
              simp [results, Tryd.results51, go_sem]
        · have HI2 : Hid (∀ j, j < i + 1 → frB (bs.getD j 0) = false) := fun j hj => by
            rcases (by omega : j < i ∨ j = i) with g | rfl
            · exact HI.out j g
            · simpa using hf
          clear HC HS HN HP HI
          generalize bs.getD i 0 = z at d0 hf
          have k1 : (z == 11) = false ∧ (z == 28) = false ∧ (z == 13) = false := by
            simp only [frB, Bool.or_eq_true, not_or, Bool.not_eq_true] at hf
            exact ⟨hf.1.1, hf.1.2, hf.2⟩
          obtain ⟨k1, k2, k3⟩ := k1
          clear hf
          go_wp2_with fail
          go_roundw
          case rel => exact ⟨i + 1, hlt, by go_num, trivial, HI2⟩
          case measure => simp [intOf]; omega
      · have hlt1 : ¬ (i : Int) < m := by omega
        obtain ⟨eE, eC⟩ := HN.out fun j hj => HI.out j (by omega)
        have EE : Hid (noiseE (sdOf (sdW x y s)) bs = (0, putE (sdOf (sdW x y s))) ∧ noiseC (sdOf (sdW x y s)) bs = putC (sdOf (sdW x y s)) bs) := ⟨eE, eC⟩
        clear HC HS HN HI eE eC
        have HP2 := HP.out
        clear HP
        go_wp2_with fail
        refine HP2.mono ?_
        rintro _ w2 ⟨rfl, HF⟩
        go_wp2_with fail
        refine bodyPost_ret (v := .tuple #[.int .i64 0, .int .i64 (putE (sdOf (sdW x y s)))]) ?_ rfl ⟨by rw [EE.out.1], by rw [EE.out.2]; exact HF.out⟩
        simp [results, Tryd.results51, go_sem]
end
end Go.Proofs.YtpcickhellkiaaaDoor
