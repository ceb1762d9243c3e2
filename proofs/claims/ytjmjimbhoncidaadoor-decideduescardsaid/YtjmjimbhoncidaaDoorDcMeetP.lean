/-
  Both sides together, as plain data.
-/
import Derived.Test.YtjmjimbhoncidaaDoorDcHeardL
namespace Go.Proofs.YtjmjimbhoncidaaDoor
open Go.RowKit

/-- Where the initiator stands behind the acceptance. -/
def z1S (e : Bool) (x y : Int) : Int := if aaB e y = true then 2 else if caB e x = true then (if y = 2 then 3 else 4) else (if earB e x y false = true then 3 else 5)
theorem z1_fit {e : Bool} {x y : Int} : fitB e x y (z1S e x y) 3 = true := by
  unfold z1S
  by_cases h2 : aaB e y = true
  · rw [if_pos h2]; unfold fitB; simp [h2]
  rw [if_neg h2]
  by_cases h1 : caB e x = true
  · rw [if_pos h1]
    by_cases h3 : y = 2
    · rw [if_pos h3]
      have h2' : aaB e y = false := by simpa using h2
      unfold fitB earB; rw [h1, h2']; simp [h3]
    · rw [if_neg h3]; exact fit_4 _ _ _ _ (by omega)
  · rw [if_neg h1]
    have h1' : caB e x = false := by simpa using h1
    by_cases h4 : earB e x y false = true
    · rw [if_pos h4]; unfold fitB; rw [h1', h4]; simp
    · rw [if_neg h4]; exact fit_5 _ _ _ _ (by omega)
theorem start_z {e : Bool} {x y : Int} (ok : okB e x y = true) : (startS e x y 3 false).st = (if caB e x = true then 1 else z1S e x y) ∧ (startS e x y 3 false).lf = 3 ∧ (startS e x y 3 false).n = 0 ∧ fitB e x y (startS e x y 3 false).st 3 = true := by
  have hr := startS_run (noted := false) ok (t := 3) (by omega) (fun h => by cases h)
  refine ⟨?_, hr.2.1, hr.1, hr.2.2.1⟩
  unfold startS z1S
  rw [if_neg (by simp [ok]), if_neg (by omega), if_neg (by simp)]
  by_cases h1 : caB e x = true
  · rw [if_pos (by simp [h1]), if_pos h1]
  · rw [if_neg (by simpa using h1), if_neg h1]
    by_cases h2 : aaB e y = true
    · rw [if_pos h2, if_pos h2]
    · rw [if_neg h2, if_neg h2, if_neg h1]
      by_cases h3 : earB e x y false = true
      · rw [if_pos h3, if_pos h3]
      · rw [if_neg h3, if_neg h3, if_neg (by simp)]
theorem ca_heard1 {e : Bool} {x y : Int} (ok : okB e x y = true) (hc : caB e x = true) : ((heardS e x y 1 3 kCA false).st, (heardS e x y 1 3 kCA false).lf) = (z1S e x y, 3) := by
  unfold heardS z1S
  have hf : fitB e x y 1 3 = true := by unfold fitB; simp [hc]
  rw [if_neg (by simp [ok]), if_neg (by simp [hf]), sent_1, if_neg (by simp [hc]), if_pos (by simp [Lib.toList_data]), if_pos rfl]
  by_cases h2 : aaB e y = true
  · rw [if_pos h2, if_pos h2]
  · rw [if_neg h2, if_neg h2, if_pos hc]
    by_cases h3 : y = 2
    · rw [if_pos h3, if_pos h3]
    · rw [if_neg h3, if_neg h3]
theorem ca_heard2 {e : Bool} {x y st : Int} (ok : okB e x y = true) (hf : fitB e x y st 3 = true) (hc : caB e x = true) (h1 : st ≠ 1) : ((heardS e x y st 3 kCA false).st, (heardS e x y st 3 kCA false).lf) = (st, 3) := by
  unfold heardS
  rw [if_neg (by simp [ok]), if_neg (by simp [hf]), sent_1]
  by_cases h4 : 4 ≤ st
  · rw [if_pos (by simp [h4])]
  · rw [if_neg (by simp [hc, h4]), if_pos (by simp [Lib.toList_data]), if_neg h1]
theorem z1_ne (e : Bool) (x y : Int) : z1S e x y ≠ 1 := by
  unfold z1S; repeat' split
  all_goals omega
/-- Behind Take. -/
theorem hear_take {e : Bool} {x y : Int} (ok : okB e x y = true) : hearL e x y ((startS e x y 3 false).st, 3) (caL e x ++ [(8, nT)]) = (z1S e x y, 3) := by
  obtain ⟨h1, _⟩ := start_z ok
  rw [hearL_snoc]
  unfold hearF
  rw [if_neg (by simp), h1]
  unfold caL
  by_cases hc : caB e x = true
  · rw [if_pos hc, if_pos hc]
    show hearF e x y (1, 3) (7, kCA) = _
    unfold hearF
    rw [if_pos (by simp)]
    exact ca_heard1 ok hc
  · rw [if_neg hc, if_neg hc]; rfl
/-- Behind a copy. -/
theorem hear_copy {e : Bool} {x y : Int} (ok : okB e x y = true) : hearL e x y (z1S e x y, 3) (caL e x) = (z1S e x y, 3) := by
  unfold caL
  by_cases hc : caB e x = true
  · rw [if_pos hc]
    show hearF e x y (z1S e x y, 3) (7, kCA) = _
    unfold hearF
    rw [if_pos (by simp)]
    exact ca_heard2 ok z1_fit hc (z1_ne e x y)
  · rw [if_neg hc]; rfl
def vcode (s : ByteArray) : Prop := s = ⟨#[65, 65]⟩ ∨ s = ⟨#[65, 69]⟩ ∨ s = ⟨#[65, 82]⟩
theorem v_sent {e : Bool} {x y : Int} {s : ByteArray} (hv : vcode s) (h : sentB e x y s = true) : aaB e y = true ∨ (e = true ∧ y = 2) := by
  unfold aaB
  rcases hv with rfl | rfl | rfl
  · rw [sent_4] at h; exact Or.inl h
  · rw [sent_5] at h; unfold aeB at h
    cases e <;> simp at h ⊢
    omega
  · rw [sent_6] at h; unfold aeB at h
    cases e <;> simp at h ⊢
    omega
/-- The verdict that was sent. -/
theorem hear_verdict {e : Bool} {x y : Int} {s : ByteArray} (ok : okB e x y = true) (hv : vcode s) (h : sentB e x y s = true) : hearL e x y (z1S e x y, 3) [(9, s)] = (4, 3) := by
  show hearF e x y (z1S e x y, 3) (9, s) = _
  unfold hearF
  rw [if_pos (by simp)]
  have hlt : ¬ 4 ≤ z1S e x y := by
    unfold z1S
    rcases v_sent hv h with k | ⟨rfl, rfl⟩
    · rw [if_pos k]; omega
    · by_cases k : aaB true 2 = true
      · rw [if_pos k]; omega
      · rw [if_neg k]
        by_cases hc : caB true x = true
        · rw [if_pos hc, if_pos rfl]; omega
        · rw [if_neg hc, if_pos (by unfold earB; rw [show aaB true 2 = false by rfl, if_neg hc]; simp)]; omega
  unfold heardS
  have g1 : ¬ (s.toList == [67, 65]) = true := by rcases hv with rfl | rfl | rfl <;> simp [Lib.toList_data]
  rw [if_neg (by simp [ok]), if_neg (by simp [z1_fit]), if_neg (by simp [h, hlt]), if_neg g1, if_neg (by simp)]
theorem v_ver {s : ByteArray} (hv : vcode s) : verB s = true := by
  unfold verB; rcases hv with rfl | rfl | rfl <;> simp [Lib.toList_data]
/-- Nothing was sent. -/
theorem settled (e : Bool) (x y : Int) : (z1S e x y == 4) = (caB e x && !aaB e y && !(y == 2)) := by
  unfold z1S
  by_cases h2 : aaB e y = true
  · rw [if_pos h2, h2]; simp
  · have h2' : aaB e y = false := by simpa using h2
    rw [if_neg h2, h2']
    by_cases hc : caB e x = true
    · rw [if_pos hc, hc]
      by_cases h3 : y = 2
      · rw [if_pos h3]; simp [h3]
      · rw [if_neg h3]; simp [h3]
    · have hc' : caB e x = false := by simpa using hc
      rw [if_neg hc, hc']
      by_cases h4 : earB e x y false = true
      · rw [if_pos h4]; simp
      · rw [if_neg h4]; simp
end Go.Proofs.YtjmjimbhoncidaaDoor
