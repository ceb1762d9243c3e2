/-
  The document's Well: the first field at fault.
-/
import Derived.Test.YtdjjologpodnkaaGreatDoorLgRWell
namespace Go.Proofs.YtdjjologpodnkaaGreatDoor
open Go.RowKit

/-- A field by the document: well, or zero where it is not named. -/
def rOk (r : Rec) (k f : Nat) : Bool := if nmB k f = true then rW r f else rZ r f
theorem len_of {s : ByteArray} {l : List UInt8} (h : s.toList = l) : s.size = l.length := by
  rw [Lib.toList_data] at h
  rw [← h]
  rfl
theorem em_size (s : ByteArray) : emB s = decide (s.size = 0) := by
  unfold emB
  rw [Bool.eq_iff_iff, beq_iff_eq, decide_eq_true_eq]
  constructor
  · intro h
    exact len_of h
  · intro h
    rw [Lib.toList_data]
    exact List.eq_nil_of_length_eq_zero h
theorem vd_size {s : ByteArray} (h : vdB s = true) : s.size = 2 := by
  unfold vdB at h
  simp only [Bool.or_eq_true, beq_iff_eq] at h
  rcases h with (h | h) | h <;> exact len_of h
theorem cd_size {s : ByteArray} (h : cdB s = true) : s.size = 2 := by
  unfold cdB at h
  simp only [Bool.or_eq_true, beq_iff_eq] at h
  rcases h with ((h | h) | h) | h
  · exact vd_size h
  all_goals exact len_of h
theorem size_and {q : Bool} {n m : Nat} (h : q = true → n = m) : ((decide ((m : Int) ≤ (n : Int)) && decide ((n : Int) ≤ (m : Int))) && q) = q := by
  cases q with
  | false => simp
  | true => have := h rfl; subst this; simp
theorem ct_size (s : ByteArray) : ((decide ((1 : Int) ≤ (s.size : Int)) && decide ((s.size : Int) ≤ 18)) && ctB s) = ctB s := by
  cases h : ctB s with
  | false => simp
  | true =>
    unfold ctB at h
    simp only [Bool.and_eq_true, decide_eq_true_eq] at h
    simp
    omega
theorem rOk_eq (r : Rec) (k : Nat) (hk : r.kd = k) (h1 : 1 ≤ k) (h8 : k ≤ 8) {f : Nat} (h2 : 2 ≤ f) (h10 : f ≤ 10) : rOk r k f = wl r (f - 1) := by
  have hs2 : ((decide ((2 : Int) ≤ (r.cd.size : Int)) && decide ((r.cd.size : Int) ≤ 2)) && vdB r.cd) = vdB r.cd := size_and (m := 2) vd_size
  have hs3 : ((decide ((2 : Int) ≤ (r.cd.size : Int)) && decide ((r.cd.size : Int) ≤ 2)) && cdB r.cd) = cdB r.cd := size_and (m := 2) cd_size
  have hs0 : ((decide ((0 : Int) ≤ (r.cd.size : Int)) && decide ((r.cd.size : Int) ≤ 0)) && emB r.cd) = emB r.cd := size_and (m := 0) (fun h => by rw [em_size] at h; simpa using h)
  have hct := ct_size r.ct
  unfold rOk wl
  rcases nine h8 with rfl | rfl | rfl | rfl | rfl | rfl | rfl | rfl | rfl
  · omega
  all_goals
    rcases nine2 h2 h10 with rfl | rfl | rfl | rfl | rfl | rfl | rfl | rfl | rfl
  all_goals (simp only [rW, rZ, fdOf, hk, lnI, cwB, Nat.reduceSub])
  all_goals (try cases hst : (r.st == 4))
  all_goals (first | rfl | exact hs2.symm | exact hs3.symm | exact hs0.symm | exact hct.symm | (simp [nmB, rowsN, fdWell, isS]; done) | skip)
end Go.Proofs.YtdjjologpodnkaaGreatDoor
