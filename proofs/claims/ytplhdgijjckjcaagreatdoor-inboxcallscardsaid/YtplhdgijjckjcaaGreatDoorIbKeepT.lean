/-
  InboxKeeps: there; the document's MayBe.
-/
import Derived.Test.YtplhdgijjckjcaaGreatDoorIbKeepM
namespace Go.Proofs.YtplhdgijjckjcaaGreatDoor
open Go.RowKit

section
variable {W w : World} {b sb M : Nat} {K R : Int} {es : List Ent} {B n c : Nat} {a : Option Addr} {l : List Bk}
end
set_option maxRecDepth 100000 in
set_option maxHeartbeats 4000000 in
theorem rControl_any (s : ByteArray) (w : World) : Calls Tryz.prog 73 #[.string s] w fun e w' => e = .returned (.bool (ctB s)) ∧ w' = w := by
  by_cases h0 : s.size < 1
  · have e0 : ctB s = false := by unfold ctB; rw [decide_eq_false (by omega)]; rfl
    rw [e0]
    have h2 : (s.size : Int) < 1 := by omega
    go_enter Tryz.func73, Tryz.ntmps73
    go_wp2
    go_ret
    exact ⟨rfl, rfl⟩
  by_cases h18 : 18 < s.size
  · have e0 : ctB s = false := by unfold ctB; rw [decide_eq_false (show ¬ s.size ≤ 18 by omega)]; simp
    rw [e0]
    have h2 : ¬ (s.size : Int) < 1 := by omega
    have h3 : (s.size : Int) > 18 := by omega
    go_enter Tryz.func73, Tryz.ntmps73
    go_wp2
    go_ret
    exact ⟨rfl, rfl⟩
  have h2 : ¬ (s.size : Int) < 1 := by omega
  have h3 : ¬ (s.size : Int) > 18 := by omega
  have HE : Hid (ctB s = s.data.toList.all (fun c => cbB (c.toNat : Int))) := by
    unfold ctB; rw [decide_eq_true (show 1 ≤ s.size by omega), decide_eq_true (show s.size ≤ 18 by omega)]; rfl
  have HL : Hid (s.data.toList.length = s.size) := rfl
  go_enter Tryz.func73, Tryz.ntmps73
  go_wp2_with fail
  go_loopw [3] (fun t wx => ∃ i : Nat, i ≤ s.size ∧ t = .int .i64 i ∧ wx = w ∧ Hid ((s.data.toList.take i).all (fun c => cbB (c.toNat : Int)) = true)) (fun t _ => s.size - (intOf t).toNat)
  case atStart => exact ⟨0, Nat.zero_le _, rfl, rfl, rfl⟩
  case round =>
    obtain ⟨i, hi, rfl, rfl, HA⟩ := hrel
    by_cases hlt : i < s.size
    · have hlt1 : (i : Int) < s.size := by omega
      have hx : s.data.toList[i]? = some s[i] := by rw [Array.getElem?_toList]; exact Array.getElem?_eq_getElem hlt
      have HT : Hid (cbB (s[i].toNat : Int) = true → (s.data.toList.take (i + 1)).all (fun c => cbB (c.toNat : Int)) = true) := fun h => by
        rw [take_snoc hx, List.all_append, HA.out]
        simp [h]
      have HF : Hid (cbB (s[i].toNat : Int) = false → ctB s = false) := fun h => by
        rw [HE.out, List.all_eq_false]
        exact ⟨s[i], List.mem_of_getElem? hx, by rw [h]; decide⟩
      obtain ⟨c, hc⟩ : ∃ c : Int, (s[i].toNat : Int) = c := ⟨_, rfl⟩
      rw [hc] at HT HF
      clear hx
      go_wp2_with fail
      all_goals (try simp only [Bool.not_eq_false', Bool.not_eq_true', decide_eq_true_eq, decide_eq_false_iff_not, bne_eq_false_iff_eq, bne_iff_ne, ne_eq] at *)
      all_goals first
        | (go_ret; refine ⟨ret_bool (HF.out ?_).symm, rfl⟩; unfold cbB; rw [Bool.eq_iff_iff]; simp; try (first | omega | (intros; omega)))
        | (go_roundw
           case rel =>
             refine ⟨i + 1, hlt, by go_num, by trivial, HT.out ?_⟩
             unfold cbB
             rw [Bool.eq_iff_iff]
             simp
             try (first | omega | (intros; omega))
           case measure => (simp [intOf]; try omega))
    · have hlt1 : ¬ (i : Int) < s.size := by omega
      have HH : Hid (ctB s = true) := by
        unfold Hid
        rw [HE.out, ← HA.out, List.take_of_length_le (by rw [HL.out]; omega)]
      go_wp2_with fail
      go_ret
      exact ⟨ret_bool HH.out.symm, rfl⟩
end Go.Proofs.YtplhdgijjckjcaaGreatDoor
