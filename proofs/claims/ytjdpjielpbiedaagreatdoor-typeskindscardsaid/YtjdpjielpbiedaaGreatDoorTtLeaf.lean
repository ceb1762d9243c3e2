/-
  TypesTexts, the leaves: what a text of each kind must be; the program's and the document's codes.
-/
import Derived.Test.YtjdpjielpbiedaaGreatDoorTdRefu
namespace Go.Proofs.YtjdpjielpbiedaaGreatDoor.Td
open Go.RowKit

def cdB (b : UInt8) : Bool := dg b || (decide (65 ≤ b.toNat) && decide (b.toNat ≤ 90)) || (decide (97 ≤ b.toNat) && decide (b.toNat ≤ 122)) || decide (b.toNat = 95) || decide (b.toNat = 46) || decide (b.toNat = 45)
def cds (l : List UInt8) : Bool := !l.isEmpty && l.all cdB
def isCd (l : List UInt8) : Bool := decide (l.length ≤ 20) && cds l
theorem cds_from {l : List UInt8} {k : Nat} {b : UInt8} (hk : l[k]? = some b) : (l.drop k).all cdB = (cdB b && (l.drop (k + 1)).all cdB) := by
  obtain ⟨h1, h2⟩ := List.getElem?_eq_some_iff.1 hk
  rw [List.drop_eq_getElem_cons h1, List.all_cons, h2]
theorem cds_all0 (l : List UInt8) : cds l = (!l.isEmpty && (l.drop 0).all cdB) := by simp [cds]
theorem cds_end {s : ByteArray} (hk : ((bl s).drop 0).all cdB = ((bl s).drop s.size).all cdB) : cds (bl s) = !(bl s).isEmpty := by
  rw [cds_all0, hk, List.drop_of_length_le (by rw [bl_len]; exact Nat.le_refl _)]; simp
set_option maxHeartbeats 1000000 in
theorem isCodeByte_any (b : UInt8) (w : World) : Calls Tryz.prog 61 #[.int .u8 (b.toNat : Int)] w fun e w' => e = .returned (.bool (cdB b)) ∧ w' = w := by
  go_enter Tryz.func61, Tryz.ntmps61
  go_wp2_with (go_at_call 71; refine (isDigit_any _ _).mono ?_; rintro e w' ⟨rfl, rfl⟩)
  all_goals (go_ret; exact ⟨ret_bool (by unfold cdB; rw [Bool.eq_iff_iff]; simp_all; try omega), rfl⟩)
set_option maxHeartbeats 1000000 in
theorem areCodes_any (s : ByteArray) (w : World) (hs : s.size ≤ 140737488355328) : Calls Tryz.prog 60 #[.string s, .func (.func 61) #[] #[]] w fun e w' => e = .returned (.bool (cds (bl s))) ∧ Below w.heap.size w w' := by
  go_enter Tryz.func60, Tryz.ntmps60
  go_wp2_with fail
  go_loopw [8] (fun t8 wx => ∃ k : Nat, k ≤ s.size ∧ t8 = .int .i64 k ∧ Hid (((bl s).drop 0).all cdB = ((bl s).drop k).all cdB) ∧ Hid (Below w.heap.size w wx)) (fun t8 _ => s.size - (intOf t8).toNat)
  case atStart => exact ⟨0, Nat.zero_le _, rfl, rfl, Below.refl _ _⟩
  case round =>
    obtain ⟨k, hk, rfl, HK, HB⟩ := hrel
    by_cases hlt : k < s.size
    · have hlti : (k : Int) < s.size := by omega
      have HA : Hid (((bl s).drop k).all cdB = (cdB s[k] && ((bl s).drop (k + 1)).all cdB)) := cds_from (bl_at hlt)
      go_wp2_with fail
      refine (isCodeByte_any s[k] _).mono ?_
      rintro _ w1 ⟨rfl, hw⟩
      subst w1
      cases hd : cdB s[k] with
      | false =>
        go_wp2_with fail
        go_ret
        exact ⟨ret_bool (by rw [cds_all0, HK.out, HA.out, hd]; simp), HB.out⟩
      | true =>
        have HK2 : Hid (((bl s).drop 0).all cdB = ((bl s).drop (k + 1)).all cdB) := by unfold Hid; rw [HK.out, HA.out, hd]; rfl
        go_wp2_with fail
        go_roundw
        case rel => exact ⟨k + 1, hlt, by go_num, HK2, HB⟩
        case measure => simp [intOf]; omega
    · have hlti : ¬ (k : Int) < s.size := by omega
      obtain rfl : k = s.size := by omega
      go_wp2_with fail
      go_ret
      exact ⟨ret_bool (by rw [cds_end HK.out]; first | exact str_ne s | (rw [← str_ne]; simp)), HB.out⟩
set_option maxHeartbeats 1000000 in
theorem isCode_any (s : ByteArray) (w : World) (hs : s.size ≤ 140737488355328) : Calls Tryz.prog 47 #[.string s] w fun e w' => e = .returned (.bool (isCd (bl s))) ∧ Below w.heap.size w w' := by
  have HE : Hid (isCd (bl s) = (decide (s.size ≤ 20) && cds (bl s))) := by unfold Hid isCd; rw [bl_len]
  by_cases h : s.size ≤ 20
  · have hi : (s.size : Int) ≤ 20 := by omega
    rw [decide_eq_true h] at HE
    go_enter Tryz.func47, Tryz.ntmps47
    go_wp2_with fail
    refine (areCodes_any s _ hs).mono ?_
    rintro _ w1 ⟨rfl, hb⟩
    have HB : Hid (Below w.heap.size w w1) := hb
    clear hb
    go_wp2_with fail
    go_ret
    exact ⟨ret_bool (by rw [HE.out]; rfl), HB.out⟩
  · have hi : ¬ (s.size : Int) ≤ 20 := by omega
    rw [decide_eq_false h] at HE
    go_enter Tryz.func47, Tryz.ntmps47
    go_wp2_with fail
    go_ret
    exact ⟨ret_bool (by rw [HE.out]; rfl), Below.refl _ _⟩
def isCt (l : List UInt8) : Bool := dgs l && decide (l.length ≤ 4)
set_option maxHeartbeats 1000000 in
theorem isCount_any (s : ByteArray) (w : World) (hs : s.size ≤ 140737488355328) : Calls Tryz.prog 46 #[.string s] w fun e w' => e = .returned (.bool (isCt (bl s))) ∧ Below w.heap.size w w' := by
  have HE : Hid (isCt (bl s) = (dgs (bl s) && decide (s.size ≤ 4))) := by unfold Hid isCt; rw [bl_len]
  by_cases h : s.size ≤ 4
  · have hi : (s.size : Int) ≤ 4 := by omega
    rw [decide_eq_true h] at HE
    go_enter Tryz.func46, Tryz.ntmps46
    go_wp2_with fail
    refine (pdigits_any s _ hs).mono ?_
    rintro _ w1 ⟨rfl, hb⟩
    have HB : Hid (Below w.heap.size w w1) := hb
    clear hb
    go_wp2_with fail
    go_ret
    exact ⟨ret_bool (by rw [HE.out]; simp), HB.out⟩
  · have hi : ¬ (s.size : Int) ≤ 4 := by omega
    rw [decide_eq_false h] at HE
    go_enter Tryz.func46, Tryz.ntmps46
    go_wp2_with fail
    go_ret
    exact ⟨ret_bool (by rw [HE.out]; simp), Below.refl _ _⟩
theorem isShort_any (s : ByteArray) (w : World) : Calls Tryz.prog 41 #[.string s] w fun e w' => e = .returned (.bool (decide (s.size ≤ 199))) ∧ Below w.heap.size w w' := by
  go_enter Tryz.func41, Tryz.ntmps41
  go_wp2
  all_goals (go_ret; exact ⟨ret_bool (by rw [Bool.eq_iff_iff]; simp; try omega), Below.refl _ _⟩)
theorem isAny_any (s : ByteArray) (w : World) : Calls Tryz.prog 43 #[.string s] w fun e w' => e = .returned (.bool true) ∧ Below w.heap.size w w' := by
  go_enter Tryz.func43, Tryz.ntmps43
  go_wp2
  go_ret
  exact ⟨rfl, Below.refl _ _⟩
end Go.Proofs.YtjdpjielpbiedaaGreatDoor.Td
