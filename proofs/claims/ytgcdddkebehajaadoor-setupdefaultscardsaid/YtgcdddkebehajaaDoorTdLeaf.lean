/-
  Decimals, the leaves: digits, a sign left out; the program's and the document's.
-/
import Derived.Test.YtgcdddkebehajaaDoorProg
import Derived.Test.YtgcdddkebehajaaDoorTdSpec
import Derived.WalkKit
import Derived.WalkSpells
import Derived.WalkLawsBesides
import Derived.BigQuiet
import Derived.Deep.QuietTactic
import Derived.Deep.RegionWith
import Derived.RowKitTokens
import Derived.WideLaws
import Derived.LoopTactic
import Derived.Lib.Strings
namespace Go.Proofs.YtgcdddkebehajaaDoor.Td
open Go.RowKit

theorem ret_bool {a b : Bool} (h : a = b) : Ending.returned (.bool a) = .returned (.bool b) := by rw [h]
theorem ret_int {k : IntKind} {a b : Int} (h : a = b) : Ending.returned (.int k a) = .returned (.int k b) := by rw [h]
theorem ret_str {a b : ByteArray} (h : a = b) : Ending.returned (.string a) = .returned (.string b) := by rw [h]
theorem below_drewN {B : Nat} {w w' : World} (h : Below B w w') (n : Nat) : Below B w (w'.drewN n) := h.trans ⟨rfl, rfl, rfl, Nat.le_refl _, fun _ _ => rfl⟩
abbrev bl (s : ByteArray) : List UInt8 := s.data.toList
theorem bl_len (s : ByteArray) : (bl s).length = s.size := by simp [bl]
theorem bl_at {s : ByteArray} {i : Nat} (h : i < s.size) : (bl s)[i]? = some s[i] := by
  rw [List.getElem?_eq_getElem (by rw [bl_len]; exact h)]; rfl
theorem bl_inj {s t : ByteArray} (h : bl s = bl t) : s = t := by
  obtain ⟨⟨a⟩⟩ := s; obtain ⟨⟨b⟩⟩ := t; simp [bl] at h; subst h; rfl
theorem bl_mk (l : List UInt8) : bl ⟨l.toArray⟩ = l := rfl
/-- All from k on are digits. -/
theorem all_from {l : List UInt8} {k : Nat} {b : UInt8} (hk : l[k]? = some b) : (l.drop k).all dg = (dg b && (l.drop (k + 1)).all dg) := by
  obtain ⟨h1, h2⟩ := List.getElem?_eq_some_iff.1 hk
  rw [List.drop_eq_getElem_cons h1, List.all_cons, h2]
theorem dgs_all0 (l : List UInt8) : dgs l = (!l.isEmpty && (l.drop 0).all dg) := by simp [dgs]
set_option maxHeartbeats 400000 in
theorem isDigit_any (b : UInt8) (w : World) : Calls Tryd.prog 51 #[.int .u8 (b.toNat : Int)] w fun e w' => e = .returned (.bool (dg b)) ∧ w' = w := by
  go_enter Tryd.func51, Tryd.ntmps51
  go_wp2
  all_goals (go_ret; exact ⟨ret_bool (by unfold dg; rw [Bool.eq_iff_iff]; simp; omega), rfl⟩)
theorem bl_nil {s : ByteArray} (h : s.size = 0) : bl s = [] := List.length_eq_zero_iff.1 (by rw [bl_len]; exact h)
theorem dg_no {b : UInt8} (h : b.toNat < 48 ∨ 57 < b.toNat) : dg b = false := by unfold dg; simp; omega
theorem dg_yes {b : UInt8} (h : dg b = true) : 48 ≤ b.toNat ∧ b.toNat ≤ 57 := by unfold dg at h; simpa using h
theorem dgs_end {s : ByteArray} (hk : ((bl s).drop 0).all dg = ((bl s).drop s.size).all dg) : dgs (bl s) = !(bl s).isEmpty := by
  rw [dgs_all0, hk, List.drop_of_length_le (by rw [bl_len]; exact Nat.le_refl _)]; simp
theorem str_ne (s : ByteArray) : (!s.toList.isEmpty) = !(bl s).isEmpty := by rw [Lib.toList_data]
set_option maxHeartbeats 1000000 in
theorem areDigits_any (s : ByteArray) (w : World) (hs : s.size ≤ 140737488355328) : Calls Tryd.prog 42 #[.string s, .func (.func 51) #[] #[]] w fun e w' => e = .returned (.bool (dgs (bl s))) ∧ Below w.heap.size w w' := by
  go_enter Tryd.func42, Tryd.ntmps42
  go_wp2_with fail
  go_loopw [8] (fun t8 wx => ∃ k : Nat, k ≤ s.size ∧ t8 = .int .i64 k ∧ Hid (((bl s).drop 0).all dg = ((bl s).drop k).all dg) ∧ Hid (Below w.heap.size w wx)) (fun t8 _ => s.size - (intOf t8).toNat)
  case atStart => exact ⟨0, Nat.zero_le _, rfl, rfl, Below.refl _ _⟩
  case round =>
    obtain ⟨k, hk, rfl, HK, HB⟩ := hrel
    by_cases hlt : k < s.size
    · have hlti : (k : Int) < s.size := by omega
      have HA : Hid (((bl s).drop k).all dg = (dg s[k] && ((bl s).drop (k + 1)).all dg)) := all_from (bl_at hlt)
      go_wp2_with fail
      refine (isDigit_any s[k] _).mono ?_
      rintro _ w1 ⟨rfl, hw⟩
      subst w1
      cases hd : dg s[k] with
      | false =>
        go_wp2_with fail
        go_ret
        exact ⟨ret_bool (by rw [dgs_all0, HK.out, HA.out, hd]; simp), HB.out⟩
      | true =>
        have HK2 : Hid (((bl s).drop 0).all dg = ((bl s).drop (k + 1)).all dg) := by unfold Hid; rw [HK.out, HA.out, hd]; rfl
        go_wp2_with fail
        go_roundw
        case rel => exact ⟨k + 1, hlt, by go_num, HK2, HB⟩
        case measure => simp [intOf]; omega
    · have hlti : ¬ (k : Int) < s.size := by omega
      obtain rfl : k = s.size := by omega
      go_wp2_with fail
      go_ret
      exact ⟨ret_bool (by rw [dgs_end HK.out]; first | exact str_ne s | (rw [← str_ne]; simp)), HB.out⟩
set_option maxHeartbeats 1000000 in
theorem pdigits_any (s : ByteArray) (w : World) (hs : s.size ≤ 140737488355328) : Calls Tryd.prog 41 #[.string s] w fun e w' => e = .returned (.bool (dgs (bl s))) ∧ Below w.heap.size w w' := by
  go_enter Tryd.func41, Tryd.ntmps41
  go_wp2_with fail
  refine (areDigits_any s _ hs).mono ?_
  rintro _ w1 ⟨rfl, hb⟩
  have HB : Hid (Below w.heap.size w w1) := hb
  clear hb
  go_wp2_with fail
  go_ret
  exact ⟨rfl, HB.out⟩
theorem cons_of {s : ByteArray} (h : 0 < s.size) : ∃ r, bl s = s[0] :: r := by
  have := bl_at h
  cases hb : bl s with
  | nil => rw [hb] at this; simp at this
  | cons a r => rw [hb] at this; simp at this; rw [this]; exact ⟨r, rfl⟩
theorem bl_extract (s : ByteArray) (a b : Nat) : bl (s.extract a b) = ((bl s).drop a).take (b - a) := by
  show (s.extract a b).data.toList = _
  simp [ByteArray.data_extract, bl]
theorem bl_from (s : ByteArray) (a : Nat) : bl (s.extract a s.size) = (bl s).drop a := by
  rw [bl_extract, List.take_of_length_le (by rw [List.length_drop, bl_len]; exact Nat.le_refl _)]
theorem bl_to (s : ByteArray) (b : Nat) : bl (s.extract 0 b) = (bl s).take b := by rw [bl_extract]; simp
theorem emp_of {s : ByteArray} (h : s.size = 0) : s.toList.isEmpty = true := by rw [Lib.toList_data]; rw [show s.data.toList = [] from bl_nil h]; rfl
theorem emp_not {s : ByteArray} (h : 0 < s.size) : s.toList.isEmpty = false := by
  rw [Lib.toList_data]; obtain ⟨r, hr⟩ := cons_of h; rw [show s.data.toList = s[0] :: r from hr]; rfl
/-- A text without its sign, as a string. -/
def unsS (s : ByteArray) : ByteArray := ⟨(uns (bl s)).toArray⟩
theorem unsS_bl (s : ByteArray) : bl (unsS s) = uns (bl s) := rfl
theorem uns_sign {s : ByteArray} (h : 0 < s.size) (hq : s[0].toNat = 43 ∨ s[0].toNat = 45) : unsS s = s.extract 1 s.size := by
  obtain ⟨r, hr⟩ := cons_of h
  apply bl_inj
  rw [unsS_bl, hr]
  have h2 : s[0] = 43 ∨ s[0] = 45 := by
    rcases hq with q | q
    · exact Or.inl (UInt8.toNat_inj.1 q)
    · exact Or.inr (UInt8.toNat_inj.1 q)
  show (if s[0] = 43 ∨ s[0] = 45 then r else s[0] :: r) = _
  rw [if_pos h2]
  rw [bl_from, hr]; rfl
theorem uns_none {s : ByteArray} (h : 0 < s.size) (hq : ¬ (s[0].toNat = 43 ∨ s[0].toNat = 45)) : unsS s = s := by
  obtain ⟨r, hr⟩ := cons_of h
  apply bl_inj
  rw [unsS_bl, hr]
  show (if s[0] = 43 ∨ s[0] = 45 then r else s[0] :: r) = _
  rw [if_neg (fun g => hq (g.elim (fun q => Or.inl (by rw [q]; rfl)) (fun q => Or.inr (by rw [q]; rfl))))]
theorem uns_zero {s : ByteArray} (h : s.size = 0) : unsS s = s := by
  apply bl_inj
  rw [unsS_bl, bl_nil h]; rfl
set_option maxHeartbeats 1000000 in
theorem unsigned_any (s : ByteArray) (w : World) : Calls Tryd.prog 40 #[.string s] w fun e w' => e = .returned (.string (unsS s)) ∧ Below w.heap.size w w' := by
  by_cases h0 : s.size = 0
  · have e0 := emp_of h0
    rw [uns_zero h0]
    go_enter Tryd.func40, Tryd.ntmps40
    go_wp2_with fail
    go_ret
    exact ⟨rfl, Below.refl _ _⟩
  have hp : 0 < s.size := by omega
  have hpi : (0 : Int) < s.size := by omega
  have e0 := emp_not hp
  by_cases h1 : s[0].toNat = 43
  · have b1 : ((s[0].toNat : Int) == 43) = true := by simp [h1]
    rw [uns_sign hp (Or.inl h1)]
    clear h1
    go_enter Tryd.func40, Tryd.ntmps40
    go_wp2_with fail
    go_ret
    exact ⟨rfl, by first | exact Below.refl _ _ | exact Below.drew (Below.refl _ _)⟩
  by_cases h2 : s[0].toNat = 45
  · have b1 : ((s[0].toNat : Int) == 43) = false := by simp; omega
    have b2 : ((s[0].toNat : Int) == 45) = true := by simp [h2]
    rw [uns_sign hp (Or.inr h2)]
    clear h1 h2
    go_enter Tryd.func40, Tryd.ntmps40
    go_wp2_with fail
    go_ret
    exact ⟨rfl, by first | exact Below.refl _ _ | exact Below.drew (Below.refl _ _)⟩
  have b1 : ((s[0].toNat : Int) == 43) = false := by simp; omega
  have b2 : ((s[0].toNat : Int) == 45) = false := by simp; omega
  rw [uns_none hp (by omega)]
  clear h1 h2
  go_enter Tryd.func40, Tryd.ntmps40
  go_wp2_with fail
  go_ret
  exact ⟨rfl, by first | exact Below.refl _ _ | exact Below.drew (Below.refl _ _)⟩
end Go.Proofs.YtgcdddkebehajaaDoor.Td
