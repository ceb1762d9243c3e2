/-
  The document's look at a record: zero, well.
-/
import Derived.Test.YtdjjologpodnkaaGreatDoorLgRNam
namespace Go.Proofs.YtdjjologpodnkaaGreatDoor
open Go.RowKit

theorem take_snoc {α : Type} {l : List α} {i : Nat} {x : α} (h : l[i]? = some x) : l.take (i + 1) = l.take i ++ [x] := by
  obtain ⟨hi, hx⟩ := List.getElem?_eq_some_iff.1 h
  rw [List.take_succ_eq_append_getElem hi, hx]

set_option maxRecDepth 100000 in
set_option maxHeartbeats 4000000 in
theorem rControl_any (s : ByteArray) (w : World) : Calls Tryz.prog 56 #[.string s] w fun e w' => e = .returned (.bool (ctB s)) ∧ w' = w := by
  by_cases h0 : s.size < 1
  · have e0 : ctB s = false := by unfold ctB; rw [decide_eq_false (by omega)]; rfl
    rw [e0]
    have h2 : (s.size : Int) < 1 := by omega
    go_enter Tryz.func56, Tryz.ntmps56
    go_wp2
    go_ret
    exact ⟨rfl, rfl⟩
  by_cases h18 : 18 < s.size
  · have e0 : ctB s = false := by unfold ctB; rw [decide_eq_false (show ¬ s.size ≤ 18 by omega)]; simp
    rw [e0]
    have h2 : ¬ (s.size : Int) < 1 := by omega
    have h3 : (s.size : Int) > 18 := by omega
    go_enter Tryz.func56, Tryz.ntmps56
    go_wp2
    go_ret
    exact ⟨rfl, rfl⟩
  have h2 : ¬ (s.size : Int) < 1 := by omega
  have h3 : ¬ (s.size : Int) > 18 := by omega
  have HE : Hid (ctB s = s.data.toList.all (fun c => cbB (c.toNat : Int))) := by
    unfold ctB; rw [decide_eq_true (show 1 ≤ s.size by omega), decide_eq_true (show s.size ≤ 18 by omega)]; rfl
  have HL : Hid (s.data.toList.length = s.size) := rfl
  go_enter Tryz.func56, Tryz.ntmps56
  go_wp2_with fail
  go_loopw [3] (fun t wx => ∃ i : Nat, i ≤ s.size ∧ t = .int .i64 i ∧ wx = w ∧ Hid ((s.data.toList.take i).all (fun c => cbB (c.toNat : Int)) = true)) (fun t _ => s.size - (intOf t).toNat)
  case atStart => exact ⟨0, Nat.zero_le _, rfl, rfl, rfl⟩
  case round =>
    obtain ⟨i, hi, rfl, rfl, HA⟩ := hrel
    by_cases hlt : i < s.size
    · have hlt1 : (i : Int) < s.size := by omega
      have hx : s.data.toList[i]? = some s[i] := by rw [Array.getElem?_toList]; exact Array.getElem?_eq_getElem hlt
      have HT : Hid (cbB (s[i].toNat : Int) = true → (s.data.toList.take (i + 1)).all (fun c => cbB (c.toNat : Int)) = true) := fun h => by
        rw [take_snoc hx, List.all_append, HA.out]
        simp [h]
      have HF : Hid (cbB (s[i].toNat : Int) = false → ctB s = false) := fun h => by
        rw [HE.out, List.all_eq_false]
        exact ⟨s[i], List.mem_of_getElem? hx, by rw [h]; decide⟩
      obtain ⟨c, hc⟩ : ∃ c : Int, (s[i].toNat : Int) = c := ⟨_, rfl⟩
      rw [hc] at HT HF
      clear hx
      go_wp2_with fail
      all_goals (try simp only [Bool.not_eq_false', Bool.not_eq_true', decide_eq_true_eq, decide_eq_false_iff_not, bne_eq_false_iff_eq, bne_iff_ne, ne_eq] at *)
      all_goals first
        | (go_ret; refine ⟨ret_bool (HF.out ?_).symm, rfl⟩; unfold cbB; rw [Bool.eq_iff_iff]; simp; try (first | omega | (intros; omega)))
        | (go_roundw
           case rel =>
             refine ⟨i + 1, hlt, by go_num, by trivial, HT.out ?_⟩
             unfold cbB
             rw [Bool.eq_iff_iff]
             simp
             try (first | omega | (intros; omega))
           case measure => (simp [intOf]; try omega))
    · have hlt1 : ¬ (i : Int) < s.size := by omega
      have HH : Hid (ctB s = true) := by
        unfold Hid
        rw [HE.out, ← HA.out, List.take_of_length_le (by rw [HL.out]; omega)]
      go_wp2_with fail
      go_ret
      exact ⟨ret_bool HH.out.symm, rfl⟩
set_option maxHeartbeats 1000000 in
theorem rRight_any (e : Bool) (a p : Int) (w : World) : Calls Tryz.prog 57 #[.agg #[.bool e, .int .i64 a, .int .i64 p]] w fun r w' => r = .returned (.bool (okB e a p)) ∧ Below w.heap.size w w' := by
  cases e
  all_goals
    go_enter Tryz.func57, Tryz.ntmps57
    go_wp2
    all_goals (go_ret; exact ⟨ret_bool (by unfold okB; rw [Bool.eq_iff_iff]; simp; try (first | omega | (intros; omega))), (Below.refl _ _).alloc (Nat.le_refl _) _⟩)

def cwB (kd st : Int) (cd : ByteArray) : Bool := if (kd == 6) = true then vdB cd else if (st == 4) = true then cdB cd else emB cd
def lnI (kd : Int) : Int := if (kd == 2) = true then 1 else 0
def rZ (r : Rec) : Nat → Bool
  | 2 => emB r.ct
  | 3 => (r.tn : Int) == 0
  | 4 => r.e == false && (r.a == 0 && r.p == 0)
  | 5 => r.nu == 0
  | 6 => r.tk == 0
  | 7 => r.st == 0
  | 8 => emB r.cd
  | 9 => (r.cn : Int) == 0
  | _ => (r.an : Int) == 0
def rW (r : Rec) : Nat → Bool
  | 2 => ctB r.ct
  | 3 => decide ((1 : Int) ≤ (r.tn : Int)) && decide ((r.tn : Int) ≤ 8192)
  | 4 => okB r.e r.a r.p
  | 5 => decide (lnI r.kd ≤ r.nu) && decide (r.nu ≤ 2147483647)
  | 6 => decide (0 ≤ r.tk) && decide (r.tk ≤ 1099511627776)
  | 7 => decide (4 ≤ r.st) && decide (r.st ≤ 6)
  | 8 => cwB r.kd r.st r.cd
  | 9 => decide ((r.cn : Int) ≤ 2048)
  | _ => decide ((r.an : Int) ≤ 2048)
set_option maxHeartbeats 1000000 in
theorem rLeast_any (kd : Int) (w : World) : Calls Tryz.prog 44 #[.int .i64 kd] w fun e w' => e = .returned (.int .i64 (lnI kd)) ∧ w' = w := by
  unfold lnI
  cases h : (kd == 2)
  all_goals
    go_enter Tryz.func44, Tryz.ntmps44
    go_wp2
    go_ret
    exact ⟨rfl, rfl⟩
set_option maxHeartbeats 4000000 in
theorem rCodeWell_any (kd st : Int) (s : ByteArray) (w : World) : Calls Tryz.prog 45 #[.int .i64 kd, .int .i64 st, .string s] w fun e w' => e = .returned (.bool (cwB kd st s)) ∧ w' = w := by
  unfold cwB cdB vdB emB
  cases h6 : (kd == 6) <;> cases h4 : (st == 4) <;> cases h1 : (s.toList == [65, 65]) <;> cases h2 : (s.toList == [65, 69]) <;> cases h3 : (s.toList == [65, 82])
  all_goals
    go_enter Tryz.func45, Tryz.ntmps45
    go_wp2
    all_goals (go_ret; exact ⟨ret_bool (by simp_all), rfl⟩)
set_option maxHeartbeats 2000000 in
theorem rZero_2 (r : Rec) (w : World) : Calls Tryz.prog 31 #[.agg #[.int .i64 r.kd, .string r.ct, .slice r.tp r.tn r.tc, .bool r.e, .int .i64 r.a, .int .i64 r.p, .int .i64 r.nu, .int .i64 r.tk, .int .i64 r.st, .string r.cd, .slice r.cp r.cn r.cc, .slice r.ap r.an r.ac], .int .i64 2] w fun e w' => e = .returned (.bool (rZ r 2)) ∧ Below w.heap.size w w' := by
  unfold rZ
  unfold emB
  cases hm : (r.ct.toList == [])
  all_goals
    (go_enter Tryz.func31, Tryz.ntmps31; go_wp2; all_goals (go_ret; exact ⟨rfl, (Below.refl _ _).alloc (Nat.le_refl _) _⟩))
set_option maxHeartbeats 2000000 in
theorem rZero_3 (r : Rec) (w : World) : Calls Tryz.prog 31 #[.agg #[.int .i64 r.kd, .string r.ct, .slice r.tp r.tn r.tc, .bool r.e, .int .i64 r.a, .int .i64 r.p, .int .i64 r.nu, .int .i64 r.tk, .int .i64 r.st, .string r.cd, .slice r.cp r.cn r.cc, .slice r.ap r.an r.ac], .int .i64 3] w fun e w' => e = .returned (.bool (rZ r 3)) ∧ Below w.heap.size w w' := by
  unfold rZ
  first
    | (go_enter Tryz.func31, Tryz.ntmps31; go_wp2; all_goals (go_ret; exact ⟨rfl, (Below.refl _ _).alloc (Nat.le_refl _) _⟩))
set_option maxHeartbeats 2000000 in
theorem rZero_4 (r : Rec) (w : World) : Calls Tryz.prog 31 #[.agg #[.int .i64 r.kd, .string r.ct, .slice r.tp r.tn r.tc, .bool r.e, .int .i64 r.a, .int .i64 r.p, .int .i64 r.nu, .int .i64 r.tk, .int .i64 r.st, .string r.cd, .slice r.cp r.cn r.cc, .slice r.ap r.an r.ac], .int .i64 4] w fun e w' => e = .returned (.bool (rZ r 4)) ∧ Below w.heap.size w w' := by
  unfold rZ
  cases he : r.e <;> cases ha : (r.a == 0) <;> cases hp : (r.p == 0)
  all_goals
    (go_enter Tryz.func31, Tryz.ntmps31; go_wp2; all_goals (go_ret; exact ⟨ret_bool (by simp_all), (Below.refl _ _).alloc (Nat.le_refl _) _⟩))
set_option maxHeartbeats 2000000 in
theorem rZero_5 (r : Rec) (w : World) : Calls Tryz.prog 31 #[.agg #[.int .i64 r.kd, .string r.ct, .slice r.tp r.tn r.tc, .bool r.e, .int .i64 r.a, .int .i64 r.p, .int .i64 r.nu, .int .i64 r.tk, .int .i64 r.st, .string r.cd, .slice r.cp r.cn r.cc, .slice r.ap r.an r.ac], .int .i64 5] w fun e w' => e = .returned (.bool (rZ r 5)) ∧ Below w.heap.size w w' := by
  unfold rZ
  first
    | (go_enter Tryz.func31, Tryz.ntmps31; go_wp2; all_goals (go_ret; exact ⟨rfl, (Below.refl _ _).alloc (Nat.le_refl _) _⟩))
set_option maxHeartbeats 2000000 in
theorem rZero_6 (r : Rec) (w : World) : Calls Tryz.prog 31 #[.agg #[.int .i64 r.kd, .string r.ct, .slice r.tp r.tn r.tc, .bool r.e, .int .i64 r.a, .int .i64 r.p, .int .i64 r.nu, .int .i64 r.tk, .int .i64 r.st, .string r.cd, .slice r.cp r.cn r.cc, .slice r.ap r.an r.ac], .int .i64 6] w fun e w' => e = .returned (.bool (rZ r 6)) ∧ Below w.heap.size w w' := by
  unfold rZ
  first
    | (go_enter Tryz.func31, Tryz.ntmps31; go_wp2; all_goals (go_ret; exact ⟨rfl, (Below.refl _ _).alloc (Nat.le_refl _) _⟩))
set_option maxHeartbeats 2000000 in
theorem rZero_7 (r : Rec) (w : World) : Calls Tryz.prog 31 #[.agg #[.int .i64 r.kd, .string r.ct, .slice r.tp r.tn r.tc, .bool r.e, .int .i64 r.a, .int .i64 r.p, .int .i64 r.nu, .int .i64 r.tk, .int .i64 r.st, .string r.cd, .slice r.cp r.cn r.cc, .slice r.ap r.an r.ac], .int .i64 7] w fun e w' => e = .returned (.bool (rZ r 7)) ∧ Below w.heap.size w w' := by
  unfold rZ
  first
    | (go_enter Tryz.func31, Tryz.ntmps31; go_wp2; all_goals (go_ret; exact ⟨rfl, (Below.refl _ _).alloc (Nat.le_refl _) _⟩))
set_option maxHeartbeats 2000000 in
theorem rZero_8 (r : Rec) (w : World) : Calls Tryz.prog 31 #[.agg #[.int .i64 r.kd, .string r.ct, .slice r.tp r.tn r.tc, .bool r.e, .int .i64 r.a, .int .i64 r.p, .int .i64 r.nu, .int .i64 r.tk, .int .i64 r.st, .string r.cd, .slice r.cp r.cn r.cc, .slice r.ap r.an r.ac], .int .i64 8] w fun e w' => e = .returned (.bool (rZ r 8)) ∧ Below w.heap.size w w' := by
  unfold rZ
  unfold emB
  cases hm : (r.cd.toList == [])
  all_goals
    (go_enter Tryz.func31, Tryz.ntmps31; go_wp2; all_goals (go_ret; exact ⟨rfl, (Below.refl _ _).alloc (Nat.le_refl _) _⟩))
set_option maxHeartbeats 2000000 in
theorem rZero_9 (r : Rec) (w : World) : Calls Tryz.prog 31 #[.agg #[.int .i64 r.kd, .string r.ct, .slice r.tp r.tn r.tc, .bool r.e, .int .i64 r.a, .int .i64 r.p, .int .i64 r.nu, .int .i64 r.tk, .int .i64 r.st, .string r.cd, .slice r.cp r.cn r.cc, .slice r.ap r.an r.ac], .int .i64 9] w fun e w' => e = .returned (.bool (rZ r 9)) ∧ Below w.heap.size w w' := by
  unfold rZ
  first
    | (go_enter Tryz.func31, Tryz.ntmps31; go_wp2; all_goals (go_ret; exact ⟨rfl, (Below.refl _ _).alloc (Nat.le_refl _) _⟩))
set_option maxHeartbeats 2000000 in
theorem rZero_10 (r : Rec) (w : World) : Calls Tryz.prog 31 #[.agg #[.int .i64 r.kd, .string r.ct, .slice r.tp r.tn r.tc, .bool r.e, .int .i64 r.a, .int .i64 r.p, .int .i64 r.nu, .int .i64 r.tk, .int .i64 r.st, .string r.cd, .slice r.cp r.cn r.cc, .slice r.ap r.an r.ac], .int .i64 10] w fun e w' => e = .returned (.bool (rZ r 10)) ∧ Below w.heap.size w w' := by
  unfold rZ
  first
    | (go_enter Tryz.func31, Tryz.ntmps31; go_wp2; all_goals (go_ret; exact ⟨rfl, (Below.refl _ _).alloc (Nat.le_refl _) _⟩))
end Go.Proofs.YtdjjologpodnkaaGreatDoor
