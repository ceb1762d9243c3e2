/-
  The ledger's leaves: bounds, control ids, codes, faults; which field a record has where.
-/
import Derived.Test.YtdjjologpodnkaaGreatDoorLgSpec
namespace Go.Proofs.YtdjjologpodnkaaGreatDoor
open Go.RowKit

abbrev fv (f : FuncId) : Value := .func (.func f) #[] #[]
def isF : Nat → FuncId
  | 0 => 73
  | 1 => 67
  | 2 => 68
  | _ => 69
/-- A field as a value, of the record in block B. -/
def fdV (B : Nat) : Fd → Value
  | .num o _ sz lo hi => .iface 128 (.agg #[.pointer (some ⟨B, o, none⟩), .int .i64 sz, .int .i64 lo, .int .i64 hi])
  | .str o _ lo hi k => .iface 139 (.agg #[.pointer (some ⟨B, o, none⟩), .int .i64 lo, .int .i64 hi, fv (isF k)])
  | .byt o _ _ _ _ lo hi => .iface 146 (.agg #[.pointer (some ⟨B, o, none⟩), .int .i64 lo, .int .i64 hi, fv 74])
  | .cnd _ _ _ => .iface 136 (.agg #[.pointer (some ⟨B, 3, none⟩)])
  | .non b => .iface 129 (.bool b)
set_option maxHeartbeats 400000 in
theorem isWithin_any (n a b : Int) (w : World) : Calls Tryz.prog 75 #[.int .i64 n, .int .i64 a, .int .i64 b] w fun e w' => e = .returned (.bool (decide (a ≤ n) && decide (n ≤ b))) ∧ w' = w := by
  go_enter Tryz.func75, Tryz.ntmps75
  go_wp2
  all_goals (go_ret; exact ⟨ret_bool (by rw [Bool.eq_iff_iff]; simp; try omega), rfl⟩)
set_option maxHeartbeats 1000000 in
theorem isVerdict_any (s : ByteArray) (w : World) : Calls Tryz.prog 67 #[.string s] w fun e w' => e = .returned (.bool (vdB s)) ∧ w' = w := by
  unfold vdB
  cases h1 : (s.toList == [65, 65]) <;> cases h2 : (s.toList == [65, 69]) <;> cases h3 : (s.toList == [65, 82])
  all_goals
    go_enter Tryz.func67, Tryz.ntmps67
    go_wp2
    go_ret
    exact ⟨rfl, rfl⟩
set_option maxHeartbeats 1000000 in
theorem isEmpty_any (s : ByteArray) (w : World) : Calls Tryz.prog 69 #[.string s] w fun e w' => e = .returned (.bool (emB s)) ∧ w' = w := by
  unfold emB
  cases h1 : (s.toList == [])
  all_goals
    go_enter Tryz.func69, Tryz.ntmps69
    go_wp2
    go_ret
    exact ⟨rfl, rfl⟩
set_option maxHeartbeats 1000000 in
theorem isCode_any (s : ByteArray) (w : World) : Calls Tryz.prog 68 #[.string s] w fun e w' => e = .returned (.bool (cdB s)) ∧ w' = w := by
  unfold cdB
  have hv := isVerdict_any s w
  cases h0 : vdB s <;> cases h1 : (s.toList == [67, 65]) <;> cases h2 : (s.toList == [67, 69]) <;> cases h3 : (s.toList == [67, 82])
  all_goals
    rw [h0] at hv
    clear h0
    go_enter Tryz.func68, Tryz.ntmps68
    go_wp2_with fail
    refine hv.mono ?_
    rintro _ w9 ⟨rfl, h9⟩
    subst w9
    clear hv
    go_wp2_with fail
    go_ret
    exact ⟨rfl, rfl⟩
theorem isAny_any (v : Value) (w : World) : Calls Tryz.prog 74 #[v] w fun e w' => e = .returned (.bool true) ∧ w' = w := by
  go_enter Tryz.func74, Tryz.ntmps74
  go_wp2
  go_ret
  exact ⟨rfl, rfl⟩
set_option maxHeartbeats 1000000 in
theorem isCB_any (c : Int) (w : World) : Calls Tryz.prog 76 #[.int .u8 c] w fun e w' => e = .returned (.bool (cbB c)) ∧ w' = w := by
  go_enter Tryz.func76, Tryz.ntmps76
  go_wp2
  all_goals (go_ret; exact ⟨ret_bool (by unfold cbB; rw [Bool.eq_iff_iff]; simp; try (first | omega | (intros; omega))), rfl⟩)
set_option maxRecDepth 100000 in
set_option maxHeartbeats 2000000 in
theorem isControl_any (s : ByteArray) (w : World) : Calls Tryz.prog 73 #[.string s] w fun e w' => e = .returned (.bool (ctB s)) ∧ Below w.heap.size w w' := by
  have hi := isWithin_any (s.size : Int) 1 18 w
  by_cases h0 : 1 ≤ s.size ∧ s.size ≤ 18
  rotate_left
  · have e0 : ctB s = false := by
      unfold ctB
      rcases Nat.lt_or_ge s.size 1 with g | g
      · rw [decide_eq_false (show ¬ 1 ≤ s.size by omega)]; rfl
      · rw [decide_eq_false (show ¬ s.size ≤ 18 by omega)]; simp
    rw [e0]
    have e1 : (decide ((1 : Int) ≤ (s.size : Int)) && decide ((s.size : Int) ≤ 18)) = false := by
      rw [Bool.and_eq_false_iff]; simp only [decide_eq_false_iff_not]; omega
    rw [e1] at hi
    clear e0 e1 h0
    go_enter Tryz.func73, Tryz.ntmps73
    go_wp2_with fail
    refine hi.mono ?_
    rintro _ w9 ⟨rfl, h9⟩
    subst w9
    clear hi
    go_wp2_with fail
    go_ret
    exact ⟨rfl, Below.refl _ _⟩
  have e1 : (decide ((1 : Int) ≤ (s.size : Int)) && decide ((s.size : Int) ≤ 18)) = true := by
    rw [Bool.and_eq_true]; simp only [decide_eq_true_eq]; omega
  rw [e1] at hi
  clear e1
  have hcv : (convert 9 22 (.string s)).run Tryz.prog w = _ := Lib.run_convert_string_bytes _ 9 22 5 s Tryz.underlying9 Tryz.underlying22 Tryz.underlying5
  have hc2 := fun j hj => Lib.bytesWorld_cell w 5 s j hj
  have hb2 : Below w.heap.size w (Lib.bytesWorld w 5 s) := ⟨rfl, rfl, rfl, by rw [Lib.bytesWorld_size]; omega, fun k hk => Lib.bytesWorld_at_old w _ s k hk⟩
  obtain ⟨W2, hW2⟩ : ∃ W2, Lib.bytesWorld w 5 s = W2 := ⟨_, rfl⟩
  rw [hW2] at hcv hc2 hb2
  obtain ⟨cap, hcap⟩ : ∃ c, grownCap w s.size 0 5 = c := ⟨_, rfl⟩
  rw [hcap] at hcv
  obtain ⟨n, hn⟩ : ∃ n, s.size = n := ⟨_, rfl⟩
  have HN : Hid (s.data.toList.length = n) := by unfold Hid; rw [← hn]; rfl
  have HE : Hid (ctB s = s.data.toList.all (fun c => cbB (c.toNat : Int))) := by
    unfold ctB; rw [decide_eq_true h0.1, decide_eq_true h0.2]; rfl
  rw [hn] at hcv hc2 hi h0
  have HC : Hid (∀ j, j < n → W2.cell? ⟨w.heap.size, j, none⟩ = some (.int .u8 (s.data.toList.getD j 0).toNat)) := hc2
  have HB : Hid (Below w.heap.size w W2) := hb2
  have hsz : (s.size : Int) = n := by rw [hn]
  clear hW2 hcap hc2 hb2 hn
  go_enter Tryz.func73, Tryz.ntmps73
  go_wp2_with fail
  refine hi.mono ?_
  rintro _ w9 ⟨rfl, h9⟩
  subst w9
  clear hi
  go_wp2_with fail
  go_loopw [12] (fun t wx => ∃ i : Nat, i ≤ n ∧ t = .int .i64 i ∧ wx = W2 ∧ Hid ((s.data.toList.take i).all (fun c => cbB (c.toNat : Int)) = true)) (fun t _ => n - (intOf t).toNat)
  case atStart => exact ⟨0, Nat.zero_le _, rfl, rfl, rfl⟩
  case round =>
    obtain ⟨i, hi, rfl, rfl, HA⟩ := hrel
    by_cases hlt : i < n
    · have hlt1 : (i : Int) < n := by omega
      have ci := HC.out i hlt
      obtain ⟨b, hb⟩ : ∃ b, s.data.toList.getD i 0 = b := ⟨_, rfl⟩
      rw [hb] at ci
      have hil : i < s.data.toList.length := by rw [HN.out]; exact hlt
      have hgt : s.data.toList[i]'hil = b := by rw [← hb, List.getD_eq_getElem?_getD, List.getElem?_eq_getElem hil]; rfl
      have HB1 : Hid (s.data.toList[i]'hil = b) := hgt
      clear hb hgt
      cases hc : cbB (b.toNat : Int) with
      | true =>
        have hcb := isCB_any (b.toNat : Int) wr
        rw [hc] at hcb
        have HH : Hid (cbB (b.toNat : Int) = true) := hc
        clear hc
        go_wp2_with fail
        refine hcb.mono ?_
        rintro _ w9 ⟨rfl, h9⟩
        subst w9
        go_wp2_with fail
        go_roundw
        case rel =>
          refine ⟨i + 1, hlt, by go_num, by trivial, ?_⟩
          unfold Hid
          rw [List.take_succ_eq_append_getElem hil, List.all_append, HA.out, HB1.out]
          simp [HH.out]
        case measure => simp [intOf]; omega
      | false =>
        have hcb := isCB_any (b.toNat : Int) wr
        rw [hc] at hcb
        have HH : Hid (ctB s = false) := by
          unfold Hid
          rw [HE.out, List.all_eq_false]
          exact ⟨s.data.toList[i]'hil, List.getElem_mem hil, by rw [HB1.out, hc]; simp⟩
        clear hc
        go_wp2_with fail
        refine hcb.mono ?_
        rintro _ w9 ⟨rfl, h9⟩
        subst w9
        go_wp2_with fail
        go_ret
        exact ⟨ret_bool HH.out.symm, HB.out⟩
    · have hlt1 : ¬ (i : Int) < n := by omega
      have HH : Hid (ctB s = true) := by
        unfold Hid
        rw [HE.out, ← HA.out, List.take_of_length_le (by rw [HN.out]; omega)]
      go_wp2_with fail
      go_ret
      exact ⟨ret_bool HH.out.symm, HB.out⟩
/-- What is asked of a text. -/
theorem isF_any (k : Nat) (s : ByteArray) (w : World) : Calls Tryz.prog (isF k) #[.string s] w fun e w' => e = .returned (.bool (isS k s)) ∧ Below w.heap.size w w' := by
  match k with
  | 0 => exact isControl_any s w
  | 1 => exact (isVerdict_any s w).mono fun _ _ ⟨h, e⟩ => ⟨h, by rw [e]; exact Below.refl _ _⟩
  | 2 => exact (isCode_any s w).mono fun _ _ ⟨h, e⟩ => ⟨h, by rw [e]; exact Below.refl _ _⟩
  | _ + 3 => exact (isEmpty_any s w).mono fun _ _ ⟨h, e⟩ => ⟨h, by rw [e]; exact Below.refl _ _⟩
end Go.Proofs.YtdjjologpodnkaaGreatDoor
