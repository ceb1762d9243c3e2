/-
  The document's decimal, Decimal.
-/
import Derived.Test.YtphobcobpclioaaGreatDoorTdDec
import Derived.Laws.BitsLemmas
namespace Go.Proofs.YtphobcobpclioaaGreatDoor.Td
open Go.RowKit

/-- What the document's decimal answers for a text of 1 to 16 bytes. -/
def rdV (l : List UInt8) : Value := .tuple #[.string ⟨(cutA (uns l)).toArray⟩, .string ⟨(cutB (uns l)).toArray⟩, .bool (l.head? == some 45), .bool (dgs (cutA (uns l)) && (!hasP (uns l) || dgs (cutB (uns l))))]
set_option maxRecDepth 100000 in
set_option maxHeartbeats 4000000 in
theorem rdecimal_bad (s : ByteArray) (w : World) (h : s.size = 0 ∨ 16 < s.size) : Calls Tryz.prog 31 #[.string s] w fun r w' => r = .returned (.tuple #[.string ⟨#[]⟩, .string ⟨#[]⟩, .bool false, .bool false]) ∧ Below w.heap.size w w' := by
  by_cases h0 : s.size = 0
  · have hi : (s.size : Int) < 1 := by omega
    go_enter Tryz.func31, Tryz.ntmps31
    go_wp2_with fail
    refine bodyPost_ret ?_ rfl ⟨rfl, Below.refl _ _⟩
    simp [results, Tryz.results31, go_sem]
  · have hi : ¬ (s.size : Int) < 1 := by omega
    have hj : (16 : Int) < s.size := by omega
    go_enter Tryz.func31, Tryz.ntmps31
    go_wp2_with fail
    refine bodyPost_ret ?_ rfl ⟨rfl, Below.refl _ _⟩
    simp [results, Tryz.results31, go_sem]
set_option maxRecDepth 100000 in
set_option maxHeartbeats 4000000 in
theorem rdecimal_m (s : ByteArray) (w : World) (h0 : 0 < s.size) (h16 : s.size ≤ 16) (h1 : s[0].toNat = 45) : Calls Tryz.prog 31 #[.string s] w fun r w' => r = .returned (rdV (bl s)) ∧ Below w.heap.size w w' := by
  have hi : ¬ (s.size : Int) < 1 := by omega
  have hj : ¬ (16 : Int) < s.size := by omega
  have hp : (0 : Int) < s.size := by omega
  have hTz := unsS_size s
  have b1 : ((s[0].toNat : Int) == 45) = true := by simp [h1]
  have hT := uns_sign h0 (Or.inr h1)
  have HN : Hid (((bl s).head? == some 45) = true) := by unfold Hid; rw [head_of h0, show s[0] = 45 from UInt8.toNat_inj.1 h1]; rfl
  obtain ⟨T, hTe⟩ : ∃ T, s.extract 1 s.size = T := ⟨_, rfl⟩
  rw [hTe] at hT
  have HT : Hid (unsS s = T) := hT
  rw [hT] at hTz
  clear h1 hT
  go_enter Tryz.func31, Tryz.ntmps31
  go_wp2_with fail
  clear hTe b1
  go_loopw [7] (fun t7 wx => ∃ i : Nat, i ≤ T.size ∧ t7 = .int .i64 i ∧ Hid (∀ j, j < i → (bl T)[j]? ≠ some 46) ∧ Hid (Below w.heap.size w wx)) (fun t7 _ => T.size - (intOf t7).toNat)
  case atStart => exact ⟨0, Nat.zero_le _, rfl, fun j h => absurd h (by omega), Below.refl _ _⟩
  case round =>
    obtain ⟨i, hi2, rfl, HK, HW⟩ := hrel
    have hs47 : T.size ≤ 140737488355328 := by omega
    by_cases hlt : i < T.size
    · have hlti : (i : Int) < T.size := by omega
      by_cases h46 : T[i].toNat = 46
      · have c1 : ((T[i].toNat : Int) == 46) = true := by simp [h46]
        have hat : (bl T)[i]? = some 46 := by rw [bl_at hlt, show T[i] = 46 from UInt8.toNat_inj.1 h46]
        obtain ⟨q1, q2, q3⟩ := cutS_at hat HK.out
        have hz1 := strA_size T
        have hz2 := strB_size T
        rw [q1] at hz1
        rw [q2] at hz2
        have HZ : Hid (∀ t, t = (T.extract 0 i) ∨ t = (T.extract (i + 1) T.size) → t.size ≤ 140737488355328) := fun t ht => by rcases ht with rfl | rfl <;> omega
        have HV : Hid (rdV (bl s) = .tuple #[.string (T.extract 0 i), .string (T.extract (i + 1) T.size), .bool true, .bool (dgs (bl (T.extract 0 i)) && dgs (bl (T.extract (i + 1) T.size)))]) := by
          unfold Hid rdV
          rw [HN.out, show uns (bl s) = bl T from congrArg bl HT.out, q3]
          rw [show (⟨(cutA (bl T)).toArray⟩ : ByteArray) = (T.extract 0 i) from q1, show (⟨(cutB (bl T)).toArray⟩ : ByteArray) = (T.extract (i + 1) T.size) from q2]
          rw [show cutA (bl T) = bl (T.extract 0 i) by rw [← q1]; rfl, show cutB (bl T) = bl (T.extract (i + 1) T.size) by rw [← q2]; rfl]
          rfl
        have hT1 : (i : Int) + 1 ≤ T.size := by omega
        have hT2 : (0 : Int) ≤ (i : Int) + 1 := by omega
        have hT3 : ¬ ((i : Int) + 1 < 0) := by omega
        have hT4 : ¬ ((T.size : Int) < (i : Int) + 1) := by omega
        have hT5 : ((i : Int) + 1).toNat = i + 1 := by omega
        have hwr : IntKind.i64.wrap ((i : Int) + 1) = (i : Int) + 1 := (by rw [IntKind.wrap_i64]; omega)
        have DD : Hid (∀ t x, t = (T.extract 0 i) ∨ t = (T.extract (i + 1) T.size) → Calls Tryz.prog 32 #[.string t] (wr.drewN x) fun e w' => e = .returned (.bool (dgs (bl t))) ∧ ∃ n, w' = wr.drewN n) := fun t x ht => (rdigits_eq t _ (HZ.out t ht)).mono fun _ _ ⟨h, k, h'⟩ => ⟨h, x + k, by rw [h']; simp⟩
        clear q1 q2 q3 hat h46 hz1 hz2
        go_wp2_with fail
        cases hqa : dgs (bl (T.extract 0 i)) with
        | false =>
          go_quiet ((go_at_call 32; exact DD.out _ _ (by first | exact Or.inl rfl | exact Or.inr rfl)))
          go_wp2_with fail
          refine bodyPost_ret ?_ rfl ⟨congrArg Ending.returned HV.out.symm, below_drewN HW.out _⟩
          simp [results, Tryz.results31, go_sem, hqa]
        | true =>
          go_quiet ((go_at_call 32; exact DD.out _ _ (by first | exact Or.inl rfl | exact Or.inr rfl)))
          go_wp2_with fail
          refine bodyPost_ret ?_ rfl ⟨congrArg Ending.returned HV.out.symm, below_drewN HW.out _⟩
          simp [results, Tryz.results31, go_sem, hqa]
      · have c1 : ((T[i].toNat : Int) == 46) = false := by simp; omega
        have HK2 : Hid (∀ j, j < i + 1 → (bl T)[j]? ≠ some 46) := fun j hj => by
          rcases Nat.lt_or_ge j i with g | g
          · exact HK.out j g
          · obtain rfl : j = i := by omega
            rw [bl_at hlt]
            intro e
            exact h46 (by rw [Option.some.inj e]; rfl)
        clear h46
        go_wp2_with fail
        go_roundw
        case rel => exact ⟨i + 1, hlt, by go_num, HK2, (by first | exact HW | exact Below.drew HW.out | exact below_drewN HW.out _)⟩
        case measure => simp [intOf]; omega
    · have hlti : ¬ (i : Int) < T.size := by omega
      obtain rfl : i = T.size := by omega
      obtain ⟨q1, q2, q3⟩ := cutS_none (s := T) (fun k => by
        rcases Nat.lt_or_ge k T.size with g | g
        · exact HK.out k g
        · rw [List.getElem?_eq_none (by rw [bl_len]; exact g)]; simp)
      have HV : Hid (rdV (bl s) = .tuple #[.string T, .string ⟨#[]⟩, .bool true, .bool (dgs (bl T))]) := by
        unfold Hid rdV
        rw [HN.out, show uns (bl s) = bl T from congrArg bl HT.out, q3]
        rw [show (⟨(cutA (bl T)).toArray⟩ : ByteArray) = T from q1, show (⟨(cutB (bl T)).toArray⟩ : ByteArray) = ⟨#[]⟩ from q2]
        rw [show cutA (bl T) = bl T from congrArg bl q1]
        simp
      clear q1 q2 q3
      go_wp2_with fail
      refine (rdigits_eq T _ (by omega)).mono ?_
      rintro _ _ ⟨rfl, k, rfl⟩
      go_wp2_with fail
      refine bodyPost_ret ?_ rfl ⟨congrArg Ending.returned HV.out.symm, ?_⟩
      · simp [results, Tryz.results31, go_sem]
      · first | exact below_drewN HW.out _ | exact below_drewN (below_drewN HW.out _) _ | exact HW.out
set_option maxRecDepth 100000 in
set_option maxHeartbeats 4000000 in
theorem rdecimal_p (s : ByteArray) (w : World) (h0 : 0 < s.size) (h16 : s.size ≤ 16) (h1 : s[0].toNat = 43) : Calls Tryz.prog 31 #[.string s] w fun r w' => r = .returned (rdV (bl s)) ∧ Below w.heap.size w w' := by
  have hi : ¬ (s.size : Int) < 1 := by omega
  have hj : ¬ (16 : Int) < s.size := by omega
  have hp : (0 : Int) < s.size := by omega
  have hTz := unsS_size s
  have b1 : ((s[0].toNat : Int) == 45) = false := by simp; omega
  have b2 : ((s[0].toNat : Int) == 43) = true := by simp [h1]
  have hT := uns_sign h0 (Or.inl h1)
  have HN : Hid (((bl s).head? == some 45) = false) := by
    unfold Hid; rw [head_of h0]
    have : s[0] ≠ 45 := fun e => by rw [e] at h1; exact absurd h1 (by decide)
    simpa using this
  obtain ⟨T, hTe⟩ : ∃ T, s.extract 1 s.size = T := ⟨_, rfl⟩
  rw [hTe] at hT
  have HT : Hid (unsS s = T) := hT
  rw [hT] at hTz
  clear h1 hT
  go_enter Tryz.func31, Tryz.ntmps31
  go_wp2_with fail
  clear hTe b1 b2
  go_loopw [7] (fun t7 wx => ∃ i : Nat, i ≤ T.size ∧ t7 = .int .i64 i ∧ Hid (∀ j, j < i → (bl T)[j]? ≠ some 46) ∧ Hid (Below w.heap.size w wx)) (fun t7 _ => T.size - (intOf t7).toNat)
  case atStart => exact ⟨0, Nat.zero_le _, rfl, fun j h => absurd h (by omega), Below.refl _ _⟩
  case round =>
    obtain ⟨i, hi2, rfl, HK, HW⟩ := hrel
    have hs47 : T.size ≤ 140737488355328 := by omega
    by_cases hlt : i < T.size
    · have hlti : (i : Int) < T.size := by omega
      by_cases h46 : T[i].toNat = 46
      · have c1 : ((T[i].toNat : Int) == 46) = true := by simp [h46]
        have hat : (bl T)[i]? = some 46 := by rw [bl_at hlt, show T[i] = 46 from UInt8.toNat_inj.1 h46]
        obtain ⟨q1, q2, q3⟩ := cutS_at hat HK.out
        have hz1 := strA_size T
        have hz2 := strB_size T
        rw [q1] at hz1
        rw [q2] at hz2
        have HZ : Hid (∀ t, t = (T.extract 0 i) ∨ t = (T.extract (i + 1) T.size) → t.size ≤ 140737488355328) := fun t ht => by rcases ht with rfl | rfl <;> omega
        have HV : Hid (rdV (bl s) = .tuple #[.string (T.extract 0 i), .string (T.extract (i + 1) T.size), .bool false, .bool (dgs (bl (T.extract 0 i)) && dgs (bl (T.extract (i + 1) T.size)))]) := by
          unfold Hid rdV
          rw [HN.out, show uns (bl s) = bl T from congrArg bl HT.out, q3]
          rw [show (⟨(cutA (bl T)).toArray⟩ : ByteArray) = (T.extract 0 i) from q1, show (⟨(cutB (bl T)).toArray⟩ : ByteArray) = (T.extract (i + 1) T.size) from q2]
          rw [show cutA (bl T) = bl (T.extract 0 i) by rw [← q1]; rfl, show cutB (bl T) = bl (T.extract (i + 1) T.size) by rw [← q2]; rfl]
          rfl
        have hT1 : (i : Int) + 1 ≤ T.size := by omega
        have hT2 : (0 : Int) ≤ (i : Int) + 1 := by omega
        have hT3 : ¬ ((i : Int) + 1 < 0) := by omega
        have hT4 : ¬ ((T.size : Int) < (i : Int) + 1) := by omega
        have hT5 : ((i : Int) + 1).toNat = i + 1 := by omega
        have hwr : IntKind.i64.wrap ((i : Int) + 1) = (i : Int) + 1 := (by rw [IntKind.wrap_i64]; omega)
        have DD : Hid (∀ t x, t = (T.extract 0 i) ∨ t = (T.extract (i + 1) T.size) → Calls Tryz.prog 32 #[.string t] (wr.drewN x) fun e w' => e = .returned (.bool (dgs (bl t))) ∧ ∃ n, w' = wr.drewN n) := fun t x ht => (rdigits_eq t _ (HZ.out t ht)).mono fun _ _ ⟨h, k, h'⟩ => ⟨h, x + k, by rw [h']; simp⟩
        clear q1 q2 q3 hat h46 hz1 hz2
        go_wp2_with fail
        cases hqa : dgs (bl (T.extract 0 i)) with
        | false =>
          go_quiet ((go_at_call 32; exact DD.out _ _ (by first | exact Or.inl rfl | exact Or.inr rfl)))
          go_wp2_with fail
          refine bodyPost_ret ?_ rfl ⟨congrArg Ending.returned HV.out.symm, below_drewN HW.out _⟩
          simp [results, Tryz.results31, go_sem, hqa]
        | true =>
          go_quiet ((go_at_call 32; exact DD.out _ _ (by first | exact Or.inl rfl | exact Or.inr rfl)))
          go_wp2_with fail
          refine bodyPost_ret ?_ rfl ⟨congrArg Ending.returned HV.out.symm, below_drewN HW.out _⟩
          simp [results, Tryz.results31, go_sem, hqa]
      · have c1 : ((T[i].toNat : Int) == 46) = false := by simp; omega
        have HK2 : Hid (∀ j, j < i + 1 → (bl T)[j]? ≠ some 46) := fun j hj => by
          rcases Nat.lt_or_ge j i with g | g
          · exact HK.out j g
          · obtain rfl : j = i := by omega
            rw [bl_at hlt]
            intro e
            exact h46 (by rw [Option.some.inj e]; rfl)
        clear h46
        go_wp2_with fail
        go_roundw
        case rel => exact ⟨i + 1, hlt, by go_num, HK2, (by first | exact HW | exact Below.drew HW.out | exact below_drewN HW.out _)⟩
        case measure => simp [intOf]; omega
    · have hlti : ¬ (i : Int) < T.size := by omega
      obtain rfl : i = T.size := by omega
      obtain ⟨q1, q2, q3⟩ := cutS_none (s := T) (fun k => by
        rcases Nat.lt_or_ge k T.size with g | g
        · exact HK.out k g
        · rw [List.getElem?_eq_none (by rw [bl_len]; exact g)]; simp)
      have HV : Hid (rdV (bl s) = .tuple #[.string T, .string ⟨#[]⟩, .bool false, .bool (dgs (bl T))]) := by
        unfold Hid rdV
        rw [HN.out, show uns (bl s) = bl T from congrArg bl HT.out, q3]
        rw [show (⟨(cutA (bl T)).toArray⟩ : ByteArray) = T from q1, show (⟨(cutB (bl T)).toArray⟩ : ByteArray) = ⟨#[]⟩ from q2]
        rw [show cutA (bl T) = bl T from congrArg bl q1]
        simp
      clear q1 q2 q3
      go_wp2_with fail
      refine (rdigits_eq T _ (by omega)).mono ?_
      rintro _ _ ⟨rfl, k, rfl⟩
      go_wp2_with fail
      refine bodyPost_ret ?_ rfl ⟨congrArg Ending.returned HV.out.symm, ?_⟩
      · simp [results, Tryz.results31, go_sem]
      · first | exact below_drewN HW.out _ | exact below_drewN (below_drewN HW.out _) _ | exact HW.out
set_option maxRecDepth 100000 in
set_option maxHeartbeats 4000000 in
theorem rdecimal_n (s : ByteArray) (w : World) (h0 : 0 < s.size) (h16 : s.size ≤ 16) (h1 : ¬ (s[0].toNat = 43 ∨ s[0].toNat = 45)) : Calls Tryz.prog 31 #[.string s] w fun r w' => r = .returned (rdV (bl s)) ∧ Below w.heap.size w w' := by
  have hi : ¬ (s.size : Int) < 1 := by omega
  have hj : ¬ (16 : Int) < s.size := by omega
  have hp : (0 : Int) < s.size := by omega
  have hTz := unsS_size s
  have b1 : ((s[0].toNat : Int) == 45) = false := by simp; omega
  have b2 : ((s[0].toNat : Int) == 43) = false := by simp; omega
  have hT := uns_none h0 h1
  have HN : Hid (((bl s).head? == some 45) = false) := by
    unfold Hid; rw [head_of h0]
    have : s[0] ≠ 45 := fun e => h1 (Or.inr (by rw [e]; rfl))
    simpa using this
  obtain ⟨T, hTe⟩ : ∃ T, s = T := ⟨_, rfl⟩
  subst hTe
  have HT : Hid (unsS s = s) := hT
  clear h1 hT hTz
  go_enter Tryz.func31, Tryz.ntmps31
  go_wp2_with fail
  clear b1 b2
  go_loopw [7] (fun t7 wx => ∃ i : Nat, i ≤ s.size ∧ t7 = .int .i64 i ∧ Hid (∀ j, j < i → (bl s)[j]? ≠ some 46) ∧ Hid (Below w.heap.size w wx)) (fun t7 _ => s.size - (intOf t7).toNat)
  case atStart => exact ⟨0, Nat.zero_le _, rfl, fun j h => absurd h (by omega), Below.refl _ _⟩
  case round =>
    obtain ⟨i, hi2, rfl, HK, HW⟩ := hrel
    have hs47 : s.size ≤ 140737488355328 := by omega
    by_cases hlt : i < s.size
    · have hlti : (i : Int) < s.size := by omega
      by_cases h46 : s[i].toNat = 46
      · have c1 : ((s[i].toNat : Int) == 46) = true := by simp [h46]
        have hat : (bl s)[i]? = some 46 := by rw [bl_at hlt, show s[i] = 46 from UInt8.toNat_inj.1 h46]
        obtain ⟨q1, q2, q3⟩ := cutS_at hat HK.out
        have hz1 := strA_size s
        have hz2 := strB_size s
        rw [q1] at hz1
        rw [q2] at hz2
        have HZ : Hid (∀ t, t = (s.extract 0 i) ∨ t = (s.extract (i + 1) s.size) → t.size ≤ 140737488355328) := fun t ht => by rcases ht with rfl | rfl <;> omega
        have HV : Hid (rdV (bl s) = .tuple #[.string (s.extract 0 i), .string (s.extract (i + 1) s.size), .bool false, .bool (dgs (bl (s.extract 0 i)) && dgs (bl (s.extract (i + 1) s.size)))]) := by
          unfold Hid rdV
          rw [HN.out, show uns (bl s) = bl s from congrArg bl HT.out, q3]
          rw [show (⟨(cutA (bl s)).toArray⟩ : ByteArray) = (s.extract 0 i) from q1, show (⟨(cutB (bl s)).toArray⟩ : ByteArray) = (s.extract (i + 1) s.size) from q2]
          rw [show cutA (bl s) = bl (s.extract 0 i) by rw [← q1]; rfl, show cutB (bl s) = bl (s.extract (i + 1) s.size) by rw [← q2]; rfl]
          rfl
        have hT1 : (i : Int) + 1 ≤ s.size := by omega
        have hT2 : (0 : Int) ≤ (i : Int) + 1 := by omega
        have hT3 : ¬ ((i : Int) + 1 < 0) := by omega
        have hT4 : ¬ ((s.size : Int) < (i : Int) + 1) := by omega
        have hT5 : ((i : Int) + 1).toNat = i + 1 := by omega
        have hwr : IntKind.i64.wrap ((i : Int) + 1) = (i : Int) + 1 := (by rw [IntKind.wrap_i64]; omega)
        have DD : Hid (∀ t x, t = (s.extract 0 i) ∨ t = (s.extract (i + 1) s.size) → Calls Tryz.prog 32 #[.string t] (wr.drewN x) fun e w' => e = .returned (.bool (dgs (bl t))) ∧ ∃ n, w' = wr.drewN n) := fun t x ht => (rdigits_eq t _ (HZ.out t ht)).mono fun _ _ ⟨h, k, h'⟩ => ⟨h, x + k, by rw [h']; simp⟩
        clear q1 q2 q3 hat h46 hz1 hz2
        go_wp2_with fail
        cases hqa : dgs (bl (s.extract 0 i)) with
        | false =>
          go_quiet ((go_at_call 32; exact DD.out _ _ (by first | exact Or.inl rfl | exact Or.inr rfl)))
          go_wp2_with fail
          refine bodyPost_ret ?_ rfl ⟨congrArg Ending.returned HV.out.symm, below_drewN HW.out _⟩
          simp [results, Tryz.results31, go_sem, hqa]
        | true =>
          go_quiet ((go_at_call 32; exact DD.out _ _ (by first | exact Or.inl rfl | exact Or.inr rfl)))
          go_wp2_with fail
          refine bodyPost_ret ?_ rfl ⟨congrArg Ending.returned HV.out.symm, below_drewN HW.out _⟩
          simp [results, Tryz.results31, go_sem, hqa]
      · have c1 : ((s[i].toNat : Int) == 46) = false := by simp; omega
        have HK2 : Hid (∀ j, j < i + 1 → (bl s)[j]? ≠ some 46) := fun j hj => by
          rcases Nat.lt_or_ge j i with g | g
          · exact HK.out j g
          · obtain rfl : j = i := by omega
            rw [bl_at hlt]
            intro e
            exact h46 (by rw [Option.some.inj e]; rfl)
        clear h46
        go_wp2_with fail
        go_roundw
        case rel => exact ⟨i + 1, hlt, by go_num, HK2, (by first | exact HW | exact Below.drew HW.out | exact below_drewN HW.out _)⟩
        case measure => simp [intOf]; omega
    · have hlti : ¬ (i : Int) < s.size := by omega
      obtain rfl : i = s.size := by omega
      obtain ⟨q1, q2, q3⟩ := cutS_none (s := s) (fun k => by
        rcases Nat.lt_or_ge k s.size with g | g
        · exact HK.out k g
        · rw [List.getElem?_eq_none (by rw [bl_len]; exact g)]; simp)
      have HV : Hid (rdV (bl s) = .tuple #[.string s, .string ⟨#[]⟩, .bool false, .bool (dgs (bl s))]) := by
        unfold Hid rdV
        rw [HN.out, show uns (bl s) = bl s from congrArg bl HT.out, q3]
        rw [show (⟨(cutA (bl s)).toArray⟩ : ByteArray) = s from q1, show (⟨(cutB (bl s)).toArray⟩ : ByteArray) = ⟨#[]⟩ from q2]
        rw [show cutA (bl s) = bl s from congrArg bl q1]
        simp
      clear q1 q2 q3
      go_wp2_with fail
      refine (rdigits_eq s _ (by omega)).mono ?_
      rintro _ _ ⟨rfl, k, rfl⟩
      go_wp2_with fail
      refine bodyPost_ret ?_ rfl ⟨congrArg Ending.returned HV.out.symm, ?_⟩
      · simp [results, Tryz.results31, go_sem]
      · first | exact below_drewN HW.out _ | exact below_drewN (below_drewN HW.out _) _ | exact HW.out
theorem rdecimal_ok (s : ByteArray) (w : World) (h0 : 0 < s.size) (h16 : s.size ≤ 16) : Calls Tryz.prog 31 #[.string s] w fun r w' => r = .returned (rdV (bl s)) ∧ Below w.heap.size w w' := by
  by_cases h1 : s[0].toNat = 45
  · exact rdecimal_m s w h0 h16 h1
  by_cases h2 : s[0].toNat = 43
  · exact rdecimal_p s w h0 h16 h2
  exact rdecimal_n s w h0 h16 (by omega)
end Go.Proofs.YtphobcobpclioaaGreatDoor.Td
