/-
  strings.Cut at a point; isNumber.
-/
import Derived.Test.YtjdpjielpbiedaaGreatDoorTdLeaf
import Derived.Test.YtjdpjielpbiedaaGreatDoorShelf
import Derived.Lib.IndexLaws
namespace Go.Proofs.YtjdpjielpbiedaaGreatDoor.Td
open Go.RowKit

theorem cut_at : ∀ (l : List UInt8) (o : Nat), l[o]? = some 46 → (∀ k, k < o → l[k]? ≠ some 46) → cutA l = l.take o ∧ cutR l = l.drop o
  | [], o, h, _ => by simp at h
  | b :: l, 0, h, _ => by
    simp at h
    subst h
    exact ⟨by simp [cutA], by simp [cutR]⟩
  | b :: l, o + 1, h, hk => by
    have hb : b ≠ 46 := fun e => hk 0 (by omega) (by rw [e]; rfl)
    have ih := cut_at l o (by simpa using h) (fun k hk' => by have := hk (k + 1) (by omega); simpa using this)
    unfold cutA cutR at *
    refine ⟨?_, ?_⟩
    · rw [List.takeWhile_cons, if_pos (by simpa using hb), List.take_succ_cons, ih.1]
    · rw [List.dropWhile_cons, if_pos (by simpa using hb), List.drop_succ_cons]; exact ih.2
theorem cut_none : ∀ (l : List UInt8), (∀ k : Nat, l[k]? ≠ some 46) → cutA l = l ∧ cutR l = []
  | [], _ => ⟨rfl, rfl⟩
  | b :: l, hk => by
    have hb : b ≠ 46 := fun e => hk 0 (by rw [e]; rfl)
    have ih := cut_none l (fun k => by have := hk (k + 1); simpa using this)
    unfold cutA cutR at *
    refine ⟨?_, ?_⟩
    · rw [List.takeWhile_cons, if_pos (by simpa using hb), ih.1]
    · rw [List.dropWhile_cons, if_pos (by simpa using hb)]; exact ih.2
def strA (s : ByteArray) : ByteArray := ⟨(cutA (bl s)).toArray⟩
def strB (s : ByteArray) : ByteArray := ⟨(cutB (bl s)).toArray⟩
theorem cutS_at {s : ByteArray} {o : Nat} (h : (bl s)[o]? = some 46) (hk : ∀ k, k < o → (bl s)[k]? ≠ some 46) : strA s = s.extract 0 o ∧ strB s = s.extract (o + 1) s.size ∧ hasP (bl s) = true := by
  obtain ⟨h1, h2⟩ := cut_at _ _ h hk
  refine ⟨bl_inj ?_, bl_inj ?_, ?_⟩
  · rw [bl_to]; exact h1
  · rw [bl_from]; show (cutR (bl s)).tail = _; rw [h2, List.tail_drop]
  · unfold hasP; rw [h2]
    have := (List.getElem?_eq_some_iff.1 h).1
    simp only [Bool.not_eq_true', List.isEmpty_eq_false_iff]
    intro e
    have := congrArg List.length e
    rw [List.length_drop] at this
    simp at this
    have h3 : (bl s).length = s.size := bl_len s
    omega
theorem cutS_none {s : ByteArray} (hk : ∀ k : Nat, (bl s)[k]? ≠ some 46) : strA s = s ∧ strB s = ⟨#[]⟩ ∧ hasP (bl s) = false := by
  obtain ⟨h1, h2⟩ := cut_none _ hk
  refine ⟨bl_inj h1, bl_inj ?_, ?_⟩
  · show (cutR (bl s)).tail = _; rw [h2]; rfl
  · unfold hasP; rw [h2]; rfl
theorem strA_size (s : ByteArray) : (strA s).size ≤ s.size := by
  have := cut_len (bl s)
  rw [bl_len] at this
  show (cutA (bl s)).toArray.size ≤ _
  simp
  omega
theorem strB_size (s : ByteArray) : (strB s).size ≤ s.size := by
  have := cut_len (bl s)
  rw [bl_len] at this
  show (cutB (bl s)).toArray.size ≤ _
  simp
  omega
set_option maxHeartbeats 1000000 in
theorem cut_lite (s : ByteArray) (w : World) (hs : s.size ≤ 140737488355328) : Calls Tryz.prog 70 #[.string s, .string ⟨#[46]⟩] w fun e w' => e = .returned (.tuple #[.string (strA s), .string (strB s), .bool (hasP (bl s))]) ∧ Below w.heap.size w w' := by
  rcases (by have := Lib.indexByte_ge (bl s) 46; rcases Int.lt_or_le (Lib.indexByte (bl s) 46) 0 with g | g; exact Or.inl (by omega); exact Or.inr ⟨(Lib.indexByte (bl s) 46).toNat, by omega⟩ : Lib.indexByte (bl s) 46 = -1 ∨ ∃ o : Nat, Lib.indexByte (bl s) 46 = o) with h | ⟨o, h⟩
  · obtain ⟨e1, e2, e3⟩ := cutS_none (Lib.indexByte_none h)
    rw [e1, e2, e3]
    go_enter Tryz.func70, Tryz.ntmps70
    go_wp2_with fail
    refine (Tryz.stringslite_Index_one s 46 _).mono ?_
    rw [show Lib.indexByte s.data.toList 46 = -1 from h]
    rintro _ w1 ⟨rfl, hw⟩
    subst w1
    go_wp2_with fail
    refine bodyPost_ret ?_ rfl ⟨rfl, Below.refl _ _⟩
    simp [results, Tryz.results70, go_sem]
  · obtain ⟨q1, q2⟩ := Lib.indexByte_some h
    have ho : o < s.size := by have := (List.getElem?_eq_some_iff.1 q1).1; rw [bl_len] at this; exact this
    have hoi : (o : Int) < s.size := by omega
    have hoi2 : (o : Int) + 1 ≤ s.size := by omega
    obtain ⟨e1, e2, e3⟩ := cutS_at q1 q2
    rw [e1, e2, e3]
    clear q1 q2 e1 e2 e3
    go_enter Tryz.func70, Tryz.ntmps70
    go_wp2_with fail
    refine (Tryz.stringslite_Index_one s 46 _).mono ?_
    rw [show Lib.indexByte s.data.toList 46 = o from h]
    rintro _ w1 ⟨rfl, hw⟩
    subst w1
    clear h
    go_wp2_with fail
    go_quiet (fail)
    go_wp2_with fail
    refine bodyPost_ret ?_ rfl ⟨rfl, ?_⟩
    · simp [results, Tryz.results70, go_sem]
    · first | exact Below.refl _ _ | exact Below.drew (Below.refl _ _) | exact Below.trans (Below.refl _ _) ⟨rfl, rfl, rfl, Nat.le_refl _, fun _ _ => rfl⟩
set_option maxHeartbeats 1000000 in
theorem cut_any (s : ByteArray) (w : World) (hs : s.size ≤ 140737488355328) : Calls Tryz.prog 57 #[.string s, .string ⟨#[46]⟩] w fun e w' => e = .returned (.tuple #[.string (strA s), .string (strB s), .bool (hasP (bl s))]) ∧ Below w.heap.size w w' := by
  go_enter Tryz.func57, Tryz.ntmps57
  go_wp2_with fail
  refine (cut_lite s _ hs).mono ?_
  rintro _ w1 ⟨rfl, hb⟩
  have HB : Hid (Below w.heap.size w w1) := hb
  clear hb
  go_wp2_with fail
  refine bodyPost_ret ?_ rfl ⟨rfl, HB.out⟩
  simp [results, Tryz.results57, go_sem]
theorem below_then {w a b : World} (h : Below w.heap.size w a) (g : Below a.heap.size a b) : Below w.heap.size w b := h.trans (g.mono h.size)
theorem unsS_size (s : ByteArray) : (unsS s).size ≤ s.size := by
  have := uns_len (bl s)
  rw [bl_len] at this
  show (uns (bl s)).toArray.size ≤ _
  simpa using this
set_option maxHeartbeats 2000000 in
theorem isNumber_any (s : ByteArray) (w : World) (hs : s.size ≤ 140737488355328) : Calls Tryz.prog 45 #[.string s] w fun e w' => e = .returned (.bool (isNm (bl s))) ∧ Below w.heap.size w w' := by
  have hu := unsS_size s
  have ha := strA_size (unsS s)
  have hb0 := strB_size (unsS s)
  have hle : decide ((bl s).length ≤ 16) = decide (s.size ≤ 16) := by rw [bl_len]
  have HE : Hid (isNm (bl s) = (decide (s.size ≤ 16) && dgs (bl (strA (unsS s))) && (!hasP (bl (unsS s)) || dgs (bl (strB (unsS s)))))) := by unfold Hid isNm; rw [hle]; rfl
  go_enter Tryz.func45, Tryz.ntmps45
  go_wp2_with fail
  refine (unsigned_any s _).mono ?_
  rintro _ w1 ⟨rfl, hb⟩
  have H1 : Hid (Below w.heap.size w w1) := hb
  clear hb
  go_wp2_with fail
  refine (cut_any (unsS s) _ (by omega)).mono ?_
  rintro _ w2 ⟨rfl, hb⟩
  have H2 : Hid (Below w.heap.size w w2) := below_then H1.out hb
  have HS : Hid ((strA (unsS s)).size ≤ 140737488355328 ∧ (strB (unsS s)).size ≤ 140737488355328) := ⟨by omega, by omega⟩
  clear hb hu ha hb0 hle
  obtain ⟨A, hA⟩ : ∃ A, strA (unsS s) = A := ⟨_, rfl⟩
  obtain ⟨B, hB⟩ : ∃ B, strB (unsS s) = B := ⟨_, rfl⟩
  obtain ⟨pt, hpt⟩ : ∃ pt, hasP (bl (unsS s)) = pt := ⟨_, rfl⟩
  rw [hA, hB, hpt] at HE
  rw [hA, hB] at HS
  rw [hA, hB, hpt]
  clear hA hB hpt
  by_cases h16 : s.size ≤ 16
  · have h16i : (s.size : Int) ≤ 16 := by omega
    go_wp2_with fail
    refine (pdigits_any A _ HS.out.1).mono ?_
    rintro _ w3 ⟨rfl, hb⟩
    have H3 : Hid (Below w.heap.size w w3) := below_then H2.out hb
    clear hb
    rw [decide_eq_true h16] at HE
    obtain ⟨da, hda⟩ : ∃ da, dgs (bl A) = da := ⟨_, rfl⟩
    rw [hda] at HE ⊢
    clear hda
    cases da with
    | false =>
      go_wp2_with fail
      go_ret
      exact ⟨ret_bool (by rw [HE.out]; simp), H3.out⟩
    | true =>
      cases pt with
      | false =>
        go_wp2_with fail
        go_ret
        exact ⟨ret_bool (by rw [HE.out]; simp), H3.out⟩
      | true =>
        go_wp2_with fail
        refine (pdigits_any B _ HS.out.2).mono ?_
        rintro _ w4 ⟨rfl, hb⟩
        have H4 : Hid (Below w.heap.size w w4) := below_then H3.out hb
        clear hb
        go_wp2_with fail
        go_ret
        exact ⟨ret_bool (by rw [HE.out]; simp), H4.out⟩
  · have h16i : ¬ (s.size : Int) ≤ 16 := by omega
    go_wp2_with fail
    go_ret
    exact ⟨ret_bool (by rw [HE.out, decide_eq_false h16]; rfl), H2.out⟩
end Go.Proofs.YtjdpjielpbiedaaGreatDoor.Td
