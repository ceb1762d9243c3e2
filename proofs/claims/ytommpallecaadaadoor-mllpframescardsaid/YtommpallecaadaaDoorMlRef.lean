/-
  The document's Frame.
-/
import Derived.Test.YtommpallecaadaaDoorMlFrame2
namespace Go.Proofs.YtommpallecaadaaDoor
open Go.RowKit

/-- append of one byte, the answer a slice. -/
theorem run_push1 {w : World} {B : Nat} {v : Value} {xs : List Int} (h : Row w B v xs) (hB : B ≤ w.heap.size) (hl : xs.length + 1 ≤ 140737488355328) (z : Int) :
    ∃ a n c w', (Builtin.append_ #[22, 22] 22 #[v, .slice (some ⟨w.heap.size, 0, none⟩) 1 1]).run Tryd.prog (w.alloc (.cells #[.int .u8 z] 5)) = .ok (.slice a n c) w' ∧ Row w' B (.slice a n c) (xs ++ [z]) ∧ Below B w w' := by
  have hbl : Below B w (w.alloc (.cells #[.int .u8 z] 5)) := (Below.refl _ w).alloc hB _
  have hrow : Row (w.alloc (.cells #[.int .u8 z] 5)) B v xs := h.keep (fun g e => ((Below.refl w.heap.size w).alloc (Nat.le_refl _) (.cells #[.int .u8 z] 5)).block g (h.lt e).2)
  have hone : Byts (w.alloc (.cells #[.int .u8 z] 5)) (some ⟨w.heap.size, 0, none⟩) 1 [z] := by
    refine ⟨rfl, fun q hq => ⟨w.heap.size, 0, rfl, by simp, ?_⟩⟩
    obtain rfl : q = 0 := by omega
    simp
  obtain ⟨a, n, c, w', hr, r, o⟩ := run_append_sl (c := 1) hrow hone (fun e => by cases e) hl (by simp; omega) (fun k e => (h.lt e).1)
  exact ⟨a, n, c, w', hr, r, hbl.trans o⟩
set_option maxRecDepth 100000 in
set_option maxHeartbeats 2000000 in
theorem RFrame_err {w : World} {po : Option Addr} {m c : Nat} {bs : List Int} {at_ code : Int} (hb : Byts w po m bs) (hm : m + 90 ≤ 140737488355328) (h : FErr bs m at_ code) :
    Calls Tryd.prog 7 #[.slice po m c] w fun e w' => e = .returned (.tuple #[.slice none 0 0, .int .i64 at_, .int .i64 code]) ∧ Below w.heap.size w w' := by
  have HB : Hid (Byts w po m bs) := hb
  clear hb
  cases h with
  | form h0 =>
    subst h0
    go_enter Tryd.func7, Tryd.ntmps7
    go_wp2_with fail
    refine bodyPost_ret (v := .tuple #[.slice none 0 0, .int .i64 0, .int .i64 10]) (by simp [results, Tryd.results7, go_sem]) rfl ⟨rfl, Below.refl _ _⟩
  | long h1 =>
    have h2 : (8192 : Int) < m := by omega
    have h3 : ((m : Int) == 0) = false := by simp; omega
    have h4 : m ≠ 0 := by omega
    go_enter Tryd.func7, Tryd.ntmps7
    go_wp2_with fail
    refine bodyPost_ret (v := .tuple #[.slice none 0 0, .int .i64 0, .int .i64 4]) (by simp [results, Tryd.results7, go_sem]) rfl ⟨rfl, Below.refl _ _⟩
  | bad k h0 hk hy hn =>
    have h2 : ¬ (8192 : Int) < m := by omega
    have h3 : ((m : Int) == 0) = false := by simp; omega
    have h4 : m ≠ 0 := by omega
    have HY : Hid (isF (bs.getD k 0) = true ∧ ∀ j, j < k → isF (bs.getD j 0) = false) := ⟨hy, hn⟩
    clear hy hn
    have HW : Hid (Below w.heap.size w (w.alloc (.cells #[.int .u8 11] 5)) ∧ Row (w.alloc (.cells #[.int .u8 11] 5)) w.heap.size (.slice (some ⟨w.heap.size, 0, none⟩) 1 1) [11]) := by
      refine ⟨(Below.refl _ _).alloc (Nat.le_refl _) _, ⟨rfl, Or.inr ⟨w.heap.size, 1, #[.int .u8 11], rfl, Nat.le_refl _, heap_alloc_new _ _, by simp, by unfold maxLen; omega, rfl, rfl⟩⟩⟩
    go_enter Tryd.func7, Tryd.ntmps7
    go_wp2_with fail
    go_loopw [5, 6] (fun t5 t6 wx => ∃ i : Nat, i ≤ k ∧ t6 = .int .i64 i ∧ ∃ a n c', t5 = .slice a n c' ∧ Hid (Below w.heap.size w wx ∧ Row wx w.heap.size (.slice a n c') ([11] ++ bs.take i))) (fun _ t6 _ => m - (intOf t6).toNat)
    case atStart => exact ⟨0, Nat.zero_le _, rfl, _, _, _, rfl, HW.out⟩
    case round =>
      obtain ⟨i, hi, rfl, a, n, c', rfl, HI⟩ := hrel
      have hlt1 : (i : Int) < m := by omega
      obtain ⟨b, o, rfl, _, hcell⟩ := (HB.out.below HI.out.1).cell i (by omega)
      by_cases hlt : i < k
      · obtain ⟨z, hz⟩ : ∃ z, bs.getD i 0 = z := ⟨_, rfl⟩
        have hF := HY.out.2 i hlt
        rw [hz] at hcell hF
        have g1 : (z == 11) = false := by simp [isF] at hF; simp [hF.1]
        have g2 : (z == 28) = false := by simp [isF] at hF; simp [hF.2]
        have hbl := HB.out.len
        obtain ⟨a2, n2, c2, w2, e2, r2, o2⟩ := run_push1 HI.out.2 HI.out.1.size (by simp; omega) z
        have HK : Hid (Below w.heap.size w w2 ∧ Row w2 w.heap.size (.slice a2 n2 c2) ([11] ++ bs.take (i + 1))) := by
          refine ⟨HI.out.1.trans o2, ?_⟩
          rw [← take_next (by omega), hz, ← List.append_assoc]
          exact r2
        clear hF hz r2 o2 HI hbl
        go_wp2_with (at_builtin; refine wpList_append_run rfl (.tmp 33) (.tmp 38) 22 _ rfl e2 ?_)
        go_roundw
        case rel => exact ⟨i + 1, hlt, by go_num, a2, n2, c2, rfl, HK⟩
        case measure => simp [intOf]; omega
      · obtain rfl : i = k := by omega
        have hF := HY.out.1
        have HBl : Hid (Below w.heap.size w wr) := HI.out.1
        by_cases g1 : bs.getD i 0 = 11
        · rw [g1] at hcell
          clear hF
          go_wp2_with fail
          refine bodyPost_ret (v := .tuple #[.slice none 0 0, .int .i64 (i : Int), .int .i64 80]) (by simp [results, Tryd.results7, go_sem]) rfl ⟨rfl, HBl.out⟩
        · have g2 : bs.getD i 0 = 28 := by simp only [isF, Bool.or_eq_true, beq_iff_eq] at hF; rcases hF with q | q
                                           · exact absurd q g1
                                           · exact q
          rw [g2] at hcell
          clear hF g1 g2
          go_wp2_with fail
          refine bodyPost_ret (v := .tuple #[.slice none 0 0, .int .i64 (i : Int), .int .i64 80]) (by simp [results, Tryd.results7, go_sem]) rfl ⟨rfl, HBl.out⟩
set_option maxRecDepth 100000 in
set_option maxHeartbeats 2000000 in
theorem RFrame_ok {w : World} {po : Option Addr} {m c : Nat} {bs : List Int} (hb : Byts w po m bs) (h : FOk bs m) :
    Calls Tryd.prog 7 #[.slice po m c] w fun e w' => ∃ a n c', e = .returned (.tuple #[.slice a n c', .int .i64 0, .int .i64 0]) ∧ Row w' w.heap.size (.slice a n c') ([11] ++ bs ++ [28, 13]) ∧ Below w.heap.size w w' := by
  obtain ⟨h0, h1, hn⟩ := h
  have HB : Hid (Byts w po m bs) := hb
  have HN : Hid (∀ j, j < m → isF (bs.getD j 0) = false) := hn
  clear hb hn
  have h2 : ¬ (8192 : Int) < m := by omega
  have h3 : ((m : Int) == 0) = false := by simp; omega
  have h4 : m ≠ 0 := by omega
  have HW : Hid (Below w.heap.size w (w.alloc (.cells #[.int .u8 11] 5)) ∧ Row (w.alloc (.cells #[.int .u8 11] 5)) w.heap.size (.slice (some ⟨w.heap.size, 0, none⟩) 1 1) [11]) := by
    refine ⟨(Below.refl _ _).alloc (Nat.le_refl _) _, ⟨rfl, Or.inr ⟨w.heap.size, 1, #[.int .u8 11], rfl, Nat.le_refl _, heap_alloc_new _ _, by simp, by unfold maxLen; omega, rfl, rfl⟩⟩⟩
  go_enter Tryd.func7, Tryd.ntmps7
  go_wp2_with fail
  go_loopw [5, 6] (fun t5 t6 wx => ∃ i : Nat, i ≤ m ∧ t6 = .int .i64 i ∧ ∃ a n c', t5 = .slice a n c' ∧ Hid (Below w.heap.size w wx ∧ Row wx w.heap.size (.slice a n c') ([11] ++ bs.take i))) (fun _ t6 _ => m - (intOf t6).toNat)
  case atStart => exact ⟨0, Nat.zero_le _, rfl, _, _, _, rfl, HW.out⟩
  case round =>
    obtain ⟨i, hi, rfl, a, n, c', rfl, HI⟩ := hrel
    have hbl := HB.out.len
    by_cases hlt : i < m
    · have hlt1 : (i : Int) < m := by omega
      obtain ⟨b, o, rfl, _, hcell⟩ := (HB.out.below HI.out.1).cell i (by omega)
      obtain ⟨z, hz⟩ : ∃ z, bs.getD i 0 = z := ⟨_, rfl⟩
      have hF := HN.out i hlt
      rw [hz] at hcell hF
      have g1 : (z == 11) = false := by simp [isF] at hF; simp [hF.1]
      have g2 : (z == 28) = false := by simp [isF] at hF; simp [hF.2]
      obtain ⟨a2, n2, c2, w2, e2, r2, o2⟩ := run_push1 HI.out.2 HI.out.1.size (by simp; omega) z
      have HK : Hid (Below w.heap.size w w2 ∧ Row w2 w.heap.size (.slice a2 n2 c2) ([11] ++ bs.take (i + 1))) := by
        refine ⟨HI.out.1.trans o2, ?_⟩
        rw [← take_next (by omega), hz, ← List.append_assoc]
        exact r2
      clear hF hz r2 o2 HI hbl
      go_wp2_with (at_builtin; refine wpList_append_run rfl (.tmp 33) (.tmp 38) 22 _ rfl e2 ?_)
      go_roundw
      case rel => exact ⟨i + 1, hlt, by go_num, a2, n2, c2, rfl, HK⟩
      case measure => simp [intOf]; omega
    · have hlt1 : ¬ (i : Int) < m := by omega
      have b2 : Byts (wr.alloc (.cells #[.int .u8 28, .int .u8 13] 5)) (some ⟨wr.heap.size, 0, none⟩) 2 [28, 13] := ⟨rfl, fun j hj => ⟨_, _, rfl, by simp, by
        rcases Nat.lt_or_ge j 1 with q | q
        · obtain rfl : j = 0 := by omega
          simp
        · obtain rfl : j = 1 := by omega
          simp⟩⟩
      have hal : Below wr.heap.size wr (wr.alloc (.cells #[.int .u8 28, .int .u8 13] 5)) := (Below.refl _ _).alloc (Nat.le_refl _) _
      have hrow : Row (wr.alloc (.cells #[.int .u8 28, .int .u8 13] 5)) w.heap.size (.slice a n c') ([11] ++ bs.take i) := HI.out.2.keep (fun g e => hal.block g (HI.out.2.lt e).2)
      obtain ⟨a2, n2, c2, w2, e2, r2, o2⟩ := run_append_sl (c := 2) hrow b2 (fun e => by cases e) (by simp; omega) (by have := HI.out.1.size; simp; omega) (fun k e => (hrow.lt e).1)
      rw [List.take_of_length_le (by omega)] at r2
      have HK : Hid (Row w2 w.heap.size (.slice a2 n2 c2) ([11] ++ bs ++ [28, 13]) ∧ Below w.heap.size w w2) := ⟨r2, HI.out.1.trans ((hal.mono HI.out.1.size).trans o2)⟩
      clear b2 hal hrow r2 o2 HI hbl
      go_wp2_with (at_builtin; refine wpList_append_run rfl (.tmp 40) (.tmp 41) 22 _ rfl e2 ?_)
      refine bodyPost_ret (v := .tuple #[.slice a2 n2 c2, .int .i64 0, .int .i64 0]) (by simp [results, Tryd.results7, go_sem]) rfl ⟨a2, n2, c2, rfl, HK.out⟩
end Go.Proofs.YtommpallecaadaaDoor
