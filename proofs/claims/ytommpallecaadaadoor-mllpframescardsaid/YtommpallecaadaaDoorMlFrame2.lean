/-
  mllp.Frame, and the document's.
-/
import Derived.Test.YtommpallecaadaaDoorMlConcat
namespace Go.Proofs.YtommpallecaadaaDoor
open Go.RowKit

/-- The payloads that are refused: the place, the number. -/
inductive FErr (bs : List Int) (m : Nat) : Int → Int → Prop
  | form (h : m = 0) : FErr bs m 0 10
  | long (h : 8192 < m) : FErr bs m 0 4
  | bad (k : Nat) (h0 : m ≤ 8192) (hk : k < m) (hy : isF (bs.getD k 0) = true) (hn : ∀ j, j < k → isF (bs.getD j 0) = false) : FErr bs m (k : Int) 80
structure FOk (bs : List Int) (m : Nat) : Prop where
  h0 : 0 < m
  h1 : m ≤ 8192
  hn : ∀ j, j < m → isF (bs.getD j 0) = false
theorem first_bad (bs : List Int) : ∀ m, (∀ j, j < m → isF (bs.getD j 0) = false) ∨ ∃ k, k < m ∧ isF (bs.getD k 0) = true ∧ ∀ j, j < k → isF (bs.getD j 0) = false
  | 0 => Or.inl fun j h => absurd h (by omega)
  | m + 1 => by
    rcases first_bad bs m with h | ⟨k, hk, h1, h2⟩
    · by_cases hy : isF (bs.getD m 0) = true
      · exact Or.inr ⟨m, by omega, hy, h⟩
      · refine Or.inl fun j hj => ?_
        rcases Nat.lt_or_ge j m with q | q
        · exact h j q
        · obtain rfl : j = m := by omega
          simpa using hy
    · exact Or.inr ⟨k, by omega, h1, h2⟩
theorem frame_cases (bs : List Int) (m : Nat) : FOk bs m ∨ ∃ a c, FErr bs m a c := by
  by_cases h0 : m = 0
  · exact Or.inr ⟨_, _, .form h0⟩
  · by_cases h1 : 8192 < m
    · exact Or.inr ⟨_, _, .long h1⟩
    · rcases first_bad bs m with h | ⟨k, hk, hy, hn⟩
      · exact Or.inl ⟨by omega, by omega, h⟩
      · exact Or.inr ⟨_, _, .bad k (by omega) hk hy hn⟩
theorem FErr.nz {bs : List Int} {m : Nat} {a c : Int} (h : FErr bs m a c) : (c == 0) = false := by cases h <;> rfl
set_option maxRecDepth 100000 in
set_option maxHeartbeats 2000000 in
theorem Frame_err {w : World} {po : Option Addr} {m c : Nat} {bs : List Int} {at_ code : Int} (hb : Byts w po m bs) (hm : m + 90 ≤ 140737488355328) (h : FErr bs m at_ code) :
    Calls Tryd.prog 6 #[.slice po m c] w fun e w' => e = .returned (.tuple #[.slice none 0 0, .iface 63 (.pointer (some ⟨w.heap.size, 0, none⟩))]) ∧ MFault w' w.heap.size at_ code ∧ Below w.heap.size w w' := by
  have HB : Hid (Byts w po m bs) := hb
  clear hb
  cases h with
  | form h0 =>
    subst h0
    go_enter Tryd.func6, Tryd.ntmps6
    go_wp2_with fail
    refine (mfault_any _ _ _).mono ?_
    rintro e w1 ⟨rfl, hf, hbl⟩
    have HF : Hid (MFault w1 w.heap.size 0 10 ∧ Below w.heap.size w w1) := ⟨hf, hbl⟩
    clear hf hbl
    go_wp2_with fail
    refine bodyPost_ret (v := .tuple #[.slice none 0 0, .iface 63 (.pointer (some ⟨w.heap.size, 0, none⟩))]) (by simp [results, Tryd.results6, go_sem]) rfl ⟨rfl, HF.out⟩
  | long h1 =>
    have h2 : (8192 : Int) < m := by omega
    have h3 : ((m : Int) == 0) = false := by simp; omega
    have h4 : m ≠ 0 := by omega
    go_enter Tryd.func6, Tryd.ntmps6
    go_wp2_with fail
    refine (mfault_any _ _ _).mono ?_
    rintro e w1 ⟨rfl, hf, hbl⟩
    have HF : Hid (MFault w1 w.heap.size 0 4 ∧ Below w.heap.size w w1) := ⟨hf, hbl⟩
    clear hf hbl
    go_wp2_with fail
    refine bodyPost_ret (v := .tuple #[.slice none 0 0, .iface 63 (.pointer (some ⟨w.heap.size, 0, none⟩))]) (by simp [results, Tryd.results6, go_sem]) rfl ⟨rfl, HF.out⟩
  | bad k h0 hk hy hn =>
    have h2 : ¬ (8192 : Int) < m := by omega
    have h3 : ((m : Int) == 0) = false := by simp; omega
    have h4 : m ≠ 0 := by omega
    have HY : Hid (isF (bs.getD k 0) = true ∧ ∀ j, j < k → isF (bs.getD j 0) = false) := ⟨hy, hn⟩
    clear hy hn
    go_enter Tryd.func6, Tryd.ntmps6
    go_wp2_with fail
    refine (index_at HB.out hm hk HY.out.1 HY.out.2).mono ?_
    rintro e w0 ⟨rfl, hw0⟩
    rw [hw0]
    clear hw0 w0
    go_wp2_with fail
    refine (mfault_any _ _ _).mono ?_
    rintro e w1 ⟨rfl, hf, hbl⟩
    have HF : Hid (MFault w1 w.heap.size (k : Int) 80 ∧ Below w.heap.size w w1) := ⟨hf, hbl⟩
    clear hf hbl
    go_wp2_with fail
    refine bodyPost_ret (v := .tuple #[.slice none 0 0, .iface 63 (.pointer (some ⟨w.heap.size, 0, none⟩))]) (by simp [results, Tryd.results6, go_sem]) rfl ⟨rfl, HF.out⟩
set_option maxRecDepth 100000 in
set_option maxHeartbeats 2000000 in
theorem Frame_ok {w : World} {po : Option Addr} {m c : Nat} {bs : List Int} (hb : Byts w po m bs) (h : FOk bs m) :
    Calls Tryd.prog 6 #[.slice po m c] w fun e w' => ∃ a n c', e = .returned (.tuple #[.slice a n c', .nilIface]) ∧ Row w' w.heap.size (.slice a n c') ([11] ++ bs ++ [28, 13]) ∧ Below w.heap.size w w' := by
  obtain ⟨h0, h1, hn⟩ := h
  have HB : Hid (Byts w po m bs) := hb
  have HN : Hid (∀ j, j < m → isF (bs.getD j 0) = false) := hn
  have hpo : po = none → c = 0 := fun e => by
    obtain ⟨b, o, e2, _⟩ := hb.cell 0 h0
    rw [e] at e2; cases e2
  have HP : Hid (po = none → c = 0) := hpo
  clear hb hn hpo
  have h2 : ¬ (8192 : Int) < m := by omega
  have h3 : ((m : Int) == 0) = false := by simp; omega
  have h4 : m ≠ 0 := by omega
  go_enter Tryd.func6, Tryd.ntmps6
  go_wp2_with fail
  refine (index_none HB.out (by omega) HN.out).mono ?_
  rintro e w0 ⟨rfl, hw0⟩
  rw [hw0]
  clear hw0 w0
  go_wp2_with fail
  obtain ⟨w2, hw2⟩ : ∃ x, ((w.alloc (.cells #[.int .u8 11] 5)).alloc (.cells #[.int .u8 28, .int .u8 13] 5)).alloc (.cells #[.slice (some ⟨w.heap.size, 0, none⟩) 1 1, .slice po m c, .slice (some ⟨w.heap.size + 1, 0, none⟩) 2 2] 22) = x := ⟨_, rfl⟩
  rw [hw2]
  have hbl : Below w.heap.size w w2 := by
    rw [← hw2]
    exact (((Below.refl _ _).alloc (Nat.le_refl _) _).alloc (by simp) _).alloc (by simp; omega) _
  have k0 : w2.cell? ⟨w.heap.size + 1 + 1, 0, none⟩ = some (.slice (some ⟨w.heap.size, 0, none⟩) 1 1) := by rw [← hw2, World.cell?_alloc_at _ _ _ _ (by simp)]; rfl
  have k1 : w2.cell? ⟨w.heap.size + 1 + 1, 1, none⟩ = some (.slice po m c) := by rw [← hw2, World.cell?_alloc_at _ _ _ _ (by simp)]; rfl
  have k2 : w2.cell? ⟨w.heap.size + 1 + 1, 2, none⟩ = some (.slice (some ⟨w.heap.size + 1, 0, none⟩) 2 2) := by rw [← hw2, World.cell?_alloc_at _ _ _ _ (by simp)]; rfl
  have b0 : Byts w2 (some ⟨w.heap.size, 0, none⟩) 1 [11] := by
    refine ⟨rfl, fun j hj => ⟨_, _, rfl, by rw [← hw2]; simp; omega, ?_⟩⟩
    obtain rfl : j = 0 := by omega
    rw [← hw2, World.cell?_alloc_lt _ _ ⟨w.heap.size, 0 + 0, none⟩ (by simp; omega), World.cell?_alloc_lt _ _ ⟨w.heap.size, 0 + 0, none⟩ (by simp), World.cell?_alloc_at _ _ _ _ (by simp)]; rfl
  have b2 : Byts w2 (some ⟨w.heap.size + 1, 0, none⟩) 2 [28, 13] := ⟨rfl, fun j hj => ⟨_, _, rfl, by rw [← hw2]; simp, by
    rw [← hw2]
    rcases Nat.lt_or_ge j 1 with q | q
    · obtain rfl : j = 0 := by omega
      rw [World.cell?_alloc_lt _ _ ⟨w.heap.size + 1, 0 + 0, none⟩ (by simp), World.cell?_alloc_at _ _ _ _ (by simp)]; rfl
    · obtain rfl : j = 1 := by omega
      rw [World.cell?_alloc_lt _ _ ⟨w.heap.size + 1, 0 + 1, none⟩ (by simp), World.cell?_alloc_at _ _ _ _ (by simp)]; rfl⟩⟩
  have hsz : w.heap.size + 1 + 1 < w2.heap.size := by rw [← hw2]; simp
  refine (Concat3 k0 k1 k2 hsz b0 (HB.out.below hbl) b2 (fun e => by cases e) HP.out (fun e => by cases e) (by decide) (by decide) (by omega) (by decide)).mono ?_
  rintro e w3 ⟨a, n, c3, rfl, r3, o3⟩
  have HR : Hid (Row w3 w.heap.size (.slice a n c3) ([11] ++ bs ++ [28, 13]) ∧ Below w.heap.size w w3) := ⟨r3.low hbl.size, hbl.trans (o3.mono hbl.size)⟩
  clear r3 o3 b0 b2 k0 k1 k2 hbl hsz hw2
  go_wp2_with fail
  refine bodyPost_ret (v := .tuple #[.slice a n c3, .nilIface]) (by simp [results, Tryd.results6, go_sem]) rfl ⟨a, n, c3, rfl, HR.out⟩
end Go.Proofs.YtommpallecaadaaDoor
