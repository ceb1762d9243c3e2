import Derived.Test.YtoijhecphgdfnaaDoorDkMem
/-
  couriermem: Hand, Kept: lists that are handed in, with marks in the room behind them.
-/
namespace Go.Proofs.YtoijhecphgdfnaaDoor.Bo
open Go.RowKit

theorem u8s_set (xs : List Int) (j : Nat) (z : Int) : u8s (xs.set j z) = (u8s xs).set j (.int .u8 z) := by simp [u8s, List.map_set]
theorem Row.stored {w : World} {B g n cap : Nat} {xs : List Int} (h : Row w B (.slice (some ⟨g, 0, none⟩) n cap) xs) (j : Nat) (z : Int) : Row (w.setCell ⟨g, j, none⟩ (.int .u8 z)) B (.slice (some ⟨g, 0, none⟩) n cap) (xs.set j z) := by
  obtain ⟨rfl, _⟩ := h.cell
  have := (World.ownsRow.stored h j (.int .u8 z)).1
  unfold Row
  rw [List.length_set, u8s_set]
  exact this
theorem Row.slot {w : World} {B g n cap : Nat} {xs : List Int} (h : Row w B (.slice (some ⟨g, 0, none⟩) n cap) xs) {j : Nat} (hj : j < xs.length) : w.cell? ⟨g, j, none⟩ = some (.int .u8 (xs.getD j 0)) := h.cell.2 j hj
theorem Row.thaw {w : World} {B g n cap : Nat} {xs : List Int} (h : Row w B (.slice (some ⟨g, 0, none⟩) n cap) xs) (j : Nat) : w.frozen? ⟨g, j, none⟩ = false := by
  rcases h.2 with ⟨h0, _⟩ | ⟨g', cap', cur, e, hB, hg, _⟩
  · cases h0
  · simp only [Value.slice.injEq, Option.some.injEq, Addr.mk.injEq, and_true] at e
    obtain ⟨rfl, _, _⟩ := e
    simp [World.frozen?, hg]
theorem Row.prefix {w : World} {B g n cap m : Nat} {xs : List Int} (h : Row w B (.slice (some ⟨g, 0, none⟩) n cap) xs) (hm : m ≤ n) : Row w B (.slice (some ⟨g, 0, none⟩) m cap) (xs.take m) := by
  obtain ⟨hn, _⟩ := h.cell
  rcases h.2 with ⟨h0, _⟩ | ⟨g', cap', cur, e, hB, hg, hc, hM, hs, ht⟩
  · cases h0
  · simp only [Value.slice.injEq, Option.some.injEq, Addr.mk.injEq, and_true] at e
    obtain ⟨rfl, hnn, rfl⟩ := e
    have hl : (xs.take m).length = m := by rw [List.length_take]; omega
    refine ⟨by rw [u8s_length]; omega, Or.inr ⟨g, cap, cur, by rw [hl], hB, hg, by omega, hM, hs, ?_⟩⟩
    rw [hl, u8s_take, ← ht, List.take_take]
    congr 1
    omega
def marks : List Int := (List.range 90).map fun i : Nat => (100 : Int) + (i : Int)
theorem marks_at (i : Nat) (h : i < 90) : marks.getD i 0 = 100 + (i : Int) := by
  unfold marks
  rw [List.getD_eq_getElem?_getD, List.getElem?_map, List.getElem?_range h]
  rfl
theorem set_next (xs : List Int) (k : Nat) (v : Int) (h : 0 < k) : (xs ++ List.replicate k 0).set xs.length v = (xs ++ [v]) ++ List.replicate (k - 1) 0 := by
  obtain ⟨k, rfl⟩ : ∃ j, k = j + 1 := ⟨k - 1, by omega⟩
  rw [List.set_append_right _ _ (Nat.le_refl _), Nat.sub_self, List.replicate_succ, List.set_cons_zero]
  simp
theorem run_make_bytes {w : World} (n : Nat) (hn : n ≤ 140737488355328) : ∃ w', (Instr.makeSlice 44 (.int .i64 (n : Int)) (.int .i64 (n : Int))).run Tryd.prog w = .ok (.slice (some ⟨w.heap.size, 0, none⟩) n n) w' ∧ Row w' w.heap.size (.slice (some ⟨w.heap.size, 0, none⟩) n n) (List.replicate n 0) ∧ Below w.heap.size w w' := by
  obtain ⟨i, hi, hz, hs, hby⟩ := u8info
  obtain ⟨w', h1, h2, h3⟩ := run_make_full (P := Tryd.prog) w w.heap.size 44 5 i _ 1 Tryd.underlying44 hi hz hs .i64 .i64 n (by rw [hby]; omega) (by unfold maxLen; omega) (Nat.le_refl _)
  refine ⟨w', h1, ?_, ?_⟩
  · unfold Row
    rw [List.length_replicate]
    have e : (madeCells (Value.int .u8 0).cells (n * 1)).toList = u8s (List.replicate n 0) := by
      rw [Nat.mul_one, show (Value.int .u8 0).cells = #[Value.int .u8 0] from rfl, toList_madeCells_one]
      simp [u8s]
    rw [← e]
    exact h2
  · exact (Off.of_grown h3).below (Nat.le_refl _) (fun k e => by cases e)
theorem take_next {bs : List Int} {i : Nat} (h : i < bs.length) : bs.take i ++ [bs.getD i 0] = bs.take (i + 1) := by
  rw [List.take_succ_eq_append_getElem h, List.getD_eq_getElem?_getD, List.getElem?_eq_getElem h]
  rfl
set_option maxRecDepth 100000 in
set_option maxHeartbeats 2000000 in
theorem Hand_any {po : Option Addr} {m c : Nat} {bs : List Int} (w : World) (hb : Byts w po m bs) (hm : m + 90 ≤ 140737488355328) : Calls Tryd.prog 7 #[.slice po m c] w fun e w' => e = .returned (.slice (some ⟨w.heap.size, 0, none⟩) m (m + 90)) ∧ Row w' w.heap.size (.slice (some ⟨w.heap.size, 0, none⟩) (m + 90) (m + 90)) (bs ++ marks) ∧ Below w.heap.size w w' := by
  have HB : Hid (Byts w po m bs) := hb
  have HL : Hid (bs.length = m) := hb.len
  clear hb
  obtain ⟨w1, hmk, hR, hB1⟩ := run_make_bytes (w := w) (m + 90) (by omega)
  have hmk2 : (Instr.makeSlice 44 (.int .i64 ((m : Int) + 90)) (.int .i64 ((m : Int) + 90))).run Tryd.prog w = .ok (.slice (some ⟨w.heap.size, 0, none⟩) (m + 90) (m + 90)) w1 := hmk
  have HR : Hid (Row w1 w.heap.size (.slice (some ⟨w.heap.size, 0, none⟩) (m + 90) (m + 90)) (List.replicate (m + 90) 0) ∧ Below w.heap.size w w1) := ⟨hR, hB1⟩
  clear hmk hR hB1
  go_enter Tryd.func7, Tryd.ntmps7
  go_wp2_with fail
  clear hmk2
  go_loopw [4] (fun ti wx => ∃ i : Nat, i ≤ m ∧ ti = .int .i64 i ∧ Hid (Row wx w.heap.size (.slice (some ⟨w.heap.size, 0, none⟩) (m + 90) (m + 90)) (bs.take i ++ List.replicate (m + 90 - i) 0) ∧ Below w.heap.size w wx)) (fun ti _ => m - (intOf ti).toNat)
  case atStart => exact ⟨0, Nat.zero_le _, rfl, HR⟩
  case round =>
    obtain ⟨i, hi, rfl, HI⟩ := hrel
    by_cases hlt : i < m
    · have hlt1 : (i : Int) < m := by omega
      obtain ⟨b, o, hpo, _, hcell⟩ := (HB.out.below HI.out.2).cell i (by have := HL.out; omega)
      subst hpo
      have k1 : wr.cell? ⟨w.heap.size, i, none⟩ = some (.int .u8 ((bs.take i ++ List.replicate (m + 90 - i) 0).getD i 0)) := HI.out.1.slot (by simp; have := HL.out; omega)
      have k2 := HI.out.1.thaw i
      go_wp2_with fail
      go_roundw
      case rel =>
        refine ⟨i + 1, hlt, by go_num, ?_, HI.out.2.setCell (Nat.le_refl _) _⟩
        have hs := HI.out.1.stored i (bs.getD i 0)
        have e := set_next (bs.take i) (m + 90 - i) (bs.getD i 0) (by omega)
        rw [show (bs.take i).length = i by rw [List.length_take]; have := HL.out; omega, take_next (by have := HL.out; omega)] at e
        rw [e, show m + 90 - i - 1 = m + 90 - (i + 1) by omega] at hs
        exact hs
      case measure => simp [intOf]; omega
    · have hlt1 : ¬ (i : Int) < m := by omega
      obtain rfl : i = m := by omega
      have HI2 : Hid (Row wr w.heap.size (.slice (some ⟨w.heap.size, 0, none⟩) (i + 90) (i + 90)) (bs ++ (marks.take 0 ++ List.replicate (90 - 0) 0)) ∧ Below w.heap.size w wr) := by
        refine ⟨?_, HI.out.2⟩
        have h1 := HI.out.1
        rw [List.take_of_length_le (by have := HL.out; omega), show i + 90 - i = 90 by omega] at h1
        exact h1
      clear HI
      go_wp2_with fail
      go_loopw [5] (fun ti wx => ∃ j : Nat, j ≤ 90 ∧ ti = .int .i64 j ∧ Hid (Row wx w.heap.size (.slice (some ⟨w.heap.size, 0, none⟩) (i + 90) (i + 90)) (bs ++ (marks.take j ++ List.replicate (90 - j) 0)) ∧ Below w.heap.size w wx)) (fun ti _ => 90 - (intOf ti).toNat)
      case atStart => exact ⟨0, by omega, rfl, HI2⟩
      case round =>
        obtain ⟨j, hj, rfl, HJ⟩ := hrel
        by_cases hlt2 : j < 90
        · have hlt3 : (j : Int) < 90 := by omega
          have hll : bs.length = i := HL.out
          have k1 : wr.cell? ⟨w.heap.size, i + j, none⟩ = some (.int .u8 ((bs ++ (marks.take j ++ List.replicate (90 - j) 0)).getD (i + j) 0)) := HJ.out.1.slot (by simp [marks]; omega)
          have k2 := HJ.out.1.thaw (i + j)
          go_wp2_with fail
          go_roundw
          case rel =>
            refine ⟨j + 1, hlt2, by go_num, ?_, HJ.out.2.setCell (Nat.le_refl _) _⟩
            have hs := HJ.out.1.stored (i + j) (100 + (j : Int))
            have e := set_next (bs ++ marks.take j) (90 - j) (100 + (j : Int)) (by omega)
            have hml : marks.length = 90 := by simp [marks]
            rw [show (bs ++ marks.take j).length = i + j by rw [List.length_append, List.length_take]; omega] at e
            rw [List.append_assoc, List.append_assoc, List.append_assoc, ← marks_at j hlt2, ← List.append_assoc (marks.take j), take_next (by omega)] at e
            rw [← marks_at j hlt2, e, show 90 - j - 1 = 90 - (j + 1) by omega] at hs
            rw [← marks_at j hlt2]
            exact hs
          case measure => simp [intOf]; omega
        · have hlt3 : ¬ (j : Int) < 90 := by omega
          obtain rfl : j = 90 := by omega
          go_wp2_with fail
          go_ret
          refine ⟨rfl, ?_, HJ.out.2⟩
          have h1 := HJ.out.1
          have hml : marks.length = 90 := by simp [marks]
          rw [List.take_of_length_le (by omega), Nat.sub_self, List.replicate_zero, List.append_nil] at h1
          exact h1
end Go.Proofs.YtoijhecphgdfnaaDoor.Bo

/-
  couriermem.Kept; disk.From, Disk.Read.
-/
namespace Go.Proofs.YtoijhecphgdfnaaDoor.Bo
open Go.RowKit

theorem Row.bytes {w : World} {B g n cap : Nat} {xs : List Int} (h : Row w B (.slice (some ⟨g, 0, none⟩) n cap) xs) : Byts w (some ⟨g, 0, none⟩) n xs := by
  obtain ⟨hn, hc⟩ := h.cell
  refine ⟨hn.symm, fun j hj => ⟨g, 0, rfl, (h.lt (g := g) rfl).2, ?_⟩⟩
  rw [Nat.zero_add]
  exact hc j (by omega)
theorem marked_at {bs : List Int} {m j : Nat} (hm : bs.length = m) (hj : j < 90) : (bs ++ marks).getD (m + j) 0 = 100 + (j : Int) := by
  rw [List.getD_eq_getElem?_getD, List.getElem?_append_right (by omega), hm, Nat.add_sub_cancel_left, ← List.getD_eq_getElem?_getD, marks_at j hj]
set_option maxRecDepth 100000 in
set_option maxHeartbeats 2000000 in
theorem Kept_true {po : Option Addr} {B g m c : Nat} {bs : List Int} (w : World) (hR : Row w B (.slice (some ⟨g, 0, none⟩) (m + 90) (m + 90)) (bs ++ marks)) (hb : Byts w po m bs) (hm : m + 90 ≤ 140737488355328) : Calls Tryd.prog 11 #[.slice (some ⟨g, 0, none⟩) m (m + 90), .slice po m c] w fun e w' => e = .returned (.bool true) ∧ ∃ k, w' = w.drewN k := by
  have HR : Hid (Row w B (.slice (some ⟨g, 0, none⟩) (m + 90) (m + 90)) (bs ++ marks)) := hR
  have HB : Hid (Byts w po m bs) := hb
  have HL : Hid (bs.length = m) := hb.len
  clear hR hb
  go_enter Tryd.func11, Tryd.ntmps11
  go_wp2_with fail
  go_loopw [6] (fun ti wx => ∃ j : Nat, j ≤ 90 ∧ ti = .int .i64 j ∧ ∃ k, wx = w.drewN k) (fun ti _ => 90 - (intOf ti).toNat)
  case atStart => exact ⟨0, by omega, rfl, 0, rfl⟩
  case round =>
    obtain ⟨j, hj, rfl, k, rfl⟩ := hrel
    by_cases hlt : j < 90
    · have hlt1 : (j : Int) < 90 := by omega
      have k1 : w.cell? ⟨g, m + j, none⟩ = some (.int .u8 (100 + (j : Int))) := by
        have h := HR.out.slot (j := m + j) (by simp [marks]; have := HL.out; omega)
        rw [marked_at HL.out hlt] at h
        exact h
      go_wp2_with fail
      go_roundw
      case rel => exact ⟨j + 1, hlt, by go_num, _, by first | rfl | exact World.drewN_drew _ _⟩
      case measure => simp [intOf]; omega
    · have hlt1 : ¬ (j : Int) < 90 := by omega
      go_wp2_with fail
      have hp := (HR.out.prefix (m := m) (by omega)).bytes
      rw [List.take_left' HL.out] at hp
      refine (same_true (hp.drew k) (HB.out.drew k) (by omega)).mono ?_
      rintro e w1 ⟨rfl, k2, rfl⟩
      go_wp2_with fail
      go_ret
      exact ⟨rfl, k + k2, by simp⟩
section
variable {w0 w : World} {B K : Nat} {v0 v1 : Value} {x0 x1 : List Int} {s0 s1 : Nat} {st fu na ns nc : Int} {po : Option Addr} {m c : Nat} {bs : List Int}
end
end Go.Proofs.YtoijhecphgdfnaaDoor.Bo
