/-
  couriermem.Hand; the law's handed, same, sameList, within.
-/
import Derived.Test.YtplhdgijjckjcaaGreatDoorIbTexts
namespace Go.Proofs.YtplhdgijjckjcaaGreatDoor
open Go.RowKit

section
variable {w : World} {B g n cap : Nat} {xs : List Int}
theorem BRow.slot (h : BRow w B (.slice (some ⟨g, 0, none⟩) n cap) xs) {j : Nat} (hj : j < xs.length) : w.cell? ⟨g, j, none⟩ = some (.int .u8 (xs.getD j 0)) := by
  have hn := ERow.len h
  obtain ⟨b, o, e, _, hc⟩ := h.byts.cell j (by omega)
  simp only [Option.some.injEq, Addr.mk.injEq, and_true] at e
  obtain ⟨rfl, rfl⟩ := e
  rwa [Nat.zero_add] at hc
theorem BRow.thaw (h : BRow w B (.slice (some ⟨g, 0, none⟩) n cap) xs) (j : Nat) : w.frozen? ⟨g, j, none⟩ = false := ERow.thaw h j
theorem BRow.stored (h : BRow w B (.slice (some ⟨g, 0, none⟩) n cap) xs) (j : Nat) (z : Int) (hj : j < xs.length) : BRow (w.setCell ⟨g, j, none⟩ (.int .u8 z)) B (.slice (some ⟨g, 0, none⟩) n cap) (xs.set j z) := by
  have := erow_set encB_len h z hj
  rw [Nat.mul_one] at this
  exact this
theorem BRow.prefix {m : Nat} (h : BRow w B (.slice (some ⟨g, 0, none⟩) n cap) xs) (hm : m ≤ n) : BRow w B (.slice (some ⟨g, 0, none⟩) m cap) (xs.take m) := by
  have hn := ERow.len h
  have h' : w.ownsRow B 5 1 (.slice (some ⟨g, 0, none⟩) n cap) n (xs.flatMap encB) := by
    have := h
    unfold BRow ERow at this
    rw [← hn] at this
    exact this
  have := own_prefix h' hm
  unfold BRow ERow
  rw [List.length_take, Nat.min_eq_left (by omega)]
  have e : (xs.flatMap encB).take (m * 1) = (xs.take m).flatMap encB := by
    have key : ∀ (ys : List Int), ys.flatMap encB = ys.map (Value.int .u8) := fun ys => by
      induction ys with
      | nil => rfl
      | cons y r ih => rw [List.flatMap_cons, ih]; rfl
    rw [key, key, Nat.mul_one, List.map_take]
  rw [← e]
  exact this
end
def marks : List Int := (List.range 90).map fun i : Nat => (100 : Int) + (i : Int)
theorem marks_at (i : Nat) (h : i < 90) : marks.getD i 0 = 100 + (i : Int) := by
  unfold marks
  rw [List.getD_eq_getElem?_getD, List.getElem?_map, List.getElem?_range h]
  rfl
theorem set_next (xs : List Int) (k : Nat) (v : Int) (h : 0 < k) : (xs ++ List.replicate k 0).set xs.length v = (xs ++ [v]) ++ List.replicate (k - 1) 0 := by
  obtain ⟨k, rfl⟩ : ∃ j, k = j + 1 := ⟨k - 1, by omega⟩
  rw [List.set_append_right _ _ (Nat.le_refl _), Nat.sub_self, List.replicate_succ, List.set_cons_zero]
  simp
theorem run_make_bytes {w : World} (n : Nat) (hn : n ≤ 140737488355328) : ∃ w', (Instr.makeSlice 27 (.int .i64 (n : Int)) (.int .i64 (n : Int))).run Tryz.prog w = .ok (.slice (some ⟨w.heap.size, 0, none⟩) n n) w' ∧ BRow w' w.heap.size (.slice (some ⟨w.heap.size, 0, none⟩) n n) (List.replicate n 0) ∧ Below w.heap.size w w' := by
  have h : (Tryz.prog.info? 5).map (fun i => (i.zero, i.size, i.bytes)) = some (some (.int .u8 0), 1, 1) := by kernel_rfl
  obtain ⟨i, hi, e⟩ := Option.map_eq_some_iff.1 h
  simp only [Prod.mk.injEq] at e
  obtain ⟨hz, hs, hby⟩ := e
  obtain ⟨w', h1, h2, h3⟩ := run_make_full (P := Tryz.prog) w w.heap.size 27 5 i _ 1 Tryz.underlying27 hi hz hs .i64 .i64 n (by rw [hby]; omega) (by unfold maxLen; omega) (Nat.le_refl _)
  refine ⟨w', h1, ?_, (Off.of_grown h3).below (Nat.le_refl _) (fun k e => by cases e)⟩
  unfold BRow ERow
  rw [List.length_replicate]
  have e : (madeCells (Value.int .u8 0).cells (n * 1)).toList = (List.replicate n (0 : Int)).flatMap encB := made_flat encB_len (by decide) 0 n
  rw [← e]
  exact h2
theorem take_next {bs : List Int} {i : Nat} (h : i < bs.length) : bs.take i ++ [bs.getD i 0] = bs.take (i + 1) := by
  rw [List.take_succ_eq_append_getElem h, List.getD_eq_getElem?_getD, List.getElem?_eq_getElem h]
  rfl
set_option maxRecDepth 100000 in
set_option maxHeartbeats 2000000 in
theorem Hand_any {po : Option Addr} {m c : Nat} {bs : List Int} (w : World) (hb : Byts w po m bs) (hm : m + 90 ≤ 140737488355328) : Calls Tryz.prog 25 #[.slice po m c] w fun e w' => e = .returned (.slice (some ⟨w.heap.size, 0, none⟩) m (m + 90)) ∧ BRow w' w.heap.size (.slice (some ⟨w.heap.size, 0, none⟩) (m + 90) (m + 90)) (bs ++ marks) ∧ Below w.heap.size w w' := by
  have HB : Hid (Byts w po m bs) := hb
  have HL : Hid (bs.length = m) := hb.len
  clear hb
  obtain ⟨w1, hmk, hR, hB1⟩ := run_make_bytes (w := w) (m + 90) (by omega)
  have hmk2 : (Instr.makeSlice 27 (.int .i64 ((m : Int) + 90)) (.int .i64 ((m : Int) + 90))).run Tryz.prog w = .ok (.slice (some ⟨w.heap.size, 0, none⟩) (m + 90) (m + 90)) w1 := hmk
  have HR : Hid (BRow w1 w.heap.size (.slice (some ⟨w.heap.size, 0, none⟩) (m + 90) (m + 90)) (List.replicate (m + 90) 0) ∧ Below w.heap.size w w1) := ⟨hR, hB1⟩
  clear hmk hR hB1
  go_enter Tryz.func25, Tryz.ntmps25
  go_wp2_with fail
  clear hmk2
  go_loopw [4] (fun ti wx => ∃ i : Nat, i ≤ m ∧ ti = .int .i64 i ∧ Hid (BRow wx w.heap.size (.slice (some ⟨w.heap.size, 0, none⟩) (m + 90) (m + 90)) (bs.take i ++ List.replicate (m + 90 - i) 0) ∧ Below w.heap.size w wx)) (fun ti _ => m - (intOf ti).toNat)
  case atStart => exact ⟨0, Nat.zero_le _, rfl, HR⟩
  case round =>
    obtain ⟨i, hi, rfl, HI⟩ := hrel
    by_cases hlt : i < m
    · have hlt1 : (i : Int) < m := by omega
      obtain ⟨b, o, hpo, _, hcell⟩ := (HB.out.below HI.out.2).cell i (by have := HL.out; omega)
      subst hpo
      have k1 : wr.cell? ⟨w.heap.size, i, none⟩ = some (.int .u8 ((bs.take i ++ List.replicate (m + 90 - i) 0).getD i 0)) := HI.out.1.slot (by simp; have := HL.out; omega)
      have k2 := HI.out.1.thaw i
      go_wp2_with fail
      go_roundw
      case rel =>
        refine ⟨i + 1, hlt, by go_num, ?_, HI.out.2.setCell (Nat.le_refl _) _⟩
        have hs := HI.out.1.stored i (bs.getD i 0) (by simp; have := HL.out; omega)
        have e := set_next (bs.take i) (m + 90 - i) (bs.getD i 0) (by omega)
        rw [show (bs.take i).length = i by rw [List.length_take]; have := HL.out; omega, take_next (by have := HL.out; omega)] at e
        rw [e, show m + 90 - i - 1 = m + 90 - (i + 1) by omega] at hs
        exact hs
      case measure => simp [intOf]; omega
    · have hlt1 : ¬ (i : Int) < m := by omega
      obtain rfl : i = m := by omega
      have HI2 : Hid (BRow wr w.heap.size (.slice (some ⟨w.heap.size, 0, none⟩) (i + 90) (i + 90)) (bs ++ (marks.take 0 ++ List.replicate (90 - 0) 0)) ∧ Below w.heap.size w wr) := by
        refine ⟨?_, HI.out.2⟩
        have h1 := HI.out.1
        rw [List.take_of_length_le (by have := HL.out; omega), show i + 90 - i = 90 by omega] at h1
        exact h1
      clear HI
      go_wp2_with fail
      go_loopw [5] (fun ti wx => ∃ j : Nat, j ≤ 90 ∧ ti = .int .i64 j ∧ Hid (BRow wx w.heap.size (.slice (some ⟨w.heap.size, 0, none⟩) (i + 90) (i + 90)) (bs ++ (marks.take j ++ List.replicate (90 - j) 0)) ∧ Below w.heap.size w wx)) (fun ti _ => 90 - (intOf ti).toNat)
      case atStart => exact ⟨0, by omega, rfl, HI2⟩
      case round =>
        obtain ⟨j, hj, rfl, HJ⟩ := hrel
        by_cases hlt2 : j < 90
        · have hlt3 : (j : Int) < 90 := by omega
          have hll : bs.length = i := HL.out
          have k1 : wr.cell? ⟨w.heap.size, i + j, none⟩ = some (.int .u8 ((bs ++ (marks.take j ++ List.replicate (90 - j) 0)).getD (i + j) 0)) := HJ.out.1.slot (by simp [marks]; omega)
          have k2 := HJ.out.1.thaw (i + j)
          go_wp2_with fail
          go_roundw
          case rel =>
            refine ⟨j + 1, hlt2, by go_num, ?_, HJ.out.2.setCell (Nat.le_refl _) _⟩
            have hs := HJ.out.1.stored (i + j) (100 + (j : Int)) (by simp [marks]; omega)
            have e := set_next (bs ++ marks.take j) (90 - j) (100 + (j : Int)) (by omega)
            have hml : marks.length = 90 := by simp [marks]
            rw [show (bs ++ marks.take j).length = i + j by rw [List.length_append, List.length_take]; omega] at e
            rw [List.append_assoc, List.append_assoc, List.append_assoc, ← marks_at j hlt2, ← List.append_assoc (marks.take j), take_next (by omega)] at e
            rw [← marks_at j hlt2, e, show 90 - j - 1 = 90 - (j + 1) by omega] at hs
            rw [← marks_at j hlt2]
            exact hs
          case measure => simp [intOf]; omega
        · have hlt3 : ¬ (j : Int) < 90 := by omega
          obtain rfl : j = 90 := by omega
          go_wp2_with fail
          go_ret
          refine ⟨rfl, ?_, HJ.out.2⟩
          have h1 := HJ.out.1
          have hml : marks.length = 90 := by simp [marks]
          rw [List.take_of_length_le (by omega), Nat.sub_self, List.replicate_zero, List.append_nil] at h1
          exact h1
end Go.Proofs.YtplhdgijjckjcaaGreatDoor
