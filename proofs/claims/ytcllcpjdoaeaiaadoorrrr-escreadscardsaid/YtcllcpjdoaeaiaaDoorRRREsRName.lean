/-
  The document's name.
-/
import Derived.Test.YtcllcpjdoaeaiaaDoorRRREsName
namespace Go.Proofs.YtcllcpjdoaeaiaaDoorRRR
open Go.RowKit

theorem nmd_up {l : List UInt8} {n i : Nat} (hn : n ≤ 3) (hl : n ≤ l.length) : n ≤ nmd l (i + 1) ↔ (n ≤ nmd l i ∨ l.take n = (nm i).take n) := by
  have := cp_take l (nm i) n hl (by rw [nm_len]; exact hn)
  rw [this]
  show n ≤ max _ _ ↔ _
  omega
theorem str_take_eq {s t : ByteArray} {n : Nat} {q : Bool} (h : (s.data.toList.take n == t.data.toList.take n) = q) : ((s.extract 0 n).toList == (t.extract 0 n).toList) = q := by
  rw [Lib.toList_data, Lib.toList_data, take_extract, take_extract]; exact h
set_option maxRecDepth 100000 in
set_option maxHeartbeats 4000000 in
theorem name_any (s : ByteArray) (n : Nat) (w : World) (h1 : 1 ≤ n) (h3 : n ≤ 3) (hn : n ≤ s.size) : Calls Tryd.prog 18 #[.string s, .int .i64 n] w fun e w' => e = .returned (.bool (decide (n ≤ nmd s.data.toList 3))) ∧ Below w.heap.size w w' := by
  have hni : (n : Int) ≤ s.size := by omega
  have h3i : (n : Int) ≤ 3 := by omega
  obtain ⟨W, hW⟩ : ∃ W, w.alloc (.cells #[.string ⟨#[77, 83, 72]⟩, .string ⟨#[70, 72, 83]⟩, .string ⟨#[66, 72, 83]⟩] 61) = W := ⟨_, rfl⟩
  have HB : Hid (Below w.heap.size w W) := by unfold Hid; rw [← hW]; exact (Below.refl _ _).alloc (Nat.le_refl _) _
  have HC : Hid (∀ i, i < 3 → W.cell? ⟨w.heap.size, i, none⟩ = some (.string (nmS i))) := fun i hi => by
    rw [← hW, cell_new]
    rcases (by omega : i = 0 ∨ i = 1 ∨ i = 2) with rfl | rfl | rfl <;> rfl
  have HW : Hid (w.alloc (.cells #[.string ⟨#[77, 83, 72]⟩, .string ⟨#[70, 72, 83]⟩, .string ⟨#[66, 72, 83]⟩] 61) = W) := hW
  clear hW
  go_enter Tryd.func18, Tryd.ntmps18
  go_wp2_with fail
  rw [HW.out]
  go_loopw [6] (fun t6 wx => ∃ i x : Nat, i ≤ 3 ∧ t6 = .int .i64 i ∧ wx = W.drewN x ∧ Hid (¬ n ≤ nmd s.data.toList i)) (fun t6 _ => 3 - (intOf t6).toNat)
  case atStart => exact ⟨0, 0, Nat.zero_le _, rfl, (World.drewN_zero _).symm, by show ¬ n ≤ 0; omega⟩
  case round =>
    obtain ⟨i, x, hi, rfl, rfl, HI⟩ := hrel
    have HBx : Hid (∀ y, Below w.heap.size w (W.drewN y)) := fun y => below_drewN HB.out y
    by_cases hlt : i < 3
    · have hlti : (i : Int) < 3 := by omega
      have c1 := HC.out i hlt
      have hz := nmS_size i
      have HUP := nmd_up (i := i) h3 (show n ≤ s.data.toList.length by simpa using hn)
      have HL := nmS_l i
      obtain ⟨N, hN⟩ : ∃ N, nmS i = N := ⟨_, rfl⟩
      rw [hN] at c1 hz HL
      obtain ⟨q, hq⟩ : ∃ q, (s.data.toList.take n == N.data.toList.take n) = q := ⟨_, rfl⟩
      have hqi := str_take_eq hq
      have HN : Hid (n ≤ nmd s.data.toList (i + 1) ↔ q = true) := by
        unfold Hid; rw [HUP, ← hq, beq_iff_eq, HL]
        exact ⟨fun g => g.elim (fun g => absurd g HI.out) id, Or.inr⟩
      have hzi : (n : Int) ≤ N.size := by omega
      have hmono : Hid (∀ i, i < 3 → n ≤ nmd s.data.toList (i + 1) → n ≤ nmd s.data.toList 3) := fun i hi g => by
        have a1 := nmd_mono s.data.toList 1
        have a2 := nmd_mono s.data.toList 2
        rcases (by omega : i = 0 ∨ i = 1 ∨ i = 2) with rfl | rfl | rfl
        · exact Nat.le_trans g (Nat.le_trans a1 a2)
        · exact Nat.le_trans g a2
        · exact g
      clear hN hq HUP HL
      cases q with
      | true =>
        have hd : decide (n ≤ nmd s.data.toList 3) = true := decide_eq_true (hmono.out i hlt (HN.out.2 rfl))
        go_wp2_with fail
        go_quiet (fail)
        go_wp2_with fail
        go_ret
        exact ⟨ret_bool hd.symm, by first | exact HBx.out _ | (rw [drew2]; exact HBx.out _)⟩
      | false =>
        have HN2 : Hid (¬ n ≤ nmd s.data.toList (i + 1)) := fun g => by have := HN.out.1 g; cases this
        clear HN hmono
        go_wp2_with fail
        go_quiet (fail)
        go_wp2_with fail
        go_roundw
        case rel => exact ⟨i + 1, _, by omega, by go_num, by first | rfl | exact drew2 _ _ _, HN2.out⟩
        case measure => simp [intOf]; omega
    · obtain rfl : i = 3 := by omega
      have hd : decide (n ≤ nmd s.data.toList 3) = false := decide_eq_false HI.out
      go_wp2_with fail
      go_ret
      exact ⟨ret_bool hd.symm, HBx.out _⟩
end Go.Proofs.YtcllcpjdoaeaiaaDoorRRR
