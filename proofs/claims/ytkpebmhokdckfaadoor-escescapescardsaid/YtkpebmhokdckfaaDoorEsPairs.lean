/-
  pairs: bytes by two digits each.
-/
import Derived.Test.YtkpebmhokdckfaaDoorEsBld
import Derived.Test.YtkpebmhokdckfaaDoorEsKind
import Derived.Lib.ConvBytes
namespace Go.Proofs.YtkpebmhokdckfaaDoor
open Go.RowKit

def HEX : ByteArray := ⟨#[48, 49, 50, 51, 52, 53, 54, 55, 56, 57, 65, 66, 67, 68, 69, 70]⟩
theorem hex_at (k : Nat) (hk : k < 16) (w : World) : (Instr.index 9 (.string ⟨#[48, 49, 50, 51, 52, 53, 54, 55, 56, 57, 65, 66, 67, 68, 69, 70]⟩) (.int .u8 (k : Int))).run Tryd.prog w = .ok (.int .u8 ((dgB k).toNat : Int)) w := by
  rcases (by omega : k = 0 ∨ k = 1 ∨ k = 2 ∨ k = 3 ∨ k = 4 ∨ k = 5 ∨ k = 6 ∨ k = 7 ∨ k = 8 ∨ k = 9 ∨ k = 10 ∨ k = 11 ∨ k = 12 ∨ k = 13 ∨ k = 14 ∨ k = 15) with rfl | rfl | rfl | rfl | rfl | rfl | rfl | rfl | rfl | rfl | rfl | rfl | rfl | rfl | rfl | rfl <;> kernel_rfl
theorem hex_hi (b : UInt8) (w : World) : (Instr.index 9 (.string ⟨#[48, 49, 50, 51, 52, 53, 54, 55, 56, 57, 65, 66, 67, 68, 69, 70]⟩) (.int .u8 ((b.toNat : Int) / 16))).run Tryd.prog w = .ok (.int .u8 ((dgB (b.toNat / 16)).toNat : Int)) w := by
  have := b.toNat_lt
  exact hex_at (b.toNat / 16) (by omega) w
theorem hex_lo (b : UInt8) (w : World) : (Instr.index 9 (.string ⟨#[48, 49, 50, 51, 52, 53, 54, 55, 56, 57, 65, 66, 67, 68, 69, 70]⟩) (.int .u8 ((b.toNat : Int) % 16))).run Tryd.prog w = .ok (.int .u8 ((dgB (b.toNat % 16)).toNat : Int)) w := by
  exact hex_at (b.toNat % 16) (by omega) w
set_option maxRecDepth 100000 in
set_option maxHeartbeats 4000000 in
theorem pairs_any (s : ByteArray) (w : World) (hs : s.size ≤ 64) : Calls Tryd.prog 36 #[.string s] w fun e w' => e = .returned (.string ⟨(prB s.data.toList).toArray⟩) ∧ Below w.heap.size w w' := by
  have hcv : (convert 9 42 (.string s)).run Tryd.prog (w.alloc (.cells #[.pointer none, .slice none 0 0] 51)) = _ := Lib.run_convert_string_bytes _ 9 42 5 s Tryd.underlying9 Tryd.underlying42 Tryd.underlying5
  have hF := Bld.fresh w (w.heap.size + 2)
  obtain ⟨W1, hW1⟩ : ∃ W1, w.alloc (.cells #[.pointer none, .slice none 0 0] 51) = W1 := ⟨_, rfl⟩
  have hz1 : W1.heap.size = w.heap.size + 1 := by rw [← hW1]; simp
  have hb1 : Below w.heap.size w W1 := by rw [← hW1]; exact (Below.refl _ _).alloc (Nat.le_refl _) _
  rw [hW1] at hcv hF
  have hc2 := fun j hj => Lib.bytesWorld_cell W1 5 s j hj
  have hb2 : Below W1.heap.size W1 (Lib.bytesWorld W1 5 s) := ⟨rfl, rfl, rfl, by rw [Lib.bytesWorld_size]; omega, fun k hk => Lib.bytesWorld_at_old W1 _ s k hk⟩
  have hz2 := Lib.bytesWorld_size W1 5 s
  obtain ⟨W2, hW2⟩ : ∃ W2, Lib.bytesWorld W1 5 s = W2 := ⟨_, rfl⟩
  rw [hW2] at hcv hc2 hb2 hz2
  have HF : Hid (Bld W2 (w.heap.size + 2) w.heap.size []) := hF.below hb2
  have HB : Hid (Below w.heap.size w W2) := below_then hb1 hb2
  have HC : Hid (∀ j, j < s.size → W2.cell? ⟨w.heap.size + 1, j, none⟩ = some (.int .u8 (s.data.toList.getD j 0).toNat)) := by unfold Hid; intro j hj; rw [← hz1]; exact hc2 j hj
  have HZ : Hid (W2.heap.size = w.heap.size + 2) := by unfold Hid; omega
  rw [hz1] at hcv
  clear hF hb1 hb2 hc2 hz1 hz2 hW2
  obtain ⟨cap, hcap⟩ : ∃ c, grownCap W1 s.size 0 5 = c := ⟨_, rfl⟩
  rw [hcap] at hcv
  clear hcap
  go_enter Tryd.func36, Tryd.ntmps36
  go_wp2_with fail
  go_loopw [9] (fun t9 wx => ∃ i : Nat, i ≤ s.size ∧ t9 = .int .i64 i ∧ Bld wx (w.heap.size + 2) w.heap.size (prB (s.data.toList.take i)) ∧ BFr (w.heap.size + 2) w.heap.size W2 wx) (fun t9 _ => s.size - (intOf t9).toNat)
  case atStart => exact ⟨0, Nat.zero_le _, rfl, HF.out, BFr.refl _ _ _⟩
  case round =>
    obtain ⟨i, hi, rfl, hB, hR⟩ := hrel
    have HBl : Hid (Bld wr (w.heap.size + 2) w.heap.size (prB (s.data.toList.take i))) := hB
    have HR : Hid (BFr (w.heap.size + 2) w.heap.size W2 wr) := hR
    clear hB hR
    by_cases hlt : i < s.size
    · have hlti : (i : Int) < s.size := by omega
      have ci : wr.cell? ⟨w.heap.size + 1, i, none⟩ = some (.int .u8 (s.data.toList.getD i 0).toNat) := by
        rw [← HC.out i hlt]; exact World.cell?_of_block (HR.out.block _ (by simp) (by simp))
      obtain ⟨b, hb⟩ : ∃ b, s.data.toList.getD i 0 = b := ⟨_, rfl⟩
      rw [hb] at ci
      have hx1 := fun w => hex_hi b w
      have h16 : (b.toNat : Int) / 16 < 16 := by have := b.toNat_lt; omega
      have HL : Hid ((prB (s.data.toList.take i)).length ≤ 128) := by unfold Hid; rw [prB_len, List.length_take]; simp only [Array.length_toList]; have : s.data.size = s.size := rfl; omega
      have HW : Hid (w.heap.size + 2 ≤ wr.heap.size) := by unfold Hid; have := HR.out.size; have := HZ.out; omega
      have HS : Hid (prB (s.data.toList.take (i + 1)) = prB (s.data.toList.take i) ++ [dgB (b.toNat / 16)] ++ [dgB (b.toNat % 16)]) := by
        unfold Hid
        rw [List.take_add_one, List.getElem?_eq_getElem (by simpa using hlt), prB_app]
        rw [List.getD_eq_getElem?_getD, List.getElem?_eq_getElem (by simpa using hlt)] at hb
        simp only [Option.getD_some] at hb
        rw [hb]; simp [prB]
      clear hb
      go_wp2_with fail
      refine (bWriteByte _ _ _ _ _ HBl.out (by have := HL.out; omega) HW.out).mono ?_
      rintro e w1 ⟨rfl, hB1, hR1⟩
      have HB1 : Hid (Bld w1 (w.heap.size + 2) w.heap.size (prB (s.data.toList.take i) ++ [dgB (b.toNat / 16)])) := hB1
      have HR1 : Hid (BFr (w.heap.size + 2) w.heap.size W2 w1) := HR.out.trans hR1
      have HW1 : Hid (w.heap.size + 2 ≤ w1.heap.size) := by unfold Hid; have := HW.out; have := hR1.size; omega
      clear hB1 hR1 HBl HR HW hx1
      have hx2 := fun w => hex_lo b w
      go_wp2_with fail
      refine (bWriteByte _ _ _ _ _ HB1.out (by have := HL.out; simp; omega) HW1.out).mono ?_
      rintro e w2 ⟨rfl, hB2, hR2⟩
      have H2 : Hid (Bld w2 (w.heap.size + 2) w.heap.size (prB (s.data.toList.take (i + 1))) ∧ BFr (w.heap.size + 2) w.heap.size W2 w2) := by
        refine ⟨?_, HR1.out.trans hR2⟩; rw [HS.out]; exact hB2
      clear hB2 hR2 HB1 HR1 HW1 hx2
      go_wp2_with fail
      go_roundw
      case rel => exact ⟨i + 1, by omega, by go_num, H2.out.1, H2.out.2⟩
      case measure => simp [intOf]; omega
    · go_wp2_with fail
      refine (bString _ _ w.heap.size _ _ HBl.out (by omega) (Nat.le_refl _)).mono ?_
      rintro e w' ⟨rfl, hb⟩
      go_wp2_with fail
      go_ret
      obtain rfl : i = s.size := by omega
      exact ⟨by rw [List.take_of_length_le (by simp)]; rfl, (HB.out.trans (HR.out.below (by omega) (Nat.le_refl _))).trans hb⟩
end Go.Proofs.YtkpebmhokdckfaaDoor
