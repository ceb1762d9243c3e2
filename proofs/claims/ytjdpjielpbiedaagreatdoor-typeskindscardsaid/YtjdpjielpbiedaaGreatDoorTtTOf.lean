/-
  The document's TableOf: the table's number out of a kind's name.
-/
import Derived.Test.YtjdpjielpbiedaaGreatDoorTtTable
import Derived.Lib.LazyBuf
namespace Go.Proofs.YtjdpjielpbiedaaGreatDoor.Td
open Go.RowKit

/-- The number read so far, behind i bytes. -/
def nvS (l : List UInt8) : Nat → Nat
  | 0 => 0
  | i + 1 => if i < 2 then 0 else 10 * nvS l i + ((l.getD i 0).toNat - 48)
def dgF (l : List UInt8) (i : Nat) : Prop := ∀ j, 2 ≤ j → j < i → dg (l.getD j 0) = true
def tno (l : List UInt8) : Nat := if l.length = 6 ∧ l.take 2 = [73, 68] ∧ dg (l.getD 2 0) = true ∧ dg (l.getD 3 0) = true ∧ dg (l.getD 4 0) = true ∧ dg (l.getD 5 0) = true then (if tabN (nvS l 6) = none then 0 else nvS l 6) else 0
theorem tno_len {l : List UInt8} (h : l.length ≠ 6) : tno l = 0 := if_neg (fun g => h g.1)
theorem tno_head {l : List UInt8} (h : l.take 2 ≠ [73, 68]) : tno l = 0 := if_neg (fun g => h g.2.1)
theorem tno_dg {l : List UInt8} {i : Nat} (h2 : 2 ≤ i) (h6 : i < 6) (h : dg (l.getD i 0) = false) : tno l = 0 := by
  refine if_neg (fun g => ?_)
  rcases (by omega : i = 2 ∨ i = 3 ∨ i = 4 ∨ i = 5) with rfl | rfl | rfl | rfl
  · rw [g.2.2.1] at h; cases h
  · rw [g.2.2.2.1] at h; cases h
  · rw [g.2.2.2.2.1] at h; cases h
  · rw [g.2.2.2.2.2] at h; cases h
theorem tno_of {l : List UInt8} (h6 : l.length = 6) (h2 : l.take 2 = [73, 68]) (hd : dgF l 6) : tno l = if tabN (nvS l 6) = none then 0 else nvS l 6 :=
  if_pos ⟨h6, h2, hd 2 (by omega) (by omega), hd 3 (by omega) (by omega), hd 4 (by omega) (by omega), hd 5 (by omega) (by omega)⟩
theorem nv_on {l : List UInt8} {i : Nat} (h : 2 ≤ i) : nvS l (i + 1) = 10 * nvS l i + ((l.getD i 0).toNat - 48) := if_neg (by omega)
theorem str_nil (w : World) (a : Option Addr) (l c : Nat) : (binOp .eql 28 (.slice a l c) (.slice none 0 0)).run Tryz.prog w = .ok (.bool a.isNone) w := Lib.run_eql_slice_nil w _ _ a l c 0 0 Tryz.underlying28
theorem getD_at {s : ByteArray} {i : Nat} (h : i < s.size) : (bl s).getD i 0 = s[i] := by
  rw [List.getD, bl_at h]; rfl
set_option maxRecDepth 100000 in
set_option maxHeartbeats 4000000 in
theorem tableOf_any (k : ByteArray) (w : World) : Calls Tryz.prog 33 #[.string k] w fun e w' => e = .returned (.int .i64 (tno (bl k))) ∧ Below w.heap.size w w' := by
  have hnil := str_nil
  by_cases h6 : k.size = 6
  · have q6 : ((k.size : Int) == 6) = true := by simp [h6]
    have q6' : ((k.size : Int) != 6) = false := by simp [h6]
    have hz2 : (2 : Int) ≤ k.size := by omega
    cases q : ((k.extract 0 2).toList == [73, 68]) with
    | false =>
      have q' : ((k.extract 0 2).toList != [73, 68]) = true := by simp only [bne, q]; rfl
      have HE : Hid (tno (bl k) = 0) := tno_head (fun e => by rw [Lib.toList_data, show (k.extract 0 2).data.toList = [73, 68] from (bl_to k 2).trans e] at q; simp at q)
      rw [HE.out]
      clear h6
      go_enter Tryz.func33, Tryz.ntmps33
      go_wp2_with fail
      go_ret
      exact ⟨rfl, by first | exact Below.refl _ _ | exact Below.drew (Below.refl _ _)⟩
    | true =>
      have q' : ((k.extract 0 2).toList != [73, 68]) = false := by simp only [bne, q]; rfl
      have H2 : Hid ((bl k).take 2 = [73, 68] ∧ k.size = 6) := ⟨by have := eq_of_beq q; rw [Lib.toList_data] at this; exact (bl_to k 2).symm.trans this, h6⟩
      go_enter Tryz.func33, Tryz.ntmps33
      go_wp2_with fail
      go_loopw [3, 4] (fun t3 t4 wx => ∃ i n : Nat, 2 ≤ i ∧ i ≤ 6 ∧ n ≤ 9999 ∧ t3 = .int .i64 n ∧ t4 = .int .i64 i ∧ Hid (n = nvS (bl k) i ∧ dgF (bl k) i ∧ n < 10 ^ (i - 2)) ∧ Hid (Below w.heap.size w wx)) (fun _ t4 _ => 6 - (intOf t4).toNat)
      case atStart => exact ⟨2, 0, by omega, by omega, by omega, rfl, rfl, ⟨rfl, fun j a b => by omega, by decide⟩, by first | exact Below.refl _ _ | exact Below.drew (Below.refl _ _)⟩
      case round =>
        obtain ⟨i, n, hi2, hi6, hn, rfl, rfl, HN, HB⟩ := hrel
        by_cases hlt : i < 6
        · have hlti : (i : Int) < 6 := by omega
          have hik : i < k.size := by omega
          have hiki : (i : Int) < k.size := by omega
          have HD : Hid ((bl k).getD i 0 = k[i]) := getD_at hik
          by_cases h1 : k[i].toNat < 48
          · have h1i : (k[i].toNat : Int) < 48 := by omega
            have HE : Hid (tno (bl k) = 0) := tno_dg hi2 hlt (by rw [HD.out]; exact dg_no (Or.inl h1))
            go_wp2_with fail
            go_ret
            exact ⟨ret_int (by rw [HE.out]; rfl), by first | exact HB.out | exact Below.drew HB.out⟩
          · have h1i : ¬ (k[i].toNat : Int) < 48 := by omega
            by_cases h2 : 57 < k[i].toNat
            · have h2i : (57 : Int) < k[i].toNat := by omega
              have HE : Hid (tno (bl k) = 0) := tno_dg hi2 hlt (by rw [HD.out]; exact dg_no (Or.inr h2))
              go_wp2_with fail
              go_ret
              exact ⟨ret_int (by rw [HE.out]; rfl), by first | exact HB.out | exact Below.drew HB.out⟩
            · have h2i : ¬ (57 : Int) < k[i].toNat := by omega
              have hn3 : n ≤ 999 := by
                have h3 := HN.out.2.2
                rcases (by omega : i = 2 ∨ i = 3 ∨ i = 4 ∨ i = 5) with rfl | rfl | rfl | rfl <;> simp at h3 <;> omega
              have HN2 : Hid (10 * n + (k[i].toNat - 48) = nvS (bl k) (i + 1) ∧ dgF (bl k) (i + 1) ∧ 10 * n + (k[i].toNat - 48) < 10 ^ (i + 1 - 2)) := by
                refine ⟨by rw [nv_on hi2, HD.out, ← HN.out.1], fun j a b => ?_, ?_⟩
                · rcases (by omega : j < i ∨ j = i) with g | rfl
                  · exact HN.out.2.1 j a g
                  · rw [HD.out]; unfold dg; simp; omega
                · have h3 := HN.out.2.2
                  rw [show i + 1 - 2 = (i - 2) + 1 by omega, Nat.pow_succ]
                  omega
              go_wp2_with fail
              go_roundw
              case rel => exact ⟨i + 1, 10 * n + (k[i].toNat - 48), by omega, by omega, by omega, by go_num, by go_num, HN2, by first | exact HB.out | exact Below.drew HB.out⟩
              case measure => simp [intOf]; omega
        · obtain rfl : i = 6 := by omega
          have HF : Hid (tno (bl k) = if tabN n = none then 0 else n) := by unfold Hid; rw [tno_of (by rw [bl_len]; exact H2.out.2) H2.out.1 HN.out.2.1, ← HN.out.1]
          go_wp2_with fail
          refine (table_any n _).mono ?_
          rintro _ w1 ⟨⟨l, b, c, ht, _, _, _, rfl⟩ | ⟨ht, rfl⟩, hb⟩
          · have HE : Hid (tno (bl k) = n) := by unfold Hid; rw [HF.out, ht]; simp
            have HB1 : Hid (Below w.heap.size w w1) := below_then HB.out hb
            clear hb ht
            go_wp2_with fail
            go_ret
            exact ⟨ret_int (by rw [HE.out]), HB1.out⟩
          · have HE : Hid (tno (bl k) = 0) := by unfold Hid; rw [HF.out, ht]; simp
            have HB1 : Hid (Below w.heap.size w w1) := below_then HB.out hb
            clear hb ht
            go_wp2_with fail
            go_ret
            exact ⟨ret_int (by rw [HE.out]; rfl), HB1.out⟩
  · have q6 : ((k.size : Int) == 6) = false := by simp; omega
    have q6' : ((k.size : Int) != 6) = true := by simp; omega
    have HE : Hid (tno (bl k) = 0) := tno_len (by rw [bl_len]; exact h6)
    rw [HE.out]
    clear h6
    go_enter Tryz.func33, Tryz.ntmps33
    go_wp2_with fail
    go_ret
    exact ⟨rfl, by first | exact Below.refl _ _ | exact Below.drew (Below.refl _ _)⟩
end Go.Proofs.YtjdpjielpbiedaaGreatDoor.Td
