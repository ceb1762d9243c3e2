/-
  The reference's digits and Print.
-/
import Derived.Test.YtpcdkafjogpdkaaDoorWr3
import Derived.Test.YtpcdkafjogpdkaaDoorRefRight
import Derived.Laws.BytesString
namespace Go.Proofs.YtpcdkafjogpdkaaDoor
open Go.RowKit

theorem run_one {w : World} {b : Nat} {z : Int} (h : w.cell? ⟨b, 0, none⟩ = some (.int .u8 z)) (c : Nat) : (convert 72 9 (.slice (some ⟨b, 0, none⟩) 1 c)).run Tryd.prog w = .ok (.string (ByteArray.empty.push (UInt8.ofNat z.toNat))) w := by
  rw [run_convert_bytes_string w _ _ _ _ _ _ Tryd.underlying72 Tryd.underlying5 Tryd.underlying9]
  have hl := run_loadCells_list (P := Tryd.prog) w ⟨b, 0, none⟩ ([z].map (Value.int .u8)) (fun j u hu => by
    cases j with
    | zero =>
      simp at hu
      subst hu
      exact h
    | succ j => simp at hu)
  exact run_bytesToString w _ _ _ [z] hl
theorem txt_one (n : Nat) : Txt (ByteArray.empty.push (UInt8.ofNat ((48 : Int) + n).toNat)) [UInt8.ofNat (48 + n)] := by
  unfold Txt
  rw [show ((48 : Int) + n).toNat = 48 + n by omega]
  rfl
set_option maxRecDepth 100000 in
set_option maxHeartbeats 1000000 in
theorem digits_any (v k : Nat) (hv : v < 100000) (hk : k ≤ 4) (w : World) : Calls Tryd.prog 25 #[.int .i64 v, .int .i64 k] w fun e w' => ∃ T, e = .returned (.string T) ∧ T.size = k ∧ Hid (Txt T (digs k v)) ∧ Below w.heap.size w w' := by
  go_enter Tryd.func25, Tryd.ntmps25
  go_wp2_with fail
  go_loopw [0, 5, 6] (fun tv tt ti wx => ∃ (i x : Nat) (T : ByteArray), i ≤ k ∧ ti = .int .i64 i ∧ tv = .int .i64 x ∧ x < 100000 ∧ tt = .string T ∧ T.size = i ∧ Hid (Below w.heap.size w wx ∧ ∃ l, Txt T l ∧ digs (k - i) x ++ l = digs k v)) (fun _ _ ti _ => k - (intOf ti).toNat)
  case atStart => exact ⟨0, v, ⟨#[]⟩, Nat.zero_le _, rfl, rfl, hv, rfl, rfl, Below.refl _ _, [], rfl, by simp⟩
  case round =>
    obtain ⟨i, x, T, hi, rfl, rfl, hx, rfl, hTs, HI⟩ := hrel
    by_cases hlt : i < k
    · have hlt1 : (i : Int) < k := by omega
      obtain ⟨C, hC⟩ : ∃ C : ByteArray, (ByteArray.empty.push (UInt8.ofNat ((48 : Int) + (x % 10 : Nat)).toNat)) = C := ⟨_, rfl⟩
      have HC : Hid (Txt C [UInt8.ofNat (48 + x % 10)]) := by unfold Hid; rw [← hC]; exact txt_one _
      have hCs : C.size = 1 := HC.out.size
      have hconv : (convert 72 9 (.slice (some ⟨wr.heap.size, 0, none⟩) 1 1)).run Tryd.prog (wr.alloc (.cells #[.int .u8 (48 + (x : Int) % 10)] 5)) = .ok (.string C) (wr.alloc (.cells #[.int .u8 (48 + (x : Int) % 10)] 5)) := by
        rw [run_one (z := 48 + (x : Int) % 10) (by simp) 1, ← hC]
        rw [show (48 : Int) + (x : Int) % 10 = 48 + ((x % 10 : Nat) : Int) by omega]
      clear hC
      go_wp2_with fail
      go_roundw
      case rel =>
        obtain ⟨hb, l, hl, he⟩ := HI.out
        refine ⟨i + 1, x / 10, C ++ T, hlt, by go_num, by go_num, by omega, rfl, by rw [ByteArray.size_append]; omega, hb.alloc hb.size _, [UInt8.ofNat (48 + x % 10)] ++ l, HC.out.app hl, ?_⟩
        rw [← he, ← List.append_assoc, show k - i = (k - (i + 1)) + 1 by omega]
        rfl
      case measure => simp [intOf]; omega
    · have hlt1 : ¬ (i : Int) < k := by omega
      go_wp2_with fail
      go_ret
      obtain ⟨hb, l, hl, he⟩ := HI.out
      refine ⟨T, rfl, by omega, ?_, hb⟩
      unfold Hid
      rw [← he, show k - i = 0 by omega]
      exact hl
end Go.Proofs.YtpcdkafjogpdkaaDoor
