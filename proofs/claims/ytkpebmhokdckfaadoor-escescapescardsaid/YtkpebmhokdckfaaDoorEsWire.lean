/-
  A piece on the wire.
-/
import Derived.Test.YtkpebmhokdckfaaDoorEsBody
namespace Go.Proofs.YtkpebmhokdckfaaDoor
open Go.RowKit

theorem enc_low (b : UInt8) (h : b.toNat < 128) : Utf8.encode (b.toNat : Int) = ltS b := by
  have hv : Utf8.valid (b.toNat : Int) = true := by rw [validRune_eq]; simp [validRune]; omega
  unfold Utf8.encode ltS
  simp [hv, h]
set_option maxHeartbeats 1000000 in
theorem mesc_any (m : Mk) (w : World) : Calls Tryd.prog 29 #[.string m.str] w fun e w' => e = .returned (.int .i32 (m.x.toNat : Int)) ∧ w' = w := by
  have hsz := m.str_size
  go_enter Tryd.func29, Tryd.ntmps29
  go_wp2_with fail
  go_ret
  exact ⟨ret_int (by have := m.x.toNat_lt; show wrap32 (m.x.toNat : Int) = _; unfold wrap32; omega), rfl⟩
theorem mark_lt {m : Mk} (hm : Wrong m.l 5 5) : m.x.toNat < 128 := hm.asc m.x (by simp [Mk.str_l, Mk.l])
set_option maxRecDepth 100000 in
set_option maxHeartbeats 2000000 in
theorem wire_text (m : Mk) (t : ByteArray) (w : World) : Calls Tryd.prog 15 #[.string m.str, .agg #[.int .i64 1, .string t, .int .i64 0]] w fun e w' => e = .returned (.string t) ∧ Below w.heap.size w w' := by
  go_enter Tryd.func15, Tryd.ntmps15
  go_wp2_with fail
  go_ret
  exact ⟨rfl, (Below.refl _ _).alloc (Nat.le_refl _) _⟩
set_option maxRecDepth 100000 in
set_option maxHeartbeats 4000000 in
theorem wire_esc (m : Mk) (k : Int) (t : ByteArray) (n : Nat) (l : List UInt8) (w : World) (hm : Wrong m.l 5 5) (hk : (k == 1) = false) (hn : n ≤ 129) (hW : Words w)
    (hb : ∀ w, Words w → Calls Tryd.prog 30 #[.agg #[.int .i64 k, .string t, .int .i64 0]] w fun e w' => (∃ Y : ByteArray, e = .returned (.string Y) ∧ Hid (Y.data.toList = l ∧ l.length = n)) ∧ Below w.heap.size w w') :
    Calls Tryd.prog 15 #[.string m.str, .agg #[.int .i64 k, .string t, .int .i64 0]] w fun e w' => (∃ Y : ByteArray, e = .returned (.string Y) ∧ Hid (Y.data.toList = m.x :: (l ++ [m.x]))) ∧ Below w.heap.size w w' := by
  have hE := enc_low m.x (mark_lt hm)
  have hcv : ∀ w, (convert 21 9 (.int .i32 (m.x.toNat : Int))).run Tryd.prog w = .ok (.string (ltS m.x)) w := fun w => by
    rw [← hE]; exact run_convert_int_string w _ _ _ _ (by rw [Tryd.underlying21]; rfl) Tryd.underlying9
  obtain ⟨E, hEE⟩ : ∃ E, ltS m.x = E := ⟨_, rfl⟩
  rw [hEE] at hcv
  have hEs : E.size = 1 := by rw [← hEE]; rfl
  have HE : Hid (E.data.toList = [m.x]) := by unfold Hid; rw [← hEE]; rfl
  have HW : Hid (Words (w.alloc (.cells #[.int .i64 k, .string t, .int .i64 0] 53)) ∧ Below w.heap.size w (w.alloc (.cells #[.int .i64 k, .string t, .int .i64 0] 53))) := ⟨hW.below ((Below.refl _ w).alloc (Nat.le_refl _) _), (Below.refl _ w).alloc (Nat.le_refl _) _⟩
  clear hE hEE hW hm
  go_enter Tryd.func15, Tryd.ntmps15
  go_wp2_with (go_at_call 29; refine (mesc_any m _).mono ?_; rintro e w' ⟨rfl, hw⟩; rw [hw]; clear hw)
  go_wp2_with fail
  refine (hb _ HW.out.1).mono ?_
  rintro e w1 ⟨⟨Y, rfl, hY⟩, b1⟩
  have HY : Hid (Y.data.toList = l) := hY.out.1
  have hYs : Y.size = n := by rw [← hY.out.2, ← hY.out.1]; rfl
  have HB : Hid (Below w.heap.size w w1) := below_then HW.out.2 b1
  clear hY b1 hb HW
  go_wp2_with fail
  go_ret
  refine ⟨⟨_, rfl, ?_⟩, HB.out⟩
  unfold Hid
  rw [ByteArray.data_append, ByteArray.data_append, Array.toList_append, Array.toList_append, HE.out, HY.out]; simp
theorem letter_word {t : ByteArray} (h : t = ltS 70 ∨ t = ltS 83 ∨ t = ltS 82 ∨ t = ltS 69 ∨ t = ltS 84) : ∃ j, j < 5 ∧ t = wT j ∧ t.data.toList.length = 1 := by
  rcases h with rfl | rfl | rfl | rfl | rfl
  · exact ⟨0, by omega, rfl, rfl⟩
  · exact ⟨1, by omega, rfl, rfl⟩
  · exact ⟨3, by omega, rfl, rfl⟩
  · exact ⟨4, by omega, rfl, rfl⟩
  · exact ⟨2, by omega, rfl, rfl⟩
/-- A piece as a value. -/
def pcV (p : Pc) : Value := .agg #[.int .i64 (p.k : Int), .string p.t, .int .i64 0]
theorem wire_any (m : Mk) (p : Pc) (w : World) (hm : Wrong m.l 5 5) (hp : PcOk p) (hW : Words w) :
    Calls Tryd.prog 15 #[.string m.str, .agg #[.int .i64 (p.k : Int), .string p.t, .int .i64 0]] w fun e w' => (∃ Y : ByteArray, e = .returned (.string Y) ∧ Hid (Y.data.toList = wrP m p)) ∧ Below w.heap.size w w' := by
  obtain ⟨k, t⟩ := p
  rcases hp.or with h | ⟨h, g⟩ | ⟨h, g⟩
  · simp only at h; subst h
    refine (wire_text m t w).mono ?_
    rintro e w' ⟨rfl, hb⟩
    exact ⟨⟨t, rfl, by unfold Hid wrP; rw [if_pos rfl]⟩, hb⟩
  · simp only at h g; subst h
    obtain ⟨j, hj, ht, hl⟩ := letter_word g
    refine (wire_esc m 2 t 1 t.data.toList w hm (by decide) (by omega) hW ?_).mono ?_
    · intro w hW
      rw [ht] at hl ⊢
      refine (body_mark j hj w hW).mono ?_
      rintro e w' ⟨rfl, hb⟩
      exact ⟨⟨_, rfl, rfl, hl⟩, hb⟩
    · rintro e w' ⟨⟨Y, rfl, hY⟩, hb⟩
      exact ⟨⟨Y, rfl, by unfold Hid wrP; rw [if_neg (by simp), if_pos rfl]; exact hY.out⟩, hb⟩
  · simp only at h g; subst h
    refine (wire_esc m 3 t (2 * t.size + 1) (88 :: prB t.data.toList) w hm (by decide) (by omega) hW ?_).mono ?_
    · intro w hW
      refine (body_hex t w hW g).mono ?_
      rintro e w' ⟨⟨Y, rfl, hY⟩, hb⟩
      exact ⟨⟨Y, rfl, hY.out, by rw [List.length_cons, prB_len]; rfl⟩, hb⟩
    · rintro e w' ⟨⟨Y, rfl, hY⟩, hb⟩
      exact ⟨⟨Y, rfl, by unfold Hid wrP; rw [if_neg (by simp), if_neg (by simp)]; exact hY.out⟩, hb⟩
end Go.Proofs.YtkpebmhokdckfaaDoor
