/-
  Numbers laid as bytes.
-/
import Derived.Test.YtdjjologpodnkaaGreatDoorLgRow
namespace Go.Proofs.YtdjjologpodnkaaGreatDoor
open Go.RowKit

theorem numL_len (n : Int) : ∀ k, (numL n k).length = k
  | 0 => rfl
  | k + 1 => by rw [numL, List.length_cons, numL_len n k]
/-- append of bytes that lie elsewhere. -/
theorem run_app {w : World} {B : Nat} {v : Value} {bs ys : List Int} {po : Option Addr} {m : Nat} (c : Nat) (h : BRow w B v bs) (hb : Byts w po m ys) (hl : bs.length + m ≤ 1000000000) (hB : B ≤ w.heap.size) :
    ∃ a' c' w', (Builtin.append_ #[22, 22] 22 #[v, .slice po m c]).run Tryz.prog w = .ok (.slice a' (bs.length + m) c') w' ∧ BRow w' B (.slice a' (bs.length + m) c') (bs ++ ys) ∧ Off (fun q => v.ownBlock = some q) w w' := by
  have hm := hb.len
  obtain ⟨a', c', w', hr, r, o, _⟩ := run_eapp (P := Tryz.prog) (t := 22) Tryz.underlying22 celB encB_len encB_one h (ys := ys) (n := m) (a := po) (c := c) hm.symm (fun e => by
    rcases Nat.eq_zero_or_pos m with g | g
    · exact g
    · obtain ⟨_, _, e', _⟩ := hb.cell 0 g
      rw [e] at e'; cases e') (fun a1 e1 j u hu => by
    obtain ⟨hj, rfl⟩ := flatB ys hu
    obtain ⟨b, o, e, _, hc⟩ := hb.cell j (by omega)
    rw [e1] at e
    obtain rfl : a1 = ⟨b, o, none⟩ := by simpa using e
    rw [Addr.add_lit]; exact hc) (by omega) (by omega) hB
  rw [hm] at hr r
  exact ⟨a', c', w', hr, r, o⟩
theorem strCells_enc (s : ByteArray) : Lib.strCells s = (strI s).flatMap encB := by
  unfold Lib.strCells strI encB
  rw [List.flatMap_map]
  induction s.data.toList with
  | nil => rfl
  | cons a l ih => rw [List.map_cons, List.flatMap_cons, ← ih]; rfl
theorem strI_len (s : ByteArray) : (strI s).length = s.size := by unfold strI; simp
/-- append of a text. -/
theorem run_apps {w : World} {B : Nat} {v : Value} {bs : List Int} (s : ByteArray) (h : BRow w B v bs) (hl : bs.length + s.size ≤ 1000000000) (hB : B ≤ w.heap.size) :
    ∃ a' c' w', (Builtin.append_ #[22, 9] 22 #[v, .string s]).run Tryz.prog w = .ok (.slice a' (bs.length + s.size) c') w' ∧ BRow w' B (.slice a' (bs.length + s.size) c') (bs ++ strI s) ∧ Off (fun q => v.ownBlock = some q) w w' := by
  obtain ⟨i, hi⟩ : ∃ i, Tryz.prog.info? 5 = some i := by
    obtain ⟨i, z, hi, _⟩ := celB; exact ⟨i, hi⟩
  have hz : i.zero = some (.int .u8 0) ∧ i.size = 1 ∧ i.bytes = 1 := by
    have := (show (Tryz.prog.info? 5).map (fun i => (i.zero, i.size, i.bytes)) = some (some (.int .u8 0), 1, 1) by kernel_rfl)
    rw [hi] at this
    simpa using this
  have h' : w.ownsRow B 5 1 v bs.length (bs.flatMap encB) := h
  obtain ⟨v', w', hr, r, o, _⟩ := Lib.run_append_own_string (P := Tryz.prog) (w := w) B 22 9 22 5 i Tryz.underlying22 Tryz.underlying9 hi hz.1 hz.2.1 hz.2.2 v bs.length _ h' s (by unfold maxLen; omega) (by omega) hB
  have hR : BRow w' B v' (bs ++ strI s) := by
    unfold BRow ERow
    rw [List.length_append, List.flatMap_append, strI_len, ← strCells_enc]
    exact r
  obtain ⟨a', c', e1, _⟩ := ERow.isSlice hR
  rw [List.length_append, strI_len] at e1
  subst e1
  exact ⟨a', c', w', hr, hR, Off.of_grown o⟩
/-- A row that went on: it lies where it lay, or in new memory. -/
def OB (v v' : Value) (N : Nat) : Prop := ∀ q, v'.ownBlock = some q → v.ownBlock = some q ∨ N ≤ q
theorem OB.refl (v : Value) (N : Nat) : OB v v N := fun _ h => Or.inl h
theorem OB.step {v v1 v2 : Value} {N M : Nat} (h : OB v v1 N) (l : v2.ownBlock = v1.ownBlock ∨ v2.ownBlock = some M) (hM : N ≤ M) : OB v v2 N := fun q hq => by
  rcases l with l | l
  · exact h q (by rw [← l]; exact hq)
  · rw [l] at hq; obtain rfl := Option.some.inj hq; exact Or.inr hM
set_option maxRecDepth 100000 in
set_option maxHeartbeats 2000000 in
theorem layNumber_any {w : World} {B : Nat} {v : Value} {bs : List Int} (n : Int) (k : Nat) (h : BRow w B v bs) (hk : k ≤ 8) (h0 : 0 ≤ n) (h1 : n < 9223372036854775808) (hl : bs.length ≤ 1000000) (hB : B ≤ w.heap.size) :
    Calls Tryz.prog 116 #[v, .int .i64 n, .int .i64 k] w fun e w' => ∃ a c, e = .returned (.slice a (bs.length + k) c) ∧ BRow w' B (.slice a (bs.length + k) c) (bs ++ numL n k) ∧ Off (fun q => v.ownBlock = some q) w w' ∧ OB v (.slice a (bs.length + k) c) w.heap.size := by
  obtain ⟨a0, c0, rfl, _⟩ := ERow.isSlice h
  have HH : Hid (BRow w B (.slice a0 bs.length c0) bs) := h
  have wk : IntKind.i64.wrap ((k : Int) - 1) = (k : Int) - 1 := by rw [IntKind.wrap_i64]; omega
  clear h
  go_enter Tryz.func116, Tryz.ntmps116
  go_wp2_with fail
  go_loopw [0, 7] (fun t0 t7 wx => ∃ (j : Nat) (a : Option Addr) (c : Nat) (d : List Int), j ≤ k ∧ t7 = .int .i64 ((j : Int) - 1) ∧ t0 = .slice a (bs.length + d.length) c ∧ Hid (BRow wx B t0 (bs ++ d) ∧ d ++ numL n j = numL n k ∧ Off (fun q => (Value.slice a0 bs.length c0).ownBlock = some q) w wx ∧ OB (.slice a0 bs.length c0) t0 w.heap.size)) (fun _ t7 _ => ((intOf t7) + 1).toNat)
  case atStart => exact ⟨k, a0, c0, [], Nat.le_refl _, rfl, rfl, by rw [List.append_nil]; exact HH.out, rfl, Off.refl _ _, OB.refl _ _⟩
  case round =>
    obtain ⟨j, a, c, d, hj, rfl, rfl, HI⟩ := hrel
    rcases Nat.eq_zero_or_pos j with hj0 | hj0
    · subst hj0
      have HI2 := HI.out
      rw [numL, List.append_nil] at HI2
      obtain ⟨r1, rfl, o1, ob⟩ := HI2
      rw [numL_len]
      have HE : Hid (BRow wr B (.slice a (bs.length + k) c) (bs ++ numL n k) ∧ Off (fun q => (Value.slice a0 bs.length c0).ownBlock = some q) w wr ∧ OB (.slice a0 bs.length c0) (.slice a (bs.length + k) c) w.heap.size) := ⟨by rw [numL_len] at r1; exact r1, o1, by rw [numL_len] at ob; exact ob⟩
      clear HI r1 o1 ob
      go_wp2_with fail
      go_ret
      exact ⟨a, c, rfl, HE.out.1, HE.out.2.1, HE.out.2.2⟩
    · have hge : (j : Int) - 1 ≥ 0 := by omega
      have w2 : IntKind.u64.wrap n = n := by rw [IntKind.wrap_u64]; omega
      have w3 : IntKind.i64.wrap (8 * ((j : Int) - 1)) = 8 * ((j : Int) - 1) := by rw [IntKind.wrap_i64]; omega
      have hdl : d.length + j = k := by
        have := congrArg List.length HI.out.2.1
        rwa [List.length_append, numL_len, numL_len] at this
      obtain ⟨a', c', w', hr, r1, o1, l1⟩ := run_epush (P := Tryz.prog) (t := 22) Tryz.underlying22 celB encB_len encB_one HI.out.1 (n / 2 ^ (8 * (j - 1)) % 256) #[.int .u8 (n / 2 ^ (8 * (j - 1)) % 256)] rfl (by rw [List.length_append]; omega) (by omega) (Nat.le_trans hB HI.out.2.2.1.size)
      rw [List.length_append] at hr r1
      have HE : Hid (BRow w' B (.slice a' (bs.length + d.length + 1) c') (bs ++ (d ++ [n / 2 ^ (8 * (j - 1)) % 256])) ∧ (d ++ [n / 2 ^ (8 * (j - 1)) % 256]) ++ numL n (j - 1) = numL n k ∧ Off (fun q => (Value.slice a0 bs.length c0).ownBlock = some q) w w' ∧ OB (.slice a0 bs.length c0) (.slice a' (bs.length + d.length + 1) c') w.heap.size) := by
        have hz := HI.out.2.2.1.size
        refine ⟨by rw [← List.append_assoc]; exact r1, ?_, ?_, ?_⟩
        · have h2 := HI.out.2.1
          rw [show j = (j - 1) + 1 by omega, numL] at h2
          rw [List.append_assoc]
          exact h2
        · exact HI.out.2.2.1.join o1 fun q hq hp => by
            rcases HI.out.2.2.2 q hp with g | g
            · exact g
            · omega
        · rw [List.length_append] at l1
          exact HI.out.2.2.2.step l1 (by omega)
      clear r1 o1 l1 HI
      go_wp2_with (at_builtin; refine wpList_append_run rfl (.tmp 14) (.tmp 21) 22 _ rfl hr ?_)
      go_roundw
      case rel => exact ⟨j - 1, a', c', d ++ [n / 2 ^ (8 * (j - 1)) % 256], by omega, by go_num, by simp [Nat.add_assoc], HE.out⟩
      case measure => simp [intOf]; omega
end Go.Proofs.YtdjjologpodnkaaGreatDoor
