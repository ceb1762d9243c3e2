/-
  The laws' heads, right, finals.
-/
import Derived.Test.YtjmjimbhoncidaaDoorDcPure
namespace Go.Proofs.YtjmjimbhoncidaaDoor
open Go.RowKit

theorem Ev.nil {w : World} {v : Value} {a : Int} (h : Ev w v a 0) : v = .nilIface := by
  rcases h with h | h
  · exact h.1
  · exact absurd rfl h.1
theorem Box.drewN {w : World} {b : Nat} {cs : Array Value} (h : Box w b cs) (n : Nat) : Box (w.drewN n) b cs := ⟨h.lt, h.cell, h.free⟩
theorem ActRow.drewN {w : World} {B : Nat} {v : Value} {xs : ActL} (h : ActRow w B v xs) (n : Nat) : ActRow (w.drewN n) B v xs := h
theorem Box.off {w : World} {b : Nat} {cs : Array Value} (h : Box w b cs) {p : Addr} (u : Value) (hp : p.block ≠ b) : Box (w.setCell p u) b cs :=
  ⟨by simpa using h.lt, fun o => by rw [World.cell?_of_block (w := w) (Below.heap_setCell w p u b (fun e => hp e.symm))]; exact h.cell o, fun o => by rw [World.frozen?_of_block (w := w) (Below.heap_setCell w p u b (fun e => hp e.symm))]; exact h.free o⟩
theorem Box.put2 {w : World} {b : Nat} {x y : Value} (h : Box w b #[x, y]) (u v : Value) : Box ((w.setCell ⟨b, 0, none⟩ u).setCell ⟨b, 1, none⟩ v) b #[u, v] := by
  have c0 : w.cell? ⟨b, 0, none⟩ = some x := h.cell 0
  have c1 : w.cell? ⟨b, 1, none⟩ = some y := h.cell 1
  have f0 := h.free
  refine ⟨by simpa using h.lt, fun o => ?_, fun o => by simp [f0]⟩
  match o with
  | 0 =>
    rw [World.cell?_setCell_other _ _ _ _ (by simp)]
    exact World.cell?_setCell_same _ _ _ c0
  | 1 => exact World.cell?_setCell_same _ _ _ ((World.cell?_setCell_other _ _ _ _ (by simp)).trans c1)
  | o + 2 =>
    rw [World.cell?_setCell_other _ _ _ _ (by simp), World.cell?_setCell_other _ _ _ _ (by simp), h.cell (o + 2)]
    simp
set_option maxRecDepth 100000 in
set_option maxHeartbeats 1000000 in
theorem finals_any {w : World} {N : Nat} {x : Value} {l : ActL} (ha : Acts w N x l) (hn : l.length ≤ 3) :
    Calls Tryd.prog 38 #[x] w fun e w' => e = .returned (.int .i64 (cnt 4 l)) ∧ w' = w := by
  obtain ⟨ao, ac, rfl, hac, ca⟩ := ha
  have HA : Hid (∀ j y, l[j]? = some y → ∃ b o, ao = some ⟨b, o, none⟩ ∧ N ≤ b ∧ b < w.heap.size ∧ w.cell? ⟨b, o + j * 2, none⟩ = some (.int .i64 y.1) ∧ w.cell? ⟨b, o + j * 2 + 1, none⟩ = some (.string y.2)) := ca
  obtain ⟨n, hl⟩ : ∃ n, l.length = n := ⟨_, rfl⟩
  rw [hl] at hac hn ⊢
  have HL : Hid (l.length = n) := hl
  clear ca hl
  go_enter Tryd.func38, Tryd.ntmps38
  go_wp2_with fail
  go_loop [3, 4] (fun tn ti => ∃ j : Nat, j ≤ n ∧ ti = .int .i64 j ∧ tn = .int .i64 (cnt 4 (l.take j))) (fun _ ti => n - (intOf ti).toNat)
  case atStart => exact ⟨0, Nat.zero_le _, rfl, rfl⟩
  case round =>
    obtain ⟨j, hj, rfl, rfl⟩ := hrel
    have hb := cnt_bd 4 (l.take j)
    have hb2 : (l.take j).length ≤ 3 := by rw [List.length_take]; omega
    obtain ⟨q, hq⟩ : ∃ q, cnt 4 (l.take j) = q := ⟨_, rfl⟩
    rw [hq] at hb
    by_cases hlt : j < n
    · obtain ⟨⟨k, s⟩, hy⟩ : ∃ y, l[j]? = some y := ⟨_, List.getElem?_eq_getElem (by rw [HL.out]; exact hlt)⟩
      obtain ⟨ab, aof, rfl, _, hal, ka0, ka1⟩ := HA.out j _ hy
      have HS : Hid (cnt 4 (l.take (j + 1)) = q + (if k = 4 then 1 else 0)) := by unfold Hid; rw [List.take_add_one, hy, ← hq]; exact cnt_snoc 4 (l.take j) (k, s)
      have hlt1 : (j : Int) < n := by omega
      have q0 : 0 ≤ q := hb.1
      have q3 : q ≤ 3 := by omega
      simp only at ka0 ka1
      rw [hq]
      clear hy hq hb hb2
      by_cases h4 : k = 4
      · subst h4
        go_wp2_with fail
        go_round
        case rel => exact ⟨j + 1, hlt, by go_num, by rw [HS.out]; go_num⟩
        case measure => simp [intOf]; omega
      · have h5 : (k == 4) = false := by simpa using h4
        have HS2 : Hid (cnt 4 (l.take (j + 1)) = q) := by unfold Hid; rw [HS.out, if_neg h4]; omega
        clear h4
        go_wp2_with fail
        go_round
        case rel => exact ⟨j + 1, hlt, by go_num, by rw [HS2.out]⟩
        case measure => simp [intOf]; omega
    · have hlt1 : ¬ ((j : Int) < n) := by omega
      have HE : Hid (q = cnt 4 l) := by unfold Hid; rw [← hq, List.take_of_length_le (by rw [HL.out]; omega)]
      rw [hq]
      clear hq hb hb2
      go_wp2_with fail
      go_ret
      exact ⟨ret_int HE.out, rfl⟩
theorem i64_and3 (n : Int) : 0 ≤ bits .and .i64 n 3 ∧ bits .and .i64 n 3 ≤ 3 := by
  have h : bits .and .i64 n 3 = IntKind.i64.wrap (((BitVec.ofInt 64 n) &&& (BitVec.ofInt 64 3)).toNat : Int) := rfl
  rw [h, BitVec.toNat_and]
  have h3 : (BitVec.ofInt 64 n).toNat &&& (BitVec.ofInt 64 3).toNat ≤ 3 := Nat.and_le_right
  obtain ⟨k, hk⟩ : ∃ k, (BitVec.ofInt 64 n).toNat &&& (BitVec.ofInt 64 3).toNat = k := ⟨_, rfl⟩
  rw [hk] at h3 ⊢
  rcases (by omega : k = 0 ∨ k = 1 ∨ k = 2 ∨ k = 3) with rfl | rfl | rfl | rfl <;> decide
set_option maxRecDepth 100000 in
set_option maxHeartbeats 1000000 in
theorem right_any (e : Bool) (a p : Int) (w : World) : Calls Tryd.prog 37 #[.agg #[.bool e, .int .i64 a, .int .i64 p]] w fun r w' => ∃ x y : Int, r = .returned (.agg #[.bool e, .int .i64 x, .int .i64 y]) ∧ Hid (okB e x y = true) ∧ Below w.heap.size w w' := by
  cases e with
  | false =>
    go_enter Tryd.func37, Tryd.ntmps37
    go_wp2_with fail
    refine bodyPost_ret ?_ rfl ⟨0, 0, rfl, rfl, ?_⟩
    · simp [results, Tryd.results37, go_sem]
    · repeat (first | exact Below.refl _ _ | refine Below.setCell ?_ (by simp) _ | refine Below.alloc ?_ (by simp) _)
  | true =>
    go_enter Tryd.func37, Tryd.ntmps37
    go_wp2_with fail
    obtain ⟨ha, hp⟩ : (0 ≤ bits .and .i64 a 3 ∧ bits .and .i64 a 3 ≤ 3) ∧ (0 ≤ bits .and .i64 p 3 ∧ bits .and .i64 p 3 ≤ 3) := ⟨i64_and3 a, i64_and3 p⟩
    refine bodyPost_ret ?_ rfl ⟨bits .and .i64 a 3, bits .and .i64 p 3, rfl, ?_, ?_⟩
    · simp [results, Tryd.results37, go_sem]
    · unfold Hid okB; simp; omega
    · repeat (first | exact Below.refl _ _ | refine Below.setCell ?_ (by simp) _ | refine Below.alloc ?_ (by simp) _)
end Go.Proofs.YtjmjimbhoncidaaDoor
