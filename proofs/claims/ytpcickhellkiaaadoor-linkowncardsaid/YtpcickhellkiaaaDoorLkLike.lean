/-
  The statements' looks: Same, like (the same pieces in the same order).
-/
import Derived.Test.YtpcickhellkiaaaDoorLkBase
namespace Go.Proofs.YtpcickhellkiaaaDoor
open Go.RowKit

set_option maxRecDepth 100000 in
set_option maxHeartbeats 2000000 in
theorem same_true {w : World} {ao bo : Option Addr} {n ac bc : Nat} {xs : List Int} (ha : Byts w ao n xs) (hb : Byts w bo n xs) (hn : n ≤ 9223372036854775807) :
    Calls Tryd.prog 13 #[.slice ao n ac, .slice bo n bc] w fun e w' => e = .returned (.bool true) ∧ ∃ m, w' = w.drewN m := by
  have HA : Hid (Byts w ao n xs) := ha
  have HB : Hid (Byts w bo n xs) := hb
  clear ha hb
  go_enter Tryd.func13, Tryd.ntmps13
  go_wp2_with fail
  go_loopw [5] (fun ti wx => ∃ j m : Nat, j ≤ n ∧ ti = .int .i64 j ∧ wx = w.drewN m) (fun ti _ => n - (intOf ti).toNat)
  case atStart => exact ⟨0, 0, Nat.zero_le _, rfl, rfl⟩
  case round =>
    obtain ⟨j, m, hj, rfl, rfl⟩ := hrel
    by_cases hlt : j < n
    · obtain ⟨ab, aof, rfl, hal, hac⟩ := HA.out.cell j hlt
      obtain ⟨bb, bof, rfl, hbl, hbc⟩ := HB.out.cell j hlt
      have hlt1 : (j : Int) < n := by omega
      go_wp2_with fail
      go_quiet (fail)
      go_wp2_with fail
      go_roundw
      case rel => exact ⟨j + 1, _, hlt, by go_num, rfl⟩
      case measure => simp [intOf]; omega
    · have hlt1 : ¬ ((j : Int) < n) := by omega
      go_wp2_with fail
      go_ret
      exact ⟨rfl, _, rfl⟩
/-- A list of texts, wherever it lies. -/
structure Pcs (w : World) (a : Option Addr) (n : Nat) (l : List (List Int)) : Prop where
  len : l.length = n
  max : n ≤ 256
  cell : ∀ j, j < n → ∃ g q m c, a = some ⟨g, 0, none⟩ ∧ g < w.heap.size ∧ w.cell? ⟨g, j, none⟩ = some (.slice q m c) ∧ Byts w q m (l.getD j []) ∧ m ≤ 8195
theorem Pcs.below {w w' : World} {a : Option Addr} {n : Nat} {l : List (List Int)} (h : Pcs w a n l) (hb : Below w.heap.size w w') : Pcs w' a n l := ⟨h.len, h.max, fun j hj => by
  obtain ⟨g, q, m, c, e, h1, h2, h3, h4⟩ := h.cell j hj
  exact ⟨g, q, m, c, e, Nat.lt_of_lt_of_le h1 hb.size, (hb.cell (p := ⟨g, j, none⟩) h1).trans h2, h3.below hb, h4⟩⟩
theorem WyOk.pcs_ {w : World} {B : Nat} {z : Wy} (h : WyOk w B z) : Pcs w z.a z.n (z.ps.map (·.bs)) := by
  have hn := h.row.len
  have hm := h.len
  refine ⟨by rw [List.length_map]; omega, by omega, fun j hj => ?_⟩
  obtain ⟨p, hp⟩ : ∃ p, z.ps[j]? = some p := ⟨_, List.getElem?_eq_getElem (by omega)⟩
  obtain ⟨g, eg, hg, hc⟩ := ERow.at_ encPc_len h.row hp
  have d1 := hc 0 (by decide)
  simp only [encPc, List.getElem?_cons_zero, Nat.mul_one, Nat.add_zero] at d1
  have hok := h.pcs p (List.mem_of_getElem? hp)
  refine ⟨g, p.a, p.n, p.c, eg, hg, d1, ?_, hok.2⟩
  rw [List.getD_eq_getElem?_getD, List.getElem?_map, hp]
  exact BRow.byts hok.1
set_option maxRecDepth 100000 in
set_option maxHeartbeats 2000000 in
theorem like_true {w : World} {a b : Option Addr} {n c d : Nat} {l : List (List Int)} (ha : Pcs w a n l) (hb : Pcs w b n l) :
    Calls Tryd.prog 15 #[.slice a n c, .slice b n d] w fun e w' => e = .returned (.bool true) ∧ ∃ m, w' = w.drewN m := by
  have hn6 := ha.max
  have HA : Hid (Pcs w a n l) := ha
  have HB : Hid (Pcs w b n l) := hb
  clear ha hb
  go_enter Tryd.func15, Tryd.ntmps15
  go_wp2_with fail
  go_loopw [5] (fun ti wx => ∃ j m : Nat, j ≤ n ∧ ti = .int .i64 j ∧ wx = w.drewN m) (fun ti _ => n - (intOf ti).toNat)
  case atStart => exact ⟨0, 0, Nat.zero_le _, rfl, rfl⟩
  case round =>
    obtain ⟨j, m, hj, rfl, rfl⟩ := hrel
    by_cases hlt : j < n
    · obtain ⟨ga, qa, ma, ca, rfl, _, hac, hay, ham⟩ := HA.out.cell j hlt
      obtain ⟨gb, qb, mb, cb, rfl, _, hbc, hby, _⟩ := HB.out.cell j hlt
      have em : ma = mb := by rw [← hay.len, ← hby.len]
      subst em
      have HC : Hid (∀ x, Calls Tryd.prog 13 #[.slice qa ma ca, .slice qb ma cb] (w.drewN (m + x)) fun ev w' => ev = .returned (.bool true) ∧ ∃ k, w' = w.drewN (m + k)) := fun x => (same_true (hay.below (below_drewN (Below.refl _ _) (m + x))) (hby.below (below_drewN (Below.refl _ _) (m + x))) (by omega)).mono (fun ev w' ⟨he, k, hk⟩ => ⟨he, x + k, by rw [hk]; simp [Nat.add_assoc]⟩)
      have hlt1 : (j : Int) < n := by omega
      clear hay hby
      go_wp2_with fail
      go_quiet ((go_at_call 13; first | exact HC.out _ | (simp only [World.drewN_drewN]; exact HC.out _)))
      go_wp2_with fail
      go_roundw
      case rel => exact ⟨j + 1, _, hlt, by go_num, rfl⟩
      case measure => simp [intOf]; omega
    · have hlt1 : ¬ ((j : Int) < n) := by omega
      go_wp2_with fail
      go_ret
      exact ⟨rfl, _, rfl⟩
end Go.Proofs.YtpcickhellkiaaaDoor
