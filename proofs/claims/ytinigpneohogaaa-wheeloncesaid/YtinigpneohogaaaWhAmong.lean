/-
  The law's among.
-/
import Derived.Test.YtinigpneohogaaaWhOnce1
namespace Go.Proofs.Ytinigpneohogaaa
open Go.RowKit

set_option maxRecDepth 100000 in
set_option maxHeartbeats 2000000 in
theorem among_true {w : World} {B n c m : Nat} {a : Option Addr} {D : List Opv} {y : Opv} {k t from_ to_ : Int} (h : ORow w B (.slice a n c) D) (hl : D.length ≤ 1000000) (hd : DK D) (hy : D[m]? = some y) (hk : y.key = k) (ht : y.tick = t) (h1 : from_ < t) (h2 : t ≤ to_) :
    Calls Try.prog 10 #[.slice a n c, .agg #[.int .i64 k, .int .i64 t], .int .i64 from_, .int .i64 to_] w fun e w' => e = .returned (.bool true) ∧ Below w.heap.size w w' := by
  have hm := (List.getElem?_eq_some_iff.1 hy).1
  have hn := h.len
  have hnl : (n : Int) ≤ 1000000 := by omega
  have hmn : m < n := by omega
  have HA : Hid (ORow w B (.slice a n c) D ∧ DK D ∧ D[m]? = some y ∧ D.length = n ∧ y.key = k ∧ y.tick = t) := ⟨h, hd, hy, hn.symm, hk, ht⟩
  have h1' : t > from_ := h1
  clear h hl hd hy hk ht hm hn
  go_enter Try.func10, Try.ntmps10
  go_wp2_with fail
  have hbW : Below w.heap.size w (w.alloc (.cells #[.int .i64 k, .int .i64 t] 38)) := (Below.refl _ _).alloc (Nat.le_refl _) _
  have HA0 : Hid (ORow (w.alloc (.cells #[.int .i64 k, .int .i64 t] 38)) B (.slice a n c) D ∧ Below w.heap.size w (w.alloc (.cells #[.int .i64 k, .int .i64 t] 38))) := ⟨HA.out.1.below hbW, hbW⟩
  have q0 := cell_new w #[.int .i64 k, .int .i64 t] 38 0
  have q1 := cell_new w #[.int .i64 k, .int .i64 t] 38 1
  obtain ⟨X, hX⟩ : ∃ q, w.heap.size = q := ⟨_, rfl⟩
  rw [hX] at q0 q1 ⊢
  generalize w.alloc (.cells #[.int .i64 k, .int .i64 t] 38) = W0 at HA0 q0 q1 ⊢
  replace q0 : W0.cell? ⟨X, 0, none⟩ = some (.int .i64 k) := q0
  replace q1 : W0.cell? ⟨X, 1, none⟩ = some (.int .i64 t) := q1
  clear hbW hX
  go_loopw [9] (fun t9 wx => ∃ (i q : Nat), i ≤ m ∧ t9 = .int .i64 (i : Int) ∧ wx = W0.drewN q) (fun t9 _ => n - (intOf t9).toNat)
  case atStart => exact ⟨0, 0, Nat.zero_le _, rfl, rfl⟩
  case round =>
    obtain ⟨i, q, hi, rfl, hw⟩ := hrel
    subst wr
    have hlt1 : (i : Int) < n := by omega
    obtain ⟨x, hx⟩ : ∃ x, D[i]? = some x := ⟨_, List.getElem?_eq_getElem (by have := HA.out.2.2.2.1; omega)⟩
    obtain ⟨g, rfl, hg, hcg⟩ := HA0.out.1.at_ encO_len hx
    have p1 : W0.cell? ⟨g, i * 4 + 1, none⟩ = some (.int .i64 x.key) := hcg 1 (by omega)
    have p3 : W0.cell? ⟨g, i * 4 + 3, none⟩ = some (.int .i64 x.tick) := hcg 3 (by omega)
    have HX : Hid (D[i]? = some x) := hx
    clear hcg hx
    by_cases e : x.key = k
    · have em : i = m := dk_at HA.out.2.1 HX.out HA.out.2.2.1 (e.trans HA.out.2.2.2.2.1.symm)
      subst em
      have exy : x = y := by have := HX.out.symm.trans HA.out.2.2.1; simpa using this
      have et : x.tick = t := by rw [exy]; exact HA.out.2.2.2.2.2
      rw [e] at p1
      rw [et] at p3
      clear exy et e
      go_wp2_with fail
      go_quiet (fail)
      go_wp2_with fail
      go_quiet (fail)
      go_wp2_with fail
      go_ret
      exact ⟨rfl, below_drewN (below_drewN (below_drewN HA0.out.2 _) _) _⟩
    · have hne : i ≠ m := fun g => by
        subst g
        have exy : x = y := by have := HX.out.symm.trans HA.out.2.2.1; simpa using this
        exact e (by rw [exy]; exact HA.out.2.2.2.2.1)
      go_wp2_with fail
      go_quiet (fail)
      go_wp2_with fail
      go_roundw
      case rel => exact ⟨i + 1, _, by omega, by go_num, rfl⟩
      case measure => simp [intOf]; omega
end Go.Proofs.Ytinigpneohogaaa
