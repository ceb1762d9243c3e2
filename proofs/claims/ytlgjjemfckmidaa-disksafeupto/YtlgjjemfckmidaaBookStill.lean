/-
  Book.Still: what is kept is as it came.
-/
import Derived.Test.YtlgjjemfckmidaaBookTake
namespace Go.Proofs.Ytlgjjemfckmidaa
open Go.RowKit

theorem Row.isSlice {w : World} {B : Nat} {v : Value} {xs : List Int} (h : Row w B v xs) : ∃ a c, v = .slice a xs.length c ∧ (0 < xs.length → ∃ g, a = some ⟨g, 0, none⟩) := by
  rcases h.form with ⟨rfl, rfl⟩ | ⟨g, cap, rfl, _⟩
  · exact ⟨_, _, rfl, fun h => by simp at h⟩
  · exact ⟨_, _, rfl, fun _ => ⟨g, rfl⟩⟩
theorem VRow.isSlice {w : World} {B : Nat} {e : TypeId} {v : Value} {xs : List Value} (h : VRow w B e v xs) : ∃ a c, v = .slice a xs.length c ∧ (0 < xs.length → ∃ g, a = some ⟨g, 0, none⟩) := by
  rcases h.form with ⟨rfl, rfl⟩ | ⟨g, cap, rfl, _⟩
  · exact ⟨_, _, rfl, fun h => by simp at h⟩
  · exact ⟨_, _, rfl, fun _ => ⟨g, rfl⟩⟩
set_option maxRecDepth 100000 in
set_option maxHeartbeats 2000000 in
theorem Still_true {w : World} {B K : Nat} {ρ : Nat → Nat} {vb vw : Value} {es : List Ent} (h : Bk w B K ρ vb vw es) (hs : ∀ (i : Nat) (e : Ent), es[i]? = some e → e.old = e.bs ∧ e.bs.length ≤ 70368744177664) (hm : es.length ≤ 1099511627776) :
    Calls Try.prog 50 #[.pointer (some ⟨K, 0, none⟩)] w fun e w' => e = .returned (.bool true) ∧ ∃ k, w' = w.drewN k := by
  have HH : Hid (Bk w B K ρ vb vw es) := h
  have HS : Hid (∀ (i : Nat) (e : Ent), es[i]? = some e → e.old = e.bs ∧ e.bs.length ≤ 70368744177664) := hs
  obtain ⟨ab, cb, rfl, hab⟩ := h.rb.isSlice
  obtain ⟨aw, cw, rfl, haw⟩ := h.rws.isSlice
  have HA : Hid ((0 < es.length → ∃ g, ab = some ⟨g, 0, none⟩) ∧ (0 < es.length → ∃ g, aw = some ⟨g, 0, none⟩)) := by simp only [List.length_map] at hab haw; exact ⟨hab, haw⟩
  obtain ⟨n, hn⟩ : ∃ n, es.length = n := ⟨_, rfl⟩
  have HN : Hid (es.length = n) := hn
  have q0 := h.c0
  have q1 := h.c1
  have q2 := h.c2
  have q4 := h.c4
  rw [List.length_map, hn] at q0 q1
  rw [hn] at hm
  clear h hs hab haw hn
  go_enter Try.func50, Try.ntmps50
  go_wp2_with fail
  go_loopw [3, 4] (fun t3 t4 wx => t3 = .bool true ∧ ∃ i k : Nat, i ≤ n ∧ t4 = .int .i64 i ∧ wx = w.drewN k) (fun _ t4 _ => n - (intOf t4).toNat)
  case atStart => exact ⟨rfl, 0, 0, Nat.zero_le _, rfl, rfl⟩
  case round =>
    obtain ⟨rfl, i, k, hi, rfl, rfl⟩ := hrel
    by_cases hlt : i < n
    · have hlt1 : (i : Int) < n := by omega
      obtain ⟨g, rfl⟩ := HA.out.1 (by have := HN.out; omega)
      obtain ⟨g2, rfl⟩ := HA.out.2 (by have := HN.out; omega)
      have hie : i < es.length := by have := HN.out; omega
      obtain ⟨e, he⟩ : ∃ e, es[i]? = some e := ⟨_, List.getElem?_eq_getElem hie⟩
      have c1 : w.cell? ⟨g, i, none⟩ = some e.val := HH.out.rb.slot (by rw [List.getElem?_map, he]; rfl)
      have c2 : w.cell? ⟨g2, i, none⟩ = some e.was := HH.out.rws.slot (by rw [List.getElem?_map, he]; rfl)
      have r1 := HH.out.val i e he
      have r2 := HH.out.was i e he
      obtain ⟨hold, hlen⟩ := HS.out i e he
      rw [hold] at r2
      obtain ⟨a1, d1, e1, _⟩ := r1.isSlice
      obtain ⟨a2, d2, e2, _⟩ := r2.isSlice
      rw [e1] at c1 r1
      rw [e2] at c2 r2
      have HC : Hid (∀ x, Calls Try.prog 15 #[.slice a1 e.bs.length d1, .slice a2 e.bs.length d2] (w.drewN (k + x)) fun ev w' => ev = .returned (.bool true) ∧ ∃ m, w' = w.drewN (k + m)) := fun x => (same_true (r1.asByts.drew (k + x)) (r2.asByts.drew (k + x)) (by omega)).mono (fun ev w' ⟨he, m, hm⟩ => ⟨he, x + m, by rw [hm]; simp [Nat.add_assoc]⟩)
      obtain ⟨lb, hlb⟩ : ∃ l, e.bs.length = l := ⟨_, rfl⟩
      rw [hlb] at c1 c2 HC
      clear r1 r2 e1 e2 hold hlen hlb he hie
      go_wp2_with fail
      go_quiet ((go_at_call 15; first | exact HC.out _ | (simp only [World.drewN_drewN]; exact HC.out _)))
      go_wp2_with fail
      go_roundw
      case rel => exact ⟨rfl, i + 1, _, hlt, by go_num, rfl⟩
      case measure => simp [intOf]; omega
    · have hlt1 : ¬ (i : Int) < n := by omega
      go_wp2_with fail
      refine wp_loop_rounds 1 ?_
      rw [rounds_succ]
      go_wp2_with fail
      refine wp_loop_rounds 1 ?_
      rw [rounds_succ]
      go_wp2_with fail
      go_ret
      exact ⟨rfl, k, rfl⟩
end Go.Proofs.Ytlgjjemfckmidaa
