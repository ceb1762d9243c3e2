/-
  Book.Still: what is kept is as it came.
-/
import Derived.Test.YtjdpjielpbiedaaGreatDoorKMark
namespace Go.Proofs.YtjdpjielpbiedaaGreatDoor.Td
open Go.RowKit

set_option maxRecDepth 100000 in
set_option maxHeartbeats 2000000 in
theorem Still_true {w : World} {B K : Nat} {ρ : Nat → Nat} {vb vw : Value} {es : List Ent} (h : Bk w B K ρ vb vw es) (hs : ∀ (i : Nat) (e : Ent), es[i]? = some e → e.old = e.bs ∧ e.bs.length ≤ 1000 ∧ (∀ u ∈ e.bs, ∃ s, u = .string s)) (hm : es.length ≤ 4) :
    Calls Tryz.prog 25 #[.pointer (some ⟨K, 0, none⟩)] w fun e w' => e = .returned (.bool true) ∧ ∃ k, w' = w.drewN k := by
  have HH : Hid (Bk w B K ρ vb vw es) := h
  have HS : Hid (∀ (i : Nat) (e : Ent), es[i]? = some e → e.old = e.bs ∧ e.bs.length ≤ 1000 ∧ (∀ u ∈ e.bs, ∃ s, u = .string s)) := hs
  obtain ⟨ab, cb, rfl, hab⟩ := VRow.isSlice h.rb
  obtain ⟨aw, cw, rfl, haw⟩ := h.rws.isSlice
  have HA : Hid ((0 < es.length → ∃ g, ab = some ⟨g, 0, none⟩) ∧ (0 < es.length → ∃ g, aw = some ⟨g, 0, none⟩)) := by simp only [List.length_map] at hab haw; exact ⟨hab, haw⟩
  obtain ⟨n, hn⟩ : ∃ n, es.length = n := ⟨_, rfl⟩
  have HN : Hid (es.length = n) := hn
  have q0 := h.c0
  have q2 := h.c2
  have q4 := h.c4
  have q5 := h.c5
  rw [List.length_map, hn] at q4 q5
  rw [hn] at hm
  clear h hs hab haw hn
  go_enter Tryz.func25, Tryz.ntmps25
  go_wp2_with fail
  refine wp_loop_rounds 1 ?_
  rw [rounds_succ]
  go_wp2_with fail
  refine wp_loop_rounds 1 ?_
  rw [rounds_succ]
  go_wp2_with fail
  go_loopw [3, 6] (fun t3 t4 wx => t3 = .bool true ∧ ∃ i k : Nat, i ≤ n ∧ t4 = .int .i64 i ∧ wx = w.drewN k) (fun _ t4 _ => n - (intOf t4).toNat)
  case atStart => exact ⟨rfl, 0, 0, Nat.zero_le _, rfl, rfl⟩
  case round =>
    obtain ⟨rfl, i, k, hi, rfl, rfl⟩ := hrel
    by_cases hlt : i < n
    · have hlt1 : (i : Int) < n := by omega
      obtain ⟨g, rfl⟩ := HA.out.1 (by have := HN.out; omega)
      obtain ⟨g2, rfl⟩ := HA.out.2 (by have := HN.out; omega)
      have hie : i < es.length := by have := HN.out; omega
      obtain ⟨e, he⟩ : ∃ e, es[i]? = some e := ⟨_, List.getElem?_eq_getElem hie⟩
      have c1 : w.cell? ⟨g, i, none⟩ = some e.val := HH.out.rb.slot (by rw [List.getElem?_map, he]; rfl)
      have c2 : w.cell? ⟨g2, i, none⟩ = some e.was := HH.out.rws.slot (by rw [List.getElem?_map, he]; rfl)
      have r1 := HH.out.val i e he
      have r2 := HH.out.was i e he
      obtain ⟨hold, hlen, hstr⟩ := HS.out i e he
      rw [hold] at r2
      obtain ⟨a1, d1, e1, _⟩ := VRow.isSlice r1
      obtain ⟨a2, d2, e2, _⟩ := VRow.isSlice r2
      rw [e1] at c1 r1
      rw [e2] at c2 r2
      have HC : Hid (∀ x, Calls Tryz.prog 12 #[.slice a1 e.bs.length d1, .slice a2 e.bs.length d2] (w.drewN (k + x)) fun ev w' => ev = .returned (.bool true) ∧ ∃ m, w' = w.drewN (k + m)) := fun x => (sameT_true (VRow.below r1 (below_drewN (Below.refl _ _) (k + x))) (VRow.below r2 (below_drewN (Below.refl _ _) (k + x))) hstr (by omega)).mono (fun ev w' ⟨he, m, hm⟩ => ⟨he, x + m, by rw [hm]; simp [Nat.add_assoc]⟩)
      obtain ⟨lb, hlb⟩ : ∃ l, e.bs.length = l := ⟨_, rfl⟩
      rw [hlb] at c1 c2 HC
      clear r1 r2 e1 e2 hold hlen hlb he hie hstr
      go_wp2_with fail
      go_quiet ((go_at_call 12; first | exact HC.out _ | (simp only [World.drewN_drewN]; exact HC.out _)))
      go_wp2_with fail
      go_roundw
      case rel => exact ⟨rfl, i + 1, _, hlt, by go_num, rfl⟩
      case measure => simp [intOf]; omega
    · have hlt1 : ¬ (i : Int) < n := by omega
      go_wp2_with fail
      go_ret
      exact ⟨rfl, k, rfl⟩
end Go.Proofs.YtjdpjielpbiedaaGreatDoor.Td
