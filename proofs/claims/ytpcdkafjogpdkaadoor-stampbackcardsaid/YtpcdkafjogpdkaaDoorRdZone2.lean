/-
  The program's reader: zone, in terms of zoneS.
-/
import Derived.Test.YtpcdkafjogpdkaaDoorRdZone
namespace Go.Proofs.YtpcdkafjogpdkaaDoor
open Go.RowKit

theorem zone_any {R K : Nat} {s : ByteArray} {a : Nat} {bad : Option Nat} {v : Value} {l : Int} (w : World) (h : Rdr w R s a bad v) (hRK : R ≠ K) (k0 : w.cell? ⟨K, 0, none⟩ = some (.int .i64 l)) (k9 : w.cell? ⟨K, 9, none⟩ = some (.bool false)) (k10 : w.cell? ⟨K, 10, none⟩ = some (.int .i64 0))
    (f9 : w.frozen? ⟨K, 9, none⟩ = false) (f10 : w.frozen? ⟨K, 10, none⟩ = false) :
    Calls Tryd.prog 31 #[.pointer (some ⟨R, 0, none⟩), .pointer (some ⟨K, 0, none⟩)] w fun e w' => e = .returned (.tuple #[]) ∧ (∃ v', Rdr w' R s (zoneS s a bad).2.2.1 (zoneS s a bad).2.2.2 v') ∧ w'.cell? ⟨K, 9, none⟩ = some (.bool (zoneS s a bad).1) ∧ w'.cell? ⟨K, 10, none⟩ = some (.int .i64 (zoneS s a bad).2.1) ∧ (∀ o, o ≠ 9 → o ≠ 10 → w'.cell? ⟨K, o, none⟩ = w.cell? ⟨K, o, none⟩) ∧ Off (RK R K) w w' := by
  by_cases hs : ahd s a bad = 43 ∨ ahd s a bad = 45
  · obtain ⟨rfl, _⟩ := sign_in hs
    obtain ⟨⟨n, a1, b1⟩, hi⟩ : ∃ x, itr s 4 (0, a + 1, none) = x := ⟨_, rfl⟩
    have e : zoneS s a none = (true, zval (ahd s a none) n, a1, if zbad (ahd s a none) n then orB b1 a else b1) := by unfold zoneS; rw [if_pos hs, hi]
    rw [e]
    rcases hs with hc | hc
    · rw [hc]
      by_cases g1 : 1400 < n
      · rw [show zbad 43 n = true by simp [zbad, g1], if_pos rfl]; exact zone_p_big w h hRK k0 k9 k10 f9 f10 hc hi g1
      · by_cases g2 : 59 < n % 100
        · rw [show zbad 43 n = true by simp [zbad, g2], if_pos rfl]; exact zone_p_min w h hRK k0 k9 k10 f9 f10 hc hi g1 g2
        · rw [show zbad 43 n = false by simp [zbad]; omega, if_neg (by decide)]; exact zone_p_ok w h hRK k0 k9 k10 f9 f10 hc hi g1 g2
    · rw [hc]
      by_cases g1 : 1400 < n
      · rw [show zbad 45 n = true by simp [zbad, g1], if_pos rfl]; exact zone_m_big w h hRK k0 k9 k10 f9 f10 hc hi g1
      · by_cases g2 : 59 < n % 100
        · rw [show zbad 45 n = true by simp [zbad, g2], if_pos rfl]; exact zone_m_min w h hRK k0 k9 k10 f9 f10 hc hi g1 g2
        · by_cases g3 : n = 0
          · subst g3; rw [show zbad 45 0 = true by rfl, if_pos rfl]; exact zone_m_zero w h hRK k0 k9 k10 f9 f10 hc hi
          · rw [show zbad 45 n = false by simp [zbad]; omega, if_neg (by decide)]; exact zone_m_ok w h hRK k0 k9 k10 f9 f10 hc hi g1 g2 (by simpa using g3)
  · have e : zoneS s a bad = (false, 0, a, bad) := by unfold zoneS; rw [if_neg hs]
    rw [e]
    refine (zone_no w h (fun g => hs (Or.inl g)) (fun g => hs (Or.inr g))).mono ?_
    rintro e w' ⟨he, n, rfl⟩
    exact ⟨he, ⟨v, h.drewN n⟩, by simpa using k9, by simpa using k10, fun o _ _ => by simp, (Off.refl _ _).drewN n⟩
end Go.Proofs.YtpcdkafjogpdkaaDoor
