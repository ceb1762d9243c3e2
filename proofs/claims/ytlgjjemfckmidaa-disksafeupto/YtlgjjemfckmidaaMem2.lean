/-
  couriermem.Kept; disk.From, Disk.Read.
-/
import Derived.Test.YtlgjjemfckmidaaMem
namespace Go.Proofs.Ytlgjjemfckmidaa
open Go.RowKit

theorem Row.bytes {w : World} {B g n cap : Nat} {xs : List Int} (h : Row w B (.slice (some ⟨g, 0, none⟩) n cap) xs) : Byts w (some ⟨g, 0, none⟩) n xs := by
  obtain ⟨hn, hc⟩ := h.cell
  refine ⟨hn.symm, fun j hj => ⟨g, 0, rfl, (h.lt (g := g) rfl).2, ?_⟩⟩
  rw [Nat.zero_add]
  exact hc j (by omega)
theorem marked_at {bs : List Int} {m j : Nat} (hm : bs.length = m) (hj : j < 90) : (bs ++ marks).getD (m + j) 0 = 100 + (j : Int) := by
  rw [List.getD_eq_getElem?_getD, List.getElem?_append_right (by omega), hm, Nat.add_sub_cancel_left, ← List.getD_eq_getElem?_getD, marks_at j hj]
set_option maxRecDepth 100000 in
set_option maxHeartbeats 2000000 in
theorem Kept_true {po : Option Addr} {B g m c : Nat} {bs : List Int} (w : World) (hR : Row w B (.slice (some ⟨g, 0, none⟩) (m + 90) (m + 90)) (bs ++ marks)) (hb : Byts w po m bs) (hm : m + 90 ≤ 140737488355328) : Calls Try.prog 34 #[.slice (some ⟨g, 0, none⟩) m (m + 90), .slice po m c] w fun e w' => e = .returned (.bool true) ∧ ∃ k, w' = w.drewN k := by
  have HR : Hid (Row w B (.slice (some ⟨g, 0, none⟩) (m + 90) (m + 90)) (bs ++ marks)) := hR
  have HB : Hid (Byts w po m bs) := hb
  have HL : Hid (bs.length = m) := hb.len
  clear hR hb
  go_enter Try.func34, Try.ntmps34
  go_wp2_with fail
  go_loopw [6] (fun ti wx => ∃ j : Nat, j ≤ 90 ∧ ti = .int .i64 j ∧ ∃ k, wx = w.drewN k) (fun ti _ => 90 - (intOf ti).toNat)
  case atStart => exact ⟨0, by omega, rfl, 0, rfl⟩
  case round =>
    obtain ⟨j, hj, rfl, k, rfl⟩ := hrel
    by_cases hlt : j < 90
    · have hlt1 : (j : Int) < 90 := by omega
      have k1 : w.cell? ⟨g, m + j, none⟩ = some (.int .u8 (100 + (j : Int))) := by
        have h := HR.out.slot (j := m + j) (by simp [marks]; have := HL.out; omega)
        rw [marked_at HL.out hlt] at h
        exact h
      go_wp2_with fail
      go_roundw
      case rel => exact ⟨j + 1, hlt, by go_num, _, by first | rfl | exact World.drewN_drew _ _⟩
      case measure => simp [intOf]; omega
    · have hlt1 : ¬ (j : Int) < 90 := by omega
      go_wp2_with fail
      have hp := (HR.out.prefix (m := m) (by omega)).bytes
      rw [List.take_left' HL.out] at hp
      refine (same_true (hp.drew k) (HB.out.drew k) (by omega)).mono ?_
      rintro e w1 ⟨rfl, k2, rfl⟩
      go_wp2_with fail
      go_ret
      exact ⟨rfl, k + k2, by simp⟩
section
variable {w0 w : World} {B K : Nat} {v0 v1 : Value} {x0 x1 : List Int} {s0 s1 : Nat} {st fu na ns nc : Int} {po : Option Addr} {m c : Nat} {bs : List Int}
theorem put0_rel (h : Dsk w0 B K v0 v1 x0 x1 s0 s1 st fu na ns nc) (ha : Off (fun _ => False) w0 w) (hb : Byts w0 po m bs) (hpo : po = none → c = 0) (hl : x0.length + m ≤ 16777216) :
    Calls Try.prog 59 #[.pointer (some ⟨K, 0, none⟩), .slice po m c] w fun e w' => e = .returned (.tuple #[]) ∧ ∃ v', Dsk w' B K v' v1 (x0 ++ bs) x1 s0 s1 st fu na ns nc ∧ DStep w0 w' K v0 v1 v' v1 := by
  have hd := h.off ha (fun _ _ => id)
  refine (put_any w hd.a0 (hb.off ha (fun _ _ _ => id)) hpo hl (by have := hd.hB; have := hd.hK; omega)).mono ?_
  rintro e w' ⟨he, v', a', s'⟩
  obtain ⟨d', t'⟩ := hd.area0 a' s'
  exact ⟨he, v', d', DStep.trans ⟨ha.mono (fun _ e => e.elim), fun _ _ g => g⟩ t'⟩
theorem put1_rel (h : Dsk w0 B K v0 v1 x0 x1 s0 s1 st fu na ns nc) (ha : Off (fun _ => False) w0 w) (hb : Byts w0 po m bs) (hpo : po = none → c = 0) (hl : x1.length + m ≤ 16777216) :
    Calls Try.prog 59 #[.pointer (some ⟨K, 2, none⟩), .slice po m c] w fun e w' => e = .returned (.tuple #[]) ∧ ∃ v', Dsk w' B K v0 v' x0 (x1 ++ bs) s0 s1 st fu na ns nc ∧ DStep w0 w' K v0 v1 v0 v' := by
  have hd := h.off ha (fun _ _ => id)
  refine (put_any w hd.a1 (hb.off ha (fun _ _ _ => id)) hpo hl (by have := hd.hB; have := hd.hK; omega)).mono ?_
  rintro e w' ⟨he, v', a', s'⟩
  obtain ⟨d', t'⟩ := hd.area1 a' s'
  exact ⟨he, v', d', DStep.trans ⟨ha.mono (fun _ e => e.elim), fun _ _ g => g⟩ t'⟩
theorem sync0_rel (h : Dsk w B K v0 v1 x0 x1 s0 s1 st fu na ns nc) :
    Calls Try.prog 60 #[.pointer (some ⟨K, 0, none⟩)] w fun e w' => e = .returned (.tuple #[]) ∧ Dsk w' B K v0 v1 x0 x1 x0.length s1 st fu na ns nc ∧ DStep w w' K v0 v1 v0 v1 := by
  refine (sync_any w h.a0).mono ?_
  rintro e w' ⟨he, a', s'⟩
  obtain ⟨d', t'⟩ := h.area0 a' s'
  exact ⟨he, d', t'⟩
theorem sync1_rel (h : Dsk w B K v0 v1 x0 x1 s0 s1 st fu na ns nc) :
    Calls Try.prog 60 #[.pointer (some ⟨K, 2, none⟩)] w fun e w' => e = .returned (.tuple #[]) ∧ Dsk w' B K v0 v1 x0 x1 s0 x1.length st fu na ns nc ∧ DStep w w' K v0 v1 v0 v1 := by
  refine (sync_any w h.a1).mono ?_
  rintro e w' ⟨he, a', s'⟩
  obtain ⟨d', t'⟩ := h.area1 a' s'
  exact ⟨he, d', t'⟩
end
end Go.Proofs.Ytlgjjemfckmidaa
