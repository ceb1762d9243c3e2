/-
  The program's link: frames, slices.IndexFunc.
-/
import Derived.Test.YtpcickhellkiaaaDoorLpLeaf
namespace Go.Proofs.YtpcickhellkiaaaDoor
open Go.RowKit

set_option maxHeartbeats 400000 in
theorem frames_yes (b : Int) (w : World) (h : frB b = true) : Calls Tryd.prog 40 #[.int .u8 b] w fun e w' => e = .returned (.bool true) ∧ w' = w := by
  by_cases h1 : b = 11
  · subst h1
    go_enter Tryd.func40, Tryd.ntmps40
    go_wp2
    go_ret
    exact ⟨rfl, rfl⟩
  · have h1' : (b == 11) = false := by simp; exact h1
    by_cases h2 : b = 28
    · subst h2
      go_enter Tryd.func40, Tryd.ntmps40
      go_wp2
      go_ret
      exact ⟨rfl, rfl⟩
    · obtain rfl : b = 13 := by simpa [frB, h1, h2] using h
      go_enter Tryd.func40, Tryd.ntmps40
      go_wp2
      go_ret
      exact ⟨rfl, rfl⟩
set_option maxHeartbeats 400000 in
theorem frames_no (b : Int) (w : World) (h : frB b = false) : Calls Tryd.prog 40 #[.int .u8 b] w fun e w' => e = .returned (.bool false) ∧ w' = w := by
  simp only [frB, Bool.or_eq_false_iff] at h
  obtain ⟨⟨h1, h2⟩, h3⟩ := h
  go_enter Tryd.func40, Tryd.ntmps40
  go_wp2
  go_ret
  exact ⟨rfl, rfl⟩
/-- The place of the first byte that frames. -/
def frI (bs : List Int) : Int := match bs.findIdx? frB with | some i => (i : Int) | none => -1
theorem frI_some {bs : List Int} {i : Nat} (hi : i < bs.length) (h : frB (bs.getD i 0) = true) (hn : ∀ j, j < i → frB (bs.getD j 0) = false) : frI bs = (i : Int) := by
  have e : bs.findIdx? frB = some i := by
    rw [List.findIdx?_eq_some_iff_getElem]
    refine ⟨hi, ?_, fun j hj => ?_⟩
    · rw [List.getD_eq_getElem?_getD, List.getElem?_eq_getElem hi] at h
      exact h
    · have := hn j hj
      rw [List.getD_eq_getElem?_getD, List.getElem?_eq_getElem (by omega)] at this
      simp only [Option.getD_some] at this
      simp [this]
  unfold frI
  rw [e]
theorem frI_none {bs : List Int} (hn : ∀ j, j < bs.length → frB (bs.getD j 0) = false) : frI bs = -1 := by
  have e : bs.findIdx? frB = none := by
    rw [List.findIdx?_eq_none_iff]
    intro z hz
    obtain ⟨j, hj, rfl⟩ := List.mem_iff_getElem.1 hz
    have := hn j hj
    rw [List.getD_eq_getElem?_getD, List.getElem?_eq_getElem hj] at this
    exact this
  unfold frI
  rw [e]
set_option maxRecDepth 100000 in
set_option maxHeartbeats 2000000 in
theorem index_any {w : World} {po : Option Addr} {m c : Nat} {bs : List Int} (hb : Byts w po m bs) (hm : m ≤ 64) : Calls Tryd.prog 39 #[.slice po m c, .func (.func 40) #[] #[]] w fun e w' => e = .returned (.int .i64 (frI bs)) ∧ w' = w := by
  have HB : Hid (Byts w po m bs) := hb
  have HL : Hid (bs.length = m) := hb.len
  obtain ⟨R, hR⟩ : ∃ R, frI bs = R := ⟨_, rfl⟩
  have HR : Hid (frI bs = R) := hR
  rw [hR]
  clear hb hR
  go_enter Tryd.func39, Tryd.ntmps39
  go_wp2_with fail
  go_loopw [8] (fun t8 wx => ∃ i : Nat, i ≤ m ∧ t8 = .int .i64 i ∧ wx = w ∧ Hid (∀ j, j < i → frB (bs.getD j 0) = false)) (fun t8 _ => m - (intOf t8).toNat)
  case atStart => exact ⟨0, Nat.zero_le _, rfl, rfl, fun j hj => by omega⟩
  case round =>
    obtain ⟨i, hi, rfl, rfl, HI⟩ := hrel
    by_cases hlt : i < m
    · have hlt1 : (i : Int) < m := by omega
      obtain ⟨b, o, rfl, _, hcell⟩ := HB.out.cell i hlt
      by_cases hf : frB (bs.getD i 0) = true
      · have hE := frames_yes _ wr hf
        have eR : R = (i : Int) := by rw [← HR.out]; exact frI_some (by rw [HL.out]; exact hlt) hf HI.out
        subst eR
        clear hf
        go_wp2_with fail
        refine hE.mono ?_
        rintro e w1 ⟨rfl, rfl⟩
        go_wp2_with fail
        go_ret
        exact ⟨rfl, rfl⟩
      · have hE := frames_no _ wr (by simpa using hf)
        have HI2 : Hid (∀ j, j < i + 1 → frB (bs.getD j 0) = false) := fun j hj => by
          rcases (by omega : j < i ∨ j = i) with g | rfl
          · exact HI.out j g
          · simpa using hf
        clear hf HI
        go_wp2_with fail
        refine hE.mono ?_
        rintro e w1 ⟨rfl, rfl⟩
        go_wp2_with fail
        go_roundw
        case rel => exact ⟨i + 1, hlt, by go_num, trivial, HI2⟩
        case measure => simp [intOf]; omega
    · have hlt1 : ¬ (i : Int) < m := by omega
      have eR : R = -1 := by rw [← HR.out]; exact frI_none fun j hj => HI.out j (by have := HL.out; omega)
      subst eR
      go_wp2_with fail
      go_ret
      exact ⟨rfl, rfl⟩
end Go.Proofs.YtpcickhellkiaaaDoor
