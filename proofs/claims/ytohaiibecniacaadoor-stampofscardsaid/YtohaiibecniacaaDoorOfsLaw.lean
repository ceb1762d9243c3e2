/-
  The law StampOfs, walked: both Of by their contracts, 'is' by its.
-/
import Derived.Test.YtohaiibecniacaaDoorRefOf
namespace Go.Proofs.YtohaiibecniacaaDoor
open Go.RowKit

theorem errType_below {w w' : World} (h : ErrType w) (hb : Below w.heap.size w w') : ErrType w' := by
  unfold ErrType; rw [hb.cell (p := ⟨0, 0, none⟩) (cell_lt h)]; exact h
theorem faultAt_below {w w' : World} {b : Nat} {a c : Int} (h : FaultAt w b a c) (hb : Below w.heap.size w w') : FaultAt w' b a c := by
  have hl : b < w.heap.size := cell_lt h.1
  have hc : ∀ q, w'.cell? ⟨b, q, none⟩ = w.cell? ⟨b, q, none⟩ := fun q => hb.cell (p := ⟨b, q, none⟩) hl
  unfold FaultAt; simp only [hc]; exact h

theorem below_step {w w1 w2 : World} {o : Obj} (h1 : Below w.heap.size w w1) (h2 : Below (w1.alloc o).heap.size (w1.alloc o) w2) : Below w.heap.size w w2 :=
  h1.trans ((((Below.refl w1.heap.size w1).alloc (Nat.le_refl _) o).trans (h2.mono (by simp))).mono h1.size)
theorem below_new {w w1 : World} (h1 : Below w.heap.size w w1) (o : Obj) : Below w.heap.size w (w1.alloc o) := h1.alloc h1.size o
theorem below_then {w w1 w2 : World} (h1 : Below w.heap.size w w1) (h2 : Below w1.heap.size w1 w2) : Below w.heap.size w w2 := h1.trans (h2.mono h1.size)

set_option maxHeartbeats 1000000 in
theorem ofs_bad (t level : Int) (w : World) (hE : ErrType w) (h : t < 0 ∨ 3155378975999999 < t ∨ (level ≠ 6 ∧ level ≠ 7)) :
    Calls Tryd.prog 3 #[.int .i64 t, .int .i64 level] w fun e w' => e = .returned (.bool true) ∧ Below w.heap.size w w' := by
  have HH : Hid (t < 0 ∨ 3155378975999999 < t ∨ (level ≠ 6 ∧ level ≠ 7)) := h
  have HE : Hid (ErrType w) := hE
  clear h hE
  go_enter Tryd.func3, Tryd.ntmps3
  go_wp2_with fail
  refine (of_bad _ _ _ HH.out).mono ?_
  rintro e w1 ⟨⟨b, rfl, hf⟩, hb1⟩
  have HF : Hid (FaultAt w1 b 0 2) := hf
  have HB1 : Hid (Below w.heap.size w w1) := hb1
  clear hf hb1
  go_wp2_with fail
  refine (refOf_bad _ _ _ HH.out).mono ?_
  rintro e w2 ⟨rfl, hb2⟩
  obtain ⟨hc, hf⟩ := bcell hb2
  have hz : w1.heap.size < w2.heap.size := by have := hb2.size; simp at this; omega
  have HB2 : Hid (Below w.heap.size w w2) := below_step HB1.out hb2
  have HF2 : Hid (FaultAt w2 b 0 2) := faultAt_below HF.out (below_step (Below.refl _ _) hb2)
  clear hb2
  go_wp2_with fail
  refine (isFault _ _ _ _ (by decide) (errType_below HE.out (below_new HB2.out _)) (faultAt_below HF2.out (below_new (Below.refl _ _) _))).mono ?_
  rintro e w3 ⟨rfl, hb3⟩
  have HB3 : Hid (Below w.heap.size w w3) := below_then (below_new HB2.out _) hb3
  clear hb3
  go_wp2
  go_ret
  exact ⟨rfl, HB3.out⟩

set_option maxHeartbeats 1000000 in
theorem ofs_ok6 (t : Int) (w : World) (hM : Months w) (h0 : 0 ≤ t) (h1 : t ≤ 3155378975999999) :
    Calls Tryd.prog 3 #[.int .i64 t, .int .i64 6] w fun e w' => e = .returned (.bool true) ∧ Below w.heap.size w w' := by
  have HM : Hid (Months w) := hM
  clear hM
  go_enter Tryd.func3, Tryd.ntmps3
  go_wp2_with fail
  refine (of_ok _ _ _ HM.out h0 h1 (by omega)).mono ?_
  rintro e w1 ⟨⟨y, m, d, he, hv, hn⟩, hb1⟩
  rw [ofV6] at he
  subst he
  have HV : Hid (vldB y m d = true) := hv
  have HN : Hid (num y m d = t / 864000000) := hn
  have HB1 : Hid (Below w.heap.size w w1) := hb1
  clear hb1 hv hn
  go_wp2_with fail
  refine (refOf6 _ _ h0 h1).mono ?_
  rintro e w2 ⟨⟨y', m', d', he, hv, hn⟩, hb2⟩
  obtain ⟨rfl, rfl, rfl⟩ := num_inj HV.out hv (HN.out.trans hn.symm)
  rw [ofV6] at he
  subst he
  obtain ⟨hc, hf⟩ := bcell hb2
  have hz : w1.heap.size < w2.heap.size := by have := hb2.size; simp at this; omega
  have HB2 : Hid (Below w.heap.size w w2) := below_step HB1.out hb2
  clear hb2 hv hn
  go_wp2_with fail
  refine (isOk _ _).mono ?_
  rintro e w3 ⟨rfl, rfl⟩
  go_wp2
  go_ret
  exact ⟨rfl, below_new HB2.out _⟩

set_option maxHeartbeats 1000000 in
theorem ofs_ok7 (t : Int) (w : World) (hM : Months w) (h0 : 0 ≤ t) (h1 : t ≤ 3155378975999999) :
    Calls Tryd.prog 3 #[.int .i64 t, .int .i64 7] w fun e w' => e = .returned (.bool true) ∧ Below w.heap.size w w' := by
  have HM : Hid (Months w) := hM
  clear hM
  go_enter Tryd.func3, Tryd.ntmps3
  go_wp2_with fail
  refine (of_ok _ _ _ HM.out h0 h1 (by omega)).mono ?_
  rintro e w1 ⟨⟨y, m, d, he, hv, hn⟩, hb1⟩
  rw [ofV7] at he
  subst he
  have HV : Hid (vldB y m d = true) := hv
  have HN : Hid (num y m d = t / 864000000) := hn
  have HB1 : Hid (Below w.heap.size w w1) := hb1
  clear hb1 hv hn
  go_wp2_with fail
  refine (refOf7 _ _ h0 h1).mono ?_
  rintro e w2 ⟨⟨y', m', d', he, hv, hn⟩, hb2⟩
  obtain ⟨rfl, rfl, rfl⟩ := num_inj HV.out hv (HN.out.trans hn.symm)
  rw [ofV7] at he
  subst he
  obtain ⟨hc, hf⟩ := bcell hb2
  have hz : w1.heap.size < w2.heap.size := by have := hb2.size; simp at this; omega
  have HB2 : Hid (Below w.heap.size w w2) := below_step HB1.out hb2
  clear hb2 hv hn
  go_wp2_with fail
  refine (isOk _ _).mono ?_
  rintro e w3 ⟨rfl, rfl⟩
  go_wp2
  go_ret
  exact ⟨rfl, below_new HB2.out _⟩

theorem ofs_any (t level : Int) (w : World) (hM : Months w) (hE : ErrType w) :
    Calls Tryd.prog 3 #[.int .i64 t, .int .i64 level] w fun e w' => e = .returned (.bool true) ∧ Below w.heap.size w w' := by
  by_cases h : t < 0 ∨ 3155378975999999 < t ∨ (level ≠ 6 ∧ level ≠ 7)
  · exact ofs_bad t level w hE h
  · have hl : level = 6 ∨ level = 7 := by omega
    rcases hl with rfl | rfl
    · exact ofs_ok6 t w hM (by omega) (by omega)
    · exact ofs_ok7 t w hM (by omega) (by omega)
end Go.Proofs.YtohaiibecniacaaDoor
