/-
  The law's made: New on both sides.
-/
import Derived.Test.YtplhdgijjckjcaaGreatDoorIcPl2
import Derived.Test.YtplhdgijjckjcaaGreatDoorIcPl8
import Derived.Test.YtplhdgijjckjcaaGreatDoorIbCode
namespace Go.Proofs.YtplhdgijjckjcaaGreatDoor
open Go.RowKit

theorem blk_alloc {w : World} {q : Nat} {o : Obj} (h : w.heap[q]? = some o) (o' : Obj) : (w.alloc o').heap[q]? = some o := ((Below.refl w.heap.size w).alloc (Nat.le_refl _) o').block q (blk_lt h) |>.trans h
theorem blk_drew {w : World} {q : Nat} {o : Obj} (h : w.heap[q]? = some o) : w.drew.heap[q]? = some o := h
theorem below_drew' {w a : World} (h : Below w.heap.size w a) : Below w.heap.size w a.drew := h.drew
theorem below_alloc' {w a : World} (h : Below w.heap.size w a) (o : Obj) : Below w.heap.size w (a.alloc o) := h.alloc h.size o
section
variable {w : World}
/-- Both boxes just made. -/
def Eo (o : Option (Int × Int)) (z : World) (B : Nat) (bv mk ke rm : Value) : Prop := ∀ X, Sd z B 0 0 0 X bv mk ke rm (.slice none 0 0) [] [] o
/-- A pair just made. -/
theorem ls_new {w w' : World} {X K : Nat} {bv mk ke rm : Value} {o : Option (Int × Int)} (hX : w'.heap[X]? = some (.cells #[bv, mk, ke, rm, .slice none 0 0, .pointer (some ⟨K, 0, none⟩), .slice none 0 0, .slice none 0 0] 44 (0, 0))) (hK : w'.heap[K]? = some (.cells #[.slice none 0 0, .slice none 0 0, .slice none 0 0, .slice none 0 0, .slice none 0 0, .slice none 0 0] 37 (0, 0))) (hb : Below w.heap.size w w') (he : Eo o w' w.heap.size bv mk ke rm) (lX : w.heap.size ≤ X) (lK : w.heap.size ≤ K) : LS w X K bv mk ke rm (.slice none 0 0) 0 0 0 o [] [] 0 w' :=
  ⟨⟨_, _, _, _, _, _, [], [], [], [], [], [], hX, hK, ⟨ERow.nil _ _ _ _ _, ERow.nil _ _ _ _ _, fun q e => (by cases e), Nat.le_refl _, Nat.le_refl _⟩, ⟨ERow.nil _ _ _ _ _, ERow.nil _ _ _ _ _, fun q e => (by cases e), Nat.le_refl _, Nat.le_refl _⟩, ⟨ERow.nil _ _ _ _ _, ERow.nil _ _ _ _ _, fun q e => (by cases e), Nat.le_refl _, Nat.le_refl _⟩⟩, he X, hb, lX, lK⟩
end
section
variable {w V w5 : World} {bv mk ke rm : Value} {o : Option (Int × Int)}
theorem lsC (hb : Below w.heap.size w V) (hb5 : Below V.heap.size V w5) (he : ∀ z, Below V.heap.size V z → Eo o z w.heap.size bv mk ke rm) : LS w (w5.heap.size + 1) w5.heap.size bv mk ke rm (.slice none 0 0) 0 0 0 o [] [] 0 ((w5.alloc (.cells #[.slice none 0 0, .slice none 0 0, .slice none 0 0, .slice none 0 0, .slice none 0 0, .slice none 0 0] 37)).alloc (.cells #[bv, mk, ke, rm, .slice none 0 0, .pointer (some ⟨w5.heap.size, 0, none⟩), .slice none 0 0, .slice none 0 0] 44)) := by
  have h1 := hb.size
  have h2 := hb5.size
  exact ls_new (blk_new (by simp) rfl) (blk_alloc (blk_new rfl rfl) _) (below_alloc' (below_alloc' (below_then hb hb5) _) _) (he _ (below_alloc' (below_alloc' hb5 _) _)) (by omega) (by omega)
theorem lsB (hb : Below w.heap.size w V) (hb5 : Below V.heap.size V w5) (he : ∀ z, Below V.heap.size V z → Eo o z w.heap.size bv mk ke rm) (hz : Below (V.alloc (.cells #[.slice none 0 0, .slice none 0 0, .slice none 0 0, .slice none 0 0, .slice none 0 0, .slice none 0 0] 37)).drew.heap.size (V.alloc (.cells #[.slice none 0 0, .slice none 0 0, .slice none 0 0, .slice none 0 0, .slice none 0 0, .slice none 0 0] 37)).drew w5) : LS w w5.heap.size V.heap.size bv mk ke rm (.slice none 0 0) 0 0 0 o [] [] 0 (w5.alloc (.cells #[bv, mk, ke, rm, .slice none 0 0, .pointer (some ⟨V.heap.size, 0, none⟩), .slice none 0 0, .slice none 0 0] 44)) := by
  have h1 := hb.size
  have h2 := hb5.size
  exact ls_new (blk_new rfl rfl) (blk_alloc (blk_below (blk_drew (blk_new rfl rfl)) hz) _) (below_alloc' (below_then hb hb5) _) (he _ (below_alloc' hb5 _)) (by omega) (by omega)
theorem lsA (hb : Below w.heap.size w V) (hb5 : Below V.heap.size V w5) (he : ∀ z, Below V.heap.size V z → Eo o z w.heap.size bv mk ke rm) (hz : Below ((V.alloc (.cells #[.slice none 0 0, .slice none 0 0, .slice none 0 0, .slice none 0 0, .slice none 0 0, .slice none 0 0] 37)).alloc (.cells #[bv, mk, ke, rm, .slice none 0 0, .pointer (some ⟨V.heap.size, 0, none⟩), .slice none 0 0, .slice none 0 0] 44)).drew.heap.size ((V.alloc (.cells #[.slice none 0 0, .slice none 0 0, .slice none 0 0, .slice none 0 0, .slice none 0 0, .slice none 0 0] 37)).alloc (.cells #[bv, mk, ke, rm, .slice none 0 0, .pointer (some ⟨V.heap.size, 0, none⟩), .slice none 0 0, .slice none 0 0] 44)).drew w5) : LS w (V.heap.size + 1) V.heap.size bv mk ke rm (.slice none 0 0) 0 0 0 o [] [] 0 w5 := by
  have h1 := hb.size
  exact ls_new (blk_below (blk_drew (blk_new (by simp) rfl)) hz) (blk_below (blk_drew (blk_alloc (blk_new rfl rfl) _)) hz) (below_then hb hb5) (he _ hb5) (by omega) (by omega)
end
section
variable {w : World}
set_option maxRecDepth 100000 in
set_option maxHeartbeats 8000000 in
theorem made_n (k r : Int) (hE : ErrType w) (hn : ¬ (1 ≤ k ∧ k ≤ 64 ∧ 1 ≤ r ∧ r ≤ 32)) : Calls Tryz.prog 4 #[.int .i64 k, .int .i64 r] w fun e w' => ∃ X K bv mk ke rm o, e = .returned (.tuple #[.pointer (some ⟨X, 0, none⟩), .bool true]) ∧ Hid (LS w X K bv mk ke rm (.slice none 0 0) 0 0 0 o [] [] 0 w') := by
  have HE : Hid (ErrType w ∧ (¬ (1 ≤ k ∧ k ≤ 64 ∧ 1 ≤ r ∧ r ≤ 32))) := ⟨hE, hn⟩
  clear hE hn
  go_enter Tryz.func4, Tryz.ntmps4
  go_wp2_with fail
  refine (new_no k r w HE.out.2).mono ?_
  rintro _ w1 ⟨rfl, hf, b1⟩
  have H1 : Hid (IFault w1 w.heap.size 0 1 ∧ Below w.heap.size w w1) := ⟨hf, b1⟩
  clear hf b1
  go_wp2_with fail
  refine (rnew_no (w := w1) k r HE.out.2).mono ?_
  rintro _ w2 ⟨rfl, b2⟩
  have H2 : Hid (Below w.heap.size w w2 ∧ OEv w2 0 (.iface 98 (.pointer (some ⟨w.heap.size, 0, none⟩))) 0 1 ∧ Eo none w2 w.heap.size (.pointer none) (.bool false) (.int .i64 0) (.int .i64 0)) := ⟨below_then H1.out.2 b2, Or.inr ⟨by decide, _, rfl, Nat.zero_le _, H1.out.1.below b2⟩, fun _ => ⟨rfl, rfl, rfl, rfl, rfl, rfl, rfl⟩⟩
  clear b2 H1
  have HB2 : Hid (Below w.heap.size w (w2.alloc (.cells #[.bool false, .int .i64 0, .int .i64 0, .slice none 0 0] 41))) := below_alloc' H2.out.1 _
  have HV0 : Hid ((w2.alloc (.cells #[.bool false, .int .i64 0, .int .i64 0, .slice none 0 0] 41)).heap[w2.heap.size]? = some (.cells #[.bool false, .int .i64 0, .int .i64 0, .slice none 0 0] 41 (0, 0))) := heap_alloc_new _ _
  have HC0 : Hid (∀ z, Below (w2.alloc (.cells #[.bool false, .int .i64 0, .int .i64 0, .slice none 0 0] 41)).heap.size (w2.alloc (.cells #[.bool false, .int .i64 0, .int .i64 0, .slice none 0 0] 41)) z → Calls Tryz.prog 8 #[.iface 98 (.pointer (some ⟨w.heap.size, 0, none⟩))] z fun e z' => e = .returned (.int .i64 1) ∧ Hid (Below (w2.alloc (.cells #[.bool false, .int .i64 0, .int .i64 0, .slice none 0 0] 41)).heap.size (w2.alloc (.cells #[.bool false, .int .i64 0, .int .i64 0, .slice none 0 0] 41)) z') ∧ Hid (Below z.heap.size z z')) := fun z hz => by
    have b := below_then ((Below.refl w2.heap.size w2).alloc (Nat.le_refl _) _) hz
    exact (code_any (B := 0) (H2.out.2.1.below b) (errType_below HE.out.1 (below_then H2.out.1 b))).mono fun e z' ⟨e1, e2⟩ => ⟨e1, below_then hz e2, e2⟩
  have HEM : Hid (∀ z, Below (w2.alloc (.cells #[.bool false, .int .i64 0, .int .i64 0, .slice none 0 0] 41)).heap.size (w2.alloc (.cells #[.bool false, .int .i64 0, .int .i64 0, .slice none 0 0] 41)) z → Eo none z w.heap.size (.pointer none) (.bool false) (.int .i64 0) (.int .i64 0)) := fun z hz X => (H2.out.2.2 X).below (below_then ((Below.refl w2.heap.size w2).alloc (Nat.le_refl _) _) hz)
  have HSZ : Hid (w.heap.size ≤ w2.heap.size) := H2.out.1.size
  clear H2
  go_upto_region 3 with fail
  obtain ⟨V, hV⟩ : ∃ V, w2.alloc (.cells #[.bool false, .int .i64 0, .int .i64 0, .slice none 0 0] 41) = V := ⟨_, rfl⟩
  have hVs : V.heap.size = w2.heap.size + 1 := by rw [← hV]; simp
  rw [hV] at HB2 HV0 HC0 HEM ⊢
  clear hV
  obtain ⟨Rb, hRb⟩ : ∃ R, w2.heap.size = R := ⟨_, rfl⟩
  rw [hRb] at HV0 HSZ hVs ⊢
  clear hRb
  have gs : ∀ {z : World}, Below V.heap.size V z → z.cell? ⟨Rb, 0, none⟩ = some (.bool false) ∧ z.cell? ⟨Rb, 1, none⟩ = some (.int .i64 0) ∧ z.cell? ⟨Rb, 2, none⟩ = some (.int .i64 0) ∧ z.cell? ⟨Rb, 3, none⟩ = some (.slice none 0 0) := fun {z} hz => ⟨hcell (blk_below HV0.out hz) 0, hcell (blk_below HV0.out hz) 1, hcell (blk_below HV0.out hz) 2, hcell (blk_below HV0.out hz) 3⟩
  have HVS : Hid (V.heap.size = Rb + 1) := hVs
  clear hVs
  go_region_held3 (fun z => z.cell? ⟨Rb, 0, none⟩ = some (.bool false) ∧ z.cell? ⟨Rb, 1, none⟩ = some (.int .i64 0) ∧ z.cell? ⟨Rb, 2, none⟩ = some (.int .i64 0) ∧ z.cell? ⟨Rb, 3, none⟩ = some (.slice none 0 0)) ((refine gs ?_; (repeat' (first | (with_reducible exact Below.refl _ _) | (with_reducible exact Hid.out (by assumption)) | (with_reducible refine below_drew' ?_) | (with_reducible refine below_alloc' ?_ _))))) ((first | (go_at_call 8; refine (HC0.out _ ?_).mono ?_; (repeat' (first | (with_reducible exact Below.refl _ _) | (with_reducible exact Hid.out (by assumption)) | (with_reducible refine below_drew' ?_) | (with_reducible refine below_alloc' ?_ _))); rintro _ w5 ⟨rfl, hb5, hz5⟩) | (go_at_call 9; refine (num_any _ _).mono ?_; rintro _ w9 ⟨rfl, h9⟩; subst w9)))
  · clear gs HC0
    go_wp2_with fail
    go_ret2
    exact ⟨_, _, _, _, _, _, _, rfl, lsA HB2.out hb5.out HEM.out hz5.out⟩
  · clear gs HC0
    go_wp2_with fail
    go_ret2
    exact ⟨_, _, _, _, _, _, _, rfl, lsB HB2.out hb5.out HEM.out hz5.out⟩
  · clear gs HC0
    go_wp2_with fail
    go_ret2
    exact ⟨_, _, _, _, _, _, _, rfl, lsB HB2.out hb5.out HEM.out hz5.out⟩
  · clear gs HC0
    go_wp2_with fail
    go_ret2
    exact ⟨_, _, _, _, _, _, _, rfl, lsC HB2.out hb5.out HEM.out⟩
  · clear gs HC0
    go_wp2_with fail
    go_ret2
    exact ⟨_, _, _, _, _, _, _, rfl, lsC HB2.out hb5.out HEM.out⟩
  · clear gs HC0
    go_wp2_with fail
    go_ret2
    exact ⟨_, _, _, _, _, _, _, rfl, lsC HB2.out hb5.out HEM.out⟩
set_option maxRecDepth 100000 in
set_option maxHeartbeats 8000000 in
theorem made_y (k r : Int) (hE : ErrType w) (hn : 1 ≤ k ∧ k ≤ 64 ∧ 1 ≤ r ∧ r ≤ 32) : Calls Tryz.prog 4 #[.int .i64 k, .int .i64 r] w fun e w' => ∃ X K bv mk ke rm o, e = .returned (.tuple #[.pointer (some ⟨X, 0, none⟩), .bool true]) ∧ Hid (LS w X K bv mk ke rm (.slice none 0 0) 0 0 0 o [] [] 0 w') := by
  have HE : Hid (ErrType w ∧ (1 ≤ k ∧ k ≤ 64 ∧ 1 ≤ r ∧ r ≤ 32)) := ⟨hE, hn⟩
  clear hE hn
  go_enter Tryz.func4, Tryz.ntmps4
  go_wp2_with fail
  refine (new_yes (K := k) (R := r) w HE.out.2.1 HE.out.2.2.1 HE.out.2.2.2.1 HE.out.2.2.2.2).mono ?_
  rintro _ w1 ⟨b, sb, M, v, rfl, H1⟩
  go_wp2_with fail
  refine (rnew_ok (w := w1) k r HE.out.2).mono ?_
  rintro _ w2 ⟨rfl, b2⟩
  have H2 : Hid (Below w.heap.size w w2 ∧ OEv w2 0 .nilIface 0 0 ∧ Eo (some (k, r)) w2 w.heap.size (.pointer (some ⟨b, 0, none⟩)) (.bool true) (.int .i64 k) (.int .i64 r)) := ⟨below_then H1.out.2 b2, Or.inl ⟨rfl, rfl⟩, fun X => ⟨rfl, rfl, rfl, b, sb, M, v, [], [], rfl, ⟨H1.out.1.below b2, Tws.refl _, ERow.nil _ _ _ _ _, fun e he => (by cases he), Tws.refl _, inv_nil HE.out.2.1 HE.out.2.2.1 HE.out.2.2.2.1 HE.out.2.2.2.2, fun q _ hq => (by cases hq), fun q _ => Or.inr (Nat.zero_le _), fun q _ => Or.inr (Nat.zero_le _)⟩⟩⟩
  clear b2 H1
  have HB2 : Hid (Below w.heap.size w (w2.alloc (.cells #[.bool true, .int .i64 k, .int .i64 r, .slice none 0 0] 41))) := below_alloc' H2.out.1 _
  have HV0 : Hid ((w2.alloc (.cells #[.bool true, .int .i64 k, .int .i64 r, .slice none 0 0] 41)).heap[w2.heap.size]? = some (.cells #[.bool true, .int .i64 k, .int .i64 r, .slice none 0 0] 41 (0, 0))) := heap_alloc_new _ _
  have HC0 : Hid (∀ z, Below (w2.alloc (.cells #[.bool true, .int .i64 k, .int .i64 r, .slice none 0 0] 41)).heap.size (w2.alloc (.cells #[.bool true, .int .i64 k, .int .i64 r, .slice none 0 0] 41)) z → Calls Tryz.prog 8 #[.nilIface] z fun e z' => e = .returned (.int .i64 0) ∧ Hid (Below (w2.alloc (.cells #[.bool true, .int .i64 k, .int .i64 r, .slice none 0 0] 41)).heap.size (w2.alloc (.cells #[.bool true, .int .i64 k, .int .i64 r, .slice none 0 0] 41)) z') ∧ Hid (Below z.heap.size z z')) := fun z hz => by
    have b := below_then ((Below.refl w2.heap.size w2).alloc (Nat.le_refl _) _) hz
    exact (code_any (B := 0) (H2.out.2.1.below b) (errType_below HE.out.1 (below_then H2.out.1 b))).mono fun e z' ⟨e1, e2⟩ => ⟨e1, below_then hz e2, e2⟩
  have HEM : Hid (∀ z, Below (w2.alloc (.cells #[.bool true, .int .i64 k, .int .i64 r, .slice none 0 0] 41)).heap.size (w2.alloc (.cells #[.bool true, .int .i64 k, .int .i64 r, .slice none 0 0] 41)) z → Eo (some (k, r)) z w.heap.size (.pointer (some ⟨b, 0, none⟩)) (.bool true) (.int .i64 k) (.int .i64 r)) := fun z hz X => (H2.out.2.2 X).below (below_then ((Below.refl w2.heap.size w2).alloc (Nat.le_refl _) _) hz)
  have HSZ : Hid (w.heap.size ≤ w2.heap.size) := H2.out.1.size
  clear H2
  go_upto_region 3 with fail
  obtain ⟨V, hV⟩ : ∃ V, w2.alloc (.cells #[.bool true, .int .i64 k, .int .i64 r, .slice none 0 0] 41) = V := ⟨_, rfl⟩
  have hVs : V.heap.size = w2.heap.size + 1 := by rw [← hV]; simp
  rw [hV] at HB2 HV0 HC0 HEM ⊢
  clear hV
  obtain ⟨Rb, hRb⟩ : ∃ R, w2.heap.size = R := ⟨_, rfl⟩
  rw [hRb] at HV0 HSZ hVs ⊢
  clear hRb
  have gs : ∀ {z : World}, Below V.heap.size V z → z.cell? ⟨Rb, 0, none⟩ = some (.bool true) ∧ z.cell? ⟨Rb, 1, none⟩ = some (.int .i64 k) ∧ z.cell? ⟨Rb, 2, none⟩ = some (.int .i64 r) ∧ z.cell? ⟨Rb, 3, none⟩ = some (.slice none 0 0) := fun {z} hz => ⟨hcell (blk_below HV0.out hz) 0, hcell (blk_below HV0.out hz) 1, hcell (blk_below HV0.out hz) 2, hcell (blk_below HV0.out hz) 3⟩
  have HVS : Hid (V.heap.size = Rb + 1) := hVs
  clear hVs
  go_region_held3 (fun z => z.cell? ⟨Rb, 0, none⟩ = some (.bool true) ∧ z.cell? ⟨Rb, 1, none⟩ = some (.int .i64 k) ∧ z.cell? ⟨Rb, 2, none⟩ = some (.int .i64 r) ∧ z.cell? ⟨Rb, 3, none⟩ = some (.slice none 0 0)) ((refine gs ?_; (repeat' (first | (with_reducible exact Below.refl _ _) | (with_reducible exact Hid.out (by assumption)) | (with_reducible refine below_drew' ?_) | (with_reducible refine below_alloc' ?_ _))))) ((first | (go_at_call 8; refine (HC0.out _ ?_).mono ?_; (repeat' (first | (with_reducible exact Below.refl _ _) | (with_reducible exact Hid.out (by assumption)) | (with_reducible refine below_drew' ?_) | (with_reducible refine below_alloc' ?_ _))); rintro _ w5 ⟨rfl, hb5, hz5⟩) | (go_at_call 9; refine (num_any _ _).mono ?_; rintro _ w9 ⟨rfl, h9⟩; subst w9)))
  · clear gs HC0
    go_wp2_with fail
    go_ret2
    exact ⟨_, _, _, _, _, _, _, rfl, lsA HB2.out hb5.out HEM.out hz5.out⟩
  · clear gs HC0
    go_wp2_with fail
    go_ret2
    exact ⟨_, _, _, _, _, _, _, rfl, lsB HB2.out hb5.out HEM.out hz5.out⟩
  · clear gs HC0
    go_wp2_with fail
    go_ret2
    exact ⟨_, _, _, _, _, _, _, rfl, lsB HB2.out hb5.out HEM.out hz5.out⟩
  · clear gs HC0
    go_wp2_with fail
    go_ret2
    exact ⟨_, _, _, _, _, _, _, rfl, lsC HB2.out hb5.out HEM.out⟩
  · clear gs HC0
    go_wp2_with fail
    go_ret2
    exact ⟨_, _, _, _, _, _, _, rfl, lsC HB2.out hb5.out HEM.out⟩
  · clear gs HC0
    go_wp2_with fail
    go_ret2
    exact ⟨_, _, _, _, _, _, _, rfl, lsC HB2.out hb5.out HEM.out⟩
theorem made_any (k r : Int) (hE : ErrType w) : Calls Tryz.prog 4 #[.int .i64 k, .int .i64 r] w fun e w' => ∃ X K bv mk ke rm o, e = .returned (.tuple #[.pointer (some ⟨X, 0, none⟩), .bool true]) ∧ Hid (LS w X K bv mk ke rm (.slice none 0 0) 0 0 0 o [] [] 0 w') := by
  by_cases h : 1 ≤ k ∧ k ≤ 64 ∧ 1 ≤ r ∧ r ≤ 32
  · exact made_y k r hE h
  · exact made_n k r hE h
end
end Go.Proofs.YtplhdgijjckjcaaGreatDoor
