import Derived.Test.YtjbkfppibnlmoaaGreatDoorIcPl8
import Derived.Test.YtjbkfppibnlmoaaGreatDoorIbOpn
import Derived.Test.YtjbkfppibnlmoaaGreatDoorSsPl2
import Derived.Test.YtjbkfppibnlmoaaGreatDoorIcPl
/-
  The law's made: New on both sides.
-/
namespace Go.Proofs.YtjbkfppibnlmoaaGreatDoor
open Go.RowKit

theorem blk_alloc {w : World} {q : Nat} {o : Obj} (h : w.heap[q]? = some o) (o' : Obj) : (w.alloc o').heap[q]? = some o := ((Below.refl w.heap.size w).alloc (Nat.le_refl _) o').block q (blk_lt h) |>.trans h
theorem blk_drew {w : World} {q : Nat} {o : Obj} (h : w.heap[q]? = some o) : w.drew.heap[q]? = some o := h
theorem below_drew' {w a : World} (h : Below w.heap.size w a) : Below w.heap.size w a.drew := h.drew
theorem below_alloc' {w a : World} (h : Below w.heap.size w a) (o : Obj) : Below w.heap.size w (a.alloc o) := h.alloc h.size o
section
variable {w : World}
/-- Both boxes just made. -/
def Eo (o : Option (Int × Int)) (z : World) (B : Nat) (bv mk ke rm : Value) : Prop := ∀ X, Sd z B 0 0 0 X bv mk ke rm (.slice none 0 0) [] [] o
/-- A pair just made. -/
theorem ls_new {w w' : World} {X K : Nat} {bv mk ke rm : Value} {o : Option (Int × Int)} (hX : w'.heap[X]? = some (.cells #[bv, mk, ke, rm, .slice none 0 0, .pointer (some ⟨K, 0, none⟩), .slice none 0 0, .slice none 0 0] 55 (0, 0))) (hK : w'.heap[K]? = some (.cells #[.slice none 0 0, .slice none 0 0, .slice none 0 0, .slice none 0 0, .slice none 0 0, .slice none 0 0] 52 (0, 0))) (hb : Below w.heap.size w w') (he : Eo o w' w.heap.size bv mk ke rm) (lX : w.heap.size ≤ X) (lK : w.heap.size ≤ K) : LS w X K bv mk ke rm (.slice none 0 0) 0 0 0 o [] [] 0 w' :=
  ⟨⟨_, _, _, _, _, _, [], [], [], [], [], [], hX, hK, ⟨ERow.nil _ _ _ _ _, ERow.nil _ _ _ _ _, fun q e => (by cases e), Nat.le_refl _, Nat.le_refl _⟩, ⟨ERow.nil _ _ _ _ _, ERow.nil _ _ _ _ _, fun q e => (by cases e), Nat.le_refl _, Nat.le_refl _⟩, ⟨ERow.nil _ _ _ _ _, ERow.nil _ _ _ _ _, fun q e => (by cases e), Nat.le_refl _, Nat.le_refl _⟩⟩, he X, hb, lX, lK⟩
end
section
variable {w V w5 : World} {bv mk ke rm : Value} {o : Option (Int × Int)}
theorem lsC (hb : Below w.heap.size w V) (hb5 : Below V.heap.size V w5) (he : ∀ z, Below V.heap.size V z → Eo o z w.heap.size bv mk ke rm) : LS w (w5.heap.size + 1) w5.heap.size bv mk ke rm (.slice none 0 0) 0 0 0 o [] [] 0 ((w5.alloc (.cells #[.slice none 0 0, .slice none 0 0, .slice none 0 0, .slice none 0 0, .slice none 0 0, .slice none 0 0] 52)).alloc (.cells #[bv, mk, ke, rm, .slice none 0 0, .pointer (some ⟨w5.heap.size, 0, none⟩), .slice none 0 0, .slice none 0 0] 55)) := by
  have h1 := hb.size
  have h2 := hb5.size
  exact ls_new (blk_new (by simp) rfl) (blk_alloc (blk_new rfl rfl) _) (below_alloc' (below_alloc' (below_then hb hb5) _) _) (he _ (below_alloc' (below_alloc' hb5 _) _)) (by omega) (by omega)
theorem lsB (hb : Below w.heap.size w V) (hb5 : Below V.heap.size V w5) (he : ∀ z, Below V.heap.size V z → Eo o z w.heap.size bv mk ke rm) (hz : Below (V.alloc (.cells #[.slice none 0 0, .slice none 0 0, .slice none 0 0, .slice none 0 0, .slice none 0 0, .slice none 0 0] 52)).drew.heap.size (V.alloc (.cells #[.slice none 0 0, .slice none 0 0, .slice none 0 0, .slice none 0 0, .slice none 0 0, .slice none 0 0] 52)).drew w5) : LS w w5.heap.size V.heap.size bv mk ke rm (.slice none 0 0) 0 0 0 o [] [] 0 (w5.alloc (.cells #[bv, mk, ke, rm, .slice none 0 0, .pointer (some ⟨V.heap.size, 0, none⟩), .slice none 0 0, .slice none 0 0] 55)) := by
  have h1 := hb.size
  have h2 := hb5.size
  exact ls_new (blk_new rfl rfl) (blk_alloc (blk_below (blk_drew (blk_new rfl rfl)) hz) _) (below_alloc' (below_then hb hb5) _) (he _ (below_alloc' hb5 _)) (by omega) (by omega)
theorem lsA (hb : Below w.heap.size w V) (hb5 : Below V.heap.size V w5) (he : ∀ z, Below V.heap.size V z → Eo o z w.heap.size bv mk ke rm) (hz : Below ((V.alloc (.cells #[.slice none 0 0, .slice none 0 0, .slice none 0 0, .slice none 0 0, .slice none 0 0, .slice none 0 0] 52)).alloc (.cells #[bv, mk, ke, rm, .slice none 0 0, .pointer (some ⟨V.heap.size, 0, none⟩), .slice none 0 0, .slice none 0 0] 55)).drew.heap.size ((V.alloc (.cells #[.slice none 0 0, .slice none 0 0, .slice none 0 0, .slice none 0 0, .slice none 0 0, .slice none 0 0] 52)).alloc (.cells #[bv, mk, ke, rm, .slice none 0 0, .pointer (some ⟨V.heap.size, 0, none⟩), .slice none 0 0, .slice none 0 0] 55)).drew w5) : LS w (V.heap.size + 1) V.heap.size bv mk ke rm (.slice none 0 0) 0 0 0 o [] [] 0 w5 := by
  have h1 := hb.size
  exact ls_new (blk_below (blk_drew (blk_new (by simp) rfl)) hz) (blk_below (blk_drew (blk_alloc (blk_new rfl rfl) _)) hz) (below_then hb hb5) (he _ hb5) (by omega) (by omega)
end
section
variable {w : World}
set_option maxRecDepth 100000 in
set_option maxHeartbeats 8000000 in
theorem made_n (k r : Int) (hE : ErrType w) (hn : ¬ (1 ≤ k ∧ k ≤ 64 ∧ 1 ≤ r ∧ r ≤ 32)) : Calls Tryz.prog 4 #[.int .i64 k, .int .i64 r] w fun e w' => ∃ X K bv mk ke rm o, e = .returned (.tuple #[.pointer (some ⟨X, 0, none⟩), .bool true]) ∧ Hid (LS w X K bv mk ke rm (.slice none 0 0) 0 0 0 o [] [] 0 w') := by
  have HE : Hid (ErrType w ∧ (¬ (1 ≤ k ∧ k ≤ 64 ∧ 1 ≤ r ∧ r ≤ 32))) := ⟨hE, hn⟩
  clear hE hn
  go_enter Tryz.func4, Tryz.ntmps4
  go_wp2_with fail
  refine (new_no k r w HE.out.2).mono ?_
  rintro _ w1 ⟨rfl, hf, b1⟩
  have H1 : Hid (IFault w1 w.heap.size 0 1 ∧ Below w.heap.size w w1) := ⟨hf, b1⟩
  clear hf b1
  go_wp2_with fail
  refine (rnew_no (w := w1) k r HE.out.2).mono ?_
  rintro _ w2 ⟨rfl, b2⟩
  have H2 : Hid (Below w.heap.size w w2 ∧ OEv w2 0 (.iface 94 (.pointer (some ⟨w.heap.size, 0, none⟩))) 0 1 ∧ Eo none w2 w.heap.size (.pointer none) (.bool false) (.int .i64 0) (.int .i64 0)) := ⟨below_then H1.out.2 b2, Or.inr ⟨by decide, _, rfl, Nat.zero_le _, H1.out.1.below b2⟩, fun _ => ⟨rfl, rfl, rfl, rfl, rfl, rfl, rfl⟩⟩
  clear b2 H1
  have HB2 : Hid (Below w.heap.size w (w2.alloc (.cells #[.bool false, .int .i64 0, .int .i64 0, .slice none 0 0] 43))) := below_alloc' H2.out.1 _
  have HV0 : Hid ((w2.alloc (.cells #[.bool false, .int .i64 0, .int .i64 0, .slice none 0 0] 43)).heap[w2.heap.size]? = some (.cells #[.bool false, .int .i64 0, .int .i64 0, .slice none 0 0] 43 (0, 0))) := heap_alloc_new _ _
  have HC0 : Hid (∀ z, Below (w2.alloc (.cells #[.bool false, .int .i64 0, .int .i64 0, .slice none 0 0] 43)).heap.size (w2.alloc (.cells #[.bool false, .int .i64 0, .int .i64 0, .slice none 0 0] 43)) z → Calls Tryz.prog 12 #[.iface 94 (.pointer (some ⟨w.heap.size, 0, none⟩))] z fun e z' => e = .returned (.int .i64 1) ∧ Hid (Below (w2.alloc (.cells #[.bool false, .int .i64 0, .int .i64 0, .slice none 0 0] 43)).heap.size (w2.alloc (.cells #[.bool false, .int .i64 0, .int .i64 0, .slice none 0 0] 43)) z') ∧ Hid (Below z.heap.size z z')) := fun z hz => by
    have b := below_then ((Below.refl w2.heap.size w2).alloc (Nat.le_refl _) _) hz
    exact (code_any (B := 0) (H2.out.2.1.below b) (errType_below HE.out.1 (below_then H2.out.1 b))).mono fun e z' ⟨e1, e2⟩ => ⟨e1, below_then hz e2, e2⟩
  have HEM : Hid (∀ z, Below (w2.alloc (.cells #[.bool false, .int .i64 0, .int .i64 0, .slice none 0 0] 43)).heap.size (w2.alloc (.cells #[.bool false, .int .i64 0, .int .i64 0, .slice none 0 0] 43)) z → Eo none z w.heap.size (.pointer none) (.bool false) (.int .i64 0) (.int .i64 0)) := fun z hz X => (H2.out.2.2 X).below (below_then ((Below.refl w2.heap.size w2).alloc (Nat.le_refl _) _) hz)
  have HSZ : Hid (w.heap.size ≤ w2.heap.size) := H2.out.1.size
  clear H2
  go_upto_region 3 with fail
  obtain ⟨V, hV⟩ : ∃ V, w2.alloc (.cells #[.bool false, .int .i64 0, .int .i64 0, .slice none 0 0] 43) = V := ⟨_, rfl⟩
  have hVs : V.heap.size = w2.heap.size + 1 := by rw [← hV]; simp
  rw [hV] at HB2 HV0 HC0 HEM ⊢
  clear hV
  obtain ⟨Rb, hRb⟩ : ∃ R, w2.heap.size = R := ⟨_, rfl⟩
  rw [hRb] at HV0 HSZ hVs ⊢
  clear hRb
  have gs : ∀ {z : World}, Below V.heap.size V z → z.cell? ⟨Rb, 0, none⟩ = some (.bool false) ∧ z.cell? ⟨Rb, 1, none⟩ = some (.int .i64 0) ∧ z.cell? ⟨Rb, 2, none⟩ = some (.int .i64 0) ∧ z.cell? ⟨Rb, 3, none⟩ = some (.slice none 0 0) := fun {z} hz => ⟨hcell (blk_below HV0.out hz) 0, hcell (blk_below HV0.out hz) 1, hcell (blk_below HV0.out hz) 2, hcell (blk_below HV0.out hz) 3⟩
  have HVS : Hid (V.heap.size = Rb + 1) := hVs
  clear hVs
  go_region_held3 (fun z => z.cell? ⟨Rb, 0, none⟩ = some (.bool false) ∧ z.cell? ⟨Rb, 1, none⟩ = some (.int .i64 0) ∧ z.cell? ⟨Rb, 2, none⟩ = some (.int .i64 0) ∧ z.cell? ⟨Rb, 3, none⟩ = some (.slice none 0 0)) ((refine gs ?_; (repeat' (first | (with_reducible exact Below.refl _ _) | (with_reducible exact Hid.out (by assumption)) | (with_reducible refine below_drew' ?_) | (with_reducible refine below_alloc' ?_ _))))) ((first | (go_at_call 12; refine (HC0.out _ ?_).mono ?_; (repeat' (first | (with_reducible exact Below.refl _ _) | (with_reducible exact Hid.out (by assumption)) | (with_reducible refine below_drew' ?_) | (with_reducible refine below_alloc' ?_ _))); rintro _ w5 ⟨rfl, hb5, hz5⟩) | (go_at_call 13; refine (num_any _ _).mono ?_; rintro _ w9 ⟨rfl, h9⟩; subst w9)))
  · clear gs HC0
    go_wp2_with fail
    go_ret2
    exact ⟨_, _, _, _, _, _, _, rfl, lsA HB2.out hb5.out HEM.out hz5.out⟩
  · clear gs HC0
    go_wp2_with fail
    go_ret2
    exact ⟨_, _, _, _, _, _, _, rfl, lsB HB2.out hb5.out HEM.out hz5.out⟩
  · clear gs HC0
    go_wp2_with fail
    go_ret2
    exact ⟨_, _, _, _, _, _, _, rfl, lsB HB2.out hb5.out HEM.out hz5.out⟩
  · clear gs HC0
    go_wp2_with fail
    go_ret2
    exact ⟨_, _, _, _, _, _, _, rfl, lsC HB2.out hb5.out HEM.out⟩
  · clear gs HC0
    go_wp2_with fail
    go_ret2
    exact ⟨_, _, _, _, _, _, _, rfl, lsC HB2.out hb5.out HEM.out⟩
  · clear gs HC0
    go_wp2_with fail
    go_ret2
    exact ⟨_, _, _, _, _, _, _, rfl, lsC HB2.out hb5.out HEM.out⟩
set_option maxRecDepth 100000 in
set_option maxHeartbeats 8000000 in
theorem made_y (k r : Int) (hE : ErrType w) (hn : 1 ≤ k ∧ k ≤ 64 ∧ 1 ≤ r ∧ r ≤ 32) : Calls Tryz.prog 4 #[.int .i64 k, .int .i64 r] w fun e w' => ∃ X K bv mk ke rm o, e = .returned (.tuple #[.pointer (some ⟨X, 0, none⟩), .bool true]) ∧ Hid (LS w X K bv mk ke rm (.slice none 0 0) 0 0 0 o [] [] 0 w') := by
  have HE : Hid (ErrType w ∧ (1 ≤ k ∧ k ≤ 64 ∧ 1 ≤ r ∧ r ≤ 32)) := ⟨hE, hn⟩
  clear hE hn
  go_enter Tryz.func4, Tryz.ntmps4
  go_wp2_with fail
  refine (new_yes (K := k) (R := r) w HE.out.2.1 HE.out.2.2.1 HE.out.2.2.2.1 HE.out.2.2.2.2).mono ?_
  rintro _ w1 ⟨b, sb, M, v, rfl, H1⟩
  go_wp2_with fail
  refine (rnew_ok (w := w1) k r HE.out.2).mono ?_
  rintro _ w2 ⟨rfl, b2⟩
  have H2 : Hid (Below w.heap.size w w2 ∧ OEv w2 0 .nilIface 0 0 ∧ Eo (some (k, r)) w2 w.heap.size (.pointer (some ⟨b, 0, none⟩)) (.bool true) (.int .i64 k) (.int .i64 r)) := ⟨below_then H1.out.2 b2, Or.inl ⟨rfl, rfl⟩, fun X => ⟨rfl, rfl, rfl, b, sb, M, v, [], [], rfl, ⟨H1.out.1.below b2, Tws.refl _, ERow.nil _ _ _ _ _, fun e he => (by cases he), Tws.refl _, inv_nil HE.out.2.1 HE.out.2.2.1 HE.out.2.2.2.1 HE.out.2.2.2.2, fun q _ hq => (by cases hq), fun q _ => Or.inr (Nat.zero_le _), fun q _ => Or.inr (Nat.zero_le _)⟩⟩⟩
  clear b2 H1
  have HB2 : Hid (Below w.heap.size w (w2.alloc (.cells #[.bool true, .int .i64 k, .int .i64 r, .slice none 0 0] 43))) := below_alloc' H2.out.1 _
  have HV0 : Hid ((w2.alloc (.cells #[.bool true, .int .i64 k, .int .i64 r, .slice none 0 0] 43)).heap[w2.heap.size]? = some (.cells #[.bool true, .int .i64 k, .int .i64 r, .slice none 0 0] 43 (0, 0))) := heap_alloc_new _ _
  have HC0 : Hid (∀ z, Below (w2.alloc (.cells #[.bool true, .int .i64 k, .int .i64 r, .slice none 0 0] 43)).heap.size (w2.alloc (.cells #[.bool true, .int .i64 k, .int .i64 r, .slice none 0 0] 43)) z → Calls Tryz.prog 12 #[.nilIface] z fun e z' => e = .returned (.int .i64 0) ∧ Hid (Below (w2.alloc (.cells #[.bool true, .int .i64 k, .int .i64 r, .slice none 0 0] 43)).heap.size (w2.alloc (.cells #[.bool true, .int .i64 k, .int .i64 r, .slice none 0 0] 43)) z') ∧ Hid (Below z.heap.size z z')) := fun z hz => by
    have b := below_then ((Below.refl w2.heap.size w2).alloc (Nat.le_refl _) _) hz
    exact (code_any (B := 0) (H2.out.2.1.below b) (errType_below HE.out.1 (below_then H2.out.1 b))).mono fun e z' ⟨e1, e2⟩ => ⟨e1, below_then hz e2, e2⟩
  have HEM : Hid (∀ z, Below (w2.alloc (.cells #[.bool true, .int .i64 k, .int .i64 r, .slice none 0 0] 43)).heap.size (w2.alloc (.cells #[.bool true, .int .i64 k, .int .i64 r, .slice none 0 0] 43)) z → Eo (some (k, r)) z w.heap.size (.pointer (some ⟨b, 0, none⟩)) (.bool true) (.int .i64 k) (.int .i64 r)) := fun z hz X => (H2.out.2.2 X).below (below_then ((Below.refl w2.heap.size w2).alloc (Nat.le_refl _) _) hz)
  have HSZ : Hid (w.heap.size ≤ w2.heap.size) := H2.out.1.size
  clear H2
  go_upto_region 3 with fail
  obtain ⟨V, hV⟩ : ∃ V, w2.alloc (.cells #[.bool true, .int .i64 k, .int .i64 r, .slice none 0 0] 43) = V := ⟨_, rfl⟩
  have hVs : V.heap.size = w2.heap.size + 1 := by rw [← hV]; simp
  rw [hV] at HB2 HV0 HC0 HEM ⊢
  clear hV
  obtain ⟨Rb, hRb⟩ : ∃ R, w2.heap.size = R := ⟨_, rfl⟩
  rw [hRb] at HV0 HSZ hVs ⊢
  clear hRb
  have gs : ∀ {z : World}, Below V.heap.size V z → z.cell? ⟨Rb, 0, none⟩ = some (.bool true) ∧ z.cell? ⟨Rb, 1, none⟩ = some (.int .i64 k) ∧ z.cell? ⟨Rb, 2, none⟩ = some (.int .i64 r) ∧ z.cell? ⟨Rb, 3, none⟩ = some (.slice none 0 0) := fun {z} hz => ⟨hcell (blk_below HV0.out hz) 0, hcell (blk_below HV0.out hz) 1, hcell (blk_below HV0.out hz) 2, hcell (blk_below HV0.out hz) 3⟩
  have HVS : Hid (V.heap.size = Rb + 1) := hVs
  clear hVs
  go_region_held3 (fun z => z.cell? ⟨Rb, 0, none⟩ = some (.bool true) ∧ z.cell? ⟨Rb, 1, none⟩ = some (.int .i64 k) ∧ z.cell? ⟨Rb, 2, none⟩ = some (.int .i64 r) ∧ z.cell? ⟨Rb, 3, none⟩ = some (.slice none 0 0)) ((refine gs ?_; (repeat' (first | (with_reducible exact Below.refl _ _) | (with_reducible exact Hid.out (by assumption)) | (with_reducible refine below_drew' ?_) | (with_reducible refine below_alloc' ?_ _))))) ((first | (go_at_call 12; refine (HC0.out _ ?_).mono ?_; (repeat' (first | (with_reducible exact Below.refl _ _) | (with_reducible exact Hid.out (by assumption)) | (with_reducible refine below_drew' ?_) | (with_reducible refine below_alloc' ?_ _))); rintro _ w5 ⟨rfl, hb5, hz5⟩) | (go_at_call 13; refine (num_any _ _).mono ?_; rintro _ w9 ⟨rfl, h9⟩; subst w9)))
  · clear gs HC0
    go_wp2_with fail
    go_ret2
    exact ⟨_, _, _, _, _, _, _, rfl, lsA HB2.out hb5.out HEM.out hz5.out⟩
  · clear gs HC0
    go_wp2_with fail
    go_ret2
    exact ⟨_, _, _, _, _, _, _, rfl, lsB HB2.out hb5.out HEM.out hz5.out⟩
  · clear gs HC0
    go_wp2_with fail
    go_ret2
    exact ⟨_, _, _, _, _, _, _, rfl, lsB HB2.out hb5.out HEM.out hz5.out⟩
  · clear gs HC0
    go_wp2_with fail
    go_ret2
    exact ⟨_, _, _, _, _, _, _, rfl, lsC HB2.out hb5.out HEM.out⟩
  · clear gs HC0
    go_wp2_with fail
    go_ret2
    exact ⟨_, _, _, _, _, _, _, rfl, lsC HB2.out hb5.out HEM.out⟩
  · clear gs HC0
    go_wp2_with fail
    go_ret2
    exact ⟨_, _, _, _, _, _, _, rfl, lsC HB2.out hb5.out HEM.out⟩
theorem made_any (k r : Int) (hE : ErrType w) : Calls Tryz.prog 4 #[.int .i64 k, .int .i64 r] w fun e w' => ∃ X K bv mk ke rm o, e = .returned (.tuple #[.pointer (some ⟨X, 0, none⟩), .bool true]) ∧ Hid (LS w X K bv mk ke rm (.slice none 0 0) 0 0 0 o [] [] 0 w') := by
  by_cases h : 1 ≤ k ∧ k ≤ 64 ∧ 1 ≤ r ∧ r ≤ 32
  · exact made_y k r hE h
  · exact made_n k r hE h
end
end Go.Proofs.YtjbkfppibnlmoaaGreatDoor

/-
  The law InboxExact, walked.
-/
namespace Go.Proofs.YtjbkfppibnlmoaaGreatDoor
open Go.RowKit

section
variable {W w w' : World} {X K n mm : Nat} {bv mk ke rm L : Value} {o : Option (Int × Int)} {A A' : List Ent} {τ : Nat → Nat}
theorem plays_any_s (h : SS W X K bv mk ke rm L o A A τ n mm w) (hn : n ≤ 500000) (hm : mm + 2 ≤ 80) (hE : ErrType W) (y : Opv) (hl : Lies W y.e) (hy : Byts W y.ap y.an y.ax) (ho : OpOk y) : Calls Tryz.prog 6 #[.pointer (some ⟨X, 0, none⟩), .agg #[.int .i64 y.kd, .int .i64 y.of_, .int .i64 y.n, .string y.e.ct, .slice y.e.tp y.e.tn y.e.tc, .int .i64 y.e.nu, .int .i64 y.e.tk, .slice y.e.cp y.e.cn y.e.cc, .string y.e.cd, .slice y.e.ap y.e.an y.e.ac, .string y.ct, .string y.cd, .slice y.ap y.an y.ac]] w fun r w' => r = .returned (.bool true) ∧ Hid (PlS W X K bv mk ke rm o τ n mm w w') := by
  by_cases k0 : y.kd = 0
  · rw [k0]; exact plays0_s h hn hm hE y hl hy ho
  by_cases k9 : y.kd = 9
  · rw [k9]; exact plays9_s h hn hm hE y hl hy ho
  by_cases k1 : y.kd = 1
  · rw [k1]; exact plays1_s h hn hm hE y hl hy ho
  by_cases k2 : y.kd = 2
  · rw [k2]; exact plays2_s h hn hm hE y hl hy ho
  by_cases k3 : y.kd = 3
  · rw [k3]; exact plays3_s h hn hm hE y hl hy ho
  by_cases k8 : y.kd = 8
  · rw [k8]; exact plays8_s h hn hm hE y hl hy ho
  exact playsT_s h hn hm hE y hl hy ho (by simpa using k0) (by simpa using k9) (by simpa using k1) (by simpa using k2) (by simpa using k3) (by simpa using k8)
end
theorem rows_base {w : World} {B C : Nat} {e : TypeId} {k n : Nat} {v : Value} {xs : List Value} (h : w.ownsRow B e k v n xs) (hC : C ≤ B) : w.ownsRow C e k v n xs := ⟨h.1, h.2.imp id fun ⟨g, cap, cur, e1, hb, rest⟩ => ⟨g, cap, cur, e1, Nat.le_trans hC hb, rest⟩⟩
theorem bo_base {w : World} {B C K : Nat} {ρ : Nat → Nat} {vb vw vt vu : Value} {es : List Bo.Ent} (h : Bo.Bk w B K ρ vb vw vt vu es) (hC : C ≤ B) : Bo.Bk w C K ρ vb vw vt vu es := ⟨h.c0, h.c1, h.c2, h.c3, h.c4, h.c5, h.fz, Nat.le_trans hC h.hB, rows_base h.rb hC, rows_base h.rws hC, fun i e he => rows_base (h.val i e he) hC, fun i e he => rows_base (h.was i e he) hC, h.pK, h.pb, h.pw, h.pwas, h.pval, h.new⟩
theorem bt_base {w : World} {B C K : Nat} {ρ : Nat → Nat} {vb vw vt vu : Value} {es : List Bt.Ent} (h : Bt.Bk w B K ρ vb vw vt vu es) (hC : C ≤ B) : Bt.Bk w C K ρ vb vw vt vu es := ⟨h.c0, h.c1, h.c2, h.c3, h.c4, h.c5, h.fz, Nat.le_trans hC h.hB, rows_base h.rb hC, rows_base h.rws hC, fun i e he => rows_base (h.val i e he) hC, fun i e he => rows_base (h.was i e he) hC, h.pK, h.pb, h.pw, h.pwas, h.pval, h.new⟩
theorem bks_base {w : World} {B C K : Nat} {ρ σ : Nat → Nat} {es : List Bo.Ent} {ts : List Bt.Ent} (h : Bt.Bks w B K ρ σ es ts) (hC : C ≤ B) : Bt.Bks w C K ρ σ es ts := by
  obtain ⟨vb, vw, vt, vu, h1, h2⟩ := h.ex
  exact ⟨⟨vb, vw, vt, vu, bo_base h1 hC, bt_base h2 hC⟩, h.ap⟩
theorem GOne.base {w : World} {B C : Nat} {τ : Nat → Nat} {g : Sl × Sl} (h : GOne w B τ g) (hC : C ≤ B) : GOne w C τ g := by
  obtain ⟨ls, ls', h1, h2, h3, h4, h5, h6⟩ := h
  exact ⟨ls, ls', h1, ERow.base h2 hC, fun l hl => (h3 l hl).base hC, ERow.base h4 hC, fun l hl => (h5 l hl).base hC, h6⟩
theorem S4.base {w : World} {B C X : Nat} {bv mk ke rm L : Value} {A A' : List Ent} {τ : Nat → Nat} {o : Option (Int × Int)} (h : S4 w B X bv mk ke rm L A A' τ o) (hC : C ≤ B) : S4 w C X bv mk ke rm L A A' τ o := by
  rcases o with _ | ⟨K, R⟩
  · exact h
  · obtain ⟨e1, e2, e3, b, sb, M, v, es, es', e4, hs, hf⟩ := h
    exact ⟨e1, e2, e3, b, sb, M, v, es, es', e4, ⟨Lg.Bx.base hs.bx hC, hs.t, ERow.base hs.row hC, fun e he => (hs.own e he).base hC, hs.t', hs.inv, hs.ap, hs.hp, hs.hd⟩, hf⟩
theorem SS.base {W V w : World} {X K n m : Nat} {bv mk ke rm L : Value} {o : Option (Int × Int)} {A A' : List Ent} {τ : Nat → Nat} (h : SS V X K bv mk ke rm L o A A' τ n m w) (hb : Below W.heap.size W V) : SS W X K bv mk ke rm L o A A' τ n m w := by
  have hC := hb.size
  obtain ⟨v6, v7, gs, ρ, σ, es, ts, hX, hk, h1, h2, h3, h4, ⟨g1, g2, g3, g4, g5⟩, g6⟩ := h.ex
  exact ⟨⟨v6, v7, gs, ρ, σ, es, ts, hX, bks_base hk hC, h1, h2, h3, h4, ⟨ERow.base g1 hC, ERow.base g2 hC, g3, g4, g5⟩, fun i g hg => ⟨(g6 i g hg).1.base hC, (g6 i g hg).2⟩⟩, h.tX, h.new, fun q hq => Nat.le_trans hC (h.old q hq), h.s4.base hC, below_then hb h.bel, Nat.le_trans hC h.lX⟩
/-- One of the pairs, with its parts. -/
def OneS (W : World) (X n m : Nat) (τ : Nat → Nat) (w : World) : Prop := ∃ K bv mk ke rm L o A, SS W X K bv mk ke rm L o A A τ n m w
/-- Both pairs: the one at X, the other at Y; neither's parts are the other's. -/
def TwoS (W : World) (X Y nx mx ny my : Nat) (w : World) : Prop := ∃ τx τy, OneS W X nx mx τx w ∧ OneS W Y ny my τy w ∧ ∀ q, τx q = 0 ∨ τy q = 0
section
variable {W w w' : World} {X Y Z nx mx ny my n m n' m' : Nat} {τ τ' τx τy : Nat → Nat}
theorem OneS.mono (h : OneS W X n m τ w) (hn : n ≤ n') (hm : m ≤ m') : OneS W X n' m' τ w := by
  obtain ⟨K, bv, mk, ke, rm, L, o, A, h⟩ := h
  exact ⟨K, bv, mk, ke, rm, L, o, A, h.mono hn hm⟩
theorem OneS.below (h : OneS W X n m τ w) (hb : Below w.heap.size w w') : OneS W X n m τ w' := by
  obtain ⟨K, bv, mk, ke, rm, L, o, A, h⟩ := h
  exact ⟨K, bv, mk, ke, rm, L, o, A, h.below hb⟩
theorem TwoS.mono {a b c d : Nat} (h : TwoS W X Y nx mx ny my w) (h1 : nx ≤ a) (h2 : mx ≤ b) (h3 : ny ≤ c) (h4 : my ≤ d) : TwoS W X Y a b c d w := by
  obtain ⟨τx, τy, p, q, r⟩ := h
  exact ⟨τx, τy, p.mono h1 h2, q.mono h3 h4, r⟩
theorem TwoS.below (h : TwoS W X Y nx mx ny my w) (hb : Below w.heap.size w w') : TwoS W X Y nx mx ny my w' := by
  obtain ⟨τx, τy, p, q, r⟩ := h
  exact ⟨τx, τy, p.below hb, q.below hb, r⟩
theorem TwoS.swap (h : TwoS W X Y nx mx ny my w) : TwoS W Y X ny my nx mx w := by
  obtain ⟨τx, τy, p, q, r⟩ := h
  exact ⟨τy, τx, q, p, fun z => (r z).symm⟩
theorem TwoS.bel (h : TwoS W X Y nx mx ny my w) : Below W.heap.size W w := by
  obtain ⟨τx, τy, ⟨K, bv, mk, ke, rm, L, o, A, h⟩, q, r⟩ := h
  exact h.bel
/-- The one is called. -/
theorem two_step (h1 : OneS W X nx mx τx w) (h2 : OneS W Y ny my τy w) (h3 : ∀ q, τx q = 0 ∨ τy q = 0) (g1 : OneS W X n' m' τ' w') (g2 : XF τx τ' w w') : TwoS W X Y n' m' ny my w' := by
  obtain ⟨K, bv, mk, ke, rm, L, o, A, hx⟩ := h1
  obtain ⟨K', bv', mk', ke', rm', L', o', A', hy⟩ := h2
  refine ⟨τ', τy, g1, ⟨K', bv', mk', ke', rm', L', o', A', hy.off g2.off (fun q _ p => (h3 q).resolve_left p) fun q p => hx.old q p⟩, fun q => ?_⟩
  rcases Nat.lt_or_ge q w.heap.size with g | g
  · rcases g2.keep q g with e | e
    · exact Or.inl e
    · rw [e]; exact h3 q
  · exact Or.inr (hy.new q g)
theorem two_plays (h : TwoS W X Y nx mx ny my w) (hn : nx ≤ 500000) (hm : mx + 2 ≤ 80) (hE : ErrType W) (y : Opv) (hl : Lies W y.e) (hy : Byts W y.ap y.an y.ax) (ho : OpOk y) : Calls Tryz.prog 6 #[.pointer (some ⟨X, 0, none⟩), .agg #[.int .i64 y.kd, .int .i64 y.of_, .int .i64 y.n, .string y.e.ct, .slice y.e.tp y.e.tn y.e.tc, .int .i64 y.e.nu, .int .i64 y.e.tk, .slice y.e.cp y.e.cn y.e.cc, .string y.e.cd, .slice y.e.ap y.e.an y.e.ac, .string y.ct, .string y.cd, .slice y.ap y.an y.ac]] w fun r w' => r = .returned (.bool true) ∧ Hid (TwoS W X Y (nx + 1000) (mx + 2) ny my w') := by
  obtain ⟨τx, τy, ⟨K, bv, mk, ke, rm, L, o, A, hx⟩, h2, h3⟩ := h
  refine (plays_any_s hx hn hm hE y hl hy ho).mono fun r w' ⟨e1, e2⟩ => ⟨e1, ?_⟩
  obtain ⟨L', A', τ', k1, k2⟩ := e2.out
  exact two_step ⟨K, bv, mk, ke, rm, L, o, A, hx⟩ h2 h3 ⟨K, bv, mk, ke, rm, L', o, A', k1⟩ k2
/-- Whichever is called. -/
theorem two_plays_at (h : TwoS W X Y n m n m w) (hZ : Z = X ∨ Z = Y) (hn : n ≤ 500000) (hm : m + 2 ≤ 80) (hE : ErrType W) (y : Opv) (hl : Lies W y.e) (hy : Byts W y.ap y.an y.ax) (ho : OpOk y) : Calls Tryz.prog 6 #[.pointer (some ⟨Z, 0, none⟩), .agg #[.int .i64 y.kd, .int .i64 y.of_, .int .i64 y.n, .string y.e.ct, .slice y.e.tp y.e.tn y.e.tc, .int .i64 y.e.nu, .int .i64 y.e.tk, .slice y.e.cp y.e.cn y.e.cc, .string y.e.cd, .slice y.e.ap y.e.an y.e.ac, .string y.ct, .string y.cd, .slice y.ap y.an y.ac]] w fun r w' => r = .returned (.bool true) ∧ Hid (TwoS W X Y (n + 1000) (m + 2) (n + 1000) (m + 2) w') := by
  rcases hZ with rfl | rfl
  · exact (two_plays h hn hm hE y hl hy ho).mono fun r w' ⟨e1, e2⟩ => ⟨e1, e2.out.mono (Nat.le_refl _) (Nat.le_refl _) (by omega) (by omega)⟩
  · exact (two_plays h.swap hn hm hE y hl hy ho).mono fun r w' ⟨e1, e2⟩ => ⟨e1, e2.out.swap.mono (by omega) (by omega) (Nat.le_refl _) (Nat.le_refl _)⟩
theorem two_count (h : TwoS W X Y nx mx ny my w) (po : Option Addr) (q co : Nat) : Calls Tryz.prog 7 #[.pointer (some ⟨X, 0, none⟩), .int .i64 7, .slice po q co] w fun r w' => r = .returned (.bool true) ∧ Hid (TwoS W X Y nx mx ny my w') := by
  have h' := h
  obtain ⟨τx, τy, ⟨K, bv, mk, ke, rm, L, o, A, hx⟩, h2, h3⟩ := h
  exact (tells7_s hx.sx po q co).mono fun r w' ⟨e1, e2⟩ => ⟨e1, h'.below e2⟩
theorem two_all (h : TwoS W X Y nx mx ny my w) (hn : nx ≤ 500000) (hm : mx + 4 ≤ 80) : Calls Tryz.prog 8 #[.pointer (some ⟨X, 0, none⟩)] w fun r w' => r = .returned (.bool true) ∧ Hid (TwoS W X Y (nx + 2000) (mx + 4) ny my w') := by
  obtain ⟨τx, τy, ⟨K, bv, mk, ke, rm, L, o, A, hx⟩, h2, h3⟩ := h
  refine (all_s hx hn hm).mono fun r w' ⟨e1, e2⟩ => ⟨e1, ?_⟩
  obtain ⟨τ', k1, k2⟩ := e2.out
  exact two_step ⟨K, bv, mk, ke, rm, L, o, A, hx⟩ h2 h3 ⟨K, bv, mk, ke, rm, L, o, A, k1⟩ (XF.of_tk k2)
theorem two_alone (h : TwoS W X Y nx mx ny my w) (hn : nx ≤ 1000000) (hm : mx ≤ 80) : Calls Tryz.prog 9 #[.pointer (some ⟨X, 0, none⟩)] w fun r w' => r = .returned (.bool true) ∧ Hid (TwoS W X Y 0 0 ny my w') := by
  obtain ⟨τx, τy, ⟨K, bv, mk, ke, rm, L, o, A, hx⟩, h2, h3⟩ := h
  refine (alone_s hx hn hm).mono fun r w' ⟨e1, e2⟩ => ⟨e1, ?_⟩
  obtain ⟨τ', k1, k2, k3⟩ := e2.out
  exact two_step ⟨K, bv, mk, ke, rm, L, o, A, hx⟩ h2 h3 ⟨K, bv, mk, ke, rm, L, o, A, k1⟩ ⟨k2.mono fun q hq => hq.1, fun q _ => k3 q⟩
theorem two_all_y (h : TwoS W X Y nx mx ny my w) (hn : ny ≤ 500000) (hm : my + 4 ≤ 80) : Calls Tryz.prog 8 #[.pointer (some ⟨Y, 0, none⟩)] w fun r w' => r = .returned (.bool true) ∧ Hid (TwoS W X Y nx mx (ny + 2000) (my + 4) w') := (two_all h.swap hn hm).mono fun _ _ ⟨e1, e2⟩ => ⟨e1, e2.out.swap⟩
theorem two_alone_y (h : TwoS W X Y nx mx ny my w) (hn : ny ≤ 1000000) (hm : my ≤ 80) : Calls Tryz.prog 9 #[.pointer (some ⟨Y, 0, none⟩)] w fun r w' => r = .returned (.bool true) ∧ Hid (TwoS W X Y nx mx 0 0 w') := (two_alone h.swap hn hm).mono fun _ _ ⟨e1, e2⟩ => ⟨e1, e2.out.swap⟩
theorem two_count_y (h : TwoS W X Y nx mx ny my w) (po : Option Addr) (q co : Nat) : Calls Tryz.prog 7 #[.pointer (some ⟨Y, 0, none⟩), .int .i64 7, .slice po q co] w fun r w' => r = .returned (.bool true) ∧ Hid (TwoS W X Y nx mx ny my w') := (two_count h.swap po q co).mono fun _ _ ⟨e1, e2⟩ => ⟨e1, e2.out.swap⟩
/-- The start. -/
theorem two_start {V : World} {Kx Ky : Nat} {bx ax kx rx Lx by_ ay ky ry Ly : Value} {ox oy : Option (Int × Int)} {Ax Ay : List Ent} (h1 : LS W X Kx bx ax kx rx Lx 0 0 0 ox Ax Ax 0 V) (h2 : LS V Y Ky by_ ay ky ry Ly 0 0 0 oy Ay Ay 0 w) : TwoS W X Y 0 0 0 0 w := by
  obtain ⟨τx, s1⟩ := ls_ss h1
  obtain ⟨τy, s2⟩ := ls_ss h2
  refine ⟨τx, τy, ⟨_, _, _, _, _, _, _, _, s1.below ?_⟩, ⟨_, _, _, _, _, _, _, _, s2.base s1.bel⟩, fun q => ?_⟩
  · exact s2.bel
  · rcases Nat.lt_or_ge q V.heap.size with g | g
    · refine Or.inr ?_
      rcases Nat.eq_zero_or_pos (τy q) with e | e
      · exact e
      · have := s2.old q (by omega); omega
    · exact Or.inl (s1.new q g)
end
end Go.Proofs.YtjbkfppibnlmoaaGreatDoor
