/-
  The law's made: New on both sides.
-/
import Derived.Test.YtgoknmikpanhbaaDoorIbTl
import Derived.Test.YtgoknmikpanhbaaDoorIbCode
namespace Go.Proofs.YtgoknmikpanhbaaDoor
open Go.RowKit

theorem blk_alloc {w : World} {q : Nat} {o : Obj} (h : w.heap[q]? = some o) (o' : Obj) : (w.alloc o').heap[q]? = some o := ((Below.refl w.heap.size w).alloc (Nat.le_refl _) o').block q (blk_lt h) |>.trans h
theorem blk_below {w w' : World} {q : Nat} {o : Obj} (h : w.heap[q]? = some o) (hb : Below w.heap.size w w') : w'.heap[q]? = some o := (hb.block q (blk_lt h)).trans h
theorem blk_new {w : World} {q : Nat} {o o' : Obj} (h : q = w.heap.size) (e : o = o') : (w.alloc o).heap[q]? = some o' := by
  subst h
  subst e
  exact heap_alloc_new _ _
theorem blk_drew {w : World} {q : Nat} {o : Obj} (h : w.heap[q]? = some o) : w.drew.heap[q]? = some o := h
theorem below_drew' {w a : World} (h : Below w.heap.size w a) : Below w.heap.size w a.drew := h.drew
theorem below_alloc' {w a : World} (h : Below w.heap.size w a) (o : Obj) : Below w.heap.size w (a.alloc o) := h.alloc h.size o
section
variable {w : World}
set_option maxRecDepth 100000 in
theorem num_any (c : Int) (w : World) : Calls Tryd.prog 18 #[.int .i64 c] w fun r w' => r = .returned (.int .i64 c) ∧ w' = w := by
  go_enter Tryd.func18, Tryd.ntmps18
  go_wp2
  go_ret
  exact ⟨rfl, rfl⟩
/-- A pair just made. -/
theorem ls_new {w w' : World} {X K : Nat} {bv mk ke rm : Value} (hX : w'.heap[X]? = some (.cells #[bv, mk, ke, rm, .slice none 0 0, .pointer (some ⟨K, 0, none⟩), .slice none 0 0, .slice none 0 0] 67 (0, 0))) (hK : w'.heap[K]? = some (.cells #[.slice none 0 0, .slice none 0 0, .slice none 0 0, .slice none 0 0, .slice none 0 0, .slice none 0 0] 64 (0, 0))) (hb : Below w.heap.size w w') (he : Em w' w.heap.size bv) (lX : w.heap.size ≤ X) (lK : w.heap.size ≤ K) : LS w X K bv mk ke rm 0 w' :=
  ⟨⟨_, _, _, _, _, _, [], [], [], [], [], [], hX, hK, ⟨ERow.nil _ _ _ _ _, ERow.nil _ _ _ _ _, fun q e => (by cases e), Nat.le_refl _, Nat.le_refl _⟩, ⟨ERow.nil _ _ _ _ _, ERow.nil _ _ _ _ _, fun q e => (by cases e), Nat.le_refl _, Nat.le_refl _⟩, ⟨ERow.nil _ _ _ _ _, ERow.nil _ _ _ _ _, fun q e => (by cases e), Nat.le_refl _, Nat.le_refl _⟩⟩, he, hb, lX, lK⟩
end
section
variable {w V w5 : World} {bv mk ke rm : Value}
theorem lsC (hb : Below w.heap.size w V) (hb5 : Below V.heap.size V w5) (he : ∀ z, Below V.heap.size V z → Em z w.heap.size bv) : LS w (w5.heap.size + 1) w5.heap.size bv mk ke rm 0 ((w5.alloc (.cells #[.slice none 0 0, .slice none 0 0, .slice none 0 0, .slice none 0 0, .slice none 0 0, .slice none 0 0] 64)).alloc (.cells #[bv, mk, ke, rm, .slice none 0 0, .pointer (some ⟨w5.heap.size, 0, none⟩), .slice none 0 0, .slice none 0 0] 67)) := by
  have h1 := hb.size
  have h2 := hb5.size
  exact ls_new (blk_new (by simp) rfl) (blk_alloc (blk_new rfl rfl) _) (below_alloc' (below_alloc' (below_then hb hb5) _) _) (he _ (below_alloc' (below_alloc' hb5 _) _)) (by omega) (by omega)
theorem lsB (hb : Below w.heap.size w V) (hb5 : Below V.heap.size V w5) (he : ∀ z, Below V.heap.size V z → Em z w.heap.size bv) (hz : Below (V.alloc (.cells #[.slice none 0 0, .slice none 0 0, .slice none 0 0, .slice none 0 0, .slice none 0 0, .slice none 0 0] 64)).drew.heap.size (V.alloc (.cells #[.slice none 0 0, .slice none 0 0, .slice none 0 0, .slice none 0 0, .slice none 0 0, .slice none 0 0] 64)).drew w5) : LS w w5.heap.size V.heap.size bv mk ke rm 0 (w5.alloc (.cells #[bv, mk, ke, rm, .slice none 0 0, .pointer (some ⟨V.heap.size, 0, none⟩), .slice none 0 0, .slice none 0 0] 67)) := by
  have h1 := hb.size
  have h2 := hb5.size
  exact ls_new (blk_new rfl rfl) (blk_alloc (blk_below (blk_drew (blk_new rfl rfl)) hz) _) (below_alloc' (below_then hb hb5) _) (he _ (below_alloc' hb5 _)) (by omega) (by omega)
theorem lsA (hb : Below w.heap.size w V) (hb5 : Below V.heap.size V w5) (he : ∀ z, Below V.heap.size V z → Em z w.heap.size bv) (hz : Below ((V.alloc (.cells #[.slice none 0 0, .slice none 0 0, .slice none 0 0, .slice none 0 0, .slice none 0 0, .slice none 0 0] 64)).alloc (.cells #[bv, mk, ke, rm, .slice none 0 0, .pointer (some ⟨V.heap.size, 0, none⟩), .slice none 0 0, .slice none 0 0] 67)).drew.heap.size ((V.alloc (.cells #[.slice none 0 0, .slice none 0 0, .slice none 0 0, .slice none 0 0, .slice none 0 0, .slice none 0 0] 64)).alloc (.cells #[bv, mk, ke, rm, .slice none 0 0, .pointer (some ⟨V.heap.size, 0, none⟩), .slice none 0 0, .slice none 0 0] 67)).drew w5) : LS w (V.heap.size + 1) V.heap.size bv mk ke rm 0 w5 := by
  have h1 := hb.size
  exact ls_new (blk_below (blk_drew (blk_new (by simp) rfl)) hz) (blk_below (blk_drew (blk_alloc (blk_new rfl rfl) _)) hz) (below_then hb hb5) (he _ hb5) (by omega) (by omega)
end
section
variable {w : World}
set_option maxRecDepth 100000 in
set_option maxHeartbeats 8000000 in
theorem made_n (k r : Int) (hE : ErrType w) (hn : ¬ (1 ≤ k ∧ k ≤ 64 ∧ 1 ≤ r ∧ r ≤ 32)) : Calls Tryd.prog 4 #[.int .i64 k, .int .i64 r] w fun e w' => ∃ X K bv mk ke rm, e = .returned (.tuple #[.pointer (some ⟨X, 0, none⟩), .bool true]) ∧ Hid (LS w X K bv mk ke rm 0 w') := by
  have HE : Hid (ErrType w ∧ (¬ (1 ≤ k ∧ k ≤ 64 ∧ 1 ≤ r ∧ r ≤ 32))) := ⟨hE, hn⟩
  clear hE hn
  go_enter Tryd.func4, Tryd.ntmps4
  go_wp2_with fail
  refine (new_no k r w HE.out.2).mono ?_
  rintro _ w1 ⟨rfl, hf, b1⟩
  have H1 : Hid (IFault w1 w.heap.size 0 1 ∧ Below w.heap.size w w1) := ⟨hf, b1⟩
  clear hf b1
  go_wp2_with fail
  refine (rnew_no (w := w1) k r HE.out.2).mono ?_
  rintro _ w2 ⟨rfl, b2⟩
  have H2 : Hid (Below w.heap.size w w2 ∧ OEv w2 0 (.iface 90 (.pointer (some ⟨w.heap.size, 0, none⟩))) 0 1 ∧ Em w2 w.heap.size (.pointer none)) := ⟨below_then H1.out.2 b2, Or.inr ⟨by decide, _, rfl, Nat.zero_le _, H1.out.1.below b2⟩, Or.inl rfl⟩
  clear b2 H1
  have HB2 : Hid (Below w.heap.size w (w2.alloc (.cells #[.bool false, .int .i64 0, .int .i64 0, .slice none 0 0] 55))) := below_alloc' H2.out.1 _
  have HV0 : Hid ((w2.alloc (.cells #[.bool false, .int .i64 0, .int .i64 0, .slice none 0 0] 55)).heap[w2.heap.size]? = some (.cells #[.bool false, .int .i64 0, .int .i64 0, .slice none 0 0] 55 (0, 0))) := heap_alloc_new _ _
  have HC0 : Hid (∀ z, Below (w2.alloc (.cells #[.bool false, .int .i64 0, .int .i64 0, .slice none 0 0] 55)).heap.size (w2.alloc (.cells #[.bool false, .int .i64 0, .int .i64 0, .slice none 0 0] 55)) z → Calls Tryd.prog 11 #[.iface 90 (.pointer (some ⟨w.heap.size, 0, none⟩))] z fun e z' => e = .returned (.int .i64 1) ∧ Hid (Below (w2.alloc (.cells #[.bool false, .int .i64 0, .int .i64 0, .slice none 0 0] 55)).heap.size (w2.alloc (.cells #[.bool false, .int .i64 0, .int .i64 0, .slice none 0 0] 55)) z') ∧ Hid (Below z.heap.size z z')) := fun z hz => by
    have b := below_then ((Below.refl w2.heap.size w2).alloc (Nat.le_refl _) _) hz
    exact (code_any (B := 0) (H2.out.2.1.below b) (errType_below HE.out.1 (below_then H2.out.1 b))).mono fun e z' ⟨e1, e2⟩ => ⟨e1, below_then hz e2, e2⟩
  have HEM : Hid (∀ z, Below (w2.alloc (.cells #[.bool false, .int .i64 0, .int .i64 0, .slice none 0 0] 55)).heap.size (w2.alloc (.cells #[.bool false, .int .i64 0, .int .i64 0, .slice none 0 0] 55)) z → Em z w.heap.size (.pointer none)) := fun z hz => H2.out.2.2.below (below_then ((Below.refl w2.heap.size w2).alloc (Nat.le_refl _) _) hz)
  have HSZ : Hid (w.heap.size ≤ w2.heap.size) := H2.out.1.size
  clear H2
  go_upto_region 3 with fail
  obtain ⟨V, hV⟩ : ∃ V, w2.alloc (.cells #[.bool false, .int .i64 0, .int .i64 0, .slice none 0 0] 55) = V := ⟨_, rfl⟩
  have hVs : V.heap.size = w2.heap.size + 1 := by rw [← hV]; simp
  rw [hV] at HB2 HV0 HC0 HEM ⊢
  clear hV
  obtain ⟨Rb, hRb⟩ : ∃ R, w2.heap.size = R := ⟨_, rfl⟩
  rw [hRb] at HV0 HSZ hVs ⊢
  clear hRb
  have gs : ∀ {z : World}, Below V.heap.size V z → z.cell? ⟨Rb, 0, none⟩ = some (.bool false) ∧ z.cell? ⟨Rb, 1, none⟩ = some (.int .i64 0) ∧ z.cell? ⟨Rb, 2, none⟩ = some (.int .i64 0) ∧ z.cell? ⟨Rb, 3, none⟩ = some (.slice none 0 0) := fun {z} hz => ⟨hcell (blk_below HV0.out hz) 0, hcell (blk_below HV0.out hz) 1, hcell (blk_below HV0.out hz) 2, hcell (blk_below HV0.out hz) 3⟩
  have HVS : Hid (V.heap.size = Rb + 1) := hVs
  clear hVs
  go_region_held3 (fun z => z.cell? ⟨Rb, 0, none⟩ = some (.bool false) ∧ z.cell? ⟨Rb, 1, none⟩ = some (.int .i64 0) ∧ z.cell? ⟨Rb, 2, none⟩ = some (.int .i64 0) ∧ z.cell? ⟨Rb, 3, none⟩ = some (.slice none 0 0)) ((refine gs ?_; (repeat' (first | (with_reducible exact Below.refl _ _) | (with_reducible exact Hid.out (by assumption)) | (with_reducible refine below_drew' ?_) | (with_reducible refine below_alloc' ?_ _))))) ((first | (go_at_call 11; refine (HC0.out _ ?_).mono ?_; (repeat' (first | (with_reducible exact Below.refl _ _) | (with_reducible exact Hid.out (by assumption)) | (with_reducible refine below_drew' ?_) | (with_reducible refine below_alloc' ?_ _))); rintro _ w5 ⟨rfl, hb5, hz5⟩) | (go_at_call 18; refine (num_any _ _).mono ?_; rintro _ w9 ⟨rfl, h9⟩; subst w9)))
  · clear gs HC0
    go_wp2_with fail
    go_ret2
    exact ⟨_, _, _, _, _, _, rfl, lsA HB2.out hb5.out HEM.out hz5.out⟩
  · clear gs HC0
    go_wp2_with fail
    go_ret2
    exact ⟨_, _, _, _, _, _, rfl, lsB HB2.out hb5.out HEM.out hz5.out⟩
  · clear gs HC0
    go_wp2_with fail
    go_ret2
    exact ⟨_, _, _, _, _, _, rfl, lsB HB2.out hb5.out HEM.out hz5.out⟩
  · clear gs HC0
    go_wp2_with fail
    go_ret2
    exact ⟨_, _, _, _, _, _, rfl, lsC HB2.out hb5.out HEM.out⟩
  · clear gs HC0
    go_wp2_with fail
    go_ret2
    exact ⟨_, _, _, _, _, _, rfl, lsC HB2.out hb5.out HEM.out⟩
  · clear gs HC0
    go_wp2_with fail
    go_ret2
    exact ⟨_, _, _, _, _, _, rfl, lsC HB2.out hb5.out HEM.out⟩
set_option maxRecDepth 100000 in
set_option maxHeartbeats 8000000 in
theorem made_y (k r : Int) (hE : ErrType w) (hn : 1 ≤ k ∧ k ≤ 64 ∧ 1 ≤ r ∧ r ≤ 32) : Calls Tryd.prog 4 #[.int .i64 k, .int .i64 r] w fun e w' => ∃ X K bv mk ke rm, e = .returned (.tuple #[.pointer (some ⟨X, 0, none⟩), .bool true]) ∧ Hid (LS w X K bv mk ke rm 0 w') := by
  have HE : Hid (ErrType w ∧ (1 ≤ k ∧ k ≤ 64 ∧ 1 ≤ r ∧ r ≤ 32)) := ⟨hE, hn⟩
  clear hE hn
  go_enter Tryd.func4, Tryd.ntmps4
  go_wp2_with fail
  refine (new_yes (K := k) (R := r) w HE.out.2.1 HE.out.2.2.1 HE.out.2.2.2.1 HE.out.2.2.2.2).mono ?_
  rintro _ w1 ⟨b, sb, M, v, rfl, H1⟩
  go_wp2_with fail
  refine (rnew_ok (w := w1) k r HE.out.2).mono ?_
  rintro _ w2 ⟨rfl, b2⟩
  have H2 : Hid (Below w.heap.size w w2 ∧ OEv w2 0 .nilIface 0 0 ∧ Em w2 w.heap.size (.pointer (some ⟨b, 0, none⟩))) := ⟨below_then H1.out.2 b2, Or.inl ⟨rfl, rfl⟩, Or.inr ⟨b, sb, M, v, k, r, rfl, H1.out.1.below b2⟩⟩
  clear b2 H1
  have HB2 : Hid (Below w.heap.size w (w2.alloc (.cells #[.bool true, .int .i64 k, .int .i64 r, .slice none 0 0] 55))) := below_alloc' H2.out.1 _
  have HV0 : Hid ((w2.alloc (.cells #[.bool true, .int .i64 k, .int .i64 r, .slice none 0 0] 55)).heap[w2.heap.size]? = some (.cells #[.bool true, .int .i64 k, .int .i64 r, .slice none 0 0] 55 (0, 0))) := heap_alloc_new _ _
  have HC0 : Hid (∀ z, Below (w2.alloc (.cells #[.bool true, .int .i64 k, .int .i64 r, .slice none 0 0] 55)).heap.size (w2.alloc (.cells #[.bool true, .int .i64 k, .int .i64 r, .slice none 0 0] 55)) z → Calls Tryd.prog 11 #[.nilIface] z fun e z' => e = .returned (.int .i64 0) ∧ Hid (Below (w2.alloc (.cells #[.bool true, .int .i64 k, .int .i64 r, .slice none 0 0] 55)).heap.size (w2.alloc (.cells #[.bool true, .int .i64 k, .int .i64 r, .slice none 0 0] 55)) z') ∧ Hid (Below z.heap.size z z')) := fun z hz => by
    have b := below_then ((Below.refl w2.heap.size w2).alloc (Nat.le_refl _) _) hz
    exact (code_any (B := 0) (H2.out.2.1.below b) (errType_below HE.out.1 (below_then H2.out.1 b))).mono fun e z' ⟨e1, e2⟩ => ⟨e1, below_then hz e2, e2⟩
  have HEM : Hid (∀ z, Below (w2.alloc (.cells #[.bool true, .int .i64 k, .int .i64 r, .slice none 0 0] 55)).heap.size (w2.alloc (.cells #[.bool true, .int .i64 k, .int .i64 r, .slice none 0 0] 55)) z → Em z w.heap.size (.pointer (some ⟨b, 0, none⟩))) := fun z hz => H2.out.2.2.below (below_then ((Below.refl w2.heap.size w2).alloc (Nat.le_refl _) _) hz)
  have HSZ : Hid (w.heap.size ≤ w2.heap.size) := H2.out.1.size
  clear H2
  go_upto_region 3 with fail
  obtain ⟨V, hV⟩ : ∃ V, w2.alloc (.cells #[.bool true, .int .i64 k, .int .i64 r, .slice none 0 0] 55) = V := ⟨_, rfl⟩
  have hVs : V.heap.size = w2.heap.size + 1 := by rw [← hV]; simp
  rw [hV] at HB2 HV0 HC0 HEM ⊢
  clear hV
  obtain ⟨Rb, hRb⟩ : ∃ R, w2.heap.size = R := ⟨_, rfl⟩
  rw [hRb] at HV0 HSZ hVs ⊢
  clear hRb
  have gs : ∀ {z : World}, Below V.heap.size V z → z.cell? ⟨Rb, 0, none⟩ = some (.bool true) ∧ z.cell? ⟨Rb, 1, none⟩ = some (.int .i64 k) ∧ z.cell? ⟨Rb, 2, none⟩ = some (.int .i64 r) ∧ z.cell? ⟨Rb, 3, none⟩ = some (.slice none 0 0) := fun {z} hz => ⟨hcell (blk_below HV0.out hz) 0, hcell (blk_below HV0.out hz) 1, hcell (blk_below HV0.out hz) 2, hcell (blk_below HV0.out hz) 3⟩
  have HVS : Hid (V.heap.size = Rb + 1) := hVs
  clear hVs
  go_region_held3 (fun z => z.cell? ⟨Rb, 0, none⟩ = some (.bool true) ∧ z.cell? ⟨Rb, 1, none⟩ = some (.int .i64 k) ∧ z.cell? ⟨Rb, 2, none⟩ = some (.int .i64 r) ∧ z.cell? ⟨Rb, 3, none⟩ = some (.slice none 0 0)) ((refine gs ?_; (repeat' (first | (with_reducible exact Below.refl _ _) | (with_reducible exact Hid.out (by assumption)) | (with_reducible refine below_drew' ?_) | (with_reducible refine below_alloc' ?_ _))))) ((first | (go_at_call 11; refine (HC0.out _ ?_).mono ?_; (repeat' (first | (with_reducible exact Below.refl _ _) | (with_reducible exact Hid.out (by assumption)) | (with_reducible refine below_drew' ?_) | (with_reducible refine below_alloc' ?_ _))); rintro _ w5 ⟨rfl, hb5, hz5⟩) | (go_at_call 18; refine (num_any _ _).mono ?_; rintro _ w9 ⟨rfl, h9⟩; subst w9)))
  · clear gs HC0
    go_wp2_with fail
    go_ret2
    exact ⟨_, _, _, _, _, _, rfl, lsA HB2.out hb5.out HEM.out hz5.out⟩
  · clear gs HC0
    go_wp2_with fail
    go_ret2
    exact ⟨_, _, _, _, _, _, rfl, lsB HB2.out hb5.out HEM.out hz5.out⟩
  · clear gs HC0
    go_wp2_with fail
    go_ret2
    exact ⟨_, _, _, _, _, _, rfl, lsB HB2.out hb5.out HEM.out hz5.out⟩
  · clear gs HC0
    go_wp2_with fail
    go_ret2
    exact ⟨_, _, _, _, _, _, rfl, lsC HB2.out hb5.out HEM.out⟩
  · clear gs HC0
    go_wp2_with fail
    go_ret2
    exact ⟨_, _, _, _, _, _, rfl, lsC HB2.out hb5.out HEM.out⟩
  · clear gs HC0
    go_wp2_with fail
    go_ret2
    exact ⟨_, _, _, _, _, _, rfl, lsC HB2.out hb5.out HEM.out⟩
theorem made_any (k r : Int) (hE : ErrType w) : Calls Tryd.prog 4 #[.int .i64 k, .int .i64 r] w fun e w' => ∃ X K bv mk ke rm, e = .returned (.tuple #[.pointer (some ⟨X, 0, none⟩), .bool true]) ∧ Hid (LS w X K bv mk ke rm 0 w') := by
  by_cases h : 1 ≤ k ∧ k ≤ 64 ∧ 1 ≤ r ∧ r ≤ 32
  · exact made_y k r hE h
  · exact made_n k r hE h
end
end Go.Proofs.YtgoknmikpanhbaaDoor
