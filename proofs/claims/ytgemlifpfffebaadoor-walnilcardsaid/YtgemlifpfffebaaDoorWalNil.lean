/-
  The law WalNil, walked.
-/
import Derived.Test.YtgemlifpfffebaaDoorWalUn2
import Derived.Test.YtgemlifpfffebaaDoorDkOps
namespace Go.Proofs.YtgemlifpfffebaaDoor
open Go.RowKit

theorem balloc {w w1 : World} (h : Below w.heap.size w w1) (o : Obj) : Below w.heap.size w (w1.alloc o) := h.alloc h.size o
theorem bcell1 {w w' : World} (hb : Below w.heap.size w w') {b o : Nat} {v : Value} (h : w.cell? ⟨b, o, none⟩ = some v) : w'.cell? ⟨b, o, none⟩ = some v := by
  have hl : b < w.heap.size := cell_lt h
  rw [hb.cell (p := ⟨b, o, none⟩) hl]; exact h
/-- A replay of nothing, in memory. -/
def ZR (w : World) (r : Nat) : Prop := w.cell? ⟨r, 0, none⟩ = some (.int .u64 0) ∧ w.cell? ⟨r, 1, none⟩ = some (.slice none 0 0) ∧ w.cell? ⟨r, 2, none⟩ = some (.slice none 0 0) ∧ w.cell? ⟨r, 3, none⟩ = some (.int .i64 0)
theorem ZR.below {w w' : World} {r : Nat} (h : ZR w r) (hb : Below w.heap.size w w') : ZR w' r := ⟨bcell1 hb h.1, bcell1 hb h.2.1, bcell1 hb h.2.2.1, bcell1 hb h.2.2.2⟩
def NilI (w : World) (r1 r2 b1 b2 : Nat) (W : World) : Prop := Below w.heap.size w W ∧ WFault W b1 3 ∧ WFault W b2 3 ∧ W.cell? ⟨w.heap.size, 0, none⟩ = some (.pointer none) ∧ ZR W r1 ∧ ZR W r2
theorem NilI.below {w : World} {r1 r2 b1 b2 : Nat} {W W' : World} (h : NilI w r1 r2 b1 b2 W) (hb : Below W.heap.size W W') : NilI w r1 r2 b1 b2 W' := ⟨below_then h.1 hb, h.2.1.below hb, h.2.2.1.below hb, bcell1 hb h.2.2.2.1, h.2.2.2.2.1.below hb, h.2.2.2.2.2.below hb⟩
def NilT (w : World) (t : Nat) (W : World) : Prop := Below w.heap.size w W ∧ W.cell? ⟨w.heap.size, 0, none⟩ = some (.pointer none) ∧ W.cell? ⟨t, 0, none⟩ = some (.pointer none) ∧ W.cell? ⟨t, 1, none⟩ = some (.pointer (some ⟨w.heap.size, 0, none⟩))
theorem NilT.below {w : World} {t : Nat} {W W' : World} (h : NilT w t W) (hb : Below W.heap.size W W') : NilT w t W' := ⟨below_then h.1 hb, bcell1 hb h.2.1, bcell1 hb h.2.2.1, bcell1 hb h.2.2.2⟩
set_option maxRecDepth 100000 in
set_option maxHeartbeats 4000000 in
theorem nil_any {po : Option Addr} {pl pc : Nat} (w : World) (hE : ErrType w) : Calls Tryd.prog 3 #[.slice po pl pc] w fun e w' => e = .returned (.bool true) ∧ Below w.heap.size w w' := by
  have HE : Hid (ErrType w) := hE
  clear hE
  go_enter Tryd.func3, Tryd.ntmps3
  go_wp2_with fail
  refine (Open_un _ (errType_below HE.out (balloc (Below.refl _ _) _)) (Or.inl rfl)).mono ?_
  rintro e w1 ⟨x1, rfl, b1, rfl, hF1, hB1⟩
  have HB1 : Hid (Below w.heap.size w w1) := below_step (Below.refl _ _) hB1
  have HF1 : Hid (WFault w1 b1 3) := hF1
  have HP1 : Hid (w1.cell? ⟨w.heap.size, 0, none⟩ = some (.pointer none) ∧ w.heap.size < w1.heap.size) := ⟨by rw [hB1.cell (p := ⟨w.heap.size, 0, none⟩) (by simp)]; simp, by have := hB1.size; simp at this; omega⟩
  clear hF1 hB1
  go_wp2_with fail
  refine (Open_un _ (errType_below HE.out (balloc (balloc HB1.out _) _)) (Or.inr ⟨_, rfl, by simp⟩)).mono ?_
  rintro e w2 ⟨x2, rfl, b2, rfl, hF2, hB2⟩
  have HI2 : Hid (Below w.heap.size w w2 ∧ WFault w2 b1 3 ∧ WFault w2 b2 3 ∧ w2.cell? ⟨w.heap.size, 0, none⟩ = some (.pointer none) ∧ ZR w2 w1.heap.size) := by
    refine ⟨below_then (balloc (balloc HB1.out _) _) hB2, HF1.out.below (below_then (balloc (balloc (Below.refl _ _) _) _) hB2), hF2, bcell1 (below_then (balloc (balloc (Below.refl _ _) _) _) hB2) HP1.out.1, ?_⟩
    exact ZR.below (ZR.below (w := w1.alloc _) ⟨by simp, by simp, by simp, by simp⟩ (balloc (Below.refl _ _) _)) hB2
  clear hF2 hB2
  obtain ⟨r1, hr1⟩ : ∃ r1, w1.heap.size = r1 := ⟨_, rfl⟩
  rw [hr1] at HI2
  rw [hr1]
  clear hr1 HP1 HF1 HB1
  go_wp2_with fail
  obtain ⟨W, hW⟩ : ∃ W, w2.alloc (.cells #[.int .u64 0, .slice none 0 0, .slice none 0 0, .int .i64 0] 32) = W := ⟨_, rfl⟩
  have HI : Hid (NilI w r1 w2.heap.size b1 b2 W) := by
    unfold Hid; rw [← hW]
    have hb : Below w2.heap.size w2 (w2.alloc (.cells #[.int .u64 0, .slice none 0 0, .slice none 0 0, .int .i64 0] 32)) := balloc (Below.refl _ _) _
    exact ⟨balloc HI2.out.1 _, HI2.out.2.1.below hb, HI2.out.2.2.1.below hb, bcell1 hb HI2.out.2.2.2.1, HI2.out.2.2.2.2.below hb, ⟨by simp, by simp, by simp, by simp⟩⟩
  rw [hW]
  obtain ⟨r2, hr2⟩ : ∃ r2, w2.heap.size = r2 := ⟨_, rfl⟩
  rw [hr2] at HI
  rw [hr2]
  clear hr2 hW HI2
  refine (Format_un _ (errType_below HE.out HI.out.1) (Or.inl rfl)).mono ?_
  rintro e w3 ⟨x3, rfl, b3, rfl, hF3, hB3⟩
  have HI3 : Hid (NilI w r1 r2 b1 b2 w3) := HI.out.below hB3
  have HF3 : Hid (WFault w3 b3 3) := hF3
  clear hF3 hB3 HI
  go_wp2_with fail
  refine (code_fault _ (errType_below HE.out HI3.out.1) HF3.out rfl rfl).mono ?_
  rintro e w4 ⟨rfl, hB4⟩
  have HI4 : Hid (NilI w r1 r2 b1 b2 w4) := HI3.out.below hB4
  clear hB4 HI3 HF3
  go_wp2_with fail
  refine (Format_un _ (errType_below HE.out (balloc HI4.out.1 _)) (Or.inr ⟨_, rfl, by simp⟩)).mono ?_
  rintro e w5 ⟨x5, rfl, b5, rfl, hF5, hB5⟩
  have HI5 : Hid (NilI w r1 r2 b1 b2 w5) := HI4.out.below (below_step (Below.refl _ _) hB5)
  have HF5 : Hid (WFault w5 b5 3) := hF5
  clear hF5 hB5 HI4
  go_wp2_with fail
  refine (code_fault _ (errType_below HE.out HI5.out.1) HF5.out rfl rfl).mono ?_
  rintro e w6 ⟨rfl, hB6⟩
  have HI6 : Hid (NilI w r1 r2 b1 b2 w6) := HI5.out.below hB6
  clear hB6 HI5 HF5
  go_wp2_with fail
  refine (code_fault _ (errType_below HE.out HI6.out.1) HI6.out.2.1 rfl rfl).mono ?_
  rintro e w7 ⟨rfl, hB7⟩
  have HI7 : Hid (NilI w r1 r2 b1 b2 w7) := HI6.out.below hB7
  clear hB7 HI6
  go_wp2_with fail
  refine (code_fault _ (errType_below HE.out HI7.out.1) HI7.out.2.2.1 rfl rfl).mono ?_
  rintro e w8 ⟨rfl, hB8⟩
  have HI8 : Hid (NilI w r1 r2 b1 b2 w8) := HI7.out.below hB8
  clear hB8 HI7
  obtain ⟨c0, c1, c2, c3⟩ := HI8.out.2.2.2.2.1
  go_wp2_with fail
  refine (sameReplay_nil _).mono ?_
  rintro e w9 ⟨rfl, hB9⟩
  have HI9 : Hid (NilI w r1 r2 b1 b2 w9) := HI8.out.below hB9
  clear hB9 HI8 c0 c1 c2 c3
  obtain ⟨c0, c1, c2, c3⟩ := HI9.out.2.2.2.2.2
  go_wp2_with fail
  refine (sameReplay_nil _).mono ?_
  rintro e w10 ⟨rfl, hB10⟩
  have HI10 : Hid (NilI w r1 r2 b1 b2 w10) := HI9.out.below hB10
  clear hB10 HI9 c0 c1 c2 c3
  go_wp2_with fail
  obtain ⟨V0, hV⟩ : ∃ V0, w10.alloc (.cells #[.pointer none, .pointer (some ⟨w.heap.size, 0, none⟩)] 24) = V0 := ⟨_, rfl⟩
  have HT0 : Hid (NilT w w10.heap.size V0) := by
    unfold Hid; rw [← hV]
    have hb : Below w10.heap.size w10 (w10.alloc (.cells #[.pointer none, .pointer (some ⟨w.heap.size, 0, none⟩)] 24)) := balloc (Below.refl _ _) _
    exact ⟨below_then HI10.out.1 hb, bcell1 hb HI10.out.2.2.2.1, by simp, by simp⟩
  rw [hV]
  obtain ⟨t, ht⟩ : ∃ t, w10.heap.size = t := ⟨_, rfl⟩
  rw [ht] at HT0
  rw [ht]
  clear ht hV HI10
  refine wp_loop_rounds 3 ?_
  rw [rounds_succ]
  obtain ⟨_, _, d0, d1⟩ := HT0.out
  go_wp2_with fail
  refine (LSync_un _ (Or.inl rfl)).mono ?_
  rintro e V1 ⟨x, rfl, b, rfl, hF, hB⟩
  have HT1 : Hid (NilT w t V1) := HT0.out.below hB
  have HF : Hid (WFault V1 b 3) := hF
  clear hF hB HT0 d0 d1
  obtain ⟨_, _, d0, d1⟩ := HT1.out
  go_wp2_with fail
  refine (code_fault _ (errType_below HE.out HT1.out.1) HF.out rfl rfl).mono ?_
  rintro e V2 ⟨rfl, hB⟩
  have HT2 : Hid (NilT w t V2) := HT1.out.below hB
  clear hB HT1 HF d0 d1
  obtain ⟨_, _, d0, d1⟩ := HT2.out
  go_wp2_with fail
  refine (LAppend_un _ (Or.inl rfl)).mono ?_
  rintro e V3 ⟨x, rfl, b, rfl, hF, hB⟩
  have HT3 : Hid (NilT w t V3) := HT2.out.below hB
  have HF : Hid (WFault V3 b 3) := hF
  clear hF hB HT2 d0 d1
  obtain ⟨_, _, d0, d1⟩ := HT3.out
  go_wp2_with fail
  refine (code_fault _ (errType_below HE.out HT3.out.1) HF.out rfl rfl).mono ?_
  rintro e V4 ⟨rfl, hB⟩
  have HT4 : Hid (NilT w t V4) := HT3.out.below hB
  clear hB HT3 HF d0 d1
  obtain ⟨_, _, d0, d1⟩ := HT4.out
  go_wp2_with fail
  refine (LCompact_un _ (Or.inl rfl)).mono ?_
  rintro e V5 ⟨x, rfl, b, rfl, hF, hB⟩
  have HT5 : Hid (NilT w t V5) := HT4.out.below hB
  have HF : Hid (WFault V5 b 3) := hF
  clear hF hB HT4 d0 d1
  obtain ⟨_, _, d0, d1⟩ := HT5.out
  go_wp2_with fail
  refine (code_fault _ (errType_below HE.out HT5.out.1) HF.out rfl rfl).mono ?_
  rintro e V6 ⟨rfl, hB⟩
  have HT6 : Hid (NilT w t V6) := HT5.out.below hB
  clear hB HT5 HF d0 d1
  obtain ⟨_, _, d0, d1⟩ := HT6.out
  go_wp2_with fail
  refine (Stat_un _ (Or.inl rfl)).mono ?_
  rintro e V7 ⟨rfl, hB⟩
  have HT7 : Hid (NilT w t V7) := HT6.out.below hB
  clear hB HT6 d0 d1
  go_wp2_with fail
  rw [rounds_succ]
  obtain ⟨_, _, d0, d1⟩ := HT7.out
  go_wp2_with fail
  refine (LSync_un _ (Or.inr ⟨_, rfl, HT7.out.2.1⟩)).mono ?_
  rintro e V8 ⟨x, rfl, b, rfl, hF, hB⟩
  have HT8 : Hid (NilT w t V8) := HT7.out.below hB
  have HF : Hid (WFault V8 b 3) := hF
  clear hF hB HT7 d0 d1
  obtain ⟨_, _, d0, d1⟩ := HT8.out
  go_wp2_with fail
  refine (code_fault _ (errType_below HE.out HT8.out.1) HF.out rfl rfl).mono ?_
  rintro e V9 ⟨rfl, hB⟩
  have HT9 : Hid (NilT w t V9) := HT8.out.below hB
  clear hB HT8 HF d0 d1
  obtain ⟨_, _, d0, d1⟩ := HT9.out
  go_wp2_with fail
  refine (LAppend_un _ (Or.inr ⟨_, rfl, HT9.out.2.1⟩)).mono ?_
  rintro e V10 ⟨x, rfl, b, rfl, hF, hB⟩
  have HT10 : Hid (NilT w t V10) := HT9.out.below hB
  have HF : Hid (WFault V10 b 3) := hF
  clear hF hB HT9 d0 d1
  obtain ⟨_, _, d0, d1⟩ := HT10.out
  go_wp2_with fail
  refine (code_fault _ (errType_below HE.out HT10.out.1) HF.out rfl rfl).mono ?_
  rintro e V11 ⟨rfl, hB⟩
  have HT11 : Hid (NilT w t V11) := HT10.out.below hB
  clear hB HT10 HF d0 d1
  obtain ⟨_, _, d0, d1⟩ := HT11.out
  go_wp2_with fail
  refine (LCompact_un _ (Or.inr ⟨_, rfl, HT11.out.2.1⟩)).mono ?_
  rintro e V12 ⟨x, rfl, b, rfl, hF, hB⟩
  have HT12 : Hid (NilT w t V12) := HT11.out.below hB
  have HF : Hid (WFault V12 b 3) := hF
  clear hF hB HT11 d0 d1
  obtain ⟨_, _, d0, d1⟩ := HT12.out
  go_wp2_with fail
  refine (code_fault _ (errType_below HE.out HT12.out.1) HF.out rfl rfl).mono ?_
  rintro e V13 ⟨rfl, hB⟩
  have HT13 : Hid (NilT w t V13) := HT12.out.below hB
  clear hB HT12 HF d0 d1
  obtain ⟨_, _, d0, d1⟩ := HT13.out
  go_wp2_with fail
  refine (Stat_un _ (Or.inr ⟨_, rfl, HT13.out.2.1⟩)).mono ?_
  rintro e V14 ⟨rfl, hB⟩
  have HT14 : Hid (NilT w t V14) := HT13.out.below hB
  clear hB HT13 d0 d1
  go_wp2_with fail
  rw [rounds_succ]
  go_wp2_with fail
  go_ret
  exact ⟨rfl, HT14.out.1⟩
theorem nil_walk {po : Option Addr} {pl pc : Nat} {bs : List Int} (w : World) (_ : Byts w po pl bs) (_ : pl ≤ maxLen) (_ : po = none → pc = 0) (_ : pl ≤ pc) (_ : pl ≤ 140737488355328) (_ : ∀ z ∈ bs, 0 ≤ z ∧ z ≤ 255) (hE : ErrType w) : Calls Tryd.prog 3 #[.slice po pl pc] w fun e w' => e = .returned (.bool true) ∧ Below w.heap.size w w' := nil_any w hE
end Go.Proofs.YtgemlifpfffebaaDoor
