/-
  The program's Copy.
-/
import Derived.Test.YtjmjimbhoncidaaDoorDcPm
import Derived.Deep.RegionHeld3
namespace Go.Proofs.YtjmjimbhoncidaaDoor
open Go.RowKit

set_option maxRecDepth 100000 in
set_option maxHeartbeats 1000000 in
theorem Copy_y (e : Bool) (a p : Int) (d : Bool) (c : ByteArray) (L7 L9 : ActL) (w : World) (hV : PVc w) (ok : okB e a p = true) (hk : keptB d c = true) (hl : L7.length + L9.length ≤ 100) (h7 : ∀ x, PVc x → Calls Tryd.prog 55 #[.agg #[.bool e, .int .i64 a, .int .i64 p], .int .i64 7, .string ⟨#[67, 65]⟩] x fun r x' => ∃ po m, r = .returned (.slice po m m) ∧ Hid (ActRow x' x.heap.size (.slice po m m) L7 ∧ Below x.heap.size x x')) (h9 : ∀ x, PVc x → Calls Tryd.prog 55 #[.agg #[.bool e, .int .i64 a, .int .i64 p], .int .i64 9, .string c] x fun r x' => ∃ po m, r = .returned (.slice po m m) ∧ Hid (ActRow x' x.heap.size (.slice po m m) L9 ∧ Below x.heap.size x x')) : Calls Tryd.prog 30 #[.agg #[.bool e, .int .i64 a, .int .i64 p], .agg #[.bool d, .string c]] w (fun r w' => ∃ po cap, r = .returned (.tuple #[.slice po (L7.length + L9.length) cap, .nilIface]) ∧ ActRow w' w.heap.size (.slice po (L7.length + L9.length) cap) (L7 ++ L9) ∧ Below w.heap.size w w') := by
  have HV : Hid (PVc w) := hV
  clear hV
  have c1 := fun x => refuse_ok e a p x ok
  have ck : Hid (∀ x, PVc x → Calls Tryd.prog 56 #[.agg #[.bool d, .string c]] x fun r x' => r = .returned (.bool true) ∧ Below x.heap.size x x') := fun x hx => by have := isKept_any d c x hx; rw [hk] at this; exact this
  have Q7 : Hid (∀ x, PVc x → Calls Tryd.prog 55 #[.agg #[.bool e, .int .i64 a, .int .i64 p], .int .i64 7, .string ⟨#[67, 65]⟩] x fun r x' => ∃ po m, r = .returned (.slice po m m) ∧ Hid (ActRow x' x.heap.size (.slice po m m) L7 ∧ Below x.heap.size x x')) := h7
  have Q9 : Hid (∀ x, PVc x → Calls Tryd.prog 55 #[.agg #[.bool e, .int .i64 a, .int .i64 p], .int .i64 9, .string c] x fun r x' => ∃ po m, r = .returned (.slice po m m) ∧ Hid (ActRow x' x.heap.size (.slice po m m) L9 ∧ Below x.heap.size x x')) := h9
  have HL : Hid (L7.length + L9.length ≤ 100) := hl
  clear ok hk h7 h9 hl
  go_enter Tryd.func30, Tryd.ntmps30
  go_wp2_with fail
  refine (c1 _).mono ?_
  rintro _ w1 ⟨rfl, b1⟩
  have HB1 : Hid (Below w.heap.size w w1) := below_then (bl_alloc ((Below.refl _ _).alloc (Nat.le_refl _) _) _) b1
  have X1_0 : Hid (Box w1 (w.heap.size) #[.bool e, .int .i64 a, .int .i64 p]) := ((Box.new' _ #[.bool e, .int .i64 a, .int .i64 p] 23 (w.heap.size) (by simp)).alloc _).below b1
  have X1_1 : Hid (Box w1 (w.heap.size + 1) #[.bool d, .string c]) := (Box.new' _ #[.bool d, .string c] 59 (w.heap.size + 1) (by simp)).below b1
  obtain ⟨l1_0, k1_0, f1_0⟩ := X1_0.out
  obtain ⟨l1_1, k1_1, f1_1⟩ := X1_1.out
  clear b1
  go_wp2_with fail
  refine (ck.out _ (HV.out.below HB1.out)).mono ?_
  rintro _ w2 ⟨rfl, b2⟩
  have HB2 : Hid (Below w.heap.size w w2) := below_then HB1.out b2
  have X2_0 : Hid (Box w2 (w.heap.size) #[.bool e, .int .i64 a, .int .i64 p]) := X1_0.out.below b2
  have X2_1 : Hid (Box w2 (w.heap.size + 1) #[.bool d, .string c]) := X1_1.out.below b2
  clear k1_0 l1_0 f1_0 X1_0 k1_1 l1_1 f1_1 X1_1 HB1
  obtain ⟨l2_0, k2_0, f2_0⟩ := X2_0.out
  obtain ⟨l2_1, k2_1, f2_1⟩ := X2_1.out
  clear b2
  go_upto_region 6 with fail
  have V2 : Hid (PVc w2) := HV.out.below HB2.out
  have HQ : Hid (∀ k s x, Below w2.heap.size w2 x → (k = 7 ∧ s = ⟨#[67, 65]⟩) ∨ (k = 9 ∧ s = c) → Calls Tryd.prog 55 #[.agg #[.bool e, .int .i64 a, .int .i64 p], .int .i64 k, .string s] x fun r x' => ∃ po m, r = .returned (.slice po m m) ∧ Hid (ActRow x' x.heap.size (.slice po m m) (if k = 7 then L7 else L9) ∧ Below x.heap.size x x')) := fun k s x hx hh => by
    rcases hh with ⟨rfl, rfl⟩ | ⟨rfl, rfl⟩
    · exact Q7.out x (V2.out.below hx)
    · exact Q9.out x (V2.out.below hx)
  clear Q7 Q9 V2 HV
  go_region_held3 (fun x => x.cell? ⟨w.heap.size, 0, none⟩ = some (.bool e) ∧ x.cell? ⟨w.heap.size, 1, none⟩ = some (.int .i64 a) ∧ x.cell? ⟨w.heap.size, 2, none⟩ = some (.int .i64 p) ∧ x.cell? ⟨w.heap.size + 1, 1, none⟩ = some (.string c)) (simp [*]) (first | (refine step_aapp (B := w2.heap.size) (N := w7.heap.size) rfl (.tmp 17) (.tmp 21) rfl rfl rfl rfl R79.out.1 b9.out.size R79.out.2 HL.out ?_; intro a' c' w5 HR5 b5; have HRR : Hid (ActRow w5 w2.heap.size (.slice a' (L7.length + L9.length) c') (L7 ++ L9)) := HR5; have hb5 : Hid (Below w2.heap.size w2 w5) := b9.out.trans b5; clear HR5 b5; have ew50 : w5.cell? ⟨w.heap.size, 0, none⟩ = some (.bool e) := ((X2_0.out.below hb5.out).cell 0).trans rfl; have ew51 : w5.cell? ⟨w.heap.size, 1, none⟩ = some (.int .i64 a) := ((X2_0.out.below hb5.out).cell 1).trans rfl; have ew52 : w5.cell? ⟨w.heap.size, 2, none⟩ = some (.int .i64 p) := ((X2_0.out.below hb5.out).cell 2).trans rfl; have ew53 : w5.cell? ⟨w.heap.size + 1, 1, none⟩ = some (.string c) := ((X2_1.out.below hb5.out).cell 1).trans rfl) | (go_at_call 55; first | (have hh7 := h7.out; clear hh7; refine (HQ.out _ _ _ ?_ ?_).mono ?_; (first | exact b7.out | exact Below.drew b7.out); exact Or.inr ⟨rfl, rfl⟩; rintro _ w9 ⟨po9, m9, rfl, h9⟩; have b9 : Hid (Below w2.heap.size w2 w9) := (by first | exact below_then b7.out h9.out.2 | exact below_then (Below.drew b7.out) h9.out.2); have R79 : Hid (ActRow w9 w2.heap.size (.slice po7 m7 m7) L7 ∧ Acts w9 w7.heap.size (.slice po9 m9 m9) L9) := ⟨(by first | exact R7.out.below h9.out.2 | exact ActRow.below (ActRow.drew' R7.out) h9.out.2), h9.out.1.acts⟩; have ew90 : w9.cell? ⟨w.heap.size, 0, none⟩ = some (.bool e) := ((X2_0.out.below b9.out).cell 0).trans rfl; have ew91 : w9.cell? ⟨w.heap.size, 1, none⟩ = some (.int .i64 a) := ((X2_0.out.below b9.out).cell 1).trans rfl; have ew92 : w9.cell? ⟨w.heap.size, 2, none⟩ = some (.int .i64 p) := ((X2_0.out.below b9.out).cell 2).trans rfl; have ew93 : w9.cell? ⟨w.heap.size + 1, 1, none⟩ = some (.string c) := ((X2_1.out.below b9.out).cell 1).trans rfl) | (refine (HQ.out _ _ _ ?_ ?_).mono ?_; (first | exact Below.refl _ _ | exact Below.drew (Below.refl _ _)); exact Or.inl ⟨rfl, rfl⟩; rintro _ w7 ⟨po7, m7, rfl, h7⟩; have b7 : Hid (Below w2.heap.size w2 w7) := (by first | exact h7.out.2 | exact below_then (Below.drew (Below.refl _ _)) h7.out.2); have R7 : Hid (ActRow w7 w2.heap.size (.slice po7 m7 m7) L7) := h7.out.1; have ew70 : w7.cell? ⟨w.heap.size, 0, none⟩ = some (.bool e) := ((X2_0.out.below b7.out).cell 0).trans rfl; have ew71 : w7.cell? ⟨w.heap.size, 1, none⟩ = some (.int .i64 a) := ((X2_0.out.below b7.out).cell 1).trans rfl; have ew72 : w7.cell? ⟨w.heap.size, 2, none⟩ = some (.int .i64 p) := ((X2_0.out.below b7.out).cell 2).trans rfl; have ew73 : w7.cell? ⟨w.heap.size + 1, 1, none⟩ = some (.string c) := ((X2_1.out.below b7.out).cell 1).trans rfl)))
  all_goals
    go_wp2_with fail
    refine bodyPost_ret (v := .tuple #[.slice a' (L7.length + L9.length) c', .nilIface]) ?_ rfl ⟨_, _, rfl, HRR.out.mono HB2.out.size, below_then HB2.out hb5.out⟩
    simp [results, Tryd.results30, go_sem]
end Go.Proofs.YtjmjimbhoncidaaDoor
