import Derived.Test.YtigmgbnfiiobeaaDoorOxLaw0
/-
  The calls of a box that nobody made.
-/
namespace Go.Proofs.YtigmgbnfiiobeaaDoor
open Go.RowKit

section
variable {w w' : World} {x : Value}
set_option maxHeartbeats 1000000 in
theorem list_un (h : Un w x) : Calls Tryd.prog 7 #[x] w fun e w' => e = .returned (.slice none 0 0) ∧ w' = w := by
  have hmk := made_no h
  clear h
  go_enter Tryd.func7, Tryd.ntmps7
  go_wp2_with (first | (go_at_call 21; refine hmk.mono ?_; rintro _ w9 ⟨rfl, h9⟩; subst w9))
  go_ret
  exact ⟨rfl, rfl⟩
set_option maxRecDepth 100000 in
set_option maxHeartbeats 1000000 in
theorem nextC_un (h : Un w x) : Calls Tryd.prog 9 #[x] w fun e w' => e = .returned (.tuple #[.agg #[.string ⟨#[]⟩, .slice none 0 0, .bool false, .int .i64 0, .int .i64 0, .int .i64 0, .bool false], .bool false]) ∧ Below w.heap.size w w' := by
  have hmk := fun o => made_no (h.alloc o)
  have bx := Box.new w #[.string ⟨#[]⟩, .slice none 0 0, .bool false, .int .i64 0, .int .i64 0, .int .i64 0, .bool false] 45
  have cx := bx.cell
  clear h
  go_enter Tryd.func9, Tryd.ntmps9
  go_wp2_with (first | (go_at_call 21; refine (hmk _).mono ?_; rintro _ w9 ⟨rfl, h9⟩; subst w9))
  refine bodyPost_ret ?_ rfl ⟨rfl, ?_⟩
  · simp [results, Tryd.results9, go_sem]
  · exact (Below.refl _ _).alloc (Nat.le_refl _) _
set_option maxRecDepth 100000 in
set_option maxHeartbeats 1000000 in
theorem give_un (h : Un w x) (n : Int) : Calls Tryd.prog 10 #[x, .int .i64 n] w (Fl w 0 3) := by
  have hmk := made_no h
  clear h
  go_enter Tryd.func10, Tryd.ntmps10
  go_wp2_with (first | (go_at_call 21; refine hmk.mono ?_; rintro _ w9 ⟨rfl, h9⟩; subst w9))
  refine (fault_any _ _ _).mono ?_
  rintro _ w2 ⟨rfl, hf2, hb2⟩
  go_wp2_with fail
  go_ret
  exact ⟨w.heap.size, rfl, Nat.le_refl _, hf2, hb2⟩
set_option maxRecDepth 100000 in
set_option maxHeartbeats 1000000 in
theorem add_un (h : Un w x) (ct : ByteArray) (po : Option Addr) (n c : Nat) (e : Bool) (a p : Int) : Calls Tryd.prog 12 #[x, .string ct, .slice po n c, .agg #[.bool e, .int .i64 a, .int .i64 p]] w (Fl w 0 3) := by
  have hmk := fun o => made_no (h.alloc o)
  clear h
  go_enter Tryd.func12, Tryd.ntmps12
  go_wp2_with (first | (go_at_call 21; refine (hmk _).mono ?_; rintro _ w9 ⟨rfl, h9⟩; subst w9))
  refine (fault_any _ _ _).mono ?_
  rintro _ w2 ⟨rfl, hf2, hb2⟩
  have HE : Hid (OFault w2 (w.heap.size + 1) 0 3 ∧ Below w.heap.size w w2) := ⟨by simpa using hf2, below_then ((Below.refl _ _).alloc (Nat.le_refl _) _) hb2⟩
  clear hf2 hb2
  go_wp2_with fail
  go_ret
  exact ⟨w.heap.size + 1, rfl, by omega, HE.out.1, HE.out.2⟩
set_option maxRecDepth 100000 in
set_option maxHeartbeats 1000000 in
theorem go_un (h : Un w x) : Calls Tryd.prog 11 #[x] w (DFl w 3) := by
  have hmk := made_no h
  clear h
  go_enter Tryd.func11, Tryd.ntmps11
  go_wp2_with (first | (go_at_call 21; refine hmk.mono ?_; rintro _ w9 ⟨rfl, h9⟩; subst w9))
  refine (fault_any _ _ _).mono ?_
  rintro _ w2 ⟨rfl, hf2, hb2⟩
  go_wp2_with fail
  go_ret2
  exact ⟨w.heap.size, rfl, Nat.le_refl _, hf2, hb2⟩
set_option maxRecDepth 100000 in
set_option maxHeartbeats 2000000 in
theorem bfind_un (h : Un w x) (s : ByteArray) : Calls Tryd.prog 32 #[x, .string s] w (ZFl w 3) := by
  have hmk := fun o => made_no (h.alloc o)
  have bx := Box.new w #[.string ⟨#[]⟩, .slice none 0 0, .bool false, .int .i64 0, .int .i64 0, .int .i64 0, .bool false, .int .i64 0, .int .i64 0, .bool false] 49
  clear h
  go_enter Tryd.func32, Tryd.ntmps32
  go_wp2_with (first | (go_at_call 21; refine (hmk _).mono ?_; rintro _ w9 ⟨rfl, h9⟩; subst w9))
  refine (fault_any _ _ _).mono ?_
  rintro _ w2 ⟨rfl, hf2, hb2⟩
  have x2 := bx.below hb2
  have cx := x2.cell
  have fx := x2.free
  have HE : Hid (OFault w2 (w.heap.size + 1) 0 3 ∧ Below w.heap.size w w2) := ⟨by simpa using hf2, below_then ((Below.refl _ _).alloc (Nat.le_refl _) _) hb2⟩
  clear hf2 hb2 x2 bx
  go_wp2_with fail
  refine bodyPost_ret ?_ rfl ⟨w.heap.size + 1, rfl, by omega, ?_, ?_⟩
  · simp [results, Tryd.results32, go_sem, cx]
  · refine OFault.keep HE.out.1 fun o => ?_
    have hne : ∀ q : Nat, (⟨w.heap.size, q, none⟩ : Addr) ≠ ⟨w.heap.size + 1, o, none⟩ := fun q e => by injection e; omega
    iterate 10 (rw [World.cell?_setCell_other _ _ _ _ (hne _)])
  · iterate 10 (refine Below.setCell ?_ (by exact Nat.le_refl _) _)
    exact HE.out.2
end
end Go.Proofs.YtigmgbnfiiobeaaDoor

/-
  The calls of a box that nobody made: underWay, Due, Heard, Get.
-/
namespace Go.Proofs.YtigmgbnfiiobeaaDoor
open Go.RowKit

section
variable {w w' : World} {x : Value}
set_option maxRecDepth 100000 in
set_option maxHeartbeats 2000000 in
theorem under_un (h : Un w x) (s : ByteArray) : Calls Tryd.prog 30 #[x, .string s] w (ZFl w 3) := by
  have bv : Below w.heap.size w (w.alloc (.cells #[.string ⟨#[]⟩, .slice none 0 0, .bool false, .int .i64 0, .int .i64 0, .int .i64 0, .bool false, .int .i64 0, .int .i64 0, .bool false] 49)) := (Below.refl _ _).alloc (Nat.le_refl _) _
  have bx := Box.new w #[.string ⟨#[]⟩, .slice none 0 0, .bool false, .int .i64 0, .int .i64 0, .int .i64 0, .bool false, .int .i64 0, .int .i64 0, .bool false] 49
  have hkf := bfind_un (h.below bv) s
  clear h
  go_enter Tryd.func30, Tryd.ntmps30
  go_wp2_with fail
  obtain ⟨V, hW⟩ : ∃ V, w.alloc (.cells #[.string ⟨#[]⟩, .slice none 0 0, .bool false, .int .i64 0, .int .i64 0, .int .i64 0, .bool false, .int .i64 0, .int .i64 0, .bool false] 49) = V := ⟨_, rfl⟩
  rw [hW] at bv bx hkf ⊢
  clear hW
  have HB0 : Hid (Below w.heap.size w V ∧ Box V w.heap.size #[.string ⟨#[]⟩, .slice none 0 0, .bool false, .int .i64 0, .int .i64 0, .int .i64 0, .bool false, .int .i64 0, .int .i64 0, .bool false]) := ⟨bv, bx⟩
  clear bv bx
  refine hkf.mono ?_
  rintro _ w1 ⟨z, rfl, hz, hfl, hb1⟩
  have x1 := HB0.out.2.below hb1
  have lx := x1.lt
  have cx := x1.cell
  have fx := x1.free
  have hzl : z < w1.heap.size := cell_lt hfl.1
  have hzV : w.heap.size < z := Nat.lt_of_lt_of_le HB0.out.2.lt hz
  have HE : Hid (OFault w1 z 0 3 ∧ Below w.heap.size w w1) := ⟨hfl, below_then HB0.out.1 hb1⟩
  clear hkf hb1 x1 hfl hz
  go_wp2_with fail
  refine bodyPost_ret ?_ rfl ⟨z, rfl, by omega, ?_, ?_⟩
  · simp [results, Tryd.results30, go_sem, cx, lx]
  · refine OFault.keep HE.out.1 fun o => ?_
    rw [World.cell?_alloc_lt _ _ ⟨z, o, none⟩ (by simp; omega)]
    have hne : ∀ q : Nat, (⟨w.heap.size, q, none⟩ : Addr) ≠ ⟨z, o, none⟩ := fun q e => by injection e; omega
    iterate 10 (rw [World.cell?_setCell_other _ _ _ _ (hne _)])
  · refine Below.alloc ?_ (by simp; omega) _
    iterate 10 (refine Below.setCell ?_ (by exact Nat.le_refl _) _)
    exact HE.out.2
set_option maxRecDepth 100000 in
set_option maxHeartbeats 2000000 in
theorem due_unx {s : ByteArray} {cd : Int} (h : Calls Tryd.prog 30 #[x, .string s] w (ZFl w cd)) : Calls Tryd.prog 20 #[x, .string s] w (DFl w cd) := by
  go_enter Tryd.func20, Tryd.ntmps20
  go_wp2_with fail
  refine h.mono ?_
  rintro _ w1 ⟨z, rfl, hz, hf, hb⟩
  have HE : Hid (w.heap.size ≤ z ∧ (∀ o, OFault (w1.alloc o) z 0 cd) ∧ ∀ o, Below w.heap.size w (w1.alloc o)) := ⟨hz, fun o => hf.below ((Below.refl _ _).alloc (Nat.le_refl _) _), fun o => hb.alloc hb.size o⟩
  clear h hz hf hb
  go_wp2_with fail
  go_ret2
  exact ⟨z, rfl, HE.out.1, HE.out.2.1 _, HE.out.2.2 _⟩
set_option maxRecDepth 100000 in
set_option maxHeartbeats 2000000 in
theorem heard_unx {t s : ByteArray} {y cd : Int} (h : Calls Tryd.prog 30 #[x, .string t] w (ZFl w cd)) : Calls Tryd.prog 14 #[x, .string t, .string s, .int .i64 y] w (DFl w cd) := by
  go_enter Tryd.func14, Tryd.ntmps14
  go_wp2_with fail
  refine h.mono ?_
  rintro _ w1 ⟨z, rfl, hz, hf, hb⟩
  have HE : Hid (w.heap.size ≤ z ∧ (∀ o, OFault (w1.alloc o) z 0 cd) ∧ ∀ o, Below w.heap.size w (w1.alloc o)) := ⟨hz, fun o => hf.below ((Below.refl _ _).alloc (Nat.le_refl _) _), fun o => hb.alloc hb.size o⟩
  clear h hz hf hb
  go_wp2_with fail
  go_ret2
  exact ⟨z, rfl, HE.out.1, HE.out.2.1 _, HE.out.2.2 _⟩
set_option maxRecDepth 100000 in
set_option maxHeartbeats 2000000 in
theorem get_un (h : Un w x) (s : ByteArray) : Calls Tryd.prog 15 #[x, .string s] w (ZFl w 3) := by
  have bv : Below w.heap.size w (w.alloc (.cells #[.string ⟨#[]⟩, .slice none 0 0, .bool false, .int .i64 0, .int .i64 0, .int .i64 0, .bool false, .int .i64 0, .int .i64 0, .bool false] 49)) := (Below.refl _ _).alloc (Nat.le_refl _) _
  have bx := Box.new w #[.string ⟨#[]⟩, .slice none 0 0, .bool false, .int .i64 0, .int .i64 0, .int .i64 0, .bool false, .int .i64 0, .int .i64 0, .bool false] 49
  have hkf := bfind_un (h.below bv) s
  clear h
  go_enter Tryd.func15, Tryd.ntmps15
  go_wp2_with fail
  obtain ⟨V, hW⟩ : ∃ V, w.alloc (.cells #[.string ⟨#[]⟩, .slice none 0 0, .bool false, .int .i64 0, .int .i64 0, .int .i64 0, .bool false, .int .i64 0, .int .i64 0, .bool false] 49) = V := ⟨_, rfl⟩
  rw [hW] at bv bx hkf ⊢
  clear hW
  have HB0 : Hid (Below w.heap.size w V ∧ Box V w.heap.size #[.string ⟨#[]⟩, .slice none 0 0, .bool false, .int .i64 0, .int .i64 0, .int .i64 0, .bool false, .int .i64 0, .int .i64 0, .bool false]) := ⟨bv, bx⟩
  clear bv bx
  refine hkf.mono ?_
  rintro _ w1 ⟨z, rfl, hz, hfl, hb1⟩
  have x1 := HB0.out.2.below hb1
  have lx := x1.lt
  have cx := x1.cell
  have fx := x1.free
  have hzl : z < w1.heap.size := cell_lt hfl.1
  have hzV : w.heap.size < z := Nat.lt_of_lt_of_le HB0.out.2.lt hz
  have HE : Hid (OFault w1 z 0 3 ∧ Below w.heap.size w w1) := ⟨hfl, below_then HB0.out.1 hb1⟩
  clear hkf hb1 x1 hfl hz
  go_wp2_with fail
  refine bodyPost_ret ?_ rfl ⟨z, rfl, by omega, ?_, ?_⟩
  · simp [results, Tryd.results15, go_sem, cx, lx]
  · refine OFault.keep HE.out.1 fun o => ?_
    rw [World.cell?_alloc_lt _ _ ⟨z, o, none⟩ (by simp; omega)]
    have hne : ∀ q : Nat, (⟨w.heap.size, q, none⟩ : Addr) ≠ ⟨z, o, none⟩ := fun q e => by injection e; omega
    iterate 10 (rw [World.cell?_setCell_other _ _ _ _ (hne _)])
  · refine Below.alloc ?_ (by simp; omega) _
    iterate 10 (refine Below.setCell ?_ (by exact Nat.le_refl _) _)
    exact HE.out.2
end
end Go.Proofs.YtigmgbnfiiobeaaDoor
