import Derived.Test.YtoijhecphgdfnaaGreatDoorOxLaw0
import Derived.Test.YtoijhecphgdfnaaGreatDoorDcPa
import Derived.SizedLaws
import Derived.Test.YtoijhecphgdfnaaGreatDoorOxDue
import Derived.Lib.SlBytesConst
/-
  The calls of a box that nobody made.
-/
namespace Go.Proofs.YtoijhecphgdfnaaGreatDoor
open Go.RowKit

section
variable {w w' : World} {x : Value}
set_option maxHeartbeats 1000000 in
theorem len_un (h : Un w x) : Calls Tryz.prog 38 #[x] w fun e w' => e = .returned (.int .i64 0) ∧ w' = w := by
  have hmk := made_no h
  clear h
  go_enter Tryz.func38, Tryz.ntmps38
  go_wp2_with (first | (go_at_call 52; refine hmk.mono ?_; rintro _ w9 ⟨rfl, h9⟩; subst w9))
  go_ret
  exact ⟨rfl, rfl⟩
set_option maxHeartbeats 1000000 in
theorem list_un (h : Un w x) : Calls Tryz.prog 34 #[x] w fun e w' => e = .returned (.slice none 0 0) ∧ w' = w := by
  have hmk := made_no h
  clear h
  go_enter Tryz.func34, Tryz.ntmps34
  go_wp2_with (first | (go_at_call 52; refine hmk.mono ?_; rintro _ w9 ⟨rfl, h9⟩; subst w9))
  go_ret
  exact ⟨rfl, rfl⟩
set_option maxRecDepth 100000 in
set_option maxHeartbeats 1000000 in
theorem nextC_un (h : Un w x) : Calls Tryz.prog 18 #[x] w fun e w' => e = .returned (.tuple #[.agg #[.string ⟨#[]⟩, .slice none 0 0, .bool false, .int .i64 0, .int .i64 0, .int .i64 0, .bool false], .bool false]) ∧ Below w.heap.size w w' := by
  have hmk := fun o => made_no (h.alloc o)
  have bx := Box.new w #[.string ⟨#[]⟩, .slice none 0 0, .bool false, .int .i64 0, .int .i64 0, .int .i64 0, .bool false] 58
  have cx := bx.cell
  clear h
  go_enter Tryz.func18, Tryz.ntmps18
  go_wp2_with (first | (go_at_call 52; refine (hmk _).mono ?_; rintro _ w9 ⟨rfl, h9⟩; subst w9))
  refine bodyPost_ret ?_ rfl ⟨rfl, ?_⟩
  · simp [results, Tryz.results18, go_sem]
  · exact (Below.refl _ _).alloc (Nat.le_refl _) _
set_option maxRecDepth 100000 in
set_option maxHeartbeats 1000000 in
theorem give_un (h : Un w x) (n : Int) : Calls Tryz.prog 21 #[x, .int .i64 n] w (Fl w 0 3) := by
  have hmk := made_no h
  clear h
  go_enter Tryz.func21, Tryz.ntmps21
  go_wp2_with (first | (go_at_call 52; refine hmk.mono ?_; rintro _ w9 ⟨rfl, h9⟩; subst w9))
  refine (fault_any _ _ _).mono ?_
  rintro _ w2 ⟨rfl, hf2, hb2⟩
  go_wp2_with fail
  go_ret
  exact ⟨w.heap.size, rfl, Nat.le_refl _, hf2, hb2⟩
set_option maxRecDepth 100000 in
set_option maxHeartbeats 1000000 in
theorem add_un (h : Un w x) (ct : ByteArray) (po : Option Addr) (n c : Nat) (e : Bool) (a p : Int) : Calls Tryz.prog 16 #[x, .string ct, .slice po n c, .agg #[.bool e, .int .i64 a, .int .i64 p]] w (Fl w 0 3) := by
  have hmk := fun o => made_no (h.alloc o)
  clear h
  go_enter Tryz.func16, Tryz.ntmps16
  go_wp2_with (first | (go_at_call 52; refine (hmk _).mono ?_; rintro _ w9 ⟨rfl, h9⟩; subst w9))
  refine (fault_any _ _ _).mono ?_
  rintro _ w2 ⟨rfl, hf2, hb2⟩
  have HE : Hid (OFault w2 (w.heap.size + 1) 0 3 ∧ Below w.heap.size w w2) := ⟨by simpa using hf2, below_then ((Below.refl _ _).alloc (Nat.le_refl _) _) hb2⟩
  clear hf2 hb2
  go_wp2_with fail
  go_ret
  exact ⟨w.heap.size + 1, rfl, by omega, HE.out.1, HE.out.2⟩
set_option maxRecDepth 100000 in
set_option maxHeartbeats 1000000 in
theorem go_un (h : Un w x) : Calls Tryz.prog 23 #[x] w (DFl w 3) := by
  have hmk := made_no h
  clear h
  go_enter Tryz.func23, Tryz.ntmps23
  go_wp2_with (first | (go_at_call 52; refine hmk.mono ?_; rintro _ w9 ⟨rfl, h9⟩; subst w9))
  refine (fault_any _ _ _).mono ?_
  rintro _ w2 ⟨rfl, hf2, hb2⟩
  go_wp2_with fail
  go_ret2
  exact ⟨w.heap.size, rfl, Nat.le_refl _, hf2, hb2⟩
set_option maxRecDepth 100000 in
set_option maxHeartbeats 2000000 in
theorem bfind_un (h : Un w x) (s : ByteArray) : Calls Tryz.prog 68 #[x, .string s] w (ZFl w 3) := by
  have hmk := fun o => made_no (h.alloc o)
  have bx := Box.new w #[.string ⟨#[]⟩, .slice none 0 0, .bool false, .int .i64 0, .int .i64 0, .int .i64 0, .bool false, .int .i64 0, .int .i64 0, .bool false] 91
  clear h
  go_enter Tryz.func68, Tryz.ntmps68
  go_wp2_with (first | (go_at_call 52; refine (hmk _).mono ?_; rintro _ w9 ⟨rfl, h9⟩; subst w9))
  refine (fault_any _ _ _).mono ?_
  rintro _ w2 ⟨rfl, hf2, hb2⟩
  have x2 := bx.below hb2
  have cx := x2.cell
  have fx := x2.free
  have HE : Hid (OFault w2 (w.heap.size + 1) 0 3 ∧ Below w.heap.size w w2) := ⟨by simpa using hf2, below_then ((Below.refl _ _).alloc (Nat.le_refl _) _) hb2⟩
  clear hf2 hb2 x2 bx
  go_wp2_with fail
  refine bodyPost_ret ?_ rfl ⟨w.heap.size + 1, rfl, by omega, ?_, ?_⟩
  · simp [results, Tryz.results68, go_sem, cx]
  · refine OFault.keep HE.out.1 fun o => ?_
    have hne : ∀ q : Nat, (⟨w.heap.size, q, none⟩ : Addr) ≠ ⟨w.heap.size + 1, o, none⟩ := fun q e => by injection e; omega
    iterate 10 (rw [World.cell?_setCell_other _ _ _ _ (hne _)])
  · iterate 10 (refine Below.setCell ?_ (by exact Nat.le_refl _) _)
    exact HE.out.2
end
end Go.Proofs.YtoijhecphgdfnaaGreatDoor

/-
  The calls of a box that nobody made: underWay, Due, Heard, Get.
-/
namespace Go.Proofs.YtoijhecphgdfnaaGreatDoor
open Go.RowKit

section
variable {w w' : World} {x : Value}
set_option maxRecDepth 100000 in
set_option maxHeartbeats 2000000 in
theorem under_un (h : Un w x) (s : ByteArray) : Calls Tryz.prog 63 #[x, .string s] w (ZFl w 3) := by
  have bv : Below w.heap.size w (w.alloc (.cells #[.string ⟨#[]⟩, .slice none 0 0, .bool false, .int .i64 0, .int .i64 0, .int .i64 0, .bool false, .int .i64 0, .int .i64 0, .bool false] 91)) := (Below.refl _ _).alloc (Nat.le_refl _) _
  have bx := Box.new w #[.string ⟨#[]⟩, .slice none 0 0, .bool false, .int .i64 0, .int .i64 0, .int .i64 0, .bool false, .int .i64 0, .int .i64 0, .bool false] 91
  have hkf := bfind_un (h.below bv) s
  clear h
  go_enter Tryz.func63, Tryz.ntmps63
  go_wp2_with fail
  obtain ⟨V, hW⟩ : ∃ V, w.alloc (.cells #[.string ⟨#[]⟩, .slice none 0 0, .bool false, .int .i64 0, .int .i64 0, .int .i64 0, .bool false, .int .i64 0, .int .i64 0, .bool false] 91) = V := ⟨_, rfl⟩
  rw [hW] at bv bx hkf ⊢
  clear hW
  have HB0 : Hid (Below w.heap.size w V ∧ Box V w.heap.size #[.string ⟨#[]⟩, .slice none 0 0, .bool false, .int .i64 0, .int .i64 0, .int .i64 0, .bool false, .int .i64 0, .int .i64 0, .bool false]) := ⟨bv, bx⟩
  clear bv bx
  refine hkf.mono ?_
  rintro _ w1 ⟨z, rfl, hz, hfl, hb1⟩
  have x1 := HB0.out.2.below hb1
  have lx := x1.lt
  have cx := x1.cell
  have fx := x1.free
  have hzl : z < w1.heap.size := cell_lt hfl.1
  have hzV : w.heap.size < z := Nat.lt_of_lt_of_le HB0.out.2.lt hz
  have HE : Hid (OFault w1 z 0 3 ∧ Below w.heap.size w w1) := ⟨hfl, below_then HB0.out.1 hb1⟩
  clear hkf hb1 x1 hfl hz
  go_wp2_with fail
  refine bodyPost_ret ?_ rfl ⟨z, rfl, by omega, ?_, ?_⟩
  · simp [results, Tryz.results63, go_sem, cx, lx]
  · refine OFault.keep HE.out.1 fun o => ?_
    rw [World.cell?_alloc_lt _ _ ⟨z, o, none⟩ (by simp; omega)]
    have hne : ∀ q : Nat, (⟨w.heap.size, q, none⟩ : Addr) ≠ ⟨z, o, none⟩ := fun q e => by injection e; omega
    iterate 10 (rw [World.cell?_setCell_other _ _ _ _ (hne _)])
  · refine Below.alloc ?_ (by simp; omega) _
    iterate 10 (refine Below.setCell ?_ (by exact Nat.le_refl _) _)
    exact HE.out.2
set_option maxRecDepth 100000 in
set_option maxHeartbeats 2000000 in
theorem due_unx {s : ByteArray} {cd : Int} (h : Calls Tryz.prog 63 #[x, .string s] w (ZFl w cd)) : Calls Tryz.prog 29 #[x, .string s] w (DFl w cd) := by
  go_enter Tryz.func29, Tryz.ntmps29
  go_wp2_with fail
  refine h.mono ?_
  rintro _ w1 ⟨z, rfl, hz, hf, hb⟩
  have HE : Hid (w.heap.size ≤ z ∧ (∀ o, OFault (w1.alloc o) z 0 cd) ∧ ∀ o, Below w.heap.size w (w1.alloc o)) := ⟨hz, fun o => hf.below ((Below.refl _ _).alloc (Nat.le_refl _) _), fun o => hb.alloc hb.size o⟩
  clear h hz hf hb
  go_wp2_with fail
  go_ret2
  exact ⟨z, rfl, HE.out.1, HE.out.2.1 _, HE.out.2.2 _⟩
set_option maxRecDepth 100000 in
set_option maxHeartbeats 2000000 in
theorem heard_unx {t s : ByteArray} {y cd : Int} (h : Calls Tryz.prog 63 #[x, .string t] w (ZFl w cd)) : Calls Tryz.prog 27 #[x, .string t, .string s, .int .i64 y] w (DFl w cd) := by
  go_enter Tryz.func27, Tryz.ntmps27
  go_wp2_with fail
  refine h.mono ?_
  rintro _ w1 ⟨z, rfl, hz, hf, hb⟩
  have HE : Hid (w.heap.size ≤ z ∧ (∀ o, OFault (w1.alloc o) z 0 cd) ∧ ∀ o, Below w.heap.size w (w1.alloc o)) := ⟨hz, fun o => hf.below ((Below.refl _ _).alloc (Nat.le_refl _) _), fun o => hb.alloc hb.size o⟩
  clear h hz hf hb
  go_wp2_with fail
  go_ret2
  exact ⟨z, rfl, HE.out.1, HE.out.2.1 _, HE.out.2.2 _⟩
set_option maxRecDepth 100000 in
set_option maxHeartbeats 2000000 in
theorem get_un (h : Un w x) (s : ByteArray) : Calls Tryz.prog 31 #[x, .string s] w (ZFl w 3) := by
  have bv : Below w.heap.size w (w.alloc (.cells #[.string ⟨#[]⟩, .slice none 0 0, .bool false, .int .i64 0, .int .i64 0, .int .i64 0, .bool false, .int .i64 0, .int .i64 0, .bool false] 91)) := (Below.refl _ _).alloc (Nat.le_refl _) _
  have bx := Box.new w #[.string ⟨#[]⟩, .slice none 0 0, .bool false, .int .i64 0, .int .i64 0, .int .i64 0, .bool false, .int .i64 0, .int .i64 0, .bool false] 91
  have hkf := bfind_un (h.below bv) s
  clear h
  go_enter Tryz.func31, Tryz.ntmps31
  go_wp2_with fail
  obtain ⟨V, hW⟩ : ∃ V, w.alloc (.cells #[.string ⟨#[]⟩, .slice none 0 0, .bool false, .int .i64 0, .int .i64 0, .int .i64 0, .bool false, .int .i64 0, .int .i64 0, .bool false] 91) = V := ⟨_, rfl⟩
  rw [hW] at bv bx hkf ⊢
  clear hW
  have HB0 : Hid (Below w.heap.size w V ∧ Box V w.heap.size #[.string ⟨#[]⟩, .slice none 0 0, .bool false, .int .i64 0, .int .i64 0, .int .i64 0, .bool false, .int .i64 0, .int .i64 0, .bool false]) := ⟨bv, bx⟩
  clear bv bx
  refine hkf.mono ?_
  rintro _ w1 ⟨z, rfl, hz, hfl, hb1⟩
  have x1 := HB0.out.2.below hb1
  have lx := x1.lt
  have cx := x1.cell
  have fx := x1.free
  have hzl : z < w1.heap.size := cell_lt hfl.1
  have hzV : w.heap.size < z := Nat.lt_of_lt_of_le HB0.out.2.lt hz
  have HE : Hid (OFault w1 z 0 3 ∧ Below w.heap.size w w1) := ⟨hfl, below_then HB0.out.1 hb1⟩
  clear hkf hb1 x1 hfl hz
  go_wp2_with fail
  refine bodyPost_ret ?_ rfl ⟨z, rfl, by omega, ?_, ?_⟩
  · simp [results, Tryz.results31, go_sem, cx, lx]
  · refine OFault.keep HE.out.1 fun o => ?_
    rw [World.cell?_alloc_lt _ _ ⟨z, o, none⟩ (by simp; omega)]
    have hne : ∀ q : Nat, (⟨w.heap.size, q, none⟩ : Addr) ≠ ⟨z, o, none⟩ := fun q e => by injection e; omega
    iterate 10 (rw [World.cell?_setCell_other _ _ _ _ (hne _)])
  · refine Below.alloc ?_ (by simp; omega) _
    iterate 10 (refine Below.setCell ?_ (by exact Nat.le_refl _) _)
    exact HE.out.2
end
end Go.Proofs.YtoijhecphgdfnaaGreatDoor

/-
  The law OutboxZero, walked.
-/
namespace Go.Proofs.YtoijhecphgdfnaaGreatDoor
open Go.RowKit

/-- An Op that came in: its eight cells. -/
structure Opv where
  kd : Int
  ct : ByteArray
  tp : Option Addr
  tn : Nat
  tc : Nat
  tx : List Int
  e : Bool
  a : Int
  p : Int
  cd : ByteArray
  n : Int
structure OpAt (w : World) (b o : Nat) (x : Opv) : Prop where
  lt : b < w.heap.size
  c0 : w.cell? ⟨b, o, none⟩ = some (.int .i64 x.kd)
  c1 : w.cell? ⟨b, o + 1, none⟩ = some (.string x.ct)
  c2 : w.cell? ⟨b, o + 2, none⟩ = some (.slice x.tp x.tn x.tc)
  c3 : w.cell? ⟨b, o + 3, none⟩ = some (.bool x.e)
  c4 : w.cell? ⟨b, o + 4, none⟩ = some (.int .i64 x.a)
  c5 : w.cell? ⟨b, o + 5, none⟩ = some (.int .i64 x.p)
  c6 : w.cell? ⟨b, o + 6, none⟩ = some (.string x.cd)
  c7 : w.cell? ⟨b, o + 7, none⟩ = some (.int .i64 x.n)
  p : Byts w x.tp x.tn x.tx
  q : x.tp = none → x.tc = 0
theorem OpAt.below {w w' : World} {b o : Nat} {x : Opv} (h : OpAt w b o x) (hb : Below w.heap.size w w') : OpAt w' b o x := by
  have e : ∀ q, w'.cell? ⟨b, q, none⟩ = w.cell? ⟨b, q, none⟩ := fun q => hb.cell (p := ⟨b, q, none⟩) h.lt
  exact ⟨Nat.lt_of_lt_of_le h.lt hb.size, by rw [e]; exact h.c0, by rw [e]; exact h.c1, by rw [e]; exact h.c2, by rw [e]; exact h.c3, by rw [e]; exact h.c4, by rw [e]; exact h.c5, by rw [e]; exact h.c6, by rw [e]; exact h.c7, h.p.below hb, h.q⟩
/-- Ops that came in, so many cells apart. -/
def Ops (k : Nat) (w : World) (ao : Option Addr) (xs : List Opv) : Prop := ∀ (j : Nat) (x : Opv), xs[j]? = some x → ∃ b off, ao = some ⟨b, off, none⟩ ∧ OpAt w b (off + j * k) x
theorem Ops.below {k : Nat} {w w' : World} {ao : Option Addr} {xs : List Opv} (h : Ops k w ao xs) (hb : Below w.heap.size w w') : Ops k w' ao xs := fun j x hx => by
  obtain ⟨b, off, e, ho⟩ := h j x hx
  exact ⟨b, off, e, ho.below hb⟩
/-- What stands below: the faults as they came, the box. -/
structure Zf (W w : World) (x : Value) (F : List Nat) : Prop where
  bel : Below W.heap.size W w
  un : Un w x
  fl : ∀ z ∈ F, OFault w z 0 3
theorem Zf.below {W w w' : World} {x : Value} {F : List Nat} (h : Zf W w x F) (hb : Below w.heap.size w w') : Zf W w' x F := ⟨below_then h.bel hb, h.un.below hb, fun z hz => (h.fl z hz).below hb⟩
theorem Zf.cons {W w : World} {x : Value} {F : List Nat} {z : Nat} (h : Zf W w x F) (hf : OFault w z 0 3) : Zf W w x (z :: F) := ⟨h.bel, h.un, fun y hy => by
  rcases List.mem_cons.1 hy with rfl | g
  · exact hf
  · exact h.fl y g⟩
theorem Zf.alloc {W w : World} {x : Value} {F : List Nat} (h : Zf W w x F) (o : Obj) : Zf W (w.alloc o) x F := h.below ((Below.refl _ _).alloc (Nat.le_refl _) _)
end Go.Proofs.YtoijhecphgdfnaaGreatDoor

/-
  Arguments opened: Ops, Picks.
-/
namespace Go.Proofs.YtoijhecphgdfnaaGreatDoor
open Go.ChangeShapes Go.WideShapes Go.ChangeAt Go.RowKit Go.Deep

theorem cellsU8 : Tryz.prog.cellsOf 5 = 1 := by kernel_rfl
theorem cellsBytes : Tryz.prog.cellsOf 43 = 1 := by kernel_rfl
theorem cellsOp : Tryz.prog.cellsOf 47 = 8 := by kernel_rfl
theorem bytesU8 : Tryz.prog.bytesOf 5 = 1 := by kernel_rfl
theorem reachBytes_lt : reachBytes ≤ 140737488355328 := by decide
theorem weights_mem_all {H : Type} {P : Program} {e : TypeId} : ∀ {ds : List (DataW H)} {d : DataW H}, d ∈ ds → ∀ n ∈ d.weights P e, n ∈ DataW.weightsAll P e ds
  | d0 :: ds, d, hd, n, hn => by
    simp only [DataW.weightsAll, List.mem_append]
    rcases List.mem_cons.1 hd with rfl | h
    · exact Or.inl hn
    · exact Or.inr (weights_mem_all h n hn)
theorem six {α : Type} {l : List α} (h : l.length = 6) : ∃ c0 c1 c2 c3 c4 c5, l = [c0, c1, c2, c3, c4, c5] := by
  match l, h with
  | [c0, c1, c2, c3, c4, c5], _ => exact ⟨c0, c1, c2, c3, c4, c5, rfl⟩
theorem eight {α : Type} {l : List α} (h : l.length = 8) : ∃ c0 c1 c2 c3 c4 c5 c6 c7, l = [c0, c1, c2, c3, c4, c5, c6, c7] := by
  match l, h with
  | [c0, c1, c2, c3, c4, c5, c6, c7], _ => exact ⟨c0, c1, c2, c3, c4, c5, c6, c7, rfl⟩
theorem nine {α : Type} {l : List α} (h : l.length = 9) : ∃ c0 c1 c2 c3 c4 c5 c6 c7 c8, l = [c0, c1, c2, c3, c4, c5, c6, c7, c8] := by
  match l, h with
  | [c0, c1, c2, c3, c4, c5, c6, c7, c8], _ => exact ⟨c0, c1, c2, c3, c4, c5, c6, c7, c8, rfl⟩
section
variable {H : Type} {enc : TypeId × Value → H} {W : World} {base : Nat} {spare : Nat → Bool} {held : Bool}
theorem cells_at {a : Addr} {n : Nat} {cs : List Value} (h : W.cells? base a n = some cs) (hn : 0 < n) : ∃ b o, a = ⟨b, o, none⟩ ∧ ∀ j v, cs[j]? = some v → W.cell? ⟨b, o + j, none⟩ = some v := by
  obtain ⟨_, hlen, hc⟩ := World.cells?_some h
  obtain ⟨b, o, sp⟩ := a
  have h0 := hc 0 hn
  rw [List.getElem?_eq_getElem (by omega)] at h0
  have hs : sp = none := by simpa [Addr.add] using World.cell?_spot h0
  subst hs
  refine ⟨b, o, rfl, fun j v hv => ?_⟩
  have hj : j < n := by rw [← hlen]; exact (List.getElem?_eq_some_iff.1 hv).1
  have := hc j hj
  rw [Addr.add_lit] at this
  rw [this, hv]
theorem open_bytes {n : Nat} {cs : List Value} {x : DataW H × List MemPlace} (h : DataW.trod enc Tryz.prog W base spare held n 43 cs = some x) :
    ∃ po pl pc bs, cs = [.slice po pl pc] ∧ Byts W po pl bs ∧ (po = none → pc = 0) ∧ (pl = 0 ∨ ∃ el sp, x.1 = .slice el sp ∧ el.length = pl) := by
  rcases open_ints Tryz.underlying43 Tryz.underlying5 cellsU8 h with ⟨rfl, _⟩ | ⟨a, len, cap, zs, rfl, _, hl, hm, hz, hxx, hc, _⟩
  · exact ⟨none, 0, 0, [], rfl, ⟨rfl, fun j hj => (by omega)⟩, fun _ => rfl, Or.inl rfl⟩
  · have hzl : len ≤ zs.length := by rw [hz]; split <;> omega
    refine ⟨some a, len, cap, zs.take len, rfl, ⟨by simp; omega, fun j hj => ?_⟩, fun e => (by cases e), Or.inr ⟨_, _, by rw [hxx], by simp [lits]; omega⟩⟩
    · obtain ⟨b, o, sp⟩ := a
      have h0 := hc 0 (by omega)
      have hs : sp = none := by simpa [Addr.add] using World.cell?_spot h0
      subst hs
      have hj' := hc j (by omega)
      rw [Addr.add_lit] at hj'
      refine ⟨b, o, rfl, cell_lt hj', ?_⟩
      rw [hj']
      simp [List.getD_eq_getElem?_getD, hj]
set_option maxRecDepth 100000 in
set_option maxHeartbeats 1000000 in
theorem open_op {n : Nat} {cs : List Value} {x : DataW H × List MemPlace} {b o : Nat} (h : DataW.trod enc Tryz.prog W base spare held n 47 cs = some x) (hc : ∀ j v, cs[j]? = some v → W.cell? ⟨b, o + j, none⟩ = some v) :
    ∃ y : Opv, OpAt W b o y ∧ ((∀ n ∈ x.1.weights Tryz.prog 47, n ≤ reachBytes) → y.tn ≤ 140737488355328) := by
  obtain ⟨xs, m, _, hxe, hcl, hlen, hfl⟩ := DataW.trod_struct Tryz.underlying47 h
  obtain ⟨c0, c1, c2, c3, c4, c5, c6, c7, rfl⟩ := eight (l := cs) (by rw [hcl, cellsOp])
  obtain ⟨x0, x1, x2, x3, x4, x5, rfl⟩ := six (l := xs) hlen
  have g0 : DataW.trod enc Tryz.prog W base spare held m 3 [c0] = some x0 := by simpa [cellsInt] using hfl 0 _ rfl
  have g1 : DataW.trod enc Tryz.prog W base spare held m 9 [c1] = some x1 := by simpa [cellsString] using hfl 1 _ rfl
  have g2 : DataW.trod enc Tryz.prog W base spare held m 43 [c2] = some x2 := by simpa [cellsBytes] using hfl 2 _ rfl
  have g3 : DataW.trod enc Tryz.prog W base spare held m 45 [c3, c4, c5] = some x3 := by simpa [cellsCond] using hfl 3 _ rfl
  have g4 : DataW.trod enc Tryz.prog W base spare held m 9 [c6] = some x4 := by simpa [cellsString] using hfl 4 _ rfl
  have g5 : DataW.trod enc Tryz.prog W base spare held m 3 [c7] = some x5 := by simpa [cellsInt] using hfl 5 _ rfl
  obtain ⟨kd, rfl, _⟩ := one_int g0
  obtain ⟨ct, rfl, _⟩ := one_string g1
  obtain ⟨po, pl, pc, bs, e2, hB, hpc, hw2⟩ := open_bytes g2
  obtain rfl := List.head_eq_of_cons_eq e2
  obtain ⟨ys, m3, _, _, _, hlen3, hfl3⟩ := DataW.trod_struct Tryz.underlying45 g3
  obtain ⟨y0, y1, y2, rfl⟩ := three (l := ys) hlen3
  have k0 : DataW.trod enc Tryz.prog W base spare held m3 4 [c3] = some y0 := by simpa [cellsBool] using hfl3 0 _ rfl
  have k1 : DataW.trod enc Tryz.prog W base spare held m3 3 [c4] = some y1 := by simpa [cellsInt] using hfl3 1 _ rfl
  have k2 : DataW.trod enc Tryz.prog W base spare held m3 3 [c5] = some y2 := by simpa [cellsInt] using hfl3 2 _ rfl
  obtain ⟨ee, rfl, _⟩ := one_bool k0
  obtain ⟨aa, rfl, _⟩ := one_int k1
  obtain ⟨pp, rfl, _⟩ := one_int k2
  obtain ⟨cd, rfl, _⟩ := one_string g4
  obtain ⟨nn, rfl, _⟩ := one_int g5
  refine ⟨⟨kd, ct, po, pl, pc, bs, ee, aa, pp, cd, nn⟩, ⟨cell_lt (hc 0 _ rfl), hc 0 _ rfl, hc 1 _ rfl, hc 2 _ rfl, hc 3 _ rfl, hc 4 _ rfl, hc 5 _ rfl, hc 6 _ rfl, hc 7 _ rfl, hB, hpc⟩, fun hw => ?_⟩
  rcases hw2 with h0 | ⟨el, sp, e4, hel⟩
  · show pl ≤ _
    omega
  · show pl ≤ _
    have hr := reachBytes_lt
    have := hw ((el.length + sp.length) * Tryz.prog.bytesOf 5) (by
      rw [hxe]
      simp only [DataW.weights, Tryz.underlying47]
      refine DataW.weights_mem_each (j := 2) (t := 43) (d := x2.1) rfl rfl _ ?_
      rw [e4]
      simp [DataW.weights, Tryz.underlying43])
    rw [bytesU8] at this
    omega
set_option maxRecDepth 100000 in
set_option maxHeartbeats 1000000 in
theorem open_ops {n : Nat} {cs : List Value} {x : DataW H × List MemPlace} (h : DataW.trod enc Tryz.prog W base spare held n 25 cs = some x) :
    ∃ ao cap xs, cs = [.slice ao xs.length cap] ∧ Ops 8 W ao xs ∧ (xs.length = 0 ∨ ∃ el sp, x.1 = .slice el sp ∧ el.length = xs.length) ∧ ∀ y ∈ xs, (∀ n ∈ x.1.weights Tryz.prog 25, n ≤ reachBytes) → y.tn ≤ 140737488355328 := by
  rcases open_slice Tryz.underlying25 h with ⟨rfl, _⟩ | ⟨a, len, cap, m, n', D, Pl, rfl, _, hl, hm, hmm, hxe, hx⟩
  · exact ⟨none, 0, [], rfl, fun k x hk => (by simp at hk), Or.inl rfl, fun y hy => (by cases hy)⟩
  · have hlm : len ≤ m := by rw [hmm]; split <;> omega
    have key : ∀ k, k < len → ∃ y : Opv, (∃ b off, a = ⟨b, off, none⟩ ∧ OpAt W b (off + k * 8) y) ∧ ((∀ n ∈ (D k).weights Tryz.prog 47, n ≤ reachBytes) → y.tn ≤ 140737488355328) := by
      have hsp : 0 < len → a.spot = none := fun h0 => by
        obtain ⟨cs', h1, _⟩ := hx 0 (by omega)
        rw [Nat.zero_mul] at h1
        obtain ⟨b, o, e, _⟩ := cells_at h1 (by rw [cellsOp]; decide)
        have : a.add 0 = a := rfl
        rw [this] at e; rw [e]
      intro k hk
      obtain ⟨b, off, sp⟩ := a
      obtain rfl : sp = none := hsp (by omega)
      obtain ⟨cs', h1, h2⟩ := hx k (by omega)
      rw [cellsOp] at h1
      obtain ⟨b', o', e, hc⟩ := cells_at h1 (by decide)
      rw [Addr.add_lit] at e
      obtain ⟨rfl, rfl⟩ : b = b' ∧ off + k * 8 = o' := by simpa using e
      obtain ⟨y, hy, hp⟩ := open_op h2 hc
      exact ⟨y, ⟨b, off, rfl, hy⟩, hp⟩
    haveI : Inhabited Opv := ⟨⟨0, ⟨#[]⟩, none, 0, 0, [], false, 0, 0, ⟨#[]⟩, 0⟩⟩
    obtain ⟨Y, hY⟩ := choose_lt (α := Opv) (p := fun k y => (∃ b off, a = ⟨b, off, none⟩ ∧ OpAt W b (off + k * 8) y) ∧ ((∀ n ∈ (D k).weights Tryz.prog 47, n ≤ reachBytes) → y.tn ≤ 140737488355328)) key
    refine ⟨some a, cap, (List.range len).map Y, by simp, fun k x hk => ?_, Or.inr ⟨_, _, by rw [hxe], by simp⟩, fun y hy => ?_⟩
    · simp only [List.getElem?_map, Option.map_eq_some_iff] at hk
      obtain ⟨i, hi, rfl⟩ := hk
      obtain ⟨hi1, hi2⟩ := List.getElem?_eq_some_iff.1 hi
      simp at hi1 hi2
      subst hi2
      obtain ⟨⟨b, off, e, ho⟩, _⟩ := hY k hi1
      exact ⟨b, off, by rw [e], ho⟩
    · obtain ⟨i, hi, rfl⟩ := List.mem_map.1 hy
      have hy2 := (hY i (List.mem_range.1 hi)).2
      refine fun hw => hy2 fun n hn => hw n ?_
      rw [hxe]
      simp only [DataW.weights, Tryz.underlying25]
      exact List.mem_cons_of_mem _ (List.mem_append_left _ (weights_mem_all (List.mem_map_of_mem hi) n hn))
end
end Go.Proofs.YtoijhecphgdfnaaGreatDoor

/-
  Picks that came in.
-/
namespace Go.Proofs.YtoijhecphgdfnaaGreatDoor
open Go.RowKit

/-- A Pick that came in. -/
def PickAt (w : World) (b o : Nat) (x : Opv × Int) : Prop := OpAt w b o x.1 ∧ w.cell? ⟨b, o + 8, none⟩ = some (.int .i64 x.2)
def Picks (w : World) (ao : Option Addr) (xs : List (Opv × Int)) : Prop := ∀ (j : Nat) (x : Opv × Int), xs[j]? = some x → ∃ b off, ao = some ⟨b, off, none⟩ ∧ PickAt w b (off + j * 9) x
theorem PickAt.below {w w' : World} {b o : Nat} {x : Opv × Int} (h : PickAt w b o x) (hb : Below w.heap.size w w') : PickAt w' b o x := ⟨h.1.below hb, by rw [hb.cell (p := ⟨b, o + 8, none⟩) h.1.lt]; exact h.2⟩
end Go.Proofs.YtoijhecphgdfnaaGreatDoor

/-
  Arguments opened: Picks.
-/
namespace Go.Proofs.YtoijhecphgdfnaaGreatDoor
open Go.ChangeShapes Go.WideShapes Go.ChangeAt Go.RowKit Go.Deep

section
variable {H : Type} {enc : TypeId × Value → H} {W : World} {base : Nat} {spare : Nat → Bool} {held : Bool}
end
end Go.Proofs.YtoijhecphgdfnaaGreatDoor

/-
  The document's second example as plain data. Of no program.
-/
namespace Go.Proofs.YtoijhecphgdfnaaGreatDoor
open Go.RowKit

abbrev cA1 : ByteArray := ⟨#[65, 49]⟩
abbrev cA2 : ByteArray := ⟨#[65, 50]⟩
def M1 (a : Option Addr) (c : Nat) (nu st lf : Int) (un : Bool) : Msg := ⟨cA1, a, 1, c, [116], true, 1, 1, nu, false, st, lf, un⟩
def M2 (a : Option Addr) (c : Nat) : Msg := ⟨cA2, a, 1, c, [116], true, 1, 1, 0, false, 0, 0, false⟩
variable (a a2 : Option Addr) (c c2 : Nat)
theorem ctA1 : ctB cA1 = true := by decide
theorem ctA2 : ctB cA2 = true := by decide
theorem ne12 : ((cA1 : ByteArray).toList == cA2.toList) = false := by rw [Lib.toList_data, Lib.toList_data]; decide
theorem hd1 : addC true [] (M1 a c 0 0 0 false) = 0 := by
  unfold addC refS
  rw [show ctB (M1 a c 0 0 0 false).ct = true from ctA1]
  rfl
theorem fi1 (nu st lf : Int) (un : Bool) : fi cA1 [M1 a c nu st lf un, M2 a2 c2] = some 0 := by
  unfold fi M1 M2
  rw [List.findIdx?_cons]
  simp
theorem hd2 : addC true [M1 a c 0 0 0 false] (M2 a2 c2) = 0 := by
  have hf : fi cA2 [M1 a c 0 0 0 false] = none := by
    unfold fi M1
    rw [List.findIdx?_cons]
    simp only [ne12]
    rfl
  unfold addC refS
  rw [show ctB (M2 a2 c2).ct = true from ctA2, show fi (M2 a2 c2).ct [M1 a c 0 0 0 false] = none from hf]
  rfl
theorem hd4 : putS { M1 a c 0 0 0 false with nu := 7 } [M1 a c 0 0 0 false, M2 a2 c2] = [M1 a c 7 0 0 false, M2 a2 c2] := by
  unfold putS
  rw [show fi ({ M1 a c 0 0 0 false with nu := 7 } : Msg).ct [M1 a c 0 0 0 false, M2 a2 c2] = some 0 from fi1 a a2 c c2 0 0 0 false]
  rfl
theorem hd6 : startS true 1 1 1 false = ⟨1, 1, [(1, nT), (2, nT)], 0, 0⟩ := by rfl
theorem hd7 : doS [M1 a c 7 0 0 false, M2 a2 c2] { M1 a c 7 0 0 false with st := 1, lf := 1, un := true } 0 [(1, nT), (2, nT)] = [M1 a c 7 1 1 true, M2 a2 c2] := by
  show putS (M1 a c 7 1 1 true) [M1 a c 7 0 0 false, M2 a2 c2] = _
  unfold putS
  rw [show fi (M1 a c 7 1 1 true).ct [M1 a c 7 0 0 false, M2 a2 c2] = some 0 from fi1 a a2 c c2 7 0 0 false]
  rfl
theorem hd10 : heardS true 1 1 1 1 kCE true = ⟨1, 0, [(5, nT), (1, nT), (2, nT)], 0, 0⟩ := by
  unfold heardS
  rw [show sentB true 1 1 kCE = true by decide, show ((kCE : ByteArray).toList == [67, 65]) = false by rw [Lib.toList_data]; decide, show ((kCE : ByteArray).toList == [67, 69]) = true by rw [Lib.toList_data]; decide]
  rfl
theorem hd11 : doS [M1 a c 7 1 1 true, M2 a2 c2] { M1 a c 7 1 1 true with st := 1, lf := 0, un := true } 9 [(5, nT), (1, nT), (2, nT)] = [M1 a c 9 1 0 true, M2 a2 c2] := by
  show putS (M1 a c 9 1 0 true) [M1 a c 7 1 1 true, M2 a2 c2] = _
  unfold putS
  rw [show fi (M1 a c 9 1 0 true).ct [M1 a c 7 1 1 true, M2 a2 c2] = some 0 from fi1 a a2 c c2 7 1 1 true]
  rfl
end Go.Proofs.YtoijhecphgdfnaaGreatDoor

/-
  The document's second example, walked: the law's 'heads'.
-/
namespace Go.Proofs.YtoijhecphgdfnaaGreatDoor
open Go.RowKit

section
variable {W w : World} {b kb : Nat} {v : Value}
theorem DRow.first {w : World} {B : Nat} {a : Option Addr} {n c : Nat} {d : Deed} {ds : List Deed} (h : DRow w B (.slice a n c) (d :: ds)) : ∃ g, a = some ⟨g, 0, none⟩ := by
  obtain ⟨g, e, _⟩ := ERow.at_ encD_len h (j := 0) (x := d) rfl
  exact ⟨g, e⟩
theorem DRow.cells {w : World} {B g : Nat} {n c : Nat} {d : Deed} {ds : List Deed} (h : DRow w B (.slice (some ⟨g, 0, none⟩) n c) (d :: ds)) : w.cell? ⟨g, 0, none⟩ = some (.string d.1) ∧ w.cell? ⟨g, 1, none⟩ = some (.int .i64 d.2.1) ∧ w.cell? ⟨g, 2, none⟩ = some (.string d.2.2) := by
  obtain ⟨g', e, _, hc⟩ := ERow.at_ encD_len h (j := 0) (x := d) rfl
  simp only [Option.some.injEq, Addr.mk.injEq] at e
  obtain ⟨rfl, _⟩ := e
  exact ⟨hc 0 (by decide), hc 1 (by decide), hc 2 (by decide)⟩
theorem byts_t (w : World) : Byts (w.alloc (.cells #[.int .u8 116] 5 (1, 2))) (some ⟨w.heap.size, 0, none⟩) 1 [116] :=
  ⟨rfl, fun j hj => by
    obtain rfl : j = 0 := by omega
    refine ⟨w.heap.size, 0, rfl, by simp, ?_⟩
    unfold World.cell?
    rw [show (w.alloc (.cells #[.int .u8 116] 5 (1, 2))).heap[w.heap.size]? = some (.cells #[.int .u8 116] 5 (1, 2)) from heap_alloc_new _ _]
    rfl⟩
theorem hd_add1 {g : Addr} (L : Li W w b kb v true 1 []) (hV : PVc W) (hb : Byts w (some g) 1 [116]) : Calls Tryz.prog 16 #[.pointer (some ⟨b, 0, none⟩), .string cA1, .slice (some g) 1 1, .agg #[.bool true, .int .i64 1, .int .i64 1]] w fun e w' => e = .returned .nilIface ∧ Hid (∃ v a c, Li W w' b kb v true 1 [M1 a c 0 0 0 false]) :=
  (add_yes (m := M1 (some g) 1 0 0 0 false) L.bx (hV.below L.bel) rfl rfl rfl rfl rfl hb (fun e => by cases e) (hd1 _ _)).mono fun e w' ⟨he, a, c, hq⟩ => by
    obtain ⟨v', L'⟩ := L.step hq
    exact ⟨he, v', a, c, L'⟩
theorem hd_add2 {g : Addr} {a : Option Addr} {c : Nat} (L : Li W w b kb v true 1 [M1 a c 0 0 0 false]) (hV : PVc W) (hb : Byts w (some g) 1 [116]) : Calls Tryz.prog 16 #[.pointer (some ⟨b, 0, none⟩), .string cA2, .slice (some g) 1 1, .agg #[.bool true, .int .i64 1, .int .i64 1]] w fun e w' => e = .returned .nilIface ∧ Hid (∃ v a2 c2, Li W w' b kb v true 1 [M1 a c 0 0 0 false, M2 a2 c2]) :=
  (add_yes (m := M2 (some g) 1) L.bx (hV.below L.bel) rfl rfl rfl rfl rfl hb (fun e => by cases e) (hd2 _ _ _ _)).mono fun e w' ⟨he, a, c, hq⟩ => by
    obtain ⟨v', L'⟩ := L.step hq
    exact ⟨he, v', a, c, L'⟩
theorem hd_give {a a2 : Option Addr} {c c2 : Nat} (L : Li W w b kb v true 1 [M1 a c 0 0 0 false, M2 a2 c2]) : Calls Tryz.prog 21 #[.pointer (some ⟨b, 0, none⟩), .int .i64 7] w fun e w' => e = .returned .nilIface ∧ Hid (∃ v, Li W w' b kb v true 1 [M1 a c 7 0 0 false, M2 a2 c2]) :=
  (give_yes (m := M1 a c 0 0 0 false) L.bx rfl (by decide)).mono fun e w' ⟨he, hq⟩ => by
    rw [hd4] at hq
    exact ⟨he, L.step hq⟩
theorem hd_go {a a2 : Option Addr} {c c2 : Nat} (L : Li W w b kb v true 1 [M1 a c 7 0 0 false, M2 a2 c2]) (hV : PVc W) : Calls Tryz.prog 23 #[.pointer (some ⟨b, 0, none⟩)] w fun e w' => ∃ g k, e = .returned (.tuple #[.slice (some ⟨g, 0, none⟩) 2 k, .nilIface]) ∧ Hid ((∃ v, Li W w' b kb v true 1 [M1 a c 7 1 1 true, M2 a2 c2]) ∧ DRow w' W.heap.size (.slice (some ⟨g, 0, none⟩) 2 k) [(cA1, 1, nT), (cA1, 2, nT)]) :=
  (go_go (m := M1 a c 7 0 0 false) L.bx (hV.below L.bel) rfl rfl rfl).mono fun e w' ⟨x, k, he, hr, hq⟩ => by
    have hr' : DRow w' w.heap.size (.slice x 2 k) [(cA1, 1, nT), (cA1, 2, nT)] := hr
    have hq' : BxQ w b kb v true 1 (doS [M1 a c 7 0 0 false, M2 a2 c2] { M1 a c 7 0 0 false with st := 1, lf := 1, un := true } 0 [(1, nT), (2, nT)]) w' := hq
    rw [hd7] at hq'
    obtain ⟨g, rfl⟩ := hr'.first
    exact ⟨g, k, he, L.step hq', ERow.base hr' L.bel.size⟩
theorem hd_next {a a2 : Option Addr} {c c2 : Nat} (L : Li W w b kb v true 1 [M1 a c 7 1 1 true, M2 a2 c2]) : Calls Tryz.prog 18 #[.pointer (some ⟨b, 0, none⟩)] w fun e w' => ∃ a c, e = .returned (.tuple #[.agg #[.string ⟨#[]⟩, .slice a 0 c, .bool false, .int .i64 0, .int .i64 0, .int .i64 0, .bool false], .bool false]) ∧ Below w.heap.size w w' :=
  (nextC_no L.bx rfl).mono fun _ _ ⟨a, c, he, _, hb⟩ => ⟨a, c, he, hb⟩
theorem hd_heard {a a2 : Option Addr} {c c2 : Nat} (L : Li W w b kb v true 1 [M1 a c 7 1 1 true, M2 a2 c2]) (hV : PVc W) : Calls Tryz.prog 27 #[.pointer (some ⟨b, 0, none⟩), .string cA1, .string kCE, .int .i64 9] w fun e w' => ∃ g k, e = .returned (.tuple #[.slice (some ⟨g, 0, none⟩) 3 k, .nilIface]) ∧ Hid ((∃ v, Li W w' b kb v true 1 [M1 a c 9 1 0 true, M2 a2 c2]) ∧ DRow w' W.heap.size (.slice (some ⟨g, 0, none⟩) 3 k) [(cA1, 5, nT), (cA1, 1, nT), (cA1, 2, nT)]) := by
  have e1 : heardS (M1 a c 7 1 1 true).e (M1 a c 7 1 1 true).a (M1 a c 7 1 1 true).p (M1 a c 7 1 1 true).st (M1 a c 7 1 1 true).lf kCE true = ⟨1, 0, [(5, nT), (1, nT), (2, nT)], 0, 0⟩ := hd10
  have h := heard_go (m := M1 a c 7 1 1 true) (s := kCE) (T := true) (x := 9) L.bx (hV.below L.bel) (fi1 a a2 c c2 7 1 1 true) rfl rfl (Or.inr (by decide)) rfl rfl (by rw [e1])
  rw [e1] at h
  refine h.mono fun e w' ⟨x, k, he, hr, hq⟩ => ?_
  have hr' : DRow w' w.heap.size (.slice x 3 k) [(cA1, 5, nT), (cA1, 1, nT), (cA1, 2, nT)] := hr
  have hq' : BxQ w b kb v true 1 (doS [M1 a c 7 1 1 true, M2 a2 c2] { M1 a c 7 1 1 true with st := 1, lf := 0, un := true } 9 [(5, nT), (1, nT), (2, nT)]) w' := hq
  rw [hd11] at hq'
  obtain ⟨g, rfl⟩ := hr'.first
  exact ⟨g, k, he, L.step hq', ERow.base hr' L.bel.size⟩
theorem hd_get {a a2 : Option Addr} {c c2 : Nat} (L : Li W w b kb v true 1 [M1 a c 9 1 0 true, M2 a2 c2]) : Calls Tryz.prog 31 #[.pointer (some ⟨b, 0, none⟩), .string cA1] w fun e w' => ∃ a c, e = .returned (.tuple #[.agg #[.string cA1, .slice a 1 c, .bool true, .int .i64 1, .int .i64 1, .int .i64 9, .bool false, .int .i64 1, .int .i64 0, .bool true], .nilIface]) ∧ Below w.heap.size w w' :=
  (get_yes (m := M1 a c 9 1 0 true) L.bx cA1 (fi1 a a2 c c2 9 1 0 true) rfl).mono fun _ _ ⟨a, c, he, _, hb⟩ => ⟨a, c, he, hb⟩
end
end Go.Proofs.YtoijhecphgdfnaaGreatDoor
