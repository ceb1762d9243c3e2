/-
  The document's Parse of a place's text.
-/
import Derived.Test.YtiihdhajmcfhaaaDoorPRef2
import Derived.Test.YtiihdhajmcfhaaaDoorPParse
import Derived.Deep.DeepCutAuto
namespace Go.Proofs.YtiihdhajmcfhaaaDoor
open Go.RowKit

/-! ### Its steps as plain functions -/
def isQ (s : ByteArray) (ch a : Nat) (bad : Option Nat) : Bool := bad.isNone && decide (bt s a = ch)
def isA (s : ByteArray) (ch a : Nat) (bad : Option Nat) : Nat := if isQ s ch a bad then a + 1 else a
def nN (s : ByteArray) (a : Nat) : Option Nat → Nat
  | none => if okN s a then rv s a (cnt s a) else 0
  | some _ => 0
def nA (s : ByteArray) (a : Nat) : Option Nat → Nat
  | none => if okN s a then a + cnt s a else a
  | some _ => a
def nB (s : ByteArray) (a : Nat) : Option Nat → Option Nat
  | none => if okN s a then none else some a
  | some q => some q
structure RS where
  a : Nat
  bad : Option Nat
  o : Int
  f : Int
  r : Int
  c : Int
  b : Int
def RS.rgt (x : RS) (seg : ByteArray) : Bool := Proofs.YtiihdhajmcfhaaaDoor.rgt seg x.o x.f x.r x.c x.b
def adv (s : ByteArray) (ch : Nat) (x : RS) : RS := { x with a := isA s ch x.a x.bad }
def mst (s : ByteArray) (ch : Nat) (x : RS) : RS := { x with a := mstA s ch x.a x.bad, bad := mstB s ch x.a x.bad }
def nums (s seg : ByteArray) (put : RS → Int → RS) (x : RS) : RS :=
  { put x (nN s x.a x.bad) with a := nA s x.a x.bad, bad := rgtB ((put x (nN s x.a x.bad)).rgt seg) x.a (nB s x.a x.bad) }
def qutO (x : RS) (n : Int) : RS := { x with o := n }
def qutF (x : RS) (n : Int) : RS := { x with f := n }
def qutR (x : RS) (n : Int) : RS := { x with r := n }
def qutC (x : RS) (n : Int) : RS := { x with c := n }
def qutB (x : RS) (n : Int) : RS := { x with b := n }
def S0 : RS := ⟨3, none, 1, 3, 1, 1, 1⟩
def S1 (s seg : ByteArray) : RS := if isQ s 91 3 none then mst s 93 (nums s seg qutO (adv s 91 S0)) else S0
def S2 (s seg : ByteArray) : RS := nums s seg qutF (mst s 45 (S1 s seg))
def S3 (s seg : ByteArray) : RS := if isQ s 91 (S2 s seg).a (S2 s seg).bad then mst s 93 (nums s seg qutR (adv s 91 (S2 s seg))) else S2 s seg
def S4 (s seg : ByteArray) : RS := if isQ s 46 (S3 s seg).a (S3 s seg).bad then nums s seg qutC (adv s 46 (S3 s seg)) else S3 s seg
def S5 (s seg : ByteArray) : RS := if isQ s 46 (S3 s seg).a (S3 s seg).bad then (if isQ s 46 (S4 s seg).a (S4 s seg).bad then nums s seg qutB (adv s 46 (S4 s seg)) else S4 s seg) else S3 s seg
/-- Its first fault, whole. -/
def endB (s : ByteArray) (a : Nat) : Option Nat → Option Nat
  | some p => some p
  | none => if a < s.size then some a else none
def S6 (s seg : ByteArray) : Option Nat := endB s (S5 s seg).a (S5 s seg).bad

/-! ### Memory -/
structure Pb (w : World) (B : Nat) (seg : ByteArray) (o f r c b : Int) : Prop where
  z0 : w.cell? ⟨B, 0, none⟩ = some (.string seg)
  z1 : w.cell? ⟨B, 1, none⟩ = some (.int .i64 o)
  z2 : w.cell? ⟨B, 2, none⟩ = some (.int .i64 f)
  z3 : w.cell? ⟨B, 3, none⟩ = some (.int .i64 r)
  z4 : w.cell? ⟨B, 4, none⟩ = some (.int .i64 c)
  z5 : w.cell? ⟨B, 5, none⟩ = some (.int .i64 b)
  fr : ∀ j, w.frozen? ⟨B, j, none⟩ = false
theorem Pb.off {P : Nat → Prop} {w w' : World} {B : Nat} {seg : ByteArray} {o f r c b : Int} (h : Pb w B seg o f r c b) (ho : Off P w w') (hn : ¬ P B) : Pb w' B seg o f r c b := by
  have hl : B < w.heap.size := cell_lt h.z0
  have hc : ∀ j, w'.cell? ⟨B, j, none⟩ = w.cell? ⟨B, j, none⟩ := fun j => ho.cell (p := ⟨B, j, none⟩) hl hn
  exact ⟨by rw [hc]; exact h.z0, by rw [hc]; exact h.z1, by rw [hc]; exact h.z2, by rw [hc]; exact h.z3, by rw [hc]; exact h.z4, by rw [hc]; exact h.z5, fun j => by rw [ho.frozen (p := ⟨B, j, none⟩) hl hn]; exact h.fr j⟩
theorem Pb.setO {w : World} {B : Nat} {seg : ByteArray} {o f r c b : Int} (h : Pb w B seg o f r c b) (n : Int) : Pb (w.setCell ⟨B, 1, none⟩ (.int .i64 n)) B seg n f r c b := by
  have c0 := h.z0
  have c1 := h.z1
  have c2 := h.z2
  have c3 := h.z3
  have c4 := h.z4
  have c5 := h.z5
  exact ⟨by simp [World.cell?_setCell_other, c0], World.cell?_setCell_same _ _ _ h.z1, by simp [World.cell?_setCell_other, c2], by simp [World.cell?_setCell_other, c3], by simp [World.cell?_setCell_other, c4], by simp [World.cell?_setCell_other, c5], fun j => by rw [World.frozen?_setCell]; exact h.fr j⟩
theorem Pb.setF {w : World} {B : Nat} {seg : ByteArray} {o f r c b : Int} (h : Pb w B seg o f r c b) (n : Int) : Pb (w.setCell ⟨B, 2, none⟩ (.int .i64 n)) B seg o n r c b := by
  have c0 := h.z0
  have c1 := h.z1
  have c2 := h.z2
  have c3 := h.z3
  have c4 := h.z4
  have c5 := h.z5
  exact ⟨by simp [World.cell?_setCell_other, c0], by simp [World.cell?_setCell_other, c1], World.cell?_setCell_same _ _ _ h.z2, by simp [World.cell?_setCell_other, c3], by simp [World.cell?_setCell_other, c4], by simp [World.cell?_setCell_other, c5], fun j => by rw [World.frozen?_setCell]; exact h.fr j⟩
theorem Pb.setR {w : World} {B : Nat} {seg : ByteArray} {o f r c b : Int} (h : Pb w B seg o f r c b) (n : Int) : Pb (w.setCell ⟨B, 3, none⟩ (.int .i64 n)) B seg o f n c b := by
  have c0 := h.z0
  have c1 := h.z1
  have c2 := h.z2
  have c3 := h.z3
  have c4 := h.z4
  have c5 := h.z5
  exact ⟨by simp [World.cell?_setCell_other, c0], by simp [World.cell?_setCell_other, c1], by simp [World.cell?_setCell_other, c2], World.cell?_setCell_same _ _ _ h.z3, by simp [World.cell?_setCell_other, c4], by simp [World.cell?_setCell_other, c5], fun j => by rw [World.frozen?_setCell]; exact h.fr j⟩
theorem Pb.setC {w : World} {B : Nat} {seg : ByteArray} {o f r c b : Int} (h : Pb w B seg o f r c b) (n : Int) : Pb (w.setCell ⟨B, 4, none⟩ (.int .i64 n)) B seg o f r n b := by
  have c0 := h.z0
  have c1 := h.z1
  have c2 := h.z2
  have c3 := h.z3
  have c4 := h.z4
  have c5 := h.z5
  exact ⟨by simp [World.cell?_setCell_other, c0], by simp [World.cell?_setCell_other, c1], by simp [World.cell?_setCell_other, c2], by simp [World.cell?_setCell_other, c3], World.cell?_setCell_same _ _ _ h.z4, by simp [World.cell?_setCell_other, c5], fun j => by rw [World.frozen?_setCell]; exact h.fr j⟩
theorem Pb.setB {w : World} {B : Nat} {seg : ByteArray} {o f r c b : Int} (h : Pb w B seg o f r c b) (n : Int) : Pb (w.setCell ⟨B, 5, none⟩ (.int .i64 n)) B seg o f r c n := by
  have c0 := h.z0
  have c1 := h.z1
  have c2 := h.z2
  have c3 := h.z3
  have c4 := h.z4
  have c5 := h.z5
  exact ⟨by simp [World.cell?_setCell_other, c0], by simp [World.cell?_setCell_other, c1], by simp [World.cell?_setCell_other, c2], by simp [World.cell?_setCell_other, c3], by simp [World.cell?_setCell_other, c4], World.cell?_setCell_same _ _ _ h.z5, fun j => by rw [World.frozen?_setCell]; exact h.fr j⟩
/-- The document's reader, its place and the result's block. -/
structure JW (w : World) (R B : Nat) (s seg : ByteArray) (x : RS) (wx : World) : Prop where
  rd : RRd wx R s x.a x.bad
  pb : Pb wx B seg x.o x.f x.r x.c x.b
  zr : Zr wx w.heap.size
  bl : Below w.heap.size w wx
  nr : w.heap.size < R
  nb : R < B
theorem JW.step {w wx w' : World} {R B : Nat} {s seg : ByteArray} {x : RS} {a : Nat} {bad : Option Nat} (h : JW w R B s seg x wx) (hr : RRd w' R s a bad) (ho : Off (· = R) wx w') : JW w R B s seg { x with a := a, bad := bad } w' :=
  ⟨hr, h.pb.off ho (by have := h.nb; omega), h.zr.off ho (by have := h.nr; omega), h.bl.trans (ho.below (B := w.heap.size) h.bl.size (by rintro k rfl; have := h.nr; omega)), h.nr, h.nb⟩
theorem JW.putO {w wx : World} {R B : Nat} {s seg : ByteArray} {x : RS} (h : JW w R B s seg x wx) (n : Int) : JW w R B s seg (qutO x n) (wx.setCell ⟨B, 1, none⟩ (.int .i64 n)) :=
  have ho : Off (· = B) wx (wx.setCell ⟨B, 1, none⟩ (.int .i64 n)) := (Off.refl (· = B) wx).setCell (p := ⟨B, 1, none⟩) rfl _
  ⟨h.rd.off ho (by have := h.nb; omega), h.pb.setO n, h.zr.off ho (by have := h.nr; have := h.nb; omega), h.bl.trans (ho.below (B := w.heap.size) h.bl.size (by rintro k rfl; have := h.nr; have := h.nb; omega)), h.nr, h.nb⟩
theorem JW.putF {w wx : World} {R B : Nat} {s seg : ByteArray} {x : RS} (h : JW w R B s seg x wx) (n : Int) : JW w R B s seg (qutF x n) (wx.setCell ⟨B, 2, none⟩ (.int .i64 n)) :=
  have ho : Off (· = B) wx (wx.setCell ⟨B, 2, none⟩ (.int .i64 n)) := (Off.refl (· = B) wx).setCell (p := ⟨B, 2, none⟩) rfl _
  ⟨h.rd.off ho (by have := h.nb; omega), h.pb.setF n, h.zr.off ho (by have := h.nr; have := h.nb; omega), h.bl.trans (ho.below (B := w.heap.size) h.bl.size (by rintro k rfl; have := h.nr; have := h.nb; omega)), h.nr, h.nb⟩
theorem JW.putR {w wx : World} {R B : Nat} {s seg : ByteArray} {x : RS} (h : JW w R B s seg x wx) (n : Int) : JW w R B s seg (qutR x n) (wx.setCell ⟨B, 3, none⟩ (.int .i64 n)) :=
  have ho : Off (· = B) wx (wx.setCell ⟨B, 3, none⟩ (.int .i64 n)) := (Off.refl (· = B) wx).setCell (p := ⟨B, 3, none⟩) rfl _
  ⟨h.rd.off ho (by have := h.nb; omega), h.pb.setR n, h.zr.off ho (by have := h.nr; have := h.nb; omega), h.bl.trans (ho.below (B := w.heap.size) h.bl.size (by rintro k rfl; have := h.nr; have := h.nb; omega)), h.nr, h.nb⟩
theorem JW.putC {w wx : World} {R B : Nat} {s seg : ByteArray} {x : RS} (h : JW w R B s seg x wx) (n : Int) : JW w R B s seg (qutC x n) (wx.setCell ⟨B, 4, none⟩ (.int .i64 n)) :=
  have ho : Off (· = B) wx (wx.setCell ⟨B, 4, none⟩ (.int .i64 n)) := (Off.refl (· = B) wx).setCell (p := ⟨B, 4, none⟩) rfl _
  ⟨h.rd.off ho (by have := h.nb; omega), h.pb.setC n, h.zr.off ho (by have := h.nr; have := h.nb; omega), h.bl.trans (ho.below (B := w.heap.size) h.bl.size (by rintro k rfl; have := h.nr; have := h.nb; omega)), h.nr, h.nb⟩
theorem JW.putB {w wx : World} {R B : Nat} {s seg : ByteArray} {x : RS} (h : JW w R B s seg x wx) (n : Int) : JW w R B s seg (qutB x n) (wx.setCell ⟨B, 5, none⟩ (.int .i64 n)) :=
  have ho : Off (· = B) wx (wx.setCell ⟨B, 5, none⟩ (.int .i64 n)) := (Off.refl (· = B) wx).setCell (p := ⟨B, 5, none⟩) rfl _
  ⟨h.rd.off ho (by have := h.nb; omega), h.pb.setB n, h.zr.off ho (by have := h.nr; have := h.nb; omega), h.bl.trans (ho.below (B := w.heap.size) h.bl.size (by rintro k rfl; have := h.nr; have := h.nb; omega)), h.nr, h.nb⟩
set_option maxHeartbeats 400000 in
theorem rlink_any (a code : Int) (w : World) : Calls Tryd.prog 12 #[.int .i64 code, .int .i64 a] w fun e w' => e = .returned (.slice (some ⟨w.heap.size, 0, none⟩) 1 1) ∧ w' = w.alloc (.cells #[.string ⟨#[112, 97, 116, 104]⟩, .int .i64 a, .int .i64 code] 39) := by
  go_enter Tryd.func12, Tryd.ntmps12
  go_wp2_with fail
  go_ret
  exact ⟨rfl, rfl⟩
/-- What the document answers. -/
def ROut (s : ByteArray) (X : Option Nat) (x : RS) (e : Ending) (w' : World) : Prop :=
  (X = none ∧ e = .returned (.tuple #[plc (sg s) x.o x.f x.r x.c x.b, .slice none 0 0])) ∨ (∃ (p b : Nat), X = some p ∧ e = .returned (.tuple #[plc ⟨#[]⟩ 0 0 0 0 0, .slice (some ⟨b, 0, none⟩) 1 1]) ∧ w'.cell? ⟨b, 0, none⟩ = some (.string ⟨#[112, 97, 116, 104]⟩) ∧ w'.cell? ⟨b, 1, none⟩ = some (.int .i64 (p : Int)) ∧ w'.cell? ⟨b, 2, none⟩ = some (.int .i64 10))
end Go.Proofs.YtiihdhajmcfhaaaDoor
