/-
  path.Parse.
-/
import Derived.Test.YtiihdhajmcfhaaaDoorPParts
import Derived.Laws.EntriesVeiled
namespace Go.Proofs.YtiihdhajmcfhaaaDoor
open Go.RowKit

/-- The cells of a fault of layer "path". -/
def PFault (w : World) (b : Nat) (a code : Int) : Prop :=
  w.cell? ⟨b, 0, none⟩ = some (.string ⟨#[112, 97, 116, 104]⟩) ∧ w.cell? ⟨b, 1, none⟩ = some (.int .i64 a) ∧ w.cell? ⟨b, 2, none⟩ = some (.int .i64 code) ∧ w.cell? ⟨b, 3, none⟩ = some .nilIface
theorem PFault.off {P : Nat → Prop} {w w' : World} {b : Nat} {a c : Int} (h : PFault w b a c) (ho : Off P w w') (hn : ¬ P b) : PFault w' b a c := by
  have hl : b < w.heap.size := cell_lt h.1
  have hc : ∀ o, w'.cell? ⟨b, o, none⟩ = w.cell? ⟨b, o, none⟩ := fun o => ho.cell (p := ⟨b, o, none⟩) hl hn
  exact ⟨by rw [hc]; exact h.1, by rw [hc]; exact h.2.1, by rw [hc]; exact h.2.2.1, by rw [hc]; exact h.2.2.2⟩
theorem PFault.below {w w' : World} {b : Nat} {a c : Int} (h : PFault w b a c) (hb : Below w.heap.size w w') : PFault w' b a c := h.off (P := fun _ => False) (Off.of_below hb) id
set_option maxHeartbeats 400000 in
theorem pfault_any (a code : Int) (w : World) : Calls Tryd.prog 8 #[.int .i64 a, .int .i64 code, .nilIface] w fun e w' => e = .returned (.iface 43 (.pointer (some ⟨w.heap.size, 0, none⟩))) ∧ PFault w' w.heap.size a code ∧ Below w.heap.size w w' := by
  go_enter Tryd.func8, Tryd.ntmps8
  go_wp2
  go_ret
  exact ⟨rfl, ⟨by simp, by simp, by simp, by simp⟩, (Below.refl _ _).alloc (Nat.le_refl _) _⟩
/-- A place's text, whole. -/
def F6 (s : ByteArray) (x : St) : Except Nat St := endS s x
def F5 (s : ByteArray) (x : St) : Except Nat St := bind2 (dotS s (sg s) putB x) (F6 s)
def F4 (s : ByteArray) (x : St) : Except Nat St := bind2 (dotS s (sg s) putC x) (F5 s)
def F3 (s : ByteArray) (x : St) : Except Nat St := bind2 (brS s (sg s) putR x) (F4 s)
def F2 (s : ByteArray) (x : St) : Except Nat St := bind2 (fldS s (sg s) putF x) (F3 s)
def F1 (s : ByteArray) (x : St) : Except Nat St := bind2 (brS s (sg s) putO x) (F2 s)
def parseS (s : ByteArray) : Except Nat St := bind2 (if nmC s = 3 then .ok ⟨3, 1, 1, 1, 1, 1⟩ else .error (nmC s)) (F1 s)
/-- What Parse answers. -/
def POut (s : ByteArray) (X : Except Nat St) (e : Ending) (w' : World) : Prop :=
  (∃ x, X = .ok x ∧ e = .returned (.tuple #[plc (sg s) x.o x.f x.r x.c x.b, .nilIface])) ∨ (∃ (p b : Nat), X = .error p ∧ e = .returned (.tuple #[plc ⟨#[]⟩ 0 0 0 0 0, .iface 43 (.pointer (some ⟨b, 0, none⟩))]) ∧ PFault w' b p 10)
/-- The result's block, all zeros. -/
structure Zr (w : World) (N : Nat) : Prop where
  z0 : w.cell? ⟨N, 0, none⟩ = some (.string ⟨#[]⟩)
  z1 : w.cell? ⟨N, 1, none⟩ = some (.int .i64 0)
  z2 : w.cell? ⟨N, 2, none⟩ = some (.int .i64 0)
  z3 : w.cell? ⟨N, 3, none⟩ = some (.int .i64 0)
  z4 : w.cell? ⟨N, 4, none⟩ = some (.int .i64 0)
  z5 : w.cell? ⟨N, 5, none⟩ = some (.int .i64 0)
  fr : ∀ j, w.frozen? ⟨N, j, none⟩ = false
theorem Zr.off {P : Nat → Prop} {w w' : World} {N : Nat} (h : Zr w N) (ho : Off P w w') (hn : ¬ P N) : Zr w' N := by
  have hl : N < w.heap.size := cell_lt h.z0
  have hc : ∀ j, w'.cell? ⟨N, j, none⟩ = w.cell? ⟨N, j, none⟩ := fun j => ho.cell (p := ⟨N, j, none⟩) hl hn
  exact ⟨by rw [hc]; exact h.z0, by rw [hc]; exact h.z1, by rw [hc]; exact h.z2, by rw [hc]; exact h.z3, by rw [hc]; exact h.z4, by rw [hc]; exact h.z5, fun j => by rw [ho.frozen (p := ⟨N, j, none⟩) hl hn]; exact h.fr j⟩
theorem Zr.new (w : World) : Zr (w.alloc (.cells #[.string ⟨#[]⟩, .int .i64 0, .int .i64 0, .int .i64 0, .int .i64 0, .int .i64 0] 23)) w.heap.size :=
  ⟨by simp, by simp, by simp, by simp, by simp, by simp, fun j => by simp⟩
theorem off_six (w : World) (N : Nat) (v0 v1 v2 v3 v4 v5 : Value) : Off (· = N) w ((((((w.setCell ⟨N, 0, none⟩ v0).setCell ⟨N, 1, none⟩ v1).setCell ⟨N, 2, none⟩ v2).setCell ⟨N, 3, none⟩ v3).setCell ⟨N, 4, none⟩ v4).setCell ⟨N, 5, none⟩ v5) :=
  ((((((Off.refl (· = N) w).setCell (p := ⟨N, 0, none⟩) rfl v0).setCell (p := ⟨N, 1, none⟩) rfl v1).setCell (p := ⟨N, 2, none⟩) rfl v2).setCell (p := ⟨N, 3, none⟩) rfl v3).setCell (p := ⟨N, 4, none⟩) rfl v4).setCell (p := ⟨N, 5, none⟩) rfl v5
end Go.Proofs.YtiihdhajmcfhaaaDoor
