/-
  SeqSends.
-/
import Derived.Test.YtnabpjfdpelejabDoorSqSent
import Derived.Test.YtnabpjfdpelejabDoorSqPlays
namespace Go.Proofs.YtnabpjfdpelejabDoor
open Go.RowKit

/-- Ops that came in. -/
def Scr (w : World) (ao : Option Addr) (xs : List (Int × Int × Int × Int)) : Prop :=
  ∀ (j : Nat) (y : Int × Int × Int × Int), xs[j]? = some y → ∃ b o, ao = some ⟨b, o, none⟩ ∧ b < w.heap.size ∧ w.cell? ⟨b, o + j * 4, none⟩ = some (.int .i64 y.1) ∧ w.cell? ⟨b, o + j * 4 + 1, none⟩ = some (.int .i64 y.2.1) ∧ w.cell? ⟨b, o + j * 4 + 2, none⟩ = some (.int .i64 y.2.2.1) ∧ w.cell? ⟨b, o + j * 4 + 3, none⟩ = some (.int .i64 y.2.2.2)
/-- Two pairs of senders, apart. -/
structure SS (W w : World) (x : Nat) (sx : Option Nat) (y : Nat) (sy : Option Nat) : Prop where
  px : ∃ n, PS w x sx n
  py : ∃ n, PS w y sy n
  ix : In W w (PF x sx)
  iy : In W w (PF y sy)
  ap : ∀ k, PF x sx k → ¬ PF y sy k
section
variable {W w w' : World} {x y : Nat} {sx sy : Option Nat}
theorem SS.stepx {r : Ending} (h : SS W w x sx y sy) (q : PlQ W w x sx r w') : SS W w' x sx y sy := by
  obtain ⟨n, hn⟩ := h.py
  exact ⟨q.2.1, ⟨n, hn.off q.2.2.1 (fun k hk g => h.ap k g hk)⟩, q.2.2.2, h.iy.off q.2.2.1 h.ix.ge, h.ap⟩
theorem SS.stepy {r : Ending} (h : SS W w x sx y sy) (q : PlQ W w y sy r w') : SS W w' x sx y sy := by
  obtain ⟨n, hn⟩ := h.px
  exact ⟨⟨n, hn.off q.2.2.1 (fun k hk g => h.ap k hk g)⟩, q.2.1, h.ix.off q.2.2.1 h.iy.ge, q.2.2.2, h.ap⟩
end
end Go.Proofs.YtnabpjfdpelejabDoor
