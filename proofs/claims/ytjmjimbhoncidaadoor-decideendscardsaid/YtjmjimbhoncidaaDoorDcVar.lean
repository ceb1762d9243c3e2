/-
  What the program's package-level variables hold: the words of conditions, the table of codes.
-/
import Derived.Test.YtjmjimbhoncidaaDoorDcRow
namespace Go.Proofs.YtjmjimbhoncidaaDoor
open Go.RowKit

def WV : List Value := [.string ⟨#[78, 69]⟩, .string ⟨#[65, 76]⟩, .string ⟨#[69, 82]⟩, .string ⟨#[83, 85]⟩]
def CV : List Value := [.string ⟨#[67, 65]⟩, .bool true, .int .i64 3, .string ⟨#[67, 69]⟩, .bool true, .int .i64 2, .string ⟨#[67, 82]⟩, .bool true, .int .i64 2, .string ⟨#[65, 65]⟩, .bool false, .int .i64 3, .string ⟨#[65, 69]⟩, .bool false, .int .i64 2, .string ⟨#[65, 82]⟩, .bool false, .int .i64 2]
def PVw (w : World) : Prop := ∀ j u, WV[j]? = some u → w.cell? ⟨0, j, none⟩ = some u
def PVc (w : World) : Prop := ∀ j u, CV[j]? = some u → w.cell? ⟨1, j, none⟩ = some u
def PV (w : World) : Prop := PVw w ∧ PVc w
theorem PVw.below {w w' : World} (h : PVw w) (hb : Below w.heap.size w w') : PVw w' := fun j u hu => by
  have h0 : 0 < w.heap.size := cell_lt (h 0 _ rfl)
  rw [hb.cell (p := ⟨0, j, none⟩) h0]; exact h j u hu
theorem PVc.below {w w' : World} (h : PVc w) (hb : Below w.heap.size w w') : PVc w' := fun j u hu => by
  have h1 : 1 < w.heap.size := cell_lt (h 0 _ rfl)
  rw [hb.cell (p := ⟨1, j, none⟩) h1]; exact h j u hu
theorem PV.below {w w' : World} (h : PV w) (hb : Below w.heap.size w w') : PV w' := ⟨h.1.below hb, h.2.below hb⟩
end Go.Proofs.YtjmjimbhoncidaaDoor
