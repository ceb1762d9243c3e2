/-
  DiskSame: bytes turned in their place.
-/
import Derived.Test.YtgabikgkpgpbbaaDkFrom
import Derived.Test.YtgabikgkpgpbbaaTornBig
namespace Go.Proofs.Ytgabikgkpgpbbaa
open Go.RowKit

def tn (z : Int) : Int := bits BinOp.xor IntKind.u8 IntKind.u8.max z
theorem turned_at {qs : List Int} {j : Nat} (h : j < qs.length) : ((qs.take j).map tn ++ (qs.drop j ++ marks)).getD j 0 = qs.getD j 0 := by
  have hl : ((qs.take j).map tn).length = j := by simp; omega
  rw [List.getD_eq_getElem?_getD, List.getElem?_append_right (by omega), hl, Nat.sub_self, List.getElem?_append_left (by simp; omega), List.getElem?_drop, Nat.add_zero, ← List.getD_eq_getElem?_getD]
theorem turned_set {qs : List Int} {j : Nat} (h : j < qs.length) : ((qs.take j).map tn ++ (qs.drop j ++ marks)).set j (tn (qs.getD j 0)) = (qs.take (j + 1)).map tn ++ (qs.drop (j + 1) ++ marks) := by
  have hl : ((qs.take j).map tn).length = j := by simp; omega
  rw [List.set_append_right _ _ (by omega), hl, Nat.sub_self, List.drop_eq_getElem_cons h, List.cons_append, List.set_cons_zero, ← take_next h, List.map_append, List.append_assoc]
  rfl
theorem turned_next {ps qs : List Int} {j : Nat} (h : j < qs.length) : (ps ++ (qs ++ (qs.take j).map tn)) ++ [tn (qs.getD j 0)] = ps ++ (qs ++ (qs.take (j + 1)).map tn) := by
  rw [← take_next h, List.map_append, List.append_assoc, List.append_assoc]
  rfl
theorem cell_top {W : World} {cc : Array Value} {t : TypeId} {n j : Nat} (hn : W.heap.size = n) : (W.alloc (.cells cc t)).cell? ⟨n, j, none⟩ = cc[j]? := by subst hn; simp
/-- What the law compares at last. -/
structure Ends (w W : World) (L nl pl : Nat) (xa aa ya pa a0 a1 : Option Addr) (c0 c1 : Nat) (X ps : List Int) : Prop where
  x : Byts W xa nl X
  a : Byts W aa nl X
  y : Byts W ya pl ps
  p : Byts W pa pl ps
  i0 : Byts W a0 pl ps
  i1 : Byts W a1 pl ps
  l0 : W.cell? ⟨L, 0, none⟩ = some (.slice a0 pl c0)
  l1 : W.cell? ⟨L, 1, none⟩ = some (.slice a1 pl c1)
  b : Below w.heap.size w W
theorem Ends.drew {w W : World} {L nl pl : Nat} {xa aa ya pa a0 a1 : Option Addr} {c0 c1 : Nat} {X ps : List Int} (h : Ends w W L nl pl xa aa ya pa a0 a1 c0 c1 X ps) (m : Nat) : Ends w (W.drewN m) L nl pl xa aa ya pa a0 a1 c0 c1 X ps :=
  ⟨h.x.drew m, h.a.drew m, h.y.drew m, h.p.drew m, h.i0.drew m, h.i1.drew m, h.l0, h.l1, below_drewN h.b m⟩
end Go.Proofs.Ytgabikgkpgpbbaa
