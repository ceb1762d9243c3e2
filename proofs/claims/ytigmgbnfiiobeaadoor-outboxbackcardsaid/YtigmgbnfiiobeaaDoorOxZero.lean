/-
  The law OutboxZero, walked.
-/
import Derived.Test.YtigmgbnfiiobeaaDoorOxUn2
namespace Go.Proofs.YtigmgbnfiiobeaaDoor
open Go.RowKit

/-- An Op that came in: its eight cells. -/
structure Opv where
  kd : Int
  ct : ByteArray
  tp : Option Addr
  tn : Nat
  tc : Nat
  tx : List Int
  e : Bool
  a : Int
  p : Int
  cd : ByteArray
  n : Int
structure OpAt (w : World) (b o : Nat) (x : Opv) : Prop where
  lt : b < w.heap.size
  c0 : w.cell? ⟨b, o, none⟩ = some (.int .i64 x.kd)
  c1 : w.cell? ⟨b, o + 1, none⟩ = some (.string x.ct)
  c2 : w.cell? ⟨b, o + 2, none⟩ = some (.slice x.tp x.tn x.tc)
  c3 : w.cell? ⟨b, o + 3, none⟩ = some (.bool x.e)
  c4 : w.cell? ⟨b, o + 4, none⟩ = some (.int .i64 x.a)
  c5 : w.cell? ⟨b, o + 5, none⟩ = some (.int .i64 x.p)
  c6 : w.cell? ⟨b, o + 6, none⟩ = some (.string x.cd)
  c7 : w.cell? ⟨b, o + 7, none⟩ = some (.int .i64 x.n)
  p : Byts w x.tp x.tn x.tx
  q : x.tp = none → x.tc = 0
theorem OpAt.below {w w' : World} {b o : Nat} {x : Opv} (h : OpAt w b o x) (hb : Below w.heap.size w w') : OpAt w' b o x := by
  have e : ∀ q, w'.cell? ⟨b, q, none⟩ = w.cell? ⟨b, q, none⟩ := fun q => hb.cell (p := ⟨b, q, none⟩) h.lt
  exact ⟨Nat.lt_of_lt_of_le h.lt hb.size, by rw [e]; exact h.c0, by rw [e]; exact h.c1, by rw [e]; exact h.c2, by rw [e]; exact h.c3, by rw [e]; exact h.c4, by rw [e]; exact h.c5, by rw [e]; exact h.c6, by rw [e]; exact h.c7, h.p.below hb, h.q⟩
/-- Ops that came in, so many cells apart. -/
def Ops (k : Nat) (w : World) (ao : Option Addr) (xs : List Opv) : Prop := ∀ (j : Nat) (x : Opv), xs[j]? = some x → ∃ b off, ao = some ⟨b, off, none⟩ ∧ OpAt w b (off + j * k) x
theorem Ops.below {k : Nat} {w w' : World} {ao : Option Addr} {xs : List Opv} (h : Ops k w ao xs) (hb : Below w.heap.size w w') : Ops k w' ao xs := fun j x hx => by
  obtain ⟨b, off, e, ho⟩ := h j x hx
  exact ⟨b, off, e, ho.below hb⟩
/-- What stands below: the faults as they came, the box. -/
structure Zf (W w : World) (x : Value) (F : List Nat) : Prop where
  bel : Below W.heap.size W w
  un : Un w x
  fl : ∀ z ∈ F, OFault w z 0 3
theorem Zf.below {W w w' : World} {x : Value} {F : List Nat} (h : Zf W w x F) (hb : Below w.heap.size w w') : Zf W w' x F := ⟨below_then h.bel hb, h.un.below hb, fun z hz => (h.fl z hz).below hb⟩
theorem Zf.cons {W w : World} {x : Value} {F : List Nat} {z : Nat} (h : Zf W w x F) (hf : OFault w z 0 3) : Zf W w x (z :: F) := ⟨h.bel, h.un, fun y hy => by
  rcases List.mem_cons.1 hy with rfl | g
  · exact hf
  · exact h.fl y g⟩
theorem Zf.alloc {W w : World} {x : Value} {F : List Nat} (h : Zf W w x F) (o : Obj) : Zf W (w.alloc o) x F := h.below ((Below.refl _ _).alloc (Nat.le_refl _) _)
end Go.Proofs.YtigmgbnfiiobeaaDoor
