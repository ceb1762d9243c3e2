/-
  What came in: byte strings, Ops, lists of Ops; how new memory leaves them.
-/
import Derived.Test.YtlgjjemfckmidaaDk
namespace Go.Proofs.Ytlgjjemfckmidaa
open Go.RowKit

theorem FaultAt.below {w w' : World} {b : Nat} {a c : Int} (h : FaultAt w b a c) (hb : Below w.heap.size w w') : FaultAt w' b a c := by
  have hl : b < w.heap.size := cell_lt h.1
  have e : ∀ q, w'.cell? ⟨b, q, none⟩ = w.cell? ⟨b, q, none⟩ := fun q => hb.cell (p := ⟨b, q, none⟩) hl
  exact ⟨by rw [e]; exact h.1, by rw [e]; exact h.2.1, by rw [e]; exact h.2.2.1, by rw [e]; exact h.2.2.2⟩
theorem bcell {W w1 : World} (hb : Below W.heap.size W w1) : (∀ b o, b < W.heap.size → w1.cell? ⟨b, o, none⟩ = W.cell? ⟨b, o, none⟩) ∧ (∀ b o, b < W.heap.size → w1.frozen? ⟨b, o, none⟩ = W.frozen? ⟨b, o, none⟩) :=
  ⟨fun b o h => hb.cell (p := ⟨b, o, none⟩) h, fun b o h => hb.frozen (p := ⟨b, o, none⟩) h⟩
/-- The bytes that a byte string that came in holds. -/
structure Byts (w : World) (po : Option Addr) (n : Nat) (bs : List Int) : Prop where
  len : bs.length = n
  cell : ∀ j, j < n → ∃ b o, po = some ⟨b, o, none⟩ ∧ b < w.heap.size ∧ w.cell? ⟨b, o + j, none⟩ = some (.int .u8 (bs.getD j 0))
theorem Byts.below {w w' : World} {po : Option Addr} {n : Nat} {bs : List Int} (h : Byts w po n bs) (hb : Below w.heap.size w w') : Byts w' po n bs :=
  ⟨h.len, fun j hj => by
    obtain ⟨b, o, e, hl, hc⟩ := h.cell j hj
    exact ⟨b, o, e, Nat.lt_of_lt_of_le hl hb.size, by rw [hb.cell (p := ⟨b, o + j, none⟩) hl]; exact hc⟩⟩
/-- An Op, as its nine cells and its bytes tell it. -/
structure Opv where
  kd : Int
  ar : Int
  at_ : Int
  n : Int
  po : Option Addr
  pl : Nat
  pc : Nat
  t0 : Int
  t1 : Int
  t2 : Int
  t3 : Int
  bs : List Int
/-- An Op lies from that place on. -/
structure OpAt (w : World) (b o : Nat) (x : Opv) : Prop where
  lt : b < w.heap.size
  c0 : w.cell? ⟨b, o, none⟩ = some (.int .i64 x.kd)
  c1 : w.cell? ⟨b, o + 1, none⟩ = some (.int .i64 x.ar)
  c2 : w.cell? ⟨b, o + 2, none⟩ = some (.int .i64 x.at_)
  c3 : w.cell? ⟨b, o + 3, none⟩ = some (.int .i64 x.n)
  c4 : w.cell? ⟨b, o + 4, none⟩ = some (.slice x.po x.pl x.pc)
  c5 : w.cell? ⟨b, o + 5, none⟩ = some (.int .i64 x.t0)
  c6 : w.cell? ⟨b, o + 6, none⟩ = some (.int .i64 x.t1)
  c7 : w.cell? ⟨b, o + 7, none⟩ = some (.int .i64 x.t2)
  c8 : w.cell? ⟨b, o + 8, none⟩ = some (.int .i64 x.t3)
  p : Byts w x.po x.pl x.bs
theorem OpAt.below {w w' : World} {b o : Nat} {x : Opv} (h : OpAt w b o x) (hb : Below w.heap.size w w') : OpAt w' b o x := by
  have e : ∀ q, w'.cell? ⟨b, q, none⟩ = w.cell? ⟨b, q, none⟩ := fun q => hb.cell (p := ⟨b, q, none⟩) h.lt
  exact ⟨Nat.lt_of_lt_of_le h.lt hb.size, by rw [e]; exact h.c0, by rw [e]; exact h.c1, by rw [e]; exact h.c2, by rw [e]; exact h.c3, by rw [e]; exact h.c4, by rw [e]; exact h.c5, by rw [e]; exact h.c6, by rw [e]; exact h.c7, by rw [e]; exact h.c8, h.p.below hb⟩
/-- A list of Ops that came in. -/
def Ops (w : World) (ao : Option Addr) (xs : List Opv) : Prop := ∀ (k : Nat) (x : Opv), xs[k]? = some x → ∃ b off, ao = some ⟨b, off, none⟩ ∧ OpAt w b (off + k * 9) x
theorem Ops.below {w w' : World} {ao : Option Addr} {xs : List Opv} (h : Ops w ao xs) (hb : Below w.heap.size w w') : Ops w' ao xs := fun k x hx => by
  obtain ⟨b, off, e, ho⟩ := h k x hx
  exact ⟨b, off, e, ho.below hb⟩
end Go.Proofs.Ytlgjjemfckmidaa
