/-
  The program's counters in memory: its own layout.
-/
import Derived.Test.YtnabpjfdpelejaaDoorSqSpec
namespace Go.Proofs.YtnabpjfdpelejaaDoor
open Go.RowKit

/-- What the package's variables hold, and the handle of error (where the law asks errors.As). -/
def PV (w : World) : Prop := ErrType w
theorem PV.below {w w' : World} (h : PV w) (hb : Below w.heap.size w w') : PV w' := errType_below h hb
theorem PV.err {w : World} (h : PV w) : ErrType w := h
/-- A sender that was made, a receiver that was made. -/
def Snd (w : World) (b : Nat) (n : Int) : Prop := Box w b #[.int .i64 n, .bool true] ∧ SOk n
def Rcv (w : World) (b : Nat) (e l : Int) : Prop := Box w b #[.int .i64 e, .bool true, .int .i64 l] ∧ ROk e l
theorem Snd.off {P : Nat → Prop} {w w' : World} {b : Nat} {n : Int} (h : Snd w b n) (ho : Off P w w') (hP : ¬ P b) : Snd w' b n := ⟨h.1.off ho hP, h.2⟩
theorem Rcv.off {P : Nat → Prop} {w w' : World} {b : Nat} {e l : Int} (h : Rcv w b e l) (ho : Off P w w') (hP : ¬ P b) : Rcv w' b e l := ⟨h.1.off ho hP, h.2⟩
theorem Snd.lt {w : World} {b : Nat} {n : Int} (h : Snd w b n) : b < w.heap.size := h.1.lt
theorem Rcv.lt {w : World} {b : Nat} {e l : Int} (h : Rcv w b e l) : b < w.heap.size := h.1.lt
theorem Snd.ok {w : World} {b : Nat} {n : Int} (h : Snd w b n) : SOk n := h.2
theorem Rcv.ok {w : World} {b : Nat} {e l : Int} (h : Rcv w b e l) : ROk e l := h.2
/-- Where the law's own blocks lie: behind the world W in which it began. -/
structure In (W w : World) (F : Nat → Prop) : Prop where
  pv : PV W
  bl : Below W.heap.size W w
  ge : ∀ k, F k → W.heap.size ≤ k
theorem In.here {W w : World} {F : Nat → Prop} (h : In W w F) : PV w := h.pv.below h.bl
theorem In.off {W w w' : World} {F P : Nat → Prop} (h : In W w F) (ho : Off P w w') (hP : ∀ k, P k → W.heap.size ≤ k) : In W w' F := ⟨h.pv, h.bl.trans (ho.below h.bl.size hP), h.ge⟩
theorem In.below {W w w' : World} {F : Nat → Prop} (h : In W w F) (hb : Below w.heap.size w w') : In W w' F := ⟨h.pv, below_then h.bl hb, h.ge⟩
end Go.Proofs.YtnabpjfdpelejaaDoor
