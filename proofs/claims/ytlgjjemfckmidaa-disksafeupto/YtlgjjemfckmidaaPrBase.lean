/-
  Both disks, the program's and the document's, in one state.
-/
import Derived.Test.YtlgjjemfckmidaaDkMore2
import Derived.Test.YtlgjjemfckmidaaRfHigh
import Derived.Test.YtlgjjemfckmidaaRfRead
import Derived.Test.YtlgjjemfckmidaaRfImage
import Derived.Test.YtlgjjemfckmidaaRfCrash
namespace Go.Proofs.Ytlgjjemfckmidaa
open Go.RowKit

/-- What a disk is: all bytes of each area, how many are synced, dead, fuse, counts. -/
structure Sg where
  x0 : List Int
  x1 : List Int
  s0 : Nat
  s1 : Nat
  dead : Bool
  fuse : Int
  na : Int
  ns : Int
  nc : Int
def stOf (d : Bool) : Int := if d then 2 else 1
theorem stOf_any (d : Bool) : stOf d = 1 ∨ stOf d = 2 := by cases d <;> simp [stOf]
def rx (σ : Sg) (q : Nat) : List Int := if q = 0 then σ.x0.take σ.s0 else if q = 1 then σ.x0.drop σ.s0 else if q = 2 then σ.x1.take σ.s1 else σ.x1.drop σ.s1
structure Pr (w : World) (B K R : Nat) (v0 v1 : Value) (v : Nat → Value) (σ : Sg) : Prop where
  d : Dsk w B K v0 v1 σ.x0 σ.x1 σ.s0 σ.s1 (stOf σ.dead) σ.fuse σ.na σ.ns σ.nc
  r : Rk w B R v (rx σ) σ.dead σ.fuse σ.na σ.ns σ.nc
  ap : ∀ k, Foot K v0 v1 k → ¬ RFoot R v k
structure PStep (w w' : World) (K R : Nat) (v0 v1 : Value) (v : Nat → Value) (v0' v1' : Value) (v' : Nat → Value) : Prop where
  off : Off (fun k => Foot K v0 v1 k ∨ RFoot R v k) w w'
  foot : ∀ k, k < w.heap.size → (Foot K v0' v1' k ∨ RFoot R v' k) → (Foot K v0 v1 k ∨ RFoot R v k)
theorem Rk.congr {w : World} {B R : Nat} {v : Nat → Value} {x x' : Nat → List Int} {dead : Bool} {left na ns nc : Int} (h : Rk w B R v x dead left na ns nc) (hx : ∀ q, q < 4 → x q = x' q) : Rk w B R v x' dead left na ns nc :=
  ⟨h.cell, h.c4, h.c5, h.c6, h.c7, h.c8, h.fr, fun q hq => by rw [← hx q hq]; exact h.row q hq, h.own, h.ap, fun q hq => by rw [← hx q hq]; exact h.len q hq, h.hB, h.hR, h.bn⟩
theorem fz_left (n : Int) : fz n = leftOn n := by unfold fz leftOn; rfl
theorem ct_more (n : Int) (h : 0 ≤ n ∧ n ≤ 9007199254740992) : ct n = oneMore n := by unfold ct oneMore; split <;> omega
theorem PStep.refl (w : World) (K R : Nat) (v0 v1 : Value) (v : Nat → Value) : PStep w w K R v0 v1 v v0 v1 v := ⟨Off.refl _ _, fun _ _ h => h⟩
theorem PStep.trans {a b c : World} {K R : Nat} {u0 u1 v0 v1 z0 z1 : Value} {u v z : Nat → Value} (h : PStep a b K R u0 u1 u v0 v1 v) (k : PStep b c K R v0 v1 v z0 z1 z) : PStep a c K R u0 u1 u z0 z1 z :=
  ⟨h.off.join k.off h.foot, fun i hi g => h.foot i hi (k.foot i (Nat.lt_of_lt_of_le hi h.off.size) g)⟩
section
variable {w w1 w2 : World} {B K R : Nat} {v0 v1 v0' v1' : Value} {v v' : Nat → Value} {σ τ : Sg}
/-- The program's call, then the document's: both come to the same state. -/
theorem Pr.step (h : Pr w B K R v0 v1 v σ) (hd : Dsk w1 B K v0' v1' τ.x0 τ.x1 τ.s0 τ.s1 (stOf τ.dead) τ.fuse τ.na τ.ns τ.nc) (sd : DStep w w1 K v0 v1 v0' v1') :
    Rk w1 B R v (rx σ) σ.dead σ.fuse σ.na σ.ns σ.nc ∧ (∀ k, Foot K v0' v1' k → ¬ RFoot R v k) ∧ (∀ w2 v', Rk w2 B R v' (rx τ) τ.dead τ.fuse τ.na τ.ns τ.nc → RStep w1 w2 R v v' → Pr w2 B K R v0' v1' v' τ ∧ PStep w w2 K R v0 v1 v v0' v1' v') := by
  have hk := h.r.off sd.off (fun k hk hf => h.ap k hf hk)
  have hap : ∀ k, Foot K v0' v1' k → ¬ RFoot R v k := fun k hf hr => by
    have hl := (h.r.foot_lt hr).2
    exact h.ap k (sd.foot k hl hf) hr
  refine ⟨hk, hap, fun w2 v' hr sr => ⟨⟨hd.off sr.off (fun k hf hr2 => hap k hf hr2), hr, fun k hf hr2 => ?_⟩, ⟨?_, fun k hkl g => ?_⟩⟩⟩
  · have hl := (hd.foot_lt hf).2
    exact hap k hf (sr.foot k hl hr2)
  · exact (sd.off.mono (fun _ p => Or.inl p)).trans (sr.off.mono (fun _ p => Or.inr p))
  · rcases g with g | g
    · exact Or.inl (sd.foot k hkl g)
    · exact Or.inr (sr.foot k (Nat.lt_of_lt_of_le hkl sd.off.size) g)
theorem Pr.off {P : Nat → Prop} (h : Pr w B K R v0 v1 v σ) (o : Off P w w1) (hP : ∀ k, (Foot K v0 v1 k ∨ RFoot R v k) → ¬ P k) : Pr w1 B K R v0 v1 v σ :=
  ⟨h.d.off o (fun k hf => hP k (Or.inl hf)), h.r.off o (fun k hf => hP k (Or.inr hf)), h.ap⟩
end
end Go.Proofs.Ytlgjjemfckmidaa
