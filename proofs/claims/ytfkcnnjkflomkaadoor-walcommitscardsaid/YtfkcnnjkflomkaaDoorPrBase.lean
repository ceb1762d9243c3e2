import Derived.Test.YtfkcnnjkflomkaaDoorRfNew
import Derived.Laws.Runes
import Derived.Test.YtfkcnnjkflomkaaDoorDkMore2
/-
  Cut of the document's disk, within the tail. (Typed by gen/mkref3.py.)
-/
namespace Go.Proofs.YtfkcnnjkflomkaaDoor
open Go.RowKit

end Go.Proofs.YtfkcnnjkflomkaaDoor

/-
  Read of the document's disk. (Typed by gen/mkref4.py.)
-/
namespace Go.Proofs.YtfkcnnjkflomkaaDoor
open Go.RowKit

theorem Byts.piece {w : World} {g cap n : Nat} {xs : List Int} {B : Nat} (h : Row w B (.slice (some ⟨g, 0, none⟩) n cap) xs) (p k : Nat) (hp : p + k ≤ n) : Byts w (some ⟨g, p, none⟩) k ((xs.drop p).take k) := by
  obtain ⟨hn, hc⟩ := h.cell
  refine ⟨by rw [List.length_take, List.length_drop]; omega, fun j hj => ⟨g, p, rfl, (h.lt (g := g) rfl).2, ?_⟩⟩
  rw [hc (p + j) (by omega)]
  congr 2
  rw [List.getD_eq_getElem?_getD, List.getD_eq_getElem?_getD, List.getElem?_take, if_pos hj, List.getElem?_drop]
end Go.Proofs.YtfkcnnjkflomkaaDoor

/-
  Image of the document's disk.
-/
namespace Go.Proofs.YtfkcnnjkflomkaaDoor
open Go.RowKit

end Go.Proofs.YtfkcnnjkflomkaaDoor

/-
  Crash of the document's disk. (Typed by gen/mkref5.py.)
-/
namespace Go.Proofs.YtfkcnnjkflomkaaDoor
open Go.RowKit

theorem upd_upd {α : Type} (f : Nat → α) (q : Nat) (y z : α) : upd (upd f q y) q z = upd f q z := by
  funext k; unfold upd; split <;> rfl
theorem sliceTo (a : Option Addr) (n c k : Nat) (W : World) (ha : a = none → c = 0) (hk : k ≤ c) : (Instr.sliceAt 28 (.slice a n c) none (some (.int .i64 (k : Int))) none).run Tryd.prog W = .ok (.slice a k c) W := by
  have hk2 : (k : Int) ≤ (c : Int) := by omega
  cases a with
  | none =>
    obtain rfl := ha rfl
    obtain rfl : k = 0 := by omega
    simp [Instr.sliceAt, Instr.sliceBounds, Instr.sliceBound, asIntOf, run_underlying Tryd.underlying28, go_sem]
  | some ad =>
    simp [Instr.sliceAt, Instr.sliceBounds, Instr.sliceBound, asIntOf, run_underlying Tryd.underlying28, hk2, go_sem]
theorem rpush {w : World} {B : Nat} {v : Value} {xs : List Int} (h : Row w B v xs) (hB : B ≤ w.heap.size) (hl : xs.length + 1 ≤ 140737488355328) (z : Int) :
    ∃ a n c w', (Builtin.append_ #[28, 28] 28 #[v, .slice (some ⟨w.heap.size, 0, none⟩) 1 1]).run Tryd.prog (w.alloc (.cells #[.int .u8 z] 5)) = .ok (.slice a n c) w' ∧ Row w' B (.slice a n c) (xs ++ [z]) ∧ Off (fun k => v.ownBlock = some k) w w' ∧ (∀ g, (Value.slice a n c).ownBlock = some g → v.ownBlock = some g ∨ w.heap.size ≤ g) := by
  have hrow : Row (w.alloc (.cells #[.int .u8 z] 5)) B v xs := h.keep (fun g e => ((Below.refl w.heap.size w).alloc (Nat.le_refl _) (.cells #[.int .u8 z] 5)).block g (h.lt e).2)
  have hone : Byts (w.alloc (.cells #[.int .u8 z] 5)) (some ⟨w.heap.size, 0, none⟩) 1 [z] := by
    refine ⟨rfl, fun q hq => ⟨w.heap.size, 0, rfl, by simp, ?_⟩⟩
    obtain rfl : q = 0 := by omega
    simp
  obtain ⟨v', w', hr, r, g, o⟩ := run_append_bytes (c := 1) hrow hone (fun e => by cases e) hl (by simp; omega) 28
  obtain ⟨a', c', rfl, _⟩ := r.slice
  refine ⟨_, _, _, w', hr, r, ((Off.refl _ w).alloc _).trans (Off.of_grown g), fun k e => ?_⟩
  rcases o with o | o
  · rw [o] at e; exact Or.inl e
  · rw [o, Option.some.injEq] at e; simp at e; exact Or.inr (by omega)
theorem rq_plus {P : Program} {f : FuncId} {args : Array Value} {W : World} {a x : Nat} {v : Value} (h : Calls P f args (W.drewN (a + x)) fun e w' => e = .returned v ∧ w' = W.drewN (a + x)) :
    Calls P f args (W.drewN (a + x)) fun e w' => e = .returned v ∧ ∃ n, w' = W.drewN (a + n) := h.mono fun _ _ ⟨he, hw⟩ => ⟨he, x, hw⟩
theorem Off.drewN2 (w : World) (k : Nat) : Off (fun _ => False) w (w.drewN k) := (Off.refl _ _).drewN _
end Go.Proofs.YtfkcnnjkflomkaaDoor

/-
  Both disks, the program's and the document's, in one state.
-/
namespace Go.Proofs.YtfkcnnjkflomkaaDoor
open Go.RowKit

/-- What a disk is: all bytes of each area, how many are synced, dead, fuse, counts. -/
structure Sg where
  x0 : List Int
  x1 : List Int
  s0 : Nat
  s1 : Nat
  dead : Bool
  fuse : Int
  na : Int
  ns : Int
  nc : Int
def stOf (d : Bool) : Int := if d then 2 else 1
theorem stOf_any (d : Bool) : stOf d = 1 ∨ stOf d = 2 := by cases d <;> simp [stOf]
def rx (σ : Sg) (q : Nat) : List Int := if q = 0 then σ.x0.take σ.s0 else if q = 1 then σ.x0.drop σ.s0 else if q = 2 then σ.x1.take σ.s1 else σ.x1.drop σ.s1
structure Pr (w : World) (B K R : Nat) (v0 v1 : Value) (v : Nat → Value) (σ : Sg) : Prop where
  d : Dsk w B K v0 v1 σ.x0 σ.x1 σ.s0 σ.s1 (stOf σ.dead) σ.fuse σ.na σ.ns σ.nc
  r : Rk w B R v (rx σ) σ.dead σ.fuse σ.na σ.ns σ.nc
  ap : ∀ k, Foot K v0 v1 k → ¬ RFoot R v k
structure PStep (w w' : World) (K R : Nat) (v0 v1 : Value) (v : Nat → Value) (v0' v1' : Value) (v' : Nat → Value) : Prop where
  off : Off (fun k => Foot K v0 v1 k ∨ RFoot R v k) w w'
  foot : ∀ k, k < w.heap.size → (Foot K v0' v1' k ∨ RFoot R v' k) → (Foot K v0 v1 k ∨ RFoot R v k)
theorem Rk.congr {w : World} {B R : Nat} {v : Nat → Value} {x x' : Nat → List Int} {dead : Bool} {left na ns nc : Int} (h : Rk w B R v x dead left na ns nc) (hx : ∀ q, q < 4 → x q = x' q) : Rk w B R v x' dead left na ns nc :=
  ⟨h.cell, h.c4, h.c5, h.c6, h.c7, h.c8, h.fr, fun q hq => by rw [← hx q hq]; exact h.row q hq, h.own, h.ap, fun q hq => by rw [← hx q hq]; exact h.len q hq, h.hB, h.hR, h.bn⟩
theorem fz_left (n : Int) : fz n = leftOn n := by unfold fz leftOn; rfl
theorem ct_more (n : Int) (h : 0 ≤ n ∧ n ≤ 9007199254740992) : ct n = oneMore n := by unfold ct oneMore; split <;> omega
theorem PStep.refl (w : World) (K R : Nat) (v0 v1 : Value) (v : Nat → Value) : PStep w w K R v0 v1 v v0 v1 v := ⟨Off.refl _ _, fun _ _ h => h⟩
theorem PStep.trans {a b c : World} {K R : Nat} {u0 u1 v0 v1 z0 z1 : Value} {u v z : Nat → Value} (h : PStep a b K R u0 u1 u v0 v1 v) (k : PStep b c K R v0 v1 v z0 z1 z) : PStep a c K R u0 u1 u z0 z1 z :=
  ⟨h.off.join k.off h.foot, fun i hi g => h.foot i hi (k.foot i (Nat.lt_of_lt_of_le hi h.off.size) g)⟩
section
variable {w w1 w2 : World} {B K R : Nat} {v0 v1 v0' v1' : Value} {v v' : Nat → Value} {σ τ : Sg}
/-- The program's call, then the document's: both come to the same state. -/
theorem Pr.step (h : Pr w B K R v0 v1 v σ) (hd : Dsk w1 B K v0' v1' τ.x0 τ.x1 τ.s0 τ.s1 (stOf τ.dead) τ.fuse τ.na τ.ns τ.nc) (sd : DStep w w1 K v0 v1 v0' v1') :
    Rk w1 B R v (rx σ) σ.dead σ.fuse σ.na σ.ns σ.nc ∧ (∀ k, Foot K v0' v1' k → ¬ RFoot R v k) ∧ (∀ w2 v', Rk w2 B R v' (rx τ) τ.dead τ.fuse τ.na τ.ns τ.nc → RStep w1 w2 R v v' → Pr w2 B K R v0' v1' v' τ ∧ PStep w w2 K R v0 v1 v v0' v1' v') := by
  have hk := h.r.off sd.off (fun k hk hf => h.ap k hf hk)
  have hap : ∀ k, Foot K v0' v1' k → ¬ RFoot R v k := fun k hf hr => by
    have hl := (h.r.foot_lt hr).2
    exact h.ap k (sd.foot k hl hf) hr
  refine ⟨hk, hap, fun w2 v' hr sr => ⟨⟨hd.off sr.off (fun k hf hr2 => hap k hf hr2), hr, fun k hf hr2 => ?_⟩, ⟨?_, fun k hkl g => ?_⟩⟩⟩
  · have hl := (hd.foot_lt hf).2
    exact hap k hf (sr.foot k hl hr2)
  · exact (sd.off.mono (fun _ p => Or.inl p)).trans (sr.off.mono (fun _ p => Or.inr p))
  · rcases g with g | g
    · exact Or.inl (sd.foot k hkl g)
    · exact Or.inr (sr.foot k (Nat.lt_of_lt_of_le hkl sd.off.size) g)
theorem Pr.off {P : Nat → Prop} (h : Pr w B K R v0 v1 v σ) (o : Off P w w1) (hP : ∀ k, (Foot K v0 v1 k ∨ RFoot R v k) → ¬ P k) : Pr w1 B K R v0 v1 v σ :=
  ⟨h.d.off o (fun k hf => hP k (Or.inl hf)), h.r.off o (fun k hf => hP k (Or.inr hf)), h.ap⟩
end
end Go.Proofs.YtfkcnnjkflomkaaDoor
