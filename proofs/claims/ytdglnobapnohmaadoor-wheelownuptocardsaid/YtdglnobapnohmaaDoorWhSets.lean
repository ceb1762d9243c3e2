/-
  The law's set: a wheel with these timers.
-/
import Derived.Test.YtdglnobapnohmaaDoorWhAnchor
namespace Go.Proofs.YtdglnobapnohmaaDoor
open Go.RowKit

/-- An Op that came in. -/
structure Opv where
  kind : Int
  key : Int
  text : ByteArray
  tick : Int
/-- A list of Ops that came in. -/
def Opl (w : World) (ao : Option Addr) (ys : List Opv) : Prop :=
  ∀ i y, ys[i]? = some y → ∃ b off, ao = some ⟨b, off, none⟩ ∧ b < w.heap.size ∧ w.cell? ⟨b, off + i * 4, none⟩ = some (.int .i64 y.kind) ∧ w.cell? ⟨b, off + i * 4 + 1, none⟩ = some (.int .i64 y.key) ∧ w.cell? ⟨b, off + i * 4 + 2, none⟩ = some (.string y.text) ∧ w.cell? ⟨b, off + i * 4 + 3, none⟩ = some (.int .i64 y.tick)
def OpsI (ys : List Opv) : Prop := ∀ y ∈ ys, KeyI y.key ∧ KeyI y.tick
theorem Opl.below {w w' : World} {ao : Option Addr} {ys : List Opv} (h : Opl w ao ys) (hb : Below w.heap.size w w') : Opl w' ao ys := fun i y hy => by
  obtain ⟨b, off, ha, hl, h0, h1, h2, h3⟩ := h i y hy
  exact ⟨b, off, ha, Nat.lt_of_lt_of_le hl hb.size, (hb.cell (p := ⟨b, off + i * 4, none⟩) hl).trans h0, (hb.cell (p := ⟨b, off + i * 4 + 1, none⟩) hl).trans h1, (hb.cell (p := ⟨b, off + i * 4 + 2, none⟩) hl).trans h2, (hb.cell (p := ⟨b, off + i * 4 + 3, none⟩) hl).trans h3⟩
/-- May it be set? -/
def okT (now : Nat) (t : Int) : Bool := decide ((now : Int) < t) && decide (t ≤ 1099511627776)
def setOp (now : Nat) (S : List Tm) (y : Opv) : List Tm := if okT now y.tick = true then setS y.key y.tick.toNat S else S
def setsS (now : Nat) (S : List Tm) (ys : List Opv) : List Tm := ys.foldl (setOp now) S
theorem setS_len (k : Int) (t : Nat) (S : List Tm) : (setS k t S).length ≤ S.length + 1 := by
  have := (setS_perm k t S).length_eq
  have h2 := List.length_filter_le (keyNe k) S
  simp only [List.length_cons] at this
  omega
theorem setsS_len (now : Nat) : ∀ (ys : List Opv) (S : List Tm), (setsS now S ys).length ≤ S.length + ys.length
  | [], S => by simp [setsS]
  | y :: ys, S => by
    have h1 := setsS_len now ys (setOp now S y)
    have h2 : (setOp now S y).length ≤ S.length + 1 := by
      unfold setOp
      split
      · exact setS_len _ _ _
      · omega
    show (setsS now (setOp now S y) ys).length ≤ _
    simp only [List.length_cons]
    omega
theorem setsS_step {now i : Nat} {ys : List Opv} {y : Opv} (h : ys[i]? = some y) : setsS now [] (ys.take (i + 1)) = setOp now (setsS now [] (ys.take i)) y := by
  unfold setsS
  rw [List.take_add_one, h, Option.toList_some, List.foldl_append]
  rfl
end Go.Proofs.YtdglnobapnohmaaDoor
