/-
  The law's plays: the call in its box, what was handed in; its end.
-/
import Derived.Test.YtpcickhellkiaaaDoorLxSt
namespace Go.Proofs.YtpcickhellkiaaaDoor
open Go.RowKit

/-- A call's cells. -/
def opC (kd sd ix nn : Int) (po : Option Addr) (m c : Nat) : Array Value := #[.int .i64 kd, .int .i64 sd, .int .i64 ix, .int .i64 nn, .slice po m c]
/-- In a call: the box at Z, what was handed in at Z + 1. -/
structure PJ (w0 V : World) (l : Option Addr) (rb : Nat) (F G : Nat → Prop) (σ : LSt) (Z : Nat) (cs : Array Value) (po : Option Addr) (m : Nat) (bs : List Int) : Prop where
  pr : PR w0 V l rb F G σ σ
  z : Z + 1 < V.heap.size
  nw : ∀ q, PRw l rb G q → q < Z
  nf : ∀ q, F q → q < Z
  lo : w0.heap.size ≤ Z
  o : ∀ j, V.cell? ⟨Z, j, none⟩ = cs[j]?
  row : BRow V (Z + 1) (.slice (some ⟨Z + 1, 0, none⟩) (m + 90) (m + 90)) (bs ++ marks)
  arg : Byts w0 po m bs
section
variable {w0 V X z : World} {l : Option Addr} {rb : Nat} {F G : Nat → Prop} {σ σ' τ' : LSt} {Z : Nat} {cs : Array Value} {po : Option Addr} {m : Nat} {bs : List Int}
theorem PJ.make (h : PR w0 X l rb F G σ σ) {cs : Array Value} (hb : Byts w0 po m bs) {V : World} (hV : Below (X.heap.size + 1) (X.alloc (.cells cs 45)) V) (hr : BRow V (X.heap.size + 1) (.slice (some ⟨X.heap.size + 1, 0, none⟩) (m + 90) (m + 90)) (bs ++ marks)) : PJ w0 V l rb F G σ X.heap.size cs po m bs := by
  have b1 := (Below.refl X.heap.size X).alloc (Nat.le_refl _) (.cells cs 45)
  have b2 : Below X.heap.size X V := b1.trans (hV.mono (by omega))
  have e := ERow.lt hr (g := X.heap.size + 1) rfl
  refine ⟨h.below b2, e.2, fun q hq => (h.wlt hq).1, h.pl.lt.1, h.b.size, fun j => ?_, hr, hb⟩
  rw [hV.cell (p := ⟨X.heap.size, j, none⟩) (by show X.heap.size < _; omega)]
  exact cell_new X cs _ j
theorem PJ.cells (h : PJ w0 V l rb F G σ Z cs po m bs) (hq : PRq w0 V l rb F G σ' τ' z) : ∀ j, z.cell? ⟨Z, j, none⟩ = cs[j]? := fun j => (hq.cell (q := Z) (by have := h.z; omega) (fun e => by have := h.nw Z e; omega) j).trans (h.o j)
theorem PJ.handed (h : PJ w0 V l rb F G σ Z cs po m bs) (hq : PRq w0 V l rb F G σ' τ' z) : BRow z (Z + 1) (.slice (some ⟨Z + 1, 0, none⟩) (m + 90) (m + 90)) (bs ++ marks) := ERow.off h.row hq.off fun g hg e => by
  simp only [Value.ownBlock, Option.some.injEq] at hg
  have := h.nw g e
  omega
theorem PJ.inn (h : PJ w0 V l rb F G σ Z cs po m bs) (hq : PRq w0 V l rb F G σ' τ' z) : Byts z (some ⟨Z + 1, 0, none⟩) m bs := by
  have := BRow.byts ((h.handed hq).prefix (m := m) (by omega))
  rwa [List.take_left' h.arg.len] at this
theorem PJ.args (h : PJ w0 V l rb F G σ Z cs po m bs) (hq : PRq w0 V l rb F G σ' τ' z) : Byts z po m bs := h.arg.below hq.b
/-- The end of a call: what was handed in is written over. -/
structure PE (w0 X : World) (l : Option Addr) (rb : Nat) (F G : Nat → Prop) (σ' τ' : LSt) (Z m : Nat) (wx : World) : Prop where
  q : ∃ F' G', PR w0 wx l rb F' G' σ' τ' ∧ Off (PRw l rb G) X wx ∧ (∀ b, F' b → F b ∨ (X.heap.size ≤ b ∧ b < wx.heap.size)) ∧ (∀ b, G' b → G b ∨ (X.heap.size ≤ b ∧ b < wx.heap.size)) ∧ ¬ F' (Z + 1) ∧ ¬ PRw l rb G' (Z + 1)
  row : ∃ ys : List Int, ys.length = m + 90 ∧ BRow wx (Z + 1) (.slice (some ⟨Z + 1, 0, none⟩) (m + 90) (m + 90)) ys
  lo : w0.heap.size ≤ Z + 1 ∧ X.heap.size ≤ Z + 1
theorem PJ.last (h : PJ w0 V l rb F G σ Z cs po m bs) (hX : Below X.heap.size X V) (hZ : X.heap.size = Z) (hq : PRq w0 V l rb F G σ' τ' z) : PE w0 X l rb F G σ' τ' Z m z := by
  have hr := h.handed hq
  have hl := h.arg.len
  obtain ⟨F', G', h1, h2, h3, h4⟩ := hq
  have hz := h.z
  have hs := hX.size
  refine ⟨⟨F', G', h1, (Off.of_below hX).trans h2, fun b hb => ?_, fun b hb => ?_, fun e => ?_, fun e => ?_⟩, ⟨bs ++ marks, by simp [marks]; omega, hr⟩, by have := h.lo; omega, by omega⟩
  · exact (h3 b hb).imp id fun e => ⟨by omega, e.2⟩
  · exact (h4 b hb).imp id fun e => ⟨by omega, e.2⟩
  · rcases h3 _ e with g | g
    · have := h.nf _ g; omega
    · omega
  · rcases e with e | e | e
    · rcases h4 _ e with g | g
      · have := h.nw _ (Or.inl g); omega
      · omega
    · have := h.nw _ (Or.inr (Or.inl e)); omega
    · have := h.nw _ (Or.inr (Or.inr e)); omega
theorem PE.below {wx wy : World} (h : PE w0 X l rb F G σ' τ' Z m wx) (hb : Below wx.heap.size wx wy) : PE w0 X l rb F G σ' τ' Z m wy := by
  obtain ⟨⟨F', G', h1, h2, h3, h4, h5, h6⟩, ⟨ys, hy, hr⟩, hl⟩ := h
  have := hb.size
  refine ⟨⟨F', G', h1.below hb, h2.trans (Off.of_below hb), fun b hb' => ?_, fun b hb' => ?_, h5, h6⟩, ⟨ys, hy, ERow.below hr hb⟩, hl⟩
  · exact (h3 b hb').imp id fun e => ⟨e.1, by omega⟩
  · exact (h4 b hb').imp id fun e => ⟨e.1, by omega⟩
theorem PE.put {wx : World} (h : PE w0 X l rb F G σ' τ' Z m wx) {i : Nat} (hi : i < m) (v : Int) : (∃ u, wx.cell? ⟨Z + 1, i, none⟩ = some u) ∧ wx.frozen? ⟨Z + 1, i, none⟩ = false ∧ PE w0 X l rb F G σ' τ' Z m (wx.setCell ⟨Z + 1, i, none⟩ (.int .u8 v)) := by
  obtain ⟨⟨F', G', h1, h2, h3, h4, h5, h6⟩, ⟨ys, hy, hr⟩, hl⟩ := h
  have o3 : Off (fun q => q = Z + 1) wx (wx.setCell ⟨Z + 1, i, none⟩ (.int .u8 v)) := Off.setCell (P := fun q => q = Z + 1) (Off.refl _ _) (p := ⟨Z + 1, i, none⟩) rfl _
  refine ⟨⟨_, hr.slot (j := i) (by omega)⟩, hr.thaw i, ⟨⟨F', G', h1.write o3 (fun q e => by rw [e]; exact hl.1) (fun q e => by rw [e]; exact ⟨h5, h6⟩), h2.join o3 (fun q hq e => by have := hl.2; omega), fun b hb => ?_, fun b hb => ?_, h5, h6⟩, ⟨ys.set i v, by simpa using hy, hr.stored i v (by omega)⟩, hl⟩⟩
  · rw [World.size_setCell]; exact h3 b hb
  · rw [World.size_setCell]; exact h4 b hb
theorem PE.fin {wx : World} (h : PE w0 X l rb F G σ' τ' Z m wx) : PRq w0 X l rb F G σ' τ' wx := by
  obtain ⟨⟨F', G', h1, h2, h3, h4, _⟩, _⟩ := h
  exact ⟨F', G', h1, h2, h3, h4⟩
/-- An error beside both links. -/
def EJ (w0 V : World) (l : Option Addr) (rb : Nat) (F G : Nat → Prop) (σ τ : LSt) (v : Value) (a c : Int) (z : World) : Prop := EvIs z v a c ∧ PRq w0 V l rb F G σ τ z
theorem EJ.below {v : Value} {a c : Int} {y : World} (h : EJ w0 V l rb F G σ' τ' v a c z) (hb : Below z.heap.size z y) : EJ w0 V l rb F G σ' τ' v a c y := ⟨h.1.below hb, h.2.below hb⟩
theorem EJ.drew {v : Value} {a c : Int} (h : EJ w0 V l rb F G σ' τ' v a c z) : EJ w0 V l rb F G σ' τ' v a c z.drew := h.below (Below.drew (Below.refl _ _))
theorem EJ.drewN {v : Value} {a c : Int} (h : EJ w0 V l rb F G σ' τ' v a c z) (q : Nat) : EJ w0 V l rb F G σ' τ' v a c (z.drewN q) := h.below (below_drewN (Below.refl _ _) q)
end
end Go.Proofs.YtpcickhellkiaaaDoor
