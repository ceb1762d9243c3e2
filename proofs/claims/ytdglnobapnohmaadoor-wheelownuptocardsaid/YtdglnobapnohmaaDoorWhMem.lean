/-
  A wheel's timers in memory: the clock, 448 lists, the map.
-/
import Derived.Test.YtdglnobapnohmaaDoorWhSort
namespace Go.Proofs.YtdglnobapnohmaaDoor
open Go.RowKit

def upd {β : Type} (f : Nat → β) (i : Nat) (b : β) : Nat → β := fun j => if j = i then b else f j
theorem upd_same {β : Type} (f : Nat → β) (i : Nat) (b : β) : upd f i b i = b := if_pos rfl
theorem upd_other {β : Type} (f : Nat → β) {i j : Nat} (b : β) (h : j ≠ i) : upd f i b j = f j := if_neg h
/-- The block T of the timers. -/
def TBlk (w : World) (T M now : Nat) (v : Nat → Value) : Prop :=
  ∃ cs : Array Value, w.heap[T]? = some (.cells cs 53 (0, 0)) ∧ cs.size = 450 ∧ cs[0]? = some (.int .i64 (now : Int)) ∧ (∀ i, i < 448 → cs[1 + i]? = some (v i)) ∧ cs[449]? = some (.map (some M))
structure Tms (w : World) (B T M now : Nat) (v : Nat → Value) (L : Nat → List Tm) (f : Int → Option (Nat × Nat)) (n : Nat) : Prop where
  lo : B ≤ T ∧ B ≤ M
  tb : TBlk w T M now v
  row : ∀ i, i < 448 → TRow w B (v i) (L i)
  inj : ∀ i j g, i < 448 → j < 448 → (v i).ownBlock = some g → (v j).ownBlock = some g → i = j
  mp : MapF w M f n
/-- The blocks of the timers. -/
def Ft (T M : Nat) (v : Nat → Value) (q : Nat) : Prop := q = T ∨ q = M ∨ ∃ i, i < 448 ∧ (v i).ownBlock = some q
section
variable {w w' : World} {B T M now n : Nat} {v : Nat → Value} {L : Nat → List Tm} {f : Int → Option (Nat × Nat)}
theorem TBlk.lt (h : TBlk w T M now v) : T < w.heap.size := by
  obtain ⟨cs, h, _⟩ := h
  rcases Nat.lt_or_ge T w.heap.size with g | g
  · exact g
  · rw [Array.getElem?_eq_none g] at h; cases h
theorem TBlk.c0 (h : TBlk w T M now v) : w.cell? ⟨T, 0, none⟩ = some (.int .i64 (now : Int)) := by
  obtain ⟨cs, h, _, h0, _⟩ := h
  simp [World.cell?, h, h0]
theorem TBlk.cl (h : TBlk w T M now v) {i : Nat} (hi : i < 448) : w.cell? ⟨T, 1 + i, none⟩ = some (v i) := by
  obtain ⟨cs, h, _, _, h1, _⟩ := h
  simp [World.cell?, h, h1 i hi]
theorem TBlk.cm (h : TBlk w T M now v) : w.cell? ⟨T, 449, none⟩ = some (.map (some M)) := by
  obtain ⟨cs, h, _, _, _, h1⟩ := h
  simp [World.cell?, h, h1]
theorem TBlk.fr (h : TBlk w T M now v) (j : Nat) : w.frozen? ⟨T, j, none⟩ = false := by
  obtain ⟨cs, h, _⟩ := h
  simp [World.frozen?, h]
theorem TBlk.keep (h : TBlk w T M now v) (hk : w'.heap[T]? = w.heap[T]?) : TBlk w' T M now v := by
  obtain ⟨cs, h, r⟩ := h
  exact ⟨cs, hk.trans h, r⟩
theorem heap_set {w : World} {T j : Nat} {cs : Array Value} {t : TypeId} {u : Value} (h : w.heap[T]? = some (.cells cs t (0, 0))) : (w.setCell ⟨T, j, none⟩ u).heap[T]? = some (.cells (cs.setIfInBounds j u) t (0, 0)) := by
  rw [Sort.setCell_eq]
  show (w.heap.modify T _)[T]? = _
  rw [Array.getElem?_modify, if_pos rfl, h]
  rfl
theorem heap_set_ne {w : World} {T j k : Nat} {u : Value} (h : k ≠ T) : (w.setCell ⟨T, j, none⟩ u).heap[k]? = w.heap[k]? := by
  rw [Sort.setCell_eq]
  show (w.heap.modify T _)[k]? = _
  rw [Array.getElem?_modify, if_neg (fun e => h e.symm)]
theorem TBlk.setNow (h : TBlk w T M now v) (to_ : Nat) : TBlk (w.setCell ⟨T, 0, none⟩ (.int .i64 (to_ : Int))) T M to_ v := by
  obtain ⟨cs, h, hs, h0, h1, h2⟩ := h
  refine ⟨_, heap_set h, by simpa using hs, by simp [hs], fun i hi => ?_, ?_⟩
  · rw [Array.getElem?_setIfInBounds_ne (by omega)]; exact h1 i hi
  · rw [Array.getElem?_setIfInBounds_ne (by omega)]; exact h2
theorem TBlk.setL (h : TBlk w T M now v) {i : Nat} (hi : i < 448) (u : Value) : TBlk (w.setCell ⟨T, 1 + i, none⟩ u) T M now (upd v i u) := by
  obtain ⟨cs, h, hs, h0, h1, h2⟩ := h
  refine ⟨_, heap_set h, by simpa using hs, ?_, fun j hj => ?_, ?_⟩
  · rw [Array.getElem?_setIfInBounds_ne (by omega)]; exact h0
  · by_cases e : j = i
    · subst e
      rw [upd_same, Array.getElem?_setIfInBounds_self]
      simp [hs]; omega
    · rw [upd_other _ _ e, Array.getElem?_setIfInBounds_ne (by omega)]; exact h1 j hj
  · rw [Array.getElem?_setIfInBounds_ne (by omega)]; exact h2
theorem Tms.lt (h : Tms w B T M now v L f n) {q : Nat} (hq : Ft T M v q) : B ≤ q ∧ q < w.heap.size := by
  rcases hq with rfl | rfl | ⟨i, hi, e⟩
  · exact ⟨h.lo.1, h.tb.lt⟩
  · exact ⟨h.lo.2, h.mp.lt⟩
  · exact (h.row i hi).lt e
theorem Tms.neTM (h : Tms w B T M now v L f n) : T ≠ M := fun e => by
  obtain ⟨cs, hc, _⟩ := h.tb
  obtain ⟨es, cl, hm⟩ := h.mp.isMap
  rw [e, hm] at hc
  cases hc
theorem Tms.neL (h : Tms w B T M now v L f n) {i g : Nat} (hi : i < 448) (e : (v i).ownBlock = some g) : g ≠ T ∧ g ≠ M := by
  obtain ⟨cs, hc, _⟩ := h.tb
  obtain ⟨es, cl, hm⟩ := h.mp.isMap
  have hr := h.row i hi
  rcases hr.2 with ⟨e0, _⟩ | ⟨g1, c1, u1, e1, _, b1, _⟩
  · rw [e0] at e; cases e
  · rw [e1] at e
    simp only [Value.ownBlock, Option.some.injEq] at e
    subst e
    refine ⟨fun e => ?_, fun e => ?_⟩
    · rw [e, hc] at b1
      simp only [Option.some.injEq, Obj.cells.injEq] at b1
      exact absurd b1.2.1 (by decide)
    · rw [e, hm] at b1; cases b1
theorem Tms.off {P : Nat → Prop} (h : Tms w B T M now v L f n) (o : Off P w w') (hP : ∀ q, Ft T M v q → ¬ P q) : Tms w' B T M now v L f n :=
  ⟨h.lo, h.tb.keep (o.block T h.tb.lt (hP T (Or.inl rfl))), fun i hi => (h.row i hi).off o (fun g e => hP g (Or.inr (Or.inr ⟨i, hi, e⟩))), h.inj, h.mp.off o (hP M (Or.inr (Or.inl rfl)))⟩
theorem Tms.below (h : Tms w B T M now v L f n) (hb : Below w.heap.size w w') : Tms w' B T M now v L f n := h.off (Off.of_below (P := fun _ => False) hb) (fun _ _ => id)
theorem Tms.drewN (h : Tms w B T M now v L f n) (k : Nat) : Tms (w.drewN k) B T M now v L f n := h.off ((Off.refl (fun _ => False) w).drewN k) (fun _ _ => id)
/-- The clock is set. -/
theorem Tms.setNow (h : Tms w B T M now v L f n) (to_ : Nat) : Tms (w.setCell ⟨T, 0, none⟩ (.int .i64 (to_ : Int))) B T M to_ v L f n := by
  have hne := h.neTM
  exact ⟨h.lo, h.tb.setNow to_, fun i hi => (h.row i hi).keep fun g e => heap_set_ne (h.neL hi e).1, h.inj, h.mp.keep (heap_set_ne (fun e => hne e.symm))⟩
/-- The map is turned. -/
theorem Tms.setMap {f' : Int → Option (Nat × Nat)} {n' : Nat} (h : Tms w B T M now v L f n) (o : Off (fun q => q = M) w w') (hm : MapF w' M f' n') : Tms w' B T M now v L f' n' :=
  ⟨h.lo, h.tb.keep (o.block T h.tb.lt h.neTM), fun i hi => (h.row i hi).off o (fun _ e => (h.neL hi e).2), h.inj, hm⟩
/-- A list is turned: in its own block, or in a new one. -/
theorem Tms.setList (h : Tms w B T M now v L f n) {i : Nat} (hi : i < 448) {u : Value} {xs : List Tm} (o : Off (fun q => (v i).ownBlock = some q) w w') (hr : TRow w' B u xs) (hu : u.ownBlock = none ∨ u.ownBlock = (v i).ownBlock ∨ ∃ g, u.ownBlock = some g ∧ w.heap.size ≤ g) : Tms (w'.setCell ⟨T, 1 + i, none⟩ u) B T M now (upd v i u) (upd L i xs) f n := by
  have hT : w'.heap[T]? = w.heap[T]? := o.block T h.tb.lt (fun e => (h.neL hi e).1 rfl)
  have hM : w'.heap[M]? = w.heap[M]? := o.block M h.mp.lt (fun e => (h.neL hi e).2 rfl)
  have hne := h.neTM
  have htb := h.tb.keep hT
  have hold : ∀ j g, j < 448 → j ≠ i → (v j).ownBlock = some g → g < w.heap.size ∧ g ≠ T ∧ u.ownBlock ≠ some g := fun j g hj hji e => ⟨((h.row j hj).lt e).2, (h.neL hj e).1, fun e' => by
    rcases hu with hu | hu | ⟨g', hu, hg'⟩
    · rw [hu] at e'; cases e'
    · rw [hu] at e'; exact hji (h.inj j i g hj hi e e')
    · rw [hu] at e'
      have := ((h.row j hj).lt e).2
      injection e' with e'
      omega⟩
  have huT : ∀ g, u.ownBlock = some g → g ≠ T := fun g e => by
    rcases hu with hu | hu | ⟨g', hu, hg'⟩
    · rw [hu] at e; cases e
    · rw [hu] at e; exact (h.neL hi e).1
    · rw [hu] at e
      have := h.tb.lt
      injection e with e
      omega
  refine ⟨h.lo, htb.setL hi u, fun j hj => ?_, fun a b g ha hb ea eb => ?_, (h.mp.keep hM).keep (heap_set_ne (fun e => hne e.symm))⟩
  · by_cases e : j = i
    · subst e
      rw [upd_same, upd_same]
      exact hr.keep fun g e => heap_set_ne (huT g e)
    · rw [upd_other _ _ e, upd_other _ _ e]
      have h1 : TRow w' B (v j) (L j) := (h.row j hj).off o (fun g e1 e2 => e (h.inj j i g hj hi e1 e2))
      exact h1.keep fun g e1 => heap_set_ne (hold j g hj e e1).2.1
  · by_cases e1 : a = i
    · by_cases e2 : b = i
      · rw [e1, e2]
      · subst e1
        rw [upd_same] at ea
        rw [upd_other _ _ e2] at eb
        exact absurd ea (hold b g hb e2 eb).2.2
    · by_cases e2 : b = i
      · subst e2
        rw [upd_same] at eb
        rw [upd_other _ _ e1] at ea
        exact absurd eb (hold a g ha e1 ea).2.2
      · rw [upd_other _ _ e1] at ea
        rw [upd_other _ _ e2] at eb
        exact h.inj a b g ha hb ea eb
end
end Go.Proofs.YtdglnobapnohmaaDoor
