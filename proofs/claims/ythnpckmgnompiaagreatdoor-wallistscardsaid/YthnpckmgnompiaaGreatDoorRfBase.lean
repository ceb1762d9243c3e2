/-
  The document's disk in memory: four lists of bytes (safe and tail of each area), whether it is dead, what the fuse lets be done, three counts.
-/
import Derived.Test.YthnpckmgnompiaaGreatDoorBook
import Derived.Deep.RegionLaw
namespace Go.Proofs.YthnpckmgnompiaaGreatDoor
open Go.RowKit

def upd {α : Type} (f : Nat → α) (q : Nat) (y : α) : Nat → α := fun k => if k = q then y else f k
theorem upd_same {α : Type} (f : Nat → α) (q : Nat) (y : α) : upd f q y q = y := if_pos rfl
theorem upd_ne {α : Type} (f : Nat → α) {q k : Nat} (y : α) (h : k ≠ q) : upd f q y k = f k := if_neg h
structure Rk (w : World) (B R : Nat) (v : Nat → Value) (x : Nat → List Int) (dead : Bool) (left na ns nc : Int) : Prop where
  cell : ∀ q, q < 4 → w.cell? ⟨R, q, none⟩ = some (v q)
  c4 : w.cell? ⟨R, 4, none⟩ = some (.bool dead)
  c5 : w.cell? ⟨R, 5, none⟩ = some (.int .i64 left)
  c6 : w.cell? ⟨R, 6, none⟩ = some (.int .i64 na)
  c7 : w.cell? ⟨R, 7, none⟩ = some (.int .i64 ns)
  c8 : w.cell? ⟨R, 8, none⟩ = some (.int .i64 nc)
  fr : ∀ q, w.frozen? ⟨R, q, none⟩ = false
  row : ∀ q, q < 4 → Row w B (v q) (x q)
  own : ∀ q, q < 4 → (v q).ownBlock ≠ some R
  ap : ∀ p q, p < 4 → q < 4 → p ≠ q → ∀ g, (v p).ownBlock = some g → (v q).ownBlock ≠ some g
  len : ∀ q, q < 4 → (x q).length ≤ 16777216
  hB : B ≤ R
  hR : R < w.heap.size
  bn : -1 ≤ left ∧ left ≤ 9223372036854775807 ∧ 0 ≤ na ∧ na ≤ 9007199254740992 ∧ 0 ≤ ns ∧ ns ≤ 9007199254740992 ∧ 0 ≤ nc ∧ nc ≤ 9007199254740992
/-- The blocks of it. -/
def RFoot (R : Nat) (v : Nat → Value) (k : Nat) : Prop := k = R ∨ ∃ q, q < 4 ∧ (v q).ownBlock = some k
structure RStep (w w' : World) (R : Nat) (v v' : Nat → Value) : Prop where
  off : Off (RFoot R v) w w'
  foot : ∀ k, k < w.heap.size → RFoot R v' k → RFoot R v k
theorem RStep.refl (w : World) (R : Nat) (v : Nat → Value) : RStep w w R v v := ⟨Off.refl _ _, fun _ _ h => h⟩
theorem RStep.trans {a b c : World} {R : Nat} {u v z : Nat → Value} (h : RStep a b R u v) (k : RStep b c R v z) : RStep a c R u z :=
  ⟨h.off.join k.off h.foot, fun i hi g => h.foot i hi (k.foot i (Nat.lt_of_lt_of_le hi h.off.size) g)⟩
section
variable {w w' : World} {B R : Nat} {v : Nat → Value} {x : Nat → List Int} {dead : Bool} {left na ns nc : Int}
theorem Rk.foot_lt (h : Rk w B R v x dead left na ns nc) {k : Nat} (hk : RFoot R v k) : B ≤ k ∧ k < w.heap.size := by
  rcases hk with rfl | ⟨q, hq, hk⟩
  · exact ⟨h.hB, h.hR⟩
  · exact (h.row q hq).lt hk
theorem Rk.off {P : Nat → Prop} (h : Rk w B R v x dead left na ns nc) (o : Off P w w') (hP : ∀ k, RFoot R v k → ¬ P k) : Rk w' B R v x dead left na ns nc := by
  have hc : ∀ q, w'.cell? ⟨R, q, none⟩ = w.cell? ⟨R, q, none⟩ := fun q => o.cell (p := ⟨R, q, none⟩) h.hR (hP R (Or.inl rfl))
  exact ⟨fun q hq => by rw [hc]; exact h.cell q hq, by rw [hc]; exact h.c4, by rw [hc]; exact h.c5, by rw [hc]; exact h.c6, by rw [hc]; exact h.c7, by rw [hc]; exact h.c8, fun q => by rw [o.frozen (p := ⟨R, q, none⟩) h.hR (hP R (Or.inl rfl))]; exact h.fr q,
    fun q hq => (h.row q hq).off o (fun g e => hP g (Or.inr ⟨q, hq, e⟩)), h.own, h.ap, h.len, h.hB, Nat.lt_of_lt_of_le h.hR o.size, h.bn⟩
theorem Rk.below (h : Rk w B R v x dead left na ns nc) (hb : Below w.heap.size w w') : Rk w' B R v x dead left na ns nc := h.off (Off.of_below (P := fun _ => False) hb) (fun _ _ => id)
theorem Rk.drewN (h : Rk w B R v x dead left na ns nc) (k : Nat) : Rk (w.drewN k) B R v x dead left na ns nc := h.off (P := fun _ => False) ((Off.refl _ _).drewN _) (fun _ _ => id)
/-- A cell of the rest is written. -/
theorem Rk.setN (h : Rk w B R v x dead left na ns nc) {q : Nat} (hq : 4 ≤ q) (u : Value) : (∀ p, p < 4 → (w.setCell ⟨R, q, none⟩ u).cell? ⟨R, p, none⟩ = some (v p)) ∧ (∀ p, p < 4 → Row (w.setCell ⟨R, q, none⟩ u) B (v p) (x p)) ∧ (∀ p, p ≠ q → (w.setCell ⟨R, q, none⟩ u).cell? ⟨R, p, none⟩ = w.cell? ⟨R, p, none⟩) ∧ (∀ p, (w.setCell ⟨R, q, none⟩ u).frozen? ⟨R, p, none⟩ = false) ∧ RStep w (w.setCell ⟨R, q, none⟩ u) R v v := by
  have ho : ∀ p, p ≠ q → (w.setCell ⟨R, q, none⟩ u).cell? ⟨R, p, none⟩ = w.cell? ⟨R, p, none⟩ := fun p hp => World.cell?_setCell_other _ _ _ _ (by simp only [ne_eq, Addr.mk.injEq, not_and]; intro _ e; omega)
  refine ⟨fun p hp => by rw [ho p (by omega)]; exact h.cell p hp, fun p hp => (h.row p hp).set (h.own p hp), ho, fun p => by rw [World.frozen?_setCell]; exact h.fr p, ⟨Off.setCell (P := RFoot R v) (Off.refl _ _) (p := ⟨R, q, none⟩) (Or.inl rfl) _, fun _ _ g => g⟩⟩
theorem Rk.set4 (h : Rk w B R v x dead left na ns nc) (d : Bool) : Rk (w.setCell ⟨R, 4, none⟩ (.bool d)) B R v x d left na ns nc ∧ RStep w (w.setCell ⟨R, 4, none⟩ (.bool d)) R v v := by
  obtain ⟨a, b, c, f, s⟩ := h.setN (q := 4) (by decide) (.bool d)
  exact ⟨⟨a, World.cell?_setCell_same _ _ _ h.c4, by rw [c 5 (by decide)]; exact h.c5, by rw [c 6 (by decide)]; exact h.c6, by rw [c 7 (by decide)]; exact h.c7, by rw [c 8 (by decide)]; exact h.c8, f, b, h.own, h.ap, h.len, h.hB, by simpa using h.hR, h.bn⟩, s⟩
theorem Rk.set5 (h : Rk w B R v x dead left na ns nc) (X : Int) (hX : -1 ≤ X ∧ X ≤ 9223372036854775807) : Rk (w.setCell ⟨R, 5, none⟩ (.int .i64 X)) B R v x dead X na ns nc ∧ RStep w (w.setCell ⟨R, 5, none⟩ (.int .i64 X)) R v v := by
  obtain ⟨a, b, c, f, s⟩ := h.setN (q := 5) (by decide) (.int .i64 X)
  exact ⟨⟨a, by rw [c 4 (by decide)]; exact h.c4, World.cell?_setCell_same _ _ _ h.c5, by rw [c 6 (by decide)]; exact h.c6, by rw [c 7 (by decide)]; exact h.c7, by rw [c 8 (by decide)]; exact h.c8, f, b, h.own, h.ap, h.len, h.hB, by simpa using h.hR, ⟨hX.1, hX.2, h.bn.2.2⟩⟩, s⟩
theorem Rk.set55 (h : Rk w B R v x dead left na ns nc) (u : Value) (X : Int) (hX : -1 ≤ X ∧ X ≤ 9223372036854775807) : Rk ((w.setCell ⟨R, 5, none⟩ u).setCell ⟨R, 5, none⟩ (.int .i64 X)) B R v x dead X na ns nc ∧ RStep w ((w.setCell ⟨R, 5, none⟩ u).setCell ⟨R, 5, none⟩ (.int .i64 X)) R v v := by
  have ho : ∀ p, p ≠ 5 → ((w.setCell ⟨R, 5, none⟩ u).setCell ⟨R, 5, none⟩ (.int .i64 X)).cell? ⟨R, p, none⟩ = w.cell? ⟨R, p, none⟩ := fun p hp => by
    rw [World.cell?_setCell_other _ _ _ _ (by simp only [ne_eq, Addr.mk.injEq, not_and]; intro _ e; omega), World.cell?_setCell_other _ _ _ _ (by simp only [ne_eq, Addr.mk.injEq, not_and]; intro _ e; omega)]
  exact ⟨⟨fun p hp => by rw [ho p (by omega)]; exact h.cell p hp, by rw [ho 4 (by decide)]; exact h.c4, World.cell?_setCell_same _ _ _ (World.cell?_setCell_same _ _ _ h.c5), by rw [ho 6 (by decide)]; exact h.c6, by rw [ho 7 (by decide)]; exact h.c7, by rw [ho 8 (by decide)]; exact h.c8, fun p => by rw [World.frozen?_setCell, World.frozen?_setCell]; exact h.fr p,
    fun p hp => ((h.row p hp).set (h.own p hp)).set (h.own p hp), h.own, h.ap, h.len, h.hB, by simpa using h.hR, ⟨hX.1, hX.2, h.bn.2.2⟩⟩, ⟨Off.setCell (P := RFoot R v) (Off.setCell (P := RFoot R v) (Off.refl _ _) (p := ⟨R, 5, none⟩) (Or.inl rfl) _) (p := ⟨R, 5, none⟩) (Or.inl rfl) _, fun _ _ g => g⟩⟩
theorem Rk.set6 (h : Rk w B R v x dead left na ns nc) (X : Int) (hX : 0 ≤ X ∧ X ≤ 9007199254740992) : Rk (w.setCell ⟨R, 6, none⟩ (.int .i64 X)) B R v x dead left X ns nc ∧ RStep w (w.setCell ⟨R, 6, none⟩ (.int .i64 X)) R v v := by
  obtain ⟨a, b, c, f, s⟩ := h.setN (q := 6) (by decide) (.int .i64 X)
  exact ⟨⟨a, by rw [c 4 (by decide)]; exact h.c4, by rw [c 5 (by decide)]; exact h.c5, World.cell?_setCell_same _ _ _ h.c6, by rw [c 7 (by decide)]; exact h.c7, by rw [c 8 (by decide)]; exact h.c8, f, b, h.own, h.ap, h.len, h.hB, by simpa using h.hR, ⟨h.bn.1, h.bn.2.1, hX.1, hX.2, h.bn.2.2.2.2⟩⟩, s⟩
theorem Rk.set7 (h : Rk w B R v x dead left na ns nc) (X : Int) (hX : 0 ≤ X ∧ X ≤ 9007199254740992) : Rk (w.setCell ⟨R, 7, none⟩ (.int .i64 X)) B R v x dead left na X nc ∧ RStep w (w.setCell ⟨R, 7, none⟩ (.int .i64 X)) R v v := by
  obtain ⟨a, b, c, f, s⟩ := h.setN (q := 7) (by decide) (.int .i64 X)
  exact ⟨⟨a, by rw [c 4 (by decide)]; exact h.c4, by rw [c 5 (by decide)]; exact h.c5, by rw [c 6 (by decide)]; exact h.c6, World.cell?_setCell_same _ _ _ h.c7, by rw [c 8 (by decide)]; exact h.c8, f, b, h.own, h.ap, h.len, h.hB, by simpa using h.hR, ⟨h.bn.1, h.bn.2.1, h.bn.2.2.1, h.bn.2.2.2.1, hX.1, hX.2, h.bn.2.2.2.2.2.2⟩⟩, s⟩
theorem Rk.set8 (h : Rk w B R v x dead left na ns nc) (X : Int) (hX : 0 ≤ X ∧ X ≤ 9007199254740992) : Rk (w.setCell ⟨R, 8, none⟩ (.int .i64 X)) B R v x dead left na ns X ∧ RStep w (w.setCell ⟨R, 8, none⟩ (.int .i64 X)) R v v := by
  obtain ⟨a, b, c, f, s⟩ := h.setN (q := 8) (by decide) (.int .i64 X)
  exact ⟨⟨a, by rw [c 4 (by decide)]; exact h.c4, by rw [c 5 (by decide)]; exact h.c5, by rw [c 6 (by decide)]; exact h.c6, by rw [c 7 (by decide)]; exact h.c7, World.cell?_setCell_same _ _ _ h.c8, f, b, h.own, h.ap, h.len, h.hB, by simpa using h.hR, ⟨h.bn.1, h.bn.2.1, h.bn.2.2.1, h.bn.2.2.2.1, h.bn.2.2.2.2.1, h.bn.2.2.2.2.2.1, hX.1, hX.2⟩⟩, s⟩
/-- One of the four lists is another: its row has grown, or is a new one; its cell is written. -/
theorem Rk.put (h : Rk w B R v x dead left na ns nc) {q : Nat} (hq : q < 4) {y : Value} {zs : List Int} (o : Off (fun k => (v q).ownBlock = some k) w w') (hy : Row w' B y zs) (hb : ∀ g, y.ownBlock = some g → (v q).ownBlock = some g ∨ w.heap.size ≤ g) (hl : zs.length ≤ 16777216) :
    Rk (w'.setCell ⟨R, q, none⟩ y) B R (upd v q y) (upd x q zs) dead left na ns nc ∧ RStep w (w'.setCell ⟨R, q, none⟩ y) R v (upd v q y) := by
  have nR : (v q).ownBlock ≠ some R := h.own q hq
  have hc : ∀ p, w'.cell? ⟨R, p, none⟩ = w.cell? ⟨R, p, none⟩ := fun p => o.cell (p := ⟨R, p, none⟩) h.hR nR
  have ho : ∀ p, p ≠ q → (w'.setCell ⟨R, q, none⟩ y).cell? ⟨R, p, none⟩ = w.cell? ⟨R, p, none⟩ := fun p hp => (World.cell?_setCell_other _ _ _ _ (by simp only [ne_eq, Addr.mk.injEq, not_and]; intro _ e; omega)).trans (hc p)
  have yR : y.ownBlock ≠ some R := fun e => by
    rcases hb R e with e2 | e2
    · exact nR e2
    · have := h.hR; omega
  have hrow : ∀ p, p < 4 → p ≠ q → Row w' B (v p) (x p) := fun p hp hpq => (h.row p hp).off o (fun g e e2 => h.ap p q hp hq hpq g e e2)
  have hnew : ∀ p, p < 4 → p ≠ q → ∀ g, (v p).ownBlock = some g → y.ownBlock ≠ some g := fun p hp hpq g e e2 => by
    rcases hb g e2 with e3 | e3
    · exact h.ap p q hp hq hpq g e e3
    · have := ((h.row p hp).lt e).2; omega
  refine ⟨⟨fun p hp => ?_, by rw [ho 4 (by omega)]; exact h.c4, by rw [ho 5 (by omega)]; exact h.c5, by rw [ho 6 (by omega)]; exact h.c6, by rw [ho 7 (by omega)]; exact h.c7, by rw [ho 8 (by omega)]; exact h.c8, fun p => by rw [World.frozen?_setCell, o.frozen (p := ⟨R, p, none⟩) h.hR nR]; exact h.fr p, fun p hp => ?_, fun p hp => ?_, fun p r hp hr hpr g e e2 => ?_, fun p hp => by by_cases e : p = q <;> simp only [upd, e, if_true, if_false] <;> first | exact hl | exact h.len p hp, h.hB, by simp only [World.size_setCell]; exact Nat.lt_of_lt_of_le h.hR o.size, h.bn⟩, ⟨?_, fun k hk hf => ?_⟩⟩
  · by_cases e : p = q
    · subst e; rw [upd_same]; exact World.cell?_setCell_same _ _ _ (by rw [hc]; exact h.cell p hp)
    · rw [upd_ne _ _ e, ho p e]; exact h.cell p hp
  · by_cases e : p = q
    · subst e; rw [upd_same, upd_same]; exact hy.set yR
    · rw [upd_ne _ _ e, upd_ne _ _ e]; exact (hrow p hp e).set (h.own p hp)
  · by_cases e : p = q
    · subst e; rw [upd_same]; exact yR
    · rw [upd_ne _ _ e]; exact h.own p hp
  · by_cases ep : p = q
    · have er : r ≠ q := fun z => hpr (by omega)
      subst ep
      rw [upd_same] at e
      rw [upd_ne _ _ er] at e2
      exact hnew r hr er g e2 e
    · rw [upd_ne _ _ ep] at e
      by_cases er : r = q
      · subst er
        rw [upd_same] at e2
        exact hnew p hp ep g e e2
      · rw [upd_ne _ _ er] at e2
        exact h.ap p r hp hr hpr g e e2
  · exact Off.setCell (P := RFoot R v) (o.mono (fun k e => Or.inr ⟨q, hq, e⟩)) (p := ⟨R, q, none⟩) (Or.inl rfl) _
  · rcases hf with e | ⟨p, hp, e⟩
    · exact Or.inl e
    · by_cases ep : p = q
      · subst ep
        rw [upd_same] at e
        rcases hb k e with e2 | e2
        · exact Or.inr ⟨p, hp, e2⟩
        · omega
      · rw [upd_ne _ _ ep] at e
        exact Or.inr ⟨p, hp, e⟩
theorem Row.asByts0 {w : World} {B n c : Nat} {a : Option Addr} {xs : List Int} (h : Row w B (.slice a n c) xs) : Byts w a n xs := by
  rcases h.form with ⟨e, rfl⟩ | ⟨g, cap, e, _⟩
  · cases e; exact ⟨rfl, fun j hj => by omega⟩
  · cases e; exact h.bytes
end
/-- append, as a step of a region that draws. -/
theorem step_app {w0 w : World} {B : Nat} {ops : Array Oper} {o : Oper} {a : Act} {K : Act → World → Prop} {Q : Exit → Act → World → Prop} {E : Prop} {v : Value} {xs : List Int} {po : Option Addr} {m c : Nat} {bs : List Int} (hgd : o.guard = none) (s y : Operand)
    (ho : o.op = .call { callee := .builtin .append, args := #[s, y], argTypes := #[22, 22] }) (hs : a.eval s = v) (hx : a.eval y = .slice po m c)
    (hr : Row w0 B v xs) (hb : Byts w0 po m bs) (hpo : po = none → c = 0) (hl : xs.length + m ≤ 140737488355328) (hB : B ≤ w0.heap.size) (ha : Off (fun _ => False) w0 w)
    (h : ∀ a' n' c' w', Row w' B (.slice a' n' c') (xs ++ bs) → Off (fun k => v.ownBlock = some k) w0 w' → (∀ g, (Value.slice a' n' c').ownBlock = some g → v.ownBlock = some g ∨ w0.heap.size ≤ g) → K (a.put o.dst (.slice a' n' c')) w') :
    if Region.wanted o (yielded ops a.tmps) = true then Oper.wp Tryz.prog o a w K Q else E := by
  have hw : Region.wanted o (yielded ops a.tmps) = true := by simp [Region.wanted, hgd]
  obtain ⟨v', w', hrn, r1, g1, b1⟩ := run_append_bytes (hr.off ha (fun _ _ => id)) (hb.off ha (fun _ _ _ => id)) hpo hl (Nat.le_trans hB ha.size) o.type
  obtain ⟨a', c', rfl, _⟩ := r1.slice
  rw [if_pos hw]
  unfold Oper.wp execOp
  simp only [ho, resolve, invoke, builtin, Sem.run_bind, Sem.run_pure, Result.andThen_ok, List.map_toArray, List.map_cons, List.map_nil, hs, hx, hrn]
  refine h _ _ _ _ r1 ((ha.mono (fun _ p => p.elim)).trans (Off.of_grown g1)) (fun g e => ?_)
  rcases b1 with q | q
  · rw [q] at e; exact Or.inl e
  · rw [q, Option.some.injEq] at e; have := ha.size; exact Or.inr (by omega)
end Go.Proofs.YthnpckmgnompiaaGreatDoor
