/-
  Worlds that are alike but for some blocks.
-/
import Derived.Test.YtlgjjemfckmidaaDkRow
namespace Go.Proofs.Ytlgjjemfckmidaa
open Go.RowKit

/-- All blocks but those of P are as they were. -/
structure Off (P : Nat → Prop) (w w' : World) : Prop where
  os : w'.os = w.os
  tape : w'.tape = w.tape
  output : w'.output = w.output
  size : w.heap.size ≤ w'.heap.size
  block : ∀ k, k < w.heap.size → ¬ P k → w'.heap[k]? = w.heap[k]?
theorem Off.refl (P : Nat → Prop) (w : World) : Off P w w := ⟨rfl, rfl, rfl, Nat.le_refl _, fun _ _ _ => rfl⟩
theorem Off.trans {P : Nat → Prop} {a b c : World} (h : Off P a b) (k : Off P b c) : Off P a c :=
  ⟨k.os.trans h.os, k.tape.trans h.tape, k.output.trans h.output, Nat.le_trans h.size k.size, fun i hi hp => (k.block i (Nat.lt_of_lt_of_le hi h.size) hp).trans (h.block i hi hp)⟩
theorem Off.mono {P Q : Nat → Prop} {a b : World} (h : Off P a b) (hq : ∀ k, P k → Q k) : Off Q a b := ⟨h.os, h.tape, h.output, h.size, fun i hi hp => h.block i hi fun g => hp (hq i g)⟩
theorem Off.drewN {P : Nat → Prop} {a b : World} (h : Off P a b) (n : Nat) : Off P a (b.drewN n) := h.trans ⟨rfl, rfl, rfl, Nat.le_refl _, fun _ _ _ => rfl⟩
theorem Off.drew {P : Nat → Prop} {a b : World} (h : Off P a b) : Off P a b.drew := h.trans ⟨rfl, rfl, rfl, Nat.le_refl _, fun _ _ _ => rfl⟩
theorem Off.alloc {P : Nat → Prop} {a b : World} (h : Off P a b) (o : Obj) : Off P a (b.alloc o) :=
  h.trans ⟨rfl, rfl, rfl, by simp, fun k hk _ => Below.heap_alloc b o k hk⟩
theorem Off.setCell {P : Nat → Prop} {a b : World} (h : Off P a b) {p : Addr} (hp : P p.block) (u : Value) : Off P a (b.setCell p u) :=
  h.trans ⟨rfl, rfl, rfl, by simp, fun k _ hk => Below.heap_setCell b p u k fun e => hk (e ▸ hp)⟩
theorem Off.of_below {P : Nat → Prop} {a b : World} (h : Below a.heap.size a b) : Off P a b := ⟨h.os, h.tape, h.output, h.size, fun k hk _ => h.block k hk⟩
theorem Off.below {P : Nat → Prop} {B : Nat} {a b : World} (h : Off P a b) (hB : B ≤ a.heap.size) (hP : ∀ k, P k → B ≤ k) : Below B a b :=
  ⟨h.os, h.tape, h.output, h.size, fun k hk => h.block k (Nat.lt_of_lt_of_le hk hB) fun g => absurd (hP k g) (by omega)⟩
theorem Off.cell {P : Nat → Prop} {a b : World} (h : Off P a b) {p : Addr} (hp : p.block < a.heap.size) (hn : ¬ P p.block) : b.cell? p = a.cell? p := World.cell?_of_block (w := a) (h.block p.block hp hn)
theorem Off.frozen {P : Nat → Prop} {a b : World} (h : Off P a b) {p : Addr} (hp : p.block < a.heap.size) (hn : ¬ P p.block) : b.frozen? p = a.frozen? p := World.frozen?_of_block (w := a) (h.block p.block hp hn)
theorem Off.setNew {P : Nat → Prop} {a b : World} (h : Off P a b) {p : Addr} (hp : a.heap.size ≤ p.block) (u : Value) : Off P a (b.setCell p u) :=
  ⟨h.os, h.tape, h.output, by simpa using h.size, fun k hk hn => (Below.heap_setCell b p u k (by omega)).trans (h.block k hk hn)⟩
theorem Off.of_grown {w w' : World} {row : Option Nat} (h : w.grownBy w' row) : Off (fun k => row = some k) w w' := ⟨h.os, h.tape, h.output, h.size, fun k hk hn => h.block k hk (fun e => hn e.symm)⟩
/-- Two steps: what the second may touch is old and touched by the first's leave, or new. -/
theorem Off.join {P Q : Nat → Prop} {a b c : World} (h : Off P a b) (k : Off Q b c) (hq : ∀ i, i < a.heap.size → Q i → P i) : Off P a c :=
  ⟨k.os.trans h.os, k.tape.trans h.tape, k.output.trans h.output, Nat.le_trans h.size k.size, fun i hi hn => (k.block i (Nat.lt_of_lt_of_le hi h.size) (fun g => hn (hq i hi g))).trans (h.block i hi hn)⟩
/-- One area: its bytes and how many are synced, at two cells of a block. -/
structure Ar (w : World) (B K o : Nat) (v : Value) (xs : List Int) (s : Int) : Prop where
  c0 : w.cell? ⟨K, o, none⟩ = some v
  c1 : w.cell? ⟨K, o + 1, none⟩ = some (.int .i64 s)
  f0 : w.frozen? ⟨K, o, none⟩ = false
  f1 : w.frozen? ⟨K, o + 1, none⟩ = false
  row : Row w B v xs
  sep : v.ownBlock ≠ some K
  len : xs.length ≤ 16777216
  syn : 0 ≤ s ∧ s ≤ xs.length
/-- What a call leaves of the rest. -/
structure ArStep (w w' : World) (K o : Nat) (v v' : Value) : Prop where
  off : Off (fun k => k = K ∨ v.ownBlock = some k) w w'
  cells : ∀ q, q ≠ o → q ≠ o + 1 → w'.cell? ⟨K, q, none⟩ = w.cell? ⟨K, q, none⟩
  fr : ∀ q, w'.frozen? ⟨K, q, none⟩ = w.frozen? ⟨K, q, none⟩
  blk : ∀ g, v'.ownBlock = some g → v.ownBlock = some g ∨ w.heap.size ≤ g
theorem ArStep.refl (w : World) (K o : Nat) (v : Value) : ArStep w w K o v v := ⟨Off.refl _ _, fun _ _ _ => rfl, fun _ => rfl, fun _ h => Or.inl h⟩
theorem ArStep.trans {a b c : World} {K o : Nat} {v v' v'' : Value} (h : ArStep a b K o v v') (k : ArStep b c K o v' v'') : ArStep a c K o v v'' :=
  ⟨h.off.join k.off (fun i hi g => by
      rcases g with g | g
      · exact Or.inl g
      · rcases h.blk i g with e | e
        · exact Or.inr e
        · omega),
    fun q h1 h2 => (k.cells q h1 h2).trans (h.cells q h1 h2), fun q => (k.fr q).trans (h.fr q),
    fun g hg => by
      rcases k.blk g hg with e | e
      · exact h.blk g e
      · exact Or.inr (Nat.le_trans h.off.size e)⟩
theorem Row.set {w : World} {B : Nat} {v : Value} {xs : List Int} (h : Row w B v xs) {p : Addr} {u : Value} (hp : v.ownBlock ≠ some p.block) : Row (w.setCell p u) B v xs :=
  h.keep fun g hg => ((Off.refl (fun k => k = p.block) w).setCell (p := p) rfl u).block g (h.lt hg).2 (fun e => hp (by rw [hg, e]))
/-- append, in the walk, by an equation of its run. -/
theorem wpList_append_run {P : Program} {w w' : World} {ops : Array Oper} {rest : List Oper} {o : Oper} {a : Act} {Q : Exit → Act → World → Prop} (hgd : o.guard = none) (s x : Operand) (t : TypeId) (v' : Value)
    (ho : o.op = .call { callee := .builtin .append, args := #[s, x], argTypes := #[t, t] }) (hr : (Builtin.append_ #[t, t] o.type #[a.eval s, a.eval x]).run P w = .ok v' w') (h : wpList P ops Q rest (a.put o.dst v') w') : wpList P ops Q (o :: rest) a w :=
  wpList_plain hgd fun _ hK => by
    unfold Oper.wp execOp
    simp only [ho, resolve, invoke, builtin, Sem.run_bind, Sem.run_pure, Result.andThen_ok, List.map_toArray, List.map_cons, List.map_nil, hr]
    exact hK _ _ h
end Go.Proofs.Ytlgjjemfckmidaa
