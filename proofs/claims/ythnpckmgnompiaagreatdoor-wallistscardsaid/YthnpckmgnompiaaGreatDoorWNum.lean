import Derived.Test.YthnpckmgnompiaaGreatDoorDkRow
/-
  Worlds that are alike but for some blocks.
-/
namespace Go.Proofs.YthnpckmgnompiaaGreatDoor
open Go.RowKit

/-- All blocks but those of P are as they were. -/
structure Off (P : Nat → Prop) (w w' : World) : Prop where
  os : w'.os = w.os
  tape : w'.tape = w.tape
  output : w'.output = w.output
  size : w.heap.size ≤ w'.heap.size
  block : ∀ k, k < w.heap.size → ¬ P k → w'.heap[k]? = w.heap[k]?
theorem Off.refl (P : Nat → Prop) (w : World) : Off P w w := ⟨rfl, rfl, rfl, Nat.le_refl _, fun _ _ _ => rfl⟩
theorem Off.trans {P : Nat → Prop} {a b c : World} (h : Off P a b) (k : Off P b c) : Off P a c :=
  ⟨k.os.trans h.os, k.tape.trans h.tape, k.output.trans h.output, Nat.le_trans h.size k.size, fun i hi hp => (k.block i (Nat.lt_of_lt_of_le hi h.size) hp).trans (h.block i hi hp)⟩
theorem Off.mono {P Q : Nat → Prop} {a b : World} (h : Off P a b) (hq : ∀ k, P k → Q k) : Off Q a b := ⟨h.os, h.tape, h.output, h.size, fun i hi hp => h.block i hi fun g => hp (hq i g)⟩
theorem Off.drewN {P : Nat → Prop} {a b : World} (h : Off P a b) (n : Nat) : Off P a (b.drewN n) := h.trans ⟨rfl, rfl, rfl, Nat.le_refl _, fun _ _ _ => rfl⟩
theorem Off.drew {P : Nat → Prop} {a b : World} (h : Off P a b) : Off P a b.drew := h.trans ⟨rfl, rfl, rfl, Nat.le_refl _, fun _ _ _ => rfl⟩
theorem Off.alloc {P : Nat → Prop} {a b : World} (h : Off P a b) (o : Obj) : Off P a (b.alloc o) :=
  h.trans ⟨rfl, rfl, rfl, by simp, fun k hk _ => Below.heap_alloc b o k hk⟩
theorem Off.setCell {P : Nat → Prop} {a b : World} (h : Off P a b) {p : Addr} (hp : P p.block) (u : Value) : Off P a (b.setCell p u) :=
  h.trans ⟨rfl, rfl, rfl, by simp, fun k _ hk => Below.heap_setCell b p u k fun e => hk (e ▸ hp)⟩
theorem Off.of_below {P : Nat → Prop} {a b : World} (h : Below a.heap.size a b) : Off P a b := ⟨h.os, h.tape, h.output, h.size, fun k hk _ => h.block k hk⟩
theorem Off.below {P : Nat → Prop} {B : Nat} {a b : World} (h : Off P a b) (hB : B ≤ a.heap.size) (hP : ∀ k, P k → B ≤ k) : Below B a b :=
  ⟨h.os, h.tape, h.output, h.size, fun k hk => h.block k (Nat.lt_of_lt_of_le hk hB) fun g => absurd (hP k g) (by omega)⟩
theorem Off.cell {P : Nat → Prop} {a b : World} (h : Off P a b) {p : Addr} (hp : p.block < a.heap.size) (hn : ¬ P p.block) : b.cell? p = a.cell? p := World.cell?_of_block (w := a) (h.block p.block hp hn)
theorem Off.frozen {P : Nat → Prop} {a b : World} (h : Off P a b) {p : Addr} (hp : p.block < a.heap.size) (hn : ¬ P p.block) : b.frozen? p = a.frozen? p := World.frozen?_of_block (w := a) (h.block p.block hp hn)
theorem Off.setNew {P : Nat → Prop} {a b : World} (h : Off P a b) {p : Addr} (hp : a.heap.size ≤ p.block) (u : Value) : Off P a (b.setCell p u) :=
  ⟨h.os, h.tape, h.output, by simpa using h.size, fun k hk hn => (Below.heap_setCell b p u k (by omega)).trans (h.block k hk hn)⟩
theorem Off.of_grown {w w' : World} {row : Option Nat} (h : w.grownBy w' row) : Off (fun k => row = some k) w w' := ⟨h.os, h.tape, h.output, h.size, fun k hk hn => h.block k hk (fun e => hn e.symm)⟩
/-- Two steps: what the second may touch is old and touched by the first's leave, or new. -/
theorem Off.join {P Q : Nat → Prop} {a b c : World} (h : Off P a b) (k : Off Q b c) (hq : ∀ i, i < a.heap.size → Q i → P i) : Off P a c :=
  ⟨k.os.trans h.os, k.tape.trans h.tape, k.output.trans h.output, Nat.le_trans h.size k.size, fun i hi hn => (k.block i (Nat.lt_of_lt_of_le hi h.size) (fun g => hn (hq i hi g))).trans (h.block i hi hn)⟩
/-- One area: its bytes and how many are synced, at two cells of a block. -/
structure Ar (w : World) (B K o : Nat) (v : Value) (xs : List Int) (s : Int) : Prop where
  c0 : w.cell? ⟨K, o, none⟩ = some v
  c1 : w.cell? ⟨K, o + 1, none⟩ = some (.int .i64 s)
  f0 : w.frozen? ⟨K, o, none⟩ = false
  f1 : w.frozen? ⟨K, o + 1, none⟩ = false
  row : Row w B v xs
  sep : v.ownBlock ≠ some K
  len : xs.length ≤ 16777216
  syn : 0 ≤ s ∧ s ≤ xs.length
/-- What a call leaves of the rest. -/
structure ArStep (w w' : World) (K o : Nat) (v v' : Value) : Prop where
  off : Off (fun k => k = K ∨ v.ownBlock = some k) w w'
  cells : ∀ q, q ≠ o → q ≠ o + 1 → w'.cell? ⟨K, q, none⟩ = w.cell? ⟨K, q, none⟩
  fr : ∀ q, w'.frozen? ⟨K, q, none⟩ = w.frozen? ⟨K, q, none⟩
  blk : ∀ g, v'.ownBlock = some g → v.ownBlock = some g ∨ w.heap.size ≤ g
theorem ArStep.refl (w : World) (K o : Nat) (v : Value) : ArStep w w K o v v := ⟨Off.refl _ _, fun _ _ _ => rfl, fun _ => rfl, fun _ h => Or.inl h⟩
theorem ArStep.trans {a b c : World} {K o : Nat} {v v' v'' : Value} (h : ArStep a b K o v v') (k : ArStep b c K o v' v'') : ArStep a c K o v v'' :=
  ⟨h.off.join k.off (fun i hi g => by
      rcases g with g | g
      · exact Or.inl g
      · rcases h.blk i g with e | e
        · exact Or.inr e
        · omega),
    fun q h1 h2 => (k.cells q h1 h2).trans (h.cells q h1 h2), fun q => (k.fr q).trans (h.fr q),
    fun g hg => by
      rcases k.blk g hg with e | e
      · exact h.blk g e
      · exact Or.inr (Nat.le_trans h.off.size e)⟩
theorem Row.set {w : World} {B : Nat} {v : Value} {xs : List Int} (h : Row w B v xs) {p : Addr} {u : Value} (hp : v.ownBlock ≠ some p.block) : Row (w.setCell p u) B v xs :=
  h.keep fun g hg => ((Off.refl (fun k => k = p.block) w).setCell (p := p) rfl u).block g (h.lt hg).2 (fun e => hp (by rw [hg, e]))
/-- append, in the walk, by an equation of its run. -/
theorem wpList_append_run {P : Program} {w w' : World} {ops : Array Oper} {rest : List Oper} {o : Oper} {a : Act} {Q : Exit → Act → World → Prop} (hgd : o.guard = none) (s x : Operand) (t : TypeId) (v' : Value)
    (ho : o.op = .call { callee := .builtin .append, args := #[s, x], argTypes := #[t, t] }) (hr : (Builtin.append_ #[t, t] o.type #[a.eval s, a.eval x]).run P w = .ok v' w') (h : wpList P ops Q rest (a.put o.dst v') w') : wpList P ops Q (o :: rest) a w :=
  wpList_plain hgd fun _ hK => by
    unfold Oper.wp execOp
    simp only [ho, resolve, invoke, builtin, Sem.run_bind, Sem.run_pure, Result.andThen_ok, List.map_toArray, List.map_cons, List.map_nil, hr]
    exact hK _ _ h
end Go.Proofs.YthnpckmgnompiaaGreatDoor

/-
  The log's numbers: number (4 and 8 bytes), value.
-/
namespace Go.Proofs.YthnpckmgnompiaaGreatDoor
open Go.RowKit

theorem run_push {w : World} {B : Nat} {v : Value} {xs : List Int} (h : Row w B v xs) (hB : B ≤ w.heap.size) (hl : xs.length + 1 ≤ 140737488355328) (z : Int) :
    ∃ a n c w', (Builtin.append_ #[22, 22] 22 #[v, .slice (some ⟨w.heap.size, 0, none⟩) 1 1]).run Tryz.prog (w.alloc (.cells #[.int .u8 z] 5)) = .ok (.slice a n c) w' ∧ Row w' B (.slice a n c) (xs ++ [z]) ∧ Off (fun k => v.ownBlock = some k) w w' ∧ ((Value.slice a n c).ownBlock = v.ownBlock ∨ ∃ g, (Value.slice a n c).ownBlock = some g ∧ w.heap.size ≤ g) := by
  have hrow : Row (w.alloc (.cells #[.int .u8 z] 5)) B v xs := h.keep (fun g e => ((Below.refl w.heap.size w).alloc (Nat.le_refl _) (.cells #[.int .u8 z] 5)).block g (h.lt e).2)
  have hone : Byts (w.alloc (.cells #[.int .u8 z] 5)) (some ⟨w.heap.size, 0, none⟩) 1 [z] := by
    refine ⟨rfl, fun q hq => ⟨w.heap.size, 0, rfl, by simp, ?_⟩⟩
    obtain rfl : q = 0 := by omega
    simp
  obtain ⟨v', w', hr, r, g, o⟩ := run_append_bytes (c := 1) hrow hone (fun e => by cases e) hl (by simp; omega) 22
  rcases r.form with ⟨rfl, e⟩ | ⟨g', cap, rfl, _⟩
  · simp at e
  · refine ⟨_, _, _, w', hr, r, ((Off.refl _ w).alloc _).trans (Off.of_grown g), ?_⟩
    rcases o with o | o
    · exact Or.inl o
    · exact Or.inr ⟨_, o, by simp⟩
/-- What a call that lays bytes behind a row leaves. -/
def Laid (w w' : World) (B : Nat) (v v' : Value) (xs : List Int) : Prop := Row w' B v' xs ∧ Off (fun k => v.ownBlock = some k) w w' ∧ (v'.ownBlock = v.ownBlock ∨ ∃ g, v'.ownBlock = some g ∧ w.heap.size ≤ g)
theorem Laid.trans {w w' w'' : World} {B : Nat} {v v' v'' : Value} {xs ys : List Int} (h : Laid w w' B v v' xs) (g : Laid w' w'' B v' v'' ys) : Laid w w'' B v v'' ys := by
  refine ⟨g.1, h.2.1.join g.2.1 (fun i hi e => ?_), ?_⟩
  · rcases h.2.2 with o | ⟨k, o, hk⟩
    · rw [o] at e; exact e
    · rw [o] at e; simp at e; omega
  · rcases g.2.2 with o | ⟨k, o, hk⟩
    · rw [o]; exact h.2.2
    · exact Or.inr ⟨k, o, Nat.le_trans h.2.1.size hk⟩
def be4 (x : Int) : List Int := [x / 16777216 % 256, x / 65536 % 256, x / 256 % 256, x % 256]
set_option maxRecDepth 100000 in
set_option maxHeartbeats 2000000 in
theorem number4_any {a : Option Addr} {n c B : Nat} {xs : List Int} {x : Int} (w : World) (hR : Row w B (.slice a n c) xs) (hB : B ≤ w.heap.size) (hl : xs.length + 4 ≤ 140737488355328) (hx : 0 ≤ x ∧ x ≤ 18446744073709551615) : Calls Tryz.prog 82 #[.slice a n c, .int .u64 x, .int .i64 4] w fun e w' => ∃ a' n' c', e = .returned (.slice a' n' c') ∧ Laid w w' B (.slice a n c) (.slice a' n' c') (xs ++ be4 x) := by
  obtain ⟨hx0, hx1⟩ := hx
  obtain ⟨a0, n0, c0, w0, e0, r0, f0, o0⟩ := run_push hR hB (by simp; omega) (x / 16777216 % 256)
  have hB0 : B ≤ w0.heap.size := Nat.le_trans hB f0.size
  obtain ⟨a1, n1, c1, w1, e1, r1, f1, o1⟩ := run_push r0 hB0 (by simp; omega) (x / 65536 % 256)
  have hB1 : B ≤ w1.heap.size := Nat.le_trans hB0 f1.size
  obtain ⟨a2, n2, c2, w2, e2, r2, f2, o2⟩ := run_push r1 hB1 (by simp; omega) (x / 256 % 256)
  have hB2 : B ≤ w2.heap.size := Nat.le_trans hB1 f2.size
  obtain ⟨a3, n3, c3, w3, e3, r3, f3, o3⟩ := run_push r2 hB2 (by simp; omega) (x % 256)
  have hB3 : B ≤ w3.heap.size := Nat.le_trans hB2 f3.size
  have HF : Hid (Laid w w3 B (.slice a n c) (.slice a3 n3 c3) (xs ++ be4 x)) := by
    have h := (Laid.trans (Laid.trans (Laid.trans (show Laid w w0 B (.slice a n c) (.slice a0 n0 c0) _ from ⟨r0, f0, o0⟩) ⟨r1, f1, o1⟩) ⟨r2, f2, o2⟩) ⟨r3, f3, o3⟩)
    have e : ((((xs ++ [x / 16777216 % 256]) ++ [x / 65536 % 256]) ++ [x / 256 % 256]) ++ [x % 256]) = xs ++ be4 x := by simp only [List.append_assoc]; rfl
    rw [e] at h
    exact h
  clear hR r0 f0 o0 r1 f1 o1 r2 f2 o2 r3 f3 o3
  go_enter Tryz.func82, Tryz.ntmps82
  go_wp2_with fail
  refine wp_loop_rounds 5 ?_
  rw [rounds_succ]
  go_wp2_with (at_builtin; refine wpList_append_run rfl (.tmp 14) (.tmp 20) 22 _ rfl e0 ?_)
  rw [rounds_succ]
  go_wp2_with (at_builtin; refine wpList_append_run rfl (.tmp 14) (.tmp 20) 22 _ rfl e1 ?_)
  rw [rounds_succ]
  go_wp2_with (at_builtin; refine wpList_append_run rfl (.tmp 14) (.tmp 20) 22 _ rfl e2 ?_)
  rw [rounds_succ]
  go_wp2_with (at_builtin; refine wpList_append_run rfl (.tmp 14) (.tmp 20) 22 _ rfl e3 ?_)
  rw [rounds_succ]
  go_wp2_with fail
  go_ret
  exact ⟨_, _, _, rfl, HF.out⟩
def be8 (x : Int) : List Int := [x / 72057594037927936, x / 281474976710656 % 256, x / 1099511627776 % 256, x / 4294967296 % 256, x / 16777216 % 256, x / 65536 % 256, x / 256 % 256, x % 256]
set_option maxRecDepth 100000 in
set_option maxHeartbeats 2000000 in
theorem number8_any {a : Option Addr} {n c B : Nat} {xs : List Int} {x : Int} (w : World) (hR : Row w B (.slice a n c) xs) (hB : B ≤ w.heap.size) (hl : xs.length + 8 ≤ 140737488355328) (hx : 0 ≤ x ∧ x ≤ 18446744073709551615) : Calls Tryz.prog 82 #[.slice a n c, .int .u64 x, .int .i64 8] w fun e w' => ∃ a' n' c', e = .returned (.slice a' n' c') ∧ Laid w w' B (.slice a n c) (.slice a' n' c') (xs ++ be8 x) := by
  obtain ⟨hx0, hx1⟩ := hx
  obtain ⟨a0, n0, c0, w0, e0, r0, f0, o0⟩ := run_push hR hB (by simp; omega) (x / 72057594037927936)
  have hB0 : B ≤ w0.heap.size := Nat.le_trans hB f0.size
  obtain ⟨a1, n1, c1, w1, e1, r1, f1, o1⟩ := run_push r0 hB0 (by simp; omega) (x / 281474976710656 % 256)
  have hB1 : B ≤ w1.heap.size := Nat.le_trans hB0 f1.size
  obtain ⟨a2, n2, c2, w2, e2, r2, f2, o2⟩ := run_push r1 hB1 (by simp; omega) (x / 1099511627776 % 256)
  have hB2 : B ≤ w2.heap.size := Nat.le_trans hB1 f2.size
  obtain ⟨a3, n3, c3, w3, e3, r3, f3, o3⟩ := run_push r2 hB2 (by simp; omega) (x / 4294967296 % 256)
  have hB3 : B ≤ w3.heap.size := Nat.le_trans hB2 f3.size
  obtain ⟨a4, n4, c4, w4, e4, r4, f4, o4⟩ := run_push r3 hB3 (by simp; omega) (x / 16777216 % 256)
  have hB4 : B ≤ w4.heap.size := Nat.le_trans hB3 f4.size
  obtain ⟨a5, n5, c5, w5, e5, r5, f5, o5⟩ := run_push r4 hB4 (by simp; omega) (x / 65536 % 256)
  have hB5 : B ≤ w5.heap.size := Nat.le_trans hB4 f5.size
  obtain ⟨a6, n6, c6, w6, e6, r6, f6, o6⟩ := run_push r5 hB5 (by simp; omega) (x / 256 % 256)
  have hB6 : B ≤ w6.heap.size := Nat.le_trans hB5 f6.size
  obtain ⟨a7, n7, c7, w7, e7, r7, f7, o7⟩ := run_push r6 hB6 (by simp; omega) (x % 256)
  have hB7 : B ≤ w7.heap.size := Nat.le_trans hB6 f7.size
  have HF : Hid (Laid w w7 B (.slice a n c) (.slice a7 n7 c7) (xs ++ be8 x)) := by
    have h := (Laid.trans (Laid.trans (Laid.trans (Laid.trans (Laid.trans (Laid.trans (Laid.trans (show Laid w w0 B (.slice a n c) (.slice a0 n0 c0) _ from ⟨r0, f0, o0⟩) ⟨r1, f1, o1⟩) ⟨r2, f2, o2⟩) ⟨r3, f3, o3⟩) ⟨r4, f4, o4⟩) ⟨r5, f5, o5⟩) ⟨r6, f6, o6⟩) ⟨r7, f7, o7⟩)
    have e : ((((((((xs ++ [x / 72057594037927936]) ++ [x / 281474976710656 % 256]) ++ [x / 1099511627776 % 256]) ++ [x / 4294967296 % 256]) ++ [x / 16777216 % 256]) ++ [x / 65536 % 256]) ++ [x / 256 % 256]) ++ [x % 256]) = xs ++ be8 x := by simp only [List.append_assoc]; rfl
    rw [e] at h
    exact h
  clear hR r0 f0 o0 r1 f1 o1 r2 f2 o2 r3 f3 o3 r4 f4 o4 r5 f5 o5 r6 f6 o6 r7 f7 o7
  go_enter Tryz.func82, Tryz.ntmps82
  go_wp2_with fail
  refine wp_loop_rounds 9 ?_
  rw [rounds_succ]
  go_wp2_with (at_builtin; refine wpList_append_run rfl (.tmp 14) (.tmp 20) 22 _ rfl e0 ?_)
  rw [rounds_succ]
  go_wp2_with (at_builtin; refine wpList_append_run rfl (.tmp 14) (.tmp 20) 22 _ rfl e1 ?_)
  rw [rounds_succ]
  go_wp2_with (at_builtin; refine wpList_append_run rfl (.tmp 14) (.tmp 20) 22 _ rfl e2 ?_)
  rw [rounds_succ]
  go_wp2_with (at_builtin; refine wpList_append_run rfl (.tmp 14) (.tmp 20) 22 _ rfl e3 ?_)
  rw [rounds_succ]
  go_wp2_with (at_builtin; refine wpList_append_run rfl (.tmp 14) (.tmp 20) 22 _ rfl e4 ?_)
  rw [rounds_succ]
  go_wp2_with (at_builtin; refine wpList_append_run rfl (.tmp 14) (.tmp 20) 22 _ rfl e5 ?_)
  rw [rounds_succ]
  go_wp2_with (at_builtin; refine wpList_append_run rfl (.tmp 14) (.tmp 20) 22 _ rfl e6 ?_)
  rw [rounds_succ]
  go_wp2_with (at_builtin; refine wpList_append_run rfl (.tmp 14) (.tmp 20) 22 _ rfl e7 ?_)
  rw [rounds_succ]
  go_wp2_with fail
  go_ret
  exact ⟨_, _, _, rfl, HF.out⟩
end Go.Proofs.YthnpckmgnompiaaGreatDoor
