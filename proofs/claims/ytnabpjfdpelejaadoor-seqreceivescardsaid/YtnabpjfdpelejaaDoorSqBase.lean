/-
  Memory: worlds that are alike but for some blocks; blocks of one's own; errors of layer "seq", the law's code.
-/
import Derived.Test.YtnabpjfdpelejaaDoorAs
namespace Go.Proofs.YtnabpjfdpelejaaDoor
open Go.RowKit

theorem ret_bool {a b : Bool} (h : a = b) : Ending.returned (.bool a) = .returned (.bool b) := by rw [h]
theorem ret_int {k : IntKind} {a b : Int} (h : a = b) : Ending.returned (.int k a) = .returned (.int k b) := by rw [h]
theorem below_then {w a b : World} (h : Below w.heap.size w a) (g : Below a.heap.size a b) : Below w.heap.size w b := h.trans (g.mono h.size)
theorem cell_lt {w : World} {a : Addr} {v : Value} (h : w.cell? a = some v) : a.block < w.heap.size := by
  rcases Nat.lt_or_ge a.block w.heap.size with g | g
  · exact g
  · simp [World.cell?, Array.getElem?_eq_none g] at h
/-- All blocks but those of P are as they were. -/
structure Off (P : Nat → Prop) (w w' : World) : Prop where
  os : w'.os = w.os
  tape : w'.tape = w.tape
  output : w'.output = w.output
  size : w.heap.size ≤ w'.heap.size
  block : ∀ k, k < w.heap.size → ¬ P k → w'.heap[k]? = w.heap[k]?
theorem Off.refl (P : Nat → Prop) (w : World) : Off P w w := ⟨rfl, rfl, rfl, Nat.le_refl _, fun _ _ _ => rfl⟩
theorem Off.trans {P : Nat → Prop} {a b c : World} (h : Off P a b) (k : Off P b c) : Off P a c :=
  ⟨k.os.trans h.os, k.tape.trans h.tape, k.output.trans h.output, Nat.le_trans h.size k.size, fun i hi hp => (k.block i (Nat.lt_of_lt_of_le hi h.size) hp).trans (h.block i hi hp)⟩
theorem Off.mono {P Q : Nat → Prop} {a b : World} (h : Off P a b) (hq : ∀ k, P k → Q k) : Off Q a b := ⟨h.os, h.tape, h.output, h.size, fun i hi hp => h.block i hi fun g => hp (hq i g)⟩
theorem Off.drewN {P : Nat → Prop} {a b : World} (h : Off P a b) (n : Nat) : Off P a (b.drewN n) := h.trans ⟨rfl, rfl, rfl, Nat.le_refl _, fun _ _ _ => rfl⟩
theorem Off.drew {P : Nat → Prop} {a b : World} (h : Off P a b) : Off P a b.drew := h.trans ⟨rfl, rfl, rfl, Nat.le_refl _, fun _ _ _ => rfl⟩
theorem Off.alloc {P : Nat → Prop} {a b : World} (h : Off P a b) (o : Obj) : Off P a (b.alloc o) :=
  h.trans ⟨rfl, rfl, rfl, by simp, fun k hk _ => Below.heap_alloc b o k hk⟩
theorem Off.setCell {P : Nat → Prop} {a b : World} (h : Off P a b) {p : Addr} (hp : P p.block) (u : Value) : Off P a (b.setCell p u) :=
  h.trans ⟨rfl, rfl, rfl, by simp, fun k _ hk => Below.heap_setCell b p u k fun e => hk (e ▸ hp)⟩
theorem Off.of_below {P : Nat → Prop} {a b : World} (h : Below a.heap.size a b) : Off P a b := ⟨h.os, h.tape, h.output, h.size, fun k hk _ => h.block k hk⟩
theorem Off.below {P : Nat → Prop} {B : Nat} {a b : World} (h : Off P a b) (hB : B ≤ a.heap.size) (hP : ∀ k, P k → B ≤ k) : Below B a b :=
  ⟨h.os, h.tape, h.output, h.size, fun k hk => h.block k (Nat.lt_of_lt_of_le hk hB) fun g => absurd (hP k g) (by omega)⟩
theorem Off.cell {P : Nat → Prop} {a b : World} (h : Off P a b) {p : Addr} (hp : p.block < a.heap.size) (hn : ¬ P p.block) : b.cell? p = a.cell? p := World.cell?_of_block (w := a) (h.block p.block hp hn)
theorem Off.frozen {P : Nat → Prop} {a b : World} (h : Off P a b) {p : Addr} (hp : p.block < a.heap.size) (hn : ¬ P p.block) : b.frozen? p = a.frozen? p := World.frozen?_of_block (w := a) (h.block p.block hp hn)
theorem Off.setNew {P : Nat → Prop} {a b : World} (h : Off P a b) {p : Addr} (hp : a.heap.size ≤ p.block) (u : Value) : Off P a (b.setCell p u) :=
  ⟨h.os, h.tape, h.output, by simpa using h.size, fun k hk hn => (Below.heap_setCell b p u k (by omega)).trans (h.block k hk hn)⟩
theorem Off.of_grown {w w' : World} {row : Option Nat} (h : w.grownBy w' row) : Off (fun k => row = some k) w w' := ⟨h.os, h.tape, h.output, h.size, fun k hk hn => h.block k hk (fun e => hn e.symm)⟩
/-- Two steps: what the second may touch is old and touched by the first's leave, or new. -/
theorem Off.join {P Q : Nat → Prop} {a b c : World} (h : Off P a b) (k : Off Q b c) (hq : ∀ i, i < a.heap.size → Q i → P i) : Off P a c :=
  ⟨k.os.trans h.os, k.tape.trans h.tape, k.output.trans h.output, Nat.le_trans h.size k.size, fun i hi hn => (k.block i (Nat.lt_of_lt_of_le hi h.size) (fun g => hn (hq i hi g))).trans (h.block i hi hn)⟩
/-- A block of one's own. -/
structure Box (w : World) (b : Nat) (cs : Array Value) : Prop where
  lt : b < w.heap.size
  cell : ∀ o, w.cell? ⟨b, o, none⟩ = cs[o]?
  free : ∀ o, w.frozen? ⟨b, o, none⟩ = false
theorem cell_new (w : World) (cs : Array Value) (t : TypeId) (j : Nat) : (w.alloc (.cells cs t)).cell? ⟨w.heap.size, j, none⟩ = cs[j]? := by
  have hb : (w.alloc (.cells cs t)).heap[w.heap.size]? = some (.cells cs t) := by show (w.heap.push _)[w.heap.size]? = _; simp
  unfold World.cell?
  rw [hb]
  rfl
theorem Box.new (w : World) (cs : Array Value) (t : TypeId) : Box (w.alloc (.cells cs t)) w.heap.size cs :=
  ⟨by simp, cell_new w cs t, fun o => by simp⟩
theorem Box.below {w w' : World} {b : Nat} {cs : Array Value} (h : Box w b cs) (hb : Below w.heap.size w w') : Box w' b cs :=
  ⟨Nat.lt_of_lt_of_le h.lt hb.size, fun o => by rw [hb.cell (p := ⟨b, o, none⟩) h.lt]; exact h.cell o, fun o => by rw [hb.frozen (p := ⟨b, o, none⟩) h.lt]; exact h.free o⟩
theorem Box.alloc {w : World} {b : Nat} {cs : Array Value} (h : Box w b cs) (x : Obj) : Box (w.alloc x) b cs := h.below ((Below.refl _ _).alloc (Nat.le_refl _) _)
theorem Box.off {P : Nat → Prop} {w w' : World} {b : Nat} {cs : Array Value} (h : Box w b cs) (ho : Off P w w') (hP : ¬ P b) : Box w' b cs :=
  ⟨Nat.lt_of_lt_of_le h.lt ho.size, fun o => by rw [ho.cell (p := ⟨b, o, none⟩) h.lt hP]; exact h.cell o, fun o => by rw [ho.frozen (p := ⟨b, o, none⟩) h.lt hP]; exact h.free o⟩
theorem Box.pPut {w : World} {b : Nat} {cs : Array Value} (h : Box w b cs) {j : Nat} (hj : j < cs.size) (v : Value) : Box (w.setCell ⟨b, j, none⟩ v) b (cs.set! j v) := by
  refine ⟨by have := h.lt; simpa [World.setCell] using this, fun o => ?_, fun o => (World.frozen?_setCell _ _ _ _).trans (h.free o)⟩
  by_cases ho : j = o
  · subst ho
    rw [World.cell?_setCell_same' _ _ _ (by rw [h.cell j]; simp [hj])]
    simp [hj]
  · rw [World.cell?_setCell_other _ _ _ _ (by simp), h.cell o, Array.set!_eq_setIfInBounds, Array.getElem?_setIfInBounds_ne (by omega)]
theorem Box.pOff {w : World} {b : Nat} {cs : Array Value} (h : Box w b cs) {p : Addr} (hp : p.block ≠ b) (v : Value) : Box (w.setCell p v) b cs := by
  refine ⟨by have := h.lt; simpa [World.setCell] using this, fun o => ?_, fun o => (World.frozen?_setCell _ _ _ _).trans (h.free o)⟩
  rw [World.cell?_setCell_other _ _ _ _ (fun e => hp (by rw [e])), h.cell o]
theorem Box.drew {w : World} {b : Nat} {cs : Array Value} (h : Box w b cs) : Box w.drew b cs := h.below (Below.drew (Below.refl _ _))
def ErrType (w : World) : Prop := w.cell? ⟨0, 0, none⟩ = some (.iface 115 (.agg #[.pointer (some ⟨1, 27, none⟩)]))
theorem errType_below {w w' : World} (h : ErrType w) (hb : Below w.heap.size w w') : ErrType w' := by
  unfold ErrType; rw [hb.cell (p := ⟨0, 0, none⟩) (cell_lt h)]; exact h
theorem errType_alloc {w : World} (h : ErrType w) (o : Obj) : ErrType (w.alloc o) := errType_below h ((Below.refl _ _).alloc (Nat.le_refl _) _)
theorem as_hit' (e : Addr) (B : Nat) (w : World) (hE : ErrType w) (hB : B < w.heap.size) (ht0 : w.cell? ⟨B, 0, none⟩ = some (.pointer none)) (hf0 : w.frozen? ⟨B, 0, none⟩ = false) :
    Calls Tryd.prog 33 #[.iface 73 (.pointer (some e)), .iface 75 (.pointer (some ⟨B, 0, none⟩))] w fun ev w' => ev = .returned (.bool true) ∧ w'.cell? ⟨B, 0, none⟩ = some (.pointer (some e)) ∧ Below B w w' := by
  refine (as_hit e ⟨B, 0, none⟩ (.pointer none) w hE ht0 hf0).mono ?_
  rintro ev w' ⟨rfl, rfl⟩
  refine ⟨rfl, ?_, ?_⟩
  · refine World.cell?_setCell_same _ _ _ (?_ : _ = some (.pointer none))
    rw [World.cell?_alloc_lt _ _ ⟨B, 0, none⟩ (by simp; omega), World.cell?_alloc_lt _ _ ⟨B, 0, none⟩ (by simp; omega), World.cell?_alloc_lt _ _ ⟨B, 0, none⟩ (by simp; omega), World.cell?_alloc_lt _ _ ⟨B, 0, none⟩ hB]; exact ht0
  · exact (((((Below.refl _ _).alloc (Nat.le_of_lt hB) _).alloc (by simp; omega) _).alloc (by simp; omega) _).alloc (by simp; omega) _).setCell (Nat.le_refl _) _
/-- The cells of a fault of layer "seq". -/
def SFault (w : World) (b : Nat) (code : Int) : Prop :=
  w.cell? ⟨b, 0, none⟩ = some (.string ⟨#[115, 101, 113]⟩) ∧ w.cell? ⟨b, 1, none⟩ = some (.int .i64 0) ∧ w.cell? ⟨b, 2, none⟩ = some (.int .i64 code) ∧ w.cell? ⟨b, 3, none⟩ = some .nilIface
theorem SFault.off {P : Nat → Prop} {w w' : World} {b : Nat} {c : Int} (h : SFault w b c) (ho : Off P w w') (hP : ¬ P b) : SFault w' b c := by
  have hl : b < w.heap.size := cell_lt h.1
  have hc : ∀ o, w'.cell? ⟨b, o, none⟩ = w.cell? ⟨b, o, none⟩ := fun o => ho.cell (p := ⟨b, o, none⟩) hl hP
  exact ⟨by rw [hc]; exact h.1, by rw [hc]; exact h.2.1, by rw [hc]; exact h.2.2.1, by rw [hc]; exact h.2.2.2⟩
/-- An error that is just that (none where the number is 0), in a block from N on. -/
def Ev (w : World) (N : Nat) (v : Value) (code : Int) : Prop := (v = .nilIface ∧ code = 0) ∨ (code ≠ 0 ∧ ∃ b, v = .iface 73 (.pointer (some ⟨b, 0, none⟩)) ∧ N ≤ b ∧ SFault w b code)
theorem Ev.off {P : Nat → Prop} {w w' : World} {N : Nat} {v : Value} {c : Int} (h : Ev w N v c) (ho : Off P w w') (hP : ∀ k, P k → k < N) : Ev w' N v c := by
  rcases h with h | ⟨h0, b, h1, h2, h3⟩
  · exact Or.inl h
  · exact Or.inr ⟨h0, b, h1, h2, h3.off ho (fun e => by have := hP b e; omega)⟩
theorem Ev.below {w w' : World} {N : Nat} {v : Value} {c : Int} (h : Ev w N v c) (hb : Below w.heap.size w w') : Ev w' N v c := h.off (P := fun _ => False) (Off.of_below hb) (fun _ e => e.elim)
theorem Ev.mono {w : World} {N M : Nat} {v : Value} {c : Int} (h : Ev w N v c) (hM : M ≤ N) : Ev w M v c := by
  rcases h with h | ⟨h0, b, h1, h2, h3⟩
  · exact Or.inl h
  · exact Or.inr ⟨h0, b, h1, Nat.le_trans hM h2, h3⟩
theorem Ev.new (w : World) (c : Int) (hc : c ≠ 0) : Ev (w.alloc (.cells #[.string ⟨#[115, 101, 113]⟩, .int .i64 0, .int .i64 c, .nilIface] 77)) w.heap.size (.iface 73 (.pointer (some ⟨w.heap.size, 0, none⟩))) c :=
  Or.inr ⟨hc, _, rfl, Nat.le_refl _, by simp [SFault]⟩
set_option maxHeartbeats 400000 in
theorem code_ok (w : World) : Calls Tryd.prog 11 #[.nilIface] w fun e w' => e = .returned (.int .i64 0) ∧ w' = w := by
  go_enter Tryd.func11, Tryd.ntmps11
  go_wp2
  go_ret
  exact ⟨rfl, rfl⟩
set_option maxHeartbeats 1000000 in
theorem code_fault {b : Nat} {code : Int} (w : World) (hE : ErrType w) (hF : SFault w b code) (hc : (code == 0) = false) : Calls Tryd.prog 11 #[.iface 73 (.pointer (some ⟨b, 0, none⟩))] w fun e w' => e = .returned (.int .i64 code) ∧ Below w.heap.size w w' := by
  obtain ⟨f0, f1, f2, f3⟩ := hF
  have hb : b < w.heap.size := cell_lt f0
  have HE : Hid (ErrType (w.alloc (.cells #[.pointer none] 73))) := errType_alloc hE _
  have HF : Hid (SFault w b code) := ⟨f0, f1, f2, f3⟩
  clear f0 f1 f2 f3 hE
  go_enter Tryd.func11, Tryd.ntmps11
  go_wp2_with fail
  refine (as_hit' _ _ _ (by exact HE.out) (by simp) (by simp) (by simp)).mono ?_
  rintro e w1 ⟨rfl, ht, hw⟩
  have hcell : ∀ o, w1.cell? ⟨b, o, none⟩ = w.cell? ⟨b, o, none⟩ := fun o => (hw.cell (p := ⟨b, o, none⟩) hb).trans (World.cell?_alloc_lt w _ ⟨b, o, none⟩ hb)
  have k0 : w1.cell? ⟨b, 0, none⟩ = some (.string ⟨#[115, 101, 113]⟩) := (hcell 0).trans HF.out.1
  have k1 : w1.cell? ⟨b, 1, none⟩ = some (.int .i64 0) := (hcell 1).trans HF.out.2.1
  have k2 : w1.cell? ⟨b, 2, none⟩ = some (.int .i64 code) := (hcell 2).trans HF.out.2.2.1
  have k3 : w1.cell? ⟨b, 3, none⟩ = some .nilIface := (hcell 3).trans HF.out.2.2.2
  have HB : Hid (Below w.heap.size w w1) := ((Below.refl _ _).alloc (Nat.le_refl _) _).trans hw
  clear hw hcell
  go_wp2_with fail
  go_ret
  exact ⟨rfl, HB.out⟩
theorem code_any {w : World} {N : Nat} {v : Value} {c : Int} (h : Ev w N v c) (hE : ErrType w) : Calls Tryd.prog 11 #[v] w fun e w' => e = .returned (.int .i64 c) ∧ Below w.heap.size w w' := by
  rcases h with ⟨rfl, rfl⟩ | ⟨h0, b, rfl, _, h3⟩
  · exact (code_ok w).mono fun e w' ⟨h, h'⟩ => ⟨h, h' ▸ Below.refl _ _⟩
  · exact code_fault w hE h3 (by simpa using h0)
set_option maxHeartbeats 400000 in
theorem num_any (c : Int) (w : World) : Calls Tryd.prog 38 #[.int .i64 c] w fun e w' => e = .returned (.int .i64 c) ∧ w' = w := by
  go_enter Tryd.func38, Tryd.ntmps38
  go_wp2
  go_ret
  exact ⟨rfl, rfl⟩
/-- Worlds that keep what lies in V. -/
def Sub (V : World) : Type := { x : World // Below V.heap.size V x }
theorem wp_region_class {P : Program} {V : World} {id : Nat} {Q : Exit → Act → World → Prop} {a : Act} {w : World} {l : List Oper} (hw : Below V.heap.size V w) (hm : P.follows .mixedOrders = true) (hB : Region.lexB .any l.toArray = true)
    (h : wpQuiet P l.toArray (fun w' => ∃ x : Sub V, w' = x.1) (fun a' => ∀ w', (∃ x : Sub V, w' = x.1) → Q .normal a' w') l a) : (Code.region id l.toArray true).wp P Q a w :=
  wp_region_quiet (C := fun w' => ∃ x : Sub V, w' = x.1) hm hB ⟨⟨_, Below.drew hw⟩, rfl⟩ (by simpa using h)
theorem sub_of {P : Program} {f : FuncId} {args : Array Value} {R : Ending} {V : World} (c : ∀ w, Calls P f args w fun r w' => r = R ∧ Below w.heap.size w w') (x : Sub V) : Calls P f args x.1 fun r x' => r = R ∧ ∃ y : Sub V, x' = y.1 :=
  (c x.1).mono fun _ x' ⟨h, hb⟩ => ⟨h, ⟨x', below_then x.2 hb⟩, rfl⟩
theorem sub_box {V : World} {b : Nat} {cs : Array Value} (h : Box V b cs) (x : Sub V) (o : Nat) : x.1.cell? ⟨b, o, none⟩ = cs[o]? := (h.below x.2).cell o
end Go.Proofs.YtnabpjfdpelejaaDoor
