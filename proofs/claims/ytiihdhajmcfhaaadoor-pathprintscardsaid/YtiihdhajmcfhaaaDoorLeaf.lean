/-
  Path's base: places in memory, the bytes of a text, what a name is, what a right place is, numbers.
-/
import Derived.Test.YtiihdhajmcfhaaaDoorProg
import Derived.WalkKit
import Derived.WalkSpells
import Derived.WalkLawsBesides
import Derived.BigQuiet
import Derived.Deep.QuietTactic
import Derived.Deep.RegionWith
import Derived.RowKitTokens
import Derived.Below
import Derived.WideLaws
import Derived.LoopTactic
namespace Go.Proofs.YtiihdhajmcfhaaaDoor
open Go.RowKit

theorem ret_bool {a b : Bool} (h : a = b) : Ending.returned (.bool a) = .returned (.bool b) := by rw [h]
theorem ret_int {k : IntKind} {a b : Int} (h : a = b) : Ending.returned (.int k a) = .returned (.int k b) := by rw [h]
theorem cell_lt {w : World} {a : Addr} {v : Value} (h : w.cell? a = some v) : a.block < w.heap.size := by
  rcases Nat.lt_or_ge a.block w.heap.size with g | g
  · exact g
  · simp [World.cell?, Array.getElem?_eq_none g] at h
theorem drew2 (w : World) (a b : Nat) : (w.drewN a).drewN b = w.drewN (a + b) := by simp
theorem below_drewN {B : Nat} {w w' : World} (h : Below B w w') (n : Nat) : Below B w (w'.drewN n) := h.trans ⟨rfl, rfl, rfl, Nat.le_refl _, fun _ _ => rfl⟩
theorem below_then {w a b : World} (h : Below w.heap.size w a) (g : Below a.heap.size a b) : Below w.heap.size w b :=
  h.trans (g.mono h.size)
/-- All blocks but those of P are as they were. -/
structure Off (P : Nat → Prop) (w w' : World) : Prop where
  os : w'.os = w.os
  tape : w'.tape = w.tape
  output : w'.output = w.output
  size : w.heap.size ≤ w'.heap.size
  block : ∀ k, k < w.heap.size → ¬ P k → w'.heap[k]? = w.heap[k]?
theorem Off.refl (P : Nat → Prop) (w : World) : Off P w w := ⟨rfl, rfl, rfl, Nat.le_refl _, fun _ _ _ => rfl⟩
theorem Off.trans {P : Nat → Prop} {a b c : World} (h : Off P a b) (k : Off P b c) : Off P a c :=
  ⟨k.os.trans h.os, k.tape.trans h.tape, k.output.trans h.output, Nat.le_trans h.size k.size, fun i hi hp => (k.block i (Nat.lt_of_lt_of_le hi h.size) hp).trans (h.block i hi hp)⟩
theorem Off.mono {P Q : Nat → Prop} {a b : World} (h : Off P a b) (hq : ∀ k, P k → Q k) : Off Q a b := ⟨h.os, h.tape, h.output, h.size, fun i hi hp => h.block i hi fun g => hp (hq i g)⟩
theorem Off.drewN {P : Nat → Prop} {a b : World} (h : Off P a b) (n : Nat) : Off P a (b.drewN n) := h.trans ⟨rfl, rfl, rfl, Nat.le_refl _, fun _ _ _ => rfl⟩
theorem Off.alloc {P : Nat → Prop} {a b : World} (h : Off P a b) (o : Obj) : Off P a (b.alloc o) :=
  h.trans ⟨rfl, rfl, rfl, by simp, fun k hk _ => Below.heap_alloc b o k hk⟩
theorem Off.setCell {P : Nat → Prop} {a b : World} (h : Off P a b) {p : Addr} (hp : P p.block) (u : Value) : Off P a (b.setCell p u) :=
  h.trans ⟨rfl, rfl, rfl, by simp, fun k _ hk => Below.heap_setCell b p u k fun e => hk (e ▸ hp)⟩
theorem Off.of_below {P : Nat → Prop} {a b : World} (h : Below a.heap.size a b) : Off P a b := ⟨h.os, h.tape, h.output, h.size, fun k hk _ => h.block k hk⟩
theorem Off.below {P : Nat → Prop} {B : Nat} {a b : World} (h : Off P a b) (hB : B ≤ a.heap.size) (hP : ∀ k, P k → B ≤ k) : Below B a b :=
  ⟨h.os, h.tape, h.output, h.size, fun k hk => h.block k (Nat.lt_of_lt_of_le hk hB) fun g => absurd (hP k g) (by omega)⟩
theorem Off.cell {P : Nat → Prop} {a b : World} (h : Off P a b) {p : Addr} (hp : p.block < a.heap.size) (hn : ¬ P p.block) : b.cell? p = a.cell? p := World.cell?_of_block (w := a) (h.block p.block hp hn)
theorem Off.frozen {P : Nat → Prop} {a b : World} (h : Off P a b) {p : Addr} (hp : p.block < a.heap.size) (hn : ¬ P p.block) : b.frozen? p = a.frozen? p := World.frozen?_of_block (w := a) (h.block p.block hp hn)

/-! ### Of no program: bytes, names, right places, numbers -/
/-- The byte at a place, 0 behind the end. -/
def bt (s : ByteArray) (i : Nat) : Nat := (s.data.toList.getD i 0).toNat
theorem bt_in {s : ByteArray} {i : Nat} (h : i < s.size) : bt s i = (s[i]).toNat := by
  unfold bt; rw [List.getD_eq_getElem?_getD, List.getElem?_eq_getElem (by simpa using h)]; rfl
theorem bt_end {s : ByteArray} {i : Nat} (h : s.size ≤ i) : bt s i = 0 := by
  unfold bt; rw [List.getD_eq_getElem?_getD, List.getElem?_eq_none (by simpa using h)]; rfl
theorem bt_lt {s : ByteArray} {i : Nat} (h : bt s i ≠ 0) : i < s.size := by
  rcases Nat.lt_or_ge i s.size with g | g
  · exact g
  · exact absurd (bt_end g) h
theorem bt_bd (s : ByteArray) (i : Nat) : bt s i ≤ 255 := by
  have := (s.data.toList.getD i 0).toNat_lt; unfold bt; omega
def isL (c : Nat) : Bool := decide (65 ≤ c) && decide (c ≤ 90)
def isD (c : Nat) : Bool := decide (48 ≤ c) && decide (c ≤ 57)
def nmAt (s : ByteArray) (i : Nat) : Bool := isL (bt s i) || (decide (0 < i) && isD (bt s i))
theorem isD_iff {c : Nat} : isD c = true ↔ 48 ≤ c ∧ c ≤ 57 := by simp [isD]
theorem isL_iff {c : Nat} : isL c = true ↔ 65 ≤ c ∧ c ≤ 90 := by simp [isL]
theorem isD_lt {s : ByteArray} {i : Nat} (h : isD (bt s i) = true) : i < s.size := bt_lt (by have := (isD_iff.1 h).1; omega)
theorem nmAt_end {s : ByteArray} {i : Nat} (h : s.size ≤ i) : nmAt s i = false := by
  unfold nmAt; rw [bt_end h]; simp [isL, isD]
/-- How many first bytes can stand in a name, up to three. -/
def nmC (s : ByteArray) : Nat := if nmAt s 0 then (if nmAt s 1 then (if nmAt s 2 then 3 else 2) else 1) else 0
theorem nmC_is {s : ByteArray} {k : Nat} (hk : k ≤ 3) (h : ∀ j, j < k → nmAt s j = true) (g : k < 3 → nmAt s k = false) : nmC s = k := by
  unfold nmC
  rcases (by omega : k = 0 ∨ k = 1 ∨ k = 2 ∨ k = 3) with rfl | rfl | rfl | rfl
  · simp [g (by omega)]
  · simp [h 0 (by omega), g (by omega)]
  · simp [h 0 (by omega), h 1 (by omega), g (by omega)]
  · simp [h 0 (by omega), h 1 (by omega), h 2 (by omega)]
theorem nmC_le (s : ByteArray) : nmC s ≤ 3 := by unfold nmC; split <;> (try split) <;> (try split) <;> omega
theorem nmC_size (s : ByteArray) : nmC s ≤ s.size := by
  have h : ∀ i, nmAt s i = true → i < s.size := fun i hi => by
    rcases Nat.lt_or_ge i s.size with g | g
    · exact g
    · rw [nmAt_end g] at hi; cases hi
  unfold nmC
  split
  · split
    · split
      · exact h 2 ‹_›
      · exact h 1 ‹_›
    · exact h 0 ‹_›
  · omega
def isN (s : ByteArray) : Bool := decide (s.size = 3) && decide (nmC s = 3)
def MSHb : ByteArray := ⟨#[77, 83, 72]⟩
def inR (n m : Int) : Bool := decide (1 ≤ n) && decide (n ≤ m)
theorem inR_iff {n m : Int} : inR n m = true ↔ 1 ≤ n ∧ n ≤ m := by simp [inR]
/-- What a right place is. -/
def rgt (seg : ByteArray) (o f r c b : Int) : Bool :=
  !(decide (seg = MSHb) && !decide (o = 1)) && !(decide (seg = MSHb) && decide (f ≤ 2) && !(decide (r = 1) && decide (c = 1) && decide (b = 1))) &&
  (isN seg && inR o 128 && inR f (if seg = MSHb then 66 else 64) && inR r 32 && inR c 32 && inR b 16)

/-- The number that digits from a place on say, as the document's reader has it. -/
def rv (s : ByteArray) (a : Nat) : Nat → Nat
  | 0 => 0
  | k + 1 => if rv s a k < 1000 then 10 * rv s a k + (bt s (a + k) - 48) else rv s a k
def pv (s : ByteArray) (a k : Nat) : Nat := min (rv s a k) 1000
theorem pv_succ {s : ByteArray} {a k : Nat} : pv s a (k + 1) = min (10 * pv s a k + (bt s (a + k) - 48)) 1000 := by
  unfold pv; simp only [rv]; split <;> omega
theorem rv_bd (s : ByteArray) (a k : Nat) (h : ∀ j, j < k → isD (bt s (a + j)) = true) : rv s a k ≤ 9999 := by
  induction k with
  | zero => simp [rv]
  | succ k ih =>
    have h1 := ih (fun j hj => h j (by omega))
    have h2 := isD_iff.1 (h k (by omega))
    simp only [rv]; split <;> omega
def cntF (s : ByteArray) : Nat → Nat → Nat
  | _, 0 => 0
  | a, n + 1 => if isD (bt s a) then cntF s (a + 1) n + 1 else 0
/-- How many digits stand from a place on. -/
def cnt (s : ByteArray) (a : Nat) : Nat := cntF s a (s.size - a)
structure Run (s : ByteArray) (a k : Nat) : Prop where
  all : ∀ j, j < k → isD (bt s (a + j)) = true
  end_ : isD (bt s (a + k)) = false
theorem Run.one {s : ByteArray} {a k m : Nat} (h : Run s a k) (g : Run s a m) : k = m := by
  rcases Nat.lt_trichotomy k m with q | q | q
  · have := g.all k q; rw [h.end_] at this; cases this
  · exact q
  · have := h.all m q; rw [g.end_] at this; cases this
theorem cntF_run (s : ByteArray) : ∀ n a, s.size ≤ a + n → Run s a (cntF s a n)
  | 0, a, h => ⟨fun j hj => absurd hj (by simp [cntF]), by unfold cntF; rw [Nat.add_zero, bt_end (by omega)]; rfl⟩
  | n + 1, a, h => by
    unfold cntF
    by_cases g : isD (bt s a) = true
    · rw [if_pos g]
      have ih := cntF_run s n (a + 1) (by omega)
      refine ⟨fun j hj => ?_, by have := ih.end_; rw [show a + (cntF s (a + 1) n + 1) = a + 1 + cntF s (a + 1) n by omega]; exact this⟩
      cases j with
      | zero => exact g
      | succ j => have := ih.all j (by omega); rw [show a + (j + 1) = a + 1 + j by omega]; exact this
    · rw [if_neg g]
      exact ⟨fun j hj => absurd hj (by omega), by simpa using g⟩
theorem cnt_run (s : ByteArray) (a : Nat) : Run s a (cnt s a) := cntF_run s _ a (by omega)
theorem run_le {s : ByteArray} {a k : Nat} (ha : a ≤ s.size) (h : ∀ j, j < k → isD (bt s (a + j)) = true) : a + k ≤ s.size := by
  cases k with
  | zero => exact ha
  | succ k => have := isD_lt (h k (by omega)); omega
/-- A number may begin here. -/
def okN (s : ByteArray) (a : Nat) : Bool := isD (bt s a) && !decide (bt s a = 48)

/-! ### A place's text, read -/
structure St where
  a : Nat
  o : Int
  f : Int
  r : Int
  c : Int
  b : Int
def St.rgt (x : St) (seg : ByteArray) : Bool := Proofs.YtiihdhajmcfhaaaDoor.rgt seg x.o x.f x.r x.c x.b
/-- A number read into a part. -/
def numS (s seg : ByteArray) (put : St → Int → St) (x : St) : Except Nat St :=
  if okN s x.a then (if (put { x with a := x.a + cnt s x.a } (pv s x.a (cnt s x.a))).rgt seg then .ok (put { x with a := x.a + cnt s x.a } (pv s x.a (cnt s x.a))) else .error x.a) else .error x.a
/-- A byte that must stand here. -/
def mustS (s : ByteArray) (ch : Nat) (x : St) : Except Nat St := if bt s x.a = ch then .ok { x with a := x.a + 1 } else .error x.a
def bind2 (x : Except Nat St) (f : St → Except Nat St) : Except Nat St := match x with | .ok y => f y | .error p => .error p
def brS (s seg : ByteArray) (put : St → Int → St) (x : St) : Except Nat St :=
  if bt s x.a = 91 then bind2 (numS s seg put { x with a := x.a + 1 }) (mustS s 93) else .ok x
def dotS (s seg : ByteArray) (put : St → Int → St) (x : St) : Except Nat St :=
  if bt s x.a = 46 then numS s seg put { x with a := x.a + 1 } else .ok x
def fldS (s seg : ByteArray) (put : St → Int → St) (x : St) : Except Nat St := bind2 (mustS s 45 x) (numS s seg put)
def endS (s : ByteArray) (x : St) : Except Nat St := if x.a = s.size then .ok x else .error x.a
def putO (x : St) (n : Int) : St := { x with o := n }
def putF (x : St) (n : Int) : St := { x with f := n }
def putR (x : St) (n : Int) : St := { x with r := n }
def putC (x : St) (n : Int) : St := { x with c := n }
def putB (x : St) (n : Int) : St := { x with b := n }
end Go.Proofs.YtiihdhajmcfhaaaDoor
