import Derived.Test.YtoijhecphgdfnaaGreatDoorOxLaw0
import Derived.Test.YtoijhecphgdfnaaGreatDoorDcPa
import Derived.SizedLaws
import Derived.Test.YtoijhecphgdfnaaGreatDoorProg
import Derived.WalkKit
import Derived.WalkSpells
import Derived.WalkLawsBesides
import Derived.Below
import Derived.BigQuiet
import Derived.Deep.QuietTactic
import Derived.Deep.RegionWith
import Derived.Stop.Asserts
import Derived.RowKitTokens
import Derived.Maps.AppendAt
import Derived.Laws.OwnMore
import Derived.Deep.DeepAppendRoom
/-
  The calls of a box that nobody made.
-/
namespace Go.Proofs.YtoijhecphgdfnaaGreatDoor
open Go.RowKit

section
variable {w w' : World} {x : Value}
end
end Go.Proofs.YtoijhecphgdfnaaGreatDoor

/-
  The calls of a box that nobody made: underWay, Due, Heard, Get.
-/
namespace Go.Proofs.YtoijhecphgdfnaaGreatDoor
open Go.RowKit

section
variable {w w' : World} {x : Value}
end
end Go.Proofs.YtoijhecphgdfnaaGreatDoor

/-
  The law OutboxZero, walked.
-/
namespace Go.Proofs.YtoijhecphgdfnaaGreatDoor
open Go.RowKit

/-- An Op that came in: its eight cells. -/
structure Opv where
  kd : Int
  ct : ByteArray
  tp : Option Addr
  tn : Nat
  tc : Nat
  tx : List Int
  e : Bool
  a : Int
  p : Int
  cd : ByteArray
  n : Int
structure OpAt (w : World) (b o : Nat) (x : Opv) : Prop where
  lt : b < w.heap.size
  c0 : w.cell? ⟨b, o, none⟩ = some (.int .i64 x.kd)
  c1 : w.cell? ⟨b, o + 1, none⟩ = some (.string x.ct)
  c2 : w.cell? ⟨b, o + 2, none⟩ = some (.slice x.tp x.tn x.tc)
  c3 : w.cell? ⟨b, o + 3, none⟩ = some (.bool x.e)
  c4 : w.cell? ⟨b, o + 4, none⟩ = some (.int .i64 x.a)
  c5 : w.cell? ⟨b, o + 5, none⟩ = some (.int .i64 x.p)
  c6 : w.cell? ⟨b, o + 6, none⟩ = some (.string x.cd)
  c7 : w.cell? ⟨b, o + 7, none⟩ = some (.int .i64 x.n)
  p : Byts w x.tp x.tn x.tx
  q : x.tp = none → x.tc = 0
theorem OpAt.below {w w' : World} {b o : Nat} {x : Opv} (h : OpAt w b o x) (hb : Below w.heap.size w w') : OpAt w' b o x := by
  have e : ∀ q, w'.cell? ⟨b, q, none⟩ = w.cell? ⟨b, q, none⟩ := fun q => hb.cell (p := ⟨b, q, none⟩) h.lt
  exact ⟨Nat.lt_of_lt_of_le h.lt hb.size, by rw [e]; exact h.c0, by rw [e]; exact h.c1, by rw [e]; exact h.c2, by rw [e]; exact h.c3, by rw [e]; exact h.c4, by rw [e]; exact h.c5, by rw [e]; exact h.c6, by rw [e]; exact h.c7, h.p.below hb, h.q⟩
/-- Ops that came in, so many cells apart. -/
def Ops (k : Nat) (w : World) (ao : Option Addr) (xs : List Opv) : Prop := ∀ (j : Nat) (x : Opv), xs[j]? = some x → ∃ b off, ao = some ⟨b, off, none⟩ ∧ OpAt w b (off + j * k) x
theorem Ops.below {k : Nat} {w w' : World} {ao : Option Addr} {xs : List Opv} (h : Ops k w ao xs) (hb : Below w.heap.size w w') : Ops k w' ao xs := fun j x hx => by
  obtain ⟨b, off, e, ho⟩ := h j x hx
  exact ⟨b, off, e, ho.below hb⟩
/-- What stands below: the faults as they came, the box. -/
structure Zf (W w : World) (x : Value) (F : List Nat) : Prop where
  bel : Below W.heap.size W w
  un : Un w x
  fl : ∀ z ∈ F, OFault w z 0 3
theorem Zf.below {W w w' : World} {x : Value} {F : List Nat} (h : Zf W w x F) (hb : Below w.heap.size w w') : Zf W w' x F := ⟨below_then h.bel hb, h.un.below hb, fun z hz => (h.fl z hz).below hb⟩
theorem Zf.cons {W w : World} {x : Value} {F : List Nat} {z : Nat} (h : Zf W w x F) (hf : OFault w z 0 3) : Zf W w x (z :: F) := ⟨h.bel, h.un, fun y hy => by
  rcases List.mem_cons.1 hy with rfl | g
  · exact hf
  · exact h.fl y g⟩
theorem Zf.alloc {W w : World} {x : Value} {F : List Nat} (h : Zf W w x F) (o : Obj) : Zf W (w.alloc o) x F := h.below ((Below.refl _ _).alloc (Nat.le_refl _) _)
end Go.Proofs.YtoijhecphgdfnaaGreatDoor

/-
  Arguments opened: Ops, Picks.
-/
namespace Go.Proofs.YtoijhecphgdfnaaGreatDoor
open Go.ChangeShapes Go.WideShapes Go.ChangeAt Go.RowKit Go.Deep

theorem cellsU8 : Tryz.prog.cellsOf 5 = 1 := by kernel_rfl
theorem cellsBytes : Tryz.prog.cellsOf 43 = 1 := by kernel_rfl
theorem cellsOp : Tryz.prog.cellsOf 47 = 8 := by kernel_rfl
theorem bytesU8 : Tryz.prog.bytesOf 5 = 1 := by kernel_rfl
theorem weights_mem_all {H : Type} {P : Program} {e : TypeId} : ∀ {ds : List (DataW H)} {d : DataW H}, d ∈ ds → ∀ n ∈ d.weights P e, n ∈ DataW.weightsAll P e ds
  | d0 :: ds, d, hd, n, hn => by
    simp only [DataW.weightsAll, List.mem_append]
    rcases List.mem_cons.1 hd with rfl | h
    · exact Or.inl hn
    · exact Or.inr (weights_mem_all h n hn)
theorem six {α : Type} {l : List α} (h : l.length = 6) : ∃ c0 c1 c2 c3 c4 c5, l = [c0, c1, c2, c3, c4, c5] := by
  match l, h with
  | [c0, c1, c2, c3, c4, c5], _ => exact ⟨c0, c1, c2, c3, c4, c5, rfl⟩
theorem eight {α : Type} {l : List α} (h : l.length = 8) : ∃ c0 c1 c2 c3 c4 c5 c6 c7, l = [c0, c1, c2, c3, c4, c5, c6, c7] := by
  match l, h with
  | [c0, c1, c2, c3, c4, c5, c6, c7], _ => exact ⟨c0, c1, c2, c3, c4, c5, c6, c7, rfl⟩
theorem nine {α : Type} {l : List α} (h : l.length = 9) : ∃ c0 c1 c2 c3 c4 c5 c6 c7 c8, l = [c0, c1, c2, c3, c4, c5, c6, c7, c8] := by
  match l, h with
  | [c0, c1, c2, c3, c4, c5, c6, c7, c8], _ => exact ⟨c0, c1, c2, c3, c4, c5, c6, c7, c8, rfl⟩
section
variable {H : Type} {enc : TypeId × Value → H} {W : World} {base : Nat} {spare : Nat → Bool} {held : Bool}
theorem cells_at {a : Addr} {n : Nat} {cs : List Value} (h : W.cells? base a n = some cs) (hn : 0 < n) : ∃ b o, a = ⟨b, o, none⟩ ∧ ∀ j v, cs[j]? = some v → W.cell? ⟨b, o + j, none⟩ = some v := by
  obtain ⟨_, hlen, hc⟩ := World.cells?_some h
  obtain ⟨b, o, sp⟩ := a
  have h0 := hc 0 hn
  rw [List.getElem?_eq_getElem (by omega)] at h0
  have hs : sp = none := by simpa [Addr.add] using World.cell?_spot h0
  subst hs
  refine ⟨b, o, rfl, fun j v hv => ?_⟩
  have hj : j < n := by rw [← hlen]; exact (List.getElem?_eq_some_iff.1 hv).1
  have := hc j hj
  rw [Addr.add_lit] at this
  rw [this, hv]
theorem open_bytes {n : Nat} {cs : List Value} {x : DataW H × List MemPlace} (h : DataW.trod enc Tryz.prog W base spare held n 43 cs = some x) :
    ∃ po pl pc bs, cs = [.slice po pl pc] ∧ Byts W po pl bs ∧ (po = none → pc = 0) ∧ (pl = 0 ∨ ∃ el sp, x.1 = .slice el sp ∧ el.length = pl) := by
  rcases open_ints Tryz.underlying43 Tryz.underlying5 cellsU8 h with ⟨rfl, _⟩ | ⟨a, len, cap, zs, rfl, _, hl, hm, hz, hxx, hc, _⟩
  · exact ⟨none, 0, 0, [], rfl, ⟨rfl, fun j hj => (by omega)⟩, fun _ => rfl, Or.inl rfl⟩
  · have hzl : len ≤ zs.length := by rw [hz]; split <;> omega
    refine ⟨some a, len, cap, zs.take len, rfl, ⟨by simp; omega, fun j hj => ?_⟩, fun e => (by cases e), Or.inr ⟨_, _, by rw [hxx], by simp [lits]; omega⟩⟩
    · obtain ⟨b, o, sp⟩ := a
      have h0 := hc 0 (by omega)
      have hs : sp = none := by simpa [Addr.add] using World.cell?_spot h0
      subst hs
      have hj' := hc j (by omega)
      rw [Addr.add_lit] at hj'
      refine ⟨b, o, rfl, cell_lt hj', ?_⟩
      rw [hj']
      simp [List.getD_eq_getElem?_getD, hj]
end
end Go.Proofs.YtoijhecphgdfnaaGreatDoor

/-
  The disk's leaves: made, fault, check of a disk that nobody made; the law's 'refused'.
-/
namespace Go.Proofs.YtoijhecphgdfnaaGreatDoor.Bo
open Go.RowKit

theorem ret_bool {a b : Bool} (h : a = b) : Ending.returned (.bool a) = .returned (.bool b) := by rw [h]
theorem ret_int {k : IntKind} {a b : Int} (h : a = b) : Ending.returned (.int k a) = .returned (.int k b) := by rw [h]
theorem cell_lt {w : World} {a : Addr} {v : Value} (h : w.cell? a = some v) : a.block < w.heap.size := by
  rcases Nat.lt_or_ge a.block w.heap.size with g | g
  · exact g
  · simp [World.cell?, Array.getElem?_eq_none g] at h
theorem below_drewN {B : Nat} {w w' : World} (h : Below B w w') (n : Nat) : Below B w (w'.drewN n) := h.trans ⟨rfl, rfl, rfl, Nat.le_refl _, fun _ _ => rfl⟩
theorem below_then {w a b : World} (h : Below w.heap.size w a) (g : Below a.heap.size a b) : Below w.heap.size w b :=
  h.trans (g.mono h.size)
/-- The cells of a fault of layer "disk". -/
def FaultAt (w : World) (b : Nat) (a code : Int) : Prop :=
  w.cell? ⟨b, 0, none⟩ = some (.string ⟨#[100, 105, 115, 107]⟩) ∧ w.cell? ⟨b, 1, none⟩ = some (.int .i64 a) ∧ w.cell? ⟨b, 2, none⟩ = some (.int .i64 code) ∧ w.cell? ⟨b, 3, none⟩ = some .nilIface
/-- A disk that nobody made. -/
def Un (w : World) (v : Value) : Prop := v = .pointer none ∨ ∃ K, v = .pointer (some ⟨K, 0, none⟩) ∧ w.cell? ⟨K, 4, none⟩ = some (.int .i64 0)

theorem asFault (v : Value) (xT : TypeId) (w : World) : (Instr.typeAssert (.iface 122 v) xT 122 true).run Tryz.prog w = .ok (.tuple #[v, .bool true]) w := by
  simp [Instr.typeAssert, run_underlying Tryz.underlying122, go_sem, Result.andThen]
end Go.Proofs.YtoijhecphgdfnaaGreatDoor.Bo

/-
  What came in: byte strings, Ops, lists of Ops; how new memory leaves them.
-/
namespace Go.Proofs.YtoijhecphgdfnaaGreatDoor.Bo
open Go.RowKit

theorem FaultAt.below {w w' : World} {b : Nat} {a c : Int} (h : FaultAt w b a c) (hb : Below w.heap.size w w') : FaultAt w' b a c := by
  have hl : b < w.heap.size := cell_lt h.1
  have e : ∀ q, w'.cell? ⟨b, q, none⟩ = w.cell? ⟨b, q, none⟩ := fun q => hb.cell (p := ⟨b, q, none⟩) hl
  exact ⟨by rw [e]; exact h.1, by rw [e]; exact h.2.1, by rw [e]; exact h.2.2.1, by rw [e]; exact h.2.2.2⟩
/-- The bytes that a byte string that came in holds. -/
structure Byts (w : World) (po : Option Addr) (n : Nat) (bs : List Int) : Prop where
  len : bs.length = n
  cell : ∀ j, j < n → ∃ b o, po = some ⟨b, o, none⟩ ∧ b < w.heap.size ∧ w.cell? ⟨b, o + j, none⟩ = some (.int .u8 (bs.getD j 0))
theorem Byts.below {w w' : World} {po : Option Addr} {n : Nat} {bs : List Int} (h : Byts w po n bs) (hb : Below w.heap.size w w') : Byts w' po n bs :=
  ⟨h.len, fun j hj => by
    obtain ⟨b, o, e, hl, hc⟩ := h.cell j hj
    exact ⟨b, o, e, Nat.lt_of_lt_of_le hl hb.size, by rw [hb.cell (p := ⟨b, o + j, none⟩) hl]; exact hc⟩⟩
/-- An Op, as its nine cells and its bytes tell it. -/
structure Opv where
  kd : Int
  ar : Int
  at_ : Int
  n : Int
  po : Option Addr
  pl : Nat
  pc : Nat
  t0 : Int
  t1 : Int
  t2 : Int
  t3 : Int
  bs : List Int
/-- An Op lies from that place on. -/
structure OpAt (w : World) (b o : Nat) (x : Opv) : Prop where
  lt : b < w.heap.size
  c0 : w.cell? ⟨b, o, none⟩ = some (.int .i64 x.kd)
  c1 : w.cell? ⟨b, o + 1, none⟩ = some (.int .i64 x.ar)
  c2 : w.cell? ⟨b, o + 2, none⟩ = some (.int .i64 x.at_)
  c3 : w.cell? ⟨b, o + 3, none⟩ = some (.int .i64 x.n)
  c4 : w.cell? ⟨b, o + 4, none⟩ = some (.slice x.po x.pl x.pc)
  c5 : w.cell? ⟨b, o + 5, none⟩ = some (.int .i64 x.t0)
  c6 : w.cell? ⟨b, o + 6, none⟩ = some (.int .i64 x.t1)
  c7 : w.cell? ⟨b, o + 7, none⟩ = some (.int .i64 x.t2)
  c8 : w.cell? ⟨b, o + 8, none⟩ = some (.int .i64 x.t3)
  p : Byts w x.po x.pl x.bs
theorem OpAt.below {w w' : World} {b o : Nat} {x : Opv} (h : OpAt w b o x) (hb : Below w.heap.size w w') : OpAt w' b o x := by
  have e : ∀ q, w'.cell? ⟨b, q, none⟩ = w.cell? ⟨b, q, none⟩ := fun q => hb.cell (p := ⟨b, q, none⟩) h.lt
  exact ⟨Nat.lt_of_lt_of_le h.lt hb.size, by rw [e]; exact h.c0, by rw [e]; exact h.c1, by rw [e]; exact h.c2, by rw [e]; exact h.c3, by rw [e]; exact h.c4, by rw [e]; exact h.c5, by rw [e]; exact h.c6, by rw [e]; exact h.c7, by rw [e]; exact h.c8, h.p.below hb⟩
/-- A list of Ops that came in. -/
def Ops (w : World) (ao : Option Addr) (xs : List Opv) : Prop := ∀ (k : Nat) (x : Opv), xs[k]? = some x → ∃ b off, ao = some ⟨b, off, none⟩ ∧ OpAt w b (off + k * 9) x
theorem Ops.below {w w' : World} {ao : Option Addr} {xs : List Opv} (h : Ops w ao xs) (hb : Below w.heap.size w w') : Ops w' ao xs := fun k x hx => by
  obtain ⟨b, off, e, ho⟩ := h k x hx
  exact ⟨b, off, e, ho.below hb⟩
end Go.Proofs.YtoijhecphgdfnaaGreatDoor.Bo

/-
  Rows of bytes that the call itself made: append, cut, copy, clear, as equations of a run.
-/
namespace Go.Proofs.YtoijhecphgdfnaaGreatDoor.Bo
open Go.RowKit

theorem u8info : ∃ i, Tryz.prog.info? 5 = some i ∧ i.zero = some (.int .u8 0) ∧ i.size = 1 ∧ i.bytes = 1 := by
  have h : (Tryz.prog.info? 5).map (fun i => (i.zero, i.size, i.bytes)) = some (some (.int .u8 0), 1, 1) := by kernel_rfl
  obtain ⟨i, hi, e⟩ := Option.map_eq_some_iff.1 h
  simp only [Prod.mk.injEq] at e
  exact ⟨i, hi, e.1, e.2.1, e.2.2⟩
def u8s (xs : List Int) : List Value := xs.map (Value.int .u8)
theorem u8s_length (xs : List Int) : (u8s xs).length = xs.length := by simp [u8s]
theorem u8s_append (xs ys : List Int) : u8s (xs ++ ys) = u8s xs ++ u8s ys := by simp [u8s]
theorem u8s_take (xs : List Int) (n : Nat) : u8s (xs.take n) = (u8s xs).take n := by simp [u8s, List.map_take]
/-- A slice of bytes, of the call's own making (blocks from B on). -/
def Row (w : World) (B : Nat) (v : Value) (xs : List Int) : Prop := w.ownsRow B 5 1 v xs.length (u8s xs)
theorem Row.nil (w : World) (B : Nat) : Row w B (.slice none 0 0) [] := ⟨rfl, Or.inl ⟨rfl, rfl⟩⟩
theorem Row.form {w : World} {B : Nat} {v : Value} {xs : List Int} (h : Row w B v xs) : (v = .slice none 0 0 ∧ xs = []) ∨ ∃ g cap, v = .slice (some ⟨g, 0, none⟩) xs.length cap ∧ B ≤ g ∧ g < w.heap.size ∧ xs.length ≤ cap ∧ cap ≤ maxLen := by
  rcases h.2 with ⟨rfl, h0⟩ | ⟨g, cap, cur, rfl, hB, hg, hn, hm, _, _⟩
  · exact Or.inl ⟨rfl, List.eq_nil_of_length_eq_zero h0⟩
  · refine Or.inr ⟨g, cap, rfl, hB, ?_, hn, hm⟩
    rcases Nat.lt_or_ge g w.heap.size with g1 | g1
    · exact g1
    · rw [Array.getElem?_eq_none g1] at hg; cases hg
theorem Row.keep {w w' : World} {B : Nat} {v : Value} {xs : List Int} (h : Row w B v xs) (hk : ∀ g, v.ownBlock = some g → w'.heap[g]? = w.heap[g]?) : Row w' B v xs := by
  rcases h.2 with ⟨rfl, h0⟩ | ⟨g, cap, cur, rfl, hB, hg, rest⟩
  · exact ⟨h.1, Or.inl ⟨rfl, h0⟩⟩
  · exact ⟨h.1, Or.inr ⟨g, cap, cur, rfl, hB, by rw [hk g rfl]; exact hg, rest⟩⟩
theorem Row.lt {w : World} {B : Nat} {v : Value} {xs : List Int} (h : Row w B v xs) {g : Nat} (hg : v.ownBlock = some g) : B ≤ g ∧ g < w.heap.size := by
  rcases h.form with ⟨rfl, _⟩ | ⟨g', cap, rfl, hB, hl, _⟩
  · cases hg
  · simp only [Value.ownBlock, Option.some.injEq] at hg; subst hg; exact ⟨hB, hl⟩
theorem Row.cell {w : World} {B : Nat} {xs : List Int} {g cap n : Nat} (h : Row w B (.slice (some ⟨g, 0, none⟩) n cap) xs) : n = xs.length ∧ ∀ j, j < xs.length → w.cell? ⟨g, j, none⟩ = some (.int .u8 (xs.getD j 0)) := by
  rcases h.2 with ⟨h0, _⟩ | ⟨g', cap', cur, e, hB, hg, hn, hm, hc, ht⟩
  · cases h0
  · simp only [Value.slice.injEq, Option.some.injEq, Addr.mk.injEq, and_true] at e
    obtain ⟨rfl, rfl, rfl⟩ := e
    refine ⟨rfl, fun j hj => ?_⟩
    have e1 : (cur.toList.take (xs.length * 1))[j]? = (u8s xs)[j]? := by rw [ht]
    rw [List.getElem?_take, if_pos (by omega)] at e1
    have e2 : w.cell? ⟨g, j, none⟩ = cur[j]? := by simp [World.cell?, hg]
    rw [e2, ← Array.getElem?_toList, e1]
    simp [u8s, List.getD_eq_getElem?_getD, List.getElem?_eq_getElem hj]
end Go.Proofs.YtoijhecphgdfnaaGreatDoor.Bo

/-
  Worlds that are alike but for some blocks.
-/
namespace Go.Proofs.YtoijhecphgdfnaaGreatDoor.Bo
open Go.RowKit

/-- All blocks but those of P are as they were. -/
structure Off (P : Nat → Prop) (w w' : World) : Prop where
  os : w'.os = w.os
  tape : w'.tape = w.tape
  output : w'.output = w.output
  size : w.heap.size ≤ w'.heap.size
  block : ∀ k, k < w.heap.size → ¬ P k → w'.heap[k]? = w.heap[k]?
theorem Off.refl (P : Nat → Prop) (w : World) : Off P w w := ⟨rfl, rfl, rfl, Nat.le_refl _, fun _ _ _ => rfl⟩
theorem Off.trans {P : Nat → Prop} {a b c : World} (h : Off P a b) (k : Off P b c) : Off P a c :=
  ⟨k.os.trans h.os, k.tape.trans h.tape, k.output.trans h.output, Nat.le_trans h.size k.size, fun i hi hp => (k.block i (Nat.lt_of_lt_of_le hi h.size) hp).trans (h.block i hi hp)⟩
theorem Off.mono {P Q : Nat → Prop} {a b : World} (h : Off P a b) (hq : ∀ k, P k → Q k) : Off Q a b := ⟨h.os, h.tape, h.output, h.size, fun i hi hp => h.block i hi fun g => hp (hq i g)⟩
theorem Off.drewN {P : Nat → Prop} {a b : World} (h : Off P a b) (n : Nat) : Off P a (b.drewN n) := h.trans ⟨rfl, rfl, rfl, Nat.le_refl _, fun _ _ _ => rfl⟩
theorem Off.drew {P : Nat → Prop} {a b : World} (h : Off P a b) : Off P a b.drew := h.trans ⟨rfl, rfl, rfl, Nat.le_refl _, fun _ _ _ => rfl⟩
theorem Off.alloc {P : Nat → Prop} {a b : World} (h : Off P a b) (o : Obj) : Off P a (b.alloc o) :=
  h.trans ⟨rfl, rfl, rfl, by simp, fun k hk _ => Below.heap_alloc b o k hk⟩
theorem Off.setCell {P : Nat → Prop} {a b : World} (h : Off P a b) {p : Addr} (hp : P p.block) (u : Value) : Off P a (b.setCell p u) :=
  h.trans ⟨rfl, rfl, rfl, by simp, fun k _ hk => Below.heap_setCell b p u k fun e => hk (e ▸ hp)⟩
theorem Off.of_below {P : Nat → Prop} {a b : World} (h : Below a.heap.size a b) : Off P a b := ⟨h.os, h.tape, h.output, h.size, fun k hk _ => h.block k hk⟩
theorem Off.below {P : Nat → Prop} {B : Nat} {a b : World} (h : Off P a b) (hB : B ≤ a.heap.size) (hP : ∀ k, P k → B ≤ k) : Below B a b :=
  ⟨h.os, h.tape, h.output, h.size, fun k hk => h.block k (Nat.lt_of_lt_of_le hk hB) fun g => absurd (hP k g) (by omega)⟩
theorem Off.cell {P : Nat → Prop} {a b : World} (h : Off P a b) {p : Addr} (hp : p.block < a.heap.size) (hn : ¬ P p.block) : b.cell? p = a.cell? p := World.cell?_of_block (w := a) (h.block p.block hp hn)
theorem Off.frozen {P : Nat → Prop} {a b : World} (h : Off P a b) {p : Addr} (hp : p.block < a.heap.size) (hn : ¬ P p.block) : b.frozen? p = a.frozen? p := World.frozen?_of_block (w := a) (h.block p.block hp hn)
theorem Off.of_grown {w w' : World} {row : Option Nat} (h : w.grownBy w' row) : Off (fun k => row = some k) w w' := ⟨h.os, h.tape, h.output, h.size, fun k hk hn => h.block k hk (fun e => hn e.symm)⟩
/-- Two steps: what the second may touch is old and touched by the first's leave, or new. -/
theorem Off.join {P Q : Nat → Prop} {a b c : World} (h : Off P a b) (k : Off Q b c) (hq : ∀ i, i < a.heap.size → Q i → P i) : Off P a c :=
  ⟨k.os.trans h.os, k.tape.trans h.tape, k.output.trans h.output, Nat.le_trans h.size k.size, fun i hi hn => (k.block i (Nat.lt_of_lt_of_le hi h.size) (fun g => hn (hq i hi g))).trans (h.block i hi hn)⟩
/-- What a call leaves of the rest. -/
structure ArStep (w w' : World) (K o : Nat) (v v' : Value) : Prop where
  off : Off (fun k => k = K ∨ v.ownBlock = some k) w w'
  cells : ∀ q, q ≠ o → q ≠ o + 1 → w'.cell? ⟨K, q, none⟩ = w.cell? ⟨K, q, none⟩
  fr : ∀ q, w'.frozen? ⟨K, q, none⟩ = w.frozen? ⟨K, q, none⟩
  blk : ∀ g, v'.ownBlock = some g → v.ownBlock = some g ∨ w.heap.size ≤ g
theorem ArStep.refl (w : World) (K o : Nat) (v : Value) : ArStep w w K o v v := ⟨Off.refl _ _, fun _ _ _ => rfl, fun _ => rfl, fun _ h => Or.inl h⟩
theorem ArStep.trans {a b c : World} {K o : Nat} {v v' v'' : Value} (h : ArStep a b K o v v') (k : ArStep b c K o v' v'') : ArStep a c K o v v'' :=
  ⟨h.off.join k.off (fun i hi g => by
      rcases g with g | g
      · exact Or.inl g
      · rcases h.blk i g with e | e
        · exact Or.inr e
        · omega),
    fun q h1 h2 => (k.cells q h1 h2).trans (h.cells q h1 h2), fun q => (k.fr q).trans (h.fr q),
    fun g hg => by
      rcases k.blk g hg with e | e
      · exact h.blk g e
      · exact Or.inr (Nat.le_trans h.off.size e)⟩
theorem Row.set {w : World} {B : Nat} {v : Value} {xs : List Int} (h : Row w B v xs) {p : Addr} {u : Value} (hp : v.ownBlock ≠ some p.block) : Row (w.setCell p u) B v xs :=
  h.keep fun g hg => ((Off.refl (fun k => k = p.block) w).setCell (p := p) rfl u).block g (h.lt hg).2 (fun e => hp (by rw [hg, e]))
/-- append, in the walk, by an equation of its run. -/
theorem wpList_append_run {P : Program} {w w' : World} {ops : Array Oper} {rest : List Oper} {o : Oper} {a : Act} {Q : Exit → Act → World → Prop} (hgd : o.guard = none) (s x : Operand) (t : TypeId) (v' : Value)
    (ho : o.op = .call { callee := .builtin .append, args := #[s, x], argTypes := #[t, t] }) (hr : (Builtin.append_ #[t, t] o.type #[a.eval s, a.eval x]).run P w = .ok v' w') (h : wpList P ops Q rest (a.put o.dst v') w') : wpList P ops Q (o :: rest) a w :=
  wpList_plain hgd fun _ hK => by
    unfold Oper.wp execOp
    simp only [ho, resolve, invoke, builtin, Sem.run_bind, Sem.run_pure, Result.andThen_ok, List.map_toArray, List.map_cons, List.map_nil, hr]
    exact hK _ _ h
end Go.Proofs.YtoijhecphgdfnaaGreatDoor.Bo

/-
  append, told in full: in place (same block, same room), or in a new block (all old ones stand).
-/
namespace Go.Proofs.YtoijhecphgdfnaaGreatDoor.Bo
open Go.RowKit

/-- A slice of the call's own, whatever its elements (one cell each). -/
def VRow (w : World) (B : Nat) (e : TypeId) (v : Value) (xs : List Value) : Prop := w.ownsRow B e 1 v xs.length xs
/-- How an append leaves its row. -/
inductive Put (w w' : World) (v v' : Value) (n m : Nat) : Prop
  | same (g cap : Nat) (hv : v = .slice (some ⟨g, 0, none⟩) n cap) (hv' : v' = .slice (some ⟨g, 0, none⟩) (n + m) cap) (hg : w.grownBy w' (some g)) : Put w w' v v' n m
  | idle (hv : v' = v) (hm : m = 0) (hw : w' = w) : Put w w' v v' n m
  | fresh (cap : Nat) (hv' : v' = .slice (some ⟨w.heap.size, 0, none⟩) (n + m) cap) (hg : w.grownBy w' none) (hs : w.heap.size < w'.heap.size) : Put w w' v v' n m
theorem run_append_two {P : Program} (w : World) (base : Nat) (t ty e : TypeId) (i : TypeInfo) (z : Value) (bytes : Nat) (ht : P.underlying t = some (.slice e)) (hi : P.info? e = some i) (hz : i.zero = some z)
    (hsize : i.size = 1) (hby : i.bytes = bytes) (hzs : z.cells.size = 1)
    (v : Value) (xs : List Value) (hown : VRow w base e v xs)
    (a : Addr) (m c : Nat) (news : List Value) (hl : news.length = m) (hnews : ∀ j u, news[j]? = some u → w.cell? (a.add j) = some u) (h1 : ∀ u ∈ news, u.oneCell' = true)
    (h63 : xs.length + m ≤ maxLen) (hbytes : (xs.length + m) * bytes ≤ 140737488355328) (hbase : base ≤ w.heap.size) :
    ∃ v' w', (Builtin.append_ #[t, t] ty #[v, .slice (some a) m c]).run P w = .ok v' w' ∧ VRow w' base e v' (xs ++ news) ∧ Put w w' v v' xs.length m := by
  have hl1 : news.length = m * i.size := by rw [hsize]; omega
  subst hby
  have hsmall : xs.length + m ≤ 9223372036854775807 := by simp only [maxLen] at h63; omega
  have hlen : (xs ++ news).length = xs.length + m := by rw [List.length_append, hl]
  have grown : ∀ (old : Nat), old < xs.length + m →
      VRow (w.drew.alloc (.cells (xs.toArray ++ news.toArray ++ Builtin.zeroCells z.cells (grownCap w (xs.length + m) old e - (xs.length + m))) e)) base e
        (.slice (some ⟨w.heap.size, 0, none⟩) (xs.length + m) (grownCap w (xs.length + m) old e)) (xs ++ news) ∧
      w.grownBy (w.drew.alloc (.cells (xs.toArray ++ news.toArray ++ Builtin.zeroCells z.cells (grownCap w (xs.length + m) old e - (xs.length + m))) e)) none ∧ w.heap.size < (w.drew.alloc (.cells (xs.toArray ++ news.toArray ++ Builtin.zeroCells z.cells (grownCap w (xs.length + m) old e - (xs.length + m))) e)).heap.size := by
    intro old ho
    have hge := grownCap_ge w (xs.length + m) old e
    have hcm : grownCap w (xs.length + m) old e ≤ maxLen := grownCap_le_maxLen w (xs.length + m) old e h63
    refine ⟨⟨by omega, .inr ⟨w.heap.size, _, _, by rw [hlen], hbase, heap_alloc_new w.drew _, by omega, hcm, ?_, ?_⟩⟩, ⟨rfl, rfl, rfl, by simp, fun k hk _ => Below.heap_alloc w.drew _ k hk⟩, by simp⟩
    · simp only [Array.size_append, List.size_toArray, size_zeroCells, hzs, hl]
      omega
    · simp only [Array.toList_append, List.append_assoc, Nat.mul_one]
      rw [← List.append_assoc]
      exact List.take_left
  rcases hown.2 with ⟨rfl, h0⟩ | ⟨g, cap, cur, rfl, hbg, hg, hnc, hcm, hcs, htake⟩
  · have hx : xs = [] := List.eq_nil_of_length_eq_zero h0
    subst hx
    by_cases hm : m = 0
    · subst hm
      obtain rfl : news = [] := List.eq_nil_of_length_eq_zero hl
      refine ⟨.slice none 0 0, w, ?_, World.ownsRow_nil w base e 1, .idle rfl rfl rfl⟩
      simp [Builtin.append_, run_underlying ht, sizeOf, typeInfo, hi, Builtin.lenOf, Builtin.firstCells, loadCells, loadCellsFrom]
    · have hr := run_append_nil (P := P) w t ty e i z ht hi hz a m c news hl1 hnews (by omega) (by simp only [List.length_nil] at hsmall; omega) (by have hb := hbytes; simp only [List.length_nil, Nat.zero_add] at hb; omega)
      have hgr := grown 0 (by simp; omega)
      simp only [List.length_nil, Nat.zero_add, List.nil_append, Array.empty_append] at hgr ⊢
      exact ⟨_, _, hr, hgr.1, .fresh _ (by rw [Nat.zero_add]) hgr.2.1 hgr.2.2⟩
  · by_cases hroom : xs.length + m ≤ cap
    · obtain ⟨w', hr, h2, h3⟩ := run_append_own_spare (P := P) w base t ty e i 1 ht hi hsize g xs.length cap xs hown a m c news (by omega) hnews h1 hroom
      refine ⟨_, w', hr, ?_, .same g cap rfl rfl h3⟩
      unfold VRow
      rw [hlen]
      exact h2
    · have holds : ∀ j u, xs[j]? = some u → w.cell? ((⟨g, 0, none⟩ : Addr).add j) = some u := hown.cells (g := g) rfl
      have hr := run_append_grow (P := P) w t ty e i z ht hi hz ⟨g, 0, none⟩ xs.length cap xs (by rw [hsize]; omega) holds a m c news hl1 hnews (by omega) (by omega) (growslice_fits (by omega) hbytes)
      have hgr := grown cap (by omega)
      exact ⟨_, _, hr, hgr.1, .fresh _ rfl hgr.2.1 hgr.2.2⟩
end Go.Proofs.YtoijhecphgdfnaaGreatDoor.Bo

/-
  What 'DkMem' stands on, where no disk is.
-/
namespace Go.Proofs.YtoijhecphgdfnaaGreatDoor.Bo
open Go.RowKit
theorem Byts.off {P : Nat → Prop} {w w' : World} {po : Option Addr} {n : Nat} {bs : List Int} (h : Byts w po n bs) (ho : Off P w w') (hP : ∀ b o, po = some ⟨b, o, none⟩ → ¬ P b) : Byts w' po n bs :=
  ⟨h.len, fun j hj => by
    obtain ⟨b, o, hp, hb, hc⟩ := h.cell j hj
    exact ⟨b, o, hp, Nat.lt_of_lt_of_le hb ho.size, by rw [ho.cell (p := ⟨b, o + j, none⟩) hb (hP b o hp)]; exact hc⟩⟩
theorem Byts.drew {w : World} {po : Option Addr} {n : Nat} {bs : List Int} (h : Byts w po n bs) (k : Nat) : Byts (w.drewN k) po n bs := h.off (P := fun _ => False) ((Off.refl _ _).drewN _) (fun _ _ _ => id)
end Go.Proofs.YtoijhecphgdfnaaGreatDoor.Bo

/-
  The statements' looks at memory: Same.
-/
namespace Go.Proofs.YtoijhecphgdfnaaGreatDoor.Bo
open Go.RowKit

set_option maxRecDepth 100000 in
set_option maxHeartbeats 2000000 in
theorem same_true {w : World} {ao bo : Option Addr} {n ac bc : Nat} {xs : List Int} (ha : Byts w ao n xs) (hb : Byts w bo n xs) (hn : n ≤ 9223372036854775807) :
    Calls Tryz.prog 51 #[.slice ao n ac, .slice bo n bc] w fun e w' => e = .returned (.bool true) ∧ ∃ m, w' = w.drewN m := by
  have HA : Hid (Byts w ao n xs) := ha
  have HB : Hid (Byts w bo n xs) := hb
  clear ha hb
  go_enter Tryz.func51, Tryz.ntmps51
  go_wp2_with fail
  go_loopw [5] (fun ti wx => ∃ j m : Nat, j ≤ n ∧ ti = .int .i64 j ∧ wx = w.drewN m) (fun ti _ => n - (intOf ti).toNat)
  case atStart => exact ⟨0, 0, Nat.zero_le _, rfl, rfl⟩
  case round =>
    obtain ⟨j, m, hj, rfl, rfl⟩ := hrel
    by_cases hlt : j < n
    · obtain ⟨ab, aof, rfl, hal, hac⟩ := HA.out.cell j hlt
      obtain ⟨bb, bof, rfl, hbl, hbc⟩ := HB.out.cell j hlt
      have hlt1 : (j : Int) < n := by omega
      go_wp2_with fail
      go_quiet (fail)
      go_wp2_with fail
      go_roundw
      case rel => exact ⟨j + 1, _, hlt, by go_num, rfl⟩
      case measure => simp [intOf]; omega
    · have hlt1 : ¬ ((j : Int) < n) := by omega
      go_wp2_with fail
      go_ret
      exact ⟨rfl, _, rfl⟩
end Go.Proofs.YtoijhecphgdfnaaGreatDoor.Bo
