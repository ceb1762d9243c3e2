import Derived.Test.YtfkcnnjkflomkaaDoorProg
import Derived.WalkKit
import Derived.WalkSpells
import Derived.WalkLawsBesides
import Derived.Below
import Derived.BigQuiet
import Derived.Deep.QuietTactic
import Derived.Deep.RegionWith
import Derived.Stop.Asserts
import Derived.RowKitTokens
/-
  The disk's leaves: made, fault, check of a disk that nobody made; the law's 'refused'.
-/
namespace Go.Proofs.YtfkcnnjkflomkaaDoor
open Go.RowKit

theorem ret_bool {a b : Bool} (h : a = b) : Ending.returned (.bool a) = .returned (.bool b) := by rw [h]
theorem ret_int {k : IntKind} {a b : Int} (h : a = b) : Ending.returned (.int k a) = .returned (.int k b) := by rw [h]
theorem cell_lt {w : World} {a : Addr} {v : Value} (h : w.cell? a = some v) : a.block < w.heap.size := by
  rcases Nat.lt_or_ge a.block w.heap.size with g | g
  · exact g
  · simp [World.cell?, Array.getElem?_eq_none g] at h
theorem drew2 (w : World) (a b : Nat) : (w.drewN a).drewN b = w.drewN (a + b) := by simp
theorem below_drewN {B : Nat} {w w' : World} (h : Below B w w') (n : Nat) : Below B w (w'.drewN n) := h.trans ⟨rfl, rfl, rfl, Nat.le_refl _, fun _ _ => rfl⟩
theorem below_then {w a b : World} (h : Below w.heap.size w a) (g : Below a.heap.size a b) : Below w.heap.size w b :=
  h.trans (g.mono h.size)
/-- The cells of a fault of layer "disk". -/
def FaultAt (w : World) (b : Nat) (a code : Int) : Prop :=
  w.cell? ⟨b, 0, none⟩ = some (.string ⟨#[100, 105, 115, 107]⟩) ∧ w.cell? ⟨b, 1, none⟩ = some (.int .i64 a) ∧ w.cell? ⟨b, 2, none⟩ = some (.int .i64 code) ∧ w.cell? ⟨b, 3, none⟩ = some .nilIface
/-- A disk that nobody made. -/
def Un (w : World) (v : Value) : Prop := v = .pointer none ∨ ∃ K, v = .pointer (some ⟨K, 0, none⟩) ∧ w.cell? ⟨K, 4, none⟩ = some (.int .i64 0)

set_option maxHeartbeats 400000 in
theorem made_un {v : Value} (w : World) (h : Un w v) : Calls Tryd.prog 38 #[v] w fun e w' => e = .returned (.bool false) ∧ w' = w := by
  rcases h with rfl | ⟨K, rfl, h⟩
  · go_enter Tryd.func38, Tryd.ntmps38
    go_wp2
    go_ret
    exact ⟨rfl, rfl⟩
  · go_enter Tryd.func38, Tryd.ntmps38
    go_wp2
    go_ret
    exact ⟨rfl, rfl⟩

set_option maxHeartbeats 400000 in
theorem fault_any (a code : Int) (w : World) : Calls Tryd.prog 70 #[.int .i64 a, .int .i64 code] w fun e w' => e = .returned (.iface 98 (.pointer (some ⟨w.heap.size, 0, none⟩))) ∧ FaultAt w' w.heap.size a code ∧ Below w.heap.size w w' := by
  go_enter Tryd.func70, Tryd.ntmps70
  go_wp2
  go_ret
  exact ⟨rfl, ⟨by simp, by simp, by simp, by simp⟩, (Below.refl _ _).alloc (Nat.le_refl _) _⟩

set_option maxHeartbeats 400000 in
theorem check_un {v : Value} (x : Value) (w : World) (h : Un w v) : Calls Tryd.prog 64 #[v, x] w fun e w' => ∃ b, e = .returned (.iface 98 (.pointer (some ⟨b, 0, none⟩))) ∧ FaultAt w' b 0 3 ∧ Below w.heap.size w w' := by
  have H : Hid (Un w v) := h
  clear h
  go_enter Tryd.func64, Tryd.ntmps64
  go_wp2_with fail
  refine (made_un _ H.out).mono ?_
  rintro e w1 ⟨rfl, rfl⟩
  go_wp2_with fail
  refine (fault_any 0 3 _).mono ?_
  rintro e w2 ⟨rfl, f2, b2⟩
  have HF : Hid (FaultAt w2 w1.heap.size 0 3) := f2
  have HB : Hid (Below w1.heap.size w1 w2) := b2
  clear f2 b2
  go_wp2_with fail
  go_ret
  exact ⟨_, rfl, HF.out, HB.out⟩

theorem asFault (v : Value) (xT : TypeId) (w : World) : (Instr.typeAssert (.iface 98 v) xT 98 true).run Tryd.prog w = .ok (.tuple #[v, .bool true]) w := by
  simp [Instr.typeAssert, run_underlying Tryd.underlying98, go_sem, Result.andThen]
end Go.Proofs.YtfkcnnjkflomkaaDoor

/-
  What came in: byte strings, Ops, lists of Ops; how new memory leaves them.
-/
namespace Go.Proofs.YtfkcnnjkflomkaaDoor
open Go.RowKit

theorem FaultAt.below {w w' : World} {b : Nat} {a c : Int} (h : FaultAt w b a c) (hb : Below w.heap.size w w') : FaultAt w' b a c := by
  have hl : b < w.heap.size := cell_lt h.1
  have e : ∀ q, w'.cell? ⟨b, q, none⟩ = w.cell? ⟨b, q, none⟩ := fun q => hb.cell (p := ⟨b, q, none⟩) hl
  exact ⟨by rw [e]; exact h.1, by rw [e]; exact h.2.1, by rw [e]; exact h.2.2.1, by rw [e]; exact h.2.2.2⟩
theorem bcell {W w1 : World} (hb : Below W.heap.size W w1) : (∀ b o, b < W.heap.size → w1.cell? ⟨b, o, none⟩ = W.cell? ⟨b, o, none⟩) ∧ (∀ b o, b < W.heap.size → w1.frozen? ⟨b, o, none⟩ = W.frozen? ⟨b, o, none⟩) :=
  ⟨fun b o h => hb.cell (p := ⟨b, o, none⟩) h, fun b o h => hb.frozen (p := ⟨b, o, none⟩) h⟩
/-- The bytes that a byte string that came in holds. -/
structure Byts (w : World) (po : Option Addr) (n : Nat) (bs : List Int) : Prop where
  len : bs.length = n
  cell : ∀ j, j < n → ∃ b o, po = some ⟨b, o, none⟩ ∧ b < w.heap.size ∧ w.cell? ⟨b, o + j, none⟩ = some (.int .u8 (bs.getD j 0))
theorem Byts.below {w w' : World} {po : Option Addr} {n : Nat} {bs : List Int} (h : Byts w po n bs) (hb : Below w.heap.size w w') : Byts w' po n bs :=
  ⟨h.len, fun j hj => by
    obtain ⟨b, o, e, hl, hc⟩ := h.cell j hj
    exact ⟨b, o, e, Nat.lt_of_lt_of_le hl hb.size, by rw [hb.cell (p := ⟨b, o + j, none⟩) hl]; exact hc⟩⟩
/-- An Op, as its nine cells and its bytes tell it. -/
structure Opv where
  kd : Int
  ar : Int
  at_ : Int
  n : Int
  po : Option Addr
  pl : Nat
  pc : Nat
  t0 : Int
  t1 : Int
  t2 : Int
  t3 : Int
  bs : List Int
/-- An Op lies from that place on. -/
structure OpAt (w : World) (b o : Nat) (x : Opv) : Prop where
  lt : b < w.heap.size
  c0 : w.cell? ⟨b, o, none⟩ = some (.int .i64 x.kd)
  c1 : w.cell? ⟨b, o + 1, none⟩ = some (.int .i64 x.ar)
  c2 : w.cell? ⟨b, o + 2, none⟩ = some (.int .i64 x.at_)
  c3 : w.cell? ⟨b, o + 3, none⟩ = some (.int .i64 x.n)
  c4 : w.cell? ⟨b, o + 4, none⟩ = some (.slice x.po x.pl x.pc)
  c5 : w.cell? ⟨b, o + 5, none⟩ = some (.int .i64 x.t0)
  c6 : w.cell? ⟨b, o + 6, none⟩ = some (.int .i64 x.t1)
  c7 : w.cell? ⟨b, o + 7, none⟩ = some (.int .i64 x.t2)
  c8 : w.cell? ⟨b, o + 8, none⟩ = some (.int .i64 x.t3)
  p : Byts w x.po x.pl x.bs
theorem OpAt.below {w w' : World} {b o : Nat} {x : Opv} (h : OpAt w b o x) (hb : Below w.heap.size w w') : OpAt w' b o x := by
  have e : ∀ q, w'.cell? ⟨b, q, none⟩ = w.cell? ⟨b, q, none⟩ := fun q => hb.cell (p := ⟨b, q, none⟩) h.lt
  exact ⟨Nat.lt_of_lt_of_le h.lt hb.size, by rw [e]; exact h.c0, by rw [e]; exact h.c1, by rw [e]; exact h.c2, by rw [e]; exact h.c3, by rw [e]; exact h.c4, by rw [e]; exact h.c5, by rw [e]; exact h.c6, by rw [e]; exact h.c7, by rw [e]; exact h.c8, h.p.below hb⟩
/-- A list of Ops that came in. -/
def Ops (w : World) (ao : Option Addr) (xs : List Opv) : Prop := ∀ (k : Nat) (x : Opv), xs[k]? = some x → ∃ b off, ao = some ⟨b, off, none⟩ ∧ OpAt w b (off + k * 9) x
theorem Ops.below {w w' : World} {ao : Option Addr} {xs : List Opv} (h : Ops w ao xs) (hb : Below w.heap.size w w') : Ops w' ao xs := fun k x hx => by
  obtain ⟨b, off, e, ho⟩ := h k x hx
  exact ⟨b, off, e, ho.below hb⟩
end Go.Proofs.YtfkcnnjkflomkaaDoor

/-
  Every call of a disk that nobody made.
-/
namespace Go.Proofs.YtfkcnnjkflomkaaDoor
open Go.RowKit

set_option maxHeartbeats 400000 in
theorem Alive_un {v : Value} (w : World) (h : Un w v) : Calls Tryd.prog 19 #[v] w fun e w' => e = .returned (.bool false) ∧ w' = w := by
  have H : Hid (Un w v) := h
  clear h
  go_enter Tryd.func19, Tryd.ntmps19
  go_wp2_with fail
  refine (made_un _ H.out).mono ?_
  rintro e w1 ⟨rfl, rfl⟩
  go_wp2_with fail
  go_ret
  exact ⟨rfl, rfl⟩
set_option maxHeartbeats 400000 in
theorem Fuse_un {v : Value} (x : Value) (w : World) (h : Un w v) : Calls Tryd.prog 18 #[v, x] w fun e w' => e = .returned (.tuple #[]) ∧ w' = w := by
  have H : Hid (Un w v) := h
  clear h
  go_enter Tryd.func18, Tryd.ntmps18
  go_wp2_with fail
  refine (Alive_un _ H.out).mono ?_
  rintro e w1 ⟨rfl, rfl⟩
  go_wp2_with fail
  go_end0
  exact ⟨rfl, rfl⟩
theorem Un.alloc {w : World} {v : Value} (h : Un w v) (o : Obj) : Un (w.alloc o) v := by
  rcases h with rfl | ⟨K, rfl, h⟩
  · exact Or.inl rfl
  · exact Or.inr ⟨K, rfl, by rw [World.cell?_alloc_lt _ _ ⟨K, 4, none⟩ (cell_lt h)]; exact h⟩
theorem Un.below {w w' : World} {v : Value} (h : Un w v) (hb : Below w.heap.size w w') : Un w' v := by
  rcases h with rfl | ⟨K, rfl, h⟩
  · exact Or.inl rfl
  · exact Or.inr ⟨K, rfl, by rw [hb.cell (p := ⟨K, 4, none⟩) (cell_lt h)]; exact h⟩
set_option maxHeartbeats 400000 in
theorem Crash_un {v : Value} (x0 x1 x2 x3 : Value) (w : World) (h : Un w v) : Calls Tryd.prog 16 #[v, .agg #[x0, x1, x2, x3]] w fun e w' => e = .returned (.tuple #[]) ∧ Below w.heap.size w w' := by
  have H : Hid (Un (w.alloc (.cells #[x0, x1, x2, x3] 52)) v) := h.alloc _
  clear h
  go_enter Tryd.func16, Tryd.ntmps16
  go_wp2_with fail
  refine (made_un _ H.out).mono ?_
  rintro e w1 ⟨rfl, rfl⟩
  go_wp2_with fail
  exact bodyPost_ret (v := .tuple #[]) (by simp [results, Tryd.results16, go_sem]) rfl ⟨rfl, (Below.refl _ _).alloc (Nat.le_refl _) _⟩
set_option maxHeartbeats 400000 in
theorem Read_un {v : Value} (x : Value) (y : Value) (z : Value) (w : World) (h : Un w v) : Calls Tryd.prog 77 #[v, x, y, z] w fun e w' => ∃ b, e = .returned (.tuple #[.slice none 0 0, .iface 98 (.pointer (some ⟨b, 0, none⟩))]) ∧ FaultAt w' b 0 3 ∧ Below w.heap.size w w' := by
  have H : Hid (Un w v) := h
  clear h
  go_enter Tryd.func77, Tryd.ntmps77
  go_wp2_with fail
  refine (check_un _ _ H.out).mono ?_
  rintro e w1 ⟨b, rfl, f1, b1⟩
  have HF : Hid (FaultAt w1 b 0 3) := f1
  have HB : Hid (Below w.heap.size w w1) := b1
  clear f1 b1
  go_wp2_with fail
  go_ret2
  exact ⟨_, rfl, HF.out, HB.out⟩
set_option maxHeartbeats 400000 in
theorem Len_un {v : Value} (x : Value) (w : World) (h : Un w v) : Calls Tryd.prog 44 #[v, x] w fun e w' => ∃ b, e = .returned (.tuple #[.int .i64 0, .iface 98 (.pointer (some ⟨b, 0, none⟩))]) ∧ FaultAt w' b 0 3 ∧ Below w.heap.size w w' := by
  have H : Hid (Un w v) := h
  clear h
  go_enter Tryd.func44, Tryd.ntmps44
  go_wp2_with fail
  refine (check_un _ _ H.out).mono ?_
  rintro e w1 ⟨b, rfl, f1, b1⟩
  have HF : Hid (FaultAt w1 b 0 3) := f1
  have HB : Hid (Below w.heap.size w w1) := b1
  clear f1 b1
  go_wp2_with fail
  go_ret2
  exact ⟨_, rfl, HF.out, HB.out⟩
set_option maxHeartbeats 400000 in
theorem Synced_un {v : Value} (x : Value) (w : World) (h : Un w v) : Calls Tryd.prog 76 #[v, x] w fun e w' => ∃ b, e = .returned (.tuple #[.int .i64 0, .iface 98 (.pointer (some ⟨b, 0, none⟩))]) ∧ FaultAt w' b 0 3 ∧ Below w.heap.size w w' := by
  have H : Hid (Un w v) := h
  clear h
  go_enter Tryd.func76, Tryd.ntmps76
  go_wp2_with fail
  refine (check_un _ _ H.out).mono ?_
  rintro e w1 ⟨b, rfl, f1, b1⟩
  have HF : Hid (FaultAt w1 b 0 3) := f1
  have HB : Hid (Below w.heap.size w w1) := b1
  clear f1 b1
  go_wp2_with fail
  go_ret2
  exact ⟨_, rfl, HF.out, HB.out⟩
set_option maxHeartbeats 400000 in
theorem Append_un {v : Value} (x : Value) (y : Value) (w : World) (h : Un w v) : Calls Tryd.prog 49 #[v, x, y] w fun e w' => ∃ b, e = .returned (.iface 98 (.pointer (some ⟨b, 0, none⟩))) ∧ FaultAt w' b 0 3 ∧ Below w.heap.size w w' := by
  have H : Hid (Un w v) := h
  clear h
  go_enter Tryd.func49, Tryd.ntmps49
  go_wp2_with fail
  refine (check_un _ _ H.out).mono ?_
  rintro e w1 ⟨b, rfl, f1, b1⟩
  have HF : Hid (FaultAt w1 b 0 3) := f1
  have HB : Hid (Below w.heap.size w w1) := b1
  clear f1 b1
  go_wp2_with fail
  go_ret
  exact ⟨_, rfl, HF.out, HB.out⟩
set_option maxHeartbeats 400000 in
theorem Sync_un {v : Value} (x : Value) (w : World) (h : Un w v) : Calls Tryd.prog 52 #[v, x] w fun e w' => ∃ b, e = .returned (.iface 98 (.pointer (some ⟨b, 0, none⟩))) ∧ FaultAt w' b 0 3 ∧ Below w.heap.size w w' := by
  have H : Hid (Un w v) := h
  clear h
  go_enter Tryd.func52, Tryd.ntmps52
  go_wp2_with fail
  refine (check_un _ _ H.out).mono ?_
  rintro e w1 ⟨b, rfl, f1, b1⟩
  have HF : Hid (FaultAt w1 b 0 3) := f1
  have HB : Hid (Below w.heap.size w w1) := b1
  clear f1 b1
  go_wp2_with fail
  go_ret
  exact ⟨_, rfl, HF.out, HB.out⟩
set_option maxHeartbeats 400000 in
theorem Cut_un {v : Value} (x : Value) (y : Value) (w : World) (h : Un w v) : Calls Tryd.prog 66 #[v, x, y] w fun e w' => ∃ b, e = .returned (.iface 98 (.pointer (some ⟨b, 0, none⟩))) ∧ FaultAt w' b 0 3 ∧ Below w.heap.size w w' := by
  have H : Hid (Un w v) := h
  clear h
  go_enter Tryd.func66, Tryd.ntmps66
  go_wp2_with fail
  refine (check_un _ _ H.out).mono ?_
  rintro e w1 ⟨b, rfl, f1, b1⟩
  have HF : Hid (FaultAt w1 b 0 3) := f1
  have HB : Hid (Below w.heap.size w w1) := b1
  clear f1 b1
  go_wp2_with fail
  go_ret
  exact ⟨_, rfl, HF.out, HB.out⟩
end Go.Proofs.YtfkcnnjkflomkaaDoor
