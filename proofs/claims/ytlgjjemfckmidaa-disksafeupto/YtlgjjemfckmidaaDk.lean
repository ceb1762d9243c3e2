/-
  The disk's leaves: made, fault, check of a disk that nobody made; the law's 'refused'.
-/
import Derived.Test.YtlgjjemfckmidaaProg
import Derived.WalkKit
import Derived.WalkSpells
import Derived.WalkLawsBesides
import Derived.Below
import Derived.BigQuiet
import Derived.Deep.QuietTactic
import Derived.Deep.RegionWith
import Derived.Stop.Asserts
import Derived.RowKitTokens
namespace Go.Proofs.Ytlgjjemfckmidaa
open Go.RowKit

theorem ret_bool {a b : Bool} (h : a = b) : Ending.returned (.bool a) = .returned (.bool b) := by rw [h]
theorem ret_int {k : IntKind} {a b : Int} (h : a = b) : Ending.returned (.int k a) = .returned (.int k b) := by rw [h]
theorem cell_lt {w : World} {a : Addr} {v : Value} (h : w.cell? a = some v) : a.block < w.heap.size := by
  rcases Nat.lt_or_ge a.block w.heap.size with g | g
  · exact g
  · simp [World.cell?, Array.getElem?_eq_none g] at h
theorem drew2 (w : World) (a b : Nat) : (w.drewN a).drewN b = w.drewN (a + b) := by simp
theorem below_drewN {B : Nat} {w w' : World} (h : Below B w w') (n : Nat) : Below B w (w'.drewN n) := h.trans ⟨rfl, rfl, rfl, Nat.le_refl _, fun _ _ => rfl⟩
theorem below_then {w a b : World} (h : Below w.heap.size w a) (g : Below a.heap.size a b) : Below w.heap.size w b :=
  h.trans (g.mono h.size)
/-- The cells of a fault of layer "disk". -/
def FaultAt (w : World) (b : Nat) (a code : Int) : Prop :=
  w.cell? ⟨b, 0, none⟩ = some (.string ⟨#[100, 105, 115, 107]⟩) ∧ w.cell? ⟨b, 1, none⟩ = some (.int .i64 a) ∧ w.cell? ⟨b, 2, none⟩ = some (.int .i64 code) ∧ w.cell? ⟨b, 3, none⟩ = some .nilIface
/-- A disk that nobody made. -/
def Un (w : World) (v : Value) : Prop := v = .pointer none ∨ ∃ K, v = .pointer (some ⟨K, 0, none⟩) ∧ w.cell? ⟨K, 4, none⟩ = some (.int .i64 0)

set_option maxHeartbeats 400000 in
theorem made_un {v : Value} (w : World) (h : Un w v) : Calls Try.prog 27 #[v] w fun e w' => e = .returned (.bool false) ∧ w' = w := by
  rcases h with rfl | ⟨K, rfl, h⟩
  · go_enter Try.func27, Try.ntmps27
    go_wp2
    go_ret
    exact ⟨rfl, rfl⟩
  · go_enter Try.func27, Try.ntmps27
    go_wp2
    go_ret
    exact ⟨rfl, rfl⟩

set_option maxHeartbeats 400000 in
theorem fault_any (a code : Int) (w : World) : Calls Try.prog 57 #[.int .i64 a, .int .i64 code] w fun e w' => e = .returned (.iface 113 (.pointer (some ⟨w.heap.size, 0, none⟩))) ∧ FaultAt w' w.heap.size a code ∧ Below w.heap.size w w' := by
  go_enter Try.func57, Try.ntmps57
  go_wp2
  go_ret
  exact ⟨rfl, ⟨by simp, by simp, by simp, by simp⟩, (Below.refl _ _).alloc (Nat.le_refl _) _⟩

set_option maxHeartbeats 400000 in
theorem check_un {v : Value} (x : Value) (w : World) (h : Un w v) : Calls Try.prog 29 #[v, x] w fun e w' => ∃ b, e = .returned (.iface 113 (.pointer (some ⟨b, 0, none⟩))) ∧ FaultAt w' b 0 3 ∧ Below w.heap.size w w' := by
  have H : Hid (Un w v) := h
  clear h
  go_enter Try.func29, Try.ntmps29
  go_wp2_with fail
  refine (made_un _ H.out).mono ?_
  rintro e w1 ⟨rfl, rfl⟩
  go_wp2_with fail
  refine (fault_any 0 3 _).mono ?_
  rintro e w2 ⟨rfl, f2, b2⟩
  have HF : Hid (FaultAt w2 w1.heap.size 0 3) := f2
  have HB : Hid (Below w1.heap.size w1 w2) := b2
  clear f2 b2
  go_wp2_with fail
  go_ret
  exact ⟨_, rfl, HF.out, HB.out⟩

theorem asFault (v : Value) (xT : TypeId) (w : World) : (Instr.typeAssert (.iface 113 v) xT 113 true).run Try.prog w = .ok (.tuple #[v, .bool true]) w := by
  simp [Instr.typeAssert, run_underlying Try.underlying113, go_sem, Result.andThen]
set_option maxRecDepth 100000 in
set_option maxHeartbeats 1000000 in
theorem refused_zero {b : Nat} {a code : Int} (w : World) (hc : (code == 0) = false) (h : FaultAt w b a code) : Calls Try.prog 33 #[.iface 113 (.pointer (some ⟨b, 0, none⟩)), .int .i64 a, .int .i64 code] w fun e w' => e = .returned (.bool true) ∧ w' = w := by
  obtain ⟨f0, f1, f2, f3⟩ := h
  have hta := asFault
  go_enter Try.func33, Try.ntmps33
  go_wp2
  go_ret
  exact ⟨rfl, rfl⟩
end Go.Proofs.Ytlgjjemfckmidaa
