/-
  errors.Is by its contract, at a *api.Fault and an api.Errno; Go's own text is walked, after the guide's worked example (the toy 'sentry'); '==' between two errors of one integer type (the host's note 10).
-/
import Derived.Test.YtpcickhellkiaaaDoorLeaf
import Derived.LaidEql
import Derived.Stop.Asserts
import Derived.RowKitTokens
namespace Go.Proofs.YtpcickhellkiaaaDoor
open Go.RowKit Go.Extern.Stop Go.Stop Go.Extern

theorem eqIn_iface_int {P : Program} (w : World) (d : Nat) {ti tn : TypeId} {ms : Array (String × TypeId)} {i : TypeInfo} {k : IntKind} (a b : Int)
    (hi : P.underlying ti = some (.interface ms)) (hn : P.underlying tn = some (.int k)) (hinfo : P.info? tn = some i) (hcomp : i.comparable = true) :
    (Op.equalIn (d + 2) ti (.iface tn (.int k a)) (.iface tn (.int k b))).run P w = .ok (a == b) w := by
  simp [Op.equalIn, run_underlying hi, run_underlying hn, typeInfo, hinfo, hcomp]
/-- Two errors of one integer type: alike as the numbers are. -/
theorem eql_iface_int {P : Program} (w : World) {ti tn : TypeId} {ms : Array (String × TypeId)} {i : TypeInfo} {k : IntKind} (a b : Int)
    (hi : P.underlying ti = some (.interface ms)) (hn : P.underlying tn = some (.int k)) (hinfo : P.info? tn = some i) (hcomp : i.comparable = true) :
    (binOp .eql ti (.iface tn (.int k a)) (.iface tn (.int k b))).run P w = .ok (.bool (a == b)) w := by
  simp only [binOp]
  simp [Op.equal, Op.maxDepth, eqIn_iface_int w 9998 a b hi hn hinfo hcomp]

/-! ### errors.Is -/
theorem Tryd.isTypeOf (v : Value) (w : World) : (ReflectliteType.typeOf #[.iface 39 v]).run Tryd.prog w = .ok (.iface 132 (.agg #[.pointer (some ⟨1, 39, none⟩)])) w := by kernel_rfl
theorem Tryd.isComparable (w : World) : (callFunc 103 #[.agg #[.pointer (some ⟨1, 39, none⟩)]]).run Tryd.prog w = .ok (Next.value (.bool true)) w := by
  have h := @run_callFunc_extern Tryd.prog 103 _ (ReflectliteType.method fun t => do Rtype.noPackHeld "Comparable" t; pure (.bool (← typeInfo t).comparable)) Tryd.func103 (by kernel_rfl) (by kernel_rfl) (by kernel_rfl) (by kernel_rfl)
  refine (h _ w).trans ?_
  kernel_rfl
theorem Tryd.isMethodComparable (v : Value) (w : World) : (Go.method 276 132 v "Comparable").run Tryd.prog w = .ok (103, v) w := by kernel_rfl
theorem Tryd.isComp : (Tryd.prog.info? 39).map (·.comparable) = some true := by kernel_rfl
theorem Tryd.noIsP (v : Value) (xT : TypeId) (w : World) : (Instr.typeAssert (.iface 88 v) xT 144 true).run Tryd.prog w = .ok (.tuple #[.nilIface, .bool false]) w := run_typeAssert_lacksB Tryd.underlying144 (by kernel_rfl) (by kernel_rfl) v xT w
theorem Tryd.hasUnwrapP (v : Value) (xT : TypeId) (w : World) : (Instr.typeAssert (.iface 88 v) xT 139 true).run Tryd.prog w = .ok (.tuple #[.iface 88 v, .bool true]) w := run_typeAssert_hasB Tryd.underlying139 (by kernel_rfl) v xT w
theorem Tryd.methodUnwrap (v : Value) (w : World) : (Go.method 276 88 v "Unwrap").run Tryd.prog w = .ok (97, v) w := by kernel_rfl

set_option maxHeartbeats 1000000 in
theorem unwrap_code (b : Nat) (code : Int) (w : World) (h2 : w.cell? ⟨b, 2, none⟩ = some (.int .i64 code)) (h3 : w.cell? ⟨b, 3, none⟩ = some .nilIface) :
    Calls Tryd.prog 97 #[.pointer (some ⟨b, 0, none⟩)] w fun e w' => e = .returned (.iface 39 (.int .i64 code)) ∧ w' = w := by
  go_enter Tryd.func97, Tryd.ntmps97
  go_wp2
  go_ret
  exact ⟨rfl, rfl⟩

set_option maxHeartbeats 1000000 in
theorem is_code (b : Nat) (code : Int) (w : World) (h2 : w.cell? ⟨b, 2, none⟩ = some (.int .i64 code)) (h3 : w.cell? ⟨b, 3, none⟩ = some .nilIface) :
    Calls Tryd.prog 42 #[.iface 88 (.pointer (some ⟨b, 0, none⟩)), .iface 39 (.int .i64 code)] w fun e w' => e = .returned (.bool true) ∧ w' = w := by
  obtain ⟨i, hi, hcmp⟩ := Option.map_eq_some_iff.1 Tryd.isComp
  have h8 := @run_callFunc_extern Tryd.prog 68 _ ReflectliteType.typeOf Tryd.func68 (by kernel_rfl) (by kernel_rfl) (by kernel_rfl) (by kernel_rfl)
  have tT := Tryd.isTypeOf
  have cT := Tryd.isComparable
  have mR := Tryd.isMethodComparable
  have nW := Tryd.noIsP
  have uW := Tryd.hasUnwrapP
  have mU := Tryd.methodUnwrap
  have heq := eql_iface_int (P := Tryd.prog) w code code Tryd.underlying29 Tryd.underlying39 hi hcmp
  have hty := run_eql_iface_types (P := Tryd.prog) 88 39 (.pointer (some ⟨b, 0, none⟩)) (.int .i64 code) Tryd.underlying29 (by decide) w
  go_enter Tryd.func42, Tryd.ntmps42
  go_wp2
  refine wp_loop_rounds 2 ?_
  rw [rounds_succ]
  go_wp2
  rw [rounds_succ]
  go_wp2
  go_ret
  exact ⟨rfl, rfl⟩
end Go.Proofs.YtpcickhellkiaaaDoor
