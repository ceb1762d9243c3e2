/-
  errors.Is by its contract, at a *api.Fault and an api.Errno; Go's own text is walked, after the guide's worked example (the toy 'sentry'); '==' between two errors of one integer type (the host's note 10).
-/
import Derived.Test.YtdjjologpodnkaaGreatDoorLeaf
import Derived.LaidEql
import Derived.Stop.Asserts
import Derived.RowKitTokens
namespace Go.Proofs.YtdjjologpodnkaaGreatDoor
open Go.RowKit Go.Extern.Stop Go.Stop Go.Extern

theorem eqIn_iface_int {P : Program} (w : World) (d : Nat) {ti tn : TypeId} {ms : Array (String × TypeId)} {i : TypeInfo} {k : IntKind} (a b : Int)
    (hi : P.underlying ti = some (.interface ms)) (hn : P.underlying tn = some (.int k)) (hinfo : P.info? tn = some i) (hcomp : i.comparable = true) :
    (Op.equalIn (d + 2) ti (.iface tn (.int k a)) (.iface tn (.int k b))).run P w = .ok (a == b) w := by
  simp [Op.equalIn, run_underlying hi, run_underlying hn, typeInfo, hinfo, hcomp]
/-- Two errors of one integer type: alike as the numbers are. -/
theorem eql_iface_int {P : Program} (w : World) {ti tn : TypeId} {ms : Array (String × TypeId)} {i : TypeInfo} {k : IntKind} (a b : Int)
    (hi : P.underlying ti = some (.interface ms)) (hn : P.underlying tn = some (.int k)) (hinfo : P.info? tn = some i) (hcomp : i.comparable = true) :
    (binOp .eql ti (.iface tn (.int k a)) (.iface tn (.int k b))).run P w = .ok (.bool (a == b)) w := by
  simp only [binOp]
  simp [Op.equal, Op.maxDepth, eqIn_iface_int w 9998 a b hi hn hinfo hcomp]

/-! ### errors.Is -/
theorem Tryz.isTypeOf (v : Value) (w : World) : (ReflectliteType.typeOf #[.iface 47 v]).run Tryz.prog w = .ok (.iface 115 (.agg #[.pointer (some ⟨2, 47, none⟩)])) w := by kernel_rfl
theorem Tryz.isComparable (w : World) : (callFunc 104 #[.agg #[.pointer (some ⟨2, 47, none⟩)]]).run Tryz.prog w = .ok (Next.value (.bool true)) w := by
  have h := @run_callFunc_extern Tryz.prog 104 _ (ReflectliteType.method fun t => do Rtype.noPackHeld "Comparable" t; pure (.bool (← typeInfo t).comparable)) Tryz.func104 (by kernel_rfl) (by kernel_rfl) (by kernel_rfl) (by kernel_rfl)
  refine (h _ w).trans ?_
  kernel_rfl
theorem Tryz.isMethodComparable (v : Value) (w : World) : (Go.method 292 115 v "Comparable").run Tryz.prog w = .ok (104, v) w := by kernel_rfl
theorem Tryz.isComp : (Tryz.prog.info? 47).map (·.comparable) = some true := by kernel_rfl
theorem Tryz.noIsP (v : Value) (xT : TypeId) (w : World) : (Instr.typeAssert (.iface 74 v) xT 117 true).run Tryz.prog w = .ok (.tuple #[.nilIface, .bool false]) w := run_typeAssert_lacksB Tryz.underlying117 (by kernel_rfl) (by kernel_rfl) v xT w
theorem Tryz.hasUnwrapP (v : Value) (xT : TypeId) (w : World) : (Instr.typeAssert (.iface 74 v) xT 120 true).run Tryz.prog w = .ok (.tuple #[.iface 74 v, .bool true]) w := run_typeAssert_hasB Tryz.underlying120 (by kernel_rfl) v xT w
theorem Tryz.methodUnwrap (v : Value) (w : World) : (Go.method 292 74 v "Unwrap").run Tryz.prog w = .ok (97, v) w := by kernel_rfl

set_option maxHeartbeats 1000000 in
theorem unwrap_code (b : Nat) (code : Int) (w : World) (h2 : w.cell? ⟨b, 2, none⟩ = some (.int .i64 code)) (h3 : w.cell? ⟨b, 3, none⟩ = some .nilIface) :
    Calls Tryz.prog 97 #[.pointer (some ⟨b, 0, none⟩)] w fun e w' => e = .returned (.iface 47 (.int .i64 code)) ∧ w' = w := by
  go_enter Tryz.func97, Tryz.ntmps97
  go_wp2
  go_ret
  exact ⟨rfl, rfl⟩

set_option maxHeartbeats 1000000 in
theorem is_code (b : Nat) (code : Int) (w : World) (h2 : w.cell? ⟨b, 2, none⟩ = some (.int .i64 code)) (h3 : w.cell? ⟨b, 3, none⟩ = some .nilIface) :
    Calls Tryz.prog 23 #[.iface 74 (.pointer (some ⟨b, 0, none⟩)), .iface 47 (.int .i64 code)] w fun e w' => e = .returned (.bool true) ∧ w' = w := by
  obtain ⟨i, hi, hcmp⟩ := Option.map_eq_some_iff.1 Tryz.isComp
  have h8 := @run_callFunc_extern Tryz.prog 37 _ ReflectliteType.typeOf Tryz.func37 (by kernel_rfl) (by kernel_rfl) (by kernel_rfl) (by kernel_rfl)
  have tT := Tryz.isTypeOf
  have cT := Tryz.isComparable
  have mR := Tryz.isMethodComparable
  have nW := Tryz.noIsP
  have uW := Tryz.hasUnwrapP
  have mU := Tryz.methodUnwrap
  have heq := eql_iface_int (P := Tryz.prog) w code code Tryz.underlying29 Tryz.underlying47 hi hcmp
  have hty := run_eql_iface_types (P := Tryz.prog) 74 47 (.pointer (some ⟨b, 0, none⟩)) (.int .i64 code) Tryz.underlying29 (by decide) w
  go_enter Tryz.func23, Tryz.ntmps23
  go_wp2
  refine wp_loop_rounds 2 ?_
  rw [rounds_succ]
  go_wp2
  rw [rounds_succ]
  go_wp2
  go_ret
  exact ⟨rfl, rfl⟩
end Go.Proofs.YtdjjologpodnkaaGreatDoor
