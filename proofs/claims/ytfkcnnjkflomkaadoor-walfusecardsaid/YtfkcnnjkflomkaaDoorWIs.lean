/-
  errors.Is through a fault of two.
-/
import Derived.Test.YtfkcnnjkflomkaaDoorIs
namespace Go.Proofs.YtfkcnnjkflomkaaDoor
open Go.RowKit Go.Extern.Stop Go.Stop Go.Extern

set_option maxHeartbeats 2000000 in
theorem is_two (b b' : Nat) (code : Int) (w : World) (h3 : w.cell? ⟨b, 3, none⟩ = some (.iface 98 (.pointer (some ⟨b', 0, none⟩)))) (g2 : w.cell? ⟨b', 2, none⟩ = some (.int .i64 code)) (g3 : w.cell? ⟨b', 3, none⟩ = some .nilIface) :
    Calls Tryd.prog 41 #[.iface 98 (.pointer (some ⟨b, 0, none⟩)), .iface 69 (.int .i64 code)] w fun e w' => e = .returned (.bool true) ∧ w' = w := by
  obtain ⟨i, hi, hcmp⟩ := Option.map_eq_some_iff.1 Tryd.isComp
  have h8 := @run_callFunc_extern Tryd.prog 61 _ ReflectliteType.typeOf Tryd.func61 (by kernel_rfl) (by kernel_rfl) (by kernel_rfl) (by kernel_rfl)
  have tT := Tryd.isTypeOf
  have cT := Tryd.isComparable
  have mR := Tryd.isMethodComparable
  have nW := Tryd.noIsP
  have uW := Tryd.hasUnwrapP
  have mU := Tryd.methodUnwrap
  have heq := eql_iface_int (P := Tryd.prog) w code code Tryd.underlying30 Tryd.underlying69 hi hcmp
  have hty := run_eql_iface_types (P := Tryd.prog) 98 69 (.pointer (some ⟨b, 0, none⟩)) (.int .i64 code) Tryd.underlying30 (by decide) w
  have hty' := run_eql_iface_types (P := Tryd.prog) 98 69 (.pointer (some ⟨b', 0, none⟩)) (.int .i64 code) Tryd.underlying30 (by decide) w
  go_enter Tryd.func41, Tryd.ntmps41
  go_wp2
  refine wp_loop_rounds 3 ?_
  rw [rounds_succ]
  go_wp2
  rw [rounds_succ]
  go_wp2
  rw [rounds_succ]
  go_wp2
  go_ret
  exact ⟨rfl, rfl⟩
end Go.Proofs.YtfkcnnjkflomkaaDoor
