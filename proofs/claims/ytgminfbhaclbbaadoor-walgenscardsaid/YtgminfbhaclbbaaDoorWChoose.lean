/-
  The log's choose, where it finds a log.
-/
import Derived.Test.YtgminfbhaclbbaaDoorWScan2
namespace Go.Proofs.YtgminfbhaclbbaaDoor
open Go.RowKit Go.BigFrame

set_option maxRecDepth 100000 in
set_option maxHeartbeats 4000000 in
theorem choose_first_alone {f0 f1 : Fnd} (x : World) (hg : ¬ f0.g < f1.g) (hz : f0.g ≠ 0) (ho : f1.g = 0) :
    Calls Tryd.prog 34 #[.agg (f0.vals ++ f1.vals).toArray] x fun e w' => e = .returned (.tuple #[.agg f0.vals.toArray, .agg f1.vals.toArray, .nilIface]) ∧ Below x.heap.size x w' := by
  obtain ⟨g0, sa0, sl0, sc0, ra0, rn0, rc0, sz0, sy0, wh0⟩ := f0
  obtain ⟨g1, sa1, sl1, sc1, ra1, rn1, rc1, sz1, sy1, wh1⟩ := f1
  simp only [Fnd.vals] at hg hz ho ⊢
  simp only [List.cons_append, List.nil_append]
  have d1 : decide (g0 < g1) = false := by simp; omega
  have d2 : (g0 == 0) = false := by simp [hz]
  have d3 : (g1 == 0) = true := by simp [ho]
  have d3' : (g1 != 0) = false := by simp [ho]
  clear ho
  go_enter Tryd.func34, Tryd.ntmps34
  go_wp2_with fail
  go_region
  go_wp2_with fail
  go_region
  go_wp2_with fail
  refine bodyPost_ret (v := .tuple #[.agg #[.int .u64 g0, .slice sa0 sl0 sc0, .slice ra0 rn0 rc0, .int .i64 sz0, .int .i64 sy0, .int .i64 wh0], .agg #[.int .u64 g1, .slice sa1 sl1 sc1, .slice ra1 rn1 rc1, .int .i64 sz1, .int .i64 sy1, .int .i64 wh1], .nilIface]) (by simp [results, Tryd.results34, go_sem]) rfl ⟨rfl, ?_⟩
  exact ((below_allocs x _ _ _).drew).drew
set_option maxRecDepth 100000 in
set_option maxHeartbeats 4000000 in
theorem choose_first {f0 f1 : Fnd} (x : World) (hg : ¬ f0.g < f1.g) (hz : f0.g ≠ 0) (ho : f1.g ≠ 0 ∧ IntKind.u64.wrap (f1.g + 1) = f0.g) :
    Calls Tryd.prog 34 #[.agg (f0.vals ++ f1.vals).toArray] x fun e w' => e = .returned (.tuple #[.agg f0.vals.toArray, .agg f1.vals.toArray, .nilIface]) ∧ Below x.heap.size x w' := by
  obtain ⟨g0, sa0, sl0, sc0, ra0, rn0, rc0, sz0, sy0, wh0⟩ := f0
  obtain ⟨g1, sa1, sl1, sc1, ra1, rn1, rc1, sz1, sy1, wh1⟩ := f1
  simp only [Fnd.vals] at hg hz ho ⊢
  simp only [List.cons_append, List.nil_append]
  have d1 : decide (g0 < g1) = false := by simp; omega
  have d2 : (g0 == 0) = false := by simp [hz]
  have d3 : (g1 == 0) = false := by simp [ho.1]
  have d3' : (g1 != 0) = true := by simp [ho.1]
  have d4 : IntKind.u64.wrap (g1 + 1) = g0 := ho.2
  clear ho
  go_enter Tryd.func34, Tryd.ntmps34
  go_wp2_with fail
  go_region
  go_wp2_with fail
  go_region
  go_wp2_with fail
  refine bodyPost_ret (v := .tuple #[.agg #[.int .u64 g0, .slice sa0 sl0 sc0, .slice ra0 rn0 rc0, .int .i64 sz0, .int .i64 sy0, .int .i64 wh0], .agg #[.int .u64 g1, .slice sa1 sl1 sc1, .slice ra1 rn1 rc1, .int .i64 sz1, .int .i64 sy1, .int .i64 wh1], .nilIface]) (by simp [results, Tryd.results34, go_sem]) rfl ⟨rfl, ?_⟩
  exact ((below_allocs x _ _ _).drew).drew
set_option maxRecDepth 100000 in
set_option maxHeartbeats 4000000 in
theorem choose_second_alone {f0 f1 : Fnd} (x : World) (hg : f0.g < f1.g) (hz : f1.g ≠ 0) (ho : f0.g = 0) :
    Calls Tryd.prog 34 #[.agg (f0.vals ++ f1.vals).toArray] x fun e w' => e = .returned (.tuple #[.agg f1.vals.toArray, .agg f0.vals.toArray, .nilIface]) ∧ Below x.heap.size x w' := by
  obtain ⟨g0, sa0, sl0, sc0, ra0, rn0, rc0, sz0, sy0, wh0⟩ := f0
  obtain ⟨g1, sa1, sl1, sc1, ra1, rn1, rc1, sz1, sy1, wh1⟩ := f1
  simp only [Fnd.vals] at hg hz ho ⊢
  simp only [List.cons_append, List.nil_append]
  have d1 : decide (g0 < g1) = true := by simp; omega
  have d2 : (g1 == 0) = false := by simp [hz]
  have d3 : (g0 == 0) = true := by simp [ho]
  have d3' : (g0 != 0) = false := by simp [ho]
  clear ho
  go_enter Tryd.func34, Tryd.ntmps34
  go_wp2_with fail
  go_region
  go_wp2_with fail
  go_region
  go_wp2_with fail
  refine bodyPost_ret (v := .tuple #[.agg #[.int .u64 g1, .slice sa1 sl1 sc1, .slice ra1 rn1 rc1, .int .i64 sz1, .int .i64 sy1, .int .i64 wh1], .agg #[.int .u64 g0, .slice sa0 sl0 sc0, .slice ra0 rn0 rc0, .int .i64 sz0, .int .i64 sy0, .int .i64 wh0], .nilIface]) (by simp [results, Tryd.results34, go_sem]) rfl ⟨rfl, ?_⟩
  exact ((below_allocs x _ _ _).drew).drew
set_option maxRecDepth 100000 in
set_option maxHeartbeats 4000000 in
theorem choose_second {f0 f1 : Fnd} (x : World) (hg : f0.g < f1.g) (hz : f1.g ≠ 0) (ho : f0.g ≠ 0 ∧ IntKind.u64.wrap (f0.g + 1) = f1.g) :
    Calls Tryd.prog 34 #[.agg (f0.vals ++ f1.vals).toArray] x fun e w' => e = .returned (.tuple #[.agg f1.vals.toArray, .agg f0.vals.toArray, .nilIface]) ∧ Below x.heap.size x w' := by
  obtain ⟨g0, sa0, sl0, sc0, ra0, rn0, rc0, sz0, sy0, wh0⟩ := f0
  obtain ⟨g1, sa1, sl1, sc1, ra1, rn1, rc1, sz1, sy1, wh1⟩ := f1
  simp only [Fnd.vals] at hg hz ho ⊢
  simp only [List.cons_append, List.nil_append]
  have d1 : decide (g0 < g1) = true := by simp; omega
  have d2 : (g1 == 0) = false := by simp [hz]
  have d3 : (g0 == 0) = false := by simp [ho.1]
  have d3' : (g0 != 0) = true := by simp [ho.1]
  have d4 : IntKind.u64.wrap (g0 + 1) = g1 := ho.2
  clear ho
  go_enter Tryd.func34, Tryd.ntmps34
  go_wp2_with fail
  go_region
  go_wp2_with fail
  go_region
  go_wp2_with fail
  refine bodyPost_ret (v := .tuple #[.agg #[.int .u64 g1, .slice sa1 sl1 sc1, .slice ra1 rn1 rc1, .int .i64 sz1, .int .i64 sy1, .int .i64 wh1], .agg #[.int .u64 g0, .slice sa0 sl0 sc0, .slice ra0 rn0 rc0, .int .i64 sz0, .int .i64 sy0, .int .i64 wh0], .nilIface]) (by simp [results, Tryd.results34, go_sem]) rfl ⟨rfl, ?_⟩
  exact ((below_allocs x _ _ _).drew).drew
end Go.Proofs.YtgminfbhaclbbaaDoor
