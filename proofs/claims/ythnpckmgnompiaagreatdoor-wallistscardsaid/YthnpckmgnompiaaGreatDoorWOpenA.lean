import Derived.Test.YthnpckmgnompiaaGreatDoorWScan2
import Derived.Lib.SliceRun
/-
  The log's choose, where it finds a log.
-/
namespace Go.Proofs.YthnpckmgnompiaaGreatDoor
open Go.RowKit Go.BigFrame

set_option maxRecDepth 100000 in
set_option maxHeartbeats 4000000 in
theorem choose_first_alone {f0 f1 : Fnd} (x : World) (hg : ¬ f0.g < f1.g) (hz : f0.g ≠ 0) (ho : f1.g = 0) :
    Calls Tryz.prog 24 #[.agg (f0.vals ++ f1.vals).toArray] x fun e w' => e = .returned (.tuple #[.agg f0.vals.toArray, .agg f1.vals.toArray, .nilIface]) ∧ Below x.heap.size x w' := by
  obtain ⟨g0, sa0, sl0, sc0, ra0, rn0, rc0, sz0, sy0, wh0⟩ := f0
  obtain ⟨g1, sa1, sl1, sc1, ra1, rn1, rc1, sz1, sy1, wh1⟩ := f1
  simp only [Fnd.vals] at hg hz ho ⊢
  simp only [List.cons_append, List.nil_append]
  have d1 : decide (g0 < g1) = false := by simp; omega
  have d2 : (g0 == 0) = false := by simp [hz]
  have d3 : (g1 == 0) = true := by simp [ho]
  have d3' : (g1 != 0) = false := by simp [ho]
  clear ho
  go_enter Tryz.func24, Tryz.ntmps24
  go_wp2_with fail
  go_region
  go_wp2_with fail
  go_region
  go_wp2_with fail
  refine bodyPost_ret (v := .tuple #[.agg #[.int .u64 g0, .slice sa0 sl0 sc0, .slice ra0 rn0 rc0, .int .i64 sz0, .int .i64 sy0, .int .i64 wh0], .agg #[.int .u64 g1, .slice sa1 sl1 sc1, .slice ra1 rn1 rc1, .int .i64 sz1, .int .i64 sy1, .int .i64 wh1], .nilIface]) (by simp [results, Tryz.results24, go_sem]) rfl ⟨rfl, ?_⟩
  exact ((below_allocs x _ _ _).drew).drew
set_option maxRecDepth 100000 in
set_option maxHeartbeats 4000000 in
theorem choose_first {f0 f1 : Fnd} (x : World) (hg : ¬ f0.g < f1.g) (hz : f0.g ≠ 0) (ho : f1.g ≠ 0 ∧ IntKind.u64.wrap (f1.g + 1) = f0.g) :
    Calls Tryz.prog 24 #[.agg (f0.vals ++ f1.vals).toArray] x fun e w' => e = .returned (.tuple #[.agg f0.vals.toArray, .agg f1.vals.toArray, .nilIface]) ∧ Below x.heap.size x w' := by
  obtain ⟨g0, sa0, sl0, sc0, ra0, rn0, rc0, sz0, sy0, wh0⟩ := f0
  obtain ⟨g1, sa1, sl1, sc1, ra1, rn1, rc1, sz1, sy1, wh1⟩ := f1
  simp only [Fnd.vals] at hg hz ho ⊢
  simp only [List.cons_append, List.nil_append]
  have d1 : decide (g0 < g1) = false := by simp; omega
  have d2 : (g0 == 0) = false := by simp [hz]
  have d3 : (g1 == 0) = false := by simp [ho.1]
  have d3' : (g1 != 0) = true := by simp [ho.1]
  have d4 : IntKind.u64.wrap (g1 + 1) = g0 := ho.2
  clear ho
  go_enter Tryz.func24, Tryz.ntmps24
  go_wp2_with fail
  go_region
  go_wp2_with fail
  go_region
  go_wp2_with fail
  refine bodyPost_ret (v := .tuple #[.agg #[.int .u64 g0, .slice sa0 sl0 sc0, .slice ra0 rn0 rc0, .int .i64 sz0, .int .i64 sy0, .int .i64 wh0], .agg #[.int .u64 g1, .slice sa1 sl1 sc1, .slice ra1 rn1 rc1, .int .i64 sz1, .int .i64 sy1, .int .i64 wh1], .nilIface]) (by simp [results, Tryz.results24, go_sem]) rfl ⟨rfl, ?_⟩
  exact ((below_allocs x _ _ _).drew).drew
set_option maxRecDepth 100000 in
set_option maxHeartbeats 4000000 in
theorem choose_second_alone {f0 f1 : Fnd} (x : World) (hg : f0.g < f1.g) (hz : f1.g ≠ 0) (ho : f0.g = 0) :
    Calls Tryz.prog 24 #[.agg (f0.vals ++ f1.vals).toArray] x fun e w' => e = .returned (.tuple #[.agg f1.vals.toArray, .agg f0.vals.toArray, .nilIface]) ∧ Below x.heap.size x w' := by
  obtain ⟨g0, sa0, sl0, sc0, ra0, rn0, rc0, sz0, sy0, wh0⟩ := f0
  obtain ⟨g1, sa1, sl1, sc1, ra1, rn1, rc1, sz1, sy1, wh1⟩ := f1
  simp only [Fnd.vals] at hg hz ho ⊢
  simp only [List.cons_append, List.nil_append]
  have d1 : decide (g0 < g1) = true := by simp; omega
  have d2 : (g1 == 0) = false := by simp [hz]
  have d3 : (g0 == 0) = true := by simp [ho]
  have d3' : (g0 != 0) = false := by simp [ho]
  clear ho
  go_enter Tryz.func24, Tryz.ntmps24
  go_wp2_with fail
  go_region
  go_wp2_with fail
  go_region
  go_wp2_with fail
  refine bodyPost_ret (v := .tuple #[.agg #[.int .u64 g1, .slice sa1 sl1 sc1, .slice ra1 rn1 rc1, .int .i64 sz1, .int .i64 sy1, .int .i64 wh1], .agg #[.int .u64 g0, .slice sa0 sl0 sc0, .slice ra0 rn0 rc0, .int .i64 sz0, .int .i64 sy0, .int .i64 wh0], .nilIface]) (by simp [results, Tryz.results24, go_sem]) rfl ⟨rfl, ?_⟩
  exact ((below_allocs x _ _ _).drew).drew
set_option maxRecDepth 100000 in
set_option maxHeartbeats 4000000 in
theorem choose_second {f0 f1 : Fnd} (x : World) (hg : f0.g < f1.g) (hz : f1.g ≠ 0) (ho : f0.g ≠ 0 ∧ IntKind.u64.wrap (f0.g + 1) = f1.g) :
    Calls Tryz.prog 24 #[.agg (f0.vals ++ f1.vals).toArray] x fun e w' => e = .returned (.tuple #[.agg f1.vals.toArray, .agg f0.vals.toArray, .nilIface]) ∧ Below x.heap.size x w' := by
  obtain ⟨g0, sa0, sl0, sc0, ra0, rn0, rc0, sz0, sy0, wh0⟩ := f0
  obtain ⟨g1, sa1, sl1, sc1, ra1, rn1, rc1, sz1, sy1, wh1⟩ := f1
  simp only [Fnd.vals] at hg hz ho ⊢
  simp only [List.cons_append, List.nil_append]
  have d1 : decide (g0 < g1) = true := by simp; omega
  have d2 : (g1 == 0) = false := by simp [hz]
  have d3 : (g0 == 0) = false := by simp [ho.1]
  have d3' : (g0 != 0) = true := by simp [ho.1]
  have d4 : IntKind.u64.wrap (g0 + 1) = g1 := ho.2
  clear ho
  go_enter Tryz.func24, Tryz.ntmps24
  go_wp2_with fail
  go_region
  go_wp2_with fail
  go_region
  go_wp2_with fail
  refine bodyPost_ret (v := .tuple #[.agg #[.int .u64 g1, .slice sa1 sl1 sc1, .slice ra1 rn1 rc1, .int .i64 sz1, .int .i64 sy1, .int .i64 wh1], .agg #[.int .u64 g0, .slice sa0 sl0 sc0, .slice ra0 rn0 rc0, .int .i64 sz0, .int .i64 sy0, .int .i64 wh0], .nilIface]) (by simp [results, Tryz.results24, go_sem]) rfl ⟨rfl, ?_⟩
  exact ((below_allocs x _ _ _).drew).drew
end Go.Proofs.YthnpckmgnompiaaGreatDoor

/-
  The log's Open: its parts where nothing is to be mended.
-/
namespace Go.Proofs.YthnpckmgnompiaaGreatDoor
open Go.RowKit Go.BigFrame

set_option maxHeartbeats 1000000 in
theorem play_nil (x : World) : Calls Tryz.prog 16 #[.slice none 0 0] x fun e w' => e = .returned .nilIface ∧ w' = x := by
  go_enter Tryz.func16, Tryz.ntmps16
  go_wp2_with fail
  refine wp_loop_rounds 1 ?_
  rw [rounds_succ]
  go_wp2_with fail
  go_ret
  exact ⟨rfl, rfl⟩
set_option maxRecDepth 100000 in
set_option maxHeartbeats 4000000 in
theorem mend_nil {f0 f1 : Fnd} {K : Nat} (x : World) (hg : 0 ≤ f0.g) (h1 : f1.sz = 0) (h2 : f0.wh = f0.sz) (h3 : f0.sy = f0.wh) :
    Calls Tryz.prog 25 #[.pointer (some ⟨K, 0, none⟩), .agg f0.vals.toArray, .agg f1.vals.toArray] x fun e w' => e = .returned (.slice none 0 0) ∧ Below x.heap.size x w' := by
  obtain ⟨g0, sa0, sl0, sc0, ra0, rn0, rc0, sz0, sy0, wh0⟩ := f0
  obtain ⟨g1, sa1, sl1, sc1, ra1, rn1, rc1, sz1, sy1, wh1⟩ := f1
  simp only at h1 h2 h3 hg
  subst h1
  subst h2
  subst h3
  simp only [Fnd.vals]
  go_enter Tryz.func25, Tryz.ntmps25
  go_wp2_with fail
  refine (areaOf_any _ hg).mono ?_
  rintro e w1 ⟨rfl, hw1⟩
  rw [hw1]
  clear hw1
  go_wp2_with fail
  go_ret
  exact ⟨rfl, ((Below.refl _ _).alloc (Nat.le_refl _) _).alloc (by simp) _⟩
set_option maxRecDepth 100000 in
set_option maxHeartbeats 1000000 in
theorem clone_any {po : Option Addr} {m c : Nat} {bs : List Int} (w : World) (hb : Byts w po m bs) (hpo : po = none → c = 0) (hm : m ≤ 140737488355328) :
    Calls Tryz.prog 66 #[.slice po m c] w fun e w' => ∃ a n k, e = .returned (.slice a n k) ∧ Row w' w.heap.size (.slice a n k) bs ∧ Below w.heap.size w w' := by
  have q1 : ∀ (w : World) (a : Option Addr) (n c n' c' : Nat), (binOp .eql 22 (.slice a n c) (.slice none n' c')).run Tryz.prog w = .ok (.bool a.isNone) w := fun w a n c n' c' => Lib.run_eql_slice_nil w 22 5 a n c n' c' Tryz.underlying22
  cases po with
  | none =>
    have hm0 : m = 0 := by
      rcases Nat.eq_zero_or_pos m with g | g
      · exact g
      · obtain ⟨_, _, e, _⟩ := hb.cell 0 g; cases e
    subst hm0
    obtain rfl : bs = [] := List.eq_nil_of_length_eq_zero hb.len
    clear hb
    go_enter Tryz.func66, Tryz.ntmps66
    go_wp2_with fail
    go_ret
    exact ⟨none, 0, 0, rfl, Row.nil _ _, Below.refl _ _⟩
  | some a =>
    have ho : Off (fun _ => False) w (w.alloc (.cells #[] 5)) := (Off.refl _ _).alloc _
    obtain ⟨v', w', hr, r1, g1, b1⟩ := run_append_bytes (row_empty_at (w := w.alloc (.cells #[] 5)) (Nat.le_refl _) (heap_alloc_new _ _)) (hb.off ho (fun _ _ _ => id)) (c := c) (fun h => by cases h) (by simp; omega) ho.size 22
    obtain ⟨a', c', rfl, _⟩ := r1.slice
    have HE : Hid (Row w' w.heap.size (.slice a' ([] ++ bs).length c') ([] ++ bs) ∧ Below w.heap.size w w') := ⟨r1, (ho.below (Nat.le_refl _) (fun _ g => g.elim)).trans ((Off.of_grown g1).below ho.size (fun k e => by simp [Value.ownBlock] at e; omega))⟩
    clear hb r1 g1 b1 ho
    go_enter Tryz.func66, Tryz.ntmps66
    go_wp2_with (at_builtin; refine wpList_append_run rfl (.tmp 5) (.tmp 6) 22 _ rfl hr ?_)
    go_ret
    exact ⟨a', _, c', rfl, by simpa using HE.out.1, HE.out.2⟩
end Go.Proofs.YthnpckmgnompiaaGreatDoor
