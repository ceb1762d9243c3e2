/-
  Wheel: Next of a wheel of one timer.
-/
import Derived.Test.YtdglnobapnohmaaDoorWhTop
namespace Go.Proofs.YtdglnobapnohmaaDoor
open Go.RowKit

set_option maxRecDepth 100000 in
set_option maxHeartbeats 1000000 in
theorem min_one {w : World} {B : Nat} {a : Option Addr} {n c : Nat} {k : Int} {t : Nat} (h : TRow w B (.slice a n c) [(k, t)]) :
    Calls Tryd.prog 56 #[.slice a n c, .func (.func 35) #[] #[]] w fun e w' => e = .returned (.agg #[.int .i64 k, .int .i64 (t : Int)]) ∧ Below w.heap.size w w' := by
  obtain rfl : n = 1 := h.len
  obtain ⟨g, rfl, hg, hc0⟩ := h.at_ encT_len (j := 0) (x := (k, t)) rfl
  have d0 : w.cell? ⟨g, 0, none⟩ = some (.int .i64 k) := hc0 0 (by omega)
  have d1 : w.cell? ⟨g, 1, none⟩ = some (.int .i64 (t : Int)) := hc0 1 (by omega)
  have e1 : ∀ o1, (w.alloc o1).cell? ⟨g, 0, none⟩ = some (.int .i64 k) := fun o1 => by
    rw [World.cell?_alloc_lt _ _ ⟨g, 0, none⟩ hg]; exact d0
  have e2 : ∀ o1, (w.alloc o1).cell? ⟨g, 1, none⟩ = some (.int .i64 (t : Int)) := fun o1 => by
    rw [World.cell?_alloc_lt _ _ ⟨g, 1, none⟩ hg]; exact d1
  have hb : ∀ a b : Obj, Below w.heap.size w ((w.alloc a).alloc b) := fun a b => ((Below.refl _ _).alloc (Nat.le_refl _) _).alloc (by simp) _
  clear hc0 h
  go_enter Tryd.func56, Tryd.ntmps56
  go_wp2_with fail
  refine wp_loop_rounds 1 ?_
  rw [rounds_succ]
  go_wp2_with fail
  refine bodyPost_ret (v := .agg #[.int .i64 k, .int .i64 (t : Int)]) ?_ rfl ⟨rfl, ?_⟩
  · simp [results, Tryd.results56, go_sem]
  · first | exact hb _ _ | exact (((hb _ _).setCell (Nat.le_refl _) _).setCell (Nat.le_refl _) _)
section
variable {w : World} {B T M now n : Nat} {v : Nat → Value} {L : Nat → List Tm} {f : Int → Option (Nat × Nat)}
set_option maxRecDepth 100000 in
set_option maxHeartbeats 4000000 in
theorem next_one (h : Tms w B T M now v L f n) {k : Int} {t i0 : Nat} (hi0 : i0 < 448) (h0 : L i0 = [(k, t)]) (he : ∀ i, i < i0 → L i = []) :
    Calls Tryd.prog 36 #[.pointer (some ⟨T, 0, none⟩)] w fun e w' => e = .returned (.tuple #[.int .i64 (t : Int), .bool true]) ∧ Below w.heap.size w w' := by
  have hr0 := h.row i0 hi0
  rw [h0] at hr0
  obtain ⟨a0, c0, hv0, _⟩ := hr0.isSlice
  rw [hv0] at hr0
  have HM : Hid (Calls Tryd.prog 56 #[.slice a0 1 c0, .func (.func 35) #[] #[]] w fun e w' => e = .returned (.agg #[.int .i64 k, .int .i64 (t : Int)]) ∧ Below w.heap.size w w') := min_one hr0
  have HT : Hid (Tms w B T M now v L f n ∧ (∀ i, i < i0 → L i = []) ∧ v i0 = .slice a0 1 c0) := ⟨h, he, hv0⟩
  have hfld : ∀ (w : World), (Instr.field 68 (.agg #[.int .i64 k, .int .i64 (t : Int)]) 1).run Tryd.prog w = .ok (.int .i64 (t : Int)) w := fun w => by kernel_rfl
  clear h h0 he hr0 hv0
  go_enter Tryd.func36, Tryd.ntmps36
  go_wp2_with fail
  go_loopw [4, 5, 6, 7, 10] (fun _ _ _ t7 _ wx => ∃ p : Nat, 64 * p ≤ i0 ∧ t7 = .int .i64 (p : Int) ∧ wx = w) (fun _ _ _ t7 _ _ => 7 - (intOf t7).toNat)
  case atStart => exact ⟨0, by omega, rfl, rfl⟩
  case round =>
    obtain ⟨p, hp, rfl, hw⟩ := hrel
    subst wr
    have hlt1 : (p : Int) < 7 := by omega
    go_wp2_with fail
    go_loopw [5, 6, 10] (fun _ _ t10 wx => ∃ q : Nat, q ≤ 64 ∧ 64 * p + q ≤ i0 ∧ t10 = .int .i64 (q : Int) ∧ wx = w) (fun _ _ t10 _ => 64 - (intOf t10).toNat)
    case atStart => exact ⟨0, by omega, by omega, rfl, rfl⟩
    case round =>
      obtain ⟨q, hq, hpq, rfl, hw⟩ := hrel
      subst wr
      by_cases hq64 : q < 64
      · have hq1 : (q : Int) < 64 := by omega
        have hi : 64 * p + q < 448 := by omega
        by_cases hpi : 64 * p + q = i0
        · have cl : w.cell? ⟨T, 1 + p * 64 + q, none⟩ = some (.slice a0 1 c0) := by
            rw [show 1 + p * 64 + q = 1 + (64 * p + q) by omega, hpi, ← HT.out.2.2]; exact HT.out.1.tb.cl hi0
          go_wp2_with fail
          refine HM.out.mono ?_
          rintro _ w1 ⟨rfl, hb1⟩
          go_wp2_with fail
          refine bodyPost_ret ?_ rfl ⟨rfl, hb1⟩
          simp [results, Tryd.results36, go_sem]
        · have hr := HT.out.1.row _ hi
          rw [HT.out.2.1 _ (by omega)] at hr
          obtain ⟨a1, c1, hv1, _⟩ := hr.isSlice
          have cl : w.cell? ⟨T, 1 + p * 64 + q, none⟩ = some (.slice a1 0 c1) := by
            rw [show 1 + p * 64 + q = 1 + (64 * p + q) by omega]
            have := HT.out.1.tb.cl hi
            rwa [show v (64 * p + q) = .slice a1 0 c1 from hv1] at this
          clear hr hv1
          go_wp2_with fail
          go_roundw
          case rel => exact ⟨q + 1, by omega, by omega, by go_num, trivial⟩
          case measure => simp [intOf]; omega
      · have hq1 : ¬ (q : Int) < 64 := by omega
        go_wp2_with fail
        go_roundw
        case rel => exact ⟨p + 1, by omega, by go_num, trivial⟩
        case measure => simp [intOf]; omega
end
set_option maxHeartbeats 1000000 in
theorem nexts_one {w : World} {B W now : Nat} {F : Nat → Prop} {k : Int} {t : Nat} (h : Whl w B W now [(k, t)] F) :
    Calls Tryd.prog 15 #[.pointer (some ⟨W, 0, none⟩)] w fun e w' => e = .returned (.tuple #[.int .i64 (t : Int), .bool true]) ∧ Below w.heap.size w w' := by
  obtain ⟨T, M, v, L, f, n, hW, hB, hT, hk, hh, hp, hl, hF⟩ := h
  have c := wcell hW
  have hm := made_yes c
  have HN : Hid (Calls Tryd.prog 36 #[.pointer (some ⟨T, 0, none⟩)] w fun e w' => e = .returned (.tuple #[.int .i64 (t : Int), .bool true]) ∧ Below w.heap.size w w') := by
    obtain ⟨i0, hi0, hx⟩ := mem_allL.1 (hp.symm.subset (List.mem_cons_self ..) : (k, t) ∈ allL L)
    have hlen := (allL_at hi0 L).length_eq
    rw [hp.length_eq, List.length_append] at hlen
    simp only [List.length_cons, List.length_nil] at hlen
    have h1 := List.length_pos_of_mem hx
    obtain ⟨y, hy⟩ : ∃ y, L i0 = [y] := List.length_eq_one_iff.1 (by omega)
    have hres : resL i0 L = [] := List.eq_nil_of_length_eq_zero (by omega)
    rw [hy] at hx
    obtain rfl := List.mem_singleton.1 hx
    refine next_one hT hi0 hy (fun i hi => ?_)
    cases hLi : L i with
    | nil => rfl
    | cons z zs =>
      have : z ∈ resL i0 L := by
        unfold resL pick
        exact List.mem_flatMap.2 ⟨i, List.mem_filter.2 ⟨List.mem_range.2 (by omega), by simp; omega⟩, by rw [hLi]; exact List.mem_cons_self ..⟩
      rw [hres] at this
      cases this
  clear hT hk hh hp hl hF hW
  go_enter Tryd.func15, Tryd.ntmps15
  go_wp2_with (first | (go_at_call 28; refine hm.mono ?_; rintro _ w9 ⟨rfl, h9⟩; subst w9))
  refine HN.out.mono ?_
  rintro _ w1 ⟨rfl, hb⟩
  go_wp2_with fail
  refine bodyPost_ret ?_ rfl ⟨rfl, hb⟩
  simp [results, Tryd.results15, go_sem]
end Go.Proofs.YtdglnobapnohmaaDoor
