/-
  Crash of the document's disk. (Typed by gen/mkref5.py.)
-/
import Derived.Test.YtlgjjemfckmidaaRfCut
import Derived.Laws.Runes
namespace Go.Proofs.Ytlgjjemfckmidaa
open Go.RowKit

theorem upd_upd {α : Type} (f : Nat → α) (q : Nat) (y z : α) : upd (upd f q y) q z = upd f q z := by
  funext k; unfold upd; split <;> rfl
set_option maxHeartbeats 1000000 in
theorem rbetween_any (n : Int) (m k : Nat) (w : World) (hk : betw n (m : Int) = (k : Int)) : Calls Try.prog 73 #[.int .i64 n, .int .i64 (m : Int)] w fun e w' => e = .returned (.int .i64 (k : Int)) ∧ w' = w := by
  unfold betw at hk
  by_cases h0 : n < 0
  · obtain rfl : k = 0 := by omega
    clear hk
    go_enter Try.func73, Try.ntmps73
    go_wp2
    go_ret
    exact ⟨rfl, rfl⟩
  · by_cases h1 : (m : Int) < n
    · obtain rfl : k = m := by omega
      clear hk
      go_enter Try.func73, Try.ntmps73
      go_wp2
      go_ret
      exact ⟨rfl, rfl⟩
    · obtain rfl : n = (k : Int) := by omega
      clear hk
      go_enter Try.func73, Try.ntmps73
      go_wp2
      go_ret
      exact ⟨rfl, rfl⟩
theorem sliceTo (a : Option Addr) (n c k : Nat) (W : World) (ha : a = none → c = 0) (hk : k ≤ c) : (Instr.sliceAt 25 (.slice a n c) none (some (.int .i64 (k : Int))) none).run Try.prog W = .ok (.slice a k c) W := by
  have hk2 : (k : Int) ≤ (c : Int) := by omega
  cases a with
  | none =>
    obtain rfl := ha rfl
    obtain rfl : k = 0 := by omega
    simp [Instr.sliceAt, Instr.sliceBounds, Instr.sliceBound, asIntOf, run_underlying Try.underlying25, go_sem]
  | some ad =>
    simp [Instr.sliceAt, Instr.sliceBounds, Instr.sliceBound, asIntOf, run_underlying Try.underlying25, hk2, go_sem]
theorem rpush {w : World} {B : Nat} {v : Value} {xs : List Int} (h : Row w B v xs) (hB : B ≤ w.heap.size) (hl : xs.length + 1 ≤ 140737488355328) (z : Int) :
    ∃ a n c w', (Builtin.append_ #[25, 25] 25 #[v, .slice (some ⟨w.heap.size, 0, none⟩) 1 1]).run Try.prog (w.alloc (.cells #[.int .u8 z] 5)) = .ok (.slice a n c) w' ∧ Row w' B (.slice a n c) (xs ++ [z]) ∧ Off (fun k => v.ownBlock = some k) w w' ∧ (∀ g, (Value.slice a n c).ownBlock = some g → v.ownBlock = some g ∨ w.heap.size ≤ g) := by
  have hrow : Row (w.alloc (.cells #[.int .u8 z] 5)) B v xs := h.keep (fun g e => ((Below.refl w.heap.size w).alloc (Nat.le_refl _) (.cells #[.int .u8 z] 5)).block g (h.lt e).2)
  have hone : Byts (w.alloc (.cells #[.int .u8 z] 5)) (some ⟨w.heap.size, 0, none⟩) 1 [z] := by
    refine ⟨rfl, fun q hq => ⟨w.heap.size, 0, rfl, by simp, ?_⟩⟩
    obtain rfl : q = 0 := by omega
    simp
  obtain ⟨v', w', hr, r, g, o⟩ := run_append_bytes (c := 1) hrow hone (fun e => by cases e) hl (by simp; omega) 25
  obtain ⟨a', c', rfl, _⟩ := r.slice
  refine ⟨_, _, _, w', hr, r, ((Off.refl _ w).alloc _).trans (Off.of_grown g), fun k e => ?_⟩
  rcases o with o | o
  · rw [o] at e; exact Or.inl e
  · rw [o, Option.some.injEq] at e; simp at e; exact Or.inr (by omega)
theorem rq_plus {P : Program} {f : FuncId} {args : Array Value} {W : World} {a x : Nat} {v : Value} (h : Calls P f args (W.drewN (a + x)) fun e w' => e = .returned v ∧ w' = W.drewN (a + x)) :
    Calls P f args (W.drewN (a + x)) fun e w' => e = .returned v ∧ ∃ n, w' = W.drewN (a + n) := h.mono fun _ _ ⟨he, hw⟩ => ⟨he, x, hw⟩
theorem Off.drewN2 (w : World) (k : Nat) : Off (fun _ => False) w (w.drewN k) := (Off.refl _ _).drewN _
set_option maxRecDepth 100000 in
set_option maxHeartbeats 8000000 in
theorem rCrash_any {w : World} {B R : Nat} {v : Nat → Value} {x : Nat → List Int} {dead : Bool} {left na ns nc : Int} {tk0 tz0 tk1 tz1 : Int} {k0 z0 k1 z1 : Nat} (h : Rk w B R v x dead left na ns nc) (hs0 : (x 0).length + (x 1).length ≤ 16777216) (hs1 : (x 2).length + (x 3).length ≤ 16777216)
    (hk0 : betw tk0 ((x 1).length : Int) = (k0 : Int)) (hz0 : betw tz0 ((x 1).length - k0 : Int) = (z0 : Int)) (hk1 : betw tk1 ((x 3).length : Int) = (k1 : Int)) (hz1 : betw tz1 ((x 3).length - k1 : Int) = (z1 : Int)) :
    Calls Try.prog 44 #[.pointer (some ⟨R, 0, none⟩), .agg #[.int .i64 tk0, .int .i64 tz0, .int .i64 tk1, .int .i64 tz1]] w fun e w' => e = .returned (.tuple #[]) ∧
      ∃ v', Rk w' B R v' (upd (upd (upd (upd x 0 (x 0 ++ (x 1).take k0 ++ List.replicate z0 0)) 1 []) 2 (x 2 ++ (x 3).take k1 ++ List.replicate z1 0)) 3 []) false (-1) na ns nc ∧ RStep w w' R v v' := by
  obtain ⟨T, hT⟩ : ∃ y, w.alloc (.cells #[.int .i64 tk0, .int .i64 tz0, .int .i64 tk1, .int .i64 tz1] 32) = y := ⟨_, rfl⟩
  have HW : Hid (w.alloc (.cells #[.int .i64 tk0, .int .i64 tz0, .int .i64 tk1, .int .i64 tz1] 32) = T) := hT
  have hA : Rk T B R v x dead left na ns nc := by rw [← hT]; exact h.below ((Below.refl _ _).alloc (Nat.le_refl _) _)
  have hAS : RStep w T R v v := by rw [← hT]; exact ⟨(Off.refl _ _).alloc _, fun _ _ g => g⟩
  have hNT : w.heap.size < T.heap.size := by rw [← hT]; simp
  have hNF : ∀ k, RFoot R v k → k ≠ w.heap.size := fun k hk => by have := (h.foot_lt hk).2; omega
  -- what the tears' cells hold, as long as only the disk's own blocks are touched
  have hTC : ∀ (W : World) (v' : Nat → Value), RStep T W R v v' → W.cell? ⟨w.heap.size, 0, none⟩ = some (.int .i64 tk0) ∧ W.cell? ⟨w.heap.size, 1, none⟩ = some (.int .i64 tz0) ∧ W.cell? ⟨w.heap.size, 2, none⟩ = some (.int .i64 tk1) ∧ W.cell? ⟨w.heap.size, 3, none⟩ = some (.int .i64 tz1) := fun W v' hs => by
    have hc : ∀ q, W.cell? ⟨w.heap.size, q, none⟩ = T.cell? ⟨w.heap.size, q, none⟩ := fun q => hs.off.cell (p := ⟨w.heap.size, q, none⟩) hNT (fun p => hNF _ p rfl)
    refine ⟨by rw [hc, ← hT]; simp, by rw [hc, ← hT]; simp, by rw [hc, ← hT]; simp, by rw [hc, ← hT]; simp⟩
  have HTC : Hid (∀ (W : World) (v' : Nat → Value), RStep T W R v v' → W.cell? ⟨w.heap.size, 0, none⟩ = some (.int .i64 tk0) ∧ W.cell? ⟨w.heap.size, 1, none⟩ = some (.int .i64 tz0) ∧ W.cell? ⟨w.heap.size, 2, none⟩ = some (.int .i64 tk1) ∧ W.cell? ⟨w.heap.size, 3, none⟩ = some (.int .i64 tz1)) := hTC
  have HS : Hid (RStep w T R v v ∧ R < w.heap.size) := ⟨hAS, h.hR⟩
  have hkb0 : k0 ≤ (x 1).length := by unfold betw at hk0; omega
  have hkb1 : k1 ≤ (x 3).length := by unfold betw at hk1; omega
  have hzb0 : z0 ≤ (x 1).length - k0 := by unfold betw at hz0; omega
  have hzb1 : z1 ≤ (x 3).length - k1 := by unfold betw at hz1; omega
  have HQ0 : Hid (∀ W : World, Calls Try.prog 73 #[.int .i64 tk0, .int .i64 ((x 1).length : Int)] W fun e w' => e = .returned (.int .i64 (k0 : Int)) ∧ w' = W) := fun W => rbetween_any _ _ _ W hk0
  have HZ0 : Hid (∀ W : World, Calls Try.prog 73 #[.int .i64 tz0, .int .i64 (((x 1).length : Int) - (k0 : Int))] W fun e w' => e = .returned (.int .i64 (z0 : Int)) ∧ w' = W) := fun W => by
    have h9 := rbetween_any tz0 ((x 1).length - k0) z0 W (by rw [show (((x 1).length - k0 : Nat) : Int) = ((x 1).length : Int) - k0 by omega]; exact hz0)
    rw [show (((x 1).length - k0 : Nat) : Int) = ((x 1).length : Int) - k0 by omega] at h9
    exact h9
  have HQ1 : Hid (∀ W : World, Calls Try.prog 73 #[.int .i64 tk1, .int .i64 ((x 3).length : Int)] W fun e w' => e = .returned (.int .i64 (k1 : Int)) ∧ w' = W) := fun W => rbetween_any _ _ _ W hk1
  have HZ1 : Hid (∀ W : World, Calls Try.prog 73 #[.int .i64 tz1, .int .i64 (((x 3).length : Int) - (k1 : Int))] W fun e w' => e = .returned (.int .i64 (z1 : Int)) ∧ w' = W) := fun W => by
    have h9 := rbetween_any tz1 ((x 3).length - k1) z1 W (by rw [show (((x 3).length - k1 : Nat) : Int) = ((x 3).length : Int) - k1 by omega]; exact hz1)
    rw [show (((x 3).length - k1 : Nat) : Int) = ((x 3).length : Int) - k1 by omega] at h9
    exact h9
  have HB : Hid (k0 ≤ (x 1).length ∧ k1 ≤ (x 3).length ∧ z0 ≤ (x 1).length - k0 ∧ z1 ≤ (x 3).length - k1 ∧ (x 0).length + (x 1).length ≤ 16777216 ∧ (x 2).length + (x 3).length ≤ 16777216) := ⟨hkb0, hkb1, hzb0, hzb1, hs0, hs1⟩
  have HK : Hid (Rk T B R v x dead left na ns nc ∧ RStep T T R v v) := ⟨hA, RStep.refl _ _ _⟩
  clear h hT hA hAS hTC hk0 hz0 hk1 hz1 hkb0 hkb1 hzb0 hzb1 hs0 hs1 hNF hNT
  go_enter Try.func44, Try.ntmps44
  go_wp2_with fail
  rw [HW.out]
  refine wp_loop_rounds 3 ?_
  rw [rounds_succ]
  obtain ⟨hc00, hc01, hc02, hc03⟩ := HTC.out _ _ HK.out.2
  obtain ⟨at0, ct0, et0, hcap0, _, hpt0⟩ := (HK.out.1.row 1 (by decide)).slice
  have HX0 : Hid (x 1 = x 1 ∧ x 0 = x 0 ∧ (x 1).length = (x 1).length ∧ (x 0).length = (x 0).length) := ⟨by first | rfl | simp [upd], by first | rfl | simp [upd], by first | rfl | simp [upd], by first | rfl | simp [upd]⟩
  rw [HX0.out.1] at et0 hcap0 hpt0
  have HT0 : Hid (v 1 = .slice at0 (x 1).length ct0 ∧ (at0 = none → ct0 = 0) ∧ k0 ≤ ct0 ∧ x 1 = x 1 ∧ x 0 = x 0) := ⟨et0, fun e => (hpt0 e).2, Nat.le_trans (by have := HB.out; omega) hcap0, HX0.out.1, HX0.out.2.1⟩
  have kt0 := HK.out.1.cell 1 (by decide)
  have ks0 := HK.out.1.cell 0 (by decide)
  rw [HT0.out.1] at kt0
  have hwr0 : IntKind.i64.wrap (((x 1).length : Int) - (k0 : Int)) = ((x 1).length : Int) - (k0 : Int) := wrap_small _ (by have := HB.out; omega) (by have := HB.out; omega)
  clear et0 hcap0 hpt0
  go_wp2_with fail
  go_quiet ((go_at_call 73; first | exact Calls.quiet_of_same (HQ0.out _) | exact rq_plus (HQ0.out _)))
  have HKa : Hid (Rk (T.drewN nq) B R v x dead left na ns nc ∧ RStep T (T.drewN nq) R v v) := ⟨HK.out.1.drewN _, HK.out.2.trans (RStep.drewN _ _ _ _)⟩
  obtain ⟨A0, hA0⟩ : ∃ y, T.drewN nq = y := ⟨_, rfl⟩
  rw [hA0] at HKa ⊢
  clear hA0 hc00 hc01 hc02 hc03 kt0 ks0 HK nq
  obtain ⟨hc00, hc01, hc02, hc03⟩ := HTC.out _ _ HKa.out.2
  have kt0 := HKa.out.1.cell 1 (by decide)
  rw [HT0.out.1] at kt0
  go_wp2_with fail
  go_quiet ((go_at_call 73; first | exact Calls.quiet_of_same (HZ0.out _) | exact rq_plus (HZ0.out _)))
  have HKb : Hid (Rk (A0.drewN nq) B R v x dead left na ns nc ∧ RStep T (A0.drewN nq) R v v) := ⟨HKa.out.1.drewN _, HKa.out.2.trans (RStep.drewN _ _ _ _)⟩
  obtain ⟨C0, hC0⟩ : ∃ y, A0.drewN nq = y := ⟨_, rfl⟩
  rw [hC0] at HKb ⊢
  clear hC0 hc00 hc01 hc02 hc03 kt0 HKa nq hwr0
  have kt0 := HKb.out.1.cell 1 (by decide)
  have ks0 := HKb.out.1.cell 0 (by decide)
  have rt0 := HKb.out.1.row 1 (by decide)
  rw [HT0.out.1] at kt0 rt0
  have HY0 : Hid (Byts C0 at0 k0 ((x 1).take k0)) := by
    have h6 := rt0
    first
      | exact h6.cutTo (m := k0) (by have := HB.out; omega)
      | (rw [HX0.out.1] at h6; exact h6.cutTo (m := k0) (by have := HB.out; omega))
  have hsl0 : ∀ W, (Instr.sliceAt 25 (.slice at0 (x 1).length ct0) none (some (.int .i64 (k0 : Int))) none).run Try.prog W = .ok (.slice at0 k0 ct0) W := fun W => sliceTo _ _ _ _ W HT0.out.2.1 HT0.out.2.2.1
  clear rt0
  go_wp2_with fail
  go_region_law (refine step_app (w0 := C0) rfl (.tmp 46) (.tmp 52) rfl rfl rfl (HKb.out.1.row 0 (by decide)) HY0.out HT0.out.2.1 (by have h8 := HB.out; have h7 := HX0.out.2.2.2; omega) (by have h1 := HKb.out.1.hB; have h2 := HKb.out.1.hR; omega) (by first | exact Off.refl _ _ | exact (Off.refl _ _).drew | exact (Off.refl _ _).drewN _) ?_; intro a' n' c' w3 hR hO hA; have d1 : w3.cell? ⟨R, 0, none⟩ = some (v 0) := (hO.cell (p := ⟨R, 0, none⟩) HKb.out.1.hR (HKb.out.1.own 0 (by decide))).trans (HKb.out.1.cell 0 (by decide)); have d2 : w3.frozen? ⟨R, 0, none⟩ = false := (hO.frozen (p := ⟨R, 0, none⟩) HKb.out.1.hR (HKb.out.1.own 0 (by decide))).trans (HKb.out.1.fr 0))
  all_goals
    have HKc : Hid (Rk (w3.setCell ⟨R, 0, none⟩ (.slice a' n' c')) B R (upd v 0 (.slice a' n' c')) (upd x 0 (x 0 ++ (x 1).take k0)) dead left na ns nc ∧ RStep T (w3.setCell ⟨R, 0, none⟩ (.slice a' n' c')) R v (upd v 0 (.slice a' n' c'))) := by
      obtain ⟨h1, h2⟩ := HKb.out.1.put (q := 0) (by decide) hO hR hA (by rw [List.length_append, List.length_take]; have h8 := HB.out; have h7 := HX0.out.2.2.2; omega)
      exact ⟨h1, HKb.out.2.trans h2⟩
    clear hR hO hA d1 d2 HKb kt0 ks0 hsl0
    obtain ⟨D0, hD0⟩ : ∃ y, w3.setCell ⟨R, 0, none⟩ (.slice a' n' c') = y := ⟨_, rfl⟩
    rw [hD0] at HKc ⊢
    clear hD0
    go_wp2_with fail
    go_loopw [8] (fun t8 wx => ∃ j : Nat, j ≤ z0 ∧ t8 = .int .i64 j ∧ Hid (∃ an nn cn, Rk wx B R (upd v 0 (.slice an nn cn)) (upd x 0 (x 0 ++ (x 1).take k0 ++ List.replicate j 0)) dead left na ns nc ∧ RStep T wx R v (upd v 0 (.slice an nn cn)))) (fun t8 _ => z0 - (intOf t8).toNat)
    case atStart => exact ⟨0, Nat.zero_le _, rfl, _, _, _, by simpa using HKc.out.1, HKc.out.2⟩
    case round =>
      obtain ⟨j, hj, rfl, HJ⟩ := hrel
      obtain ⟨an, nn, cn, hk, hs⟩ := HJ.out
      have js := hk.cell 0 (by decide)
      rw [upd_same] at js
      have jr := hk.row 0 (by decide)
      rw [upd_same, upd_same] at jr
      by_cases hlt : j < z0
      · have hlt1 : (j : Int) < z0 := by omega
        have hzb : z0 ≤ 16777216 := by have := HB.out; omega
        obtain ⟨a9, n9, c9, w9, e9, r9, o9, b9⟩ := rpush jr (by have h1 := hk.hB; have h2 := hk.hR; omega) (by rw [List.length_append, List.length_append, List.length_take, List.length_replicate]; have h8 := HB.out; have h7 := HX0.out.2.2.2; omega) 0
        have nR : (Value.slice an nn cn).ownBlock ≠ some R := by have := hk.own 0 (by decide); rw [upd_same] at this; exact this
        have g1 : (wr.alloc (.cells #[.int .u8 0] 5)).cell? ⟨R, 0, none⟩ = some (.slice an nn cn) := by rw [World.cell?_alloc_lt _ _ ⟨R, 0, none⟩ hk.hR]; exact js
        have d1 : w9.cell? ⟨R, 0, none⟩ = some (.slice an nn cn) := by rw [o9.cell (p := ⟨R, 0, none⟩) hk.hR nR]; exact js
        have d2 : w9.frozen? ⟨R, 0, none⟩ = false := by rw [o9.frozen (p := ⟨R, 0, none⟩) hk.hR nR]; exact hk.fr 0
        have HL : Hid (∃ an nn cn, Rk (w9.setCell ⟨R, 0, none⟩ (.slice a9 n9 c9)) B R (upd v 0 (.slice an nn cn)) (upd x 0 (x 0 ++ (x 1).take k0 ++ List.replicate (j + 1) 0)) dead left na ns nc ∧ RStep T (w9.setCell ⟨R, 0, none⟩ (.slice a9 n9 c9)) R v (upd v 0 (.slice an nn cn))) := by
          obtain ⟨h1, h2⟩ := hk.put (q := 0) (by decide) (w' := w9) (y := .slice a9 n9 c9) (zs := x 0 ++ (x 1).take k0 ++ List.replicate j 0 ++ [0]) (by rw [upd_same]; exact o9) r9 (by rw [upd_same]; exact b9) (by rw [List.length_append, List.length_append, List.length_append, List.length_take, List.length_replicate, List.length_singleton]; have h8 := HB.out; have h7 := HX0.out.2.2.2; omega)
          rw [upd_upd, upd_upd] at h1
          rw [upd_upd] at h2
          rw [show List.replicate (j + 1) (0 : Int) = List.replicate j 0 ++ [0] from List.replicate_succ', ← List.append_assoc]
          exact ⟨_, _, _, h1, hs.trans h2⟩
        clear hk hs jr r9 o9 b9 HJ nR
        go_wp2_with (at_builtin; refine wpList_append_run rfl (.tmp 65) (.tmp 66) 25 _ rfl e9 ?_)
        go_roundw
        case rel => exact ⟨j + 1, hlt, by go_num, HL⟩
        case measure => simp [intOf]; omega
      · have hlt1 : ¬ (j : Int) < z0 := by omega
        obtain rfl : z0 = j := by omega
        have kt0 := hk.cell 1 (by decide)
        have ft0 := hk.fr 1
        obtain ⟨E0, hE0⟩ : ∃ y, wr.setCell ⟨R, 1, none⟩ (.slice none 0 0) = y := ⟨_, rfl⟩
        have HE0 : Hid (wr.setCell ⟨R, 1, none⟩ (.slice none 0 0) = E0) := hE0
        have HK : Hid (Rk E0 B R (upd (upd v 0 (.slice an nn cn)) 1 (.slice none 0 0)) (upd (upd x 0 (x 0 ++ (x 1).take k0 ++ List.replicate z0 0)) 1 []) dead left na ns nc ∧ RStep T E0 R v (upd (upd v 0 (.slice an nn cn)) 1 (.slice none 0 0))) := by
          rw [← hE0]
          obtain ⟨h1, h2⟩ := hk.put (q := 1) (by decide) (w' := wr) (y := .slice none 0 0) (zs := []) (Off.refl _ _) (Row.nil _ _) (fun g e => by cases e) (by simp)
          exact ⟨h1, hs.trans h2⟩
        clear hk hs jr HJ js hE0
        go_wp2_with fail
        rw [HE0.out]
        clear kt0 ft0 HE0
        rw [rounds_succ]
        obtain ⟨hc10, hc11, hc12, hc13⟩ := HTC.out _ _ HK.out.2
        obtain ⟨at1, ct1, et1, hcap1, _, hpt1⟩ := (HK.out.1.row 3 (by decide)).slice
        have HX1 : Hid ((upd (upd x 0 (x 0 ++ (x 1).take k0 ++ List.replicate z0 0)) 1 []) 3 = x 3 ∧ (upd (upd x 0 (x 0 ++ (x 1).take k0 ++ List.replicate z0 0)) 1 []) 2 = x 2 ∧ ((upd (upd x 0 (x 0 ++ (x 1).take k0 ++ List.replicate z0 0)) 1 []) 3).length = (x 3).length ∧ ((upd (upd x 0 (x 0 ++ (x 1).take k0 ++ List.replicate z0 0)) 1 []) 2).length = (x 2).length) := ⟨by first | rfl | simp [upd], by first | rfl | simp [upd], by first | rfl | simp [upd], by first | rfl | simp [upd]⟩
        rw [HX1.out.1] at et1 hcap1 hpt1
        have HT1 : Hid ((upd (upd v 0 (.slice an nn cn)) 1 (.slice none 0 0)) 3 = .slice at1 (x 3).length ct1 ∧ (at1 = none → ct1 = 0) ∧ k1 ≤ ct1 ∧ (upd (upd x 0 (x 0 ++ (x 1).take k0 ++ List.replicate z0 0)) 1 []) 3 = x 3 ∧ (upd (upd x 0 (x 0 ++ (x 1).take k0 ++ List.replicate z0 0)) 1 []) 2 = x 2) := ⟨et1, fun e => (hpt1 e).2, Nat.le_trans (by have := HB.out; omega) hcap1, HX1.out.1, HX1.out.2.1⟩
        have kt1 := HK.out.1.cell 3 (by decide)
        have ks1 := HK.out.1.cell 2 (by decide)
        rw [HT1.out.1] at kt1
        have hwr1 : IntKind.i64.wrap (((x 3).length : Int) - (k1 : Int)) = ((x 3).length : Int) - (k1 : Int) := wrap_small _ (by have := HB.out; omega) (by have := HB.out; omega)
        clear et1 hcap1 hpt1
        go_wp2_with fail
        go_quiet ((go_at_call 73; first | exact Calls.quiet_of_same (HQ1.out _) | exact rq_plus (HQ1.out _)))
        have HKa : Hid (Rk (E0.drewN nq) B R (upd (upd v 0 (.slice an nn cn)) 1 (.slice none 0 0)) (upd (upd x 0 (x 0 ++ (x 1).take k0 ++ List.replicate z0 0)) 1 []) dead left na ns nc ∧ RStep T (E0.drewN nq) R v (upd (upd v 0 (.slice an nn cn)) 1 (.slice none 0 0))) := ⟨HK.out.1.drewN _, HK.out.2.trans (RStep.drewN _ _ _ _)⟩
        obtain ⟨A1, hA1⟩ : ∃ y, E0.drewN nq = y := ⟨_, rfl⟩
        rw [hA1] at HKa ⊢
        clear hA1 hc10 hc11 hc12 hc13 kt1 ks1 HK nq
        obtain ⟨hc10, hc11, hc12, hc13⟩ := HTC.out _ _ HKa.out.2
        have kt1 := HKa.out.1.cell 3 (by decide)
        rw [HT1.out.1] at kt1
        go_wp2_with fail
        go_quiet ((go_at_call 73; first | exact Calls.quiet_of_same (HZ1.out _) | exact rq_plus (HZ1.out _)))
        have HKb : Hid (Rk (A1.drewN nq) B R (upd (upd v 0 (.slice an nn cn)) 1 (.slice none 0 0)) (upd (upd x 0 (x 0 ++ (x 1).take k0 ++ List.replicate z0 0)) 1 []) dead left na ns nc ∧ RStep T (A1.drewN nq) R v (upd (upd v 0 (.slice an nn cn)) 1 (.slice none 0 0))) := ⟨HKa.out.1.drewN _, HKa.out.2.trans (RStep.drewN _ _ _ _)⟩
        obtain ⟨C1, hC1⟩ : ∃ y, A1.drewN nq = y := ⟨_, rfl⟩
        rw [hC1] at HKb ⊢
        clear hC1 hc10 hc11 hc12 hc13 kt1 HKa nq hwr1
        have kt1 := HKb.out.1.cell 3 (by decide)
        have ks1 := HKb.out.1.cell 2 (by decide)
        have rt1 := HKb.out.1.row 3 (by decide)
        rw [HT1.out.1] at kt1 rt1
        have HY1 : Hid (Byts C1 at1 k1 ((x 3).take k1)) := by
          have h6 := rt1
          first
            | exact h6.cutTo (m := k1) (by have := HB.out; omega)
            | (rw [HX1.out.1] at h6; exact h6.cutTo (m := k1) (by have := HB.out; omega))
        have hsl1 : ∀ W, (Instr.sliceAt 25 (.slice at1 (x 3).length ct1) none (some (.int .i64 (k1 : Int))) none).run Try.prog W = .ok (.slice at1 k1 ct1) W := fun W => sliceTo _ _ _ _ W HT1.out.2.1 HT1.out.2.2.1
        clear rt1
        go_wp2_with fail
        go_region_law (refine step_app (w0 := C1) rfl (.tmp 46) (.tmp 52) rfl rfl rfl (HKb.out.1.row 2 (by decide)) HY1.out HT1.out.2.1 (by have h8 := HB.out; have h7 := HX1.out.2.2.2; omega) (by have h1 := HKb.out.1.hB; have h2 := HKb.out.1.hR; omega) (by first | exact Off.refl _ _ | exact (Off.refl _ _).drew | exact (Off.refl _ _).drewN _) ?_; intro a' n' c' w3 hR hO hA; have d1 : w3.cell? ⟨R, 2, none⟩ = some ((upd (upd v 0 (.slice an nn cn)) 1 (.slice none 0 0)) 2) := (hO.cell (p := ⟨R, 2, none⟩) HKb.out.1.hR (HKb.out.1.own 2 (by decide))).trans (HKb.out.1.cell 2 (by decide)); have d2 : w3.frozen? ⟨R, 2, none⟩ = false := (hO.frozen (p := ⟨R, 2, none⟩) HKb.out.1.hR (HKb.out.1.own 2 (by decide))).trans (HKb.out.1.fr 2))
        all_goals
          have HKc : Hid (Rk (w3.setCell ⟨R, 2, none⟩ (.slice a' n' c')) B R (upd (upd (upd v 0 (.slice an nn cn)) 1 (.slice none 0 0)) 2 (.slice a' n' c')) (upd (upd (upd x 0 (x 0 ++ (x 1).take k0 ++ List.replicate z0 0)) 1 []) 2 ((upd (upd x 0 (x 0 ++ (x 1).take k0 ++ List.replicate z0 0)) 1 []) 2 ++ (x 3).take k1)) dead left na ns nc ∧ RStep T (w3.setCell ⟨R, 2, none⟩ (.slice a' n' c')) R v (upd (upd (upd v 0 (.slice an nn cn)) 1 (.slice none 0 0)) 2 (.slice a' n' c'))) := by
            obtain ⟨h1, h2⟩ := HKb.out.1.put (q := 2) (by decide) hO hR hA (by rw [List.length_append, List.length_take]; have h8 := HB.out; have h7 := HX1.out.2.2.2; omega)
            exact ⟨h1, HKb.out.2.trans h2⟩
          clear hR hO hA d1 d2 HKb kt1 ks1 hsl1
          obtain ⟨D1, hD1⟩ : ∃ y, w3.setCell ⟨R, 2, none⟩ (.slice a' n' c') = y := ⟨_, rfl⟩
          rw [hD1] at HKc ⊢
          clear hD1
          go_wp2_with fail
          go_loopw [8] (fun t8 wx => ∃ j : Nat, j ≤ z1 ∧ t8 = .int .i64 j ∧ Hid (∃ am nm cm, Rk wx B R (upd (upd (upd v 0 (.slice an nn cn)) 1 (.slice none 0 0)) 2 (.slice am nm cm)) (upd (upd (upd x 0 (x 0 ++ (x 1).take k0 ++ List.replicate z0 0)) 1 []) 2 ((upd (upd x 0 (x 0 ++ (x 1).take k0 ++ List.replicate z0 0)) 1 []) 2 ++ (x 3).take k1 ++ List.replicate j 0)) dead left na ns nc ∧ RStep T wx R v (upd (upd (upd v 0 (.slice an nn cn)) 1 (.slice none 0 0)) 2 (.slice am nm cm)))) (fun t8 _ => z1 - (intOf t8).toNat)
          case atStart => exact ⟨0, Nat.zero_le _, rfl, _, _, _, by simpa using HKc.out.1, HKc.out.2⟩
          case round =>
            obtain ⟨j, hj, rfl, HJ⟩ := hrel
            obtain ⟨am, nm, cm, hk, hs⟩ := HJ.out
            have js := hk.cell 2 (by decide)
            rw [upd_same] at js
            have jr := hk.row 2 (by decide)
            rw [upd_same, upd_same] at jr
            by_cases hlt : j < z1
            · have hlt1 : (j : Int) < z1 := by omega
              have hzb : z1 ≤ 16777216 := by have := HB.out; omega
              obtain ⟨a9, n9, c9, w9, e9, r9, o9, b9⟩ := rpush jr (by have h1 := hk.hB; have h2 := hk.hR; omega) (by rw [List.length_append, List.length_append, List.length_take, List.length_replicate]; have h8 := HB.out; have h7 := HX1.out.2.2.2; omega) 0
              have nR : (Value.slice am nm cm).ownBlock ≠ some R := by have := hk.own 2 (by decide); rw [upd_same] at this; exact this
              have g1 : (wr.alloc (.cells #[.int .u8 0] 5)).cell? ⟨R, 2, none⟩ = some (.slice am nm cm) := by rw [World.cell?_alloc_lt _ _ ⟨R, 2, none⟩ hk.hR]; exact js
              have d1 : w9.cell? ⟨R, 2, none⟩ = some (.slice am nm cm) := by rw [o9.cell (p := ⟨R, 2, none⟩) hk.hR nR]; exact js
              have d2 : w9.frozen? ⟨R, 2, none⟩ = false := by rw [o9.frozen (p := ⟨R, 2, none⟩) hk.hR nR]; exact hk.fr 2
              have HL : Hid (∃ am nm cm, Rk (w9.setCell ⟨R, 2, none⟩ (.slice a9 n9 c9)) B R (upd (upd (upd v 0 (.slice an nn cn)) 1 (.slice none 0 0)) 2 (.slice am nm cm)) (upd (upd (upd x 0 (x 0 ++ (x 1).take k0 ++ List.replicate z0 0)) 1 []) 2 ((upd (upd x 0 (x 0 ++ (x 1).take k0 ++ List.replicate z0 0)) 1 []) 2 ++ (x 3).take k1 ++ List.replicate (j + 1) 0)) dead left na ns nc ∧ RStep T (w9.setCell ⟨R, 2, none⟩ (.slice a9 n9 c9)) R v (upd (upd (upd v 0 (.slice an nn cn)) 1 (.slice none 0 0)) 2 (.slice am nm cm))) := by
                obtain ⟨h1, h2⟩ := hk.put (q := 2) (by decide) (w' := w9) (y := .slice a9 n9 c9) (zs := (upd (upd x 0 (x 0 ++ (x 1).take k0 ++ List.replicate z0 0)) 1 []) 2 ++ (x 3).take k1 ++ List.replicate j 0 ++ [0]) (by rw [upd_same]; exact o9) r9 (by rw [upd_same]; exact b9) (by rw [List.length_append, List.length_append, List.length_append, List.length_take, List.length_replicate, List.length_singleton]; have h8 := HB.out; have h7 := HX1.out.2.2.2; omega)
                rw [upd_upd, upd_upd] at h1
                rw [upd_upd] at h2
                rw [show List.replicate (j + 1) (0 : Int) = List.replicate j 0 ++ [0] from List.replicate_succ', ← List.append_assoc]
                exact ⟨_, _, _, h1, hs.trans h2⟩
              clear hk hs jr r9 o9 b9 HJ nR
              go_wp2_with (at_builtin; refine wpList_append_run rfl (.tmp 65) (.tmp 66) 25 _ rfl e9 ?_)
              go_roundw
              case rel => exact ⟨j + 1, hlt, by go_num, HL⟩
              case measure => simp [intOf]; omega
            · have hlt1 : ¬ (j : Int) < z1 := by omega
              obtain rfl : z1 = j := by omega
              have kt1 := hk.cell 3 (by decide)
              have ft1 := hk.fr 3
              obtain ⟨E1, hE1⟩ : ∃ y, wr.setCell ⟨R, 3, none⟩ (.slice none 0 0) = y := ⟨_, rfl⟩
              have HE1 : Hid (wr.setCell ⟨R, 3, none⟩ (.slice none 0 0) = E1) := hE1
              have HK : Hid (Rk E1 B R (upd (upd (upd (upd v 0 (.slice an nn cn)) 1 (.slice none 0 0)) 2 (.slice am nm cm)) 3 (.slice none 0 0)) (upd (upd (upd (upd x 0 (x 0 ++ (x 1).take k0 ++ List.replicate z0 0)) 1 []) 2 ((upd (upd x 0 (x 0 ++ (x 1).take k0 ++ List.replicate z0 0)) 1 []) 2 ++ (x 3).take k1 ++ List.replicate z1 0)) 3 []) dead left na ns nc ∧ RStep T E1 R v (upd (upd (upd (upd v 0 (.slice an nn cn)) 1 (.slice none 0 0)) 2 (.slice am nm cm)) 3 (.slice none 0 0))) := by
                rw [← hE1]
                obtain ⟨h1, h2⟩ := hk.put (q := 3) (by decide) (w' := wr) (y := .slice none 0 0) (zs := []) (Off.refl _ _) (Row.nil _ _) (fun g e => by cases e) (by simp)
                exact ⟨h1, hs.trans h2⟩
              clear hk hs jr HJ js hE1
              go_wp2_with fail
              rw [HE1.out]
              clear kt1 ft1 HE1
              rw [rounds_succ]
              have HKz := HK.out.1
              have c4 := HKz.c4
              have c5 := HKz.c5
              have f4 := HKz.fr 4
              have f5 := HKz.fr 5
              have HFN : Hid (∃ v', Rk ((E1.setCell ⟨R, 4, none⟩ (.bool false)).setCell ⟨R, 5, none⟩ (.int .i64 (-1))) B R v' (upd (upd (upd (upd x 0 (x 0 ++ (x 1).take k0 ++ List.replicate z0 0)) 1 []) 2 (x 2 ++ (x 3).take k1 ++ List.replicate z1 0)) 3 []) false (-1) na ns nc ∧ RStep w ((E1.setCell ⟨R, 4, none⟩ (.bool false)).setCell ⟨R, 5, none⟩ (.int .i64 (-1))) R v v') := by
                obtain ⟨h1, h2⟩ := HKz.set4 false
                obtain ⟨h3, h4⟩ := h1.set5 (-1) (by omega)
                refine ⟨_, ?_, HS.out.1.trans (HK.out.2.trans (h2.trans h4))⟩
                have e2 : upd (upd x 0 (x 0 ++ (x 1).take k0 ++ List.replicate z0 0)) 1 [] 2 = x 2 := by simp [upd]
                rw [e2] at h3
                exact h3
              clear HKz HK
              go_wp2_with fail
              go_end0
              exact ⟨rfl, HFN.out⟩

end Go.Proofs.Ytlgjjemfckmidaa
