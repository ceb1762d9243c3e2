import Derived.Test.YtoijhecphgdfnaaGreatDoorDcPd
import Derived.Deep.RegionLaw
import Derived.Deep.CutRange
import Derived.Laws.EntriesVeiled
import Derived.Deep.WholeRow
/-
  The program's owedBy.
-/
namespace Go.Proofs.YtoijhecphgdfnaaGreatDoor
open Go.RowKit

theorem ear_is (e : Bool) (a p : Int) : (!aaB e p && (aeB e p || (!caB e a && ceB e a))) = earB e a p (caB e a) := by
  unfold earB aaB aeB caB ceB
  cases e
  · simp
  · by_cases h1 : p = 1 <;> by_cases h2 : p = 2 <;> by_cases h3 : p = 3 <;> by_cases g1 : a = 1 <;> by_cases g2 : a = 2 <;> by_cases g3 : a = 3 <;> simp_all
/-- The owed one in memory, beside the conditions and the result. -/
structure OwI (w : World) (e : Bool) (a p : Int) (q1 q2 : Bool) (b : Nat) (wx : World) : Prop where
  c : Box wx w.heap.size #[.bool e, .int .i64 a, .int .i64 p]
  r : Box wx (w.heap.size + 1) #[.bool false, .bool false, .bool false]
  o : Box wx b #[.bool q1, .bool q2, .bool false]
  ge : w.heap.size + 2 ≤ b
  bl : Below w.heap.size w wx
  pv : PVc wx
theorem OwI.below {w : World} {e : Bool} {a p : Int} {q1 q2 : Bool} {b : Nat} {wx wy : World} (h : OwI w e a p q1 q2 b wx) (hb : Below wx.heap.size wx wy) : OwI w e a p q1 q2 b wy :=
  ⟨h.c.below hb, h.r.below hb, h.o.below hb, h.ge, below_then h.bl hb, h.pv.below hb⟩
theorem Box.pDrew {w : World} {b : Nat} {cs : Array Value} (h : Box w b cs) : Box w.drew b cs := ⟨h.lt, h.cell, h.free⟩
abbrev OwV (w V : World) (e : Bool) (a p : Int) : Prop := Below w.heap.size w V ∧ PVc V ∧ Box V w.heap.size #[.bool e, .int .i64 a, .int .i64 p] ∧ Box V (w.heap.size + 1) #[.bool false, .bool false, .bool false] ∧ V.heap.size = w.heap.size + 2
theorem ow_fin {w x : World} {b : Nat} (h : Below w.heap.size w x) (hb : w.heap.size + 2 ≤ b) (v r0 r1 r2 : Value) : Below w.heap.size w ((((x.setCell ⟨b, 2, none⟩ v).setCell ⟨w.heap.size + 1, 0, none⟩ r0).setCell ⟨w.heap.size + 1, 1, none⟩ r1).setCell ⟨w.heap.size + 1, 2, none⟩ r2) :=
  (((h.setCell (p := ⟨b, 2, none⟩) (by simp only; omega) _).setCell (p := ⟨w.heap.size + 1, 0, none⟩) (by simp only; omega) _).setCell (p := ⟨w.heap.size + 1, 1, none⟩) (by simp only; omega) _).setCell (p := ⟨w.heap.size + 1, 2, none⟩) (by simp only; omega) _
theorem ow_a {w V y : World} {e : Bool} {a p : Int} {q1 q2 : Bool} (q : OwV w V e a p) (h : Hid (Below V.heap.size V y)) : OwI w e a p q1 q2 y.heap.size (y.alloc (.cells #[.bool q1, .bool q2, .bool false] 161)) :=
  ⟨(q.2.2.1.below h.out).alloc _, (q.2.2.2.1.below h.out).alloc _, Box.new _ _ _, by have := h.out.size; have := q.2.2.2.2; omega, below_then q.1 (bl_alloc h.out _), q.2.1.below (bl_alloc h.out _)⟩
theorem ow_b {w V y : World} {e : Bool} {a p : Int} {q1 q2 : Bool} {b : Nat} (q : OwV w V e a p) (h : Hid (Below V.heap.size V y)) (hb : Box y b #[.bool false, .bool false, .bool false]) (hg : V.heap.size ≤ b) : OwI w e a p q1 q2 b (((y.setCell ⟨b, 0, none⟩ (.bool q1)).setCell ⟨b, 1, none⟩ (.bool q2)).setCell ⟨b, 2, none⟩ (.bool false)) := by
  have hz := q.2.2.2.2
  have hs : Below V.heap.size V (((y.setCell ⟨b, 0, none⟩ (.bool q1)).setCell ⟨b, 1, none⟩ (.bool q2)).setCell ⟨b, 2, none⟩ (.bool false)) := ((h.out.setCell (p := ⟨b, 0, none⟩) hg _).setCell (p := ⟨b, 1, none⟩) hg _).setCell (p := ⟨b, 2, none⟩) hg _
  exact ⟨q.2.2.1.below hs, q.2.2.2.1.below hs, hb.pPut3 _ _ _, by omega, below_then q.1 hs, q.2.1.below hs⟩
set_option maxRecDepth 100000 in
set_option maxHeartbeats 4000000 in
theorem owedBy_any (e : Bool) (a p : Int) (w : World) (hV : PVc w) : Calls Tryz.prog 88 #[.agg #[.bool e, .int .i64 a, .int .i64 p]] w fun r w' => r = .returned (.agg #[.bool (caB e a), .bool (aaB e p), .bool (earB e a p (caB e a))]) ∧ Below w.heap.size w w' := by
  have b1 : Below w.heap.size w ((w.alloc (.cells #[.bool e, .int .i64 a, .int .i64 p] 45)).alloc (.cells #[.bool false, .bool false, .bool false] 161)) := ((Below.refl _ _).alloc (Nat.le_refl _) _).alloc (by simp) _
  have hV' := hV.below b1
  have xc : Box ((w.alloc (.cells #[.bool e, .int .i64 a, .int .i64 p] 45)).alloc (.cells #[.bool false, .bool false, .bool false] 161)) w.heap.size #[.bool e, .int .i64 a, .int .i64 p] := (Box.new' _ #[.bool e, .int .i64 a, .int .i64 p] 45 w.heap.size rfl).alloc _
  have xr : Box ((w.alloc (.cells #[.bool e, .int .i64 a, .int .i64 p] 45)).alloc (.cells #[.bool false, .bool false, .bool false] 161)) (w.heap.size + 1) #[.bool false, .bool false, .bool false] := Box.new' _ #[.bool false, .bool false, .bool false] 161 (w.heap.size + 1) (by simp)
  have sz : ((w.alloc (.cells #[.bool e, .int .i64 a, .int .i64 p] 45)).alloc (.cells #[.bool false, .bool false, .bool false] 161)).heap.size = w.heap.size + 2 := by simp
  obtain ⟨V, hW⟩ : ∃ V, (w.alloc (.cells #[.bool e, .int .i64 a, .int .i64 p] 45)).alloc (.cells #[.bool false, .bool false, .bool false] 161) = V := ⟨_, rfl⟩
  rw [hW] at b1 hV' xc xr sz
  have HQ : Hid (OwV w V e a p) := ⟨b1, hV', xc, xr, sz⟩
  have HM : Hid (∀ s x, Below V.heap.size V x → Calls Tryz.prog 86 #[.agg #[.bool e, .int .i64 a, .int .i64 p], .string s] x fun r x' => r = .returned (.bool (sentB e a p s)) ∧ Hid (Below V.heap.size V x' ∧ Below x.heap.size x x')) := fun s x hx => (may_any e a p s x (hV'.below hx)).mono fun _ _ ⟨h, hb⟩ => ⟨h, below_then hx hb, hb⟩
  have HMc : Hid (∀ s x, PVc x → Calls Tryz.prog 86 #[.agg #[.bool e, .int .i64 a, .int .i64 p], .string s] x fun r x' => r = .returned (.bool (sentB e a p s)) ∧ Below x.heap.size x x') := fun s x hx => may_any e a p s x hx
  obtain ⟨lc, kc, fc⟩ := xc
  have KC1 : Hid (∀ x, Below V.heap.size V x → ∀ o, x.cell? ⟨w.heap.size, o, none⟩ = ((#[.bool e, .int .i64 a, .int .i64 p] : Array Value))[o]?) := fun x hx o => (hx.cell (p := ⟨w.heap.size, o, none⟩) lc).trans (kc o)
  rw [← ear_is]
  have HE1 : Hid (sentB e a p ⟨#[67, 65]⟩ = caB e a ∧ sentB e a p ⟨#[67, 69]⟩ = ceB e a ∧ sentB e a p ⟨#[65, 65]⟩ = aaB e p ∧ sentB e a p ⟨#[65, 69]⟩ = aeB e p) := ⟨sent_1 e a p, sent_2 e a p, sent_4 e a p, sent_5 e a p⟩
  obtain ⟨q1, hq1⟩ : ∃ q, caB e a = q := ⟨_, rfl⟩
  obtain ⟨q2, hq2⟩ : ∃ q, aaB e p = q := ⟨_, rfl⟩
  obtain ⟨q3, hq3⟩ : ∃ q, aeB e p = q := ⟨_, rfl⟩
  obtain ⟨q4, hq4⟩ : ∃ q, ceB e a = q := ⟨_, rfl⟩
  rw [hq1, hq2, hq3, hq4] at HE1 ⊢
  clear hV hV' b1 xr sz hq1 hq2 hq3 hq4 fc
  go_enter Tryz.func88, Tryz.ntmps88
  go_upto_region 1 with fail
  go_cut [3] from 4 to 26 (fun t3 wx => ∃ b : Nat, t3 = .pointer (some ⟨b, 0, none⟩) ∧ Hid (OwI w e a p q1 q2 b wx))
  case first =>
    go_region_law (go_simp; go_at_call 86; refine (HM.out _ _ ?_).mono ?_; (repeat' (first | exact Below.refl _ _ | exact Hid.out (by assumption) | refine bl_alloc ?_ _ | refine Below.drew ?_)); rintro _ w5 ⟨rfl, hh5⟩; have hb5 : Hid (Below V.heap.size V w5) := hh5.out.1; have hq5 := KC1.out w5 hb5.out; have hl5 := Nat.lt_of_lt_of_le lc hb5.out.size; have hc5 := (held_of hh5.out.2).cell; have hf5 := (held_of hh5.out.2).froz; have hz5 := (held_of hh5.out.2).size; go_wp2_with fail)
    all_goals
      go_wp2_with fail
      go_meet
      refine ⟨_, rfl, ?_⟩
      rw [HE1.out.1, HE1.out.2.2.1]
      first
        | exact ow_a HQ.out (by assumption)
        | exact ow_b HQ.out (by assumption) (Box.below (Box.new _ _ _) (And.right (Hid.out (by assumption)))) (by first | exact Nat.le_refl _ | exact (Hid.out (by assumption : Hid (Below V.heap.size V _))).size)
        | exact ow_b HQ.out (by assumption) (Box.below (Box.below (Box.pDrew (Box.new _ _ _)) (And.right (Hid.out (by assumption)))) (And.right (Hid.out (by assumption)))) (by first | exact Nat.le_refl _ | exact (Hid.out (by assumption : Hid (Below V.heap.size V _))).size)
        | exact ow_b HQ.out (by assumption) (Box.below (Box.below (Box.new _ _ _) (And.right (Hid.out (by assumption)))) (And.right (Hid.out (by assumption)))) (by first | exact Nat.le_refl _ | exact (Hid.out (by assumption : Hid (Below V.heap.size V _))).size)
  case rest =>
    obtain ⟨b, rfl, HO⟩ := hcut
    clear HM HQ KC1 lc kc
    have HC3 := HMc.out ⟨#[65, 69]⟩ wc HO.out.pv
    rw [HE1.out.2.2.2] at HC3
    have HC4 : Hid (∀ x, Below wc.heap.size wc x → Calls Tryz.prog 86 #[.agg #[.bool e, .int .i64 a, .int .i64 p], .string ⟨#[67, 69]⟩] x fun r x' => r = .returned (.bool q4) ∧ Below x.heap.size x x') := fun x hx => by
      have := HMc.out ⟨#[67, 69]⟩ x (HO.out.pv.below hx); rw [HE1.out.2.1] at this; exact this
    have HG : Hid (w.heap.size + 2 ≤ b) := HO.out.ge
    have n1 : ¬ b = w.heap.size + 1 := by have := HG.out; omega
    have n2 : ¬ w.heap.size + 1 = b := by omega
    have n3 : ¬ b = w.heap.size := by have := HG.out; omega
    have n4 : ¬ w.heap.size = b := by omega
    obtain ⟨lc, kc, fc⟩ := HO.out.c
    obtain ⟨lr, kr, fr⟩ := HO.out.r
    obtain ⟨lo, ko, fo⟩ := HO.out.o
    clear HMc HE1
    cases q2 with
    | true =>
      clear HC3 HC4
      go_wp2_with fail
      refine bodyPost_ret (v := .agg #[.bool q1, .bool true, .bool false]) ?_ rfl ⟨rfl, ?_⟩
      · simp [results, Tryz.results88, go_sem, kr]
      · exact ow_fin HO.out.bl HG.out _ _ _ _
    | false =>
      go_wp2_with fail
      refine HC3.mono ?_
      rintro _ w1 ⟨rfl, b1⟩
      have HO1 : Hid (OwI w e a p q1 false b w1) := HO.out.below b1
      have HB1 : Hid (Below wc.heap.size wc w1) := b1
      clear lc kc fc lr kr fr lo ko fo HC3 b1 HO
      obtain ⟨lc, kc, fc⟩ := HO1.out.c
      obtain ⟨lr, kr, fr⟩ := HO1.out.r
      obtain ⟨lo, ko, fo⟩ := HO1.out.o
      cases q3 with
      | true =>
        go_wp2_with fail
        refine bodyPost_ret (v := .agg #[.bool q1, .bool false, .bool true]) ?_ rfl ⟨by simp, ?_⟩
        · simp [results, Tryz.results88, go_sem, kr]
        · exact ow_fin HO1.out.bl HG.out _ _ _ _
      | false =>
        cases q1 with
        | true =>
          go_wp2_with fail
          refine bodyPost_ret (v := .agg #[.bool true, .bool false, .bool false]) ?_ rfl ⟨by simp, ?_⟩
          · simp [results, Tryz.results88, go_sem, kr]
          · exact ow_fin HO1.out.bl HG.out _ _ _ _
        | false =>
          go_wp2_with fail
          refine (HC4.out _ HB1.out).mono ?_
          rintro _ w2 ⟨rfl, b2⟩
          have HO2 : Hid (OwI w e a p false false b w2) := HO1.out.below b2
          clear lc kc fc lr kr fr lo ko fo HC4 b2 HO1 HB1
          obtain ⟨lc, kc, fc⟩ := HO2.out.c
          obtain ⟨lr, kr, fr⟩ := HO2.out.r
          obtain ⟨lo, ko, fo⟩ := HO2.out.o
          go_wp2_with fail
          refine bodyPost_ret (v := .agg #[.bool false, .bool false, .bool q4]) ?_ rfl ⟨by simp, ?_⟩
          · simp [results, Tryz.results88, go_sem, kr]
          · exact ow_fin HO2.out.bl HG.out _ _ _ _
end Go.Proofs.YtoijhecphgdfnaaGreatDoor

/-
  The program's May, Refuse, Owes, Texts, Mode.
-/
namespace Go.Proofs.YtoijhecphgdfnaaGreatDoor
open Go.RowKit

set_option maxRecDepth 100000 in
set_option maxHeartbeats 2000000 in
theorem May_no (e : Bool) (a p : Int) (s : ByteArray) (w : World) (ok : okB e a p = false) : Calls Tryz.prog 101 #[.agg #[.bool e, .int .i64 a, .int .i64 p], .string s] w (fun r w' => ∃ z, r = .returned (.tuple #[.bool false, .iface 122 (.pointer (some ⟨z, 0, none⟩))]) ∧ DFault w' z 0 220 ∧ Below w.heap.size w w') := by
  have c1 := fun x => refuse_no e a p x ok
  go_enter Tryz.func101, Tryz.ntmps101
  go_wp2_with fail
  refine (c1 _).mono ?_
  rintro _ w1 ⟨z, rfl, hz, b1⟩
  have HB1 : Hid (Below w.heap.size w w1) := below_then ((Below.refl _ _).alloc (Nat.le_refl _) _) b1
  have X1_0 : Hid (Box w1 (w.heap.size) #[.bool e, .int .i64 a, .int .i64 p]) := (Box.new' _ #[.bool e, .int .i64 a, .int .i64 p] 45 (w.heap.size) (by simp)).below b1
  obtain ⟨l1_0, k1_0, f1_0⟩ := X1_0.out
  have HZ : Hid (DFault w1 z 0 220) := hz
  clear b1 hz
  go_wp2_with fail
  refine bodyPost_ret (v := .tuple #[.bool false, .iface 122 (.pointer (some ⟨z, 0, none⟩))]) ?_ rfl ⟨z, rfl, HZ.out, HB1.out⟩
  simp [results, Tryz.results101, go_sem]
set_option maxRecDepth 100000 in
set_option maxHeartbeats 4000000 in
theorem May_ok (e : Bool) (a p : Int) (s : ByteArray) (w : World) (hV : PVc w) (ok : okB e a p = true) : Calls Tryz.prog 101 #[.agg #[.bool e, .int .i64 a, .int .i64 p], .string s] w (fun r w' => r = .returned (.tuple #[.bool (sentB e a p s), .nilIface]) ∧ Below w.heap.size w w') := by
  have HV : Hid (PVc w) := hV
  clear hV
  have c1 := fun x => refuse_ok e a p x ok
  go_enter Tryz.func101, Tryz.ntmps101
  go_wp2_with fail
  refine (c1 _).mono ?_
  rintro _ w1 ⟨rfl, b1⟩
  have HB1 : Hid (Below w.heap.size w w1) := below_then ((Below.refl _ _).alloc (Nat.le_refl _) _) b1
  have X1_0 : Hid (Box w1 (w.heap.size) #[.bool e, .int .i64 a, .int .i64 p]) := (Box.new' _ #[.bool e, .int .i64 a, .int .i64 p] 45 (w.heap.size) (by simp)).below b1
  obtain ⟨l1_0, k1_0, f1_0⟩ := X1_0.out
  clear b1
  go_wp2_with fail
  refine (may_any e a p s _ (HV.out.below HB1.out)).mono ?_
  rintro _ w2 ⟨rfl, b2⟩
  have HB2 : Hid (Below w.heap.size w w2) := below_then HB1.out b2
  have X2_0 : Hid (Box w2 (w.heap.size) #[.bool e, .int .i64 a, .int .i64 p]) := X1_0.out.below b2
  clear k1_0 l1_0 f1_0 X1_0 HB1
  obtain ⟨l2_0, k2_0, f2_0⟩ := X2_0.out
  clear b2
  go_wp2_with fail
  refine bodyPost_ret (v := .tuple #[.bool (sentB e a p s), .nilIface]) ?_ rfl ⟨rfl, HB2.out⟩
  simp [results, Tryz.results101, go_sem]
end Go.Proofs.YtoijhecphgdfnaaGreatDoor

/-
  The program's states, standing.
-/
namespace Go.Proofs.YtoijhecphgdfnaaGreatDoor
open Go.RowKit

abbrev fv (f : FuncId) : Value := .func (.func f) #[] #[]
/-- The states' table. -/
abbrev stA : Array Value := #[.nilFunc, .nilFunc, .nilFunc, fv 113, fv 114, fv 115, fv 116, fv 117, fv 115, fv 118, fv 117, fv 119, fv 112, fv 120, fv 121, fv 112, fv 120, fv 121, fv 122, fv 120, fv 121]
set_option maxRecDepth 100000 in
set_option maxHeartbeats 2000000 in
theorem states_any (w : World) : Calls Tryz.prog 108 #[] w fun r w' => r = .returned (.agg stA) ∧ Below w.heap.size w w' := by
  have hl := run_loadVar_new (P := Tryz.prog) w 196 stA 7 170 Tryz.underlying196 (by kernel_rfl)
  have hs : ∀ c, (c : Array Value).size = 21 → (w.alloc (.cells c 196)).setRow w.heap.size stA = w.alloc (.cells stA 196) := fun c _ => World.setRow_alloc_new w c stA _
  go_enter Tryz.func108, Tryz.ntmps108
  go_wp2_with (refine wpList_store_row rfl 196 (.tmp 0) (.tmp 10) rfl w.heap.size stA rfl rfl 196 _ (heap_alloc_last w _) ?_ ?_ ?_ ?_; kernel_rfl; kernel_rfl; kernel_rfl; rw [hs _ rfl])
  refine bodyPost_ret (v := .agg stA) ?_ rfl ⟨rfl, ?_⟩
  · simp [results, Tryz.results108, asAddr]
    exact hl
  · exact (Below.refl _ _).alloc (Nat.le_refl _) _
theorem idx_1 (w : World) : (Instr.index 196 (.agg stA) (.int .i64 1)).run Tryz.prog w = .ok (.agg #[fv 113, fv 114, fv 115]) w := by kernel_rfl
theorem idx_2 (w : World) : (Instr.index 196 (.agg stA) (.int .i64 2)).run Tryz.prog w = .ok (.agg #[fv 116, fv 117, fv 115]) w := by kernel_rfl
theorem idx_3 (w : World) : (Instr.index 196 (.agg stA) (.int .i64 3)).run Tryz.prog w = .ok (.agg #[fv 118, fv 117, fv 119]) w := by kernel_rfl
theorem idx_4 (w : World) : (Instr.index 196 (.agg stA) (.int .i64 4)).run Tryz.prog w = .ok (.agg #[fv 112, fv 120, fv 121]) w := by kernel_rfl
theorem idx_5 (w : World) : (Instr.index 196 (.agg stA) (.int .i64 5)).run Tryz.prog w = .ok (.agg #[fv 112, fv 120, fv 121]) w := by kernel_rfl
theorem idx_6 (w : World) : (Instr.index 196 (.agg stA) (.int .i64 6)).run Tryz.prog w = .ok (.agg #[fv 122, fv 120, fv 121]) w := by kernel_rfl
theorem pfit_1 (a b c : Bool) (w : World) : Calls Tryz.prog 113 #[.agg #[.bool a, .bool b, .bool c]] w fun r w' => r = .returned (.bool a) ∧ Below w.heap.size w w' := by
  go_enter Tryz.func113, Tryz.ntmps113
  go_wp2_with fail
  go_ret
  exact ⟨rfl, (Below.refl _ _).alloc (Nat.le_refl _) _⟩
theorem pfit_2 (a b c : Bool) (w : World) : Calls Tryz.prog 116 #[.agg #[.bool a, .bool b, .bool c]] w fun r w' => r = .returned (.bool b) ∧ Below w.heap.size w w' := by
  go_enter Tryz.func116, Tryz.ntmps116
  go_wp2_with fail
  go_ret
  exact ⟨rfl, (Below.refl _ _).alloc (Nat.le_refl _) _⟩
theorem pfit_3 (a b c : Bool) (w : World) : Calls Tryz.prog 118 #[.agg #[.bool a, .bool b, .bool c]] w fun r w' => r = .returned (.bool c) ∧ Below w.heap.size w w' := by
  go_enter Tryz.func118, Tryz.ntmps118
  go_wp2_with fail
  go_ret
  exact ⟨rfl, (Below.refl _ _).alloc (Nat.le_refl _) _⟩
theorem pfit_4 (a b c : Bool) (w : World) : Calls Tryz.prog 112 #[.agg #[.bool a, .bool b, .bool c]] w fun r w' => r = .returned (.bool true) ∧ Below w.heap.size w w' := by
  go_enter Tryz.func112, Tryz.ntmps112
  go_wp2_with fail
  go_ret
  exact ⟨rfl, (Below.refl _ _).alloc (Nat.le_refl _) _⟩
theorem pfit_6 (a b c : Bool) (w : World) : Calls Tryz.prog 122 #[.agg #[.bool a, .bool b, .bool c]] w fun r w' => r = .returned (.bool (a || b)) ∧ Below w.heap.size w w' := by
  cases a
  all_goals
    go_enter Tryz.func122, Tryz.ntmps122
    go_wp2_with fail
    go_ret
    exact ⟨rfl, (Below.refl _ _).alloc (Nat.le_refl _) _⟩
end Go.Proofs.YtoijhecphgdfnaaGreatDoor

/-
  The program's standing.
-/
namespace Go.Proofs.YtoijhecphgdfnaaGreatDoor
open Go.RowKit

/-- standing's refusals. -/
def StE (code : Int) (w : World) (r : Ending) (w' : World) : Prop := ∃ b, r = .returned (.tuple #[.agg #[.bool false, .bool false, .bool false], .agg #[.nilFunc, .nilFunc, .nilFunc], .iface 122 (.pointer (some ⟨b, 0, none⟩))]) ∧ DFault w' b 0 code ∧ Below w.heap.size w w'
theorem DFault.pOff {w : World} {b : Nat} {a c : Int} (h : DFault w b a c) {p : Addr} (hp : p.block ≠ b) (v : Value) : DFault (w.setCell p v) b a c := by
  have hc : ∀ o, (w.setCell p v).cell? ⟨b, o, none⟩ = w.cell? ⟨b, o, none⟩ := fun o => World.cell?_setCell_other _ _ _ _ (fun e => hp (by rw [e]))
  exact ⟨by rw [hc]; exact h.1, by rw [hc]; exact h.2.1, by rw [hc]; exact h.2.2.1, by rw [hc]; exact h.2.2.2⟩
/-- Two boxes of three written. -/
theorem fin33 {w x : World} {R S b : Nat} {cd : Int} (hb : Below w.heap.size w x) (hf : DFault x b 0 cd) (hR : w.heap.size ≤ R) (hS : w.heap.size ≤ S) (nR : R ≠ b) (nS : S ≠ b) (u0 u1 u2 v0 v1 v2 : Value) :
    DFault ((((((x.setCell ⟨R, 0, none⟩ u0).setCell ⟨R, 1, none⟩ u1).setCell ⟨R, 2, none⟩ u2).setCell ⟨S, 0, none⟩ v0).setCell ⟨S, 1, none⟩ v1).setCell ⟨S, 2, none⟩ v2) b 0 cd ∧ Below w.heap.size w ((((((x.setCell ⟨R, 0, none⟩ u0).setCell ⟨R, 1, none⟩ u1).setCell ⟨R, 2, none⟩ u2).setCell ⟨S, 0, none⟩ v0).setCell ⟨S, 1, none⟩ v1).setCell ⟨S, 2, none⟩ v2) :=
  ⟨(((((hf.pOff (p := ⟨R, 0, none⟩) nR _).pOff (p := ⟨R, 1, none⟩) nR _).pOff (p := ⟨R, 2, none⟩) nR _).pOff (p := ⟨S, 0, none⟩) nS _).pOff (p := ⟨S, 1, none⟩) nS _).pOff (p := ⟨S, 2, none⟩) nS _,
   (((((hb.setCell (p := ⟨R, 0, none⟩) hR _).setCell (p := ⟨R, 1, none⟩) hR _).setCell (p := ⟨R, 2, none⟩) hR _).setCell (p := ⟨S, 0, none⟩) hS _).setCell (p := ⟨S, 1, none⟩) hS _).setCell (p := ⟨S, 2, none⟩) hS _⟩
theorem below33 {w x : World} {R S : Nat} (hb : Below w.heap.size w x) (hR : w.heap.size ≤ R) (hS : w.heap.size ≤ S) (u0 u1 u2 v0 v1 v2 : Value) :
    Below w.heap.size w ((((((x.setCell ⟨R, 0, none⟩ u0).setCell ⟨R, 1, none⟩ u1).setCell ⟨R, 2, none⟩ u2).setCell ⟨S, 0, none⟩ v0).setCell ⟨S, 1, none⟩ v1).setCell ⟨S, 2, none⟩ v2) :=
  (((((hb.setCell (p := ⟨R, 0, none⟩) hR _).setCell (p := ⟨R, 1, none⟩) hR _).setCell (p := ⟨R, 2, none⟩) hR _).setCell (p := ⟨S, 0, none⟩) hS _).setCell (p := ⟨S, 1, none⟩) hS _).setCell (p := ⟨S, 2, none⟩) hS _
/-- What lies in memory behind the state's finding. -/
structure SdI (w : World) (e : Bool) (a p st lf : Int) (q1 q2 q3 : Bool) (f h d : FuncId) (c b : Nat) (wx : World) : Prop where
  o : Box wx (w.heap.size + 1 + 1) #[.bool false, .bool false, .bool false]
  s : Box wx (w.heap.size + 1 + 1 + 1) #[.nilFunc, .nilFunc, .nilFunc]
  x : Box wx c #[.bool q1, .bool q2, .bool q3]
  y : Box wx b #[.func (.func f) #[] #[], .func (.func h) #[] #[], .func (.func d) #[] #[]]
  gc : w.heap.size + 4 ≤ c
  gb : w.heap.size + 4 ≤ b
  ne : c ≠ b
  bl : Below w.heap.size w wx
theorem SdI.below {w : World} {e : Bool} {a p st lf : Int} {q1 q2 q3 : Bool} {f h d : FuncId} {c b : Nat} {wx wy : World} (i : SdI w e a p st lf q1 q2 q3 f h d c b wx) (hb : Below wx.heap.size wx wy) : SdI w e a p st lf q1 q2 q3 f h d c b wy :=
  ⟨i.o.below hb, i.s.below hb, i.x.below hb, i.y.below hb, i.gc, i.gb, i.ne, below_then i.bl hb⟩
/-- Ahead of it. -/
abbrev SdV (w V : World) (st lf : Int) (q1 q2 q3 : Bool) (c : Nat) : Prop := Box V (w.heap.size + 1) #[.int .i64 st, .int .i64 lf] ∧ Box V (w.heap.size + 1 + 1) #[.bool false, .bool false, .bool false] ∧ Box V (w.heap.size + 1 + 1 + 1) #[.nilFunc, .nilFunc, .nilFunc] ∧ Box V c #[.bool q1, .bool q2, .bool q3] ∧ w.heap.size + 4 ≤ c ∧ Below w.heap.size w V
theorem sd_a {w V y : World} {e : Bool} {a p st lf : Int} {q1 q2 q3 : Bool} {f h d : FuncId} {c : Nat} (q : SdV w V st lf q1 q2 q3 c) (g : Hid (Below V.heap.size V y)) : SdI w e a p st lf q1 q2 q3 f h d c y.heap.size (y.alloc (.cells #[.func (.func f) #[] #[], .func (.func h) #[] #[], .func (.func d) #[] #[]] 170)) := by
  have hc := q.2.2.2.1.lt
  have hg := g.out.size
  exact ⟨q.2.1.below (bl_alloc g.out _), q.2.2.1.below (bl_alloc g.out _), q.2.2.2.1.below (bl_alloc g.out _), Box.new _ _ _, q.2.2.2.2.1, by have := q.2.2.2.2.1; omega, by omega, below_then q.2.2.2.2.2 (bl_alloc g.out _)⟩
theorem sd_b {w V y : World} {e : Bool} {a p st lf : Int} {q1 q2 q3 : Bool} {f h d : FuncId} {c b : Nat} (q : SdV w V st lf q1 q2 q3 c) (g : Hid (Below V.heap.size V y)) (hb : Box y b #[.nilFunc, .nilFunc, .nilFunc]) (hg : V.heap.size ≤ b) :
    SdI w e a p st lf q1 q2 q3 f h d c b (((y.setCell ⟨b, 0, none⟩ (.func (.func f) #[] #[])).setCell ⟨b, 1, none⟩ (.func (.func h) #[] #[])).setCell ⟨b, 2, none⟩ (.func (.func d) #[] #[])) := by
  have hc := q.2.2.2.1.lt
  have hs : Below V.heap.size V (((y.setCell ⟨b, 0, none⟩ (.func (.func f) #[] #[])).setCell ⟨b, 1, none⟩ (.func (.func h) #[] #[])).setCell ⟨b, 2, none⟩ (.func (.func d) #[] #[])) := ((g.out.setCell (p := ⟨b, 0, none⟩) hg _).setCell (p := ⟨b, 1, none⟩) hg _).setCell (p := ⟨b, 2, none⟩) hg _
  exact ⟨q.2.1.below hs, q.2.2.1.below hs, q.2.2.2.1.below hs, hb.pPut3 _ _ _, q.2.2.2.2.1, by have := q.2.2.2.2.1; omega, by omega, below_then q.2.2.2.2.2 hs⟩
set_option maxRecDepth 100000 in
set_option maxHeartbeats 8000000 in
theorem standing_at (e : Bool) (a p st lf : Int) (f h d : FuncId) (q : Bool) (w : World) (hV : PVc w) (ok : okB e a p = true) (s1 : ¬ st < 1) (s6 : ¬ st > 6) (lk : decide (0 ≤ lf ∧ lf ≤ 16) = true)
    (ix : ∀ w, (Instr.index 196 (.agg stA) (.int .i64 st)).run Tryz.prog w = .ok (.agg #[.func (.func f) #[] #[], .func (.func h) #[] #[], .func (.func d) #[] #[]]) w)
    (hen : ∀ (args : Array Value) (x : World), (callFunc f args).run Tryz.prog x = .ok (.enter f args) x)
    (hf : ∀ x, Calls Tryz.prog f #[.agg #[.bool (caB e a), .bool (aaB e p), .bool (earB e a p (caB e a))]] x fun r x' => r = .returned (.bool q) ∧ Below x.heap.size x x') :
    Calls Tryz.prog 95 #[.agg #[.bool e, .int .i64 a, .int .i64 p], .agg #[.int .i64 st, .int .i64 lf]] w fun r w' => if q = true then r = .returned (.tuple #[.agg #[.bool (caB e a), .bool (aaB e p), .bool (earB e a p (caB e a))], .agg #[.func (.func f) #[] #[], .func (.func h) #[] #[], .func (.func d) #[] #[]], .nilIface]) ∧ Below w.heap.size w w' else StE 222 w r w' := by
  have c1 := fun x => refuse_ok e a p x ok
  have c2 := fun x hx => owedBy_any e a p x hx
  have c3 := fun x => areTries_any lf x
  have cs := states_any
  rw [lk] at c3
  have HV : Hid (PVc w) := hV
  obtain ⟨A, hA⟩ : ∃ A, stA = A := ⟨_, rfl⟩
  rw [hA] at ix cs
  obtain ⟨q1, hq1⟩ : ∃ z, caB e a = z := ⟨_, rfl⟩
  obtain ⟨q2, hq2⟩ : ∃ z, aaB e p = z := ⟨_, rfl⟩
  obtain ⟨q3, hq3⟩ : ∃ z, earB e a p q1 = z := ⟨_, rfl⟩
  rw [hq1, hq2, hq3] at c2 hf ⊢
  have C2 : Hid (∀ x, PVc x → Calls Tryz.prog 88 #[.agg #[.bool e, .int .i64 a, .int .i64 p]] x fun r x' => r = .returned (.agg #[.bool q1, .bool q2, .bool q3]) ∧ Below x.heap.size x x') := c2
  have HS : Hid (∀ x, Calls Tryz.prog 108 #[] x fun r x' => r = .returned (.agg A) ∧ Below x.heap.size x x') := cs
  have HF : Hid (∀ x, Calls Tryz.prog f #[.agg #[.bool q1, .bool q2, .bool q3]] x fun r x' => r = .returned (.bool q) ∧ Below x.heap.size x x') := hf
  clear hA hq1 hq2 hq3 hV ok c2 cs hf lk
  go_enter Tryz.func95, Tryz.ntmps95
  go_wp2_with fail
  refine (c1 _).mono ?_
  rintro _ w1 ⟨rfl, b1⟩
  have HB1 : Hid (Below w.heap.size w w1) := below_then (bl_alloc (bl_alloc (bl_alloc ((Below.refl _ _).alloc (Nat.le_refl _) _) _) _) _) b1
  have X0 : Hid (Box w1 w.heap.size #[.bool e, .int .i64 a, .int .i64 p]) := ((((Box.new' _ #[.bool e, .int .i64 a, .int .i64 p] 45 w.heap.size rfl).alloc _).alloc _).alloc _).below b1
  have X1 : Hid (Box w1 (w.heap.size + 1) #[.int .i64 st, .int .i64 lf]) := (((Box.new' _ #[.int .i64 st, .int .i64 lf] 89 (w.heap.size + 1) (by simp)).alloc _).alloc _).below b1
  have X2 : Hid (Box w1 (w.heap.size + 1 + 1) #[.bool false, .bool false, .bool false]) := ((Box.new' _ #[.bool false, .bool false, .bool false] 161 (w.heap.size + 1 + 1) (by simp)).alloc _).below b1
  have X3 : Hid (Box w1 (w.heap.size + 1 + 1 + 1) #[.nilFunc, .nilFunc, .nilFunc]) := (Box.new' _ #[.nilFunc, .nilFunc, .nilFunc] 170 (w.heap.size + 1 + 1 + 1) (by simp)).below b1
  obtain ⟨l0, k0, f0⟩ := X0.out
  clear b1 c1
  go_wp2_with fail
  refine (C2.out _ (HV.out.below HB1.out)).mono ?_
  rintro _ w2 ⟨rfl, b2⟩
  have HW2 : Hid (SdV w (w2.alloc (.cells #[.bool q1, .bool q2, .bool q3] 161)) st lf q1 q2 q3 w2.heap.size) := ⟨(X1.out.below b2).alloc _, (X2.out.below b2).alloc _, (X3.out.below b2).alloc _, Box.new _ _ _, by have := (X3.out.below b2).lt; omega, bl_alloc (below_then HB1.out b2) _⟩
  clear l0 k0 f0 X0 X1 X2 X3 HB1 b2 C2 HV
  obtain ⟨c, hc⟩ : ∃ c, w2.heap.size = c := ⟨_, rfl⟩
  obtain ⟨V, hW⟩ : ∃ V, w2.alloc (.cells #[.bool q1, .bool q2, .bool q3] 161) = V := ⟨_, rfl⟩
  rw [hc, hW] at HW2
  obtain ⟨l1, k1, f1⟩ := HW2.out.1
  have HV1 : Hid (∀ x, Below V.heap.size V x → ∀ o, x.cell? ⟨w.heap.size + 1, o, none⟩ = (#[.int .i64 st, .int .i64 lf] : Array Value)[o]?) := fun x hx o => (hx.cell (p := ⟨w.heap.size + 1, o, none⟩) l1).trans (k1 o)
  have HM : Hid (∀ x, Below V.heap.size V x → Calls Tryz.prog 108 #[] x fun r x' => r = .returned (.agg A) ∧ Hid (Below V.heap.size V x' ∧ Below x.heap.size x x')) := fun x hx => (HS.out x).mono fun _ _ ⟨h, hb⟩ => ⟨h, below_then hx hb, hb⟩
  clear HS
  go_wp2_with fail
  refine (c3 _).mono ?_
  rintro _ w3 ⟨rfl, hw3⟩
  have hw3' := hw3.symm
  subst hw3'
  clear hw3
  clear c3
  go_upto_region 7 with fail
  go_cut [9] from 10 to 49 (fun t9 wx => ∃ b : Nat, t9 = .pointer (some ⟨b, 0, none⟩) ∧ Hid (SdI w e a p st lf q1 q2 q3 f h d c b wx))
  case first =>
    go_region_law (go_simp; go_at_call 108; refine (HM.out _ ?_).mono ?_; (repeat' (first | exact Below.refl _ _ | exact Hid.out (by assumption) | refine bl_alloc ?_ _ | refine Below.drew ?_)); rintro _ w5 ⟨rfl, hh5⟩; have hb5 : Hid (Below V.heap.size V w5) := hh5.out.1; have hq5 := HV1.out w5 hb5.out; have hl5 := Nat.lt_of_lt_of_le l1 hb5.out.size; have hc5 := (held_of hh5.out.2).cell; have hf5 := (held_of hh5.out.2).froz; have hz5 := (held_of hh5.out.2).size; go_wp2_with fail)
    all_goals
      go_wp2_with fail
      go_meet
      refine ⟨_, rfl, ?_⟩
      first
        | exact sd_a HW2.out (by assumption)
        | exact sd_b HW2.out (by assumption) (Box.below (Box.pDrew (Box.new _ _ _)) (And.right (Hid.out (by assumption)))) (by first | exact Nat.le_refl _ | exact (Hid.out (by assumption : Hid (Below V.heap.size V _))).size)
        | exact sd_b HW2.out (by assumption) (Box.below (Box.new _ _ _) (And.right (Hid.out (by assumption)))) (by first | exact Nat.le_refl _ | exact (Hid.out (by assumption : Hid (Below V.heap.size V _))).size)
  case rest =>
    obtain ⟨b, rfl, HO⟩ := hcut
    clear HM HW2 HV1 l1 k1 f1 ix
    obtain ⟨lo, ko, fo⟩ := HO.out.o
    obtain ⟨ls, ks, fs⟩ := HO.out.s
    obtain ⟨lx, kx, fx⟩ := HO.out.x
    obtain ⟨ly, ky, fy⟩ := HO.out.y
    have HG : Hid (w.heap.size + 4 ≤ c ∧ w.heap.size + 4 ≤ b ∧ c ≠ b) := ⟨HO.out.gc, HO.out.gb, HO.out.ne⟩
    go_wp2_with fail
    refine (HF.out _).mono ?_
    rintro _ w5 ⟨rfl, b5⟩
    have HO5 : Hid (SdI w e a p st lf q1 q2 q3 f h d c b w5) := HO.out.below b5
    clear lo ko fo ls ks fs lx kx fx ly ky fy b5 HO HF
    obtain ⟨lo, ko, fo⟩ := HO5.out.o
    obtain ⟨ls, ks, fs⟩ := HO5.out.s
    obtain ⟨lx, kx, fx⟩ := HO5.out.x
    obtain ⟨ly, ky, fy⟩ := HO5.out.y
    cases q with
    | true =>
      go_upto_region 10 with fail
      have n1 : ¬ b = w.heap.size + 1 + 1 := by have := HG.out; omega
      have n2 : ¬ w.heap.size + 1 + 1 = b := by omega
      have n3 : ¬ c = w.heap.size + 1 + 1 := by have := HG.out; omega
      have n4 : ¬ w.heap.size + 1 + 1 = c := by omega
      have n5 : ¬ b = w.heap.size + 1 + 1 + 1 := by have := HG.out; omega
      have n6 : ¬ c = w.heap.size + 1 + 1 + 1 := by have := HG.out; omega
      go_region
      all_goals
        go_wp2_with fail
        refine bodyPost_ret (v := .tuple #[.agg #[.bool q1, .bool q2, .bool q3], .agg #[.func (.func f) #[] #[], .func (.func h) #[] #[], .func (.func d) #[] #[]], .nilIface]) ?_ rfl ⟨rfl, ?_⟩
        · simp [results, Tryz.results95, go_sem, ko, ks]
        · exact Below.drew (below33 HO5.out.bl (by omega) (by omega) _ _ _ _ _ _)
    | false =>
      have fl := pfault_any 0 222
      go_wp2_with fail
      refine (fl _).mono ?_
      rintro _ w6 ⟨rfl, hz, b6⟩
      have HZ : Hid (DFault w6 w5.heap.size 0 222 ∧ Below w.heap.size w w6 ∧ w.heap.size + 1 + 1 + 1 < w5.heap.size) := ⟨hz, below_then HO5.out.bl b6, ls⟩
      have Y2 : Hid (Box w6 (w.heap.size + 1 + 1) #[.bool false, .bool false, .bool false]) := HO5.out.o.below b6
      have Y3 : Hid (Box w6 (w.heap.size + 1 + 1 + 1) #[.nilFunc, .nilFunc, .nilFunc]) := HO5.out.s.below b6
      clear lo ko fo ls ks fs lx kx fx ly ky fy hz b6 HO5 fl
      obtain ⟨lo, ko, fo⟩ := Y2.out
      obtain ⟨ls, ks, fs⟩ := Y3.out
      go_wp2_with fail
      refine bodyPost_ret (v := .tuple #[.agg #[.bool false, .bool false, .bool false], .agg #[.nilFunc, .nilFunc, .nilFunc], .iface 122 (.pointer (some ⟨w5.heap.size, 0, none⟩))]) ?_ rfl ⟨_, rfl, ?_, ?_⟩
      · simp [results, Tryz.results95, go_sem, ko, ks]
      · exact (fin33 HZ.out.2.1 HZ.out.1 (by omega) (by omega) (by have := HZ.out.2.2; omega) (by have := HZ.out.2.2; omega) _ _ _ _ _ _).1
      · exact (fin33 HZ.out.2.1 HZ.out.1 (by omega) (by omega) (by have := HZ.out.2.2; omega) (by have := HZ.out.2.2; omega) _ _ _ _ _ _).2
end Go.Proofs.YtoijhecphgdfnaaGreatDoor

/-
  The program's strange, refusedOrOver, heardAhead, heardBehind.
-/
namespace Go.Proofs.YtoijhecphgdfnaaGreatDoor
open Go.RowKit

set_option maxRecDepth 100000 in
set_option maxHeartbeats 2000000 in
theorem ro_1 (st lf : Int) (s : ByteArray) (n : Bool) (w : World) (h : numB s n = false) : Calls Tryz.prog 123 #[.agg #[.int .i64 st, .int .i64 lf], .agg #[.string s, .bool n]] w (WQ (4) (lf) [(4, s)] w) := by
  have c1 := fun w => isBy_any s n w
  rw [h] at c1
  go_enter Tryz.func123, Tryz.ntmps123
  go_wp2_with fail
  refine (c1 _).mono ?_
  rintro _ w1 ⟨rfl, b1⟩
  have HB1 : Hid (Below w.heap.size w w1) := below_then (bl_alloc (bl_alloc ((Below.refl _ _).alloc (Nat.le_refl _) _) _) _) b1
  have X1_0 : Hid (Box w1 (w.heap.size) #[.int .i64 st, .int .i64 lf]) := (((Box.new' _ #[.int .i64 st, .int .i64 lf] 89 (w.heap.size) (by simp)).alloc _).alloc _).below b1
  have X1_1 : Hid (Box w1 (w.heap.size + 1) #[.string s, .bool n]) := ((Box.new' _ #[.string s, .bool n] 176 (w.heap.size + 1) (by simp)).alloc _).below b1
  have X1_2 : Hid (Box w1 (w.heap.size + 1 + 1) #[.int .i64 0, .int .i64 0]) := (Box.new' _ #[.int .i64 0, .int .i64 0] 89 (w.heap.size + 1 + 1) (by simp)).below b1
  obtain ⟨l1_0, k1_0, f1_0⟩ := X1_0.out
  obtain ⟨l1_1, k1_1, f1_1⟩ := X1_1.out
  obtain ⟨l1_2, k1_2, f1_2⟩ := X1_2.out
  clear b1
  go_wp2_with fail
  have HZ2 : Hid (w.heap.size + 1 + 1 + 1 ≤ w1.heap.size) := l1_2
  refine (over_any st lf 4 s _).mono ?_
  rintro _ w2 ⟨po, cap, rfl, r2, b2⟩
  have HB2 : Hid (Below w.heap.size w w2) := below_then HB1.out b2
  have X2_0 : Hid (Box w2 (w.heap.size) #[.int .i64 st, .int .i64 lf]) := X1_0.out.below b2
  have X2_1 : Hid (Box w2 (w.heap.size + 1) #[.string s, .bool n]) := X1_1.out.below b2
  have X2_2 : Hid (Box w2 (w.heap.size + 1 + 1) #[.int .i64 0, .int .i64 0]) := X1_2.out.below b2
  clear k1_0 l1_0 f1_0 X1_0 k1_1 l1_1 f1_1 X1_1 k1_2 l1_2 f1_2 X1_2 HB1
  obtain ⟨l2_0, k2_0, f2_0⟩ := X2_0.out
  obtain ⟨l2_1, k2_1, f2_1⟩ := X2_1.out
  obtain ⟨l2_2, k2_2, f2_2⟩ := X2_2.out
  have HR : Hid (ActRow w2 (w.heap.size + 1 + 1 + 1) (.slice po _ cap) _) := r2.mono (by exact HZ2.out)
  clear b2 r2
  go_wp2_with fail
  refine bodyPost_ret (v := .tuple #[.agg #[.int .i64 (4), .int .i64 (lf)], .slice po _ cap]) ?_ rfl ⟨po, cap, rfl, ?_, ?_⟩
  · simp [results, Tryz.results123, go_sem, k2_2]
  · exact (fin2 HB2.out HR.out (by omega) (by omega)).1
  · exact (fin2 HB2.out HR.out (by omega) (by omega)).2
set_option maxRecDepth 100000 in
set_option maxHeartbeats 2000000 in
theorem ro_2 (st lf : Int) (s : ByteArray) (n : Bool) (w : World) (h : numB s n = true) (h0 : lf = 0) : Calls Tryz.prog 123 #[.agg #[.int .i64 st, .int .i64 lf], .agg #[.string s, .bool n]] w (WQ (4) (lf) [(4, s)] w) := by
  have c1 := fun w => isBy_any s n w
  rw [h] at c1
  subst h0
  go_enter Tryz.func123, Tryz.ntmps123
  go_wp2_with fail
  refine (c1 _).mono ?_
  rintro _ w1 ⟨rfl, b1⟩
  have HB1 : Hid (Below w.heap.size w w1) := below_then (bl_alloc (bl_alloc ((Below.refl _ _).alloc (Nat.le_refl _) _) _) _) b1
  have X1_0 : Hid (Box w1 (w.heap.size) #[.int .i64 st, .int .i64 0]) := (((Box.new' _ #[.int .i64 st, .int .i64 0] 89 (w.heap.size) (by simp)).alloc _).alloc _).below b1
  have X1_1 : Hid (Box w1 (w.heap.size + 1) #[.string s, .bool n]) := ((Box.new' _ #[.string s, .bool n] 176 (w.heap.size + 1) (by simp)).alloc _).below b1
  have X1_2 : Hid (Box w1 (w.heap.size + 1 + 1) #[.int .i64 0, .int .i64 0]) := (Box.new' _ #[.int .i64 0, .int .i64 0] 89 (w.heap.size + 1 + 1) (by simp)).below b1
  obtain ⟨l1_0, k1_0, f1_0⟩ := X1_0.out
  obtain ⟨l1_1, k1_1, f1_1⟩ := X1_1.out
  obtain ⟨l1_2, k1_2, f1_2⟩ := X1_2.out
  clear b1
  go_wp2_with fail
  have HZ2 : Hid (w.heap.size + 1 + 1 + 1 ≤ w1.heap.size) := l1_2
  refine (over_any st 0 4 s _).mono ?_
  rintro _ w2 ⟨po, cap, rfl, r2, b2⟩
  have HB2 : Hid (Below w.heap.size w w2) := below_then HB1.out b2
  have X2_0 : Hid (Box w2 (w.heap.size) #[.int .i64 st, .int .i64 0]) := X1_0.out.below b2
  have X2_1 : Hid (Box w2 (w.heap.size + 1) #[.string s, .bool n]) := X1_1.out.below b2
  have X2_2 : Hid (Box w2 (w.heap.size + 1 + 1) #[.int .i64 0, .int .i64 0]) := X1_2.out.below b2
  clear k1_0 l1_0 f1_0 X1_0 k1_1 l1_1 f1_1 X1_1 k1_2 l1_2 f1_2 X1_2 HB1
  obtain ⟨l2_0, k2_0, f2_0⟩ := X2_0.out
  obtain ⟨l2_1, k2_1, f2_1⟩ := X2_1.out
  obtain ⟨l2_2, k2_2, f2_2⟩ := X2_2.out
  have HR : Hid (ActRow w2 (w.heap.size + 1 + 1 + 1) (.slice po _ cap) _) := r2.mono (by exact HZ2.out)
  clear b2 r2
  go_wp2_with fail
  refine bodyPost_ret (v := .tuple #[.agg #[.int .i64 (4), .int .i64 (0)], .slice po _ cap]) ?_ rfl ⟨po, cap, rfl, ?_, ?_⟩
  · simp [results, Tryz.results123, go_sem, k2_2]
  · exact (fin2 HB2.out HR.out (by omega) (by omega)).1
  · exact (fin2 HB2.out HR.out (by omega) (by omega)).2
set_option maxRecDepth 100000 in
set_option maxHeartbeats 2000000 in
theorem strange_any (c ap ea : Bool) (st lf : Int) (s : ByteArray) (n : Bool) (w : World) : Calls Tryz.prog 120 #[.agg #[.bool c, .bool ap, .bool ea], .agg #[.int .i64 st, .int .i64 lf], .agg #[.string s, .bool n]] w (WQ (st) (lf) [(6, nT)] w) := by
  have b0 : Below w.heap.size w ((((w.alloc (.cells #[.bool c, .bool ap, .bool ea] 161)).alloc (.cells #[.int .i64 st, .int .i64 lf] 89)).alloc (.cells #[.string s, .bool n] 176)).alloc (.cells #[.int .i64 0, .int .i64 0] 89)) := bl_alloc (bl_alloc (bl_alloc ((Below.refl _ _).alloc (Nat.le_refl _) _) _) _) _
  have x1 : Box ((((w.alloc (.cells #[.bool c, .bool ap, .bool ea] 161)).alloc (.cells #[.int .i64 st, .int .i64 lf] 89)).alloc (.cells #[.string s, .bool n] 176)).alloc (.cells #[.int .i64 0, .int .i64 0] 89)) (w.heap.size + 1) #[.int .i64 st, .int .i64 lf] := ((Box.new' _ #[.int .i64 st, .int .i64 lf] 89 (w.heap.size + 1) (by simp)).alloc _).alloc _
  have x3 : Box ((((w.alloc (.cells #[.bool c, .bool ap, .bool ea] 161)).alloc (.cells #[.int .i64 st, .int .i64 lf] 89)).alloc (.cells #[.string s, .bool n] 176)).alloc (.cells #[.int .i64 0, .int .i64 0] 89)) (w.heap.size + 1 + 1 + 1) #[.int .i64 0, .int .i64 0] := Box.new' _ #[.int .i64 0, .int .i64 0] 89 (w.heap.size + 1 + 1 + 1) (by simp)
  have sz : ((((w.alloc (.cells #[.bool c, .bool ap, .bool ea] 161)).alloc (.cells #[.int .i64 st, .int .i64 lf] 89)).alloc (.cells #[.string s, .bool n] 176)).alloc (.cells #[.int .i64 0, .int .i64 0] 89)).heap.size = w.heap.size + 4 := by simp
  obtain ⟨V, hW⟩ : ∃ V, (((w.alloc (.cells #[.bool c, .bool ap, .bool ea] 161)).alloc (.cells #[.int .i64 st, .int .i64 lf] 89)).alloc (.cells #[.string s, .bool n] 176)).alloc (.cells #[.int .i64 0, .int .i64 0] 89) = V := ⟨_, rfl⟩
  rw [hW] at b0 x1 x3 sz
  have HQ : Hid (Below w.heap.size w V ∧ V.heap.size = w.heap.size + 4) := ⟨b0, sz⟩
  have X1 : Hid (Box V (w.heap.size + 1) #[.int .i64 st, .int .i64 lf]) := x1
  have X3 : Hid (Box V (w.heap.size + 1 + 1 + 1) #[.int .i64 0, .int .i64 0]) := x3
  obtain ⟨l1, k1, f1⟩ := x1
  obtain ⟨l3, k3, f3⟩ := x3
  clear b0 sz
  go_enter Tryz.func120, Tryz.ntmps120
  go_upto_region 1 with fail
  go_region_law (go_simp; go_at_call 96; refine (passOver_any _).mono ?_; rintro _ w5 ⟨b, rfl, r5, b5⟩; have hb5 : Hid (Below V.heap.size V w5) := (by first | exact b5 | exact below_then (Below.drew (Below.refl _ _)) b5); have HR5 : Hid (ActRow w5 V.heap.size (.slice (some ⟨b, 0, none⟩) 1 1) [(6, nT)]) := r5; obtain ⟨l15, k15, f15⟩ := X1.out.below hb5.out; obtain ⟨l35, k35, f35⟩ := X3.out.below hb5.out; clear r5 b5; go_wp2_with fail)
  all_goals
    go_wp2_with fail
    refine bodyPost_ret (v := .tuple #[.agg #[.int .i64 st, .int .i64 lf], .slice (some ⟨b, 0, none⟩) 1 1]) ?_ rfl ⟨_, _, rfl, ?_, ?_⟩
    · simp [results, Tryz.results120, go_sem, k35]
    · exact (fin2 (below_then HQ.out.1 hb5.out) HR5.out (by omega) (by have := HQ.out.2; omega)).1
    · exact (fin2 (below_then HQ.out.1 hb5.out) HR5.out (by omega) (by have := HQ.out.2; omega)).2
end Go.Proofs.YtoijhecphgdfnaaGreatDoor
