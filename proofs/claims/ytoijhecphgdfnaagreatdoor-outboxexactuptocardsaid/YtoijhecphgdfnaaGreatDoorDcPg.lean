import Derived.Test.YtoijhecphgdfnaaGreatDoorDcPd
import Derived.Deep.RegionLaw
import Derived.Deep.CutRange
import Derived.Laws.EntriesVeiled
import Derived.Deep.WholeRow
/-
  The program's owedBy.
-/
namespace Go.Proofs.YtoijhecphgdfnaaGreatDoor
open Go.RowKit

theorem ear_is (e : Bool) (a p : Int) : (!aaB e p && (aeB e p || (!caB e a && ceB e a))) = earB e a p (caB e a) := by
  unfold earB aaB aeB caB ceB
  cases e
  · simp
  · by_cases h1 : p = 1 <;> by_cases h2 : p = 2 <;> by_cases h3 : p = 3 <;> by_cases g1 : a = 1 <;> by_cases g2 : a = 2 <;> by_cases g3 : a = 3 <;> simp_all
/-- The owed one in memory, beside the conditions and the result. -/
structure OwI (w : World) (e : Bool) (a p : Int) (q1 q2 : Bool) (b : Nat) (wx : World) : Prop where
  c : Box wx w.heap.size #[.bool e, .int .i64 a, .int .i64 p]
  r : Box wx (w.heap.size + 1) #[.bool false, .bool false, .bool false]
  o : Box wx b #[.bool q1, .bool q2, .bool false]
  ge : w.heap.size + 2 ≤ b
  bl : Below w.heap.size w wx
  pv : PVc wx
theorem OwI.below {w : World} {e : Bool} {a p : Int} {q1 q2 : Bool} {b : Nat} {wx wy : World} (h : OwI w e a p q1 q2 b wx) (hb : Below wx.heap.size wx wy) : OwI w e a p q1 q2 b wy :=
  ⟨h.c.below hb, h.r.below hb, h.o.below hb, h.ge, below_then h.bl hb, h.pv.below hb⟩
theorem Box.pDrew {w : World} {b : Nat} {cs : Array Value} (h : Box w b cs) : Box w.drew b cs := ⟨h.lt, h.cell, h.free⟩
abbrev OwV (w V : World) (e : Bool) (a p : Int) : Prop := Below w.heap.size w V ∧ PVc V ∧ Box V w.heap.size #[.bool e, .int .i64 a, .int .i64 p] ∧ Box V (w.heap.size + 1) #[.bool false, .bool false, .bool false] ∧ V.heap.size = w.heap.size + 2
theorem ow_fin {w x : World} {b : Nat} (h : Below w.heap.size w x) (hb : w.heap.size + 2 ≤ b) (v r0 r1 r2 : Value) : Below w.heap.size w ((((x.setCell ⟨b, 2, none⟩ v).setCell ⟨w.heap.size + 1, 0, none⟩ r0).setCell ⟨w.heap.size + 1, 1, none⟩ r1).setCell ⟨w.heap.size + 1, 2, none⟩ r2) :=
  (((h.setCell (p := ⟨b, 2, none⟩) (by simp only; omega) _).setCell (p := ⟨w.heap.size + 1, 0, none⟩) (by simp only; omega) _).setCell (p := ⟨w.heap.size + 1, 1, none⟩) (by simp only; omega) _).setCell (p := ⟨w.heap.size + 1, 2, none⟩) (by simp only; omega) _
theorem ow_a {w V y : World} {e : Bool} {a p : Int} {q1 q2 : Bool} (q : OwV w V e a p) (h : Hid (Below V.heap.size V y)) : OwI w e a p q1 q2 y.heap.size (y.alloc (.cells #[.bool q1, .bool q2, .bool false] 161)) :=
  ⟨(q.2.2.1.below h.out).alloc _, (q.2.2.2.1.below h.out).alloc _, Box.new _ _ _, by have := h.out.size; have := q.2.2.2.2; omega, below_then q.1 (bl_alloc h.out _), q.2.1.below (bl_alloc h.out _)⟩
theorem ow_b {w V y : World} {e : Bool} {a p : Int} {q1 q2 : Bool} {b : Nat} (q : OwV w V e a p) (h : Hid (Below V.heap.size V y)) (hb : Box y b #[.bool false, .bool false, .bool false]) (hg : V.heap.size ≤ b) : OwI w e a p q1 q2 b (((y.setCell ⟨b, 0, none⟩ (.bool q1)).setCell ⟨b, 1, none⟩ (.bool q2)).setCell ⟨b, 2, none⟩ (.bool false)) := by
  have hz := q.2.2.2.2
  have hs : Below V.heap.size V (((y.setCell ⟨b, 0, none⟩ (.bool q1)).setCell ⟨b, 1, none⟩ (.bool q2)).setCell ⟨b, 2, none⟩ (.bool false)) := ((h.out.setCell (p := ⟨b, 0, none⟩) hg _).setCell (p := ⟨b, 1, none⟩) hg _).setCell (p := ⟨b, 2, none⟩) hg _
  exact ⟨q.2.2.1.below hs, q.2.2.2.1.below hs, hb.pPut3 _ _ _, by omega, below_then q.1 hs, q.2.1.below hs⟩
set_option maxRecDepth 100000 in
set_option maxHeartbeats 4000000 in
theorem owedBy_any (e : Bool) (a p : Int) (w : World) (hV : PVc w) : Calls Tryz.prog 88 #[.agg #[.bool e, .int .i64 a, .int .i64 p]] w fun r w' => r = .returned (.agg #[.bool (caB e a), .bool (aaB e p), .bool (earB e a p (caB e a))]) ∧ Below w.heap.size w w' := by
  have b1 : Below w.heap.size w ((w.alloc (.cells #[.bool e, .int .i64 a, .int .i64 p] 45)).alloc (.cells #[.bool false, .bool false, .bool false] 161)) := ((Below.refl _ _).alloc (Nat.le_refl _) _).alloc (by simp) _
  have hV' := hV.below b1
  have xc : Box ((w.alloc (.cells #[.bool e, .int .i64 a, .int .i64 p] 45)).alloc (.cells #[.bool false, .bool false, .bool false] 161)) w.heap.size #[.bool e, .int .i64 a, .int .i64 p] := (Box.new' _ #[.bool e, .int .i64 a, .int .i64 p] 45 w.heap.size rfl).alloc _
  have xr : Box ((w.alloc (.cells #[.bool e, .int .i64 a, .int .i64 p] 45)).alloc (.cells #[.bool false, .bool false, .bool false] 161)) (w.heap.size + 1) #[.bool false, .bool false, .bool false] := Box.new' _ #[.bool false, .bool false, .bool false] 161 (w.heap.size + 1) (by simp)
  have sz : ((w.alloc (.cells #[.bool e, .int .i64 a, .int .i64 p] 45)).alloc (.cells #[.bool false, .bool false, .bool false] 161)).heap.size = w.heap.size + 2 := by simp
  obtain ⟨V, hW⟩ : ∃ V, (w.alloc (.cells #[.bool e, .int .i64 a, .int .i64 p] 45)).alloc (.cells #[.bool false, .bool false, .bool false] 161) = V := ⟨_, rfl⟩
  rw [hW] at b1 hV' xc xr sz
  have HQ : Hid (OwV w V e a p) := ⟨b1, hV', xc, xr, sz⟩
  have HM : Hid (∀ s x, Below V.heap.size V x → Calls Tryz.prog 86 #[.agg #[.bool e, .int .i64 a, .int .i64 p], .string s] x fun r x' => r = .returned (.bool (sentB e a p s)) ∧ Hid (Below V.heap.size V x' ∧ Below x.heap.size x x')) := fun s x hx => (may_any e a p s x (hV'.below hx)).mono fun _ _ ⟨h, hb⟩ => ⟨h, below_then hx hb, hb⟩
  have HMc : Hid (∀ s x, PVc x → Calls Tryz.prog 86 #[.agg #[.bool e, .int .i64 a, .int .i64 p], .string s] x fun r x' => r = .returned (.bool (sentB e a p s)) ∧ Below x.heap.size x x') := fun s x hx => may_any e a p s x hx
  obtain ⟨lc, kc, fc⟩ := xc
  have KC1 : Hid (∀ x, Below V.heap.size V x → ∀ o, x.cell? ⟨w.heap.size, o, none⟩ = ((#[.bool e, .int .i64 a, .int .i64 p] : Array Value))[o]?) := fun x hx o => (hx.cell (p := ⟨w.heap.size, o, none⟩) lc).trans (kc o)
  rw [← ear_is]
  have HE1 : Hid (sentB e a p ⟨#[67, 65]⟩ = caB e a ∧ sentB e a p ⟨#[67, 69]⟩ = ceB e a ∧ sentB e a p ⟨#[65, 65]⟩ = aaB e p ∧ sentB e a p ⟨#[65, 69]⟩ = aeB e p) := ⟨sent_1 e a p, sent_2 e a p, sent_4 e a p, sent_5 e a p⟩
  obtain ⟨q1, hq1⟩ : ∃ q, caB e a = q := ⟨_, rfl⟩
  obtain ⟨q2, hq2⟩ : ∃ q, aaB e p = q := ⟨_, rfl⟩
  obtain ⟨q3, hq3⟩ : ∃ q, aeB e p = q := ⟨_, rfl⟩
  obtain ⟨q4, hq4⟩ : ∃ q, ceB e a = q := ⟨_, rfl⟩
  rw [hq1, hq2, hq3, hq4] at HE1 ⊢
  clear hV hV' b1 xr sz hq1 hq2 hq3 hq4 fc
  go_enter Tryz.func88, Tryz.ntmps88
  go_upto_region 1 with fail
  go_cut [3] from 4 to 26 (fun t3 wx => ∃ b : Nat, t3 = .pointer (some ⟨b, 0, none⟩) ∧ Hid (OwI w e a p q1 q2 b wx))
  case first =>
    go_region_law (go_simp; go_at_call 86; refine (HM.out _ _ ?_).mono ?_; (repeat' (first | exact Below.refl _ _ | exact Hid.out (by assumption) | refine bl_alloc ?_ _ | refine Below.drew ?_)); rintro _ w5 ⟨rfl, hh5⟩; have hb5 : Hid (Below V.heap.size V w5) := hh5.out.1; have hq5 := KC1.out w5 hb5.out; have hl5 := Nat.lt_of_lt_of_le lc hb5.out.size; have hc5 := (held_of hh5.out.2).cell; have hf5 := (held_of hh5.out.2).froz; have hz5 := (held_of hh5.out.2).size; go_wp2_with fail)
    all_goals
      go_wp2_with fail
      go_meet
      refine ⟨_, rfl, ?_⟩
      rw [HE1.out.1, HE1.out.2.2.1]
      first
        | exact ow_a HQ.out (by assumption)
        | exact ow_b HQ.out (by assumption) (Box.below (Box.new _ _ _) (And.right (Hid.out (by assumption)))) (by first | exact Nat.le_refl _ | exact (Hid.out (by assumption : Hid (Below V.heap.size V _))).size)
        | exact ow_b HQ.out (by assumption) (Box.below (Box.below (Box.pDrew (Box.new _ _ _)) (And.right (Hid.out (by assumption)))) (And.right (Hid.out (by assumption)))) (by first | exact Nat.le_refl _ | exact (Hid.out (by assumption : Hid (Below V.heap.size V _))).size)
        | exact ow_b HQ.out (by assumption) (Box.below (Box.below (Box.new _ _ _) (And.right (Hid.out (by assumption)))) (And.right (Hid.out (by assumption)))) (by first | exact Nat.le_refl _ | exact (Hid.out (by assumption : Hid (Below V.heap.size V _))).size)
  case rest =>
    obtain ⟨b, rfl, HO⟩ := hcut
    clear HM HQ KC1 lc kc
    have HC3 := HMc.out ⟨#[65, 69]⟩ wc HO.out.pv
    rw [HE1.out.2.2.2] at HC3
    have HC4 : Hid (∀ x, Below wc.heap.size wc x → Calls Tryz.prog 86 #[.agg #[.bool e, .int .i64 a, .int .i64 p], .string ⟨#[67, 69]⟩] x fun r x' => r = .returned (.bool q4) ∧ Below x.heap.size x x') := fun x hx => by
      have := HMc.out ⟨#[67, 69]⟩ x (HO.out.pv.below hx); rw [HE1.out.2.1] at this; exact this
    have HG : Hid (w.heap.size + 2 ≤ b) := HO.out.ge
    have n1 : ¬ b = w.heap.size + 1 := by have := HG.out; omega
    have n2 : ¬ w.heap.size + 1 = b := by omega
    have n3 : ¬ b = w.heap.size := by have := HG.out; omega
    have n4 : ¬ w.heap.size = b := by omega
    obtain ⟨lc, kc, fc⟩ := HO.out.c
    obtain ⟨lr, kr, fr⟩ := HO.out.r
    obtain ⟨lo, ko, fo⟩ := HO.out.o
    clear HMc HE1
    cases q2 with
    | true =>
      clear HC3 HC4
      go_wp2_with fail
      refine bodyPost_ret (v := .agg #[.bool q1, .bool true, .bool false]) ?_ rfl ⟨rfl, ?_⟩
      · simp [results, Tryz.results88, go_sem, kr]
      · exact ow_fin HO.out.bl HG.out _ _ _ _
    | false =>
      go_wp2_with fail
      refine HC3.mono ?_
      rintro _ w1 ⟨rfl, b1⟩
      have HO1 : Hid (OwI w e a p q1 false b w1) := HO.out.below b1
      have HB1 : Hid (Below wc.heap.size wc w1) := b1
      clear lc kc fc lr kr fr lo ko fo HC3 b1 HO
      obtain ⟨lc, kc, fc⟩ := HO1.out.c
      obtain ⟨lr, kr, fr⟩ := HO1.out.r
      obtain ⟨lo, ko, fo⟩ := HO1.out.o
      cases q3 with
      | true =>
        go_wp2_with fail
        refine bodyPost_ret (v := .agg #[.bool q1, .bool false, .bool true]) ?_ rfl ⟨by simp, ?_⟩
        · simp [results, Tryz.results88, go_sem, kr]
        · exact ow_fin HO1.out.bl HG.out _ _ _ _
      | false =>
        cases q1 with
        | true =>
          go_wp2_with fail
          refine bodyPost_ret (v := .agg #[.bool true, .bool false, .bool false]) ?_ rfl ⟨by simp, ?_⟩
          · simp [results, Tryz.results88, go_sem, kr]
          · exact ow_fin HO1.out.bl HG.out _ _ _ _
        | false =>
          go_wp2_with fail
          refine (HC4.out _ HB1.out).mono ?_
          rintro _ w2 ⟨rfl, b2⟩
          have HO2 : Hid (OwI w e a p false false b w2) := HO1.out.below b2
          clear lc kc fc lr kr fr lo ko fo HC4 b2 HO1 HB1
          obtain ⟨lc, kc, fc⟩ := HO2.out.c
          obtain ⟨lr, kr, fr⟩ := HO2.out.r
          obtain ⟨lo, ko, fo⟩ := HO2.out.o
          go_wp2_with fail
          refine bodyPost_ret (v := .agg #[.bool false, .bool false, .bool q4]) ?_ rfl ⟨by simp, ?_⟩
          · simp [results, Tryz.results88, go_sem, kr]
          · exact ow_fin HO2.out.bl HG.out _ _ _ _
end Go.Proofs.YtoijhecphgdfnaaGreatDoor

/-
  The program's May, Refuse, Owes, Texts, Mode.
-/
namespace Go.Proofs.YtoijhecphgdfnaaGreatDoor
open Go.RowKit

set_option maxRecDepth 100000 in
set_option maxHeartbeats 2000000 in
theorem May_no (e : Bool) (a p : Int) (s : ByteArray) (w : World) (ok : okB e a p = false) : Calls Tryz.prog 101 #[.agg #[.bool e, .int .i64 a, .int .i64 p], .string s] w (fun r w' => ∃ z, r = .returned (.tuple #[.bool false, .iface 122 (.pointer (some ⟨z, 0, none⟩))]) ∧ DFault w' z 0 220 ∧ Below w.heap.size w w') := by
  have c1 := fun x => refuse_no e a p x ok
  go_enter Tryz.func101, Tryz.ntmps101
  go_wp2_with fail
  refine (c1 _).mono ?_
  rintro _ w1 ⟨z, rfl, hz, b1⟩
  have HB1 : Hid (Below w.heap.size w w1) := below_then ((Below.refl _ _).alloc (Nat.le_refl _) _) b1
  have X1_0 : Hid (Box w1 (w.heap.size) #[.bool e, .int .i64 a, .int .i64 p]) := (Box.new' _ #[.bool e, .int .i64 a, .int .i64 p] 45 (w.heap.size) (by simp)).below b1
  obtain ⟨l1_0, k1_0, f1_0⟩ := X1_0.out
  have HZ : Hid (DFault w1 z 0 220) := hz
  clear b1 hz
  go_wp2_with fail
  refine bodyPost_ret (v := .tuple #[.bool false, .iface 122 (.pointer (some ⟨z, 0, none⟩))]) ?_ rfl ⟨z, rfl, HZ.out, HB1.out⟩
  simp [results, Tryz.results101, go_sem]
set_option maxRecDepth 100000 in
set_option maxHeartbeats 4000000 in
theorem May_ok (e : Bool) (a p : Int) (s : ByteArray) (w : World) (hV : PVc w) (ok : okB e a p = true) : Calls Tryz.prog 101 #[.agg #[.bool e, .int .i64 a, .int .i64 p], .string s] w (fun r w' => r = .returned (.tuple #[.bool (sentB e a p s), .nilIface]) ∧ Below w.heap.size w w') := by
  have HV : Hid (PVc w) := hV
  clear hV
  have c1 := fun x => refuse_ok e a p x ok
  go_enter Tryz.func101, Tryz.ntmps101
  go_wp2_with fail
  refine (c1 _).mono ?_
  rintro _ w1 ⟨rfl, b1⟩
  have HB1 : Hid (Below w.heap.size w w1) := below_then ((Below.refl _ _).alloc (Nat.le_refl _) _) b1
  have X1_0 : Hid (Box w1 (w.heap.size) #[.bool e, .int .i64 a, .int .i64 p]) := (Box.new' _ #[.bool e, .int .i64 a, .int .i64 p] 45 (w.heap.size) (by simp)).below b1
  obtain ⟨l1_0, k1_0, f1_0⟩ := X1_0.out
  clear b1
  go_wp2_with fail
  refine (may_any e a p s _ (HV.out.below HB1.out)).mono ?_
  rintro _ w2 ⟨rfl, b2⟩
  have HB2 : Hid (Below w.heap.size w w2) := below_then HB1.out b2
  have X2_0 : Hid (Box w2 (w.heap.size) #[.bool e, .int .i64 a, .int .i64 p]) := X1_0.out.below b2
  clear k1_0 l1_0 f1_0 X1_0 HB1
  obtain ⟨l2_0, k2_0, f2_0⟩ := X2_0.out
  clear b2
  go_wp2_with fail
  refine bodyPost_ret (v := .tuple #[.bool (sentB e a p s), .nilIface]) ?_ rfl ⟨rfl, HB2.out⟩
  simp [results, Tryz.results101, go_sem]
end Go.Proofs.YtoijhecphgdfnaaGreatDoor

/-
  The program's states, standing.
-/
namespace Go.Proofs.YtoijhecphgdfnaaGreatDoor
open Go.RowKit

abbrev fv (f : FuncId) : Value := .func (.func f) #[] #[]
/-- The states' table. -/
abbrev stA : Array Value := #[.nilFunc, .nilFunc, .nilFunc, fv 113, fv 114, fv 115, fv 116, fv 117, fv 115, fv 118, fv 117, fv 119, fv 112, fv 120, fv 121, fv 112, fv 120, fv 121, fv 122, fv 120, fv 121]
set_option maxRecDepth 100000 in
set_option maxHeartbeats 2000000 in
theorem states_any (w : World) : Calls Tryz.prog 108 #[] w fun r w' => r = .returned (.agg stA) ∧ Below w.heap.size w w' := by
  have hl := run_loadVar_new (P := Tryz.prog) w 196 stA 7 170 Tryz.underlying196 (by kernel_rfl)
  have hs : ∀ c, (c : Array Value).size = 21 → (w.alloc (.cells c 196)).setRow w.heap.size stA = w.alloc (.cells stA 196) := fun c _ => World.setRow_alloc_new w c stA _
  go_enter Tryz.func108, Tryz.ntmps108
  go_wp2_with (refine wpList_store_row rfl 196 (.tmp 0) (.tmp 10) rfl w.heap.size stA rfl rfl 196 _ (heap_alloc_last w _) ?_ ?_ ?_ ?_; kernel_rfl; kernel_rfl; kernel_rfl; rw [hs _ rfl])
  refine bodyPost_ret (v := .agg stA) ?_ rfl ⟨rfl, ?_⟩
  · simp [results, Tryz.results108, asAddr]
    exact hl
  · exact (Below.refl _ _).alloc (Nat.le_refl _) _
theorem idx_1 (w : World) : (Instr.index 196 (.agg stA) (.int .i64 1)).run Tryz.prog w = .ok (.agg #[fv 113, fv 114, fv 115]) w := by kernel_rfl
theorem idx_2 (w : World) : (Instr.index 196 (.agg stA) (.int .i64 2)).run Tryz.prog w = .ok (.agg #[fv 116, fv 117, fv 115]) w := by kernel_rfl
theorem idx_3 (w : World) : (Instr.index 196 (.agg stA) (.int .i64 3)).run Tryz.prog w = .ok (.agg #[fv 118, fv 117, fv 119]) w := by kernel_rfl
theorem idx_4 (w : World) : (Instr.index 196 (.agg stA) (.int .i64 4)).run Tryz.prog w = .ok (.agg #[fv 112, fv 120, fv 121]) w := by kernel_rfl
theorem idx_5 (w : World) : (Instr.index 196 (.agg stA) (.int .i64 5)).run Tryz.prog w = .ok (.agg #[fv 112, fv 120, fv 121]) w := by kernel_rfl
theorem idx_6 (w : World) : (Instr.index 196 (.agg stA) (.int .i64 6)).run Tryz.prog w = .ok (.agg #[fv 122, fv 120, fv 121]) w := by kernel_rfl
theorem pfit_1 (a b c : Bool) (w : World) : Calls Tryz.prog 113 #[.agg #[.bool a, .bool b, .bool c]] w fun r w' => r = .returned (.bool a) ∧ Below w.heap.size w w' := by
  go_enter Tryz.func113, Tryz.ntmps113
  go_wp2_with fail
  go_ret
  exact ⟨rfl, (Below.refl _ _).alloc (Nat.le_refl _) _⟩
theorem pfit_2 (a b c : Bool) (w : World) : Calls Tryz.prog 116 #[.agg #[.bool a, .bool b, .bool c]] w fun r w' => r = .returned (.bool b) ∧ Below w.heap.size w w' := by
  go_enter Tryz.func116, Tryz.ntmps116
  go_wp2_with fail
  go_ret
  exact ⟨rfl, (Below.refl _ _).alloc (Nat.le_refl _) _⟩
theorem pfit_3 (a b c : Bool) (w : World) : Calls Tryz.prog 118 #[.agg #[.bool a, .bool b, .bool c]] w fun r w' => r = .returned (.bool c) ∧ Below w.heap.size w w' := by
  go_enter Tryz.func118, Tryz.ntmps118
  go_wp2_with fail
  go_ret
  exact ⟨rfl, (Below.refl _ _).alloc (Nat.le_refl _) _⟩
theorem pfit_4 (a b c : Bool) (w : World) : Calls Tryz.prog 112 #[.agg #[.bool a, .bool b, .bool c]] w fun r w' => r = .returned (.bool true) ∧ Below w.heap.size w w' := by
  go_enter Tryz.func112, Tryz.ntmps112
  go_wp2_with fail
  go_ret
  exact ⟨rfl, (Below.refl _ _).alloc (Nat.le_refl _) _⟩
theorem pfit_6 (a b c : Bool) (w : World) : Calls Tryz.prog 122 #[.agg #[.bool a, .bool b, .bool c]] w fun r w' => r = .returned (.bool (a || b)) ∧ Below w.heap.size w w' := by
  cases a
  all_goals
    go_enter Tryz.func122, Tryz.ntmps122
    go_wp2_with fail
    go_ret
    exact ⟨rfl, (Below.refl _ _).alloc (Nat.le_refl _) _⟩
end Go.Proofs.YtoijhecphgdfnaaGreatDoor
