/-
  SeqSends.
-/
import Derived.Test.YtnabpjfdpelejaaDoorSqSent
import Derived.Test.YtnabpjfdpelejaaDoorSqPlays
namespace Go.Proofs.YtnabpjfdpelejaaDoor
open Go.RowKit

/-- Ops that came in. -/
def Scr (w : World) (ao : Option Addr) (xs : List (Int × Int × Int × Int)) : Prop :=
  ∀ (j : Nat) (y : Int × Int × Int × Int), xs[j]? = some y → ∃ b o, ao = some ⟨b, o, none⟩ ∧ b < w.heap.size ∧ w.cell? ⟨b, o + j * 4, none⟩ = some (.int .i64 y.1) ∧ w.cell? ⟨b, o + j * 4 + 1, none⟩ = some (.int .i64 y.2.1) ∧ w.cell? ⟨b, o + j * 4 + 2, none⟩ = some (.int .i64 y.2.2.1) ∧ w.cell? ⟨b, o + j * 4 + 3, none⟩ = some (.int .i64 y.2.2.2)
/-- Two pairs of senders, apart. -/
structure SS (W w : World) (x : Nat) (sx : Option Nat) (y : Nat) (sy : Option Nat) : Prop where
  px : ∃ n, PS w x sx n
  py : ∃ n, PS w y sy n
  ix : In W w (PF x sx)
  iy : In W w (PF y sy)
  ap : ∀ k, PF x sx k → ¬ PF y sy k
section
variable {W w w' : World} {x y : Nat} {sx sy : Option Nat}
theorem SS.stepx {r : Ending} (h : SS W w x sx y sy) (q : PlQ W w x sx r w') : SS W w' x sx y sy := by
  obtain ⟨n, hn⟩ := h.py
  exact ⟨q.2.1, ⟨n, hn.off q.2.2.1 (fun k hk g => h.ap k g hk)⟩, q.2.2.2, h.iy.off q.2.2.1 h.ix.ge, h.ap⟩
theorem SS.stepy {r : Ending} (h : SS W w x sx y sy) (q : PlQ W w y sy r w') : SS W w' x sx y sy := by
  obtain ⟨n, hn⟩ := h.px
  exact ⟨⟨n, hn.off q.2.2.1 (fun k hk g => h.ap k hk g)⟩, q.2.1, h.ix.off q.2.2.1 h.iy.ge, q.2.2.2, h.ap⟩
theorem SS.playx (h : SS W w x sx y sy) (kd of m e : Int) : Calls Tryd.prog 20 #[.pointer (some ⟨x, 0, none⟩), .agg #[.int .i64 kd, .int .i64 of, .int .i64 m, .int .i64 e]] w fun r w' => r = .returned (.bool true) ∧ Hid (SS W w' x sx y sy) := by
  obtain ⟨n, hn⟩ := h.px
  exact (lplays_any hn h.ix kd of m e).mono fun r w' q => ⟨q.1, h.stepx q⟩
theorem SS.playy (h : SS W w x sx y sy) (kd of m e : Int) : Calls Tryd.prog 20 #[.pointer (some ⟨y, 0, none⟩), .agg #[.int .i64 kd, .int .i64 of, .int .i64 m, .int .i64 e]] w fun r w' => r = .returned (.bool true) ∧ Hid (SS W w' x sx y sy) := by
  obtain ⟨n, hn⟩ := h.py
  exact (lplays_any hn h.iy kd of m e).mono fun r w' q => ⟨q.1, h.stepy q⟩
theorem SS.playz (h : SS W w x sx y sy) {z : Nat} (hz : z = x ∨ z = y) (kd of m e : Int) : Calls Tryd.prog 20 #[.pointer (some ⟨z, 0, none⟩), .agg #[.int .i64 kd, .int .i64 of, .int .i64 m, .int .i64 e]] w fun r w' => r = .returned (.bool true) ∧ Hid (SS W w' x sx y sy) := by
  rcases hz with rfl | rfl
  · exact h.playx kd of m e
  · exact h.playy kd of m e
end
set_option maxRecDepth 100000 in
set_option maxHeartbeats 4000000 in
theorem sends_law (a b : Int) (ao : Option Addr) (cap : Nat) (xs : List (Int × Int × Int × Int)) (w : World) (hV : PV w) (hS : Scr w ao xs) (hn : xs.length ≤ 140737488355328) : Calls Tryd.prog 5 #[.int .i64 a, .int .i64 b, .slice ao xs.length cap] w fun r w' => r = .returned (.bool true) ∧ Below w.heap.size w w' := by
  have HV : Hid (PV w) := hV
  have HS : Hid (Scr w ao xs) := hS
  obtain ⟨n, hl⟩ : ∃ n, xs.length = n := ⟨_, rfl⟩
  rw [hl] at hn ⊢
  have HL : Hid (xs.length = n) := hl
  clear hV hS hl
  go_enter Tryd.func5, Tryd.ntmps5
  go_wp2_with fail
  refine (sent_any a _ HV.out).mono ?_
  rintro _ w1 ⟨x, sx, nx, rfl, gx, px, b1⟩
  have H1 : Hid ((∀ k, PF x sx k → w.heap.size ≤ k) ∧ PS w1 x sx nx ∧ Below w.heap.size w w1) := ⟨gx, px, b1⟩
  clear gx px b1
  go_wp2_with fail
  refine (sent_any b _ (HV.out.below H1.out.2.2)).mono ?_
  rintro _ w2 ⟨y, sy, ny, rfl, gy, py, b2⟩
  have HI : Hid (SS w w2 x sx y sy) := ⟨⟨nx, H1.out.2.1.below b2⟩, ⟨ny, py⟩, ⟨HV.out, below_then H1.out.2.2 b2, H1.out.1⟩, ⟨HV.out, below_then H1.out.2.2 b2, fun k hk => Nat.le_trans H1.out.2.2.size (gy k hk)⟩, fun k hx hy => by have := H1.out.2.1.lt hx; have := gy k hy; omega⟩
  clear gy py b2 H1
  go_wp2_with fail
  go_loopw [11] (fun ti wx => ∃ j : Nat, j ≤ n ∧ ti = .int .i64 j ∧ Hid (SS w wx x sx y sy)) (fun ti _ => n - (intOf ti).toNat)
  case atStart => exact ⟨0, Nat.zero_le _, rfl, HI⟩
  case round =>
    obtain ⟨j, hj, rfl, HI⟩ := hrel
    by_cases hlt : j < n
    · obtain ⟨⟨kd, of, m, e⟩, hy⟩ : ∃ y, xs[j]? = some y := ⟨_, List.getElem?_eq_getElem (by rw [HL.out]; exact hlt)⟩
      obtain ⟨sb, so, rfl, hsl, ka0, ka1, ka2, ka3⟩ := HS.out j _ hy
      simp only at ka0 ka1 ka2 ka3
      have q0 : wr.cell? ⟨sb, so + j * 4, none⟩ = some (.int .i64 kd) := (HI.out.ix.bl.cell (p := ⟨sb, so + j * 4, none⟩) hsl).trans ka0
      have q1 : wr.cell? ⟨sb, so + j * 4 + 1, none⟩ = some (.int .i64 of) := (HI.out.ix.bl.cell (p := ⟨sb, so + j * 4 + 1, none⟩) hsl).trans ka1
      have q2 : wr.cell? ⟨sb, so + j * 4 + 2, none⟩ = some (.int .i64 m) := (HI.out.ix.bl.cell (p := ⟨sb, so + j * 4 + 2, none⟩) hsl).trans ka2
      have q3 : wr.cell? ⟨sb, so + j * 4 + 3, none⟩ = some (.int .i64 e) := (HI.out.ix.bl.cell (p := ⟨sb, so + j * 4 + 3, none⟩) hsl).trans ka3
      have hlt1 : (j : Int) < n := by omega
      clear hy ka0 ka1 ka2 ka3
      obtain ⟨bt, hbt⟩ : ∃ bt, (bits BinOp.and IntKind.i64 of 1 == 1) = bt := ⟨_, rfl⟩
      cases bt
      · go_wp2_with fail
        refine (HI.out.playx kd of m e).mono ?_
        rintro _ w3 ⟨rfl, HI3⟩
        clear q0 q1 q2 q3 hbt
        go_wp2_with fail
        refine (HI3.out.playx 0 0 0 0).mono ?_
        rintro _ w4 ⟨rfl, HI4⟩
        go_wp2_with fail
        refine (HI4.out.playy 0 0 0 0).mono ?_
        rintro _ w5 ⟨rfl, HI5⟩
        go_wp2_with fail
        go_roundw
        case rel => exact ⟨j + 1, hlt, by go_num, HI5⟩
        case measure => simp [intOf]; omega
      · go_wp2_with fail
        refine (HI.out.playy kd of m e).mono ?_
        rintro _ w3 ⟨rfl, HI3⟩
        clear q0 q1 q2 q3 hbt
        go_wp2_with fail
        refine (HI3.out.playx 0 0 0 0).mono ?_
        rintro _ w4 ⟨rfl, HI4⟩
        go_wp2_with fail
        refine (HI4.out.playy 0 0 0 0).mono ?_
        rintro _ w5 ⟨rfl, HI5⟩
        go_wp2_with fail
        go_roundw
        case rel => exact ⟨j + 1, hlt, by go_num, HI5⟩
        case measure => simp [intOf]; omega
    · have hlt1 : ¬ ((j : Int) < n) := by omega
      go_wp2_with fail
      refine (HI.out.playx 0 0 0 0).mono ?_
      rintro _ w4 ⟨rfl, HI4⟩
      go_wp2_with fail
      refine (HI4.out.playy 0 0 0 0).mono ?_
      rintro _ w5 ⟨rfl, HI5⟩
      go_wp2_with fail
      go_ret
      exact ⟨by simp, HI5.out.ix.bl⟩
end Go.Proofs.YtnabpjfdpelejaaDoor
