/-
  SeqReceives.
-/
import Derived.Test.YtnabpjfdpelejaaDoorSqSendsLaw
import Derived.Test.YtnabpjfdpelejaaDoorSqPlaysR
namespace Go.Proofs.YtnabpjfdpelejaaDoor
open Go.RowKit

/-- Two pairs of receivers, apart. -/
structure RR (W w : World) (x : Nat) (sx : Option Nat) (y : Nat) (sy : Option Nat) : Prop where
  px : ∃ e l, PR w x sx e l
  py : ∃ e l, PR w y sy e l
  ix : In W w (PF x sx)
  iy : In W w (PF y sy)
  ap : ∀ k, PF x sx k → ¬ PF y sy k
section
variable {W w w' : World} {x y : Nat} {sx sy : Option Nat}
theorem RR.stepx {r : Ending} (h : RR W w x sx y sy) (q : PlR W w x sx r w') : RR W w' x sx y sy := by
  obtain ⟨e, l, hn⟩ := h.py
  exact ⟨q.2.1, ⟨e, l, hn.off q.2.2.1 (fun k hk g => h.ap k g hk)⟩, q.2.2.2, h.iy.off q.2.2.1 h.ix.ge, h.ap⟩
theorem RR.stepy {r : Ending} (h : RR W w x sx y sy) (q : PlR W w y sy r w') : RR W w' x sx y sy := by
  obtain ⟨e, l, hn⟩ := h.px
  exact ⟨⟨e, l, hn.off q.2.2.1 (fun k hk g => h.ap k hk g)⟩, q.2.1, h.ix.off q.2.2.1 h.iy.ge, q.2.2.2, h.ap⟩
theorem RR.playx (h : RR W w x sx y sy) (kd of m e : Int) : Calls Tryd.prog 25 #[.pointer (some ⟨x, 0, none⟩), .agg #[.int .i64 kd, .int .i64 of, .int .i64 m, .int .i64 e]] w fun r w' => r = .returned (.bool true) ∧ Hid (RR W w' x sx y sy) := by
  obtain ⟨e1, l1, hn⟩ := h.px
  exact (rplays_any hn h.ix kd of m e).mono fun r w' q => ⟨q.1, h.stepx q⟩
theorem RR.playy (h : RR W w x sx y sy) (kd of m e : Int) : Calls Tryd.prog 25 #[.pointer (some ⟨y, 0, none⟩), .agg #[.int .i64 kd, .int .i64 of, .int .i64 m, .int .i64 e]] w fun r w' => r = .returned (.bool true) ∧ Hid (RR W w' x sx y sy) := by
  obtain ⟨e1, l1, hn⟩ := h.py
  exact (rplays_any hn h.iy kd of m e).mono fun r w' q => ⟨q.1, h.stepy q⟩
theorem RR.below (h : RR W w x sx y sy) (hb : Below w.heap.size w w') : RR W w' x sx y sy := by
  obtain ⟨e1, l1, h1⟩ := h.px
  obtain ⟨e2, l2, h2⟩ := h.py
  exact ⟨⟨e1, l1, h1.below hb⟩, ⟨e2, l2, h2.below hb⟩, h.ix.below hb, h.iy.below hb, h.ap⟩
theorem RR.cells (h : RR W w x sx y sy) : ∃ e l, w.cell? ⟨x, 2, none⟩ = some (.int .i64 e) ∧ w.cell? ⟨x, 3, none⟩ = some (.int .i64 l) := by
  obtain ⟨e1, l1, h1⟩ := h.px
  cases sx with
  | none => exact ⟨e1, l1, h1.1.cell 2, h1.1.cell 3⟩
  | some s => exact ⟨e1, l1, h1.1.cell 2, h1.1.cell 3⟩
theorem RR.cells' (h : RR W w x sx y sy) : ∃ e l, w.cell? ⟨y, 2, none⟩ = some (.int .i64 e) ∧ w.cell? ⟨y, 3, none⟩ = some (.int .i64 l) := by
  obtain ⟨e1, l1, h1⟩ := h.py
  cases sy with
  | none => exact ⟨e1, l1, h1.1.cell 2, h1.1.cell 3⟩
  | some s => exact ⟨e1, l1, h1.1.cell 2, h1.1.cell 3⟩
end
set_option maxRecDepth 100000 in
set_option maxHeartbeats 4000000 in
theorem receives_law (a b c d : Int) (ao : Option Addr) (cap : Nat) (xs : List (Int × Int × Int × Int)) (w : World) (hV : PV w) (hS : Scr w ao xs) (hn : xs.length ≤ 140737488355328) : Calls Tryd.prog 7 #[.int .i64 a, .int .i64 b, .int .i64 c, .int .i64 d, .slice ao xs.length cap] w fun r w' => r = .returned (.bool true) ∧ Below w.heap.size w w' := by
  have HV : Hid (PV w) := hV
  have HS : Hid (Scr w ao xs) := hS
  obtain ⟨n, hl⟩ : ∃ n, xs.length = n := ⟨_, rfl⟩
  rw [hl] at hn ⊢
  have HL : Hid (xs.length = n) := hl
  clear hV hS hl
  go_enter Tryd.func7, Tryd.ntmps7
  go_wp2_with fail
  refine (received_any a b _ HV.out).mono ?_
  rintro _ w1 ⟨x, sx, ex, lx, rfl, gx, px, b1⟩
  have H1 : Hid ((∀ k, PF x sx k → w.heap.size ≤ k) ∧ PR w1 x sx ex lx ∧ Below w.heap.size w w1) := ⟨gx, px, b1⟩
  clear gx px b1
  go_wp2_with fail
  refine (received_any c d _ (HV.out.below H1.out.2.2)).mono ?_
  rintro _ w2 ⟨y, sy, ey, ly, rfl, gy, py, b2⟩
  have HI : Hid (RR w w2 x sx y sy) := ⟨⟨ex, lx, H1.out.2.1.below b2⟩, ⟨ey, ly, py⟩, ⟨HV.out, below_then H1.out.2.2 b2, H1.out.1⟩, ⟨HV.out, below_then H1.out.2.2 b2, fun k hk => Nat.le_trans H1.out.2.2.size (gy k hk)⟩, fun k hx hy => by have := H1.out.2.1.lt hx; have := gy k hy; omega⟩
  clear gy py b2 H1
  go_wp2_with fail
  go_loopw [15] (fun ti wx => ∃ j : Nat, j ≤ n + 1 ∧ ti = .int .i64 j ∧ Hid (RR w wx x sx y sy)) (fun ti _ => n + 1 - (intOf ti).toNat)
  case atStart => exact ⟨0, Nat.zero_le _, rfl, HI⟩
  case round =>
    obtain ⟨j, hj, rfl, HI⟩ := hrel
    by_cases hlt : j < n
    · obtain ⟨⟨kd, of, m, e⟩, hy⟩ : ∃ y, xs[j]? = some y := ⟨_, List.getElem?_eq_getElem (by rw [HL.out]; exact hlt)⟩
      obtain ⟨sb, so, rfl, hsl, ka0, ka1, ka2, ka3⟩ := HS.out j _ hy
      simp only at ka0 ka1 ka2 ka3
      have q0 : wr.cell? ⟨sb, so + j * 4, none⟩ = some (.int .i64 kd) := (HI.out.ix.bl.cell (p := ⟨sb, so + j * 4, none⟩) hsl).trans ka0
      have q1 : wr.cell? ⟨sb, so + j * 4 + 1, none⟩ = some (.int .i64 of) := (HI.out.ix.bl.cell (p := ⟨sb, so + j * 4 + 1, none⟩) hsl).trans ka1
      have q2 : wr.cell? ⟨sb, so + j * 4 + 2, none⟩ = some (.int .i64 m) := (HI.out.ix.bl.cell (p := ⟨sb, so + j * 4 + 2, none⟩) hsl).trans ka2
      have q3 : wr.cell? ⟨sb, so + j * 4 + 3, none⟩ = some (.int .i64 e) := (HI.out.ix.bl.cell (p := ⟨sb, so + j * 4 + 3, none⟩) hsl).trans ka3
      have hlt1 : (j : Int) < n := by omega
      have hle1 : (j : Int) ≤ n := by omega
      clear hy ka0 ka1 ka2 ka3
      obtain ⟨bt, hbt⟩ : ∃ bt, (bits BinOp.and IntKind.i64 of 1 == 1) = bt := ⟨_, rfl⟩
      cases bt
      · go_wp2_with fail
        refine (HI.out.playx kd of m e).mono ?_
        rintro _ w3 ⟨rfl, HI3⟩
        clear q0 q1 q2 q3 hbt
        go_wp2_with fail
        go_loopw [17] (fun tk wx => ∃ k : Nat, k ≤ 6 ∧ tk = .int .i64 k ∧ Hid (RR w wx x sx y sy)) (fun tk _ => 6 - (intOf tk).toNat)
        case atStart => exact ⟨0, Nat.zero_le _, rfl, HI3⟩
        case round =>
          obtain ⟨k, hk, rfl, HI4⟩ := hrel
          by_cases h6 : k = 6
          · subst h6
            go_wp2_with fail
            go_roundw
            case rel => exact ⟨j + 1, by omega, by go_num, HI4⟩
            case measure => simp [intOf]; omega
          · by_cases h3 : k = 3
            · subst h3
              go_wp2_with fail
              go_roundw
              case rel => exact ⟨4, by omega, rfl, HI4⟩
              case measure => simp [intOf]
            · by_cases h4 : k = 4
              · subst h4
                go_wp2_with fail
                go_roundw
                case rel => exact ⟨5, by omega, rfl, HI4⟩
                case measure => simp [intOf]
              · have g3 : ((k : Int) != 3) = true := by simp; omega
                have g4 : ((k : Int) != 4) = true := by simp; omega
                have g5 : (k : Int) ≤ 5 := by omega
                obtain ⟨ez, lz, z2, z3⟩ := HI4.out.cells
                go_wp2_with fail
                refine (HI4.out.playx k 0 lz 0).mono ?_
                rintro _ w4 ⟨rfl, HI5⟩
                clear z2 z3
                obtain ⟨ez, lz, z2, z3⟩ := HI5.out.cells'
                go_wp2_with fail
                refine (HI5.out.playy k 0 ez 0).mono ?_
                rintro _ w5 ⟨rfl, HI6⟩
                clear z2 z3
                go_wp2_with fail
                go_roundw
                case rel => exact ⟨k + 1, by omega, by go_num, HI6⟩
                case measure => simp [intOf]; omega
      · go_wp2_with fail
        refine (HI.out.playy kd of m e).mono ?_
        rintro _ w3 ⟨rfl, HI3⟩
        clear q0 q1 q2 q3 hbt
        go_wp2_with fail
        go_loopw [17] (fun tk wx => ∃ k : Nat, k ≤ 6 ∧ tk = .int .i64 k ∧ Hid (RR w wx x sx y sy)) (fun tk _ => 6 - (intOf tk).toNat)
        case atStart => exact ⟨0, Nat.zero_le _, rfl, HI3⟩
        case round =>
          obtain ⟨k, hk, rfl, HI4⟩ := hrel
          by_cases h6 : k = 6
          · subst h6
            go_wp2_with fail
            go_roundw
            case rel => exact ⟨j + 1, by omega, by go_num, HI4⟩
            case measure => simp [intOf]; omega
          · by_cases h3 : k = 3
            · subst h3
              go_wp2_with fail
              go_roundw
              case rel => exact ⟨4, by omega, rfl, HI4⟩
              case measure => simp [intOf]
            · by_cases h4 : k = 4
              · subst h4
                go_wp2_with fail
                go_roundw
                case rel => exact ⟨5, by omega, rfl, HI4⟩
                case measure => simp [intOf]
              · have g3 : ((k : Int) != 3) = true := by simp; omega
                have g4 : ((k : Int) != 4) = true := by simp; omega
                have g5 : (k : Int) ≤ 5 := by omega
                obtain ⟨ez, lz, z2, z3⟩ := HI4.out.cells
                go_wp2_with fail
                refine (HI4.out.playx k 0 lz 0).mono ?_
                rintro _ w4 ⟨rfl, HI5⟩
                clear z2 z3
                obtain ⟨ez, lz, z2, z3⟩ := HI5.out.cells'
                go_wp2_with fail
                refine (HI5.out.playy k 0 ez 0).mono ?_
                rintro _ w5 ⟨rfl, HI6⟩
                clear z2 z3
                go_wp2_with fail
                go_roundw
                case rel => exact ⟨k + 1, by omega, by go_num, HI6⟩
                case measure => simp [intOf]; omega
    · by_cases heq : j = n
      · have hlt1 : ¬ ((j : Int) < n) := by omega
        have hle1 : (j : Int) ≤ n := by omega
        have HI3 := HI
        go_wp2_with fail
        go_loopw [17] (fun tk wx => ∃ k : Nat, k ≤ 6 ∧ tk = .int .i64 k ∧ Hid (RR w wx x sx y sy)) (fun tk _ => 6 - (intOf tk).toNat)
        case atStart => exact ⟨0, Nat.zero_le _, rfl, HI3⟩
        case round =>
          obtain ⟨k, hk, rfl, HI4⟩ := hrel
          by_cases h6 : k = 6
          · subst h6
            go_wp2_with fail
            go_roundw
            case rel => exact ⟨j + 1, by omega, by go_num, HI4⟩
            case measure => simp [intOf]; omega
          · by_cases h3 : k = 3
            · subst h3
              go_wp2_with fail
              go_roundw
              case rel => exact ⟨4, by omega, rfl, HI4⟩
              case measure => simp [intOf]
            · by_cases h4 : k = 4
              · subst h4
                go_wp2_with fail
                go_roundw
                case rel => exact ⟨5, by omega, rfl, HI4⟩
                case measure => simp [intOf]
              · have g3 : ((k : Int) != 3) = true := by simp; omega
                have g4 : ((k : Int) != 4) = true := by simp; omega
                have g5 : (k : Int) ≤ 5 := by omega
                obtain ⟨ez, lz, z2, z3⟩ := HI4.out.cells
                go_wp2_with fail
                refine (HI4.out.playx k 0 lz 0).mono ?_
                rintro _ w4 ⟨rfl, HI5⟩
                clear z2 z3
                obtain ⟨ez, lz, z2, z3⟩ := HI5.out.cells'
                go_wp2_with fail
                refine (HI5.out.playy k 0 ez 0).mono ?_
                rintro _ w5 ⟨rfl, HI6⟩
                clear z2 z3
                go_wp2_with fail
                go_roundw
                case rel => exact ⟨k + 1, by omega, by go_num, HI6⟩
                case measure => simp [intOf]; omega
      · have hle1 : ¬ ((j : Int) ≤ n) := by omega
        go_wp2_with fail
        go_ret
        exact ⟨rfl, HI.out.ix.bl⟩
end Go.Proofs.YtnabpjfdpelejaaDoor
