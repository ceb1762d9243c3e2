/-
  SeqAccepts.
-/
import Derived.Test.YtnabpjfdpelejaaDoorSqAcceptsDef
import Derived.Deep.CutRange
namespace Go.Proofs.YtnabpjfdpelejaaDoor
open Go.RowKit

/-- What the law keeps of a receiver: the last number, whether any is right. -/
structure AC (W w : World) (s r : Nat) (last : Int) (op : Bool) : Prop where
  br : BR W w s r 1 (if op then 0 else last + 1) last
  z : op = true → last = 0
  h0 : 0 ≤ last
  h1 : last ≤ 2147483647
set_option maxRecDepth 100000 in
set_option maxHeartbeats 20000000 in
theorem accepts_law (ao : Option Addr) (cap : Nat) (xs : List Int) (bo : Option Addr) (bcap : Nat) (ys : List Bool) (w : World) (hV : PV w) (hX : Nums w ao xs) (hY : Flags w bo ys) (hn : xs.length ≤ 140737488355328) : Calls Tryd.prog 4 #[.slice ao xs.length cap, .slice bo ys.length bcap] w fun r w' => r = .returned (.bool true) ∧ Below w.heap.size w w' := by
  have HV : Hid (PV w) := hV
  have HX : Hid (Nums w ao xs) := hX
  have HY : Hid (Flags w bo ys) := hY
  obtain ⟨n, hl⟩ : ∃ n, xs.length = n := ⟨_, rfl⟩
  obtain ⟨m, hl2⟩ : ∃ m, ys.length = m := ⟨_, rfl⟩
  rw [hl] at hn ⊢
  rw [hl2]
  have HL : Hid (xs.length = n) := hl
  have HM : Hid (ys.length = m) := hl2
  clear hV hX hY hl hl2
  go_enter Tryd.func4, Tryd.ntmps4
  go_wp2_with fail
  refine (begun_any w HV.out).mono ?_
  rintro _ w1 ⟨s, r, rfl, H1⟩
  have HI : Hid (AC w w1 s r 0 false) := ⟨H1.out, fun h => (by cases h), by omega, by omega⟩
  clear H1
  go_wp2_with fail
  go_loopw [8, 9, 10] (fun tl tp ti wx => ∃ (last : Int) (op : Bool) (j : Nat), tl = .int .i64 last ∧ tp = .bool op ∧ ti = .int .i64 j ∧ j ≤ n ∧ Hid (AC w wx s r last op)) (fun _ _ ti _ => n - (intOf ti).toNat)
  case atStart => exact ⟨0, false, 0, rfl, rfl, rfl, Nat.zero_le _, HI⟩
  case round =>
    obtain ⟨last, op, j, rfl, rfl, rfl, hj, HI⟩ := hrel
    by_cases hlt : j < n
    · obtain ⟨v, hy⟩ : ∃ y, xs[j]? = some y := ⟨_, List.getElem?_eq_getElem (by rw [HL.out]; exact hlt)⟩
      obtain ⟨sb, so, rfl, hsl, ka⟩ := HX.out j _ hy
      have q0 : wr.cell? ⟨sb, so + j, none⟩ = some (.int .i64 v) := (HI.out.br.inn.bl.cell (p := ⟨sb, so + j, none⟩) hsl).trans ka
      have hlt1 : (j : Int) < n := by omega
      have hz0 := HI.out.h0
      have hz1 := HI.out.h1
      clear hy ka
      have HR : Hid (j < m → ∃ (f : Bool) (fb fo : Nat), bo = some ⟨fb, fo, none⟩ ∧ wr.cell? ⟨fb, fo + j, none⟩ = some (.bool f)) := fun h => by
        obtain ⟨f, hf⟩ : ∃ y, ys[j]? = some y := ⟨_, List.getElem?_eq_getElem (by rw [HM.out]; exact h)⟩
        obtain ⟨fb, fo, e, hfl, kf⟩ := HY.out j _ hf
        exact ⟨f, fb, fo, e, (HI.out.br.inn.bl.cell (p := ⟨fb, fo + j, none⟩) hfl).trans kf⟩
      have HN : Hid (∀ op', op = op' → BR w wr s r 1 (if op' then 0 else last + 1) last ∧ (op' = true → last = 0)) := fun op' h => by
        subst h; exact ⟨HI.out.br, HI.out.z⟩
      go_upto_region 10 with fail
      go_cut [42] from 33 to 41 (fun tc wx => ∃ fl : Bool, tc = .bool fl ∧ Hid (AC w wx s r last op))
      case first =>
        by_cases hjm : j < m
        · obtain ⟨f, fb, fo, rfl, qf⟩ := HR.out hjm
          have hjm1 : (j : Int) < m := by omega
          go_wp2_with fail
          go_meet
          exact ⟨_, rfl, HI⟩
        · have hjm1 : ¬ (j : Int) < m := by omega
          go_wp2_with fail
          go_meet
          exact ⟨_, rfl, HI⟩
      case rest =>
       clear HN HR q0 HI hz0 hz1
       obtain ⟨fl, rfl, HI⟩ := hcut
       go_upto_if 42 with fail
       go_cut [8, 9] from 43 to 55 (fun tl tp wx => ∃ (last : Int) (op : Bool), tl = .int .i64 last ∧ tp = .bool op ∧ Hid (AC w wx s r last op))
       case first =>
        cases fl
        · go_wp2_with fail
          go_meet
          exact ⟨last, op, rfl, rfl, HI⟩
        · go_wp2_with fail
          refine HI.out.br.reset.mono ?_
          rintro _ x1 ⟨ev, rfl, X1⟩
          obtain rfl := X1.out.2.1.nil
          go_wp2_with fail
          refine (X1.out.1.judge (-1)).mono ?_
          rw [show judK 0 0 (-1) = 2 from rfl]
          rintro _ x2 ⟨rfl, X2⟩
          go_wp2_with fail
          refine X2.out.1.tell.mono ?_
          rw [show tellV 0 = 0 from rfl]
          rintro _ x3 ⟨rfl, X3⟩
          go_wp2_with fail
          go_meet
          exact ⟨0, true, rfl, rfl, ⟨X3.out.1, fun _ => rfl, by omega, by omega⟩⟩
       case rest =>
        clear HI
        obtain ⟨last, op, rfl, rfl, HI⟩ := hcut
        have hz0 := HI.out.h0
        have hz1 := HI.out.h1
        have HN : Hid (∀ op', op = op' → BR w wc s r 1 (if op' then 0 else last + 1) last ∧ (op' = true → last = 0)) := fun op' h => by
          subst h; exact ⟨HI.out.br, HI.out.z⟩
        cases op
        · have X4 : Hid (BR w wc s r 1 (last + 1) last) := (HN.out false rfl).1
          clear HN
          by_cases c1 : 1 ≤ v
          · by_cases c2 : v ≤ 2147483647
            · by_cases c5 : v = last + 1
              · have f1 : (v == 0) = false := by simp; omega
                have f2 : (v == -1) = false := by simp; omega
                have f3 : (v == last + 1) = true := by simp; omega
                have f4 : (v == last) = false := by simp; omega
                have jk : judK (last + 1) (last) v = 3 := by
                  unfold judK isN
                  repeat (first | rfl | rw [if_pos (by omega)] | rw [if_neg (by omega)])
                have hk : okR (last + 1) v := (by unfold okR isN; omega)
                have a0 : accC (last + 1) v = 0 := if_pos hk
                have a1 : accE (last + 1) v = v + 1 := if_pos hk
                have a2 : accL (last + 1) (last) v = v := if_pos hk
                clear hk
                try clear c3
                try clear c4
                try clear c5
                try clear c6
                try clear c7
                go_wp2_with fail
                refine (X4.out.judge v).mono ?_
                rw [jk]
                rintro _ y1 ⟨rfl, Y1⟩
                go_wp2_with fail
                refine Y1.out.1.tell.mono ?_
                rintro _ y2 ⟨rfl, Y2⟩
                go_wp2_with fail
                refine (Y2.out.1.accept v).mono ?_
                rw [a0, a1, a2]
                rintro _ y3 ⟨ev, rfl, Y3⟩
                obtain rfl := Y3.out.2.1.nil
                by_cases hmost : v = 2147483647
                · subst hmost
                  go_wp2_with fail
                  refine Y3.out.1.last.mono ?_
                  rintro _ y4 ⟨rfl, Y4⟩
                  go_wp2_with fail
                  refine Y4.out.1.exp.mono ?_
                  rintro _ y5 ⟨rfl, Y5⟩
                  go_wp2_with fail
                  refine Y5.out.1.tell.mono ?_
                  rw [show tellV (2147483647 + 1) = 0 from rfl]
                  rintro _ y6 ⟨rfl, Y6⟩
                  go_wp2_with fail
                  go_roundw
                  case rel => exact ⟨_, false, j + 1, rfl, rfl, by go_num, hlt, ⟨Y6.out.1, fun h => (by cases h), by omega, by omega⟩⟩
                  case measure => simp [intOf]; omega
                · have hm1 : v < 2147483647 := by omega
                  have hm2 : (v == 2147483647) = false := by simpa using hmost
                  have tv : tellV (v + 1) = v + 1 := if_pos (by unfold isN; omega)
                  go_wp2_with fail
                  refine Y3.out.1.last.mono ?_
                  rintro _ y4 ⟨rfl, Y4⟩
                  go_wp2_with fail
                  refine Y4.out.1.exp.mono ?_
                  rintro _ y5 ⟨rfl, Y5⟩
                  go_wp2_with fail
                  refine Y5.out.1.tell.mono ?_
                  rw [tv]
                  rintro _ y6 ⟨rfl, Y6⟩
                  go_wp2_with fail
                  go_roundw
                  case rel => exact ⟨_, false, j + 1, rfl, rfl, by go_num, hlt, ⟨Y6.out.1, fun h => (by cases h), by omega, by omega⟩⟩
                  case measure => simp [intOf]; omega
              · by_cases c6 : v = last
                · have f5 : (v == 0) = false := by simp; omega
                  have f6 : (v == -1) = false := by simp; omega
                  have f7 : (v == last + 1) = false := by simp; omega
                  have f8 : (v == last) = true := by simp; omega
                  have f9 : 0 < last := by omega
                  have jk : judK (last + 1) (last) v = 4 := by
                    unfold judK isN
                    repeat (first | rfl | rw [if_pos (by omega)] | rw [if_neg (by omega)])
                  have hk : ¬ okR (last + 1) v := (by unfold okR isN; omega)
                  have a0 : accC (last + 1) v = 2 := if_neg hk
                  have a1 : accE (last + 1) v = last + 1 := if_neg hk
                  have a2 : accL (last + 1) (last) v = last := if_neg hk
                  clear hk
                  try clear c3
                  try clear c4
                  try clear c5
                  try clear c6
                  try clear c7
                  go_wp2_with fail
                  refine (X4.out.judge v).mono ?_
                  rw [jk]
                  rintro _ y1 ⟨rfl, Y1⟩
                  go_wp2_with fail
                  refine Y1.out.1.tell.mono ?_
                  rintro _ y2 ⟨rfl, Y2⟩
                  go_wp2_with fail
                  refine (Y2.out.1.accept v).mono ?_
                  rw [a0, a1, a2]
                  rintro _ y3 ⟨ev, rfl, Y3⟩
                  obtain ⟨fb, hfb⟩ := Y3.out.2.1.some (by decide)
                  subst hfb
                  go_wp2_with fail
                  refine (Y3.out.1.code Y3.out.2.1).mono ?_
                  rintro _ y4 ⟨rfl, Y4⟩
                  go_wp2_with fail
                  refine Y4.out.1.tell.mono ?_
                  rintro _ y5 ⟨rfl, Y5⟩
                  go_wp2_with fail
                  refine Y5.out.1.last.mono ?_
                  rintro _ y6 ⟨rfl, Y6⟩
                  go_wp2_with fail
                  go_roundw
                  case rel => exact ⟨last, false, j + 1, rfl, rfl, by go_num, hlt, ⟨Y6.out.1, fun h => (by first | rfl | cases h), by omega, by omega⟩⟩
                  case measure => simp [intOf]; omega
                · have f10 : (v == 0) = false := by simp; omega
                  have f11 : (v == -1) = false := by simp; omega
                  have f12 : (v == last + 1) = false := by simp; omega
                  have f13 : (v == last) = false := by simp; omega
                  have jk : judK (last + 1) (last) v = 5 := by
                    unfold judK isN
                    repeat (first | rfl | rw [if_pos (by omega)] | rw [if_neg (by omega)])
                  have hk : ¬ okR (last + 1) v := (by unfold okR isN; omega)
                  have a0 : accC (last + 1) v = 2 := if_neg hk
                  have a1 : accE (last + 1) v = last + 1 := if_neg hk
                  have a2 : accL (last + 1) (last) v = last := if_neg hk
                  clear hk
                  try clear c3
                  try clear c4
                  try clear c5
                  try clear c6
                  try clear c7
                  go_wp2_with fail
                  refine (X4.out.judge v).mono ?_
                  rw [jk]
                  rintro _ y1 ⟨rfl, Y1⟩
                  go_wp2_with fail
                  refine Y1.out.1.tell.mono ?_
                  rintro _ y2 ⟨rfl, Y2⟩
                  go_wp2_with fail
                  refine (Y2.out.1.accept v).mono ?_
                  rw [a0, a1, a2]
                  rintro _ y3 ⟨ev, rfl, Y3⟩
                  obtain ⟨fb, hfb⟩ := Y3.out.2.1.some (by decide)
                  subst hfb
                  go_wp2_with fail
                  refine (Y3.out.1.code Y3.out.2.1).mono ?_
                  rintro _ y4 ⟨rfl, Y4⟩
                  go_wp2_with fail
                  refine Y4.out.1.tell.mono ?_
                  rintro _ y5 ⟨rfl, Y5⟩
                  go_wp2_with fail
                  refine Y5.out.1.last.mono ?_
                  rintro _ y6 ⟨rfl, Y6⟩
                  go_wp2_with fail
                  go_roundw
                  case rel => exact ⟨last, false, j + 1, rfl, rfl, by go_num, hlt, ⟨Y6.out.1, fun h => (by first | rfl | cases h), by omega, by omega⟩⟩
                  case measure => simp [intOf]; omega
            · have f14 : (v == 0) = false := by simp; omega
              have f15 : (v == -1) = false := by simp; omega
              have f16 : (v == last) = false := by simp; omega
              have jk : judK (last + 1) (last) v = 5 := by
                unfold judK isN
                repeat (first | rfl | rw [if_pos (by omega)] | rw [if_neg (by omega)])
              have hk : ¬ okR (last + 1) v := (by unfold okR isN; omega)
              have a0 : accC (last + 1) v = 2 := if_neg hk
              have a1 : accE (last + 1) v = last + 1 := if_neg hk
              have a2 : accL (last + 1) (last) v = last := if_neg hk
              clear hk
              try clear c3
              try clear c4
              try clear c5
              try clear c6
              try clear c7
              go_wp2_with fail
              refine (X4.out.judge v).mono ?_
              rw [jk]
              rintro _ y1 ⟨rfl, Y1⟩
              go_wp2_with fail
              refine Y1.out.1.tell.mono ?_
              rintro _ y2 ⟨rfl, Y2⟩
              go_wp2_with fail
              refine (Y2.out.1.accept v).mono ?_
              rw [a0, a1, a2]
              rintro _ y3 ⟨ev, rfl, Y3⟩
              obtain ⟨fb, hfb⟩ := Y3.out.2.1.some (by decide)
              subst hfb
              go_wp2_with fail
              refine (Y3.out.1.code Y3.out.2.1).mono ?_
              rintro _ y4 ⟨rfl, Y4⟩
              go_wp2_with fail
              refine Y4.out.1.tell.mono ?_
              rintro _ y5 ⟨rfl, Y5⟩
              go_wp2_with fail
              refine Y5.out.1.last.mono ?_
              rintro _ y6 ⟨rfl, Y6⟩
              go_wp2_with fail
              go_roundw
              case rel => exact ⟨last, false, j + 1, rfl, rfl, by go_num, hlt, ⟨Y6.out.1, fun h => (by first | rfl | cases h), by omega, by omega⟩⟩
              case measure => simp [intOf]; omega
          · by_cases c3 : v = 0
            · by_cases c7 : last = 0
              · have f17 : (v == 0) = true := by simp; omega
                have f18 : (v == -1) = false := by simp; omega
                have f19 : (v == last) = true := by simp; omega
                have f20 : ¬ 0 < last := by omega
                have jk : judK (last + 1) (last) v = 1 := by
                  unfold judK isN
                  repeat (first | rfl | rw [if_pos (by omega)] | rw [if_neg (by omega)])
                have hk : ¬ okR (last + 1) v := (by unfold okR isN; omega)
                have a0 : accC (last + 1) v = 2 := if_neg hk
                have a1 : accE (last + 1) v = last + 1 := if_neg hk
                have a2 : accL (last + 1) (last) v = last := if_neg hk
                clear hk
                try clear c3
                try clear c4
                try clear c5
                try clear c6
                try clear c7
                go_wp2_with fail
                refine (X4.out.judge v).mono ?_
                rw [jk]
                rintro _ y1 ⟨rfl, Y1⟩
                go_wp2_with fail
                refine Y1.out.1.tell.mono ?_
                rintro _ y2 ⟨rfl, Y2⟩
                go_wp2_with fail
                refine (Y2.out.1.accept v).mono ?_
                rw [a0, a1, a2]
                rintro _ y3 ⟨ev, rfl, Y3⟩
                obtain ⟨fb, hfb⟩ := Y3.out.2.1.some (by decide)
                subst hfb
                go_wp2_with fail
                refine (Y3.out.1.code Y3.out.2.1).mono ?_
                rintro _ y4 ⟨rfl, Y4⟩
                go_wp2_with fail
                refine Y4.out.1.tell.mono ?_
                rintro _ y5 ⟨rfl, Y5⟩
                go_wp2_with fail
                refine Y5.out.1.last.mono ?_
                rintro _ y6 ⟨rfl, Y6⟩
                go_wp2_with fail
                go_roundw
                case rel => exact ⟨last, false, j + 1, rfl, rfl, by go_num, hlt, ⟨Y6.out.1, fun h => (by first | rfl | cases h), by omega, by omega⟩⟩
                case measure => simp [intOf]; omega
              · have f21 : (v == 0) = true := by simp; omega
                have f22 : (v == -1) = false := by simp; omega
                have f23 : (v == last) = false := by simp; omega
                have jk : judK (last + 1) (last) v = 1 := by
                  unfold judK isN
                  repeat (first | rfl | rw [if_pos (by omega)] | rw [if_neg (by omega)])
                have hk : ¬ okR (last + 1) v := (by unfold okR isN; omega)
                have a0 : accC (last + 1) v = 2 := if_neg hk
                have a1 : accE (last + 1) v = last + 1 := if_neg hk
                have a2 : accL (last + 1) (last) v = last := if_neg hk
                clear hk
                try clear c3
                try clear c4
                try clear c5
                try clear c6
                try clear c7
                go_wp2_with fail
                refine (X4.out.judge v).mono ?_
                rw [jk]
                rintro _ y1 ⟨rfl, Y1⟩
                go_wp2_with fail
                refine Y1.out.1.tell.mono ?_
                rintro _ y2 ⟨rfl, Y2⟩
                go_wp2_with fail
                refine (Y2.out.1.accept v).mono ?_
                rw [a0, a1, a2]
                rintro _ y3 ⟨ev, rfl, Y3⟩
                obtain ⟨fb, hfb⟩ := Y3.out.2.1.some (by decide)
                subst hfb
                go_wp2_with fail
                refine (Y3.out.1.code Y3.out.2.1).mono ?_
                rintro _ y4 ⟨rfl, Y4⟩
                go_wp2_with fail
                refine Y4.out.1.tell.mono ?_
                rintro _ y5 ⟨rfl, Y5⟩
                go_wp2_with fail
                refine Y5.out.1.last.mono ?_
                rintro _ y6 ⟨rfl, Y6⟩
                go_wp2_with fail
                go_roundw
                case rel => exact ⟨last, false, j + 1, rfl, rfl, by go_num, hlt, ⟨Y6.out.1, fun h => (by first | rfl | cases h), by omega, by omega⟩⟩
                case measure => simp [intOf]; omega
            · by_cases c4 : v = -1
              · have f24 : (v == 0) = false := by simp; omega
                have f25 : (v == -1) = true := by simp; omega
                have f26 : (v == last) = false := by simp; omega
                have jk : judK (last + 1) (last) v = 2 := by
                  unfold judK isN
                  repeat (first | rfl | rw [if_pos (by omega)] | rw [if_neg (by omega)])
                have hk : ¬ okR (last + 1) v := (by unfold okR isN; omega)
                have a0 : accC (last + 1) v = 2 := if_neg hk
                have a1 : accE (last + 1) v = last + 1 := if_neg hk
                have a2 : accL (last + 1) (last) v = last := if_neg hk
                clear hk
                try clear c3
                try clear c4
                try clear c5
                try clear c6
                try clear c7
                go_wp2_with fail
                refine (X4.out.judge v).mono ?_
                rw [jk]
                rintro _ y1 ⟨rfl, Y1⟩
                go_wp2_with fail
                refine Y1.out.1.tell.mono ?_
                rintro _ y2 ⟨rfl, Y2⟩
                go_wp2_with fail
                refine (Y2.out.1.accept v).mono ?_
                rw [a0, a1, a2]
                rintro _ y3 ⟨ev, rfl, Y3⟩
                obtain ⟨fb, hfb⟩ := Y3.out.2.1.some (by decide)
                subst hfb
                go_wp2_with fail
                refine (Y3.out.1.code Y3.out.2.1).mono ?_
                rintro _ y4 ⟨rfl, Y4⟩
                go_wp2_with fail
                refine Y4.out.1.tell.mono ?_
                rintro _ y5 ⟨rfl, Y5⟩
                go_wp2_with fail
                refine Y5.out.1.last.mono ?_
                rintro _ y6 ⟨rfl, Y6⟩
                go_wp2_with fail
                go_roundw
                case rel => exact ⟨last, false, j + 1, rfl, rfl, by go_num, hlt, ⟨Y6.out.1, fun h => (by first | rfl | cases h), by omega, by omega⟩⟩
                case measure => simp [intOf]; omega
              · have f27 : (v == 0) = false := by simp; omega
                have f28 : (v == -1) = false := by simp; omega
                have f29 : (v == last) = false := by simp; omega
                have jk : judK (last + 1) (last) v = 5 := by
                  unfold judK isN
                  repeat (first | rfl | rw [if_pos (by omega)] | rw [if_neg (by omega)])
                have hk : ¬ okR (last + 1) v := (by unfold okR isN; omega)
                have a0 : accC (last + 1) v = 2 := if_neg hk
                have a1 : accE (last + 1) v = last + 1 := if_neg hk
                have a2 : accL (last + 1) (last) v = last := if_neg hk
                clear hk
                try clear c3
                try clear c4
                try clear c5
                try clear c6
                try clear c7
                go_wp2_with fail
                refine (X4.out.judge v).mono ?_
                rw [jk]
                rintro _ y1 ⟨rfl, Y1⟩
                go_wp2_with fail
                refine Y1.out.1.tell.mono ?_
                rintro _ y2 ⟨rfl, Y2⟩
                go_wp2_with fail
                refine (Y2.out.1.accept v).mono ?_
                rw [a0, a1, a2]
                rintro _ y3 ⟨ev, rfl, Y3⟩
                obtain ⟨fb, hfb⟩ := Y3.out.2.1.some (by decide)
                subst hfb
                go_wp2_with fail
                refine (Y3.out.1.code Y3.out.2.1).mono ?_
                rintro _ y4 ⟨rfl, Y4⟩
                go_wp2_with fail
                refine Y4.out.1.tell.mono ?_
                rintro _ y5 ⟨rfl, Y5⟩
                go_wp2_with fail
                refine Y5.out.1.last.mono ?_
                rintro _ y6 ⟨rfl, Y6⟩
                go_wp2_with fail
                go_roundw
                case rel => exact ⟨last, false, j + 1, rfl, rfl, by go_num, hlt, ⟨Y6.out.1, fun h => (by first | rfl | cases h), by omega, by omega⟩⟩
                case measure => simp [intOf]; omega
        · have X4 : Hid (BR w wc s r 1 0 last) := (HN.out true rfl).1
          obtain rfl := (HN.out true rfl).2 rfl
          clear HN
          by_cases c1 : 1 ≤ v
          · by_cases c2 : v ≤ 2147483647
            · have f30 : (v == 0) = false := by simp; omega
              have f31 : (v == -1) = false := by simp; omega
              have jk : judK (0) (0) v = 3 := by
                unfold judK isN
                repeat (first | rfl | rw [if_pos (by omega)] | rw [if_neg (by omega)])
              have hk : okR (0) v := (by unfold okR isN; omega)
              have a0 : accC (0) v = 0 := if_pos hk
              have a1 : accE (0) v = v + 1 := if_pos hk
              have a2 : accL (0) (0) v = v := if_pos hk
              clear hk
              try clear c3
              try clear c4
              try clear c5
              try clear c6
              try clear c7
              go_wp2_with fail
              refine (X4.out.judge v).mono ?_
              rw [jk]
              rintro _ y1 ⟨rfl, Y1⟩
              go_wp2_with fail
              refine Y1.out.1.tell.mono ?_
              rintro _ y2 ⟨rfl, Y2⟩
              go_wp2_with fail
              refine (Y2.out.1.accept v).mono ?_
              rw [a0, a1, a2]
              rintro _ y3 ⟨ev, rfl, Y3⟩
              obtain rfl := Y3.out.2.1.nil
              by_cases hmost : v = 2147483647
              · subst hmost
                go_wp2_with fail
                refine Y3.out.1.last.mono ?_
                rintro _ y4 ⟨rfl, Y4⟩
                go_wp2_with fail
                refine Y4.out.1.exp.mono ?_
                rintro _ y5 ⟨rfl, Y5⟩
                go_wp2_with fail
                refine Y5.out.1.tell.mono ?_
                rw [show tellV (2147483647 + 1) = 0 from rfl]
                rintro _ y6 ⟨rfl, Y6⟩
                go_wp2_with fail
                go_roundw
                case rel => exact ⟨_, false, j + 1, rfl, rfl, by go_num, hlt, ⟨Y6.out.1, fun h => (by cases h), by omega, by omega⟩⟩
                case measure => simp [intOf]; omega
              · have hm1 : v < 2147483647 := by omega
                have hm2 : (v == 2147483647) = false := by simpa using hmost
                have tv : tellV (v + 1) = v + 1 := if_pos (by unfold isN; omega)
                go_wp2_with fail
                refine Y3.out.1.last.mono ?_
                rintro _ y4 ⟨rfl, Y4⟩
                go_wp2_with fail
                refine Y4.out.1.exp.mono ?_
                rintro _ y5 ⟨rfl, Y5⟩
                go_wp2_with fail
                refine Y5.out.1.tell.mono ?_
                rw [tv]
                rintro _ y6 ⟨rfl, Y6⟩
                go_wp2_with fail
                go_roundw
                case rel => exact ⟨_, false, j + 1, rfl, rfl, by go_num, hlt, ⟨Y6.out.1, fun h => (by cases h), by omega, by omega⟩⟩
                case measure => simp [intOf]; omega
            · have f32 : (v == 0) = false := by simp; omega
              have f33 : (v == -1) = false := by simp; omega
              have jk : judK (0) (0) v = 5 := by
                unfold judK isN
                repeat (first | rfl | rw [if_pos (by omega)] | rw [if_neg (by omega)])
              have hk : ¬ okR (0) v := (by unfold okR isN; omega)
              have a0 : accC (0) v = 2 := if_neg hk
              have a1 : accE (0) v = 0 := if_neg hk
              have a2 : accL (0) (0) v = 0 := if_neg hk
              clear hk
              try clear c3
              try clear c4
              try clear c5
              try clear c6
              try clear c7
              go_wp2_with fail
              refine (X4.out.judge v).mono ?_
              rw [jk]
              rintro _ y1 ⟨rfl, Y1⟩
              go_wp2_with fail
              refine Y1.out.1.tell.mono ?_
              rintro _ y2 ⟨rfl, Y2⟩
              go_wp2_with fail
              refine (Y2.out.1.accept v).mono ?_
              rw [a0, a1, a2]
              rintro _ y3 ⟨ev, rfl, Y3⟩
              obtain ⟨fb, hfb⟩ := Y3.out.2.1.some (by decide)
              subst hfb
              go_wp2_with fail
              refine (Y3.out.1.code Y3.out.2.1).mono ?_
              rintro _ y4 ⟨rfl, Y4⟩
              go_wp2_with fail
              refine Y4.out.1.tell.mono ?_
              rintro _ y5 ⟨rfl, Y5⟩
              go_wp2_with fail
              refine Y5.out.1.last.mono ?_
              rintro _ y6 ⟨rfl, Y6⟩
              go_wp2_with fail
              go_roundw
              case rel => exact ⟨0, true, j + 1, rfl, rfl, by go_num, hlt, ⟨Y6.out.1, fun h => (by first | rfl | cases h), by omega, by omega⟩⟩
              case measure => simp [intOf]; omega
          · by_cases c3 : v = 0
            · have f34 : (v == 0) = true := by simp; omega
              have f35 : (v == -1) = false := by simp; omega
              have jk : judK (0) (0) v = 1 := by
                unfold judK isN
                repeat (first | rfl | rw [if_pos (by omega)] | rw [if_neg (by omega)])
              have hk : ¬ okR (0) v := (by unfold okR isN; omega)
              have a0 : accC (0) v = 2 := if_neg hk
              have a1 : accE (0) v = 0 := if_neg hk
              have a2 : accL (0) (0) v = 0 := if_neg hk
              clear hk
              try clear c3
              try clear c4
              try clear c5
              try clear c6
              try clear c7
              go_wp2_with fail
              refine (X4.out.judge v).mono ?_
              rw [jk]
              rintro _ y1 ⟨rfl, Y1⟩
              go_wp2_with fail
              refine Y1.out.1.tell.mono ?_
              rintro _ y2 ⟨rfl, Y2⟩
              go_wp2_with fail
              refine (Y2.out.1.accept v).mono ?_
              rw [a0, a1, a2]
              rintro _ y3 ⟨ev, rfl, Y3⟩
              obtain ⟨fb, hfb⟩ := Y3.out.2.1.some (by decide)
              subst hfb
              go_wp2_with fail
              refine (Y3.out.1.code Y3.out.2.1).mono ?_
              rintro _ y4 ⟨rfl, Y4⟩
              go_wp2_with fail
              refine Y4.out.1.tell.mono ?_
              rintro _ y5 ⟨rfl, Y5⟩
              go_wp2_with fail
              refine Y5.out.1.last.mono ?_
              rintro _ y6 ⟨rfl, Y6⟩
              go_wp2_with fail
              go_roundw
              case rel => exact ⟨0, true, j + 1, rfl, rfl, by go_num, hlt, ⟨Y6.out.1, fun h => (by first | rfl | cases h), by omega, by omega⟩⟩
              case measure => simp [intOf]; omega
            · by_cases c4 : v = -1
              · have f36 : (v == 0) = false := by simp; omega
                have f37 : (v == -1) = true := by simp; omega
                have jk : judK (0) (0) v = 2 := by
                  unfold judK isN
                  repeat (first | rfl | rw [if_pos (by omega)] | rw [if_neg (by omega)])
                have hk : ¬ okR (0) v := (by unfold okR isN; omega)
                have a0 : accC (0) v = 2 := if_neg hk
                have a1 : accE (0) v = 0 := if_neg hk
                have a2 : accL (0) (0) v = 0 := if_neg hk
                clear hk
                try clear c3
                try clear c4
                try clear c5
                try clear c6
                try clear c7
                go_wp2_with fail
                refine (X4.out.judge v).mono ?_
                rw [jk]
                rintro _ y1 ⟨rfl, Y1⟩
                go_wp2_with fail
                refine Y1.out.1.tell.mono ?_
                rintro _ y2 ⟨rfl, Y2⟩
                go_wp2_with fail
                refine (Y2.out.1.accept v).mono ?_
                rw [a0, a1, a2]
                rintro _ y3 ⟨ev, rfl, Y3⟩
                obtain ⟨fb, hfb⟩ := Y3.out.2.1.some (by decide)
                subst hfb
                go_wp2_with fail
                refine (Y3.out.1.code Y3.out.2.1).mono ?_
                rintro _ y4 ⟨rfl, Y4⟩
                go_wp2_with fail
                refine Y4.out.1.tell.mono ?_
                rintro _ y5 ⟨rfl, Y5⟩
                go_wp2_with fail
                refine Y5.out.1.last.mono ?_
                rintro _ y6 ⟨rfl, Y6⟩
                go_wp2_with fail
                go_roundw
                case rel => exact ⟨0, true, j + 1, rfl, rfl, by go_num, hlt, ⟨Y6.out.1, fun h => (by first | rfl | cases h), by omega, by omega⟩⟩
                case measure => simp [intOf]; omega
              · have f38 : (v == 0) = false := by simp; omega
                have f39 : (v == -1) = false := by simp; omega
                have jk : judK (0) (0) v = 5 := by
                  unfold judK isN
                  repeat (first | rfl | rw [if_pos (by omega)] | rw [if_neg (by omega)])
                have hk : ¬ okR (0) v := (by unfold okR isN; omega)
                have a0 : accC (0) v = 2 := if_neg hk
                have a1 : accE (0) v = 0 := if_neg hk
                have a2 : accL (0) (0) v = 0 := if_neg hk
                clear hk
                try clear c3
                try clear c4
                try clear c5
                try clear c6
                try clear c7
                go_wp2_with fail
                refine (X4.out.judge v).mono ?_
                rw [jk]
                rintro _ y1 ⟨rfl, Y1⟩
                go_wp2_with fail
                refine Y1.out.1.tell.mono ?_
                rintro _ y2 ⟨rfl, Y2⟩
                go_wp2_with fail
                refine (Y2.out.1.accept v).mono ?_
                rw [a0, a1, a2]
                rintro _ y3 ⟨ev, rfl, Y3⟩
                obtain ⟨fb, hfb⟩ := Y3.out.2.1.some (by decide)
                subst hfb
                go_wp2_with fail
                refine (Y3.out.1.code Y3.out.2.1).mono ?_
                rintro _ y4 ⟨rfl, Y4⟩
                go_wp2_with fail
                refine Y4.out.1.tell.mono ?_
                rintro _ y5 ⟨rfl, Y5⟩
                go_wp2_with fail
                refine Y5.out.1.last.mono ?_
                rintro _ y6 ⟨rfl, Y6⟩
                go_wp2_with fail
                go_roundw
                case rel => exact ⟨0, true, j + 1, rfl, rfl, by go_num, hlt, ⟨Y6.out.1, fun h => (by first | rfl | cases h), by omega, by omega⟩⟩
                case measure => simp [intOf]; omega
    · have hlt1 : ¬ ((j : Int) < n) := by omega
      go_wp2_with fail
      go_ret
      exact ⟨rfl, HI.out.br.inn.bl⟩
end Go.Proofs.YtnabpjfdpelejaaDoor
