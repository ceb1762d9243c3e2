/-
  InboxAnew, walked.
-/
import Derived.Test.YtelhiihbgnfpiaaDoorIbLx
namespace Go.Proofs.YtelhiihbgnfpiaaDoor
open Go.RowKit

section
variable {w X : World} {b sb M : Nat} {K R : Int} {A : List Ent}
/-- A list that can be loaded, telling what A does. -/
def Lsl (K R : Int) (X : World) (A : List Ent) (u : Value) : Prop := ∃ B ls, NRow X B u ls ∧ Tws ls A ∧ (∀ l ∈ ls, Lies X l) ∧ (∀ l ∈ ls, mayB l = true) ∧ Dis ls ∧ Inv K R ls
theorem lb_list2 (h : Lb1 w b sb M K R A X) : Calls Tryd.prog 7 #[.pointer (some ⟨b, 0, none⟩)] X fun r w' => ∃ a c, r = .returned (.slice a A.length c) ∧ Hid (Lb1 w b sb M K R A w' ∧ Lsl K R w' A (.slice a A.length c)) := by
  obtain ⟨v, es, h⟩ := h
  refine (list_any h.bx).mono ?_
  rintro r w' ⟨ls, a, c, hr, hN, hC, hb⟩
  rw [h.t.1] at hr hN
  exact ⟨a, c, hr, ⟨v, es, h.below hb⟩, _, ls, hN, hC.tws.trans h.t, fun l hl => (hC.own l hl).lies, hC.ok h.bx.sh.ok, hC.dis h.bx.sh.dis, hC.inv h.bx.inv⟩
theorem lb_load {a : Option Addr} {n c : Nat} (h : Lb1 w b sb M K R A X) (hl : Lsl K R X A (.slice a n c)) : Calls Tryd.prog 6 #[.int .i64 K, .int .i64 R, .slice a n c] X fun r w' => ∃ b' sb' M', r = .returned (.tuple #[.pointer (some ⟨b', 0, none⟩), .nilIface]) ∧ Hid (Lb2 w b sb M b' sb' M' K R A A w') := by
  obtain ⟨v, es, h⟩ := h
  obtain ⟨B, ls, h1, h2, h3, h4, h5, h6⟩ := hl
  refine (load_yes h1 h3 h4 h5 h6).mono ?_
  rintro r w' ⟨b', sb', M', v', ls', hr, hx, hC, hb⟩
  have hs := h.bel.size
  have hx' : Bx w' w.heap.size b' sb' M' v' K R ls' := ⟨hx.blk, ⟨hx.sh.blk, ERow.base hx.sh.row hs, hx.sh.map, hx.sh.dis, hx.sh.len, hx.sh.ok⟩, fun e he => (hx.own e he).base hs, Nat.le_trans hs hx.lb, Nat.le_trans hs hx.ls, Nat.le_trans hs hx.lm, hx.inv⟩
  refine ⟨b', sb', M', hr, v, v', es, ls', h.below hb, ⟨hx', hC.tws.trans h2, below_then h.bel hb⟩, fun g hg e => ?_⟩
  have h7 := h.bx.ftlt hg
  have h8 := hx.ft e
  omega
end
section
variable {K R : Int} {ao : Option Addr} {n cap : Nat} {xs : List Opv}
set_option maxRecDepth 100000 in
set_option maxHeartbeats 2000000 in
theorem anew_no (at_ : Int) (w : World) (h : ¬ (1 ≤ K ∧ K ≤ 64 ∧ 1 ≤ R ∧ R ≤ 32)) : Calls Tryd.prog 3 #[.int .i64 K, .int .i64 R, .slice ao n cap, .int .i64 at_] w fun r w' => r = .returned (.bool true) ∧ Below w.heap.size w w' := by
  have hnw := new_no K R w h
  by_cases h1 : K < 1
  · have g1 : ¬ K ≥ 1 := by omega
    clear h
    go_enter Tryd.func3, Tryd.ntmps3
    go_wp2_with fail
    refine hnw.mono ?_
    rintro _ w1 ⟨rfl, hf1, hb1⟩
    have HB1 : Hid (Below w.heap.size w w1) := hb1
    have hlv := lives_any w1
    clear hnw hf1 hb1
    go_wp2_with fail
    refine hlv.mono ?_
    rintro _ w2 ⟨rfl, hb2⟩
    have HB2 : Hid (Below w.heap.size w w2) := below_then HB1.out hb2
    clear hlv hb2
    go_wp2_with fail
    go_ret
    exact ⟨rfl, HB2.out⟩
  by_cases h2 : K > 64
  · have g1 : K ≥ 1 := by omega
    have g2 : ¬ K ≤ 64 := by omega
    clear h
    go_enter Tryd.func3, Tryd.ntmps3
    go_wp2_with fail
    refine hnw.mono ?_
    rintro _ w1 ⟨rfl, hf1, hb1⟩
    have HB1 : Hid (Below w.heap.size w w1) := hb1
    have hlv := lives_any w1
    clear hnw hf1 hb1
    go_wp2_with fail
    refine hlv.mono ?_
    rintro _ w2 ⟨rfl, hb2⟩
    have HB2 : Hid (Below w.heap.size w w2) := below_then HB1.out hb2
    clear hlv hb2
    go_wp2_with fail
    go_ret
    exact ⟨rfl, HB2.out⟩
  by_cases h3 : R < 1
  · have g1 : K ≥ 1 := by omega
    have g2 : K ≤ 64 := by omega
    have g3 : ¬ R ≥ 1 := by omega
    clear h
    go_enter Tryd.func3, Tryd.ntmps3
    go_wp2_with fail
    refine hnw.mono ?_
    rintro _ w1 ⟨rfl, hf1, hb1⟩
    have HB1 : Hid (Below w.heap.size w w1) := hb1
    have hlv := lives_any w1
    clear hnw hf1 hb1
    go_wp2_with fail
    refine hlv.mono ?_
    rintro _ w2 ⟨rfl, hb2⟩
    have HB2 : Hid (Below w.heap.size w w2) := below_then HB1.out hb2
    clear hlv hb2
    go_wp2_with fail
    go_ret
    exact ⟨rfl, HB2.out⟩
  have g1 : K ≥ 1 := by omega
  have g2 : K ≤ 64 := by omega
  have g3 : R ≥ 1 := by omega
  have g4 : ¬ R ≤ 32 := by omega
  clear h
  go_enter Tryd.func3, Tryd.ntmps3
  go_wp2_with fail
  refine hnw.mono ?_
  rintro _ w1 ⟨rfl, hf1, hb1⟩
  have HB1 : Hid (Below w.heap.size w w1) := hb1
  have hlv := lives_any w1
  clear hnw hf1 hb1
  go_wp2_with fail
  refine hlv.mono ?_
  rintro _ w2 ⟨rfl, hb2⟩
  have HB2 : Hid (Below w.heap.size w w2) := below_then HB1.out hb2
  clear hlv hb2
  go_wp2_with fail
  go_ret
  exact ⟨rfl, HB2.out⟩
set_option maxRecDepth 100000 in
set_option maxHeartbeats 8000000 in
theorem anew_yes (at_ : Int) (w : World) (hE : ErrType w) (k1 : 1 ≤ K) (k2 : K ≤ 64) (r1 : 1 ≤ R) (r2 : R ≤ 32) (hO : Ops w ao xs) (hx : ∀ y ∈ xs, OpOk y) (hn : xs.length = n) (hm : n ≤ 9223372036854775807) : Calls Tryd.prog 3 #[.int .i64 K, .int .i64 R, .slice ao n cap, .int .i64 at_] w fun r w' => r = .returned (.bool true) ∧ Below w.heap.size w w' := by
  have hnw := li_new w w (Below.refl _ _) k1 k2 r1 r2
  have g1 : K ≥ 1 := k1
  have g2 : K ≤ 64 := k2
  have g3 : R ≥ 1 := r1
  have g4 : R ≤ 32 := r2
  have HO : Hid (Ops w ao xs ∧ (∀ y ∈ xs, OpOk y) ∧ xs.length = n ∧ ErrType w) := ⟨hO, hx, hn, hE⟩
  have hni : (n : Int) ≤ 9223372036854775807 := by omega
  clear k1 k2 r1 r2 hO hx hn hE
  go_enter Tryd.func3, Tryd.ntmps3
  go_wp2_with fail
  refine hnw.mono ?_
  rintro _ w1 ⟨b, sb, M, rfl, H1⟩
  have hlv := lives_any w1
  clear hnw
  go_wp2_with fail
  refine hlv.mono ?_
  rintro _ w2 ⟨rfl, hb2⟩
  have HL : Hid (∃ A, Lb1 w b sb M K R A w2) := by
    obtain ⟨⟨v, hv⟩, hb⟩ := H1.out.1.below hb2
    exact ⟨[], v, [], hv, Tws.refl _, hb⟩
  clear hlv hb2 H1
  go_wp2_with fail
  clear g1 g2 g3 g4
  go_loopw [10, 11, 12, 13] (fun _ t11 t12 _ wx => ∃ i : Nat, i ≤ n ∧ t12 = .int .i64 (i : Int) ∧ ((t11 = .pointer none ∧ Hid (∃ A, Lb1 w b sb M K R A wx)) ∨ ∃ b' sb' M', t11 = .pointer (some ⟨b', 0, none⟩) ∧ Hid (∃ A, Lb2 w b sb M b' sb' M' K R A A wx))) (fun _ _ t12 _ _ => n + 1 - (intOf t12).toNat)
  case atStart => exact ⟨0, Nat.zero_le _, rfl, Or.inl ⟨rfl, HL.out⟩⟩
  case round =>
    obtain ⟨i, hin0, rfl, hc⟩ := hrel
    clear HL
    have e0 : (i : Int) ≤ n := by omega
    rcases hc with ⟨rfl, HJ⟩ | ⟨b', sb', M', rfl, HJ⟩
    · by_cases hld : (i : Int) = at_ ∨ i = n
      · obtain ⟨tl, htl⟩ : ∃ t : Bool, t = true := ⟨_, rfl⟩
        go_upto_region 10 with fail
        go_cut [61] from 43 to 96 (fun t61 wx => t61 = .bool true ∧ wx = wr)
        case first =>
          by_cases ha : (i : Int) = at_
          · have e1 : ((i : Int) == at_) = true := by rw [ha]; simp
            clear ha hld
            go_wp2_with fail
            go_meet
            exact ⟨rfl, rfl⟩
          · have e1 : ((i : Int) == at_) = false := by rw [beq_eq_false_iff_ne]; exact ha
            have hin : i = n := hld.resolve_left ha
            have e2 : ((i : Int) == n) = true := by rw [hin]; simp
            clear ha hld hin
            go_wp2_with fail
            go_meet
            exact ⟨rfl, rfl⟩
        case rest =>
        obtain ⟨e61, ew⟩ := hcut
        subst e61
        rw [ew]
        clear ew hld htl
        obtain ⟨A, hA⟩ := HJ.out
        have HA : Hid (Lb1 w b sb M K R A wr) := hA
        clear hA HJ
        go_wp2_with fail
        refine (lb_list2 HA.out).mono ?_
        rintro _ u1 ⟨a1, c1, rfl, H1⟩
        clear HA
        go_wp2_with fail
        refine (lb_load H1.out.1 H1.out.2).mono ?_
        rintro _ u2 ⟨b', sb', M', rfl, H2⟩
        clear H1
        go_wp2_with fail
        refine (lb_list H2.out.one).mono ?_
        rintro _ u3 ⟨a3, c3, rfl, H3⟩
        have H4 : Hid (Lb2 w b sb M b' sb' M' K R A A u3 ∧ Lst u3 A (.slice a3 A.length c3)) := ⟨H2.out.below H3.out.1, H3.out.2⟩
        clear H2 H3
        go_wp2_with fail
        refine (lb_list H4.out.1.swap.one).mono ?_
        rintro _ u4 ⟨a4, c4, rfl, H5⟩
        have H6 : Hid (Lb2 w b sb M b' sb' M' K R A A u4 ∧ Lst u4 A (.slice a3 A.length c3) ∧ Lst u4 A (.slice a4 A.length c4)) := ⟨H4.out.1.below H5.out.1, H4.out.2.below H5.out.1, H5.out.2⟩
        clear H4 H5
        go_wp2_with fail
        refine (lst_same H6.out.2.1 H6.out.2.2).mono ?_
        rintro _ u5 ⟨rfl, H7⟩
        have H8 : Hid (∃ A, Lb2 w b sb M b' sb' M' K R A A u5) := ⟨A, H6.out.1.below H7.out⟩
        clear H6 H7
        by_cases hin : i = n
        · have e5 : ((i : Int) == n) = true := by rw [hin]; simp
          have HBF : Hid (Below w.heap.size w u5) := by obtain ⟨A, h⟩ := H8.out; exact h.one.bel
          clear hin
          go_wp2_with fail
          go_ret
          exact ⟨rfl, HBF.out⟩
        · have e5 : ((i : Int) == n) = false := by rw [beq_eq_false_iff_ne]; omega
          have hlt : i < n := by omega
          have hlt1 : (i : Int) < n := by omega
          clear hin
          obtain ⟨y, hy⟩ : ∃ y, xs[i]? = some y := ⟨_, List.getElem?_eq_getElem (by have := HO.out.2.2.1; omega)⟩
          obtain ⟨gb, off, rfl, hgb, hat⟩ := HO.out.1 i y hy
          obtain ⟨A, hA⟩ := H8.out
          have hlw := lw_two (hA.below ((Below.refl _ _).alloc (Nat.le_refl _) (.cells #[.int .i64 y.kd, .int .i64 y.of_, .int .i64 y.n, .string y.e.ct, .slice y.e.tp y.e.tn y.e.tc, .int .i64 y.e.nu, .int .i64 y.e.tk, .slice y.e.cp y.e.cn y.e.cc, .string y.e.cd, .slice y.e.ap y.e.an y.e.ac, .string y.ct, .string y.cd, .slice y.ap y.an y.ac] 37))) HO.out.2.2.2 ⟨hat.lies, hat.byts, HO.out.2.1 y (List.mem_of_getElem? hy)⟩
          have HC : Hid (Below w.heap.size w u5) := hA.one.bel
          have cy : ∀ q, q < 13 → u5.cell? ⟨gb, off + i * 13 + q, none⟩ = (#[.int .i64 y.kd, .int .i64 y.of_, .int .i64 y.n, .string y.e.ct, .slice y.e.tp y.e.tn y.e.tc, .int .i64 y.e.nu, .int .i64 y.e.tk, .slice y.e.cp y.e.cn y.e.cc, .string y.e.cd, .slice y.e.ap y.e.an y.e.ac, .string y.ct, .string y.cd, .slice y.ap y.an y.ac] : Array Value)[q]? := fun q hq => (HC.out.cell (p := ⟨gb, off + i * 13 + q, none⟩) hgb).trans (hat.cell q hq)
          have q0 := cy 0 (by decide)
          have q1 := cy 1 (by decide)
          have q2 := cy 2 (by decide)
          have q3 := cy 3 (by decide)
          have q4 := cy 4 (by decide)
          have q5 := cy 5 (by decide)
          have q6 := cy 6 (by decide)
          have q7 := cy 7 (by decide)
          have q8 := cy 8 (by decide)
          have q9 := cy 9 (by decide)
          have q10 := cy 10 (by decide)
          have q11 := cy 11 (by decide)
          have q12 := cy 12 (by decide)
          simp only [Nat.add_zero, List.getElem?_toArray, List.getElem?_cons_zero, List.getElem?_cons_succ] at q0 q1 q2 q3 q4 q5 q6 q7 q8 q9 q10 q11 q12
          have HLW : Hid (type_of% hlw) := hlw
          clear hlw cy hat hgb hy HC hA H8
          go_wp2_with fail
          refine HLW.out.mono ?_
          rintro _ u9 ⟨rfl, h9⟩
          have H9 : Hid (type_of% h9) := h9
          clear h9 HLW q0 q1 q2 q3 q4 q5 q6 q7 q8 q9 q10 q11 q12
          go_wp2_with fail
          go_roundw
          case rel => exact ⟨i + 1, by omega, by go_num, Or.inr ⟨b', sb', M', rfl, H9.out⟩⟩
          case measure => simp [intOf]; omega
      · have e1 : ((i : Int) == at_) = false := by rw [beq_eq_false_iff_ne]; exact fun h => hld (Or.inl h)
        have hlt : i < n := by
          have : i ≠ n := fun h => hld (Or.inr h)
          omega
        have hlt1 : (i : Int) < n := by omega
        have e5 : ((i : Int) == n) = false := by rw [beq_eq_false_iff_ne]; omega
        clear hld
        obtain ⟨y, hy⟩ : ∃ y, xs[i]? = some y := ⟨_, List.getElem?_eq_getElem (by have := HO.out.2.2.1; omega)⟩
        obtain ⟨gb, off, rfl, hgb, hat⟩ := HO.out.1 i y hy
        obtain ⟨A, hA⟩ := HJ.out
        have hlw := lw_nil (hA.below ((Below.refl _ _).alloc (Nat.le_refl _) (.cells #[.int .i64 y.kd, .int .i64 y.of_, .int .i64 y.n, .string y.e.ct, .slice y.e.tp y.e.tn y.e.tc, .int .i64 y.e.nu, .int .i64 y.e.tk, .slice y.e.cp y.e.cn y.e.cc, .string y.e.cd, .slice y.e.ap y.e.an y.e.ac, .string y.ct, .string y.cd, .slice y.ap y.an y.ac] 37))) HO.out.2.2.2 ⟨hat.lies, hat.byts, HO.out.2.1 y (List.mem_of_getElem? hy)⟩
        have HC : Hid (Below w.heap.size w wr) := hA.bel
        have cy : ∀ q, q < 13 → wr.cell? ⟨gb, off + i * 13 + q, none⟩ = (#[.int .i64 y.kd, .int .i64 y.of_, .int .i64 y.n, .string y.e.ct, .slice y.e.tp y.e.tn y.e.tc, .int .i64 y.e.nu, .int .i64 y.e.tk, .slice y.e.cp y.e.cn y.e.cc, .string y.e.cd, .slice y.e.ap y.e.an y.e.ac, .string y.ct, .string y.cd, .slice y.ap y.an y.ac] : Array Value)[q]? := fun q hq => (HC.out.cell (p := ⟨gb, off + i * 13 + q, none⟩) hgb).trans (hat.cell q hq)
        have q0 := cy 0 (by decide)
        have q1 := cy 1 (by decide)
        have q2 := cy 2 (by decide)
        have q3 := cy 3 (by decide)
        have q4 := cy 4 (by decide)
        have q5 := cy 5 (by decide)
        have q6 := cy 6 (by decide)
        have q7 := cy 7 (by decide)
        have q8 := cy 8 (by decide)
        have q9 := cy 9 (by decide)
        have q10 := cy 10 (by decide)
        have q11 := cy 11 (by decide)
        have q12 := cy 12 (by decide)
        simp only [Nat.add_zero, List.getElem?_toArray, List.getElem?_cons_zero, List.getElem?_cons_succ] at q0 q1 q2 q3 q4 q5 q6 q7 q8 q9 q10 q11 q12
        have HLW : Hid (type_of% hlw) := hlw
        clear hlw cy hat hgb hy HC hA HJ
        go_wp2_with fail
        refine HLW.out.mono ?_
        rintro _ u9 ⟨rfl, h9⟩
        have H9 : Hid (type_of% h9) := h9
        clear h9 HLW q0 q1 q2 q3 q4 q5 q6 q7 q8 q9 q10 q11 q12
        go_wp2_with fail
        go_roundw
        case rel => exact ⟨i + 1, by omega, by go_num, Or.inl ⟨rfl, H9.out⟩⟩
        case measure => simp [intOf]; omega
    · have hz0 : True := trivial
      clear hz0
      by_cases hin : i = n
      · have e5 : ((i : Int) == n) = true := by rw [hin]; simp
        have HBF : Hid (Below w.heap.size w wr) := by obtain ⟨A, h⟩ := HJ.out; exact h.one.bel
        clear hin
        go_wp2_with fail
        go_ret
        exact ⟨rfl, HBF.out⟩
      · have e5 : ((i : Int) == n) = false := by rw [beq_eq_false_iff_ne]; omega
        have hlt : i < n := by omega
        have hlt1 : (i : Int) < n := by omega
        clear hin
        obtain ⟨y, hy⟩ : ∃ y, xs[i]? = some y := ⟨_, List.getElem?_eq_getElem (by have := HO.out.2.2.1; omega)⟩
        obtain ⟨gb, off, rfl, hgb, hat⟩ := HO.out.1 i y hy
        obtain ⟨A, hA⟩ := HJ.out
        have hlw := lw_two (hA.below ((Below.refl _ _).alloc (Nat.le_refl _) (.cells #[.int .i64 y.kd, .int .i64 y.of_, .int .i64 y.n, .string y.e.ct, .slice y.e.tp y.e.tn y.e.tc, .int .i64 y.e.nu, .int .i64 y.e.tk, .slice y.e.cp y.e.cn y.e.cc, .string y.e.cd, .slice y.e.ap y.e.an y.e.ac, .string y.ct, .string y.cd, .slice y.ap y.an y.ac] 37))) HO.out.2.2.2 ⟨hat.lies, hat.byts, HO.out.2.1 y (List.mem_of_getElem? hy)⟩
        have HC : Hid (Below w.heap.size w wr) := hA.one.bel
        have cy : ∀ q, q < 13 → wr.cell? ⟨gb, off + i * 13 + q, none⟩ = (#[.int .i64 y.kd, .int .i64 y.of_, .int .i64 y.n, .string y.e.ct, .slice y.e.tp y.e.tn y.e.tc, .int .i64 y.e.nu, .int .i64 y.e.tk, .slice y.e.cp y.e.cn y.e.cc, .string y.e.cd, .slice y.e.ap y.e.an y.e.ac, .string y.ct, .string y.cd, .slice y.ap y.an y.ac] : Array Value)[q]? := fun q hq => (HC.out.cell (p := ⟨gb, off + i * 13 + q, none⟩) hgb).trans (hat.cell q hq)
        have q0 := cy 0 (by decide)
        have q1 := cy 1 (by decide)
        have q2 := cy 2 (by decide)
        have q3 := cy 3 (by decide)
        have q4 := cy 4 (by decide)
        have q5 := cy 5 (by decide)
        have q6 := cy 6 (by decide)
        have q7 := cy 7 (by decide)
        have q8 := cy 8 (by decide)
        have q9 := cy 9 (by decide)
        have q10 := cy 10 (by decide)
        have q11 := cy 11 (by decide)
        have q12 := cy 12 (by decide)
        simp only [Nat.add_zero, List.getElem?_toArray, List.getElem?_cons_zero, List.getElem?_cons_succ] at q0 q1 q2 q3 q4 q5 q6 q7 q8 q9 q10 q11 q12
        have HLW : Hid (type_of% hlw) := hlw
        clear hlw cy hat hgb hy HC hA HJ
        go_wp2_with fail
        refine HLW.out.mono ?_
        rintro _ u9 ⟨rfl, h9⟩
        have H9 : Hid (type_of% h9) := h9
        clear h9 HLW q0 q1 q2 q3 q4 q5 q6 q7 q8 q9 q10 q11 q12
        go_wp2_with fail
        go_roundw
        case rel => exact ⟨i + 1, by omega, by go_num, Or.inr ⟨b', sb', M', rfl, H9.out⟩⟩
        case measure => simp [intOf]; omega
theorem anew_law (K R : Int) (ao : Option Addr) (cap : Nat) (xs : List Opv) (at_ : Int) (w : World) (hE : ErrType w) (hO : Ops w ao xs) (hx : ∀ y ∈ xs, OpOk y) (hm : xs.length ≤ 9223372036854775807) : Calls Tryd.prog 3 #[.int .i64 K, .int .i64 R, .slice ao xs.length cap, .int .i64 at_] w fun r w' => r = .returned (.bool true) ∧ Below w.heap.size w w' := by
  by_cases h : 1 ≤ K ∧ K ≤ 64 ∧ 1 ≤ R ∧ R ≤ 32
  · exact anew_yes at_ w hE h.1 h.2.1 h.2.2.1 h.2.2.2 hO hx rfl hm
  · exact anew_no at_ w h
end
end Go.Proofs.YtelhiihbgnfpiaaDoor
