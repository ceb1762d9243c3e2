import Derived.Test.YtigmgbnfiiobeaaDoorOxOuts
import Derived.Test.YtigmgbnfiiobeaaDoorOxZero
import Derived.Test.YtigmgbnfiiobeaaDoorOxBkF
import Derived.Test.YtigmgbnfiiobeaaDoorOxLaw0
import Derived.Test.YtigmgbnfiiobeaaDoorOxNextC
/-
  A text copied by append, whatever its length.
-/
namespace Go.Proofs.YtigmgbnfiiobeaaDoor
open Go.RowKit

theorem run_bapp {w : World} {B n : Nat} {po : Option Addr} {m c : Nat} {bs : List Int} (h : BRow w B (.slice (some ⟨n, 0, none⟩) 0 0) []) (hb : Byts w po m bs) (hl : m ≤ 140737488355328) (hB : B ≤ w.heap.size) :
    ∃ a' c' w', (Builtin.append_ #[35, 35] 35 #[.slice (some ⟨n, 0, none⟩) 0 0, .slice po m c]).run Tryd.prog w = .ok (.slice a' m c') w' ∧ BRow w' B (.slice a' m c') bs ∧ Off (fun q => q = n) w w' := by
  obtain ⟨i, z, hi, hz, hzs, hs, hby⟩ := celB
  have hm := hb.len
  have hbn : ((0 + bs.length) + (0 + bs.length) / 4 + 192) * 1 ≤ 281474976710656 := by omega
  have hh : w.ownsRow B 5 1 (.slice (some ⟨n, 0, none⟩) 0 0) 0 ([] : List Value) := h
  obtain ⟨v', w', hr, r, o, l⟩ := run_append_k (P := Tryd.prog) w B 35 35 5 i z 1 1 Tryd.underlying35 hi hz hs hby hzs (.slice (some ⟨n, 0, none⟩) 0 0) 0 [] hh po bs.length c (bs.flatMap encB) (flat_len encB_len bs) (fun e => by
    rcases Nat.eq_zero_or_pos m with g | g
    · omega
    · obtain ⟨_, _, e', _⟩ := hb.cell 0 g
      rw [e] at e'; cases e') (fun a' ha j u hu => by
    obtain ⟨hj, rfl⟩ := flatB bs hu
    obtain ⟨b, o, e, _, hc⟩ := hb.cell j (by omega)
    rw [ha] at e
    obtain rfl : a' = ⟨b, o, none⟩ := by simpa using e
    rw [Addr.add_lit]; exact hc) (fun u hu => by
    obtain ⟨x, _, hx⟩ := List.mem_flatMap.1 hu
    exact encB_one x u hx) (by unfold maxLen; omega) hbn hB
  have hR : BRow w' B v' bs := by
    unfold BRow ERow
    rw [Nat.zero_add, List.nil_append] at r
    exact r
  obtain ⟨a', c', e1, _⟩ := ERow.isSlice hR
  rw [hm] at e1 hr
  subst e1
  exact ⟨a', c', w', hr, hR, o.mono fun k e => by simp [Value.ownBlock] at e; exact e.symm⟩
/-- A copy by append, as a step of a region that draws. -/
theorem step_copy {w0 w : World} {ops : Array Oper} {o : Oper} {a : Act} {K : Act → World → Prop} {Q : Exit → Act → World → Prop} {E : Prop} {n : Nat} {po : Option Addr} {m c : Nat} {bs : List Int} (hgd : o.guard = none) (s x : Operand)
    (ho : o.op = .call { callee := .builtin .append, args := #[s, x], argTypes := #[35, 35] }) (hty : o.type = 35) (hs : a.eval s = .slice (some ⟨n, 0, none⟩) 0 0) (hx : a.eval x = .slice po m c)
    (hb : Byts w0 po m bs) (hl : m ≤ 140737488355328) (ha : Off (fun _ => False) w0 w) (hn : w0.heap.size ≤ n) (hg : w.heap[n]? = some (.cells #[] 5))
    (h : ∀ a' c' w', BRow w' w0.heap.size (.slice a' m c') bs → Below w0.heap.size w0 w' → K (a.put o.dst (.slice a' m c')) w') :
    if Region.wanted o (yielded ops a.tmps) = true then Oper.wp Tryd.prog o a w K Q else E := by
  have hw : Region.wanted o (yielded ops a.tmps) = true := by simp [Region.wanted, hgd]
  have h0 : BRow w w0.heap.size (.slice (some ⟨n, 0, none⟩) 0 0) [] := ⟨rfl, Or.inr ⟨n, 0, #[], rfl, hn, hg, Nat.le_refl _, Nat.zero_le _, rfl, rfl⟩⟩
  obtain ⟨a', c', w', hr, r1, o1⟩ := run_bapp (c := c) h0 (hb.off ha (fun _ _ _ _ => id)) hl ha.size
  rw [if_pos hw]
  unfold Oper.wp execOp
  simp only [ho, hty, resolve, invoke, builtin, Sem.run_bind, Sem.run_pure, Result.andThen_ok, List.map_toArray, List.map_cons, List.map_nil, hs, hx, hr]
  exact h _ _ _ r1 ((ha.below (Nat.le_refl _) (fun _ g => g.elim)).trans (o1.below ha.size (fun k e => by omega)))
end Go.Proofs.YtigmgbnfiiobeaaDoor

/-
  The law's 'does': one call, brought to a message of the box.
-/
namespace Go.Proofs.YtigmgbnfiiobeaaDoor
open Go.RowKit

/-- What 'does' answers. -/
def DoesQ (W : World) (b kb : Nat) (v0 : Value) (w0 : World) (sq : Bool) (tr : Int) (ms : List Msg) (kd : Int) (ct : ByteArray) (e : Ending) (w' : World) : Prop :=
  Off (fun q => q = kb ∨ v0.ownBlock = some q) w0 w' ∧ ∃ a c ds v ms' dn, e = .returned (.tuple #[.slice a (List.length ds) c, .bool dn]) ∧ DRow w' W.heap.size (.slice a (List.length ds) c) ds ∧ Li W w' b kb v sq tr ms' ∧ ((dn = true ∧ StepR sq ms kd ct ds ms') ∨ (dn = false ∧ ds = [] ∧ ms' = ms))
theorem StQ.ev {W w w0 w' : World} {b kb : Nat} {v : Value} {sq : Bool} {tr : Int} {ms : List Msg} {kd : Int} {ct : ByteArray} {d ev : Value} (h : StQ W b kb v w sq tr ms kd ct d ev w') (hb : Below w0.heap.size w0 w) : (ev = .nilIface ∧ DoesQ W b kb v w0 sq tr ms kd ct (.returned (.tuple #[d, .bool true])) w') ∨ ((∃ z, ev = .iface 91 (.pointer (some ⟨z, 0, none⟩))) ∧ DoesQ W b kb v w0 sq tr ms kd ct (.returned (.tuple #[d, .bool false])) w') := by
  obtain ⟨ho, a, c, ds, v1, ms', rfl, hr, L, hh⟩ := h
  have ho := (Off.of_below (P := fun q => q = kb ∨ v.ownBlock = some q) hb).trans ho
  rcases hh with ⟨he, hs⟩ | ⟨he, h0, h1⟩
  · exact Or.inl ⟨he, ho, a, c, ds, v1, ms', true, rfl, hr, L, Or.inl ⟨rfl, hs⟩⟩
  · exact Or.inr ⟨he, ho, a, c, ds, v1, ms', false, rfl, hr, L, Or.inr ⟨rfl, h0, h1⟩⟩
theorem DoesQ.drewN {W w w' : World} {b kb : Nat} {v : Value} {sq : Bool} {tr : Int} {ms : List Msg} {kd : Int} {ct : ByteArray} {e : Ending} (h : DoesQ W b kb v w sq tr ms kd ct e w') (k : Nat) : DoesQ W b kb v w sq tr ms kd ct e (w'.drewN k) := by
  obtain ⟨ho, a, c, ds, v1, ms', dn, he, hr, L, hh⟩ := h
  have hb : Below w'.heap.size w' (w'.drewN k) := ((Off.refl (fun _ => False) _).drewN k).below (Nat.le_refl _) (fun _ g => g.elim)
  exact ⟨ho.drewN k, a, c, ds, v1, ms', dn, he, ERow.below hr hb, L.below hb, hh⟩
set_option maxRecDepth 100000 in
set_option maxHeartbeats 4000000 in
theorem does_any {W w : World} {b kb : Nat} {v : Value} {sq : Bool} {tr : Int} {ms : List Msg} (L : Li W w b kb v sq tr ms) (hV : PVc W) (x : Opv) (pick : Int) (hp : Byts w x.tp x.tn x.tx) (hpo : x.tp = none → x.tc = 0) (hl : x.tn ≤ 140737488355328) :
    Calls Tryd.prog 6 #[.pointer (some ⟨b, 0, none⟩), .agg #[.int .i64 x.kd, .string x.ct, .slice x.tp x.tn x.tc, .bool x.e, .int .i64 x.a, .int .i64 x.p, .string x.cd, .int .i64 x.n], .int .i64 pick] w (DoesQ W b kb v w sq tr ms x.kd x.ct) := by
  have HV : Hid (PVc W ∧ Byts w x.tp x.tn x.tx ∧ (x.tp = none → x.tc = 0) ∧ x.tn ≤ 140737488355328) := ⟨hV, hp, hpo, hl⟩
  have bv : Below w.heap.size w (w.alloc (.cells #[.int .i64 x.kd, .string x.ct, .slice x.tp x.tn x.tc, .bool x.e, .int .i64 x.a, .int .i64 x.p, .string x.cd, .int .i64 x.n] 39)) := (Below.refl _ _).alloc (Nat.le_refl _) _
  have HL : Hid (Li W w b kb v sq tr ms) := L
  have bx := Box.new w #[.int .i64 x.kd, .string x.ct, .slice x.tp x.tn x.tc, .bool x.e, .int .i64 x.a, .int .i64 x.p, .string x.cd, .int .i64 x.n] 39
  have HNE : Hid (∀ q, (q = kb ∨ v.ownBlock = some q) → ¬ w.heap.size = q) := fun q hq e => by
    rcases hq with rfl | hq
    · have := blk_lt L.bx.2.1.1; omega
    · have := (ERow.lt L.bx.2.1.2.1 hq).2; omega
  clear hV hp hpo hl L
  go_enter Tryd.func6, Tryd.ntmps6
  go_wp2_with fail
  obtain ⟨V, hW⟩ : ∃ V, w.alloc (.cells #[.int .i64 x.kd, .string x.ct, .slice x.tp x.tn x.tc, .bool x.e, .int .i64 x.a, .int .i64 x.p, .string x.cd, .int .i64 x.n] 39) = V := ⟨_, rfl⟩
  rw [hW] at bv bx ⊢
  clear hW
  have HB : Hid (Below w.heap.size w V ∧ Box V w.heap.size #[.int .i64 x.kd, .string x.ct, .slice x.tp x.tn x.tc, .bool x.e, .int .i64 x.a, .int .i64 x.p, .string x.cd, .int .i64 x.n]) := ⟨bv, bx⟩
  clear bv bx
  refine (list_any (HL.out.below HB.out.1).bx).mono ?_
  rintro _ w1 ⟨ls, la, lc, rfl, hr, hc, b1⟩
  have x1 := (HB.out.2.below b1).cell
  have f0 := x1 0
  have f1 := x1 1
  have f2 := x1 2
  have f3 := x1 3
  have f4 := x1 4
  have f5 := x1 5
  have f6 := x1 6
  have f7 := x1 7
  simp at f0 f1 f2 f3 f4 f5 f6 f7
  clear x1
  have HL1 : Hid (Li W w1 b kb v sq tr ms ∧ Byts w1 x.tp x.tn x.tx) := ⟨HL.out.below (below_then HB.out.1 b1), HV.out.2.1.below (below_then HB.out.1 b1)⟩
  have HOF : Hid (Below w.heap.size w w1) := below_then HB.out.1 b1
  have HR : Hid (ERow w1 V.heap.size 49 10 encM (.slice la ms.length lc) ls ∧ Cps w1 ls ms) := ⟨hr, hc⟩
  clear hr hc b1 HB HL
  obtain ⟨n, hn⟩ : ∃ n, ms.length = n := ⟨_, rfl⟩
  have HN : Hid (ms.length = n) := hn
  rw [hn] at HR ⊢
  clear hn
  go_upto_region 3 with fail
  go_cut [22] from 12 to 81 (fun t22 wx => ∃ q : Bool, t22 = .bool q ∧ (q = true → 0 < n ∧ 0 ≤ pick) ∧ wx = w1)
  case first =>
    clear HR HN HL1 HV
    by_cases hn0 : 0 < n
    · have hn1 : (0 : Int) < n := by omega
      by_cases hpk : 0 ≤ pick
      · go_wp2_with fail
        go_meet
        exact ⟨_, rfl, fun _ => ⟨hn0, hpk⟩, rfl⟩
      · go_wp2_with fail
        go_meet
        refine ⟨_, rfl, fun h => ?_, rfl⟩
        simp at h <;> omega
    · obtain rfl : n = 0 := by omega
      go_wp2_with fail
      go_meet
      refine ⟨_, rfl, fun h => ?_, rfl⟩
      simp at h
  case rest =>
    obtain ⟨q, rfl, hq, hw⟩ := hcut
    subst hw
    go_upto_if 22 with fail
    go_cut [9] from 12 to 81 (fun t9 wx => ∃ s : ByteArray, t9 = .string s ∧ wx = wc)
    case first =>
      cases q with
      | false =>
        go_wp2_with fail
        go_meet
        exact ⟨_, rfl, rfl⟩
      | true =>
        obtain ⟨hn0, hpk⟩ := hq rfl
        obtain ⟨j, hj⟩ : ∃ j : Nat, pick.tmod n = j := ⟨(pick.tmod n).toNat, (Int.toNat_of_nonneg (Int.tmod_nonneg _ hpk)).symm⟩
        have hjn : j < n := by have := Int.tmod_lt_of_pos pick (show (0 : Int) < n by omega); omega
        have hj1 : (j : Int) < n := by omega
        have hn9 : ¬ (n : Int) = 0 := by omega
        obtain ⟨l, hl⟩ : ∃ l, ls[j]? = some l := ⟨_, List.getElem?_eq_getElem (by rw [HR.out.2.1, HN.out]; exact hjn)⟩
        obtain ⟨g, rfl, hgl, hgc⟩ := ERow.at_ encM_len HR.out.1 hl
        have k0 := hgc 0 (by decide)
        simp [encM] at k0
        clear hgc HR HL1 HV
        go_wp2_with fail
        go_meet
        exact ⟨_, rfl, rfl⟩
    case rest =>
      obtain ⟨s, rfl, hw⟩ := hcut
      subst hw
      by_cases h1 : x.kd = 1
      · have g1 : (x.kd == 1) = true := by simpa using h1
        have lx : w.heap.size < wc.heap.size := cell_lt f1
        have HA : Hid (∀ a' c' z, BRow z wc.heap.size (.slice a' x.tn c') x.tx → Below wc.heap.size wc z → Calls Tryd.prog 12 #[.pointer (some ⟨b, 0, none⟩), .string x.ct, .slice a' x.tn c', .agg #[.bool x.e, .int .i64 x.a, .int .i64 x.p]] z fun e w' => ∃ ev, e = .returned ev ∧ StQ W b kb v wc sq tr ms x.kd x.ct (.slice none 0 0) ev w' ∧ Hid (Off (fun q => ¬ w.heap.size = q) wc w')) := fun a' c' z hr hz =>
          (st_add (m := ⟨x.ct, a', x.tn, c', x.tx, x.e, x.a, x.p, 0, false, 0, 0, false⟩) (HL1.out.1.below hz) HV.out.1 h1 rfl rfl rfl rfl rfl rfl hr.byts hr.nilcap).mono fun e w' ⟨ev, he, hs⟩ => ⟨ev, he, hs.back hz, (Off.of_below hz).trans (hs.1.mono HNE.out)⟩
        have HB : Hid (Byts wc x.tp x.tn x.tx ∧ x.tn ≤ 140737488355328) := ⟨HL1.out.2, HV.out.2.2.2⟩
        clear HL1 HV f6 f7 hq HR HN HNE
        go_wp2_with fail
        have gs : ∀ {z : World}, Off (fun q => ¬ w.heap.size = q) wc z → z.cell? ⟨w.heap.size, 1, none⟩ = some (.string x.ct) ∧ z.cell? ⟨w.heap.size, 2, none⟩ = some (.slice x.tp x.tn x.tc) ∧ z.cell? ⟨w.heap.size, 3, none⟩ = some (.bool x.e) ∧ z.cell? ⟨w.heap.size, 4, none⟩ = some (.int .i64 x.a) ∧ z.cell? ⟨w.heap.size, 5, none⟩ = some (.int .i64 x.p) := fun {z} hz => ⟨(hz.cell (p := ⟨w.heap.size, 1, none⟩) lx (fun h => h rfl)).trans f1, (hz.cell (p := ⟨w.heap.size, 2, none⟩) lx (fun h => h rfl)).trans f2, (hz.cell (p := ⟨w.heap.size, 3, none⟩) lx (fun h => h rfl)).trans f3, (hz.cell (p := ⟨w.heap.size, 4, none⟩) lx (fun h => h rfl)).trans f4, (hz.cell (p := ⟨w.heap.size, 5, none⟩) lx (fun h => h rfl)).trans f5⟩
        go_region_held3 (fun z => z.cell? ⟨w.heap.size, 1, none⟩ = some (.string x.ct) ∧ z.cell? ⟨w.heap.size, 2, none⟩ = some (.slice x.tp x.tn x.tc) ∧ z.cell? ⟨w.heap.size, 3, none⟩ = some (.bool x.e) ∧ z.cell? ⟨w.heap.size, 4, none⟩ = some (.int .i64 x.a) ∧ z.cell? ⟨w.heap.size, 5, none⟩ = some (.int .i64 x.p)) (first | (refine gs ?_; (repeat' (first | (with_reducible exact Off.refl _ _) | (with_reducible exact Hid.out (by assumption)) | (with_reducible refine Off.alloc ?_ _) | (with_reducible refine Off.drew ?_))))) (first | (refine step_copy (w0 := wc) rfl (.tmp 39) (.tmp 41) rfl rfl rfl rfl HB.out.1 HB.out.2 (by first | exact (Off.refl _ _).alloc _ | exact ((Off.refl _ _).alloc _).drew | exact ((Off.refl _ _).drew).alloc _ | exact (((Off.refl _ _).drew).alloc _).drew) (Nat.le_refl _) (by exact heap_alloc_new _ _) ?_; intro a5 c5 x5 hR hO; have hb5 : Hid (Below wc.heap.size wc x5) := hO; have ho5 : Hid (Off (fun q => ¬ w.heap.size = q) wc x5) := Off.of_below hO; have HR5 : Hid (BRow x5 wc.heap.size (.slice a5 x.tn c5) x.tx) := hR; clear hR hO) | (go_at_call 12; refine (HA.out _ _ _ (by first | exact HR5.out | exact ERow.keep HR5.out (fun _ _ => rfl)) (by first | exact hb5.out | exact hb5.out.drew)).mono ?_; rintro _ w2 ⟨ev, rfl, HS, ho2⟩))
        all_goals
          rcases HS.ev HOF.out with ⟨rfl, hD⟩ | ⟨⟨z, rfl⟩, hD⟩
          all_goals
            have HD : Hid (∀ k, DoesQ W b kb v w sq tr ms x.kd x.ct _ (w2.drewN k)) := hD.drewN
            clear HS hD f0 f1 f2 f3 f4 f5 g1 gs HA HB HR5 hb5 ho5 ho2
            go_wp2_with fail
            go_quiet (fail)
            go_wp2_with fail
            go_ret2
            exact HD.out _
      have g1 : (x.kd == 1) = false := by simpa using h1
      clear hq HR HN f1 f2 f3 f4 f5
      by_cases h3 : x.kd = 3
      · have g3 : (x.kd == 3) = true := by simpa using h3
        clear h3
        go_wp2_with fail
        refine (st_give (kd := x.kd) (ct := x.ct) HL1.out.1 x.n h1).mono ?_
        rintro _ w2 ⟨ev, rfl, HS⟩
        rcases HS.ev HOF.out with ⟨rfl, hD⟩ | ⟨⟨z, rfl⟩, hD⟩
        all_goals
          have HD : Hid (∀ k, DoesQ W b kb v w sq tr ms x.kd x.ct _ (w2.drewN k)) := hD.drewN
          clear HS hD HL1 HV f0 f6 f7 g1 g3
          go_wp2_with fail
          go_quiet (fail)
          go_wp2_with fail
          go_ret2
          exact HD.out _
      have g3 : (x.kd == 3) = false := by simpa using h3
      by_cases h4 : x.kd = 4
      · have g4 : (x.kd == 4) = true := by simpa using h4
        clear h3 h4
        go_wp2_with fail
        refine (st_go (kd := x.kd) (ct := x.ct) HL1.out.1 HV.out.1 h1).mono ?_
        rintro _ w2 ⟨d, ev, rfl, HS⟩
        rcases HS.ev HOF.out with ⟨rfl, hD⟩ | ⟨⟨z, rfl⟩, hD⟩
        all_goals
          have HD : Hid (∀ k, DoesQ W b kb v w sq tr ms x.kd x.ct _ (w2.drewN k)) := hD.drewN
          clear HS hD HL1 HV f0 f6 f7 g1 g3 g4
          go_wp2_with fail
          go_quiet (fail)
          go_wp2_with fail
          go_ret2
          exact HD.out _
      have g4 : (x.kd == 4) = false := by simpa using h4
      by_cases h5 : x.kd = 5
      · have g5 : (x.kd == 5) = true := by simpa using h5
        clear h3 h4 h5
        go_wp2_with fail
        refine (st_heard (kd := x.kd) (ct := x.ct) HL1.out.1 HV.out.1 h1 s x.cd x.n).mono ?_
        rintro _ w2 ⟨d, ev, rfl, HS⟩
        rcases HS.ev HOF.out with ⟨rfl, hD⟩ | ⟨⟨z, rfl⟩, hD⟩
        all_goals
          have HD : Hid (∀ k, DoesQ W b kb v w sq tr ms x.kd x.ct _ (w2.drewN k)) := hD.drewN
          clear HS hD HL1 HV f0 f6 f7 g1 g3 g4 g5
          go_wp2_with fail
          go_quiet (fail)
          go_wp2_with fail
          go_ret2
          exact HD.out _
      have g5 : (x.kd == 5) = false := by simpa using h5
      by_cases h6 : x.kd = 6
      · have g6 : (x.kd == 6) = true := by simpa using h6
        clear h3 h4 h5 h6
        go_wp2_with fail
        refine (st_due (kd := x.kd) (ct := x.ct) HL1.out.1 HV.out.1 h1 s).mono ?_
        rintro _ w2 ⟨d, ev, rfl, HS⟩
        rcases HS.ev HOF.out with ⟨rfl, hD⟩ | ⟨⟨z, rfl⟩, hD⟩
        all_goals
          have HD : Hid (∀ k, DoesQ W b kb v w sq tr ms x.kd x.ct _ (w2.drewN k)) := hD.drewN
          clear HS hD HL1 HV f0 f6 f7 g1 g3 g4 g5 g6
          go_wp2_with fail
          go_quiet (fail)
          go_wp2_with fail
          go_ret2
          exact HD.out _
      have g6 : (x.kd == 6) = false := by simpa using h6
      have HD : Hid (∀ k, DoesQ W b kb v w sq tr ms x.kd x.ct (.returned (.tuple #[.slice none 0 0, .bool true])) (wc.drewN k)) := DoesQ.drewN ⟨Off.of_below HOF.out, none, 0, [], v, ms, true, rfl, ERow.nil _ _ _ _ _, HL1.out.1, Or.inl ⟨rfl, StepR.idle h1⟩⟩
      clear HL1 HV h3 h4 h5 h6
      go_wp2_with fail
      go_quiet (fail)
      go_wp2_with fail
      go_ret2
      exact HD.out _
end Go.Proofs.YtigmgbnfiiobeaaDoor

/-
  OutboxBack: the law's states.
-/
namespace Go.Proofs.YtigmgbnfiiobeaaDoor
open Go.RowKit

theorem Li.rebase {W0 W w : World} {b kb : Nat} {v : Value} {sq : Bool} {tr : Int} {ms : List Msg} (h : Li W w b kb v sq tr ms) (hb : Below W0.heap.size W0 W) : Li W0 w b kb v sq tr ms := ⟨h.bx, below_then hb h.bel, Nat.le_trans hb.size h.kb, fun q e => Nat.le_trans hb.size (h.v q e)⟩
/-- The box while picks are played. -/
def BbI (V : World) (b kb : Nat) (sq : Bool) (tr : Int) (w : World) : Prop := ∃ v ms, Li V w b kb v sq tr ms ∧ Bk sq ms
theorem bb_does {V w z : World} {b kb : Nat} {sq : Bool} {tr : Int} (h : BbI V b kb sq tr w) (hV : PVc V) (x : Opv) (pick : Int) (hp : Byts V x.tp x.tn x.tx) (hpo : x.tp = none → x.tc = 0) (hl : x.tn ≤ 140737488355328) (hz : Below w.heap.size w z) :
    Calls Tryd.prog 6 #[.pointer (some ⟨b, 0, none⟩), .agg #[.int .i64 x.kd, .string x.ct, .slice x.tp x.tn x.tc, .bool x.e, .int .i64 x.a, .int .i64 x.p, .string x.cd, .int .i64 x.n], .int .i64 pick] z fun e w' => ∃ d n c dn, e = .returned (.tuple #[.slice d n c, .bool dn]) ∧ Hid (BbI V b kb sq tr w') := by
  obtain ⟨v, ms, L0, hk⟩ := h
  have L := L0.below hz
  refine (does_any L hV x pick (hp.below L.bel) hpo hl).mono ?_
  rintro e w' ⟨_, a, c, ds, v', ms', dn, he, _, L', hh⟩
  refine ⟨a, _, c, dn, he, v', ms', L', ?_⟩
  rcases hh with ⟨_, hs⟩ | ⟨_, _, rfl⟩
  · exact bk_step hk hs
  · exact hk
theorem encO_one (m : Msg) : ∀ u ∈ encO m, u.oneCell' = true := fun u hu => by
  simp only [encO, List.mem_cons, List.not_mem_nil, or_false] at hu
  rcases hu with rfl | rfl | rfl | rfl | rfl | rfl | rfl <;> rfl
theorem celO : Cel Tryd.prog 45 7 80 := cel_of (by kernel_rfl)
/-- A message without its turn. -/
def pl (m : Msg) : Msg := { m with st := 0, lf := 0, un := false }
theorem pl_plain (l : List Msg) : ∀ x ∈ l.map pl, Plain x := fun x hx => by
  obtain ⟨y, _, rfl⟩ := List.mem_map.1 hx
  exact ⟨rfl, rfl, rfl⟩
/-- While outs is put together: the list l (ls), outs (v). -/
structure CpI (V : World) (la : Option Addr) (n lc : Nat) (ls ms : List Msg) (v : Value) (i : Nat) (w : World) : Prop where
  row : ERow w V.heap.size 49 10 encM (.slice la n lc) ls
  cps : Cps w ls ms
  out : ERow w V.heap.size 45 7 encO v (ls.take i)
  bel : Below V.heap.size V w
theorem CpI.push {V w w' : World} {la : Option Addr} {n lc i : Nat} {ls ms : List Msg} {v v' : Value} {m : Msg} (h : CpI V la n lc ls ms v i w) (hm : ls[i]? = some m) (hr : ERow w' V.heap.size 45 7 encO v' (ls.take i ++ [m])) (ho : Off (fun q => v.ownBlock = some q) w w') : CpI V la n lc ls ms v' (i + 1) w' := by
  refine ⟨ERow.off h.row ho fun g hg hq => own_ne h.row h.out (by decide) g hg hq, h.cps.keep fun l _ ht => ERow.off ht ho fun g hg hq => own_ne ht h.out (by decide) g hg hq, ?_, h.bel.trans (ho.below h.bel.size fun k e => (ERow.lt h.out e).1)⟩
  rw [List.take_add_one, hm]
  exact hr
theorem CpI.outs {V w : World} {la : Option Addr} {n lc : Nat} {ls ms : List Msg} {v : Value} (h : CpI V la n lc ls ms v n w) : ∃ a c, v = .slice a (ls.map pl).length c ∧ Outs w a (ls.map pl) := by
  have hn : n = ls.length := ERow.len h.row
  have hr := h.out
  rw [List.take_of_length_le (by omega)] at hr
  obtain ⟨a, c, rfl, _⟩ := ERow.isSlice hr
  refine ⟨a, c, by rw [List.length_map], fun j x hx => ?_⟩
  rw [List.getElem?_map] at hx
  obtain ⟨l, hl, rfl⟩ := Option.map_eq_some_iff.1 hx
  have hjl := (List.getElem?_eq_some_iff.1 hl).1
  obtain ⟨m, hm⟩ : ∃ m, ms[j]? = some m := ⟨_, List.getElem?_eq_getElem (by rw [← h.cps.1]; exact hjl)⟩
  have ht := (h.cps.2 j l m hl hm).2
  obtain ⟨g, rfl, hg, hc⟩ := ERow.at_ encO_len hr hl
  refine ⟨g, 0, rfl, hg, ?_, ?_, ?_, ?_, ?_, ?_, ?_, ht.byts, ht.nilcap⟩
  · rw [Nat.zero_add]; exact hc 0 (by decide)
  · rw [Nat.zero_add]; exact hc 1 (by decide)
  · rw [Nat.zero_add]; exact hc 2 (by decide)
  · rw [Nat.zero_add]; exact hc 3 (by decide)
  · rw [Nat.zero_add]; exact hc 4 (by decide)
  · rw [Nat.zero_add]; exact hc 5 (by decide)
  · rw [Nat.zero_add]; exact hc 6 (by decide)
theorem cps_lk {w : World} {ls ms : List Msg} (h : Cps w ls ms) : Lk (ls.map pl) ms := by
  refine ⟨by rw [List.length_map]; exact h.1, fun i x m hx hm => ?_⟩
  rw [List.getElem?_map] at hx
  obtain ⟨l, hl, rfl⟩ := Option.map_eq_some_iff.1 hx
  obtain ⟨⟨a, c, rfl⟩, _⟩ := h.2 i l m hl hm
  exact ⟨rfl, rfl, rfl, rfl, rfl, rfl, rfl⟩
/-- Behind the second List: l (ls, copies of ms), k (ks, copies of mc), the box of mc. -/
structure CkI (V : World) (la : Option Addr) (n lc : Nat) (ls ms : List Msg) (ka : Option Addr) (kc : Nat) (ks mc : List Msg) (b kb : Nat) (sq : Bool) (tr : Int) (w : World) : Prop where
  lr : ERow w V.heap.size 49 10 encM (.slice la n lc) ls
  lt : Cps w ls ms
  kr : ERow w V.heap.size 49 10 encM (.slice ka n kc) ks
  kt : Cps w ks mc
  li : ∃ v, Li V w b kb v sq tr mc
  wis : Wis mc (ls.map pl)
  tn : ∀ m ∈ ms, m.tn ≤ 8192
section
variable {V w w' : World} {la : Option Addr} {n lc : Nat} {ls ms : List Msg} {ka : Option Addr} {kc : Nat} {ks mc : List Msg} {b kb : Nat} {sq : Bool} {tr : Int}
theorem CkI.below (h : CkI V la n lc ls ms ka kc ks mc b kb sq tr w) (hb : Below w.heap.size w w') : CkI V la n lc ls ms ka kc ks mc b kb sq tr w' := by
  obtain ⟨v, L⟩ := h.li
  exact ⟨ERow.below h.lr hb, h.lt.below hb, ERow.below h.kr hb, h.kt.below hb, ⟨v, L.below hb⟩, h.wis, h.tn⟩
theorem CkI.at_ (h : CkI V la n lc ls ms ka kc ks mc b kb sq tr w) {i : Nat} (hi : i < n) : ∃ (m : Msg) (kg lg : Nat) (a1 : Option Addr) (c1 : Nat) (a2 : Option Addr) (c2 : Nat), ka = some ⟨kg, 0, none⟩ ∧ la = some ⟨lg, 0, none⟩ ∧ (∀ o, o < 10 → w.cell? ⟨kg, i * 10 + o, none⟩ = (encM ((pl m).wi a1 c1))[o]?) ∧ (∀ o, o < 10 → w.cell? ⟨lg, i * 10 + o, none⟩ = (encM (m.wi a2 c2))[o]?) ∧ Hid (∀ z, Below w.heap.size w z → Calls Tryd.prog 8 #[.agg #[.string m.ct, .slice a1 m.tn c1, .bool m.e, .int .i64 m.a, .int .i64 m.p, .int .i64 m.nu, .bool m.nt], .agg #[.string m.ct, .slice a2 m.tn c2, .bool m.e, .int .i64 m.a, .int .i64 m.p, .int .i64 m.nu, .bool m.nt]] z fun e w' => e = .returned (.bool true) ∧ Hid (Below w.heap.size w w') ∧ Hid (CkI V la n lc ls ms ka kc ks mc b kb sq tr w')) := by
  have hn : n = ls.length := ERow.len h.lr
  have hk : n = ks.length := ERow.len h.kr
  obtain ⟨l, hl⟩ : ∃ l, ls[i]? = some l := ⟨_, List.getElem?_eq_getElem (by omega)⟩
  obtain ⟨m, hm⟩ : ∃ m, ms[i]? = some m := ⟨_, List.getElem?_eq_getElem (by have := h.lt.1; omega)⟩
  obtain ⟨k, hk'⟩ : ∃ k, ks[i]? = some k := ⟨_, List.getElem?_eq_getElem (by omega)⟩
  obtain ⟨c, hc⟩ : ∃ c, mc[i]? = some c := ⟨_, List.getElem?_eq_getElem (by have := h.kt.1; omega)⟩
  obtain ⟨⟨a2, c2, rfl⟩, t2⟩ := h.lt.2 i l m hl hm
  obtain ⟨⟨a1, c1, rfl⟩, t1⟩ := h.kt.2 i k c hk' hc
  obtain ⟨a3, c3, rfl⟩ := h.wis.2 i c (pl (m.wi a2 c2)) hc (by rw [List.getElem?_map, hl]; rfl)
  obtain ⟨lg, rfl, _, hlc⟩ := ERow.at_ encM_len h.lr hl
  obtain ⟨kg, rfl, _, hkc⟩ := ERow.at_ encM_len h.kr hk'
  have hmt := h.tn m (List.mem_of_getElem? hm)
  refine ⟨m, kg, lg, a1, c1, a2, c2, rfl, rfl, hkc, hlc, fun z hz => ?_⟩
  exact (sameOut_true m (BRow.byts (ERow.below t1 hz)) (BRow.byts (ERow.below t2 hz)) (by omega)).mono fun e w' ⟨he, hb⟩ => ⟨he, below_then hz hb, h.below (below_then hz hb)⟩
end
/-- The last loop, between two rounds. -/
def FnI (V : World) (b kb : Nat) (sq : Bool) (tr : Int) (N n : Nat) (w : World) : Prop := ∃ v ms, Li V w b kb v sq tr ms ∧ Fn sq N n ms
/-- In the midst of a round: the next one (control id ct) is told in block nb, and has its number. -/
def FgI (V : World) (b kb : Nat) (sq : Bool) (tr : Int) (N n : Nat) (ct : ByteArray) (nb : Nat) (w : World) : Prop := ∃ v ms m, Li V w b kb v sq tr ms ∧ Fn sq N n ms ∧ nextS sq ms = some m ∧ (sq && (m.nu == 0)) = false ∧ m.ct = ct ∧ w.cell? ⟨nb, 0, none⟩ = some (.string ct) ∧ nb ≠ kb ∧ v.ownBlock ≠ some nb
theorem fg_of {V w w' : World} {b kb : Nat} {v : Value} {sq : Bool} {tr : Int} {N n : Nat} {ms : List Msg} {m : Msg} {nb : Nat} (L0 : Li V w b kb v sq tr ms) (hb : Below w.heap.size w w') (hf : Fn sq N n ms) (hn : nextS sq ms = some m) (hq : (sq && (m.nu == 0)) = false) (hc : w'.cell? ⟨nb, 0, none⟩ = some (.string m.ct)) (hnb : w.heap.size ≤ nb) : FgI V b kb sq tr N n m.ct nb w' := by
  refine ⟨v, ms, m, L0.below hb, hf, hn, hq, rfl, hc, fun e => ?_, fun e => ?_⟩
  · have := blk_lt L0.bx.2.1.1; omega
  · have := (ERow.lt L0.bx.2.1.2.1 e).2; omega
theorem fg_give {V w0 w : World} {b kb : Nat} {v : Value} {tr : Int} {N n : Nat} {ms : List Msg} {m : Msg} {nb : Nat} (L0 : Li V w0 b kb v true tr ms) (hb : Below w0.heap.size w0 w) (hf : Fn true N n ms) (hn : nextS true ms = some m) (hc : w.cell? ⟨nb, 0, none⟩ = some (.string m.ct)) (hnb : w0.heap.size ≤ nb) :
    Calls Tryd.prog 10 #[.pointer (some ⟨b, 0, none⟩), .int .i64 1] w fun e w' => e = .returned .nilIface ∧ Hid (FgI V b kb true tr N n m.ct nb w') := by
  have L := L0.below hb
  refine (give_yes (n := 1) L.bx hn (by decide)).mono ?_
  rintro e w' ⟨he, hq⟩
  refine ⟨he, ?_⟩
  have hk := L.keep hq
  have h1 : nb ≠ kb := fun e => by have := blk_lt L0.bx.2.1.1; omega
  have h2 : v.ownBlock ≠ some nb := fun e => by have := (ERow.lt L0.bx.2.1.2.1 e).2; omega
  have hl := cell_lt hc
  obtain ⟨v', q1, q2, q3⟩ := hq
  obtain ⟨v2, L2⟩ := L.step ⟨v', q1, q2, q3⟩
  obtain ⟨g1, g2⟩ := hf.give hn
  have L' : Li V w' b kb v' true tr (putS { m with nu := 1 } ms) := ⟨q1, L2.bel, L.kb, fun q e => by
    rcases q3 q e with g | g
    · exact L.v q g
    · exact Nat.le_trans L.bel.size g⟩
  refine ⟨v', _, _, L', g1, g2, rfl, rfl, ?_, h1, fun e => ?_⟩
  · rw [hk.cell (p := ⟨nb, 0, none⟩) hl (fun g => g.elim h1 h2)]
    exact hc
  · rcases q3 nb e with g | g
    · exact h2 g
    · have : nb < w.heap.size := hl
      omega
theorem fg_go {V w : World} {b kb : Nat} {sq : Bool} {tr : Int} {N n : Nat} {ct : ByteArray} {nb : Nat} (h : FgI V b kb sq tr N n ct nb w) (hV : PVc V) (t0 : 0 ≤ tr) (t1 : tr ≤ 16) :
    Calls Tryd.prog 11 #[.pointer (some ⟨b, 0, none⟩)] w fun e w' => ∃ dg k c, 0 < k ∧ e = .returned (.tuple #[.slice (some ⟨dg, 0, none⟩) k c, .nilIface]) ∧ w'.cell? ⟨dg, 0, none⟩ = some (.string ct) ∧ w'.cell? ⟨dg, 1, none⟩ = some (.int .i64 1) ∧ w'.cell? ⟨nb, 0, none⟩ = some (.string ct) ∧ Hid (∀ q, FnI V b kb sq tr N (n + 1) (w'.drewN q)) := by
  obtain ⟨v, ms, m, L, hf, hn, hq, rfl, hc, h1, h2⟩ := h
  obtain ⟨s1, r, s2⟩ := start_good (hf.bk.ok m (nextS_mem hn).1) t0 t1
  refine (go_go L.bx (hV.below L.bel) hn hq s1).mono ?_
  rintro e w' ⟨a, c, he, hr, hq'⟩
  have hk := L.keep hq'
  obtain ⟨v', L'⟩ := L.step hq'
  obtain ⟨dg, rfl, _, hd⟩ := ERow.at_ encD_len hr (j := 0) (x := (m.ct, 1, nT)) (by rw [s2]; rfl)
  refine ⟨dg, r.length + 1, c, by omega, ?_, ?_, ?_, ?_, fun q => ?_⟩
  · rw [he, s2]; simp [deedsS]
  · have := hd 0 (by decide); simpa [encD] using this
  · have := hd 1 (by decide); simpa [encD] using this
  · rw [hk.cell (p := ⟨nb, 0, none⟩) (cell_lt hc) (fun g => g.elim h1 h2)]
    exact hc
  · exact ⟨v', _, L'.below (below_drewN (Below.refl _ _) q), hf.go hn (start_no5 _ _ _ _ _)⟩
end Go.Proofs.YtigmgbnfiiobeaaDoor
