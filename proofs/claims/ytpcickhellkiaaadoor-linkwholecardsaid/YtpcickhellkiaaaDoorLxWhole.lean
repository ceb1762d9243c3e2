/-
  LinkWhole, walked.
-/
import Derived.Test.YtpcickhellkiaaaDoorLxWh0
import Derived.Test.YtpcickhellkiaaaDoorLkGone
import Derived.Deep.CutBlock
import Derived.Deep.DeepCutAuto
namespace Go.Proofs.YtpcickhellkiaaaDoor
open Go.RowKit

set_option maxRecDepth 100000 in
set_option maxHeartbeats 4000000 in
theorem whole_bad (side : Int) (ao : Option Addr) (ac an : Nat) (ro : Option Addr) (rc rn : Nat) (bo : Option Addr) (bc bn : Nat) (W : World) (hE : ErrType W) (hs : side < 0 ∨ 1 < side) : Calls Tryd.prog 3 #[.int .i64 side, .slice ao an ac, .slice ro rn rc, .slice bo bn bc] W fun e w' => e = .returned (.bool true) ∧ Below W.heap.size W w' := by
  have HE : Hid (ErrType W) := hE
  have HN := kNew W
  clear hE
  rcases (by omega : side < 0 ∨ (¬ side < 0 ∧ side > 1)) with h1 | ⟨h1, h2⟩
  all_goals (
    clear hs
    go_enter Tryd.func3, Tryd.ntmps3
    go_wp2_with fail
    refine HN.mono ?_
    rintro _ w1 ⟨rfl, H1⟩
    go_wp2_with fail
    refine (anchor_true _ (errType_below HE.out H1.out.1.b)).mono ?_
    rintro _ w7 ⟨rfl, hb7⟩
    have H7 : Hid (Below W.heap.size W w7) := below_then H1.out.1.b hb7
    clear hb7 H1
    go_wp2_with fail
    go_ret
    exact ⟨rfl, H7.out⟩)
/-- A slice's length. -/
def sliceN : Value → Nat
  | .slice _ n _ => n
  | _ => 0
theorem at_num (x : Int) (n : Nat) (h1 : 1 ≤ n) (h2 : n ≤ 8195) : ∃ q : Nat, q < n ∧ wrap64 ((IntKind.u64.wrap x).tmod (n : Int)) = (q : Int) := by
  have h0 := wrap_u64_nonneg x
  generalize IntKind.u64.wrap x = u at *
  rw [Int.tmod_eq_emod_of_nonneg h0]
  have e1 : 0 ≤ u % (n : Int) := Int.emod_nonneg _ (by omega)
  have e2 : u % (n : Int) < (n : Int) := Int.emod_lt_of_pos _ (by omega)
  generalize u % (n : Int) = r at *
  exact ⟨r.toNat, by omega, by unfold wrap64; omega⟩
theorem bit_num (y : Int) {pn got : Nat} (h1 : got < pn) (h2 : pn ≤ 4096) : ∃ nn : Nat, 1 ≤ nn ∧ got + nn ≤ pn ∧ wrap64 (1 + wrap64 ((IntKind.u64.wrap y).tmod ((pn : Int) - (got : Int)))) = (nn : Int) := by
  obtain ⟨q, hq, e⟩ := at_num y (pn - got) (by omega) (by omega)
  rw [show ((pn - got : Nat) : Int) = (pn : Int) - (got : Int) by omega] at e
  rw [e]
  exact ⟨1 + q, by omega, by omega, by unfold wrap64; omega⟩
theorem got_mid {L : List (List Int)} {i got : Nat} (h : got < (L.getD i []).length) (h0 : 1 ≤ got) : (gotS L i got).2 = (i : Int) := by
  unfold gotS
  rw [if_neg (by omega)]
  show (if got = 0 then (-1 : Int) else i) = i
  rw [if_neg (by omega)]
theorem got_end {L : List (List Int)} {i got : Nat} (h : got = (L.getD i []).length) : gotS L i got = (L.eraseIdx i, -1) := by
  unfold gotS
  rw [if_pos h]
theorem WhS.start {W w1 : World} {lb k : Nat} (h : PS W (some ⟨lb, 0, none⟩) sg0 w1) : WhS W lb k (([] : List Pc).map (·.bs), -1) (.slice none 0 0) [] w1 := by
  refine ⟨⟨_, h, ?_, ?_⟩, ERow.nil _ _ _ _ _, fun p hp => (List.not_mem_nil hp).elim⟩
  · unfold csd; split <;> rfl
  · unfold csd; split <;> rfl
/-- One more piece joins the list of what is left. -/
theorem WhS.push {W z : World} {lb k : Nat} {hs : Sd} {a : Option Addr} {n c : Nat} {ls : List Pc} (h : WhS W lb k hs (.slice a n c) ls z) (hl : ls.length ≤ 256) (hlb : lb < z.heap.size) {p : Pc} (hp : RsOk W p) :
    ∃ a2 c2 W2, (Builtin.append_ #[22, 22] 22 #[.slice a n c, .slice (some ⟨z.heap.size, 0, none⟩) 1 1]).run Tryd.prog (z.alloc (.cells #[.slice p.a p.n p.c] 27)) = .ok (.slice a2 (n + 1) c2) W2 ∧ Hid (WhS W lb k hs (.slice a2 (n + 1) c2) (ls ++ [p]) W2) := by
  have hn : n = ls.length := ERow.len h.row
  obtain ⟨a2, c2, W2, hap, r2, o2, l2⟩ := run_epush (P := Tryd.prog) (t := 22) Tryd.underlying22 celPc encPc_len encPc_one h.row p #[.slice p.a p.n p.c] rfl (by omega) (by omega) (by omega)
  rw [← hn] at hap r2
  obtain ⟨⟨cc, q1, q2, q3⟩, q4, q5⟩ := h
  refine ⟨a2, c2, W2, hap, ⟨cc, ?_, q2, q3⟩, r2, fun x hx => ?_⟩
  · obtain ⟨F, k1, k2, k3, k4⟩ := q1
    have key : ∀ g, (Value.slice a n c).ownBlock = some g → ∃ cs, z.heap[g]? = some (.cells cs 27 (0, 0)) := fun g hg => row_pc q4 hg
    obtain ⟨lb', x, y, e, hk, e2, e3⟩ := k1
    refine ⟨F, ⟨lb', x, y, e, hk.off o2 (fun g => ?_) (fun b hb g => ?_), e2, e3⟩, k2, k3, k4.trans (o2.below k4.size fun q hq => ?_)⟩
    · obtain ⟨cs, hc⟩ := key _ g
      rw [hk.blk] at hc
      simp at hc
    · obtain ⟨cs, hc⟩ := key _ g
      obtain ⟨cs', t, hc', ht⟩ := hk.ty b hb
      rw [hc'] at hc
      simp only [Option.some.injEq, Obj.cells.injEq] at hc
      rcases ht with ht | ht
      · rw [ht] at hc; exact absurd hc.2.1 (by decide)
      · rw [ht] at hc; exact absurd hc.2.1 (by decide)
    · have := (ERow.lt q4 hq).1
      have := k2 lb rfl
      omega
  · rcases List.mem_append.1 hx with g | g
    · exact q5 x g
    · rw [List.mem_singleton] at g; subst g; exact hp
theorem WhS.lblt {W z : World} {lb k : Nat} {hs : Sd} {v : Value} {ls : List Pc} (h : WhS W lb k hs v ls z) : lb < z.heap.size := by
  obtain ⟨⟨cc, ⟨F, k1, _⟩, _⟩, _, _⟩ := h
  exact (k1.lt.2 lb rfl).1
set_option maxRecDepth 100000 in
set_option maxHeartbeats 16000000 in
theorem whole_ok (k : Nat) (ao : Option Addr) (ac an : Nat) (ro : Option Addr) (rc rn : Nat) (bo : Option Addr) (bc bn : Nat) (W : World) (hE : ErrType W) (hk : k < 2) (hA : Lsts W ao an) (hR : Nums W ro rn) (hB : Nums W bo bn) : Calls Tryd.prog 3 #[.int .i64 (k : Int), .slice ao an ac, .slice ro rn rc, .slice bo bn bc] W fun e w' => e = .returned (.bool true) ∧ Below W.heap.size W w' := by
  have HE : Hid (ErrType W ∧ Lsts W ao an ∧ Nums W ro rn ∧ Nums W bo bn) := ⟨hE, hA, hR, hB⟩
  have hln := hA.2
  have hrn := hR.2
  have hbn := hB.2
  have HN := kNew W
  obtain ⟨lb, hlb⟩ : ∃ lb, W.heap.size = lb := ⟨_, rfl⟩
  rw [hlb] at HN
  have HLB : Hid (W.heap.size = lb) := hlb
  clear hE hA hR hB hlb
  have k1 : ¬ (k : Int) < 0 := by omega
  have k2 : ¬ (k : Int) > 1 := by omega
  go_enter Tryd.func3, Tryd.ntmps3
  go_wp2_with fail
  refine HN.mono ?_
  rintro _ w1 ⟨rfl, H1⟩
  have H0 : Hid (WhS W lb k (([] : List Pc).map (·.bs), -1) (.slice none 0 0) [] w1) := WhS.start H1.out.1
  clear HN H1
  go_upto_block 0 with fail
  go_cut [10] (fun t10 wx => Hid (∃ a n c ls, t10 = .slice a n c ∧ WhS W lb k ((ls : List Pc).map (·.bs), -1) (.slice a n c) ls wx ∧ ls.length ≤ 256))
  case first =>
    go_wp2_with fail
    go_loopw [10, 11] (fun t10 t11 wx => ∃ (i : Nat) (ls : List Pc), i ≤ an ∧ i ≤ 256 ∧ t11 = .int .i64 i ∧ Hid (WhS W lb k (ls.map (·.bs), -1) t10 ls wx ∧ ls.length ≤ i)) (fun _ t11 _ => an - (intOf t11).toNat)
    case atStart => exact ⟨0, [], Nat.zero_le _, Nat.zero_le _, rfl, H0.out, Nat.le_refl _⟩
    case round =>
      obtain ⟨i, ls, hi, hi6, rfl, HI⟩ := hrel
      obtain ⟨a3, c3, e3, _⟩ := ERow.isSlice HI.out.1.row
      subst e3
      obtain ⟨n3, hn3⟩ : ∃ n3, ls.length = n3 := ⟨_, rfl⟩
      rw [hn3] at HI ⊢
      have HN3 : Hid (ls.length = n3) := hn3
      clear hn3 H0
      by_cases hlt : i < an
      · have hlt1 : (i : Int) < an := by omega
        by_cases hlt6 : i < 256
        · have hlt7 : (i : Int) < 256 := by omega
          obtain ⟨b, o, q, m, c, bs, ea, hbl, hcl, hby, hmc, hcm⟩ := HE.out.2.1.1 i hlt
          subst ea
          have hcw : wr.cell? ⟨b, o + i, none⟩ = some (.slice q m c) := (HI.out.1.b.cell (p := ⟨b, o + i, none⟩) hbl).trans hcl
          have HP : Hid (Byts W q m bs ∧ W.cell? ⟨b, o + i, none⟩ = some (.slice q m c) ∧ b < W.heap.size) := ⟨hby, hcl, hbl⟩
          clear hby hcl hbl
          by_cases hm0 : m = 0
          · subst hm0
            go_wp2_with fail
            go_roundw
            case rel => exact ⟨i + 1, ls, by omega, by omega, by go_num, HI.out.1, by have := HI.out.2; have := HN3.out; omega⟩
            case measure => simp [intOf]; omega
          · have hm1 : ((m : Int) == 0) = false := by simp; exact hm0
            by_cases hm4 : (m : Int) > 4096
            · go_wp2_with fail
              go_roundw
              case rel => exact ⟨i + 1, ls, by omega, by omega, by go_num, HI.out.1, by have := HI.out.2; have := HN3.out; omega⟩
              case measure => simp [intOf]; omega
            · have HRs : Hid (RsOk W ⟨q, m, c, bs⟩) := by
                refine ⟨HP.out.1, ?_, by show 1 ≤ m; omega, by show m ≤ 4096; omega, hmc, hcm⟩
                obtain ⟨b', o', e, _⟩ := HP.out.1.cell 0 (by omega)
                exact ⟨b', o', e⟩
              have HSe := wSend (c := c) HI.out.1 hk (by rw [List.length_map, HN3.out]; have := HI.out.2; omega) HP.out.1 (by omega) (by omega)
              have HI2 : Hid (n3 ≤ i) := HI.out.2
              clear HI
              go_wp2_with fail
              refine HSe.mono ?_
              rintro _ w2 ⟨rfl, H2⟩
              have hcw2 : w2.cell? ⟨b, o + i, none⟩ = some (.slice q m c) := (H2.out.b.cell (p := ⟨b, o + i, none⟩) HP.out.2.2).trans HP.out.2.1
              obtain ⟨a2, c2, W2, hap, HW2⟩ := H2.out.push (by rw [HN3.out]; have := HI2.out; omega) H2.out.lblt HRs.out
              have HF : Hid (WhS W lb k ((ls ++ [(⟨q, m, c, bs⟩ : Pc)]).map (·.bs), -1) (.slice a2 (n3 + 1) c2) (ls ++ [⟨q, m, c, bs⟩]) W2 ∧ (ls ++ [(⟨q, m, c, bs⟩ : Pc)]).length ≤ i + 1) := by
                refine ⟨?_, by rw [List.length_append, HN3.out]; have := HI2.out; simp; omega⟩
                have := HW2.out
                rw [List.map_append]
                exact this
              clear HSe H2 HW2 HRs hcw
              go_wp2_with (at_builtin; refine wpList_append_run rfl (.tmp 66) (.tmp 71) 22 _ rfl hap ?_)
              go_roundw
              case rel => exact ⟨i + 1, ls ++ [(⟨q, m, c, bs⟩ : Pc)], by omega, by omega, by go_num, HF⟩
              case measure => simp [intOf]; omega
        · have hlt7 : ¬ (i : Int) < 256 := by omega
          have HX : Hid (∃ a n c ls', (.slice a3 n3 c3 : Value) = .slice a n c ∧ WhS W lb k ((ls' : List Pc).map (·.bs), -1) (.slice a n c) ls' wr ∧ ls'.length ≤ 256) := ⟨a3, n3, c3, ls, rfl, HI.out.1, by have := HI.out.2; have := HN3.out; omega⟩
          clear HI HN3
          go_wp2_with fail
          go_meet
          exact HX.out
      · have hlt1 : ¬ (i : Int) < an := by omega
        have HX : Hid (∃ a n c ls', (.slice a3 n3 c3 : Value) = .slice a n c ∧ WhS W lb k ((ls' : List Pc).map (·.bs), -1) (.slice a n c) ls' wr ∧ ls'.length ≤ 256) := ⟨a3, n3, c3, ls, rfl, HI.out.1, by have := HI.out.2; have := HN3.out; omega⟩
        clear HI HN3
        go_wp2_with fail
        go_meet
        exact HX.out
  case rest =>
    obtain ⟨a, n, c, ls, e10, hws, hl6⟩ := hcut.out
    subst e10
    have HW0 : Hid (WhS W lb k (ls.map (·.bs), -1) (.slice a n c) ls wc ∧ 0 + ls.length ≤ 256) := ⟨hws, by omega⟩
    clear hcut hws hl6 H0
    generalize wc = wq at *
    go_wp2_with fail
    go_loopw [10, 12] (fun t10 t12 wx => ∃ (kk : Nat) (ls : List Pc), t12 = .int .i64 kk ∧ Hid (WhS W lb k (ls.map (·.bs), -1) t10 ls wx ∧ kk + ls.length ≤ 256)) (fun t10 _ _ => sliceN t10)
    case atStart => exact ⟨0, ls, rfl, HW0.out⟩
    case round =>
      clear HW0
      obtain ⟨kk, ls, rfl, HI⟩ := hrel
      obtain ⟨a3, c3, e3, _⟩ := ERow.isSlice HI.out.1.row
      subst e3
      obtain ⟨n3, hn3⟩ : ∃ n3, ls.length = n3 := ⟨_, rfl⟩
      rw [hn3] at HI ⊢
      have HN3 : Hid (ls.length = n3) := hn3
      have hk6 : kk + n3 ≤ 256 := HI.out.2
      clear hn3
      by_cases h0 : n3 = 0
      · subst h0
        have HLn := wLen HI.out.1 hk
        rw [List.length_map, HN3.out] at HLn
        go_wp2_with fail
        refine HLn.mono ?_
        rintro _ w2 ⟨rfl, H2⟩
        clear HLn HI
        go_wp2_with fail
        refine (wLen2 H2.out hk).mono ?_
        rintro _ w3 ⟨rfl, H3⟩
        clear H2
        go_wp2_with fail
        refine (anchor_true _ (errType_below HE.out.1 H3.out.b)).mono ?_
        rintro _ w7 ⟨rfl, hb7⟩
        have H7 : Hid (Below W.heap.size W w7) := below_then H3.out.b hb7
        clear hb7 H3
        go_wp2_with fail
        go_ret
        exact ⟨rfl, H7.out⟩
      · have g0 : (n3 : Int) > 0 := by omega
        go_upto_if 80 with fail
        go_cut [13] (fun t13 wx => wx = wr ∧ Hid (∃ x : Nat, x < n3 ∧ t13 = .int .i64 x))
        case first =>
          by_cases hr : rn = 0
          · subst hr
            go_wp2_with fail
            go_meet
            exact ⟨rfl, ⟨0, by omega, rfl⟩⟩
          · have hr1 : (rn : Int) > 0 := by omega
            have hq1 : kk % rn < rn := Nat.mod_lt _ (by omega)
            obtain ⟨b, o, x, ea, hbl, hcl⟩ := HE.out.2.2.1.1 (kk % rn) hq1
            subst ea
            have hcw : wr.cell? ⟨b, o + kk % rn, none⟩ = some (.int .i64 x) := (HI.out.1.b.cell (p := ⟨b, o + kk % rn, none⟩) hbl).trans hcl
            have f1 : (0 : Int) ≤ (kk : Int) % (rn : Int) := Int.emod_nonneg _ (by omega)
            have f2 : (kk : Int) % (rn : Int) < (rn : Int) := Int.emod_lt_of_pos _ (by omega)
            clear hcl hbl
            go_wp2_with fail
            go_meet
            obtain ⟨y, hy, ey⟩ := at_num x n3 (by omega) (by omega)
            exact ⟨rfl, ⟨y, hy, by rw [ey]⟩⟩
        case rest =>
          obtain ⟨ew, hx⟩ := hcut
          obtain ⟨x, hx3, e13⟩ := hx.out
          subst e13
          rw [ew]
          clear ew hx
          obtain ⟨g, p, pb, po, hp, ea, hcl, hpa, hok⟩ := HI.out.1.at_ (i := x) hx3
          subst ea
          obtain ⟨pa, pn, pc, pbs⟩ := p
          simp only at hpa hcl
          subst hpa
          obtain ⟨L, hL⟩ : ∃ L, ls.map (·.bs) = L := ⟨_, rfl⟩
          have eL : L.getD x [] = pbs := by rw [← hL, List.getD_eq_getElem?_getD, List.getElem?_map, hp]; rfl
          have eN : pbs.length = pn := hok.byts.len
          have hp1 : 1 ≤ pn := hok.n1
          have hp2 : pn ≤ 4096 := hok.n2
          have hp3 : pn ≤ pc := hok.c1
          have hLl : L.length = n3 := by rw [← hL, List.length_map]; exact HN3.out
          have HP : Hid (Byts W (some ⟨pb, po, none⟩) pn pbs ∧ L.getD x [] = pbs ∧ pbs.length = pn ∧ L.length = n3 ∧ ls.map (·.bs) = L) := ⟨hok.byts, eL, eN, hLl, hL⟩
          have HG0 : Hid (WhS W lb k (gotS L x 0) (.slice (some ⟨g, 0, none⟩) n3 c3) ls wr) := by
            show WhS _ _ _ _ _ _ _
            rw [got0 (by rw [eL, eN]; exact hp1), ← hL]
            exact HI.out.1
          have hx1 : (x : Int) < (n3 : Int) := by omega
          clear eL eN hLl hL hok hp HI
          go_wp2_with fail
          clear hcl
          go_loopw [15, 16] (fun t15 t16 wx => ∃ got j : Nat, got ≤ pn ∧ j ≤ kk + got ∧ t15 = .int .i64 got ∧ t16 = .int .i64 j ∧ Hid (WhS W lb k (gotS L x got) (.slice (some ⟨g, 0, none⟩) n3 c3) ls wx)) (fun t15 _ _ => pn - (intOf t15).toNat)
          case atStart => exact ⟨0, kk, Nat.zero_le _, by omega, rfl, rfl, HG0⟩
          case round =>
            clear HG0
            obtain ⟨got, j, hgn, hjk, rfl, rfl, HG⟩ := hrel
            by_cases hgt : got < pn
            · have hgt1 : (got : Int) < (pn : Int) := by omega
              have hc24 : wr = wr := rfl
              go_upto_region 24 with fail
              go_cut [117] (fun t117 wx => wx = wr ∧ Hid (∃ t0 : Bool, t117 = .bool t0 ∧ (t0 = true → 0 < bn)))
              case first =>
                by_cases hb0 : bn = 0
                · subst hb0
                  go_wp2_with fail
                  go_meet
                  exact ⟨rfl, ⟨false, by first | rfl | simp, by simp⟩⟩
                · have hb1 : (bn : Int) > 0 := by omega
                  by_cases hj2 : (j : Int) < (kk : Int) + 200
                  · go_wp2_with fail
                    go_meet
                    exact ⟨rfl, ⟨true, by first | rfl | (simp; omega), fun _ => by omega⟩⟩
                  · go_wp2_with fail
                    go_meet
                    exact ⟨rfl, ⟨false, by first | rfl | (simp; omega), by simp⟩⟩
              case rest =>
              obtain ⟨ew, hx⟩ := hcut
              obtain ⟨t0, e117, ht0⟩ := hx.out
              subst e117
              rw [ew]
              have HT : Hid (t0 = true → 0 < bn) := ht0
              clear ew hx ht0
              go_upto_if 117 with fail
              go_cut [17] (fun t17 wx => wx = wr ∧ Hid (∃ nn : Nat, 1 ≤ nn ∧ got + nn ≤ pn ∧ t17 = .int .i64 nn))
              case first =>
                cases t0 with
                | true =>
                  have hb0 : 0 < bn := HT.out rfl
                  have hq1 : j % bn < bn := Nat.mod_lt _ hb0
                  obtain ⟨b, o, y, ea, hbl, hcl⟩ := HE.out.2.2.2.1 (j % bn) hq1
                  subst ea
                  have hcw : wr.cell? ⟨b, o + j % bn, none⟩ = some (.int .i64 y) := (HG.out.b.cell (p := ⟨b, o + j % bn, none⟩) hbl).trans hcl
                  have f1 : (0 : Int) ≤ (j : Int) % (bn : Int) := Int.emod_nonneg _ (by omega)
                  have f2 : (j : Int) % (bn : Int) < (bn : Int) := Int.emod_lt_of_pos _ (by omega)
                  clear hcl hbl HT
                  go_wp2_with fail
                  go_meet
                  obtain ⟨nn, h1, h2, e⟩ := bit_num y hgt hp2
                  exact ⟨rfl, ⟨nn, h1, h2, by rw [e]⟩⟩
                | false =>
                  clear HT
                  go_wp2_with fail
                  go_meet
                  exact ⟨rfl, ⟨pn - got, by omega, by omega, by rw [show ((pn - got : Nat) : Int) = (pn : Int) - (got : Int) by omega]⟩⟩
              case rest =>
              obtain ⟨ew, hx⟩ := hcut
              obtain ⟨nn, hn1, hn2, e17⟩ := hx.out
              subst e17
              rw [ew]
              clear ew hx HT
              have HC : Calls Tryd.prog 12 #[.pointer (some ⟨lb, 0, none⟩), .int .i64 (k : Int), .int .i64 (x : Int), .int .i64 (nn : Int)] wr fun e w' => ∃ a m c, e = .returned (.tuple #[.slice a m c, .nilIface]) ∧ Hid (WhS W lb k (gotS L x (got + nn)) (.slice (some ⟨g, 0, none⟩) n3 c3) ls w' ∧ Byts w' a m ((pbs.drop got).take nn)) := by
                obtain ⟨_, p2, p3, p4, _⟩ := HP.out
                have hcg := car_got (L := L) (i := x) (got := got) (n := nn) (by omega) (by rw [p2, p3]; exact hgt) hn1 (by rw [p2, p3]; exact hn2)
                have := wCarry HG.out hk (x : Int) (nn : Int) hcg.1
                rw [hcg.2.1, hcg.2.2, p2] at this
                exact this
              clear HG
              go_wp2_with fail
              refine HC.mono ?_
              rintro _ w2 ⟨a2, m2, c2, rfl, H2⟩
              have em : m2 = nn := by
                have h1 := H2.out.2.len
                rw [List.length_take, List.length_drop, HP.out.2.2.1] at h1
                omega
              subst em
              have HB2 : Hid (Byts w2 (some ⟨pb, po + got, none⟩) m2 ((pbs.drop got).take m2)) := (Byts.part HP.out.1 (i := got) (m := m2) (by omega)).below H2.out.1.b
              have z1 : (got : Int) ≤ (got : Int) + (m2 : Int) := by omega
              have z2 : (got : Int) + (m2 : Int) ≤ (pc : Int) := by omega
              have z3 : got + m2 ≤ pc := by omega
              clear HC
              go_wp2_with fail
              refine (same_true H2.out.2 HB2.out (by omega)).mono ?_
              rintro _ w3 ⟨rfl, kq, rfl⟩
              have H3 : Hid (WhS W lb k (gotS L x (got + m2)) (.slice (some ⟨g, 0, none⟩) n3 c3) ls (w2.drewN kq)) := H2.out.1.below (below_drewN (Below.refl _ _) kq)
              clear H2 HB2
              generalize w2.drewN kq = v3 at *
              by_cases hfin : got + m2 < pn
              · have y1 : (got : Int) + (m2 : Int) < (pn : Int) := by omega
                have y2 : ((got : Int) + (m2 : Int) == (pn : Int)) = false := by simp; omega
                have HH := wHalf H3.out hk
                rw [got_mid (by rw [HP.out.2.1, HP.out.2.2.1]; exact hfin) (by omega)] at HH
                go_wp2_with fail
                refine HH.mono ?_
                rintro _ w4 ⟨rfl, H4⟩
                clear H3 HH
                go_wp2_with fail
                go_roundw
                case rel => exact ⟨got + m2, j + 1, by omega, by omega, by go_num, by go_num, H4⟩
                case measure => simp [intOf]; omega
              · have y1 : ¬ (got : Int) + (m2 : Int) < (pn : Int) := by omega
                have y2 : ((got : Int) + (m2 : Int) == (pn : Int)) = true := by simp; omega
                have HH := wHalf H3.out hk
                rw [show (gotS L x (got + m2)).2 = -1 by rw [got_end (by rw [HP.out.2.1, HP.out.2.2.1]; omega)]] at HH
                go_wp2_with fail
                refine HH.mono ?_
                rintro _ w4 ⟨rfl, H4⟩
                clear H3 HH
                go_wp2_with fail
                go_roundw
                case rel => exact ⟨got + m2, j + 1, by omega, by omega, by go_num, by go_num, H4⟩
                case measure => simp [intOf]; omega
            · have hgt1 : ¬ (got : Int) < (pn : Int) := by omega
              have HQ : Hid (WhS W lb k (L.eraseIdx x, -1) (.slice (some ⟨g, 0, none⟩) n3 c3) ls wr) := by
                have := HG.out
                rw [got_end (by rw [HP.out.2.1, HP.out.2.2.1]; omega)] at this
                exact this
              clear HG
              obtain ⟨wz, hwz⟩ : ∃ wz, wr = wz := ⟨_, rfl⟩
              rw [hwz] at HQ ⊢
              clear hwz
              go_wp2_with fail
              go_loopw [20, 21] (fun t20 t21 wx => ∃ i : Nat, i ≤ n3 ∧ t21 = .int .i64 i ∧ Hid (PcRow wx wz.heap.size t20 ((ls.take i).eraseIdx x) ∧ Below wz.heap.size wz wx)) (fun _ t21 _ => n3 - (intOf t21).toNat)
              case atStart => exact ⟨0, Nat.zero_le _, rfl, by simpa using ERow.nil _ _ _ _ _, Below.refl _ _⟩
              case round =>
                obtain ⟨i, hi, rfl, HI⟩ := hrel
                have hws := HQ.out.below HI.out.2
                obtain ⟨a5, c5, e5, _⟩ := ERow.isSlice HI.out.1
                by_cases hlt : i < n3
                · have hlt1 : (i : Int) < (n3 : Int) := by omega
                  obtain ⟨g', p', b', o', hp', eg', hcl', hpa', hok'⟩ := hws.at_ (i := i) hlt
                  obtain rfl : g' = g := by injection eg' with e; injection e with e; exact e.symm
                  have HT := era_snoc (k := x) hp'
                  clear hws eg' hok'
                  by_cases hik : i = x
                  · have hik1 : ((i : Int) != (x : Int)) = false := by simp; omega
                    have HI2 : Hid (PcRow wr wz.heap.size u20 ((ls.take (i + 1)).eraseIdx x) ∧ Below wz.heap.size wz wr) := by
                      rw [if_pos hik] at HT
                      exact ⟨by rw [HT]; exact HI.out.1, HI.out.2⟩
                    clear HT HI hp' hik e5 hpa' hcl'
                    go_wp2_with fail
                    go_roundw
                    case rel => exact ⟨i + 1, by omega, by go_num, HI2⟩
                    case measure => simp [intOf]; omega
                  · have hik1 : ((i : Int) != (x : Int)) = true := by simp; omega
                    rw [if_neg hik] at HT
                    have hol : ((ls.take i).eraseIdx x).length ≤ 256 := Nat.le_trans (List.length_eraseIdx_le _ _) (by rw [List.length_take]; have := HN3.out; omega)
                    obtain ⟨a2, c2, W2, hap, r2, o2, _⟩ := run_epush (P := Tryd.prog) (t := 22) Tryd.underlying22 celPc encPc_len encPc_one (w := wr) HI.out.1 p' #[.slice p'.a p'.n p'.c] rfl (by omega) (by decide) HI.out.2.size
                    have HI2 : Hid (PcRow W2 wz.heap.size (.slice a2 (((ls.take i).eraseIdx x).length + 1) c2) ((ls.take (i + 1)).eraseIdx x) ∧ Below wz.heap.size wz W2) := by
                      refine ⟨by rw [HT]; exact r2, HI.out.2.trans (o2.below HI.out.2.size fun q hq => (ERow.lt HI.out.1 hq).1)⟩
                    rw [e5, hpa'] at hap
                    rw [e5]
                    clear e5 r2 o2 HT HI hp' hik hol hpa'
                    go_wp2_with (at_builtin; refine wpList_append_run rfl (.tmp 187) (.tmp 192) 22 _ rfl hap ?_)
                    go_roundw
                    case rel => exact ⟨i + 1, by omega, by go_num, HI2⟩
                    case measure => simp [intOf]; omega
                · have hlt1 : ¬ (i : Int) < (n3 : Int) := by omega
                  have hr5 := HI.out.1
                  rw [e5] at hr5 ⊢
                  rw [List.take_of_length_le (by have := HN3.out; omega)] at hr5 ⊢
                  have el : (ls.eraseIdx x).length = n3 - 1 := by rw [List.length_eraseIdx_of_lt (by have := HN3.out; omega), HN3.out]
                  rw [el] at hr5 ⊢
                  have HW : Hid (WhS W lb k ((ls.eraseIdx x).map (·.bs), -1) (.slice a5 (n3 - 1) c5) (ls.eraseIdx x) wr) := by
                    refine ⟨?_, ERow.base hr5 (by have := HQ.out.lblt; omega), fun p hp => HQ.out.pcs p (List.mem_of_mem_eraseIdx hp)⟩
                    have h1 := hws.ps
                    have e2 : (ls.eraseIdx x).map (·.bs) = L.eraseIdx x := by rw [← HP.out.2.2.2.2, List.eraseIdx_eq_take_drop_succ, List.eraseIdx_eq_take_drop_succ, List.map_append, List.map_take, List.map_drop]
                    rw [e2]
                    exact h1
                  have HF := wFlight HW.out hk (by rw [List.length_map, el]; omega)
                  rw [List.length_map, el] at HF
                  have HE5 : Hid ((ls.eraseIdx x).length = n3 - 1) := el
                  clear hws HI hr5 HQ e5 el
                  go_wp2_with fail
                  refine HF.mono ?_
                  rintro _ w6 ⟨a6, c6, rfl, H6⟩
                  clear HF HW
                  go_wp2_with fail
                  refine (like_true H6.out.2 (H6.out.1.told (by omega))).mono ?_
                  rintro _ w7 ⟨rfl, k7, rfl⟩
                  have H7 : Hid (WhS W lb k ((ls.eraseIdx x).map (·.bs), -1) (.slice a5 (n3 - 1) c5) (ls.eraseIdx x) (w6.drewN k7)) := H6.out.1.below (below_drewN (Below.refl _ _) k7)
                  clear H6
                  generalize w6.drewN k7 = v7 at *
                  go_wp2_with fail
                  go_roundw
                  case rel => exact ⟨kk + 1, ls.eraseIdx x, by go_num, H7.out, by have := HE5.out; omega⟩
                  case measure => simp [sliceN]; omega
theorem whole_law (side : Int) (ao : Option Addr) (ac an : Nat) (ro : Option Addr) (rc rn : Nat) (bo : Option Addr) (bc bn : Nat) (W : World) (hE : ErrType W) (hA : Lsts W ao an) (hR : Nums W ro rn) (hB : Nums W bo bn) : Calls Tryd.prog 3 #[.int .i64 side, .slice ao an ac, .slice ro rn rc, .slice bo bn bc] W fun e w' => e = .returned (.bool true) ∧ Below W.heap.size W w' := by
  by_cases h : side < 0 ∨ 1 < side
  · exact whole_bad side ao ac an ro rc rn bo bc bn W hE h
  · obtain ⟨k, rfl⟩ : ∃ k : Nat, side = k := ⟨side.toNat, by omega⟩
    exact whole_ok k ao ac an ro rc rn bo bc bn W hE (by omega) hA hR hB
end Go.Proofs.YtpcickhellkiaaaDoor
