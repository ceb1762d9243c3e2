/-
  The document's Load of any list.
-/
import Derived.Test.YtjbkfppibnlmoaaGreatDoorIbRe
namespace Go.Proofs.YtjbkfppibnlmoaaGreatDoor.Lg
open Go.RowKit

/-- What Load answers: the first entry at fault, the first decided one where there are too many, or a box of copies. -/
def LrQ (w : World) (K R : Int) (es : List Ent) (r : Ending) (w' : World) : Prop :=
  (∃ (j : Nat) (y : Ent) (z : Int), es[j]? = some y ∧ refS R (es.take j) y = z ∧ z ≠ 0 ∧ gdS R es j ∧ r = .returned (.tuple #[.agg #[.bool false, .int .i64 0, .int .i64 0, .slice none 0 0], .int .i64 (j : Int), .int .i64 z]) ∧ Below w.heap.size w w') ∨
  (gdS R es es.length ∧ manyB K es = true ∧ r = .returned (.tuple #[.agg #[.bool false, .int .i64 0, .int .i64 0, .slice none 0 0], .int .i64 (fdI es), .int .i64 301]) ∧ Below w.heap.size w w') ∨
  (gdS R es es.length ∧ manyB K es = false ∧ ∃ L ls, r = .returned (.tuple #[.agg #[.bool true, .int .i64 K, .int .i64 R, L], .int .i64 0, .int .i64 0]) ∧ NRow w' w.heap.size L ls ∧ (∀ l ∈ ls, Own w' w.heap.size l) ∧ Tws ls es ∧ Below w.heap.size w w')
/-- One refused. -/
def LrB (w : World) (R : Int) (es : List Ent) (i : Nat) (z : Int) (w' : World) : Prop := (∃ y, es[i]? = some y ∧ refS R (es.take i) y = z) ∧ z ≠ 0 ∧ gdS R es i ∧ Below w.heap.size w w'
theorem ref_tws {R : Int} {ls es : List Ent} (h : Tws ls es) (y : Ent) : refS R ls y = refS R es y := by
  unfold refS
  rw [h.last_eq, h.fi_eq, h.op_eq]
theorem fiI_neg {s : ByteArray} {es : List Ent} (h : fi s es = none) : fiI s es = -1 := by unfold fiI; rw [h]
theorem ref300a {R : Int} {es : List Ent} {y : Ent} (h : mayB y = false) : refS R es y = 300 := by unfold refS; rw [h]; rfl
theorem ref300b {R : Int} {es : List Ent} {y : Ent} (h : decide (y.tk < lastT es) = true) : refS R es y = 300 := by unfold refS; rw [h, Bool.or_true]; rfl
theorem ref6 {R : Int} {es : List Ent} {y : Ent} (h : mayB y = true) (hb : decide (y.tk < lastT es) = false) (hf : (fi y.ct es).isSome = true) : refS R es y = 6 := by unfold refS; rw [h, hb, hf]; rfl
theorem ref7 {R : Int} {es : List Ent} {y : Ent} (h : mayB y = true) (hb : decide (y.tk < lastT es) = false) (hf : (fi y.ct es).isSome = false) (ho : (opB y && decide ((nOp es : Int) = R)) = true) : refS R es y = 7 := by unfold refS; rw [h, hb, hf, ho]; rfl
theorem ref0 {R : Int} {es : List Ent} {y : Ent} (h : mayB y = true) (hb : decide (y.tk < lastT es) = false) (hf : (fi y.ct es).isSome = false) (ho : (opB y && decide ((nOp es : Int) = R)) = false) : refS R es y = 0 := by unfold refS; rw [h, hb, hf, ho]; rfl
theorem gd_succ {R : Int} {es : List Ent} {i : Nat} {y : Ent} (h : gdS R es i) (hy : es[i]? = some y) (h0 : refS R (es.take i) y = 0) : gdS R es (i + 1) := fun j x hj hx => by
  by_cases e : j < i
  · exact h j x e hx
  · obtain rfl : j = i := by omega
    rw [hx] at hy
    obtain rfl := Option.some.inj hy
    exact h0
section
variable {w : World} {K R : Int} {es : List Ent}
set_option maxRecDepth 100000 in
set_option maxHeartbeats 8000000 in
theorem rload_any {ao : Option Addr} {n c : Nat} (hL : LsAt w ao n es) (hN : n ≤ 1200000000000) (k1 : 1 ≤ K) (k2 : K ≤ 64) (r1 : 1 ≤ R) (r2 : R ≤ 32) : Calls Tryz.prog 16 #[.int .i64 K, .int .i64 R, .slice ao n c] w (LrQ w K R es) := by
  have bv : Below w.heap.size w (w.alloc (.cells #[.bool false, .int .i64 0, .int .i64 0, .slice none 0 0] 43)) := (Below.refl _ _).alloc (Nat.le_refl _) _
  have hv : (w.alloc (.cells #[.bool false, .int .i64 0, .int .i64 0, .slice none 0 0] 43)).heap[w.heap.size]? = some (.cells #[.bool false, .int .i64 0, .int .i64 0, .slice none 0 0] 43 (0, 0)) := heap_alloc_new _ _
  obtain ⟨V, hV⟩ : ∃ V, w.alloc (.cells #[.bool false, .int .i64 0, .int .i64 0, .slice none 0 0] 43) = V := ⟨_, rfl⟩
  rw [hV] at bv hv
  obtain ⟨S, hS⟩ : ∃ S, w.heap.size = S := ⟨_, rfl⟩
  rw [hS] at hv
  have HA : Hid (LsAt w ao n es ∧ n ≤ 1200000000000 ∧ 1 ≤ K ∧ K ≤ 64 ∧ es.length = n) := ⟨hL, hN, k1, k2, hL.1⟩
  have HV : Hid (Below w.heap.size w V ∧ V.heap[S]? = some (.cells #[.bool false, .int .i64 0, .int .i64 0, .slice none 0 0] 43 (0, 0)) ∧ w.heap.size = S) := ⟨bv, hv, hS⟩
  have hn12 : (n : Int) ≤ 1200000000000 := by omega
  have hadd : IntKind.i64.wrap (K + 1) = K + 1 := by rw [IntKind.wrap_i64]; omega
  have hnw := rnew_ok (w := V) K R ⟨k1, k2, r1, r2⟩
  clear hL hN k1 k2 r1 r2 bv hv
  go_enter Tryz.func16, Tryz.ntmps16
  go_wp2_with fail
  clear hV
  refine hnw.mono ?_
  rintro _ w1 ⟨rfl, b1⟩
  have HI0 : Hid (LdI w S w1.heap.size K R [] (.slice none 0 0) (w1.alloc (.cells #[.bool true, .int .i64 K, .int .i64 R, .slice none 0 0] 43))) := by
    have b2 : Below w1.heap.size w1 (w1.alloc (.cells #[.bool true, .int .i64 K, .int .i64 R, .slice none 0 0] 43)) := (Below.refl _ _).alloc (Nat.le_refl _) _
    have b3 := below_then b1 b2
    exact ⟨heap_alloc_new _ _, (b3.block S (blk_lt HV.out.2.1)).trans HV.out.2.1, ⟨[], ERow.nil _ _ _ _ _, fun l hl => (by cases hl), Tws.refl _⟩, below_then HV.out.1 b3, by rw [HV.out.2.2]; exact Nat.le_refl _, Nat.lt_of_lt_of_le (blk_lt HV.out.2.1) b1.size⟩
  clear hnw b1
  go_upto_region 2 with fail
  obtain ⟨V1, hV1⟩ : ∃ V, w1.alloc (.cells #[.bool true, .int .i64 K, .int .i64 R, .slice none 0 0] 43) = V := ⟨_, rfl⟩
  rw [hV1] at HI0 ⊢
  clear hV1
  obtain ⟨Z, hZ⟩ : ∃ Z, w1.heap.size = Z := ⟨_, rfl⟩
  rw [hZ] at HI0 ⊢
  clear hZ HV
  go_wp2_with fail
  go_loopw [11] (fun t wx => ∃ i : Nat, i ≤ n ∧ t = .int .i64 i ∧ Hid (gdS R es i ∧ ∃ v, LdI w S Z K R (es.take i) v wx)) (fun t _ => n - (intOf t).toNat)
  case atStart => exact ⟨0, Nat.zero_le _, rfl, fun j x hj => by omega, .slice none 0 0, by rw [List.take_zero]; exact HI0.out⟩
  case round =>
    obtain ⟨i, hin, rfl, HI⟩ := hrel
    clear HI0
    obtain ⟨v, hI⟩ := HI.out.2
    have HR : Hid (LdI w S Z K R (es.take i) v wr ∧ gdS R es i) := ⟨hI, HI.out.1⟩
    obtain ⟨va, vc, hve⟩ := hI.len
    have hil : (es.take i).length = i := by rw [List.length_take, HA.out.2.2.2.2]; omega
    rw [hil] at hve
    subst hve
    clear HI hI hil
    by_cases hlt : i < n
    · have hlt1 : (i : Int) < n := by omega
      obtain ⟨y, hy⟩ : ∃ y, es[i]? = some y := ⟨_, List.getElem?_eq_getElem (by rw [HA.out.2.2.2.2]; exact hlt)⟩
      obtain ⟨b, off, rfl, hbl, hc, hly⟩ := (HA.out.1.below HR.out.1.bel).2 i y hy
      have HC : Hid (∀ z, Below wr.heap.size wr z → ∀ q, q < 7 → z.cell? ⟨b, off + i * 7 + q, none⟩ = (encE y)[q]?) := fun z hz q hq => by rw [hz.cell (p := ⟨b, off + i * 7 + q, none⟩) hbl]; exact hc q hq
      have HY : Hid (es[i]? = some y ∧ Lies wr y) := ⟨hy, hly⟩
      have HEND : Hid (∀ (z : Int) (w2 : World), refS R (es.take i) y = z → z ≠ 0 → Below w.heap.size w w2 → LrQ w K R es (.returned (.tuple #[.agg #[.bool false, .int .i64 0, .int .i64 0, .slice none 0 0], .int .i64 (i : Int), .int .i64 z])) w2) := fun z w2 h1 h2 h3 => Or.inl ⟨i, y, z, HY.out.1, h1, h2, HR.out.2, rfl, h3⟩
      clear hy hc hly
      have c0 : wr.cell? ⟨b, off + i * 7, none⟩ = some (.string y.ct) := HC.out wr (Below.refl _ _) 0 (by decide)
      have c1 : wr.cell? ⟨b, off + i * 7 + 1, none⟩ = some (.slice y.tp y.tn y.tc) := HC.out wr (Below.refl _ _) 1 (by decide)
      have c2 : wr.cell? ⟨b, off + i * 7 + 2, none⟩ = some (.int .i64 y.nu) := HC.out wr (Below.refl _ _) 2 (by decide)
      have c3 : wr.cell? ⟨b, off + i * 7 + 3, none⟩ = some (.int .i64 y.tk) := HC.out wr (Below.refl _ _) 3 (by decide)
      have c4 : wr.cell? ⟨b, off + i * 7 + 4, none⟩ = some (.slice y.cp y.cn y.cc) := HC.out wr (Below.refl _ _) 4 (by decide)
      have c5 : wr.cell? ⟨b, off + i * 7 + 5, none⟩ = some (.string y.cd) := HC.out wr (Below.refl _ _) 5 (by decide)
      have c6 : wr.cell? ⟨b, off + i * 7 + 6, none⟩ = some (.slice y.ap y.an y.ac) := HC.out wr (Below.refl _ _) 6 (by decide)
      have hmb := rMayBe_any y wr
      go_wp2_with fail
      refine hmb.mono ?_
      rintro _ w2 ⟨rfl, b2⟩
      have HB2 : Hid (Below wr.heap.size wr w2) := b2
      have hI2 := HR.out.1.below b2
      have cS := hcell hI2.res
      have fS := hfroz hI2.res
      have HW2 : Hid (Below w.heap.size w w2 ∧ w.heap.size ≤ S) := ⟨hI2.bel, hI2.lS⟩
      clear hmb b2 c0 c1 c2 c3 c4 c5 c6 hI2
      cases hm : mayB y with
      | false =>
        have HZ : Hid (∀ w3, Below w.heap.size w w3 → LrQ w K R es (.returned (.tuple #[.agg #[.bool false, .int .i64 0, .int .i64 0, .slice none 0 0], .int .i64 (i : Int), .int .i64 300])) w3) := fun w3 h3 => HEND.out 300 w3 (ref300a hm) (by decide) h3
        clear hm HEND
        go_wp2_with fail
        refine bodyPost_ret (v := .tuple #[.agg #[.bool false, .int .i64 0, .int .i64 0, .slice none 0 0], .int .i64 (i : Int), .int .i64 300]) ?_ rfl (HZ.out _ ?_)
        · simp [results, Tryz.results16, go_sem, cS]
        · have := HW2.out.2
          repeat' (first | (with_reducible exact HW2.out.1) | (with_reducible refine Below.setCell ?_ (by assumption) _))
      | true =>
        have HM : Hid (mayB y = true) := hm
        have c0 : w2.cell? ⟨b, off + i * 7, none⟩ = some (.string y.ct) := HC.out w2 HB2.out 0 (by decide)
        have c1 : w2.cell? ⟨b, off + i * 7 + 1, none⟩ = some (.slice y.tp y.tn y.tc) := HC.out w2 HB2.out 1 (by decide)
        have c2 : w2.cell? ⟨b, off + i * 7 + 2, none⟩ = some (.int .i64 y.nu) := HC.out w2 HB2.out 2 (by decide)
        have c3 : w2.cell? ⟨b, off + i * 7 + 3, none⟩ = some (.int .i64 y.tk) := HC.out w2 HB2.out 3 (by decide)
        have c4 : w2.cell? ⟨b, off + i * 7 + 4, none⟩ = some (.slice y.cp y.cn y.cc) := HC.out w2 HB2.out 4 (by decide)
        have c5 : w2.cell? ⟨b, off + i * 7 + 5, none⟩ = some (.string y.cd) := HC.out w2 HB2.out 5 (by decide)
        have c6 : w2.cell? ⟨b, off + i * 7 + 6, none⟩ = some (.slice y.ap y.an y.ac) := HC.out w2 HB2.out 6 (by decide)
        have hI2 := HR.out.1.below HB2.out
        obtain ⟨ls, g1, g2, g3⟩ := hI2.ex
        have hbf := lbefore_any (hcell hI2.blk 3) g1 y.tk (by rw [g3.1, List.length_take]; have := HA.out.2.1; omega)
        rw [bf_eq hm, g3.last_eq] at hbf
        clear hm g1 g2 g3 hI2
        go_wp2_with fail
        refine hbf.mono ?_
        rintro _ w3 ⟨rfl, b3⟩
        have HB3 : Hid (Below wr.heap.size wr w3) := below_then HB2.out b3
        have hI3 := HR.out.1.below HB3.out
        have cS := hcell hI3.res
        have fS := hfroz hI3.res
        have HW3 : Hid (Below w.heap.size w w3 ∧ w.heap.size ≤ S) := ⟨hI3.bel, hI3.lS⟩
        clear hbf b3 HB2 HW2 c0 c1 c2 c3 c4 c5 c6
        cases hb : decide (y.tk < lastT (es.take i)) with
        | true =>
          have HZ : Hid (∀ w3, Below w.heap.size w w3 → LrQ w K R es (.returned (.tuple #[.agg #[.bool false, .int .i64 0, .int .i64 0, .slice none 0 0], .int .i64 (i : Int), .int .i64 300])) w3) := fun w3 h3 => HEND.out 300 w3 (ref300b hb) (by decide) h3
          clear hb HEND hI3
          go_wp2_with fail
          refine bodyPost_ret (v := .tuple #[.agg #[.bool false, .int .i64 0, .int .i64 0, .slice none 0 0], .int .i64 (i : Int), .int .i64 300]) ?_ rfl (HZ.out _ ?_)
          · simp [results, Tryz.results16, go_sem, cS]
          · have := HW3.out.2
            repeat' (first | (with_reducible exact HW3.out.1) | (with_reducible refine Below.setCell ?_ (by assumption) _))
        | false =>
          have HBB : Hid (decide (y.tk < lastT (es.take i)) = false) := hb
          clear hb
          have c0 : w3.cell? ⟨b, off + i * 7, none⟩ = some (.string y.ct) := HC.out w3 HB3.out 0 (by decide)
          have c1 : w3.cell? ⟨b, off + i * 7 + 1, none⟩ = some (.slice y.tp y.tn y.tc) := HC.out w3 HB3.out 1 (by decide)
          have c2 : w3.cell? ⟨b, off + i * 7 + 2, none⟩ = some (.int .i64 y.nu) := HC.out w3 HB3.out 2 (by decide)
          have c3 : w3.cell? ⟨b, off + i * 7 + 3, none⟩ = some (.int .i64 y.tk) := HC.out w3 HB3.out 3 (by decide)
          have c4 : w3.cell? ⟨b, off + i * 7 + 4, none⟩ = some (.slice y.cp y.cn y.cc) := HC.out w3 HB3.out 4 (by decide)
          have c5 : w3.cell? ⟨b, off + i * 7 + 5, none⟩ = some (.string y.cd) := HC.out w3 HB3.out 5 (by decide)
          have c6 : w3.cell? ⟨b, off + i * 7 + 6, none⟩ = some (.slice y.ap y.an y.ac) := HC.out w3 HB3.out 6 (by decide)
          obtain ⟨ls, g1, g2, g3⟩ := hI3.ex
          have hat := lat_any (hcell hI3.blk 3) g1 y.ct (by rw [g3.1, List.length_take]; have := HA.out.2.1; omega)
          rw [show fiI y.ct ls = fiI y.ct (es.take i) by unfold fiI; rw [g3.fi_eq]] at hat
          have hop := lopen_row (hcell hI3.blk 3) g1 (by rw [g3.1, List.length_take]; have := HA.out.2.1; omega)
          rw [g3.op_eq] at hop
          have z3 := hcell hI3.blk 3
          have lZ := blk_lt hI3.blk
          have HI3 : Hid (LdI w S Z K R (es.take i) (.slice va i vc) w3) := hI3
          clear g1 g2 g3 hI3
          go_wp2_with fail
          refine hat.mono ?_
          rintro _ w9 ⟨rfl, h9⟩
          subst w9
          clear hat
          cases hf : fi y.ct (es.take i) with
          | some k =>
            have hk0 : fiI y.ct (es.take i) = (k : Int) := by unfold fiI; rw [hf]
            rw [hk0]
            have hk1 : (k : Int) ≥ 0 := by omega
            have HZ : Hid (∀ w3, Below w.heap.size w w3 → LrQ w K R es (.returned (.tuple #[.agg #[.bool false, .int .i64 0, .int .i64 0, .slice none 0 0], .int .i64 (i : Int), .int .i64 6])) w3) := fun w3 h3 => HEND.out 6 w3 (ref6 HM.out HBB.out (by rw [hf]; rfl)) (by decide) h3
            clear hf hk0 HEND hop
            go_wp2_with fail
            refine bodyPost_ret (v := .tuple #[.agg #[.bool false, .int .i64 0, .int .i64 0, .slice none 0 0], .int .i64 (i : Int), .int .i64 6]) ?_ rfl (HZ.out _ ?_)
            · simp [results, Tryz.results16, go_sem, cS]
            · have := HW3.out.2
              repeat' (first | (with_reducible exact HW3.out.1) | (with_reducible refine Below.setCell ?_ (by assumption) _))
          | none =>
            have hk0 : fiI y.ct (es.take i) = -1 := fiI_neg hf
            rw [hk0]
            have HFF : Hid ((fi y.ct (es.take i)).isSome = false) := by unfold Hid; rw [hf]; rfl
            obtain ⟨m, hmm⟩ : ∃ m, nOp (es.take i) = m := ⟨_, rfl⟩
            rw [hmm] at hop
            have HMM : Hid (nOp (es.take i) = m) := hmm
            have HTW : Hid (∀ z, Below w3.heap.size w3 z → Calls Tryz.prog 50 #[.agg #[.string y.ct, .slice y.tp y.tn y.tc, .int .i64 y.nu, .int .i64 y.tk, .slice y.cp y.cn y.cc, .string y.cd, .slice y.ap y.an y.ac]] z fun r z' => ∃ a c a' c' a'' c'' a2 n2 c2 W2, r = .returned (.agg #[.string y.ct, .slice a y.tn c, .int .i64 y.nu, .int .i64 y.tk, .slice a' y.cn c', .string y.cd, .slice a'' y.an c'']) ∧ (Builtin.append_ #[22, 22] 22 #[.slice va i vc, .slice (some ⟨z'.heap.size, 0, none⟩) 1 1]).run Tryz.prog (z'.alloc (.cells #[.string y.ct, .slice a y.tn c, .int .i64 y.nu, .int .i64 y.tk, .slice a' y.cn c', .string y.cd, .slice a'' y.an c''] 30)) = .ok (.slice a2 n2 c2) W2 ∧ z'.cell? ⟨Z, 3, none⟩ = some (.slice va i vc) ∧ (z'.alloc (.cells #[.string y.ct, .slice a y.tn c, .int .i64 y.nu, .int .i64 y.tk, .slice a' y.cn c', .string y.cd, .slice a'' y.an c''] 30)).cell? ⟨Z, 3, none⟩ = some (.slice va i vc) ∧ W2.cell? ⟨Z, 3, none⟩ = some (.slice va i vc) ∧ W2.frozen? ⟨Z, 3, none⟩ = false ∧ Hid (LdI w S Z K R (es.take i ++ [y.wi a c a' c' a'' c'']) (.slice a2 n2 c2) (W2.setCell ⟨Z, 3, none⟩ (.slice a2 n2 c2)))) := fun z hz => by
              have hmi := mayB_is HM.out
              refine (rtwin_any y z (HY.out.2.below (below_then HB3.out hz)) (by omega) (by omega) (by omega)).mono ?_
              rintro r z' ⟨a, c, a', c', a'', c'', e1, e2, e3⟩
              obtain ⟨a2, n2, c2, W2, q1, q2, q3, q4, q5, q6⟩ := HI3.out.step (e := y.wi a c a' c' a'' c'') (e2.base hz.size) (below_then hz e3) (by rw [List.length_take]; have := HA.out.2.1; omega)
              exact ⟨a, c, a', c', a'', c'', a2, n2, c2, W2, e1, q1, q2, q3, q4, q5, q6⟩
            have HGO : Hid (refS R (es.take i) y = 0 → ∀ a c a' c' a'' c'' v w4, LdI w S Z K R (es.take i ++ [y.wi a c a' c' a'' c'']) v w4 → gdS R es (i + 1) ∧ ∃ v, LdI w S Z K R (es.take (i + 1)) v w4) := fun h0 a c a' c' a'' c'' v w4 h4 => ⟨gd_succ HR.out.2 HY.out.1 h0, v, by
              obtain ⟨ls, e1, e2, e3⟩ := h4.ex
              refine ⟨h4.blk, h4.res, ⟨ls, e1, e2, ?_⟩, h4.bel, h4.lS, h4.lZ⟩
              rw [take_one HY.out.1]
              exact e3.trans ((Tws.refl (es.take i)).snoc (Tw.symm ⟨a, c, a', c', a'', c'', rfl⟩))⟩
            clear hf hk0 hmm
            cases hd : y.cd.toList.isEmpty with
            | false =>
              have HG0 : Hid (refS R (es.take i) y = 0) := ref0 HM.out HBB.out HFF.out (by unfold opB; rw [hd]; rfl)
              clear HEND hop HI3
              go_upto_region 14 with fail
              go_region_law (first | (go_simp; go_at_call 50; refine (HTW.out _ ?_).mono ?_; (first | exact Below.refl _ _ | exact (Below.refl _ _).drew); rintro _ y1 ⟨a1, k1, a3, k3, a5, k5, a2, n2, c2', W2, rfl, hap, g1, g2, g3, g4, HN2⟩; go_wp2_with fail) | (refine step_app_run rfl (.tmp 71) (.tmp 77) 22 rfl rfl rfl hap ?_))
              all_goals
                have HNX : Hid (gdS R es (i + 1) ∧ ∃ v, LdI w S Z K R (es.take (i + 1)) v (W2.setCell ⟨Z, 3, none⟩ (.slice a2 n2 c2'))) := HGO.out HG0.out _ _ _ _ _ _ _ _ HN2.out
                go_wp2_with fail
                go_roundw
                case rel => exact ⟨i + 1, hlt, by go_num, HNX⟩
                case measure => simp [intOf]; omega
            | true =>
              by_cases hr : (m : Int) = R
              · have hr1 : ((m : Int) == R) = true := by simpa using hr
                have HZ : Hid (∀ w3, Below w.heap.size w w3 → LrQ w K R es (.returned (.tuple #[.agg #[.bool false, .int .i64 0, .int .i64 0, .slice none 0 0], .int .i64 (i : Int), .int .i64 7])) w3) := fun w3 h3 => HEND.out 7 w3 (ref7 HM.out HBB.out HFF.out (by unfold opB; rw [hd, HMM.out, decide_eq_true hr]; rfl)) (by decide) h3
                clear HEND hr HI3
                go_wp2_with fail
                refine hop.mono ?_
                rintro _ w9 ⟨rfl, h9⟩
                subst w9
                clear hop
                go_wp2_with fail
                refine bodyPost_ret (v := .tuple #[.agg #[.bool false, .int .i64 0, .int .i64 0, .slice none 0 0], .int .i64 (i : Int), .int .i64 7]) ?_ rfl (HZ.out _ ?_)
                · simp [results, Tryz.results16, go_sem, cS]
                · have := HW3.out.2
                  repeat' (first | (with_reducible exact HW3.out.1) | (with_reducible refine Below.setCell ?_ (by assumption) _))
              · have hr1 : ((m : Int) == R) = false := by simpa using hr
                have HG0 : Hid (refS R (es.take i) y = 0) := ref0 HM.out HBB.out HFF.out (by unfold opB; rw [hd, HMM.out, decide_eq_false hr]; rfl)
                clear HEND hr HI3
                go_wp2_with fail
                refine hop.mono ?_
                rintro _ w9 ⟨rfl, h9⟩
                subst w9
                clear hop
                go_upto_region 14 with fail
                go_region_law (first | (go_simp; go_at_call 50; refine (HTW.out _ ?_).mono ?_; (first | exact Below.refl _ _ | exact (Below.refl _ _).drew); rintro _ y1 ⟨a1, k1, a3, k3, a5, k5, a2, n2, c2', W2, rfl, hap, g1, g2, g3, g4, HN2⟩; go_wp2_with fail) | (refine step_app_run rfl (.tmp 71) (.tmp 77) 22 rfl rfl rfl hap ?_))
                all_goals
                  have HNX : Hid (gdS R es (i + 1) ∧ ∃ v, LdI w S Z K R (es.take (i + 1)) v (W2.setCell ⟨Z, 3, none⟩ (.slice a2 n2 c2'))) := HGO.out HG0.out _ _ _ _ _ _ _ _ HN2.out
                  go_wp2_with fail
                  go_roundw
                  case rel => exact ⟨i + 1, hlt, by go_num, HNX⟩
                  case measure => simp [intOf]; omega
    · have hlt1 : ¬ (i : Int) < n := by omega
      obtain rfl : i = n := by omega
      have het : es.take i = es := List.take_of_length_le (by rw [HA.out.2.2.2.2]; exact Nat.le_refl _)
      have HF : Hid (LdI w S Z K R es (.slice va i vc) wr ∧ gdS R es es.length) := ⟨by have := HR.out.1; rw [het] at this; exact this, by rw [HA.out.2.2.2.2]; exact HR.out.2⟩
      clear HR het
      obtain ⟨ls, g1, g2, g3⟩ := HF.out.1.ex
      have hop := lopen_row (hcell HF.out.1.blk 3) g1 (by rw [g3.1]; have := HA.out.2.1; have := HA.out.2.2.2.2; omega)
      rw [g3.op_eq] at hop
      have hno := nOp_add es
      rw [HA.out.2.2.2.2] at hno
      obtain ⟨q, hq0⟩ : ∃ q, nOp es = q := ⟨_, rfl⟩
      rw [hq0] at hop hno
      have hsub : IntKind.i64.wrap ((i : Int) - (q : Int)) = (nDc es : Int) := by rw [IntKind.wrap_i64]; omega
      have HMany : Hid (manyB K es = decide ((nDc es : Int) > K + 1)) := rfl
      obtain ⟨dn, hdn⟩ : ∃ d, (nDc es : Int) = d := ⟨_, rfl⟩
      rw [hdn] at hsub HMany
      have HDN : Hid ((nDc es : Int) = dn) := hdn
      clear g1 g2 g3 hno hq0 hdn
      go_wp2_with fail
      refine hop.mono ?_
      rintro _ w9 ⟨rfl, h9⟩
      subst w9
      clear hop
      obtain ⟨U, rfl⟩ : ∃ U, U = wr := ⟨_, rfl⟩
      go_wp2_with fail
      go_loopw [14] (fun t wx => ∃ j : Nat, j ≤ i ∧ t = .int .i64 j ∧ wx = U ∧ Hid (manyB K es = true → ∀ k y, k < j → es[k]? = some y → dcB y = false)) (fun t _ => i - (intOf t).toNat)
      case atStart => exact ⟨0, Nat.zero_le _, rfl, rfl, fun _ k y hk => by omega⟩
      case round =>
        obtain ⟨j, hj, rfl, hw, HJ⟩ := hrel
        subst hw
        have cS := hcell HF.out.1.res
        have fS := hfroz HF.out.1.res
        by_cases hltj : j < i
        · have hltj1 : (j : Int) < i := by omega
          obtain ⟨y, hy⟩ : ∃ y, es[j]? = some y := ⟨_, List.getElem?_eq_getElem (by rw [HA.out.2.2.2.2]; exact hltj)⟩
          obtain ⟨b, off, rfl, hbl, hc, hly⟩ := (HA.out.1.below HF.out.1.bel).2 j y hy
          have c5 : wr.cell? ⟨b, off + j * 7 + 5, none⟩ = some (.string y.cd) := hc 5 (by decide)
          have HY : Hid (es[j]? = some y) := hy
          clear hy hc hly
          cases hd : y.cd.toList.isEmpty with
          | true =>
            have HJ2 : Hid (manyB K es = true → ∀ k y, k < j + 1 → es[k]? = some y → dcB y = false) := fun hm k x hk hx => by
              by_cases e : k < j
              · exact HJ.out hm k x e hx
              · obtain rfl : k = j := by omega
                have := HY.out
                rw [hx] at this
                obtain rfl := Option.some.inj this
                unfold dcB; rw [hd]; rfl
            clear HJ cS fS
            go_wp2_with fail
            go_roundw
            case rel => exact ⟨j + 1, hltj, by go_num, by first | rfl | trivial, HJ2⟩
            case measure => simp [intOf]; omega
          | false =>
            by_cases hmny : dn > K + 1
            · have hmt : manyB K es = true := by rw [HMany.out]; exact decide_eq_true hmny
              have HZ : Hid (∀ w3, Below w.heap.size w w3 → LrQ w K R es (.returned (.tuple #[.agg #[.bool false, .int .i64 0, .int .i64 0, .slice none 0 0], .int .i64 (j : Int), .int .i64 301])) w3) := fun w3 h3 => by
                have hfd : fdS es = some j := by
                  obtain ⟨h1, h2⟩ := List.getElem?_eq_some_iff.1 HY.out
                  refine List.findIdx?_eq_some_iff_getElem.2 ⟨h1, by rw [h2]; unfold dcB; rw [hd]; rfl, fun k hk => ?_⟩
                  have := HJ.out hmt k es[k] hk (List.getElem?_eq_getElem (by omega))
                  rw [this]
                  decide
                have hfi : fdI es = (j : Int) := by unfold fdI; rw [hfd]
                exact Or.inr (Or.inl ⟨HF.out.2, hmt, by rw [hfi], h3⟩)
              have HW3 : Hid (Below w.heap.size w wr ∧ w.heap.size ≤ S) := ⟨HF.out.1.bel, HF.out.1.lS⟩
              clear HJ hmt
              go_wp2_with fail
              refine bodyPost_ret (v := .tuple #[.agg #[.bool false, .int .i64 0, .int .i64 0, .slice none 0 0], .int .i64 (j : Int), .int .i64 301]) ?_ rfl (HZ.out _ ?_)
              · simp [results, Tryz.results16, go_sem, cS]
              · have := HW3.out.2
                repeat' (first | (with_reducible exact HW3.out.1) | (with_reducible refine Below.setCell ?_ (by assumption) _))
            · have HJ2 : Hid (manyB K es = true → ∀ k y, k < j + 1 → es[k]? = some y → dcB y = false) := fun hm => by
                rw [HMany.out, decide_eq_false hmny] at hm
                cases hm
              clear HJ cS fS
              go_wp2_with fail
              go_roundw
              case rel => exact ⟨j + 1, hltj, by go_num, by first | rfl | trivial, HJ2⟩
              case measure => simp [intOf]; omega
        · have hltj1 : ¬ (j : Int) < i := by omega
          obtain rfl : j = i := by omega
          have HMF : Hid (manyB K es = false) := by
            unfold Hid
            cases hm : manyB K es with
            | false => rfl
            | true =>
              have h0 : nDc es = 0 := by
                unfold nDc
                rw [List.countP_eq_zero]
                intro x hx
                obtain ⟨k, hk, rfl⟩ := List.getElem_of_mem hx
                rw [HJ.out hm k es[k] (by rw [← HA.out.2.2.2.2]; exact hk) (List.getElem?_eq_getElem hk)]
                decide
              have h1 := HMany.out
              rw [hm] at h1
              have h2 := of_decide_eq_true h1.symm
              have h3 := HDN.out
              have h4 := HA.out.2.2.1
              omega
          have cZ := hcell HF.out.1.blk
          have HZ : Hid (∀ w3, Off (fun q => q = S) wr w3 → LrQ w K R es (.returned (.tuple #[.agg #[.bool true, .int .i64 K, .int .i64 R, .slice va j vc], .int .i64 0, .int .i64 0])) w3) := fun w3 h3 => by
            obtain ⟨ls, g1, g2, g3⟩ := HF.out.1.ex
            have nB : ∀ q cs t, wr.heap[q]? = some (.cells cs t (0, 0)) → t ≠ 43 → ¬ q = S := fun q cs t hc ht e => by
              rw [e, HF.out.1.res] at hc
              simp only [Option.some.injEq, Obj.cells.injEq] at hc
              exact ht hc.2.1.symm
            refine Or.inr (Or.inr ⟨HF.out.2, HMF.out, _, ls, rfl, ERow.off g1 h3 fun g hg => ?_, fun l hl => (g2 l hl).byType h3 fun q cs hc => nB q cs _ hc (by decide), g3, HF.out.1.bel.trans (h3.below HF.out.1.bel.size fun q hq => by subst hq; exact HF.out.1.lS)⟩)
            obtain ⟨cs, hc⟩ := row_type g1 hg
            exact nB g cs _ hc (by decide)
          clear HJ HMany HDN
          go_wp2_with fail
          refine bodyPost_ret (v := .tuple #[.agg #[.bool true, .int .i64 K, .int .i64 R, .slice va j vc], .int .i64 0, .int .i64 0]) ?_ rfl (HZ.out _ ?_)
          · simp [results, Tryz.results16, go_sem, cS]
          · iterate 4 (refine Off.setCell (P := fun q => q = S) ?_ (by exact rfl) _)
            exact Off.refl _ _
end
end Go.Proofs.YtjbkfppibnlmoaaGreatDoor.Lg
