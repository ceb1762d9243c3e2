/-
  The law's 'decided': is the list now what a Decide makes of it?
-/
import Derived.Test.YtnpndbehbcaghaaIbHanded
import Derived.Test.YtnpndbehbcaghaaIbLi
namespace Go.Proofs.Ytnpndbehbcaghaa
open Go.RowKit

/-- Who goes: his place; beyond the list where nobody does. -/
def gnI (K : Int) (es : List Ent) : Nat := if manyB K es = true then (match fdS es with | some i => i | none => es.length) else es.length
theorem gn_shed (K : Int) (es : List Ent) : shedS K es = es.eraseIdx (gnI K es) := by
  have hz : es.eraseIdx es.length = es := List.eraseIdx_of_length_le (Nat.le_refl _)
  unfold shedS gnI
  split
  · cases fdS es with
    | none => simp only; exact hz.symm
    | some i => rfl
  · exact hz.symm
/-- Either nobody goes, or just the one at that place. -/
theorem gn_gone {K : Int} {es : List Ent} (hK : 0 ≤ K) : (goneS K es = [] ∧ gnI K es = es.length) ∨ ∃ g, es[gnI K es]? = some g ∧ dcB g = true ∧ goneS K es = [g.ct] := by
  unfold goneS gnI
  cases hm : manyB K es with
  | false => exact Or.inl ⟨rfl, rfl⟩
  | true =>
    obtain ⟨i, x, h1, h2, h3⟩ := many_fd hK hm
    rw [h1]
    refine Or.inr ⟨x, h2, h3, ?_⟩
    simp only [if_true]
    rw [List.getD_eq_getElem?_getD, h2]
    rfl
/-- The list as far as it was gone through. -/
theorem gn_step {es : List Ent} {f j : Nat} {x : Ent} (hx : es[j]? = some x) : (es.take (j + 1)).eraseIdx f = (es.take j).eraseIdx f ++ (if j = f then [] else [x]) := by
  have hj := (List.getElem?_eq_some_iff.1 hx).1
  have e1 : es.take (j + 1) = es.take j ++ [x] := by
    rw [List.take_succ_eq_append_getElem hj]
    congr 2
    rw [List.getElem?_eq_getElem hj] at hx
    exact Option.some.inj hx
  have hl : (es.take j).length = j := by rw [List.length_take]; omega
  rw [e1]
  by_cases h1 : f < j
  · rw [List.eraseIdx_append_of_lt_length (by omega), if_neg (by omega)]
  · rw [List.eraseIdx_append_of_length_le (by omega), hl, List.eraseIdx_of_length_le (l := es.take j) (by omega)]
    by_cases h2 : j = f
    · subst h2
      rw [Nat.sub_self, if_pos rfl]
      rfl
    · rw [if_neg h2]
      congr 1
      exact List.eraseIdx_of_length_le (by simp; omega)
/-- An entry with that verdict, the answer of the call itself. -/
theorem tw_vd {l m : Ent} (h : Tw l m) (cd : ByteArray) (p p' : Option Addr) (n c c' : Nat) (bs : List Int) : Tw (l.vd cd p n c bs) (m.vd cd p' n c' bs) := by
  obtain ⟨a, c1, a', c1', a'', c1'', rfl⟩ := h
  exact ⟨a, c1, a', c1', p', c', rfl⟩
theorem tws_snoc {ls ms : List Ent} {l m : Ent} (h : Tws ls ms) (h1 : Tw l m) : Tws (ls ++ [l]) (ms ++ [m]) := by
  refine ⟨by simp [h.1], fun i x y hx hy => ?_⟩
  by_cases hi : i < ls.length
  · rw [List.getElem?_append_left hi] at hx
    rw [List.getElem?_append_left (by rw [← h.1]; exact hi)] at hy
    exact h.2 i x y hx hy
  · have hxi := (List.getElem?_eq_some_iff.1 hx).1
    simp only [List.length_append, List.length_singleton] at hxi
    obtain rfl : i = ls.length := by omega
    rw [List.getElem?_append_right (Nat.le_refl _), Nat.sub_self] at hx
    rw [List.getElem?_append_right (by rw [h.1]; exact Nat.le_refl _), h.1, Nat.sub_self] at hy
    simp only [List.getElem?_cons_zero, Option.some.injEq] at hx hy
    subst hx; subst hy
    exact h1
def Sz (l : Ent) : Prop := l.tn ≤ 9223372036854775807 ∧ l.cn ≤ 9223372036854775807 ∧ l.an ≤ 9223372036854775807
/-- In the midst of decided: ws: what was put so far. -/
structure DdI (w : World) (y : Opv) (s : ByteArray) (es1 : List Ent) (f i : Nat) (j : Nat) (v : Value) (hit : Int) (wx : World) : Prop where
  ex : ∃ ws, NRow wx w.heap.size v ws ∧ Tws ws ((es1.take j).eraseIdx f) ∧ (∀ l ∈ ws, Lies w l ∧ Sz l)
  hit : hit = (if i < j then 1 else 0) + (if f < j then 10 else 0)
  bel : Below w.heap.size w wx
  obx : wx.heap[w.heap.size]? = some (.cells #[.int .i64 y.kd, .int .i64 y.of_, .int .i64 y.n, .string y.e.ct, .slice y.e.tp y.e.tn y.e.tc, .int .i64 y.e.nu, .int .i64 y.e.tk, .slice y.e.cp y.e.cn y.e.cc, .string y.e.cd, .slice y.e.ap y.e.an y.e.ac, .string s, .string y.cd, .slice y.ap y.an y.ac] 33 (0, 0))
section
variable {w : World} {Bw Bn Bg : Nat} {aw an' ag : Option Addr} {nw cw nn cn' m cg : Nat} {es lw ln : List Ent} {y : Opv} {x : Ent} {i : Nat} {K : Int} {p : Option Addr} {c : Nat} {s : ByteArray}
set_option maxRecDepth 100000 in
set_option maxHeartbeats 8000000 in
theorem decided_true (hw : NRow w Bw (.slice aw nw cw) lw) (tw : Tws lw es) (kw : ∀ l ∈ lw, Lies w l ∧ Sz l)
    (hn : NRow w Bn (.slice an' nn cn') ln) (tn : Tws ln (shedS K (es.set i (x.vd y.cd p y.an c y.ax)))) (kn : ∀ l ∈ ln, Lies w l ∧ Sz l)
    (hg : TRow w Bg (.slice ag m cg) (goneS K (es.set i (x.vd y.cd p y.an c y.ax)))) (hK : 0 ≤ K) (hl : es.length ≤ 1000)
    (hd : Dis es) (hx : es[i]? = some x) (hs : x.ct = s) (ho : opB x = true) (hv : vdB y.cd = true) (hby : Byts w y.ap y.an y.ax) (hsz : y.an ≤ 9223372036854775807) :
    Calls Try.prog 14 #[.slice aw nw cw, .slice an' nn cn', .slice ag m cg, .agg #[.int .i64 y.kd, .int .i64 y.of_, .int .i64 y.n, .string y.e.ct, .slice y.e.tp y.e.tn y.e.tc, .int .i64 y.e.nu, .int .i64 y.e.tk, .slice y.e.cp y.e.cn y.e.cc, .string y.e.cd, .slice y.e.ap y.e.an y.e.ac, .string s, .string y.cd, .slice y.ap y.an y.ac]] w fun r w' => r = .returned (.bool true) ∧ Below w.heap.size w w' := by
  obtain ⟨es1, he1⟩ : ∃ es1, es.set i (x.vd y.cd p y.an c y.ax) = es1 := ⟨_, rfl⟩
  rw [he1] at tn hg
  have hlen1 : es1.length = es.length := by rw [← he1, List.length_set]
  have hnw : nw = es.length := by rw [ERow.len hw, tw.1]
  have hd1 : Dis es1 := by rw [← he1]; exact hd.set hx rfl
  have hil := (List.getElem?_eq_some_iff.1 hx).1
  obtain ⟨f, hf⟩ : ∃ f, gnI K es1 = f := ⟨_, rfl⟩
  have hgn := gn_gone (es := es1) hK
  rw [gn_shed] at tn
  rw [hf] at hgn tn
  have hne : (y.cd.toList.isEmpty) = false := by
    cases he : y.cd.toList with
    | nil => unfold vdB at hv; rw [he] at hv; simp at hv
    | cons a r => rfl
  have bv : Below w.heap.size w (w.alloc (.cells #[.int .i64 y.kd, .int .i64 y.of_, .int .i64 y.n, .string y.e.ct, .slice y.e.tp y.e.tn y.e.tc, .int .i64 y.e.nu, .int .i64 y.e.tk, .slice y.e.cp y.e.cn y.e.cc, .string y.e.cd, .slice y.e.ap y.e.an y.e.ac, .string s, .string y.cd, .slice y.ap y.an y.ac] 33)) := (Below.refl _ _).alloc (Nat.le_refl _) _
  have bx := Box.new w #[.int .i64 y.kd, .int .i64 y.of_, .int .i64 y.n, .string y.e.ct, .slice y.e.tp y.e.tn y.e.tc, .int .i64 y.e.nu, .int .i64 y.e.tk, .slice y.e.cp y.e.cn y.e.cc, .string y.e.cd, .slice y.e.ap y.e.an y.e.ac, .string s, .string y.cd, .slice y.ap y.an y.ac] 33
  obtain ⟨V, hV⟩ : ∃ V, w.alloc (.cells #[.int .i64 y.kd, .int .i64 y.of_, .int .i64 y.n, .string y.e.ct, .slice y.e.tp y.e.tn y.e.tc, .int .i64 y.e.nu, .int .i64 y.e.tk, .slice y.e.cp y.e.cn y.e.cc, .string y.e.cd, .slice y.e.ap y.e.an y.e.ac, .string s, .string y.cd, .slice y.ap y.an y.ac] 33) = V := ⟨_, rfl⟩
  rw [hV] at bv bx
  obtain ⟨ob, hob⟩ : ∃ ob, w.heap.size = ob := ⟨_, rfl⟩
  have HX : Hid (Box V ob #[.int .i64 y.kd, .int .i64 y.of_, .int .i64 y.n, .string y.e.ct, .slice y.e.tp y.e.tn y.e.tc, .int .i64 y.e.nu, .int .i64 y.e.tk, .slice y.e.cp y.e.cn y.e.cc, .string y.e.cd, .slice y.e.ap y.e.an y.e.ac, .string s, .string y.cd, .slice y.ap y.an y.ac]) := by unfold Hid; rw [← hob]; exact bx
  have HA : Hid (NRow w Bw (.slice aw nw cw) lw ∧ Tws lw es ∧ (∀ l ∈ lw, Lies w l ∧ Sz l) ∧ NRow w Bn (.slice an' nn cn') ln ∧ Tws ln (es1.eraseIdx f) ∧ (∀ l ∈ ln, Lies w l ∧ Sz l) ∧ TRow w Bg (.slice ag m cg) (goneS K es1) ∧ Dis es ∧ es[i]? = some x ∧ x.ct = s ∧ opB x = true ∧ Byts w y.ap y.an y.ax ∧ Dis es1 ∧ y.an ≤ 9223372036854775807) := ⟨hw, tw, kw, hn, tn, kn, hg, hd, hx, hs, ho, hby, hd1, hsz⟩
  have HE : Hid (es.set i (x.vd y.cd p y.an c y.ax) = es1) := he1
  have HG : Hid ((goneS K es1 = [] ∧ f = es1.length) ∨ ∃ g, es1[f]? = some g ∧ dcB g = true ∧ goneS K es1 = [g.ct]) := hgn
  have HB0 : Hid (Below w.heap.size w V) := bv
  have HNW : Hid (nw = es.length ∧ es1.length = es.length) := ⟨hnw, hlen1⟩
  have hn6 : nw ≤ 1000 := by omega
  have HM : Hid (m = (goneS K es1).length) := ERow.len hg
  have hm1 : m ≤ 1 := by
    rcases hgn with ⟨h1, _⟩ | ⟨g, _, _, h1⟩
    · rw [HM.out, h1]; decide
    · rw [HM.out, h1]; exact Nat.le_refl _
  have HOB : Hid (w.heap.size = ob) := hob
  have H0 : Hid (DdI w y s es1 f i 0 (.slice none 0 0) 0 V) := ⟨⟨[], ERow.nil _ _ _ _ _, by simp [Tws], fun l hl => (by cases hl)⟩, by simp, bv, by rw [← hV]; exact heap_alloc_new w _⟩
  clear hw tw kw hn tn kn hg hd hx hs ho hby hd1 he1 hgn bv bx hf hlen1 hnw hv hil hsz
  go_enter Try.func14, Try.ntmps14
  go_wp2_with fail
  clear hV hob
  go_loopw [9, 10, 11] (fun t9 t10 t11 wx => ∃ (j : Nat) (h : Int), j ≤ nw ∧ t11 = .int .i64 j ∧ t10 = .int .i64 h ∧ Hid (DdI w y s es1 f i j t9 h wx)) (fun _ _ t11 _ => nw - (intOf t11).toNat)
  case atStart => exact ⟨0, 0, Nat.zero_le _, rfl, rfl, H0⟩
  case round =>
    obtain ⟨j, h, hj, rfl, rfl, HI⟩ := hrel
    have cy := hcell HI.out.obx
    have loy := blk_lt HI.out.obx
    rw [HOB.out] at cy loy
    by_cases hlt : j < nw
    · have hlt1 : (j : Int) < nw := by omega
      obtain ⟨l, hl⟩ : ∃ l, lw[j]? = some l := ⟨_, List.getElem?_eq_getElem (by rw [← ERow.len HA.out.1]; exact hlt)⟩
      obtain ⟨e, he⟩ : ∃ e, es[j]? = some e := ⟨_, List.getElem?_eq_getElem (by rw [← HNW.out.1]; exact hlt)⟩
      have htw := HA.out.2.1.2 j l e hl he
      obtain ⟨g, rfl, hg, hc⟩ := nrow_cells (HA.out.1.below HI.out.bel) hl
      obtain ⟨d0, d1, d2, d3, d4, d5, d6⟩ := hc
      have hll := HA.out.2.2.1 l (List.mem_of_getElem? hl)
      have hcte : l.ct = e.ct ∧ l.cd = e.cd := by obtain ⟨_, _, _, _, _, _, rfl⟩ := htw; exact ⟨rfl, rfl⟩
      by_cases hji : j = i
      · have hex : e = x := by
          rw [hji, HA.out.2.2.2.2.2.2.2.2.1] at he
          exact (Option.some.inj he).symm
        have t0 : (l.ct.toList == s.toList) = true := by
          rw [hcte.1, hex, HA.out.2.2.2.2.2.2.2.2.2.1]
          exact str_same _
        have t9 : l.cd.toList.isEmpty = true := by
          rw [hcte.2, hex]
          exact HA.out.2.2.2.2.2.2.2.2.2.2.1
        have HX1 : Hid (es1[j]? = some (x.vd y.cd p y.an c y.ax) ∧ Tw (l.vd y.cd y.ap y.an y.ac y.ax) (x.vd y.cd p y.an c y.ax)) := by
          refine ⟨?_, tw_vd (hex ▸ htw) _ _ _ _ _ _ _⟩
          rw [← HE.out, hji, List.getElem?_set_self (List.getElem?_eq_some_iff.1 HA.out.2.2.2.2.2.2.2.2.1).1]
        have HYL : Hid (Lies w (l.vd y.cd y.ap y.an y.ac y.ax) ∧ Sz (l.vd y.cd y.ap y.an y.ac y.ax)) := ⟨⟨hll.1.t, hll.1.c, HA.out.2.2.2.2.2.2.2.2.2.2.2.1⟩, hll.2.1, hll.2.2.1, HA.out.2.2.2.2.2.2.2.2.2.2.2.2.2⟩
        have HHP : Hid (h + 1 = (if i < j + 1 then 1 else 0) + (if f < j then 10 else 0)) := by
          unfold Hid
          rw [HI.out.hit, hji, if_neg (Nat.lt_irrefl i), if_pos (Nat.lt_succ_self i)]
          omega
        have hhb : 0 ≤ h ∧ h ≤ 11 := by
          rw [HI.out.hit]
          constructor <;> (split <;> split <;> decide)
        have q1 : IntKind.i64.wrap (h + 1) = h + 1 := by rw [IntKind.wrap_i64]; omega
        have HJI : Hid (j = i) := hji
        clear hl he htw hll hcte hg hex hji
        have bV5 : Below wr.heap.size wr (wr.alloc (.cells #[.string (l.vd y.cd y.ap y.an y.ac y.ax).ct, .slice (l.vd y.cd y.ap y.an y.ac y.ax).tp (l.vd y.cd y.ap y.an y.ac y.ax).tn (l.vd y.cd y.ap y.an y.ac y.ax).tc, .int .i64 (l.vd y.cd y.ap y.an y.ac y.ax).nu, .int .i64 (l.vd y.cd y.ap y.an y.ac y.ax).tk, .slice (l.vd y.cd y.ap y.an y.ac y.ax).cp (l.vd y.cd y.ap y.an y.ac y.ax).cn (l.vd y.cd y.ap y.an y.ac y.ax).cc, .string (l.vd y.cd y.ap y.an y.ac y.ax).cd, .slice (l.vd y.cd y.ap y.an y.ac y.ax).ap (l.vd y.cd y.ap y.an y.ac y.ax).an (l.vd y.cd y.ap y.an y.ac y.ax).ac] 31)) := (Below.refl _ _).alloc (Nat.le_refl _) _
        have bx5 := Box.new wr #[.string (l.vd y.cd y.ap y.an y.ac y.ax).ct, .slice (l.vd y.cd y.ap y.an y.ac y.ax).tp (l.vd y.cd y.ap y.an y.ac y.ax).tn (l.vd y.cd y.ap y.an y.ac y.ax).tc, .int .i64 (l.vd y.cd y.ap y.an y.ac y.ax).nu, .int .i64 (l.vd y.cd y.ap y.an y.ac y.ax).tk, .slice (l.vd y.cd y.ap y.an y.ac y.ax).cp (l.vd y.cd y.ap y.an y.ac y.ax).cn (l.vd y.cd y.ap y.an y.ac y.ax).cc, .string (l.vd y.cd y.ap y.an y.ac y.ax).cd, .slice (l.vd y.cd y.ap y.an y.ac y.ax).ap (l.vd y.cd y.ap y.an y.ac y.ax).an (l.vd y.cd y.ap y.an y.ac y.ax).ac] 31
        go_wp2_with fail
        generalize wr.alloc (.cells #[.string (l.vd y.cd y.ap y.an y.ac y.ax).ct, .slice (l.vd y.cd y.ap y.an y.ac y.ax).tp (l.vd y.cd y.ap y.an y.ac y.ax).tn (l.vd y.cd y.ap y.an y.ac y.ax).tc, .int .i64 (l.vd y.cd y.ap y.an y.ac y.ax).nu, .int .i64 (l.vd y.cd y.ap y.an y.ac y.ax).tk, .slice (l.vd y.cd y.ap y.an y.ac y.ax).cp (l.vd y.cd y.ap y.an y.ac y.ax).cn (l.vd y.cd y.ap y.an y.ac y.ax).cc, .string (l.vd y.cd y.ap y.an y.ac y.ax).cd, .slice (l.vd y.cd y.ap y.an y.ac y.ax).ap (l.vd y.cd y.ap y.an y.ac y.ax).an (l.vd y.cd y.ap y.an y.ac y.ax).ac] 31) = V5 at bV5 bx5 ⊢
        obtain ⟨lb, hlb⟩ : ∃ lb, wr.heap.size = lb := ⟨_, rfl⟩
        have cx := bx5.cell
        rw [hlb] at cx ⊢
        have HLB : Hid (wr.heap.size = lb) := hlb
        clear d0 d1 d2 d3 d4 d5 d6 bx5 hlb
        rcases HG.out with ⟨hg0, hfl⟩ | ⟨gg, hgx, hgd, hgo⟩
        · have hm0 : m = 0 := by rw [HM.out, hg0]; rfl
          have hjf : ¬ j = f := by have := HNW.out; omega
          subst hm0
          have HJF : Hid (¬ j = f) := hjf
          obtain ⟨ws, n1, n2, n3⟩ := HI.out.ex
          have n1' := n1.below bV5
          obtain ⟨a9, c9, e9, _⟩ := ERow.isSlice n1
          have hwl : ws.length ≤ 1000000 := by
            have h1 := n2.1
            have h2 := List.length_eraseIdx_le (es1.take j) f
            rw [List.length_take] at h2
            omega
          have bD : ∀ k, Below wr.heap.size wr (V5.drewN k) := fun k => below_drewN bV5 k
          have hap0 := fun k => run_epush (P := Try.prog) (t := 34) Try.underlying34 celE encE_len encE_one (w := V5.drewN k) (n1.below (bD k)) ((l.vd y.cd y.ap y.an y.ac y.ax)) #[.string (l.vd y.cd y.ap y.an y.ac y.ax).ct, .slice (l.vd y.cd y.ap y.an y.ac y.ax).tp (l.vd y.cd y.ap y.an y.ac y.ax).tn (l.vd y.cd y.ap y.an y.ac y.ax).tc, .int .i64 (l.vd y.cd y.ap y.an y.ac y.ax).nu, .int .i64 (l.vd y.cd y.ap y.an y.ac y.ax).tk, .slice (l.vd y.cd y.ap y.an y.ac y.ax).cp (l.vd y.cd y.ap y.an y.ac y.ax).cn (l.vd y.cd y.ap y.an y.ac y.ax).cc, .string (l.vd y.cd y.ap y.an y.ac y.ax).cd, .slice (l.vd y.cd y.ap y.an y.ac y.ax).ap (l.vd y.cd y.ap y.an y.ac y.ax).an (l.vd y.cd y.ap y.an y.ac y.ax).ac] rfl (by omega) (by decide) (Nat.le_trans HI.out.bel.size (bD k).size)
          go_quiet (fail)
          obtain ⟨a2, c2, W2, hap, r2, o2, _⟩ := hap0 nq
          have HI3 : Hid (DdI w y s es1 f i (j + 1) (.slice a2 (ws.length + 1) c2) ((h + 1)) W2) := by
            have b2 : Below w.heap.size w W2 := (below_then HI.out.bel (bD nq)).trans (o2.below (Nat.le_trans HI.out.bel.size (bD nq).size) fun q hq => (n1.lt hq).1)
            refine ⟨⟨ws ++ [(l.vd y.cd y.ap y.an y.ac y.ax)], r2, ?_, fun l' hl' => ?_⟩, ?_, b2, ?_⟩
            · rw [gn_step HX1.out.1, if_neg HJF.out]
              exact tws_snoc n2 HX1.out.2
            · rcases List.mem_append.1 hl' with g1 | g1
              · exact n3 l' g1
              · obtain rfl : l' = (l.vd y.cd y.ap y.an y.ac y.ax) := by simpa using g1
                exact HYL.out
            · rw [HHP.out]
              have := HJF.out
              congr 1
              by_cases h1 : f < j
              · rw [if_pos h1, if_pos (by omega)]
              · rw [if_neg h1, if_neg (by omega)]
            · have hb9 := (bD nq).block _ (blk_lt HI.out.obx)
              refine (o2.block _ (Nat.lt_of_lt_of_le (blk_lt HI.out.obx) (bD nq).size) fun e2 => ?_).trans (hb9.trans HI.out.obx)
              obtain ⟨cs', h1⟩ := row_type n1 e2
              rw [HI.out.obx] at h1
              simp at h1
          rw [e9] at hap ⊢
          clear n1 n2 n3 n1' hap0 r2 o2 bD e9
          go_wp2_with (at_builtin; refine wpList_append_run rfl (.tmp 59) (.tmp 61) 34 _ rfl hap ?_)
          go_roundw
          case rel => exact ⟨j + 1, _, hlt, by go_num, rfl, HI3⟩
          case measure => simp [intOf]; omega
        · have hm1 : m = 1 := by rw [HM.out, hgo]; rfl
          subst hm1
          have htg := HA.out.2.2.2.2.2.2.1
          rw [hgo] at htg
          obtain ⟨gb, st, rfl, hst, hcg⟩ := trow_at (htg.below (below_then HI.out.bel bV5)) (j := 0) (by decide)
          obtain rfl : gg.ct = st := by simpa using hst
          clear hst htg
          by_cases hjf : j = f
          · have hee : (x.vd y.cd p y.an c y.ax) = gg := by
              have h1 := HX1.out.1
              rw [hjf, hgx] at h1
              exact (Option.some.inj h1).symm
            have t1 : (((l.vd y.cd y.ap y.an y.ac y.ax)).ct.toList == gg.ct.toList) = true := by
              rw [← hee]
              obtain ⟨_, _, _, _, _, _, h9⟩ := HX1.out.2
              rw [h9]
              exact str_same _
            have t2 : ((l.vd y.cd y.ap y.an y.ac y.ax)).cd.toList.isEmpty = false := by
              rw [← hee] at hgd
              obtain ⟨_, _, _, _, _, _, h9⟩ := HX1.out.2
              rw [h9] at hgd
              unfold dcB at hgd
              simpa using hgd
            have q10 : IntKind.i64.wrap ((h + 1) + 10) = (h + 1) + 10 := by rw [IntKind.wrap_i64]; omega
            clear hee hgd hgx hgo
            have bD : ∀ k, Below wr.heap.size wr (V5.drewN k) := fun k => below_drewN bV5 k
            have HI3 : Hid (∀ k, DdI w y s es1 f i (j + 1) u9 ((h + 1) + 10) (V5.drewN k)) := fun k => by
              obtain ⟨ws, n1, n2, n3⟩ := HI.out.ex
              refine ⟨⟨ws, n1.below (bD k), ?_, n3⟩, ?_, below_then HI.out.bel (bD k), ((bD k).block _ (blk_lt HI.out.obx)).trans HI.out.obx⟩
              · rw [gn_step HX1.out.1, if_pos hjf, List.append_nil]
                exact n2
              · rw [HHP.out, hjf, if_neg (Nat.lt_irrefl f), if_pos (Nat.lt_succ_self f)]
                omega
            clear bD hjf
            go_quiet (fail)
            go_wp2_with fail
            go_roundw
            case rel => exact ⟨j + 1, _, hlt, by go_num, rfl, HI3.out _⟩
            case measure => simp [intOf]; omega
          · have t1 : (((l.vd y.cd y.ap y.an y.ac y.ax)).ct.toList == gg.ct.toList) = false := str_apart fun e9 => by
              apply hjf
              refine HA.out.2.2.2.2.2.2.2.2.2.2.2.2.1 j f (x.vd y.cd p y.an c y.ax) gg HX1.out.1 hgx ?_
              obtain ⟨_, _, _, _, _, _, h9⟩ := HX1.out.2
              rw [h9]
              exact e9
            clear hgd hgx hgo
            have HJF : Hid (¬ j = f) := hjf
            obtain ⟨ws, n1, n2, n3⟩ := HI.out.ex
            have n1' := n1.below bV5
            obtain ⟨a9, c9, e9, _⟩ := ERow.isSlice n1
            have hwl : ws.length ≤ 1000000 := by
              have h1 := n2.1
              have h2 := List.length_eraseIdx_le (es1.take j) f
              rw [List.length_take] at h2
              omega
            have bD : ∀ k, Below wr.heap.size wr (V5.drewN k) := fun k => below_drewN bV5 k
            have hap0 := fun k => run_epush (P := Try.prog) (t := 34) Try.underlying34 celE encE_len encE_one (w := V5.drewN k) (n1.below (bD k)) ((l.vd y.cd y.ap y.an y.ac y.ax)) #[.string (l.vd y.cd y.ap y.an y.ac y.ax).ct, .slice (l.vd y.cd y.ap y.an y.ac y.ax).tp (l.vd y.cd y.ap y.an y.ac y.ax).tn (l.vd y.cd y.ap y.an y.ac y.ax).tc, .int .i64 (l.vd y.cd y.ap y.an y.ac y.ax).nu, .int .i64 (l.vd y.cd y.ap y.an y.ac y.ax).tk, .slice (l.vd y.cd y.ap y.an y.ac y.ax).cp (l.vd y.cd y.ap y.an y.ac y.ax).cn (l.vd y.cd y.ap y.an y.ac y.ax).cc, .string (l.vd y.cd y.ap y.an y.ac y.ax).cd, .slice (l.vd y.cd y.ap y.an y.ac y.ax).ap (l.vd y.cd y.ap y.an y.ac y.ax).an (l.vd y.cd y.ap y.an y.ac y.ax).ac] rfl (by omega) (by decide) (Nat.le_trans HI.out.bel.size (bD k).size)
            go_quiet (fail)
            obtain ⟨a2, c2, W2, hap, r2, o2, _⟩ := hap0 nq
            have HI3 : Hid (DdI w y s es1 f i (j + 1) (.slice a2 (ws.length + 1) c2) ((h + 1)) W2) := by
              have b2 : Below w.heap.size w W2 := (below_then HI.out.bel (bD nq)).trans (o2.below (Nat.le_trans HI.out.bel.size (bD nq).size) fun q hq => (n1.lt hq).1)
              refine ⟨⟨ws ++ [(l.vd y.cd y.ap y.an y.ac y.ax)], r2, ?_, fun l' hl' => ?_⟩, ?_, b2, ?_⟩
              · rw [gn_step HX1.out.1, if_neg HJF.out]
                exact tws_snoc n2 HX1.out.2
              · rcases List.mem_append.1 hl' with g1 | g1
                · exact n3 l' g1
                · obtain rfl : l' = (l.vd y.cd y.ap y.an y.ac y.ax) := by simpa using g1
                  exact HYL.out
              · rw [HHP.out]
                have := HJF.out
                congr 1
                by_cases h1 : f < j
                · rw [if_pos h1, if_pos (by omega)]
                · rw [if_neg h1, if_neg (by omega)]
              · have hb9 := (bD nq).block _ (blk_lt HI.out.obx)
                refine (o2.block _ (Nat.lt_of_lt_of_le (blk_lt HI.out.obx) (bD nq).size) fun e2 => ?_).trans (hb9.trans HI.out.obx)
                obtain ⟨cs', h1⟩ := row_type n1 e2
                rw [HI.out.obx] at h1
                simp at h1
            rw [e9] at hap ⊢
            clear n1 n2 n3 n1' hap0 r2 o2 bD e9
            go_wp2_with (at_builtin; refine wpList_append_run rfl (.tmp 59) (.tmp 61) 34 _ rfl hap ?_)
            go_roundw
            case rel => exact ⟨j + 1, _, hlt, by go_num, rfl, HI3⟩
            case measure => simp [intOf]; omega
      · have t0 : (l.ct.toList == s.toList) = false := str_apart fun e9 => by
          apply hji
          refine HA.out.2.2.2.2.2.2.2.1 j i e x he HA.out.2.2.2.2.2.2.2.2.1 ?_
          rw [← hcte.1, e9, HA.out.2.2.2.2.2.2.2.2.2.1]
        have HX1 : Hid (es1[j]? = some e ∧ Tw l e) := by
          refine ⟨?_, htw⟩
          rw [← HE.out, List.getElem?_set_ne (fun e9 => hji e9.symm)]
          exact he
        have HYL : Hid (Lies w l ∧ Sz l) := hll
        have HHP : Hid (h = (if i < j + 1 then 1 else 0) + (if f < j then 10 else 0)) := by
          unfold Hid
          rw [HI.out.hit]
          congr 1
          by_cases h1 : i < j
          · rw [if_pos h1, if_pos (by omega)]
          · rw [if_neg h1, if_neg (by omega)]
        have hhb : 0 ≤ h ∧ h ≤ 11 := by
          rw [HI.out.hit]
          constructor <;> (split <;> split <;> decide)
        clear hl he htw hll hcte hg
        have bV5 : Below wr.heap.size wr (wr.alloc (.cells #[.string l.ct, .slice l.tp l.tn l.tc, .int .i64 l.nu, .int .i64 l.tk, .slice l.cp l.cn l.cc, .string l.cd, .slice l.ap l.an l.ac] 31)) := (Below.refl _ _).alloc (Nat.le_refl _) _
        have bx5 := Box.new wr #[.string l.ct, .slice l.tp l.tn l.tc, .int .i64 l.nu, .int .i64 l.tk, .slice l.cp l.cn l.cc, .string l.cd, .slice l.ap l.an l.ac] 31
        go_wp2_with fail
        generalize wr.alloc (.cells #[.string l.ct, .slice l.tp l.tn l.tc, .int .i64 l.nu, .int .i64 l.tk, .slice l.cp l.cn l.cc, .string l.cd, .slice l.ap l.an l.ac] 31) = V5 at bV5 bx5 ⊢
        obtain ⟨lb, hlb⟩ : ∃ lb, wr.heap.size = lb := ⟨_, rfl⟩
        have cx := bx5.cell
        rw [hlb] at cx ⊢
        have HLB : Hid (wr.heap.size = lb) := hlb
        clear d0 d1 d2 d3 d4 d5 d6 bx5 hlb
        rcases HG.out with ⟨hg0, hfl⟩ | ⟨gg, hgx, hgd, hgo⟩
        · have hm0 : m = 0 := by rw [HM.out, hg0]; rfl
          have hjf : ¬ j = f := by have := HNW.out; omega
          subst hm0
          have HJF : Hid (¬ j = f) := hjf
          obtain ⟨ws, n1, n2, n3⟩ := HI.out.ex
          have n1' := n1.below bV5
          obtain ⟨a9, c9, e9, _⟩ := ERow.isSlice n1
          have hwl : ws.length ≤ 1000000 := by
            have h1 := n2.1
            have h2 := List.length_eraseIdx_le (es1.take j) f
            rw [List.length_take] at h2
            omega
          have bD : ∀ k, Below wr.heap.size wr (V5.drewN k) := fun k => below_drewN bV5 k
          have hap0 := fun k => run_epush (P := Try.prog) (t := 34) Try.underlying34 celE encE_len encE_one (w := V5.drewN k) (n1.below (bD k)) (l) #[.string l.ct, .slice l.tp l.tn l.tc, .int .i64 l.nu, .int .i64 l.tk, .slice l.cp l.cn l.cc, .string l.cd, .slice l.ap l.an l.ac] rfl (by omega) (by decide) (Nat.le_trans HI.out.bel.size (bD k).size)
          go_quiet (fail)
          obtain ⟨a2, c2, W2, hap, r2, o2, _⟩ := hap0 nq
          have HI3 : Hid (DdI w y s es1 f i (j + 1) (.slice a2 (ws.length + 1) c2) (h) W2) := by
            have b2 : Below w.heap.size w W2 := (below_then HI.out.bel (bD nq)).trans (o2.below (Nat.le_trans HI.out.bel.size (bD nq).size) fun q hq => (n1.lt hq).1)
            refine ⟨⟨ws ++ [l], r2, ?_, fun l' hl' => ?_⟩, ?_, b2, ?_⟩
            · rw [gn_step HX1.out.1, if_neg HJF.out]
              exact tws_snoc n2 HX1.out.2
            · rcases List.mem_append.1 hl' with g1 | g1
              · exact n3 l' g1
              · obtain rfl : l' = l := by simpa using g1
                exact HYL.out
            · rw [HHP.out]
              have := HJF.out
              congr 1
              by_cases h1 : f < j
              · rw [if_pos h1, if_pos (by omega)]
              · rw [if_neg h1, if_neg (by omega)]
            · have hb9 := (bD nq).block _ (blk_lt HI.out.obx)
              refine (o2.block _ (Nat.lt_of_lt_of_le (blk_lt HI.out.obx) (bD nq).size) fun e2 => ?_).trans (hb9.trans HI.out.obx)
              obtain ⟨cs', h1⟩ := row_type n1 e2
              rw [HI.out.obx] at h1
              simp at h1
          rw [e9] at hap ⊢
          clear n1 n2 n3 n1' hap0 r2 o2 bD e9
          go_wp2_with (at_builtin; refine wpList_append_run rfl (.tmp 59) (.tmp 61) 34 _ rfl hap ?_)
          go_roundw
          case rel => exact ⟨j + 1, _, hlt, by go_num, rfl, HI3⟩
          case measure => simp [intOf]; omega
        · have hm1 : m = 1 := by rw [HM.out, hgo]; rfl
          subst hm1
          have htg := HA.out.2.2.2.2.2.2.1
          rw [hgo] at htg
          obtain ⟨gb, st, rfl, hst, hcg⟩ := trow_at (htg.below (below_then HI.out.bel bV5)) (j := 0) (by decide)
          obtain rfl : gg.ct = st := by simpa using hst
          clear hst htg
          by_cases hjf : j = f
          · have hee : e = gg := by
              have h1 := HX1.out.1
              rw [hjf, hgx] at h1
              exact (Option.some.inj h1).symm
            have t1 : ((l).ct.toList == gg.ct.toList) = true := by
              rw [← hee]
              obtain ⟨_, _, _, _, _, _, h9⟩ := HX1.out.2
              rw [h9]
              exact str_same _
            have t2 : (l).cd.toList.isEmpty = false := by
              rw [← hee] at hgd
              obtain ⟨_, _, _, _, _, _, h9⟩ := HX1.out.2
              rw [h9] at hgd
              unfold dcB at hgd
              simpa using hgd
            have q10 : IntKind.i64.wrap (h + 10) = h + 10 := by rw [IntKind.wrap_i64]; omega
            clear hee hgd hgx hgo
            have bD : ∀ k, Below wr.heap.size wr (V5.drewN k) := fun k => below_drewN bV5 k
            have HI3 : Hid (∀ k, DdI w y s es1 f i (j + 1) u9 (h + 10) (V5.drewN k)) := fun k => by
              obtain ⟨ws, n1, n2, n3⟩ := HI.out.ex
              refine ⟨⟨ws, n1.below (bD k), ?_, n3⟩, ?_, below_then HI.out.bel (bD k), ((bD k).block _ (blk_lt HI.out.obx)).trans HI.out.obx⟩
              · rw [gn_step HX1.out.1, if_pos hjf, List.append_nil]
                exact n2
              · rw [HHP.out, hjf, if_neg (Nat.lt_irrefl f), if_pos (Nat.lt_succ_self f)]
                omega
            clear bD hjf
            go_quiet (fail)
            go_wp2_with fail
            go_roundw
            case rel => exact ⟨j + 1, _, hlt, by go_num, rfl, HI3.out _⟩
            case measure => simp [intOf]; omega
          · have t1 : ((l).ct.toList == gg.ct.toList) = false := str_apart fun e9 => by
              apply hjf
              refine HA.out.2.2.2.2.2.2.2.2.2.2.2.2.1 j f e gg HX1.out.1 hgx ?_
              obtain ⟨_, _, _, _, _, _, h9⟩ := HX1.out.2
              rw [h9]
              exact e9
            clear hgd hgx hgo
            have HJF : Hid (¬ j = f) := hjf
            obtain ⟨ws, n1, n2, n3⟩ := HI.out.ex
            have n1' := n1.below bV5
            obtain ⟨a9, c9, e9, _⟩ := ERow.isSlice n1
            have hwl : ws.length ≤ 1000000 := by
              have h1 := n2.1
              have h2 := List.length_eraseIdx_le (es1.take j) f
              rw [List.length_take] at h2
              omega
            have bD : ∀ k, Below wr.heap.size wr (V5.drewN k) := fun k => below_drewN bV5 k
            have hap0 := fun k => run_epush (P := Try.prog) (t := 34) Try.underlying34 celE encE_len encE_one (w := V5.drewN k) (n1.below (bD k)) (l) #[.string l.ct, .slice l.tp l.tn l.tc, .int .i64 l.nu, .int .i64 l.tk, .slice l.cp l.cn l.cc, .string l.cd, .slice l.ap l.an l.ac] rfl (by omega) (by decide) (Nat.le_trans HI.out.bel.size (bD k).size)
            go_quiet (fail)
            obtain ⟨a2, c2, W2, hap, r2, o2, _⟩ := hap0 nq
            have HI3 : Hid (DdI w y s es1 f i (j + 1) (.slice a2 (ws.length + 1) c2) (h) W2) := by
              have b2 : Below w.heap.size w W2 := (below_then HI.out.bel (bD nq)).trans (o2.below (Nat.le_trans HI.out.bel.size (bD nq).size) fun q hq => (n1.lt hq).1)
              refine ⟨⟨ws ++ [l], r2, ?_, fun l' hl' => ?_⟩, ?_, b2, ?_⟩
              · rw [gn_step HX1.out.1, if_neg HJF.out]
                exact tws_snoc n2 HX1.out.2
              · rcases List.mem_append.1 hl' with g1 | g1
                · exact n3 l' g1
                · obtain rfl : l' = l := by simpa using g1
                  exact HYL.out
              · rw [HHP.out]
                have := HJF.out
                congr 1
                by_cases h1 : f < j
                · rw [if_pos h1, if_pos (by omega)]
                · rw [if_neg h1, if_neg (by omega)]
              · have hb9 := (bD nq).block _ (blk_lt HI.out.obx)
                refine (o2.block _ (Nat.lt_of_lt_of_le (blk_lt HI.out.obx) (bD nq).size) fun e2 => ?_).trans (hb9.trans HI.out.obx)
                obtain ⟨cs', h1⟩ := row_type n1 e2
                rw [HI.out.obx] at h1
                simp at h1
            rw [e9] at hap ⊢
            clear n1 n2 n3 n1' hap0 r2 o2 bD e9
            go_wp2_with (at_builtin; refine wpList_append_run rfl (.tmp 59) (.tmp 61) 34 _ rfl hap ?_)
            go_roundw
            case rel => exact ⟨j + 1, _, hlt, by go_num, rfl, HI3⟩
            case measure => simp [intOf]; omega
    · have hlt1 : ¬ (j : Int) < nw := by omega
      have hjn : j = nw := by omega
      obtain ⟨ws, n1, n2, n3⟩ := HI.out.ex
      have hh : h = 1 + 10 * (m : Int) := by
        have hil := (List.getElem?_eq_some_iff.1 HA.out.2.2.2.2.2.2.2.2.1).1
        have h0 := HNW.out
        rw [HI.out.hit, if_pos (by omega), HM.out]
        rcases HG.out with ⟨hg0, hfl⟩ | ⟨gg, hgx, _, hgo⟩
        · rw [hg0, if_neg (by omega)]; rfl
        · have := (List.getElem?_eq_some_iff.1 hgx).1
          rw [hgo, if_pos (by omega)]; rfl
      rw [List.take_of_length_le (by have := HNW.out; omega)] at n2
      have hwl : nn = ws.length := by rw [ERow.len HA.out.2.2.2.1, HA.out.2.2.2.2.1.1, n2.1]
      obtain ⟨a9, c9, e9, _⟩ := ERow.isSlice n1
      rw [← hwl] at e9
      subst e9
      have hsl := sameList_true (HA.out.2.2.2.1.below HI.out.bel) n1 (HA.out.2.2.2.2.1.trans n2.symm) (fun l hl => (HA.out.2.2.2.2.2.1 l hl).1.below HI.out.bel) (fun l hl => (n3 l hl).1.below HI.out.bel) (fun l hl => (HA.out.2.2.2.2.2.1 l hl).2)
      have q1 : (m : Int) ≤ 1 := by omega
      have q2 : IntKind.i64.wrap (10 * (m : Int)) = 10 * (m : Int) := by rw [IntKind.wrap_i64]; omega
      have q3 : IntKind.i64.wrap (1 + 10 * (m : Int)) = 1 + 10 * (m : Int) := by rw [IntKind.wrap_i64]; omega
      subst hh
      clear n1 n2 n3 hwl cy loy hjn
      go_wp2_with fail
      refine hsl.mono ?_
      rintro _ w5 ⟨rfl, hb5⟩
      have HB5 : Hid (Below w.heap.size w w5) := below_then HI.out.bel hb5
      clear hsl hb5
      go_wp2_with fail
      go_ret
      exact ⟨rfl, HB5.out⟩
end
end Go.Proofs.Ytnpndbehbcaghaa
