import Derived.Test.YtjbkfppibnlmoaaGreatDoorIbDcd
import Derived.Carry
import Derived.Test.YtjbkfppibnlmoaaGreatDoorIbOpn
import Derived.Test.YtjbkfppibnlmoaaGreatDoorIbRead
/-
  Load of entries that may all stand; New.
-/
namespace Go.Proofs.YtjbkfppibnlmoaaGreatDoor
open Go.RowKit

theorem lastT_take {es : List Ent} {i : Nat} {x : Ent} (h : Srt es) (ho : ∀ e ∈ es, mayB e = true) (hx : es[i]? = some x) : ¬ x.tk < lastT (es.take i) := by
  rcases i with _ | i
  · have := (mayB_is (ho x (List.mem_of_getElem? hx))).2.2.2.2.2.1
    simp [lastT]
    exact this
  · have hl := (List.getElem?_eq_some_iff.1 hx).1
    obtain ⟨y, hy⟩ : ∃ y, es[i]? = some y := ⟨_, List.getElem?_eq_getElem (by omega)⟩
    have : lastT (es.take (i + 1)) = y.tk := by
      unfold lastT
      rw [List.getLast?_eq_getElem?, List.length_take, show min (i + 1) es.length - 1 = i by omega, List.getElem?_take_of_lt (by omega), hy]
    rw [this]
    have := h i y x hy hx
    omega
theorem fi_take {es : List Ent} {i : Nat} {x : Ent} (h : Dis es) (hx : es[i]? = some x) : fi x.ct (es.take i) = none := fi_no fun j m' hm => str_apart fun e => by
  have hj := (List.getElem?_eq_some_iff.1 hm).1
  rw [List.length_take] at hj
  rw [List.getElem?_take_of_lt (by omega)] at hm
  have := h j i m' x hm hx e
  omega
theorem nOp_take {es : List Ent} {i : Nat} {x : Ent} (hx : es[i]? = some x) (ho : opB x = true) : nOp (es.take i) < nOp es := by
  obtain ⟨hi, rfl⟩ := List.getElem?_eq_some_iff.1 hx
  unfold nOp
  have e1 : es = es.take i ++ (es[i] :: es.drop (i + 1)) := by rw [List.getElem_cons_drop, List.take_append_drop]
  conv => rhs; rw [e1, List.countP_append, List.countP_cons, ho]
  simp
theorem ref_take {K R : Int} {es : List Ent} {i : Nat} {x : Ent} (h : Inv K R es) (hd : Dis es) (ho : ∀ e ∈ es, mayB e = true) (hx : es[i]? = some x) : refS R (es.take i) x = 0 := by
  unfold refS
  rw [ho x (List.mem_of_getElem? hx), decide_eq_false (lastT_take h.srt ho hx), fi_take hd hx]
  simp only [Bool.not_true, Bool.or_self, Bool.false_eq_true, if_false, Option.isSome_none]
  have : (opB x && decide ((nOp (es.take i) : Int) = R)) = false := by
    cases hp : opB x with
    | false => rfl
    | true =>
      have h1 := nOp_take hx hp
      have h2 := h.op
      rw [decide_eq_false (by omega)]
      rfl
  rw [this]
  rfl
section
variable {w w' : World} {K R : Int} {es : List Ent}
set_option maxRecDepth 100000 in
set_option maxHeartbeats 1000000 in
theorem newShelf_any (K R : Int) (w : World) : Calls Tryz.prog 40 #[.int .i64 K, .int .i64 R] w fun r w' => r = .returned (.pointer (some ⟨w.heap.size + 1, 0, none⟩)) ∧ Shf w' w.heap.size (w.heap.size + 1) w.heap.size (.slice none 0 0) K R [] ∧ Below w.heap.size w w' := by
  have HZ : Hid (Shf ((w.alloc (.map #[] 0)).alloc (.cells #[.int .i64 K, .int .i64 R, .slice none 0 0, .map (some w.heap.size), .int .i64 0] 89)) w.heap.size (w.heap.size + 1) w.heap.size (.slice none 0 0) K R [] ∧ Below w.heap.size w ((w.alloc (.map #[] 0)).alloc (.cells #[.int .i64 K, .int .i64 R, .slice none 0 0, .map (some w.heap.size), .int .i64 0] 89))) := by
    refine ⟨⟨?_, ERow.nil _ _ _ _ _, ?_, fun i j x y hx => by simp at hx, by simp, fun e he => by cases he⟩, ((Below.refl _ _).alloc (Nat.le_refl _) _).alloc (by simp) _⟩
    · have := heap_alloc_new (w.alloc (.map #[] 0)) (.cells #[.int .i64 K, .int .i64 R, .slice none 0 0, .map (some w.heap.size), .int .i64 0] 89)
      rw [World.size_alloc] at this
      exact this
    · exact (MapF.made w).below ((Below.refl _ _).alloc (Nat.le_refl _) _)
  have hmm := @run_makeMap Tryz.prog
  go_enter Tryz.func40, Tryz.ntmps40
  go_wp2_with fail
  go_ret
  exact ⟨rfl, HZ.out.1, HZ.out.2⟩
/-- What Load leaves: a box of copies. -/
def LdQ (w : World) (K R : Int) (es : List Ent) (r : Ending) (w' : World) : Prop :=
  ∃ b sb M v ls, r = .returned (.tuple #[.pointer (some ⟨b, 0, none⟩), .nilIface]) ∧ Bx w' w.heap.size b sb M v K R ls ∧ Cps w' w.heap.size ls es ∧ Below w.heap.size w w'
set_option maxRecDepth 100000 in
set_option maxHeartbeats 4000000 in
theorem load_yes {B n c : Nat} {a : Option Addr} (hr : NRow w B (.slice a n c) es) (hl : ∀ e ∈ es, Lies w e) (ho : ∀ e ∈ es, mayB e = true) (hd : Dis es) (hi : Inv K R es) : Calls Tryz.prog 15 #[.int .i64 K, .int .i64 R, .slice a n c] w (LdQ w K R es) := by
  have hn : es.length = n := hr.len.symm
  have hn97 := hi.len
  rw [hn] at hn97
  have hns := newShelf_any K R w
  have g1 : ¬ K < 1 := by have := hi.k1; omega
  have g2 : ¬ K > 64 := by have := hi.k2; omega
  have g3 : ¬ R < 1 := by have := hi.r1; omega
  have g4 : ¬ R > 32 := by have := hi.r2; omega
  have HN : Hid (es.length = n) := hn
  have HA : Hid (NRow w B (.slice a n c) es ∧ (∀ e ∈ es, Lies w e) ∧ (∀ e ∈ es, mayB e = true) ∧ Dis es ∧ Inv K R es) := ⟨hr, hl, ho, hd, hi⟩
  clear hr hl ho hd hi hn
  go_enter Tryz.func15, Tryz.ntmps15
  go_wp2_with fail
  refine hns.mono ?_
  rintro _ w1 ⟨rfl, hs1, hb1⟩
  obtain ⟨sb, hsb⟩ : ∃ sb, w.heap.size + 1 = sb := ⟨_, rfl⟩
  rw [hsb] at hs1 ⊢
  have H1 : Hid (Shf w1 w.heap.size sb w.heap.size (.slice none 0 0) K R [] ∧ Below w.heap.size w w1 ∧ w.heap.size + 1 = sb) := ⟨hs1, hb1, hsb⟩
  clear hns hs1 hb1 g1 g2 g3 g4 hsb
  go_wp2_with fail
  go_loopw [32] (fun t wx => ∃ i : Nat, i ≤ n ∧ t = .int .i64 i ∧ Hid (∃ v, Shf wx w.heap.size sb w.heap.size v K R (es.take i) ∧ Below w.heap.size w wx)) (fun t _ => n - (intOf t).toNat)
  case atStart => exact ⟨0, Nat.zero_le _, rfl, .slice none 0 0, by simpa using H1.out.1, H1.out.2.1⟩
  case round =>
    obtain ⟨i, hin, rfl, HI⟩ := hrel
    by_cases hlt : i < n
    · have hlt1 : (i : Int) < n := by omega
      obtain ⟨v, hs, hb⟩ := HI.out
      obtain ⟨x, hx⟩ : ∃ x, es[i]? = some x := ⟨_, List.getElem?_eq_getElem (by rw [HN.out]; exact hlt)⟩
      obtain ⟨g, rfl, hg, hc⟩ := nrow_cells (HA.out.1.below hb) hx
      obtain ⟨d0, d1, d2, d3, d4, d5, d6⟩ := hc
      have hmx := HA.out.2.2.1 x (List.mem_of_getElem? hx)
      have hrz := ref_take HA.out.2.2.2.2 HA.out.2.2.2.1 HA.out.2.2.1 hx
      have bv : Below wr.heap.size wr (wr.alloc (.cells #[.string x.ct, .slice x.tp x.tn x.tc, .int .i64 x.nu, .int .i64 x.tk, .slice x.cp x.cn x.cc, .string x.cd, .slice x.ap x.an x.ac] 30)) := (Below.refl _ _).alloc (Nat.le_refl _) _
      have bx := Box.new wr #[.string x.ct, .slice x.tp x.tn x.tc, .int .i64 x.nu, .int .i64 x.tk, .slice x.cp x.cn x.cc, .string x.cd, .slice x.ap x.an x.ac] 30
      obtain ⟨V, hV⟩ : ∃ V, wr.alloc (.cells #[.string x.ct, .slice x.tp x.tn x.tc, .int .i64 x.nu, .int .i64 x.tk, .slice x.cp x.cn x.cc, .string x.cd, .slice x.ap x.an x.ac] 30) = V := ⟨_, rfl⟩
      rw [hV] at bv bx
      obtain ⟨xb, hxb⟩ : ∃ xb, wr.heap.size = xb := ⟨_, rfl⟩
      have HX : Hid (Box V xb #[.string x.ct, .slice x.tp x.tn x.tc, .int .i64 x.nu, .int .i64 x.tk, .slice x.cp x.cn x.cc, .string x.cd, .slice x.ap x.an x.ac]) := by unfold Hid; rw [← hxb]; exact bx
      have cx := HX.out.cell
      have hrf := refuse_any (hs.below bv) x (keyS_of hmx)
      rw [hrz] at hrf
      have HS : Hid (Shf V w.heap.size sb w.heap.size v K R (es.take i) ∧ Below w.heap.size w V) := ⟨hs.below bv, below_then hb bv⟩
      have HT : Hid (fi x.ct (es.take i) = none ∧ mayB x = true ∧ (es.take i).length < 1000000 ∧ es.take (i + 1) = es.take i ++ [x]) := by
        refine ⟨fi_take HA.out.2.2.2.1 hx, hmx, by rw [List.length_take]; omega, ?_⟩
        rw [List.take_succ_eq_append_getElem (by rw [HN.out]; exact hlt)]
        congr 2
        have := hx
        rw [List.getElem?_eq_getElem (by rw [HN.out]; exact hlt)] at this
        exact Option.some.inj this
      clear hs hb hx hmx hrz bv bx hg
      go_wp2_with fail
      clear hV hxb
      refine hrf.mono ?_
      rintro _ w2 ⟨rfl, hb2⟩
      have cx2 := (HX.out.below hb2).cell
      have hs2 := HS.out.1.below hb2
      have hpt := put_any hs2 (Nat.le_trans HS.out.2.size hb2.size) HT.out.1 HT.out.2.1 (keyS_of HT.out.2.1) HT.out.2.2.1
      have HB2 : Hid (Below w.heap.size w w2 ∧ Shf w2 w.heap.size sb w.heap.size v K R (es.take i)) := ⟨below_then HS.out.2 hb2, hs2⟩
      clear hrf hb2 hs2 cx d0 d1 d2 d3 d4 d5 d6 HX HS
      go_wp2_with fail
      refine hpt.mono ?_
      rintro _ w3 ⟨rfl, v3, h3, o3, _⟩
      have HI3 : Hid (∃ v, Shf w3 w.heap.size sb w.heap.size v K R (es.take (i + 1)) ∧ Below w.heap.size w w3) := by
        refine ⟨v3, by rw [HT.out.2.2.2]; exact h3, HB2.out.1.trans (o3.below HB2.out.1.size fun q hq => ?_)⟩
        have := H1.out.2.2
        rcases hq with g | g | g
        · omega
        · omega
        · exact (HB2.out.2.row.lt g).1
      clear hpt h3 o3 cx2 HB2
      go_wp2_with fail
      go_roundw
      case rel => exact ⟨i + 1, hlt, by go_num, HI3⟩
      case measure => simp [intOf]; omega
    · have hlt1 : ¬ (i : Int) < n := by omega
      obtain ⟨v, hs, hb⟩ := HI.out
      rw [List.take_of_length_le (by rw [HN.out]; omega)] at hs
      have hmn := many_any hs (by have := HA.out.2.2.2.2.k1; have := HA.out.2.2.2.2.k2; omega)
      rw [show manyB K es = false by unfold manyB; rw [decide_eq_false (by have := HA.out.2.2.2.2.dc; omega)]] at hmn
      have HS : Hid (Shf wr w.heap.size sb w.heap.size v K R es ∧ Below w.heap.size w wr) := ⟨hs, hb⟩
      clear hs hb HI
      go_wp2_with fail
      refine hmn.mono ?_
      rintro _ w4 ⟨rfl, m, hw4⟩
      have hbb : Below wr.heap.size wr w4 := by rw [hw4]; exact below_drewN (Below.refl _ _) m
      have hs4 := HS.out.1.below hbb
      obtain ⟨a4, c4, hv4, _⟩ := hs4.row.isSlice
      rw [HN.out] at hv4
      subst hv4
      have k2 := hs4.cells.2.2.1
      have hal := allCopied_any hs4.row (fun e he => ⟨(HA.out.2.1 e he).below (below_then HS.out.2 hbb), by have := mayB_is (HA.out.2.2.1 e he); omega, by have := mayB_is (HA.out.2.2.1 e he); omega, by have := mayB_is (HA.out.2.2.1 e he); omega⟩) (by omega)
      have HS4 : Hid (Shf w4 w.heap.size sb w.heap.size (.slice a4 n c4) K R es ∧ Below w.heap.size w w4) := ⟨hs4, below_then HS.out.2 hbb⟩
      clear hmn hw4 hbb hs4 HS
      go_wp2_with fail
      refine hal.mono ?_
      rintro _ w5 ⟨ls, a5, c5, rfl, n5, p5, b5⟩
      have hs5 := HS4.out.1.below b5
      have k25 := hs5.cells.2.2.1
      have f25 := hfroz hs5.blk 2
      obtain ⟨bb, hbb⟩ : ∃ bb, w5.heap.size = bb := ⟨_, rfl⟩
      have HZ : Hid (∀ t, LdQ w K R es (.returned (.tuple #[.pointer (some ⟨bb, 0, none⟩), .nilIface])) ((w5.setCell ⟨sb, 2, none⟩ (.slice a5 es.length c5)).alloc (.cells #[.pointer (some ⟨sb, 0, none⟩)] 91 t)) ∨ t ≠ (0, 0)) := fun t => by
        by_cases ht : t = (0, 0)
        · left
          subst ht
          have o6 : Off (fun q => q = sb) w5 (w5.setCell ⟨sb, 2, none⟩ (.slice a5 es.length c5)) := Off.setCell (P := fun q => q = sb) (Off.refl _ _) (p := ⟨sb, 2, none⟩) rfl _
          have hb6 := set_heap hs5.blk 2 (.slice a5 es.length c5)
          have e6 : (w5.setCell ⟨sb, 2, none⟩ (.slice a5 es.length c5)).heap.size = bb := by rw [← hbb]; simp
          have hsw := H1.out.2.2
          have hwb : w.heap.size ≤ w4.heap.size := HS4.out.2.size
          have hap : ∀ q, (Value.slice a5 es.length c5).ownBlock = some q → q ≠ sb := fun q hq e => by
            have := (n5.lt hq).1
            have := HS4.out.1.lt
            omega
          have sh6 : Shf (w5.setCell ⟨sb, 2, none⟩ (.slice a5 es.length c5)) w.heap.size sb w.heap.size (.slice a5 es.length c5) K R ls := by
            refine ⟨?_, ?_, ?_, p5.dis HA.out.2.2.2.1, by rw [p5.1, HN.out]; omega, p5.ok HA.out.2.2.1⟩
            · rw [p5.nOp]; exact hb6
            · exact (ERow.base n5 hwb).off o6 hap
            · rw [p5.1, show (fun s => fi s ls) = fun s => fi s es from funext fun s => p5.fi s]
              exact hs5.map.off o6 fun e => hs5.neM e.symm
          have p6 : Cps (w5.setCell ⟨sb, 2, none⟩ (.slice a5 es.length c5)) w.heap.size ls es := (p5.base hwb).keep fun l _ hl => hl.byType o6 fun q cs hq e => hs5.notBytes q cs hq (Or.inl e)
          have b6 : Below w.heap.size w (w5.setCell ⟨sb, 2, none⟩ (.slice a5 es.length c5)) := (below_then HS4.out.2 b5).trans (o6.below (Nat.le_trans hwb b5.size) fun q hq => by omega)
          generalize w5.setCell ⟨sb, 2, none⟩ (.slice a5 es.length c5) = W6 at sh6 p6 b6 e6
          have bv : Below W6.heap.size W6 (W6.alloc (.cells #[.pointer (some ⟨sb, 0, none⟩)] 91)) := (Below.refl _ _).alloc (Nat.le_refl _) _
          refine ⟨bb, sb, w.heap.size, .slice a5 es.length c5, ls, rfl, ⟨by rw [← e6]; exact heap_alloc_new W6 _, sh6.below bv, (p6.below bv).own, by rw [← e6]; exact b6.size, by omega, Nat.le_refl _, p6.inv HA.out.2.2.2.2⟩, p6.below bv, below_then b6 bv⟩
        · exact Or.inr ht
      clear hal n5 p5 b5 hs5 k2 HS4
      go_wp2_with fail
      go_ret2
      rcases HZ.out (0, 0) with g | g
      · exact g
      · exact absurd rfl g
theorem inv_nil {K R : Int} (k1 : 1 ≤ K) (k2 : K ≤ 64) (r1 : 1 ≤ R) (r2 : R ≤ 32) : Inv K R [] := ⟨k1, k2, r1, r2, by simp [nOp]; omega, by simp [nDc]; omega, fun i x y hx => by simp at hx⟩
set_option maxRecDepth 100000 in
set_option maxHeartbeats 1000000 in
theorem load_args {a : Option Addr} {n c : Nat} (K R : Int) (w : World) (h : ¬ (1 ≤ K ∧ K ≤ 64 ∧ 1 ≤ R ∧ R ≤ 32)) : Calls Tryz.prog 15 #[.int .i64 K, .int .i64 R, .slice a n c] w fun r w' => r = .returned (.tuple #[.pointer none, .iface 94 (.pointer (some ⟨w.heap.size, 0, none⟩))]) ∧ IFault w' w.heap.size 0 1 ∧ Below w.heap.size w w' := by
  have hft := fault_any 0 1 w
  by_cases h1 : K < 1
  · clear h
    go_enter Tryz.func15, Tryz.ntmps15
    go_wp2_with fail
    refine hft.mono ?_
    rintro _ w1 ⟨rfl, hf, hb⟩
    have HF : Hid (IFault w1 w.heap.size 0 1 ∧ Below w.heap.size w w1) := ⟨hf, hb⟩
    clear hft hf hb
    go_wp2_with fail
    go_ret2
    exact ⟨rfl, HF.out.1, HF.out.2⟩
  by_cases h2 : K > 64
  · clear h
    go_enter Tryz.func15, Tryz.ntmps15
    go_wp2_with fail
    refine hft.mono ?_
    rintro _ w1 ⟨rfl, hf, hb⟩
    have HF : Hid (IFault w1 w.heap.size 0 1 ∧ Below w.heap.size w w1) := ⟨hf, hb⟩
    clear hft hf hb
    go_wp2_with fail
    go_ret2
    exact ⟨rfl, HF.out.1, HF.out.2⟩
  by_cases h3 : R < 1
  · clear h
    go_enter Tryz.func15, Tryz.ntmps15
    go_wp2_with fail
    refine hft.mono ?_
    rintro _ w1 ⟨rfl, hf, hb⟩
    have HF : Hid (IFault w1 w.heap.size 0 1 ∧ Below w.heap.size w w1) := ⟨hf, hb⟩
    clear hft hf hb
    go_wp2_with fail
    go_ret2
    exact ⟨rfl, HF.out.1, HF.out.2⟩
  have h4 : R > 32 := by omega
  clear h
  go_enter Tryz.func15, Tryz.ntmps15
  go_wp2_with fail
  refine hft.mono ?_
  rintro _ w1 ⟨rfl, hf, hb⟩
  have HF : Hid (IFault w1 w.heap.size 0 1 ∧ Below w.heap.size w w1) := ⟨hf, hb⟩
  clear hft hf hb
  go_wp2_with fail
  go_ret2
  exact ⟨rfl, HF.out.1, HF.out.2⟩
set_option maxRecDepth 100000 in
set_option maxHeartbeats 1000000 in
theorem new_yes (w : World) (k1 : 1 ≤ K) (k2 : K ≤ 64) (r1 : 1 ≤ R) (r2 : R ≤ 32) : Calls Tryz.prog 10 #[.int .i64 K, .int .i64 R] w fun r w' => ∃ b sb M v, r = .returned (.tuple #[.pointer (some ⟨b, 0, none⟩), .nilIface]) ∧ Hid (Bx w' w.heap.size b sb M v K R [] ∧ Below w.heap.size w w') := by
  have hld := load_yes (w := w) (K := K) (R := R) (B := 0) (a := none) (n := 0) (c := 0) (es := []) (ERow.nil _ _ _ _ _) (fun e he => by cases he) (fun e he => by cases he) (fun i j x y hx => by simp at hx) (inv_nil k1 k2 r1 r2)
  clear k1 k2 r1 r2
  go_enter Tryz.func10, Tryz.ntmps10
  go_wp2_with fail
  refine hld.mono ?_
  rintro _ w1 ⟨b, sb, M, v, ls, rfl, hb, hc, hw⟩
  obtain rfl : ls = [] := List.eq_nil_of_length_eq_zero hc.1
  have H1 : Hid (Bx w1 w.heap.size b sb M v K R [] ∧ Below w.heap.size w w1) := ⟨hb, hw⟩
  clear hld hb hc hw
  go_wp2_with fail
  go_ret2
  exact ⟨b, sb, M, v, rfl, H1⟩
set_option maxRecDepth 100000 in
set_option maxHeartbeats 1000000 in
theorem new_no (K R : Int) (w : World) (h : ¬ (1 ≤ K ∧ K ≤ 64 ∧ 1 ≤ R ∧ R ≤ 32)) : Calls Tryz.prog 10 #[.int .i64 K, .int .i64 R] w fun r w' => r = .returned (.tuple #[.pointer none, .iface 94 (.pointer (some ⟨w.heap.size, 0, none⟩))]) ∧ IFault w' w.heap.size 0 1 ∧ Below w.heap.size w w' := by
  have hld := load_args (a := none) (n := 0) (c := 0) K R w h
  clear h
  go_enter Tryz.func10, Tryz.ntmps10
  go_wp2_with fail
  refine hld.mono ?_
  rintro _ w1 ⟨rfl, hf, hb⟩
  have HF : Hid (IFault w1 w.heap.size 0 1 ∧ Below w.heap.size w w1) := ⟨hf, hb⟩
  clear hld hf hb
  go_wp2_with fail
  go_ret2
  exact ⟨rfl, HF.out.1, HF.out.2⟩
end
end Go.Proofs.YtjbkfppibnlmoaaGreatDoor

/-
  A box of the law's own, from call to call.
-/
namespace Go.Proofs.YtjbkfppibnlmoaaGreatDoor
open Go.RowKit

/-- A box of the law's own: nothing of it lay in W. -/
def Li (W w : World) (b sb M : Nat) (K R : Int) (es : List Ent) : Prop := (∃ v, Bx w W.heap.size b sb M v K R es) ∧ Below W.heap.size W w
section
variable {W w w' : World} {b sb M : Nat} {K R : Int} {es : List Ent}
theorem Li.below (h : Li W w b sb M K R es) (hb : Below w.heap.size w w') : Li W w' b sb M K R es := by
  obtain ⟨⟨v, h1⟩, h2⟩ := h
  exact ⟨⟨v, h1.below hb⟩, below_then h2 hb⟩
theorem Li.step {v : Value} {es' : List Ent} (h : Bx w W.heap.size b sb M v K R es) (hb : Below W.heap.size W w) (hq : BxQ w W.heap.size b sb M v K R es' w') : Li W w' b sb M K R es' := by
  obtain ⟨v', h1, h2, _⟩ := hq
  exact ⟨⟨v', h1⟩, hb.trans (h2.below hb.size fun q hq => h.ft hq)⟩
theorem Li.inv (h : Li W w b sb M K R es) : Inv K R es := by
  obtain ⟨⟨v, h1⟩, _⟩ := h
  exact h1.inv
theorem Li.ok (h : Li W w b sb M K R es) : ∀ e ∈ es, mayB e = true := by
  obtain ⟨⟨v, h1⟩, _⟩ := h
  exact h1.sh.ok
theorem Li.dis (h : Li W w b sb M K R es) : Dis es := by
  obtain ⟨⟨v, h1⟩, _⟩ := h
  exact h1.sh.dis
theorem li_new (W w : World) (hb : Below W.heap.size W w) (k1 : 1 ≤ K) (k2 : K ≤ 64) (r1 : 1 ≤ R) (r2 : R ≤ 32) : Calls Tryz.prog 10 #[.int .i64 K, .int .i64 R] w fun r w' => ∃ b sb M, r = .returned (.tuple #[.pointer (some ⟨b, 0, none⟩), .nilIface]) ∧ Hid (Li W w' b sb M K R [] ∧ Below w.heap.size w w') :=
  (new_yes w k1 k2 r1 r2).mono fun r w' ⟨b, sb, M, v, h1, h2⟩ => by
    refine ⟨b, sb, M, h1, ⟨⟨v, ?_⟩, below_then hb h2.out.2⟩, h2.out.2⟩
    have h := h2.out.1
    exact ⟨h.blk, ⟨h.sh.blk, ERow.base h.sh.row hb.size, h.sh.map, h.sh.dis, h.sh.len, h.sh.ok⟩, fun e he => (by cases he), Nat.le_trans hb.size h.lb, Nat.le_trans hb.size h.ls, Nat.le_trans hb.size h.lm, h.inv⟩
theorem li_acc_yes (h : Li W w b sb M K R es) (e : Ent) (hk : KeyS e.ct) (hl : Lies w e) (hz : accC R es e = 0) : Calls Tryz.prog 54 #[.pointer (some ⟨b, 0, none⟩), .agg #[.string e.ct, .slice e.tp e.tn e.tc, .int .i64 e.nu, .int .i64 e.tk, .slice e.cp e.cn e.cc, .string e.cd, .slice e.ap e.an e.ac]] w fun r w' => r = .returned .nilIface ∧ Hid (∃ a c a' c' a'' c'', Li W w' b sb M K R (es ++ [e.wi a c a' c' a'' c''])) := by
  obtain ⟨⟨v, h1⟩, h2⟩ := h
  exact (acc_yes h1 e hk hl hz).mono fun r w' ⟨g1, g2⟩ => ⟨g1, by
    obtain ⟨a, c, a', c', a'', c'', g3⟩ := g2.out
    exact ⟨a, c, a', c', a'', c'', Li.step h1 h2 g3⟩⟩
theorem li_acc_no (h : Li W w b sb M K R es) (e : Ent) (hk : KeyS e.ct) {z : Int} (hz : accC R es e = z) (h0 : z ≠ 0) : Calls Tryz.prog 54 #[.pointer (some ⟨b, 0, none⟩), .agg #[.string e.ct, .slice e.tp e.tn e.tc, .int .i64 e.nu, .int .i64 e.tk, .slice e.cp e.cn e.cc, .string e.cd, .slice e.ap e.an e.ac]] w fun r w' => ∃ ev, r = .returned (.iface 94 (.pointer (some ⟨ev, 0, none⟩))) ∧ Hid (IFault w' ev 0 z ∧ Li W w' b sb M K R es ∧ Below w.heap.size w w') := by
  obtain ⟨⟨v, h1⟩, h2⟩ := h
  exact (acc_no h1 e hk hz h0).mono fun r w' ⟨ev, g1, g2, g3, g4⟩ => ⟨ev, g1, g2, ⟨⟨v, h1.below g4⟩, below_then h2 g4⟩, g4⟩
theorem li_dec_no (h : Li W w b sb M K R es) {s cd : ByteArray} {p : Option Addr} {n c : Nat} (hk : KeyS s) (hn : n ≤ 9223372036854775807) {z : Int} (hz : decC es s cd n = z) (h0 : z ≠ 0) : Calls Tryz.prog 56 #[.pointer (some ⟨b, 0, none⟩), .string s, .string cd, .slice p n c] w fun r w' => ∃ ev, r = .returned (.tuple #[.slice none 0 0, .iface 94 (.pointer (some ⟨ev, 0, none⟩))]) ∧ Hid (IFault w' ev 0 z ∧ Li W w' b sb M K R es ∧ Below w.heap.size w w') := by
  obtain ⟨⟨v, h1⟩, h2⟩ := h
  exact (dec_no h1 hk hn hz h0).mono fun r w' ⟨ev, g1, g2, g3, g4⟩ => ⟨ev, g1, g2, ⟨⟨v, h1.below g4⟩, below_then h2 g4⟩, g4⟩
theorem li_dec_yes (h : Li W w b sb M K R es) {s cd : ByteArray} {po : Option Addr} {n co i : Nat} {bs : List Int} {x : Ent} (hk : KeyS s) (hb : Byts w po n bs) (hv : vdB cd = true) (hn : n ≤ 2048) (hf : fi s es = some i) (hx : es[i]? = some x) (ho : opB x = true) : Calls Tryz.prog 56 #[.pointer (some ⟨b, 0, none⟩), .string s, .string cd, .slice po n co] w fun r w' => ∃ a k m, r = .returned (.tuple #[.slice a m k, .nilIface]) ∧ Hid (∃ p c, TRow w' w.heap.size (.slice a m k) (goneS K (es.set i (x.vd cd p n c bs))) ∧ m = (goneS K (es.set i (x.vd cd p n c bs))).length ∧ Li W w' b sb M K R (shedS K (es.set i (x.vd cd p n c bs)))) := by
  obtain ⟨⟨v, h1⟩, h2⟩ := h
  exact (dec_yes h1 hk hb hv hn hf hx ho).mono fun r w' ⟨u, g1, g2⟩ => by
    obtain ⟨p, c, g3, g4⟩ := g2.out
    obtain ⟨a, k, e1, _⟩ := ERow.isSlice g3
    subst e1
    exact ⟨a, k, _, g1, p, c, g3, rfl, Li.step h1 h2 g4⟩
theorem li_find_yes (h : Li W w b sb M K R es) {s : ByteArray} {i : Nat} {m : Ent} (hk : KeyS s) (hf : fi s es = some i) (hm : es[i]? = some m) : Calls Tryz.prog 58 #[.pointer (some ⟨b, 0, none⟩), .string s] w (EnQ w m true) := by
  obtain ⟨⟨v, h1⟩, _⟩ := h
  exact find_yes h1 hk hf hm
theorem li_find_no (h : Li W w b sb M K R es) {s : ByteArray} (hk : KeyS s) (hf : fi s es = none) : Calls Tryz.prog 58 #[.pointer (some ⟨b, 0, none⟩), .string s] w (EnQ w zE false) := by
  obtain ⟨⟨v, h1⟩, _⟩ := h
  exact find_no h1 hk hf
theorem li_last (h : Li W w b sb M K R es) {l : Ent} (hl : lasE es = l) {t : Bool} (ht : decide (0 < es.length) = t) : Calls Tryz.prog 26 #[.pointer (some ⟨b, 0, none⟩)] w (EnQ w l t) := by
  obtain ⟨⟨v, h1⟩, _⟩ := h
  exact blast_any h1 hl ht
theorem li_list (h : Li W w b sb M K R es) : Calls Tryz.prog 32 #[.pointer (some ⟨b, 0, none⟩)] w (LsQ w es) := by
  obtain ⟨⟨v, h1⟩, _⟩ := h
  exact list_any h1
theorem li_open (h : Li W w b sb M K R es) : Calls Tryz.prog 29 #[.pointer (some ⟨b, 0, none⟩)] w (OpQ w es) := by
  obtain ⟨⟨v, h1⟩, _⟩ := h
  exact open_any h1
theorem li_count (h : Li W w b sb M K R es) : Calls Tryz.prog 35 #[.pointer (some ⟨b, 0, none⟩)] w fun r w' => r = .returned (.tuple #[.int .i64 (es.length : Int), .int .i64 (nOp es : Int)]) ∧ ∃ m, w' = w.drewN m := by
  obtain ⟨⟨v, h1⟩, _⟩ := h
  exact count_any h1
end
end Go.Proofs.YtjbkfppibnlmoaaGreatDoor
