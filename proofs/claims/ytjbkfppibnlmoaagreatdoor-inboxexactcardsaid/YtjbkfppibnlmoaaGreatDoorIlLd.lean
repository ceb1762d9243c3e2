/-
  The law's loaded.
-/
import Derived.Test.YtjbkfppibnlmoaaGreatDoorIcTl
import Derived.Deep.RegionHeld3
namespace Go.Proofs.YtjbkfppibnlmoaaGreatDoor.Lg
open Go.RowKit

/-- What may be so of an entry that came in. -/
def EOk (e : Ent) : Prop := KeyS e.ct ∧ e.tn + 90 ≤ 140737488355328 ∧ e.cn + 90 ≤ 140737488355328 ∧ e.an + 90 ≤ 140737488355328
/-- The base of a box may be lower. -/
theorem Bx.base {w : World} {B C b sb M : Nat} {v : Value} {K R : Int} {es : List Ent} (h : Bx w B b sb M v K R es) (hC : C ≤ B) : Bx w C b sb M v K R es :=
  ⟨h.blk, ⟨h.sh.blk, ERow.base h.sh.row hC, h.sh.map, h.sh.dis, h.sh.len, h.sh.ok⟩, fun e he => (h.own e he).base hC, Nat.le_trans hC h.lb, Nat.le_trans hC h.ls, Nat.le_trans hC h.lm, h.inv⟩
theorem sd_of {w U1 U2 U3 V5 : World} {X : Nat} {p mk ke rm L : Value} {es : List Ent} {o : Option (Int × Int)} (hp : PB U2 U1.heap.size p es o) (hd : DB U3 U2.heap.size mk ke rm L es o) (h1 : w.heap.size ≤ U1.heap.size) (h12 : U1.heap.size ≤ U2.heap.size) (b2 : Below U2.heap.size U2 V5) (b3 : Below U3.heap.size U3 V5) (hX : U1.heap.size ≤ X) : Sd V5 w.heap.size w.heap.size U1.heap.size U1.heap.size X p mk ke rm L (if o.isSome then es else []) (if o.isSome then es else []) o := by
  rcases o with _ | ⟨K, R⟩
  · obtain ⟨e1, e2, e3, e4⟩ := hd
    exact ⟨hp, e1, e2, e3, e4, rfl, rfl⟩
  · obtain ⟨b, sb, M, v, ls, q1, q2, q3⟩ := hp
    obtain ⟨e1, e2, e3, ls', q4, q5, q6, q7⟩ := hd
    refine ⟨e1, e2, e3, b, sb, M, v, ls, ls', q1, ⟨Bx.base (q2.below b2) h1, q3, ERow.base (ERow.below q4 b3) (Nat.le_trans h1 h12), fun e he => ((q5 e he).below b3).base (Nat.le_trans h1 h12), q6, q7, fun q hq hq' => ?_, fun q hq => Or.inr ?_, fun q hq => Or.inr ?_⟩⟩
    · have := q2.ftlt (Or.inr (Or.inr hq))
      have := (ERow.lt q4 hq').1
      omega
    · rcases hq with rfl | g | ⟨e, he, g⟩
      · exact q2.lb
      · exact q2.ft g
      · exact ((q2.own e he).blk g).1
    · rcases hq with rfl | g | ⟨e, he, g⟩
      · exact hX
      · exact Nat.le_trans h12 (ERow.lt q4 g).1
      · exact Nat.le_trans h12 ((q5 e he).blk g).1
theorem PB.form {w : World} {B : Nat} {p : Value} {es : List Ent} {o : Option (Int × Int)} (h : PB w B p es o) : ∃ pa : Option Addr, p = .pointer pa ∧ pa.isSome = o.isSome := by
  rcases o with _ | ⟨K, R⟩
  · exact ⟨none, h, rfl⟩
  · obtain ⟨b, sb, M, v, ls, q1, _⟩ := h
    exact ⟨some ⟨b, 0, none⟩, q1, rfl⟩
theorem below_allocL {B : Nat} {w w' : World} (h : Below B w w') (hB : B ≤ w'.heap.size) (x : Obj) : Below B w (w'.alloc x) := h.alloc hB x
theorem blk_allocL {w : World} {q : Nat} {x : Obj} (h : w.heap[q]? = some x) (y : Obj) : (w.alloc y).heap[q]? = some x := blk_below h (below_allocL (Below.refl _ _) (Nat.le_refl _) y)
theorem ls_ld {w U1 U2 U3 U4 : World} {p mk ke rm L : Value} {es : List Ent} {o : Option (Int × Int)} (hp : PB U2 U1.heap.size p es o) (hd : DB U3 U2.heap.size mk ke rm L es o) (h1 : Below w.heap.size w U1) (h12 : Below U1.heap.size U1 U2) (h23 : Below U2.heap.size U2 U3) (h34 : Below U3.heap.size U3 U4) :
    LS w (U4.heap.size + 1) U4.heap.size p mk ke rm L w.heap.size U1.heap.size U1.heap.size o (if o.isSome then es else []) (if o.isSome then es else []) 0 ((U4.alloc (.cells #[.slice none 0 0, .slice none 0 0, .slice none 0 0, .slice none 0 0, .slice none 0 0, .slice none 0 0] 52)).alloc (.cells #[p, mk, ke, rm, L, .pointer (some ⟨U4.heap.size, 0, none⟩), .slice none 0 0, .slice none 0 0] 55)) := by
  have b45 := below_allocL (below_allocL (Below.refl U4.heap.size U4) (Nat.le_refl _) (.cells #[.slice none 0 0, .slice none 0 0, .slice none 0 0, .slice none 0 0, .slice none 0 0, .slice none 0 0] 52)) (by simp) (.cells #[p, mk, ke, rm, L, .pointer (some ⟨U4.heap.size, 0, none⟩), .slice none 0 0, .slice none 0 0] 55)
  have s1 := h1.size
  have s2 := h12.size
  have s3 := h23.size
  have s4 := h34.size
  have b35 := below_then h34 b45
  have b25 := below_then h23 b35
  exact ⟨⟨_, _, _, _, _, _, [], [], [], [], [], [], blk_new (by simp) rfl, blk_allocL (blk_new rfl rfl) _, ⟨ERow.nil _ _ _ _ _, ERow.nil _ _ _ _ _, fun q e => (by cases e), Nat.le_refl _, Nat.le_refl _⟩, ⟨ERow.nil _ _ _ _ _, ERow.nil _ _ _ _ _, fun q e => (by cases e), Nat.le_refl _, Nat.le_refl _⟩, ⟨ERow.nil _ _ _ _ _, ERow.nil _ _ _ _ _, fun q e => (by cases e), Nat.le_refl _, Nat.le_refl _⟩⟩, sd_of hp hd s1 s2 b25 b35 (by omega), below_then h1 (below_then h12 b25), by omega, by omega⟩
def gone : Ent := { zE with ct := ⟨#[103, 111, 110, 101]⟩ }
/-- In the midst of the second loop. -/
structure L2I (w : World) (X Kb : Nat) (p mk ke rm L : Value) (D : Nat) (o : Option (Int × Int)) (A es : List Ent) (gs : List (Nat × Nat × Nat)) (a8 : Option Addr) (n c8 i : Nat) (wx : World) : Prop where
  row : ∃ rs, NRow wx w.heap.size (.slice a8 n c8) rs ∧ ∀ k, i ≤ k → rs[k]? = (hsL es gs)[k]?
  hds : HdsAt wx w.heap.size es gs i
  ls : LS w X Kb p mk ke rm L w.heap.size D D o A A 0 wx
section
variable {w wx w' : World} {X Kb D n c8 i : Nat} {p mk ke rm L : Value} {o : Option (Int × Int)} {A es : List Ent} {gs : List (Nat × Nat × Nat)} {a8 : Option Addr}
theorem L2I.below (h : L2I w X Kb p mk ke rm L D o A es gs a8 n c8 i wx) (hb : Below wx.heap.size wx w') : L2I w X Kb p mk ke rm L D o A es gs a8 n c8 i w' := by
  obtain ⟨rs, h1, h2⟩ := h.row
  exact ⟨⟨rs, ERow.below h1 hb, h2⟩, h.hds.below hb, h.ls.below hb⟩
theorem LS.withinT {C D E n : Nat} {bv : Value} {A A' : List Ent} {P : Nat → Prop} (h : LS w X Kb bv mk ke rm L C D E o A A' n wx) (ho : Off P wx w') (hP : ∀ q, P q → (C ≤ q ∧ q < D ∧ q < E) ∧ ∃ cs t, wx.heap[q]? = some (.cells cs t (0, 0)) ∧ ¬ LTy t) (hC : w.heap.size ≤ C) : LS w X Kb bv mk ke rm L C D E o A A' n w' :=
  ⟨h.offT ho fun q cs t hc ht hp => by
    obtain ⟨cs', t', hc', ht'⟩ := (hP q hp).2
    rw [hc] at hc'
    simp only [Option.some.injEq, Obj.cells.injEq] at hc'
    exact ht' (hc'.2.1 ▸ ht), h.sd.within ho fun q hp => (hP q hp).1, h.bel.trans (ho.below h.bel.size fun q hp => Nat.le_trans hC (hP q hp).1.1), h.lX, h.lK⟩
theorem L2I.rowT {g8 : Nat} (h : L2I w X Kb p mk ke rm L D o A es gs (some ⟨g8, 0, none⟩) n c8 i wx) {y : Ent} {g : Nat × Nat × Nat} (hy : es[i]? = some y) (hg : gs[i]? = some g) (ho : Off (fun q => q = g.1 ∨ q = g.2.1 ∨ q = g.2.2) wx w') : ∃ rs, NRow w' w.heap.size (.slice (some ⟨g8, 0, none⟩) n c8) rs ∧ rs[i]? = some (y.hd g.1 g.2.1 g.2.2) := by
  obtain ⟨rs, h1, h2⟩ := h.row
  have hh := h.hds.hd i y g (Nat.le_refl _) hy hg
  have ne8 : ∀ q, (∃ cs, wx.heap[q]? = some (.cells cs 5 (0, 0))) → ¬ g8 = q := fun q ⟨cs, hc⟩ e => by
    obtain ⟨cs', hc'⟩ := row_type h1 (g := g8) rfl
    rw [e, hc] at hc'
    simp at hc'
  refine ⟨rs, ERow.off h1 ho fun q hq hp => ?_, (h2 i (Nat.le_refl _)).trans (hsL_get es gs i y g hy hg)⟩
  simp only [Value.ownBlock, Option.some.injEq] at hq
  subst hq
  rcases hp with e | e | e
  · exact ne8 _ (mkd_type hh.t) e
  · exact ne8 _ (mkd_type hh.c) e
  · exact ne8 _ (mkd_type hh.a) e
/-- One entry turned and written over. -/
theorem L2I.step {g8 : Nat} (h : L2I w X Kb p mk ke rm L D o A es gs (some ⟨g8, 0, none⟩) n c8 i wx) {y : Ent} {g : Nat × Nat × Nat} (hy : es[i]? = some y) (hg : gs[i]? = some g) (hb : g8 < D ∧ g.1 < D ∧ g.2.1 < D ∧ g.2.2 < D) (ho : Off (fun q => q = g.1 ∨ q = g.2.1 ∨ q = g.2.2) wx w') : L2I w X Kb p mk ke rm L D o A es gs (some ⟨g8, 0, none⟩) n c8 (i + 1) (w'.setCells g8 (i * 7) (encE gone)) := by
  obtain ⟨rs, h1, h2⟩ := h.row
  have hh := h.hds.hd i y g (Nat.le_refl _) hy hg
  have hi : i < es.length := (List.getElem?_eq_some_iff.1 hy).1
  have hl : rs.length = es.length := by
    have e1 := h2 i (Nat.le_refl _)
    rw [hsL_get es gs i y g hy hg] at e1
    have e2 := (List.getElem?_eq_some_iff.1 e1).1
    rcases Nat.lt_trichotomy rs.length es.length with g1 | g1 | g1
    · have := h2 rs.length (by omega)
      rw [List.getElem?_eq_none (Nat.le_refl _)] at this
      have e3 := List.getElem?_eq_none_iff.1 this.symm
      rw [hsL_len es gs h.hds.len] at e3
      omega
    · exact g1
    · have := h2 es.length (by omega)
      rw [List.getElem?_eq_none (l := hsL es gs) (by rw [hsL_len es gs h.hds.len]; exact Nat.le_refl _)] at this
      have := List.getElem?_eq_none_iff.1 this
      omega
  have ne8 : ∀ q, (∃ cs, wx.heap[q]? = some (.cells cs 5 (0, 0))) → ¬ g8 = q := fun q ⟨cs, hc⟩ e => by
    obtain ⟨cs', hc'⟩ := row_type h1 (g := g8) rfl
    rw [e, hc] at hc'
    simp at hc'
  have h3 : NRow w' w.heap.size (.slice (some ⟨g8, 0, none⟩) n c8) rs := ERow.off h1 ho fun q hq hp => by
    simp only [Value.ownBlock, Option.some.injEq] at hq
    subst hq
    rcases hp with e | e | e
    · exact ne8 _ (mkd_type hh.t) e
    · exact ne8 _ (mkd_type hh.c) e
    · exact ne8 _ (mkd_type hh.a) e
  have h4 := erow_set encE_len h3 gone (by rw [hl]; exact hi)
  have o8 : Off (fun q => q = g8) w' (w'.setCells g8 (i * 7) (encE gone)) := Off.setCells (P := fun q => q = g8) rfl _ _ _ (Off.refl _ _)
  refine ⟨⟨_, h4, fun k hk => ?_⟩, ⟨h.hds.len, fun k e g' hk he hg' => ?_, h.hds.up⟩, ?_⟩
  · rw [List.getElem?_set_ne (by omega)]
    exact h2 k (by omega)
  · have hk' := h.hds.hd k e g' (by omega) he hg'
    have up := h.hds.up i k g g' (by omega) hg hg'
    have nn := hh.n1
    have nn2 := hh.n2
    have mm := hk'.n1
    have mm2 := hk'.n2
    have key : ∀ {q m : Nat} {bs : List Int}, Mkd wx w.heap.size q m bs → g.2.2 < q → Mkd (w'.setCells g8 (i * 7) (encE gone)) w.heap.size q m bs := fun {q m bs} hm hlt => by
      have n8 := ne8 q (mkd_type hm)
      refine (hm.off ho (by omega)).off o8 (fun e => n8 e.symm)
    exact ⟨key hk'.t up, key hk'.c (by omega), key hk'.a (by omega), hk'.n1, hk'.n2⟩
  · have hD := h.ls.bel.size
    have l1 := LS.withinT h.ls ho (fun q hq => by
      rcases hq with rfl | rfl | rfl
      · obtain ⟨cs, hc⟩ := mkd_type hh.t; exact ⟨⟨hh.t.lt.1, hb.2.1, hb.2.1⟩, cs, _, hc, nLB⟩
      · obtain ⟨cs, hc⟩ := mkd_type hh.c; exact ⟨⟨hh.c.lt.1, hb.2.2.1, hb.2.2.1⟩, cs, _, hc, nLB⟩
      · obtain ⟨cs, hc⟩ := mkd_type hh.a; exact ⟨⟨hh.a.lt.1, hb.2.2.2, hb.2.2.2⟩, cs, _, hc, nLB⟩) (Nat.le_refl _)
    refine LS.withinT l1 o8 (fun q hq => ?_) (Nat.le_refl _)
    subst hq
    obtain ⟨cs, hc⟩ := row_type h3 (g := q) rfl
    exact ⟨⟨(ERow.lt h3 (g := q) rfl).1, hb.1, hb.1⟩, cs, _, hc, nLE⟩
end
/-- In the midst of the first loop. -/
def L1I (w : World) (es : List Ent) (i : Nat) (t : Value) (wx : World) : Prop := ∃ gs, NRow wx w.heap.size t (hsL (es.take i) gs) ∧ HdsAt wx w.heap.size (es.take i) gs 0 ∧ Below w.heap.size w wx
section
variable {w : World} {es : List Ent}
theorem L1I.form {i : Nat} {t : Value} {wx : World} (h : L1I w es i t wx) (hi : i ≤ es.length) : ∃ a c, t = .slice a i c := by
  obtain ⟨gs, h1, h2, _⟩ := h
  obtain ⟨a, c, e, _⟩ := ERow.isSlice h1
  rw [hsL_len _ _ h2.len, List.length_take, Nat.min_eq_left hi] at e
  exact ⟨a, c, e⟩
theorem L1I.step {i : Nat} {a : Option Addr} {c : Nat} {wr w2 : World} (h : L1I w es i (.slice a i c) wr) (hi : i < es.length) (hN : es.length ≤ 1200000000000) {y : Ent} (hy : es[i]? = some y) {g1 g2 g3 : Nat} (hh : Hd w2 wr.heap.size g1 g2 g3 y) (hb : Below wr.heap.size wr w2) :
    ∃ a2 c2 W2, (Builtin.append_ #[22, 22] 22 #[.slice a i c, .slice (some ⟨w2.heap.size + 1, 0, none⟩) 1 1]).run Tryz.prog ((w2.alloc (.cells #[.string y.ct, .slice (some ⟨g1, 0, none⟩) y.tn (y.tn + 90), .int .i64 y.nu, .int .i64 y.tk, .slice (some ⟨g2, 0, none⟩) y.cn (y.cn + 90), .string y.cd, .slice (some ⟨g3, 0, none⟩) y.an (y.an + 90)] 30)).alloc (.cells #[.string y.ct, .slice (some ⟨g1, 0, none⟩) y.tn (y.tn + 90), .int .i64 y.nu, .int .i64 y.tk, .slice (some ⟨g2, 0, none⟩) y.cn (y.cn + 90), .string y.cd, .slice (some ⟨g3, 0, none⟩) y.an (y.an + 90)] 30)) = .ok (.slice a2 (i + 1) c2) W2 ∧ Hid (L1I w es (i + 1) (.slice a2 (i + 1) c2) W2) := by
  obtain ⟨gs, h1, h2, h3⟩ := h
  have hb4 : Below w2.heap.size w2 (w2.alloc (.cells #[.string y.ct, .slice (some ⟨g1, 0, none⟩) y.tn (y.tn + 90), .int .i64 y.nu, .int .i64 y.tk, .slice (some ⟨g2, 0, none⟩) y.cn (y.cn + 90), .string y.cd, .slice (some ⟨g3, 0, none⟩) y.an (y.an + 90)] 30)) := (Below.refl _ _).alloc (Nat.le_refl _) _
  have hb5 := below_then hb hb4
  have hlen : (hsL (es.take i) gs).length = i := by rw [hsL_len _ _ h2.len, List.length_take, Nat.min_eq_left (by omega)]
  obtain ⟨a2, c2, W2, hap, r2, o2, s2⟩ := run_epushB (P := Tryz.prog) (t := 22) Tryz.underlying22 celE encE_len encE_one (ERow.below h1 hb5) (y.hd g1 g2 g3) #[.string y.ct, .slice (some ⟨g1, 0, none⟩) y.tn (y.tn + 90), .int .i64 y.nu, .int .i64 y.tk, .slice (some ⟨g2, 0, none⟩) y.cn (y.cn + 90), .string y.cd, .slice (some ⟨g3, 0, none⟩) y.an (y.an + 90)] rfl (by rw [hlen]; omega) (by decide) (Nat.le_trans h3.size hb5.size)
  rw [hlen, World.size_alloc] at hap
  rw [hlen] at r2
  refine ⟨a2, c2, W2, hap, gs ++ [(g1, g2, g3)], ?_, ?_, (below_then h3 hb5).trans (o2.below (Nat.le_trans h3.size hb5.size) fun q hq => (ERow.lt h1 hq).1)⟩
  · rw [take_one hy, hsL_snoc _ _ _ _ h2.len]
    exact r2
  · have h5 := (h2.snoc h3.size hh hb).below hb4
    rw [take_one hy]
    refine h5.keep fun q cs _ hq hc => o2.block q hq fun hq' => ?_
    obtain ⟨cs', hc'⟩ := row_type (ERow.below h1 hb5) hq'
    rw [hc] at hc'
    simp at hc'
set_option maxRecDepth 100000 in
set_option maxHeartbeats 8000000 in
theorem loaded_any (K R : Int) {ao : Option Addr} {n c : Nat} (hE : ErrType w) (hL : LsAt w ao n es) (hN : n ≤ 1200000000000) (hk : ∀ e ∈ es, EOk e) : Calls Tryz.prog 5 #[.int .i64 K, .int .i64 R, .slice ao n c] w fun r w' => ∃ X, r = .returned (.tuple #[.pointer (some ⟨X, 0, none⟩), .bool true]) ∧ Hid (∃ Kb bv mk ke rm L o A, LS w X Kb bv mk ke rm L 0 0 0 o A A 0 w') := by
  obtain ⟨cd, at_, o, hz1, hz2, hp, hd⟩ := load_both K R es hL.1 hN
  have HA : Hid (LsAt w ao n es ∧ n ≤ 1200000000000 ∧ (∀ e ∈ es, EOk e) ∧ es.length = n ∧ ErrType w) := ⟨hL, hN, hk, hL.1, hE⟩
  have HP : Hid (∀ (w : World) (B : Nat) (a : Option Addr) (c : Nat) (hs : List Ent), NRow w B (.slice a n c) hs → (∀ h ∈ hs, Lies w h) → (∀ h ∈ hs, KeyS h.ct) → Tws hs es → Calls Tryz.prog 15 #[.int .i64 K, .int .i64 R, .slice a n c] w fun r w' => ∃ p ev, r = .returned (.tuple #[p, ev]) ∧ Hid (OEv w' w.heap.size ev at_ cd ∧ Below w.heap.size w w' ∧ PB w' w.heap.size p es o)) := hp
  have HDo : Hid (∀ (w : World) (ao : Option Addr) (c : Nat), LsAt w ao n es → Calls Tryz.prog 16 #[.int .i64 K, .int .i64 R, .slice ao n c] w fun r w' => ∃ mk ke rm L, r = .returned (.tuple #[.agg #[mk, ke, rm, L], .int .i64 at_, .int .i64 cd]) ∧ Hid (Below w.heap.size w w' ∧ DB w' w.heap.size mk ke rm L es o)) := hd
  have HZ : Hid ((cd = 0 → at_ = 0) ∧ (cd = 0 ↔ o.isSome = true)) := ⟨hz1, hz2⟩
  have hn12 : (n : Int) ≤ 1200000000000 := by omega
  clear hp hd hz1 hz2 hE hL hN hk
  have H0 : Hid (L1I w es 0 (.slice none 0 0) w) := ⟨[], by rw [List.take_zero]; exact ERow.nil _ _ _ _ _, ⟨by simp, fun k e g _ he => by simp at he, fun k k' g g' _ hg => by simp at hg⟩, Below.refl _ _⟩
  go_enter Tryz.func5, Tryz.ntmps5
  go_wp2_with fail
  go_loopw [8, 9] (fun t8 t9 wx => ∃ i : Nat, i ≤ n ∧ t9 = .int .i64 i ∧ Hid (L1I w es i t8 wx)) (fun _ t9 _ => n - (intOf t9).toNat)
  case atStart => exact ⟨0, Nat.zero_le _, rfl, H0⟩
  case round =>
    obtain ⟨i, hin, rfl, HI⟩ := hrel
    clear H0
    obtain ⟨a8, c8, e8⟩ := HI.out.form (by rw [HA.out.2.2.2.1]; exact hin)
    subst e8
    by_cases hlt : i < n
    · have hlt1 : (i : Int) < n := by omega
      obtain ⟨y, hy⟩ : ∃ y, es[i]? = some y := ⟨_, List.getElem?_eq_getElem (by rw [HA.out.2.2.2.1]; exact hlt)⟩
      have hbl0 : Below w.heap.size w wr := by obtain ⟨_, _, _, h⟩ := HI.out; exact h
      obtain ⟨b, off, rfl, hbl, hc, hly⟩ := (HA.out.1.below hbl0).2 i y hy
      have hok := HA.out.2.2.1 y (List.mem_of_getElem? hy)
      have hhd := handed_full y wr hly hok.2.1 hok.2.2.1 hok.2.2.2
      have HS : Hid (∀ g1 g2 g3 w2, Hd w2 wr.heap.size g1 g2 g3 y → Below wr.heap.size wr w2 → ∃ a2 c2 W2, (Builtin.append_ #[22, 22] 22 #[.slice a8 i c8, .slice (some ⟨w2.heap.size + 1, 0, none⟩) 1 1]).run Tryz.prog ((w2.alloc (.cells #[.string y.ct, .slice (some ⟨g1, 0, none⟩) y.tn (y.tn + 90), .int .i64 y.nu, .int .i64 y.tk, .slice (some ⟨g2, 0, none⟩) y.cn (y.cn + 90), .string y.cd, .slice (some ⟨g3, 0, none⟩) y.an (y.an + 90)] 30)).alloc (.cells #[.string y.ct, .slice (some ⟨g1, 0, none⟩) y.tn (y.tn + 90), .int .i64 y.nu, .int .i64 y.tk, .slice (some ⟨g2, 0, none⟩) y.cn (y.cn + 90), .string y.cd, .slice (some ⟨g3, 0, none⟩) y.an (y.an + 90)] 30)) = .ok (.slice a2 (i + 1) c2) W2 ∧ Hid (L1I w es (i + 1) (.slice a2 (i + 1) c2) W2)) := fun g1 g2 g3 w2 h1 h2 => HI.out.step (by rw [HA.out.2.2.2.1]; exact hlt) (by rw [HA.out.2.2.2.1]; exact HA.out.2.1) hy h1 h2
      have c0 : wr.cell? ⟨b, off + i * 7, none⟩ = some (.string y.ct) := hc 0 (by decide)
      have c1 : wr.cell? ⟨b, off + i * 7 + 1, none⟩ = some (.slice y.tp y.tn y.tc) := hc 1 (by decide)
      have c2 : wr.cell? ⟨b, off + i * 7 + 2, none⟩ = some (.int .i64 y.nu) := hc 2 (by decide)
      have c3 : wr.cell? ⟨b, off + i * 7 + 3, none⟩ = some (.int .i64 y.tk) := hc 3 (by decide)
      have c4 : wr.cell? ⟨b, off + i * 7 + 4, none⟩ = some (.slice y.cp y.cn y.cc) := hc 4 (by decide)
      have c5 : wr.cell? ⟨b, off + i * 7 + 5, none⟩ = some (.string y.cd) := hc 5 (by decide)
      have c6 : wr.cell? ⟨b, off + i * 7 + 6, none⟩ = some (.slice y.ap y.an y.ac) := hc 6 (by decide)
      clear hy hbl0 hly hok HI hc
      go_wp2_with fail
      refine hhd.mono ?_
      rintro _ w2 ⟨g1, g2, g3, rfl, hh, b2⟩
      obtain ⟨a2, cq, W2, hap, HN⟩ := HS.out g1 g2 g3 w2 hh b2
      clear hhd hh b2 HS c0 c1 c2 c3 c4 c5 c6
      go_wp2_with (at_builtin; refine wpList_append_run rfl (.tmp 31) (.tmp 33) 22 _ rfl hap ?_)
      go_roundw
      case rel => exact ⟨i + 1, hlt, by go_num, HN⟩
      case measure => simp [intOf]; omega
    · have hlt1 : ¬ (i : Int) < n := by omega
      obtain rfl : i = n := by omega
      obtain ⟨U1, rfl⟩ : ∃ U, U = wr := ⟨_, rfl⟩
      have het : es.take i = es := List.take_of_length_le (by rw [HA.out.2.2.2.1]; exact Nat.le_refl _)
      obtain ⟨gs, h1, h2, h3⟩ := HI.out
      rw [het] at h1 h2
      have H1 : Hid (NRow U1 w.heap.size (.slice a8 i c8) (hsL es gs) ∧ HdsAt U1 w.heap.size es gs 0 ∧ Below w.heap.size w U1) := ⟨h1, h2, h3⟩
      have hpl := HP.out U1 w.heap.size a8 c8 (hsL es gs) h1 h2.lies (hs_keys h2.len fun e he => (HA.out.2.2.1 e he).1) (hsL_tws h2.len)
      clear HI het h1 h2 h3 HP
      go_wp2_with fail
      refine hpl.mono ?_
      rintro _ U2 ⟨p, ev, rfl, H2⟩
      have hdl := HDo.out U2 ao c (HA.out.1.below (below_then H1.out.2.2 H2.out.2.1))
      clear hpl HDo
      go_wp2_with fail
      refine hdl.mono ?_
      rintro _ U3 ⟨mk, ke, rm, L, rfl, H3⟩
      obtain ⟨k0, r0, la, ln, lc, f1, f2, f3, f4⟩ := H3.out.2.form
      subst f1 f2 f3 f4
      obtain ⟨pa, f5, hpa⟩ := H2.out.2.2.form
      subst f5
      clear hdl
      obtain ⟨V3, hV3⟩ : ∃ V, U3.alloc (.cells #[.bool o.isSome, .int .i64 k0, .int .i64 r0, .slice la ln lc] 43) = V := ⟨_, rfl⟩
      have b23 : Below U3.heap.size U3 V3 := by rw [← hV3]; exact (Below.refl _ _).alloc (Nat.le_refl _) _
      have sz3 : V3.heap.size = U3.heap.size + 1 := by rw [← hV3]; simp
      have HB3 : Hid (V3.heap[U3.heap.size]? = some (.cells #[.bool o.isSome, .int .i64 k0, .int .i64 r0, .slice la ln lc] 43 (0, 0))) := by rw [← hV3]; exact heap_alloc_new _ _
      have b13 : Below U2.heap.size U2 V3 := below_then H3.out.1 b23
      have bw3 : Below w.heap.size w V3 := below_then H1.out.2.2 (below_then H2.out.2.1 b13)
      have HF := lfault_any (H2.out.1.below b13) HZ.out.1 (errType_below HA.out.2.2.2.2 bw3)
      have HK : Hid (Below U2.heap.size U2 V3 ∧ Below w.heap.size w V3 ∧ Below U3.heap.size U3 V3 ∧ V3.heap.size = U3.heap.size + 1) := ⟨b13, bw3, b23, sz3⟩
      clear b23 b13 bw3 sz3
      go_upto_region 9 with fail
      try rw [hV3]
      clear hV3
      go_wp2_with fail
      refine HF.mono ?_
      rintro _ U4 ⟨rfl, b4⟩
      have HK4 : Hid (Below V3.heap.size V3 U4) := b4
      have cb0 := hcell (blk_below HB3.out b4) 0
      have cb1 := hcell (blk_below HB3.out b4) 1
      have cb2 := hcell (blk_below HB3.out b4) 2
      have cb3 := hcell (blk_below HB3.out b4) 3
      simp only [List.getElem?_toArray, List.getElem?_cons_zero, List.getElem?_cons_succ] at cb0 cb1 cb2 cb3
      clear b4 HF
      go_upto_region 11 with fail
      have HL := ls_ld H2.out.2.2 H3.out.2 H1.out.2.2 H2.out.2.1 H3.out.1 (below_then HK.out.2.2.1 HK4.out)
      have hb45 := below_allocL (below_allocL (Below.refl U4.heap.size U4) (Nat.le_refl _) (.cells #[.slice none 0 0, .slice none 0 0, .slice none 0 0, .slice none 0 0, .slice none 0 0, .slice none 0 0] 52)) (by simp) (.cells #[.pointer pa, .bool o.isSome, .int .i64 k0, .int .i64 r0, .slice la ln lc, .pointer (some ⟨U4.heap.size, 0, none⟩), .slice none 0 0, .slice none 0 0] 55)
      have hb15 := below_then H2.out.2.1 (below_then HK.out.1 (below_then HK4.out hb45))
      have cv0 := hcell (blk_below HB3.out (below_then HK4.out hb45)) 0
      simp only [List.getElem?_toArray, List.getElem?_cons_zero] at cv0
      obtain ⟨V5, hV5⟩ : ∃ V, ((U4.alloc (.cells #[.slice none 0 0, .slice none 0 0, .slice none 0 0, .slice none 0 0, .slice none 0 0, .slice none 0 0] 52)).alloc (.cells #[.pointer pa, .bool o.isSome, .int .i64 k0, .int .i64 r0, .slice la ln lc, .pointer (some ⟨U4.heap.size, 0, none⟩), .slice none 0 0, .slice none 0 0] 55)) = V := ⟨_, rfl⟩
      rw [hV5] at HL hb45 hb15 cv0 ⊢
      clear hV5 hb45 cb0 cb1 cb2 cb3
      obtain ⟨X, hX⟩ : ∃ X, U4.heap.size + 1 = X := ⟨_, rfl⟩
      obtain ⟨Kb, hKb⟩ : ∃ X, U4.heap.size = X := ⟨_, rfl⟩
      obtain ⟨Rb, hRb⟩ : ∃ X, U3.heap.size = X := ⟨_, rfl⟩
      rw [hX, hKb] at HL
      rw [hX]
      rw [hRb] at cv0 ⊢
      have h1D := H1.out.2.1.below hb15
      have h2I : L2I w X Kb (.pointer pa) (.bool o.isSome) (.int .i64 k0) (.int .i64 r0) (.slice la ln lc) U1.heap.size o (if o.isSome then es else []) es gs a8 i c8 0 V5 := ⟨⟨_, ERow.below H1.out.1 hb15, fun k _ => rfl⟩, h1D, HL⟩
      have H5 : Hid (LsAt V5 ao i es ∧ L2I w X Kb (.pointer pa) (.bool o.isSome) (.int .i64 k0) (.int .i64 r0) (.slice la ln lc) U1.heap.size o (if o.isSome then es else []) es gs a8 i c8 0 V5) := ⟨HA.out.1.below (below_then H1.out.2.2 hb15), h2I⟩
      clear h1D h2I HL hX hKb hRb hb15 HK HK4 HB3 H2 H3
      go_cut [83] (fun t83 wx => t83 = .bool false ∧ wx = V5)
      case first =>
        clear H5
        go_wp2_with fail
        refine (num_any _ _).mono ?_
        rintro _ w9 ⟨rfl, h9⟩
        subst w9
        rcases o with _ | ⟨K', R'⟩
        · obtain rfl : pa = none := by simpa using hpa
          go_wp2_with fail
          go_meet
          exact ⟨rfl, rfl⟩
        · obtain ⟨px, rfl⟩ : ∃ px, pa = some px := Option.isSome_iff_exists.1 (by simpa using hpa)
          go_wp2_with fail
          go_meet
          exact ⟨rfl, rfl⟩
      case rest =>
      obtain ⟨e83, ew⟩ := hcut
      subst e83
      rw [ew]
      clear ew cv0 hpa
      go_wp2_with fail
      go_loopw [19] (fun t19 wx => ∃ j : Nat, j ≤ i ∧ t19 = .int .i64 j ∧ Hid (L2I w X Kb (.pointer pa) (.bool o.isSome) (.int .i64 k0) (.int .i64 r0) (.slice la ln lc) U1.heap.size o (if o.isSome then es else []) es gs a8 i c8 j wx)) (fun t19 _ => i - (intOf t19).toNat)
      case atStart => exact ⟨0, Nat.zero_le _, rfl, H5.out.2⟩
      case round =>
        obtain ⟨j, hji, rfl, HI⟩ := hrel
        clear H5
        by_cases hjl : j < i
        · have hj1 : (j : Int) < i := by omega
          obtain ⟨y, hy⟩ : ∃ y, es[j]? = some y := ⟨_, List.getElem?_eq_getElem (by rw [HA.out.2.2.2.1]; exact hjl)⟩
          obtain ⟨g, hg⟩ : ∃ g, gs[j]? = some g := ⟨_, List.getElem?_eq_getElem (by rw [← H1.out.2.1.len, HA.out.2.2.2.1]; exact hjl)⟩
          obtain ⟨b, off, rfl, hbl, hc, hly⟩ := (HA.out.1.below HI.out.ls.bel).2 j y hy
          have hok := HA.out.2.2.1 y (List.mem_of_getElem? hy)
          obtain ⟨rs, hr1, hr2⟩ := HI.out.row
          obtain ⟨g8, e8, hl8, hd8⟩ := ERow.at_ encE_len hr1 ((hr2 j (Nat.le_refl _)).trans (hsL_get es gs j y g hy hg))
          subst e8
          have hh := HI.out.hds.hd j y g (Nat.le_refl _) hy hg
          have HKp : Hid (∀ z, Below wr.heap.size wr z → Calls Tryz.prog 18 #[.agg #[.string y.ct, .slice (some ⟨g.1, 0, none⟩) y.tn (y.tn + 90), .int .i64 y.nu, .int .i64 y.tk, .slice (some ⟨g.2.1, 0, none⟩) y.cn (y.cn + 90), .string y.cd, .slice (some ⟨g.2.2, 0, none⟩) y.an (y.an + 90)], .agg #[.string y.ct, .slice y.tp y.tn y.tc, .int .i64 y.nu, .int .i64 y.tk, .slice y.cp y.cn y.cc, .string y.cd, .slice y.ap y.an y.ac]] z fun r z' => r = .returned (.bool true) ∧ Below wr.heap.size wr z') := fun z hz => (kept_any y (hh.below hz) (hly.below hz) hok.2.1 hok.2.2.1 hok.2.2.2).mono fun r z' ⟨h1, h2⟩ => ⟨h1, below_then hz h2⟩
          have HL8 : Hid (es[j]? = some y ∧ gs[j]? = some g ∧ g8 < wr.heap.size ∧ g8 < U1.heap.size ∧ g.1 < U1.heap.size ∧ g.2.1 < U1.heap.size ∧ g.2.2 < U1.heap.size) := ⟨hy, hg, hl8, (ERow.lt H1.out.1 rfl).2, (H1.out.2.1.hd j y g (Nat.zero_le _) hy hg).t.lt.2, (H1.out.2.1.hd j y g (Nat.zero_le _) hy hg).c.lt.2, (H1.out.2.1.hd j y g (Nat.zero_le _) hy hg).a.lt.2⟩
          have c0 : wr.cell? ⟨b, off + j * 7, none⟩ = some (.string y.ct) := hc 0 (by decide)
          have c1 : wr.cell? ⟨b, off + j * 7 + 1, none⟩ = some (.slice y.tp y.tn y.tc) := hc 1 (by decide)
          have c2 : wr.cell? ⟨b, off + j * 7 + 2, none⟩ = some (.int .i64 y.nu) := hc 2 (by decide)
          have c3 : wr.cell? ⟨b, off + j * 7 + 3, none⟩ = some (.int .i64 y.tk) := hc 3 (by decide)
          have c4 : wr.cell? ⟨b, off + j * 7 + 4, none⟩ = some (.slice y.cp y.cn y.cc) := hc 4 (by decide)
          have c5 : wr.cell? ⟨b, off + j * 7 + 5, none⟩ = some (.string y.cd) := hc 5 (by decide)
          have c6 : wr.cell? ⟨b, off + j * 7 + 6, none⟩ = some (.slice y.ap y.an y.ac) := hc 6 (by decide)
          have d0 : wr.cell? ⟨g8, j * 7, none⟩ = some (.string y.ct) := hd8 0 (by decide)
          have d1 : wr.cell? ⟨g8, j * 7 + 1, none⟩ = some (.slice (some ⟨g.1, 0, none⟩) y.tn (y.tn + 90)) := hd8 1 (by decide)
          have d2 : wr.cell? ⟨g8, j * 7 + 2, none⟩ = some (.int .i64 y.nu) := hd8 2 (by decide)
          have d3 : wr.cell? ⟨g8, j * 7 + 3, none⟩ = some (.int .i64 y.tk) := hd8 3 (by decide)
          have d4 : wr.cell? ⟨g8, j * 7 + 4, none⟩ = some (.slice (some ⟨g.2.1, 0, none⟩) y.cn (y.cn + 90)) := hd8 4 (by decide)
          have d5 : wr.cell? ⟨g8, j * 7 + 5, none⟩ = some (.string y.cd) := hd8 5 (by decide)
          have d6 : wr.cell? ⟨g8, j * 7 + 6, none⟩ = some (.slice (some ⟨g.2.2, 0, none⟩) y.an (y.an + 90)) := hd8 6 (by decide)
          clear hok hc hly hr1 hr2 hd8 hh hy hg hl8
          go_upto_region 16 with fail
          go_cut [100] (fun t100 wx => t100 = .bool false ∧ Hid (Below wr.heap.size wr wx))
          case first =>
            clear HI HL8
            go_region_law (go_simp; go_at_call 18; refine (HKp.out _ ?_).mono ?_; (first | exact Below.refl _ _ | exact Below.drew (Below.refl _ _)); rintro _ y1 ⟨rfl, b6⟩)
            all_goals
              have H6 : Hid (Below wr.heap.size wr y1) := b6
              have H7 : Hid (Below wr.heap.size wr y1.drew) := Below.drew b6
              clear b6
              go_wp2_with fail
              go_meet
              first | exact ⟨rfl, H6⟩ | exact ⟨rfl, H7⟩
          case rest =>
            obtain ⟨w6, rfl⟩ : ∃ U, U = wc := ⟨_, rfl⟩
            obtain ⟨e100, H6⟩ := hcut
            subst e100
            clear HKp c0 c1 c2 c3 c4 c5 c6 d0 d1 d2 d3 d4 d5 d6
            have HI6 : Hid (L2I w X Kb (.pointer pa) (.bool o.isSome) (.int .i64 k0) (.int .i64 r0) (.slice la ln lc) U1.heap.size o (if o.isSome then es else []) es gs (some ⟨g8, 0, none⟩) i c8 j w6) := HI.out.below H6.out
            obtain ⟨rs, hr1, hr2⟩ := HI6.out.row
            obtain ⟨g', e8, hl8, hd8⟩ := ERow.at_ encE_len hr1 ((hr2 j (Nat.le_refl _)).trans (hsL_get es gs j y g HL8.out.1 HL8.out.2.1))
            obtain rfl : g8 = g' := by simpa using e8
            have htu := turned_any y (HI6.out.hds.hd j y g (Nat.le_refl _) HL8.out.1 HL8.out.2.1)
            have d0 : w6.cell? ⟨g8, j * 7, none⟩ = some (.string y.ct) := hd8 0 (by decide)
            have d1 : w6.cell? ⟨g8, j * 7 + 1, none⟩ = some (.slice (some ⟨g.1, 0, none⟩) y.tn (y.tn + 90)) := hd8 1 (by decide)
            have d2 : w6.cell? ⟨g8, j * 7 + 2, none⟩ = some (.int .i64 y.nu) := hd8 2 (by decide)
            have d3 : w6.cell? ⟨g8, j * 7 + 3, none⟩ = some (.int .i64 y.tk) := hd8 3 (by decide)
            have d4 : w6.cell? ⟨g8, j * 7 + 4, none⟩ = some (.slice (some ⟨g.2.1, 0, none⟩) y.cn (y.cn + 90)) := hd8 4 (by decide)
            have d5 : w6.cell? ⟨g8, j * 7 + 5, none⟩ = some (.string y.cd) := hd8 5 (by decide)
            have d6 : w6.cell? ⟨g8, j * 7 + 6, none⟩ = some (.slice (some ⟨g.2.2, 0, none⟩) y.an (y.an + 90)) := hd8 6 (by decide)
            clear hr1 hr2 hd8 e8 hl8 H6 HI
            go_wp2_with fail
            refine htu.mono ?_
            rintro _ w7 ⟨rfl, O7⟩
            have HI7 : Hid (L2I w X Kb (.pointer pa) (.bool o.isSome) (.int .i64 k0) (.int .i64 r0) (.slice la ln lc) U1.heap.size o (if o.isSome then es else []) es gs (some ⟨g8, 0, none⟩) i c8 (j + 1) (w7.setCells g8 (j * 7) (encE gone))) := HI6.out.step HL8.out.1 HL8.out.2.1 ⟨HL8.out.2.2.2.1, HL8.out.2.2.2.2.1, HL8.out.2.2.2.2.2.1, HL8.out.2.2.2.2.2.2⟩ O7.out
            obtain ⟨rs, hr1, hr2⟩ := HI6.out.rowT HL8.out.1 HL8.out.2.1 O7.out
            obtain ⟨g', e8, hl8, hd8⟩ := ERow.at_ encE_len hr1 hr2
            obtain rfl : g8 = g' := by simpa using e8
            have hfz := ERow.thaw hr1
            have f0 : w7.cell? ⟨g8, j * 7, none⟩ = some (.string y.ct) := hd8 0 (by decide)
            have f1 : w7.cell? ⟨g8, j * 7 + 1, none⟩ = some (.slice (some ⟨g.1, 0, none⟩) y.tn (y.tn + 90)) := hd8 1 (by decide)
            have f2 : w7.cell? ⟨g8, j * 7 + 2, none⟩ = some (.int .i64 y.nu) := hd8 2 (by decide)
            have f3 : w7.cell? ⟨g8, j * 7 + 3, none⟩ = some (.int .i64 y.tk) := hd8 3 (by decide)
            have f4 : w7.cell? ⟨g8, j * 7 + 4, none⟩ = some (.slice (some ⟨g.2.1, 0, none⟩) y.cn (y.cn + 90)) := hd8 4 (by decide)
            have f5 : w7.cell? ⟨g8, j * 7 + 5, none⟩ = some (.string y.cd) := hd8 5 (by decide)
            have f6 : w7.cell? ⟨g8, j * 7 + 6, none⟩ = some (.slice (some ⟨g.2.2, 0, none⟩) y.an (y.an + 90)) := hd8 6 (by decide)
            clear hr1 hr2 hd8 e8 O7 htu d0 d1 d2 d3 d4 d5 d6 HI6 HL8
            go_wp2_with fail
            go_roundw
            case rel => exact ⟨j + 1, hjl, by go_num, HI7⟩
            case measure => simp [intOf]; omega
        · have hj1 : ¬ (j : Int) < i := by omega
          have HF : Hid (∃ Kb bv mk ke rm L o A, LS w X Kb bv mk ke rm L 0 0 0 o A A 0 wr) := ⟨_, _, _, _, _, _, _, _, HI.out.ls.free⟩
          clear HI
          go_wp2_with fail
          go_ret2
          exact ⟨X, rfl, HF⟩
end
end Go.Proofs.YtjbkfppibnlmoaaGreatDoor.Lg
