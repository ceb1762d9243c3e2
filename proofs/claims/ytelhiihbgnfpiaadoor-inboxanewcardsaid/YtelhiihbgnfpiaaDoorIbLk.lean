/-
  The law's likewise: what each of its calls comes to, beside the other box.
-/
import Derived.Test.YtelhiihbgnfpiaaDoorIbTwo
import Derived.Test.YtelhiihbgnfpiaaDoorIbDcdd
namespace Go.Proofs.YtelhiihbgnfpiaaDoor
open Go.RowKit

theorem ops_mem' {es : List Ent} {s : ByteArray} (h : s ∈ opS es) : ∃ e ∈ es, e.ct = s := by
  unfold opS at h
  obtain ⟨e, h1, h2⟩ := List.mem_map.1 h
  exact ⟨e, (List.mem_filter.1 h1).1, h2⟩
theorem may_sz' {e : Ent} (h : mayB e = true) : Sz e := by
  have := mayB_is h
  exact ⟨by omega, by omega, by omega⟩
section
variable {w X : World} {b sb M b' sb' M' : Nat} {K R : Int} {A A' : List Ent}
theorem lb_open (h : Lb1 w b sb M K R A X) : Calls Tryd.prog 24 #[.pointer (some ⟨b, 0, none⟩)] X fun r w' => ∃ a n c, r = .returned (.slice a n c) ∧ Hid (Below X.heap.size X w' ∧ n ≤ 1000000 ∧ ∃ l, TRow w' X.heap.size (.slice a n c) l ∧ ∀ s ∈ l, KeyS s) := by
  obtain ⟨v, es, h⟩ := h
  refine (open_any h.bx).mono ?_
  rintro r w' ⟨u, hr, hT, hb⟩
  obtain ⟨a, c, e1, _⟩ := ERow.isSlice hT
  subst e1
  have hl : (opS es).length ≤ 97 := by
    have := h.bx.inv.len
    unfold opS
    rw [List.length_map]
    exact Nat.le_trans (List.length_filter_le _ _) this
  refine ⟨a, _, c, hr, hb, by omega, _, hT, fun s hs => ?_⟩
  obtain ⟨e, he, rfl⟩ := ops_mem' hs
  exact keyS_of (h.bx.sh.ok e he)
theorem lb_last (h : Lb1 w b sb M K R A X) : Calls Tryd.prog 26 #[.pointer (some ⟨b, 0, none⟩)] X fun r w' => ∃ (m : Ent) (t : Bool), r = .returned (.tuple #[.agg #[.string m.ct, .slice m.tp m.tn m.tc, .int .i64 m.nu, .int .i64 m.tk, .slice m.cp m.cn m.cc, .string m.cd, .slice m.ap m.an m.ac], .bool t]) ∧ Hid (Below X.heap.size X w') := by
  obtain ⟨v, es, h⟩ := h
  refine (blast_any h.bx rfl rfl).mono ?_
  rintro r w' ⟨a, c, a', c', a'', c'', hr, _, hb⟩
  exact ⟨(lasE es).wi a c a' c' a'' c'', _, hr, hb⟩
/-- The entry of a control id; the zero one where there is none. -/
def fdE (A : List Ent) (s : ByteArray) : Ent := match fi s A with | some i => A.getD i zE | none => zE
theorem lb_find (h : Lb1 w b sb M K R A X) {s : ByteArray} (hk : KeyS s) {t : Bool} (ht : t = (fi s A).isSome) : Calls Tryd.prog 13 #[.pointer (some ⟨b, 0, none⟩), .string s] X fun r w' => ∃ m : Ent, r = .returned (.tuple #[.agg #[.string m.ct, .slice m.tp m.tn m.tc, .int .i64 m.nu, .int .i64 m.tk, .slice m.cp m.cn m.cc, .string m.cd, .slice m.ap m.an m.ac], .bool t]) ∧ Hid (Below X.heap.size X w' ∧ Lies w' m ∧ Sz m ∧ Tw m (fdE A s)) := by
  obtain ⟨v, es, h⟩ := h
  have hfe := h.t.fi_eq (s := s)
  cases hf : fi s A with
  | none =>
    rw [hf] at hfe ht
    subst ht
    refine (find_no h.bx hk hfe).mono ?_
    rintro r w' ⟨a, c, a', c', a'', c'', hr, ho, hb⟩
    refine ⟨zE.wi a c a' c' a'' c'', hr, hb, ho.lies, ⟨Nat.zero_le _, Nat.zero_le _, Nat.zero_le _⟩, ?_⟩
    unfold fdE
    rw [hf]
    exact Tw.symm ⟨a, c, a', c', a'', c'', rfl⟩
  | some i =>
    rw [hf] at hfe ht
    subst ht
    obtain ⟨m, hm, _⟩ := fi_some hfe
    obtain ⟨y, hy, hty⟩ := h.t.at_ hm
    refine (find_yes h.bx hk hfe hm).mono ?_
    rintro r w' ⟨a, c, a', c', a'', c'', hr, ho, hb⟩
    refine ⟨m.wi a c a' c' a'' c'', hr, hb, ho.lies, may_sz' (h.bx.sh.ok m (List.mem_of_getElem? hm)), ?_⟩
    unfold fdE
    rw [hf]
    simp only [List.getD_eq_getElem?_getD, hy, Option.getD_some]
    exact Tw.trans (Tw.symm ⟨a, c, a', c', a'', c'', rfl⟩) hty
/-- A list that tells what A does. -/
def Lst (X : World) (A : List Ent) (u : Value) : Prop := ∃ B ls, NRow X B u ls ∧ Tws ls A ∧ ∀ l ∈ ls, Lies X l ∧ Sz l
theorem Lst.below {X Y : World} {A : List Ent} {u : Value} (h : Lst X A u) (hb : Below X.heap.size X Y) : Lst Y A u := by
  obtain ⟨B, ls, h1, h2, h3⟩ := h
  exact ⟨B, ls, ERow.below h1 hb, h2, fun l hl => ⟨(h3 l hl).1.below hb, (h3 l hl).2⟩⟩
theorem lb_list (h : Lb1 w b sb M K R A X) : Calls Tryd.prog 7 #[.pointer (some ⟨b, 0, none⟩)] X fun r w' => ∃ a c, r = .returned (.slice a A.length c) ∧ Hid (Below X.heap.size X w' ∧ Lst w' A (.slice a A.length c)) := by
  obtain ⟨v, es, h⟩ := h
  refine (list_any h.bx).mono ?_
  rintro r w' ⟨ls, a, c, hr, hN, hC, hb⟩
  rw [h.t.1] at hr hN
  exact ⟨a, c, hr, hb, _, ls, hN, hC.tws.trans h.t, fun l hl => ⟨(hC.own l hl).lies, may_sz' (hC.ok h.bx.sh.ok l hl)⟩⟩
theorem lst_same {a a' : Option Addr} {c c' : Nat} (h : Lst X A (.slice a A.length c)) (h' : Lst X A (.slice a' A.length c')) : Calls Tryd.prog 8 #[.slice a A.length c, .slice a' A.length c'] X fun e w' => e = .returned (.bool true) ∧ Hid (Below X.heap.size X w') := by
  obtain ⟨B, ls, h1, h2, h3⟩ := h
  obtain ⟨B', ls', h1', h2', h3'⟩ := h'
  exact (sameList_true h1 h1' (h2.trans h2'.symm) (fun l hl => (h3 l hl).1) (fun l hl => (h3' l hl).1) (fun l hl => (h3 l hl).2)).mono fun e w' ⟨he, hb⟩ => ⟨he, hb⟩
theorem ent_same {x y : Ent} (hx : Lies X x ∧ Sz x) (hy : Lies X y) (ht : Tw x y) : Calls Tryd.prog 23 #[.agg #[.string x.ct, .slice x.tp x.tn x.tc, .int .i64 x.nu, .int .i64 x.tk, .slice x.cp x.cn x.cc, .string x.cd, .slice x.ap x.an x.ac], .agg #[.string y.ct, .slice y.tp y.tn y.tc, .int .i64 y.nu, .int .i64 y.tk, .slice y.cp y.cn y.cc, .string y.cd, .slice y.ap y.an y.ac]] X fun r w' => r = .returned (.bool true) ∧ Hid (Below X.heap.size X w') := by
  obtain ⟨a, c, a', c', a'', c'', rfl⟩ := ht
  exact (same_true x hx.1 hy hx.2.1 hx.2.2.1 hx.2.2.2).mono fun e w' ⟨he, hb⟩ => ⟨he, hb⟩
/-- The call's box is written. -/
theorem LbF.put {v : Value} {es : List Ent} {yb : Nat} {y : Opv} (h : LbF w X b sb M v K R es A) (hO : OB X yb y) (hw : w.heap.size ≤ yb) (j : Nat) (u : Value) : LbF w (X.setCell ⟨yb, j, none⟩ u) b sb M v K R es A := by
  have o1 : Off (fun q => q = yb) X (X.setCell ⟨yb, j, none⟩ u) := Off.setCell (P := fun q => q = yb) (Off.refl _ _) (p := ⟨yb, j, none⟩) rfl _
  refine ⟨h.bx.off o1 (fun e => ?_) (fun q hq e => ?_) (fun q cs hq e => ?_), h.t, h.bel.trans (o1.below h.bel.size fun q hq => by omega)⟩
  · have h1 := h.bx.blk
    rw [e, hO] at h1
    simp at h1
  · exact h.bx.sh.notType (by decide) (by decide) hO (e ▸ hq)
  · rw [e, hO] at hq
    simp at hq
theorem Lb1.put {yb : Nat} {y : Opv} (h : Lb1 w b sb M K R A X) (hO : OB X yb y) (hw : w.heap.size ≤ yb) (j : Nat) (u : Value) : Lb1 w b sb M K R A (X.setCell ⟨yb, j, none⟩ u) := by
  obtain ⟨v, es, h⟩ := h
  exact ⟨v, es, h.put hO hw j u⟩
theorem Lb2.put {yb : Nat} {y : Opv} (h : Lb2 w b sb M b' sb' M' K R A A' X) (hO : OB X yb y) (hw : w.heap.size ≤ yb) (j : Nat) (u : Value) : Lb2 w b sb M b' sb' M' K R A A' (X.setCell ⟨yb, j, none⟩ u) := by
  obtain ⟨v, v', es, es', h⟩ := h
  exact ⟨v, v', es, es', h.p.put hO hw j u, h.q.put hO hw j u, h.d⟩
theorem OB.ct {yb : Nat} {y : Opv} (hO : OB X yb y) (s : ByteArray) : OB (X.setCell ⟨yb, 10, none⟩ (.string s)) yb { y with ct := s } := set_heap hO 10 _
theorem OB.tk {yb : Nat} {y : Opv} (hO : OB X yb y) (t : Int) : OB (X.setCell ⟨yb, 6, none⟩ (.int .i64 t)) yb { y with e := { y.e with tk := t } } := set_heap hO 6 _
/-! ### Accept and Decide of the one, the other beside it -/
theorem lb_acc1 (h : Lb1 w b sb M K R A X) {e e0 : Ent} (he : Tw e e0) (hk : KeyS e.ct) (hl : Lies X e) : Calls Tryd.prog 10 #[.pointer (some ⟨b, 0, none⟩), .agg #[.string e.ct, .slice e.tp e.tn e.tc, .int .i64 e.nu, .int .i64 e.tk, .slice e.cp e.cn e.cc, .string e.cd, .slice e.ap e.an e.ac]] X fun r w' => ∃ ev, r = .returned ev ∧ Hid (Lb1 w b sb M K R (accS R A e0) w' ∧ OEv w' X.heap.size ev 0 (accC R A e0)) := by
  obtain ⟨v, es, h⟩ := h
  refine (acc_q h.bx h.t e e0 he hk hl).mono ?_
  rintro r w' ⟨ev, hr, hh⟩
  obtain ⟨es1, hq, ht, ho⟩ := hh.out
  exact ⟨ev, hr, (Lb1.step h hq ht).1, ho⟩
theorem lb_acc2 (h : Lb2 w b sb M b' sb' M' K R A A' X) {yb : Nat} {y : Opv} (hO : OB X yb y) {e e0 : Ent} (he : Tw e e0) (hk : KeyS e.ct) (hl : Lies X e) : Calls Tryd.prog 10 #[.pointer (some ⟨b, 0, none⟩), .agg #[.string e.ct, .slice e.tp e.tn e.tc, .int .i64 e.nu, .int .i64 e.tk, .slice e.cp e.cn e.cc, .string e.cd, .slice e.ap e.an e.ac]] X fun r w' => ∃ ev, r = .returned ev ∧ Hid (Lb2 w b sb M b' sb' M' K R (accS R A e0) A' w' ∧ OB w' yb y ∧ OEv w' X.heap.size ev 0 (accC R A e0)) := by
  obtain ⟨v, v', es, es', h⟩ := h
  refine (acc_q h.p.bx h.p.t e e0 he hk hl).mono ?_
  rintro r w' ⟨ev, hr, hh⟩
  obtain ⟨es1, hq, ht, ho⟩ := hh.out
  obtain ⟨h1, h2⟩ := Lb2.step h hq ht
  exact ⟨ev, hr, h1, hO.step h.p.bx h2, ho⟩
theorem lb_dec1 (h : Lb1 w b sb M K R A X) {yb : Nat} {y : Opv} (hO : OB X yb y) {s cd : ByteArray} {po : Option Addr} {n co : Nat} {bs : List Int} (hk : KeyS s) (hb : Byts X po n bs) (hn : n ≤ 9223372036854775807) : Calls Tryd.prog 12 #[.pointer (some ⟨b, 0, none⟩), .string s, .string cd, .slice po n co] X fun r w' => ∃ a m k ev, r = .returned (.tuple #[.slice a m k, ev]) ∧ Hid (Lb1 w b sb M K R (dcS K A s cd n bs) w') ∧ OB w' yb y := by
  obtain ⟨v, es, h⟩ := h
  refine (dec_q h.bx h.t hk hb hn).mono ?_
  rintro r w' ⟨a, m, k, ev, hr, hh⟩
  obtain ⟨es1, hq, ht, _⟩ := hh.out
  obtain ⟨h1, h2⟩ := Lb1.step h hq ht
  exact ⟨a, m, k, ev, hr, h1, hO.step h.bx h2⟩
/-- Behind one Decide: what it told. -/
def Tld (K : Int) (A : List Ent) (s cd : ByteArray) (n : Nat) (bs : List Int) (a : Option Addr) (m k : Nat) (ev : Value) (X : World) : Prop := (∃ B, OEv X B ev 0 (decC A s cd n)) ∧ (∃ B, TRow X B (.slice a m k) (gnS K A s cd n bs)) ∧ m = (gnS K A s cd n bs).length
theorem Tld.below {Y : World} {s cd : ByteArray} {n : Nat} {bs : List Int} {a : Option Addr} {m k : Nat} {ev : Value} (h : Tld K A s cd n bs a m k ev X) (hb : Below X.heap.size X Y) : Tld K A s cd n bs a m k ev Y := by
  obtain ⟨⟨B, h1⟩, ⟨B', h2⟩, h3⟩ := h
  exact ⟨⟨B, h1.below hb⟩, ⟨B', ERow.below h2 hb⟩, h3⟩
/-- The first one's Decide. -/
theorem lb_dec2 (h : Lb2 w b sb M b' sb' M' K R A A' X) {yb : Nat} {y : Opv} (hO : OB X yb y) {s cd : ByteArray} {po : Option Addr} {n co : Nat} {bs : List Int} (hk : KeyS s) (hb : Byts X po n bs) (hn : n ≤ 9223372036854775807) : Calls Tryd.prog 12 #[.pointer (some ⟨b, 0, none⟩), .string s, .string cd, .slice po n co] X fun r w' => ∃ a m k ev, r = .returned (.tuple #[.slice a m k, ev]) ∧ Hid (∃ v v' es es', LbG w w' b sb M v b' sb' M' v' K R es (dcS K A s cd n bs) es' A' ∧ OB w' yb y ∧ Tld K A s cd n bs a m k ev w' ∧ OEv w' X.heap.size ev 0 (decC A s cd n) ∧ ∀ q, Ft sb' M' v' q → q < X.heap.size) := by
  obtain ⟨v, v', es, es', h⟩ := h
  refine (dec_q h.p.bx h.p.t hk hb hn).mono ?_
  rintro r w' ⟨a, m, k, ev, hr, hh⟩
  obtain ⟨es1, hq, ht, ho, hT, hm⟩ := hh.out
  obtain ⟨v1, h1, h2⟩ := h.step hq ht
  exact ⟨a, m, k, ev, hr, v1, v', es1, es', h1, hO.step h.p.bx h2, ⟨⟨_, ho⟩, ⟨_, hT⟩, hm⟩, ho, fun q hq => h.q.bx.ftlt hq⟩
/-- Then the other one's, what the first told beside it. -/
theorem lb_dec3 {Z : Nat} {v v' : Value} {es es' A1 : List Ent} (h : LbG w X b sb M v b' sb' M' v' K R es A1 es' A') {yb : Nat} {y : Opv} (hO : OB X yb y) {s cd : ByteArray} {po : Option Addr} {n co : Nat} {bs : List Int} {a : Option Addr} {m k : Nat} {ev : Value} (hT : Tld K A s cd n bs a m k ev X) (hE : OEv X Z ev 0 (decC A s cd n)) (hZ : ∀ q, Ft sb' M' v' q → q < Z) (hk : KeyS s) (hb : Byts X po n bs) (hn : n ≤ 9223372036854775807) : Calls Tryd.prog 12 #[.pointer (some ⟨b', 0, none⟩), .string s, .string cd, .slice po n co] X fun r w' => ∃ a1 m1 k1 ev1, r = .returned (.tuple #[.slice a1 m1 k1, ev1]) ∧ Hid (Lb2 w b sb M b' sb' M' K R A1 (dcS K A' s cd n bs) w' ∧ OB w' yb y ∧ Tld K A s cd n bs a m k ev w' ∧ Tld K A' s cd n bs a1 m1 k1 ev1 w') := by
  refine (dec_q h.q.bx h.q.t hk hb hn).mono ?_
  rintro r w' ⟨a1, m1, k1, ev1, hr, hh⟩
  obtain ⟨es1, hq, ht, ho, hT1, hm1⟩ := hh.out
  obtain ⟨h1, h2⟩ := Lb2.step h.swap hq ht
  obtain ⟨_, ⟨B, hTr⟩, hm⟩ := hT
  exact ⟨a1, m1, k1, ev1, hr, h1.swap, hO.step h.q.bx h2, ⟨⟨_, hE.stay hZ h2⟩, ⟨B, TRow.stay hTr h.q.bx h2⟩, hm⟩, ⟨_, ho⟩, ⟨_, hT1⟩, hm1⟩
end
end Go.Proofs.YtelhiihbgnfpiaaDoor
