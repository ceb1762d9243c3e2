/-
  Two boxes side by side.
-/
import Derived.Test.YtelhiihbgnfpiaaDoorIbTwin
import Derived.Test.YtelhiihbgnfpiaaDoorIbCode
import Derived.Test.YtelhiihbgnfpiaaDoorIbLives2
import Derived.Test.YtelhiihbgnfpiaaDoorIbHanded
namespace Go.Proofs.YtelhiihbgnfpiaaDoor
open Go.RowKit

section
variable {w w' : World} {B b sb M : Nat} {v : Value} {K R : Int} {es : List Ent}
/-- A block of another type is none of its blocks. -/
theorem Shf.notType (h : Shf w B sb M v K R es) {t : TypeId} (h1 : 58 ≠ t) (h2 : 35 ≠ t) {q : Nat} {cs : Array Value} {cur : Nat × Nat} (hq : w.heap[q]? = some (.cells cs t cur)) : ¬ Ft sb M v q := by
  rintro (rfl | rfl | hg)
  · rw [h.blk] at hq
    simp only [Option.some.injEq, Obj.cells.injEq] at hq
    exact h1 hq.2.1
  · obtain ⟨es', clock, hm⟩ := h.map.isMap
    rw [hm] at hq
    simp at hq
  · obtain ⟨cs', b1⟩ := row_type h.row hg
    rw [b1] at hq
    simp only [Option.some.injEq, Obj.cells.injEq] at hq
    exact h2 hq.2.1
theorem Bx.off {P : Nat → Prop} (h : Bx w B b sb M v K R es) (o : Off P w w') (hb : ¬ P b) (hF : ∀ q, Ft sb M v q → ¬ P q) (hy : ∀ q cs, w.heap[q]? = some (.cells cs 5 (0, 0)) → ¬ P q) : Bx w' B b sb M v K R es :=
  ⟨(o.block b h.lt hb).trans h.blk, h.sh.off o hF, fun e he => (h.own e he).byType o hy, h.lb, h.ls, h.lm, h.inv⟩
theorem Bx.ftlt (h : Bx w B b sb M v K R es) {q : Nat} (hq : Ft sb M v q) : q < w.heap.size := by
  rcases hq with rfl | rfl | hg
  · exact h.sh.lt
  · obtain ⟨es', clock, hm⟩ := h.sh.map.isMap
    exact blk_lt hm
  · exact (h.sh.row.lt hg).2
end
/-! ### what a call leaves, whatever it answers -/
def accS (R : Int) (A : List Ent) (e : Ent) : List Ent := if accC R A e = 0 then A ++ [e] else A
def dcS (K : Int) (A : List Ent) (s cd : ByteArray) (n : Nat) (bs : List Int) : List Ent := if decC A s cd n = 0 then (match fi s A with | some i => shedS K (A.set i ((A.getD i zE).vd cd none n 0 bs)) | none => A) else A
def gnS (K : Int) (A : List Ent) (s cd : ByteArray) (n : Nat) (bs : List Int) : List ByteArray := if decC A s cd n = 0 then (match fi s A with | some i => goneS K (A.set i ((A.getD i zE).vd cd none n 0 bs)) | none => []) else []
theorem Tws.at_ {es A : List Ent} (h : Tws es A) {i : Nat} {x : Ent} (hx : es[i]? = some x) : ∃ y, A[i]? = some y ∧ Tw x y := by
  have hi := (List.getElem?_eq_some_iff.1 hx).1
  have hj : i < A.length := by rw [← h.1]; exact hi
  exact ⟨A[i], List.getElem?_eq_getElem hj, h.2 i x _ hx (List.getElem?_eq_getElem hj)⟩
theorem Tw.vd {x y : Ent} (h : Tw x y) (cd : ByteArray) (p : Option Addr) (n c : Nat) (bs : List Int) (p' : Option Addr) (c' : Nat) : Tw (x.vd cd p n c bs) (y.vd cd p' n c' bs) := by
  obtain ⟨a, d, a', d', a'', d'', rfl⟩ := h
  exact ⟨a, d, a', d', p', c', rfl⟩
section
variable {w : World} {B b sb M : Nat} {v : Value} {K R : Int} {es A : List Ent}
theorem acc_q (h : Bx w B b sb M v K R es) (ht : Tws es A) (e e0 : Ent) (he : Tw e e0) (hk : KeyS e.ct) (hl : Lies w e) : Calls Tryd.prog 10 #[.pointer (some ⟨b, 0, none⟩), .agg #[.string e.ct, .slice e.tp e.tn e.tc, .int .i64 e.nu, .int .i64 e.tk, .slice e.cp e.cn e.cc, .string e.cd, .slice e.ap e.an e.ac]] w fun r w' => ∃ ev, r = .returned ev ∧ Hid (∃ es1, BxQ w B b sb M v K R es1 w' ∧ Tws es1 (accS R A e0) ∧ OEv w' w.heap.size ev 0 (accC R A e0)) := by
  have hz : accC R es e = accC R A e0 := ht.acc_eq he
  by_cases h0 : accC R A e0 = 0
  · refine (acc_yes h e hk hl (hz.trans h0)).mono ?_
    rintro r w' ⟨hr, hq⟩
    obtain ⟨a, c, a', c', a'', c'', hb⟩ := hq.out
    refine ⟨.nilIface, hr, _, hb, ?_, Or.inl ⟨rfl, h0⟩⟩
    unfold accS
    rw [if_pos h0]
    exact ht.snoc (Tw.trans (Tw.symm ⟨a, c, a', c', a'', c'', rfl⟩) he)
  · refine (acc_no h e hk hz h0).mono ?_
    rintro r w' ⟨ev, hr, hf, hle, hb⟩
    refine ⟨_, hr, es, h.same hb, ?_, Or.inr ⟨h0, ev, rfl, hle, hf⟩⟩
    unfold accS
    rw [if_neg h0]
    exact ht
theorem dec_q (h : Bx w B b sb M v K R es) (ht : Tws es A) {s cd : ByteArray} {po : Option Addr} {n co : Nat} {bs : List Int} (hk : KeyS s) (hb : Byts w po n bs) (hn : n ≤ 9223372036854775807) : Calls Tryd.prog 12 #[.pointer (some ⟨b, 0, none⟩), .string s, .string cd, .slice po n co] w fun r w' => ∃ a m k ev, r = .returned (.tuple #[.slice a m k, ev]) ∧ Hid (∃ es1, BxQ w B b sb M v K R es1 w' ∧ Tws es1 (dcS K A s cd n bs) ∧ OEv w' w.heap.size ev 0 (decC A s cd n) ∧ TRow w' w.heap.size (.slice a m k) (gnS K A s cd n bs) ∧ m = (gnS K A s cd n bs).length) := by
  have hz : decC es s cd n = decC A s cd n := ht.dec_eq
  by_cases h0 : decC A s cd n = 0
  · obtain ⟨hv, hn2, i, x, hf, hx, ho⟩ := decC_zero (hz.trans h0)
    obtain ⟨y, hy, hxy⟩ := ht.at_ hx
    have hfA : fi s A = some i := by rw [← ht.fi_eq]; exact hf
    have hgD : A.getD i zE = y := by rw [List.getD_eq_getElem?_getD, hy]; rfl
    refine (dec_yes h hk hb hv hn2 hf hx ho).mono ?_
    rintro r w' ⟨u, hr, hq⟩
    obtain ⟨p, c, hT, hB⟩ := hq.out
    have hts : Tws (es.set i (x.vd cd p n c bs)) (A.set i (y.vd cd none n 0 bs)) := ht.set (hxy.vd cd p n c bs none 0) i
    have e1 : dcS K A s cd n bs = shedS K (A.set i (y.vd cd none n 0 bs)) := by unfold dcS; rw [if_pos h0, hfA]; simp only [hgD]
    have e2 : gnS K A s cd n bs = goneS K (A.set i (y.vd cd none n 0 bs)) := by unfold gnS; rw [if_pos h0, hfA]; simp only [hgD]
    rw [hts.gone] at hT
    obtain ⟨a, k, e3, _⟩ := ERow.isSlice hT
    subst e3
    rw [e1, e2]
    exact ⟨a, _, k, .nilIface, hr, _, hB, hts.shed, Or.inl ⟨rfl, h0⟩, hT, rfl⟩
  · refine (dec_no h hk hn hz h0).mono ?_
    rintro r w' ⟨ev, hr, hf, hle, hb'⟩
    have e1 : dcS K A s cd n bs = A := by unfold dcS; rw [if_neg h0]
    have e2 : gnS K A s cd n bs = [] := by unfold gnS; rw [if_neg h0]
    rw [e1, e2]
    exact ⟨none, 0, 0, _, hr, es, h.same hb', ht, Or.inr ⟨h0, ev, rfl, hle, hf⟩, ERow.nil _ _ _ _ _, rfl⟩
end
/-! ### the state -/
/-- The call, in its box. -/
def OB (X : World) (yb : Nat) (y : Opv) : Prop := X.heap[yb]? = some (.cells #[.int .i64 y.kd, .int .i64 y.of_, .int .i64 y.n, .string y.e.ct, .slice y.e.tp y.e.tn y.e.tc, .int .i64 y.e.nu, .int .i64 y.e.tk, .slice y.e.cp y.e.cn y.e.cc, .string y.e.cd, .slice y.e.ap y.e.an y.e.ac, .string y.ct, .string y.cd, .slice y.ap y.an y.ac] 37 (0, 0))
structure LbF (w X : World) (b sb M : Nat) (v : Value) (K R : Int) (es A : List Ent) : Prop where
  bx : Bx X w.heap.size b sb M v K R es
  t : Tws es A
  bel : Below w.heap.size w X
structure LbG (w X : World) (b sb M : Nat) (v : Value) (b' sb' M' : Nat) (v' : Value) (K R : Int) (es A es' A' : List Ent) : Prop where
  p : LbF w X b sb M v K R es A
  q : LbF w X b' sb' M' v' K R es' A'
  d : ∀ g, Ft sb M v g → ¬ Ft sb' M' v' g
def Lb1 (w : World) (b sb M : Nat) (K R : Int) (A : List Ent) (X : World) : Prop := ∃ v es, LbF w X b sb M v K R es A
def Lb2 (w : World) (b sb M b' sb' M' : Nat) (K R : Int) (A A' : List Ent) (X : World) : Prop := ∃ v v' es es', LbG w X b sb M v b' sb' M' v' K R es A es' A'
section
variable {w X Y : World} {b sb M b' sb' M' yb : Nat} {v v' : Value} {K R : Int} {es A es' A' es1 A1 : List Ent} {y : Opv}
theorem LbF.below (h : LbF w X b sb M v K R es A) (hb : Below X.heap.size X Y) : LbF w Y b sb M v K R es A := ⟨h.bx.below hb, h.t, below_then h.bel hb⟩
theorem LbG.below (h : LbG w X b sb M v b' sb' M' v' K R es A es' A') (hb : Below X.heap.size X Y) : LbG w Y b sb M v b' sb' M' v' K R es A es' A' := ⟨h.p.below hb, h.q.below hb, h.d⟩
theorem Lb1.below (h : Lb1 w b sb M K R A X) (hb : Below X.heap.size X Y) : Lb1 w b sb M K R A Y := by obtain ⟨v, es, h⟩ := h; exact ⟨v, es, h.below hb⟩
theorem Lb2.below (h : Lb2 w b sb M b' sb' M' K R A A' X) (hb : Below X.heap.size X Y) : Lb2 w b sb M b' sb' M' K R A A' Y := by obtain ⟨v, v', es, es', h⟩ := h; exact ⟨v, v', es, es', h.below hb⟩
theorem LbG.swap (h : LbG w X b sb M v b' sb' M' v' K R es A es' A') : LbG w X b' sb' M' v' b sb M v K R es' A' es A := ⟨h.q, h.p, fun g h1 h2 => h.d g h2 h1⟩
theorem Lb2.swap (h : Lb2 w b sb M b' sb' M' K R A A' X) : Lb2 w b' sb' M' b sb M K R A' A X := by obtain ⟨v, v', es, es', h⟩ := h; exact ⟨v', v, es', es, h.swap⟩
theorem Lb2.one (h : Lb2 w b sb M b' sb' M' K R A A' X) : Lb1 w b sb M K R A X := by obtain ⟨v, v', es, es', h⟩ := h; exact ⟨v, es, h.p⟩
theorem Lb1.bel (h : Lb1 w b sb M K R A X) : Below w.heap.size w X := by obtain ⟨v, es, h⟩ := h; exact h.bel
theorem OB.below (h : OB X yb y) (hb : Below X.heap.size X Y) : OB Y yb y := (hb.block yb (blk_lt h)).trans h
theorem OB.step (h : OB X yb y) {B : Nat} (hx : Bx X B b sb M v K R es) (ho : Off (Ft sb M v) X Y) : OB Y yb y := (ho.block yb (blk_lt h) (hx.sh.notType (by decide) (by decide) h)).trans h
theorem LbF.step (h : LbF w X b sb M v K R es A) (hq : BxQ X w.heap.size b sb M v K R es1 Y) (ht : Tws es1 A1) : ∃ v1, LbF w Y b sb M v1 K R es1 A1 ∧ Off (Ft sb M v) X Y ∧ ∀ q, Ft sb M v1 q → Ft sb M v q ∨ X.heap.size ≤ q := by
  obtain ⟨v1, h1, h2, h3⟩ := hq
  refine ⟨v1, ⟨h1, ht, h.bel.trans (h2.below h.bel.size fun q hq => h.bx.ft hq)⟩, h2, fun q hq => ?_⟩
  rcases hq with g | g | g
  · exact Or.inl (Or.inl g)
  · exact Or.inl (Or.inr (Or.inl g))
  · rcases h3 q g with e | e
    · exact Or.inl (Or.inr (Or.inr e))
    · exact Or.inr e
theorem LbG.step (h : LbG w X b sb M v b' sb' M' v' K R es A es' A') (hq : BxQ X w.heap.size b sb M v K R es1 Y) (ht : Tws es1 A1) : ∃ v1, LbG w Y b sb M v1 b' sb' M' v' K R es1 A1 es' A' ∧ Off (Ft sb M v) X Y := by
  obtain ⟨v1, h1, h2, h3⟩ := h.p.step hq ht
  refine ⟨v1, ⟨h1, ⟨h.q.bx.off h2 (h.p.bx.sh.notType (by decide) (by decide) h.q.bx.blk) (fun q hq e => h.d q e hq) (fun q cs hq => h.p.bx.sh.notBytes q cs hq), h.q.t, h1.bel⟩, fun g hg e => ?_⟩, h2⟩
  rcases h3 g hg with x | x
  · exact h.d g x e
  · have := h.q.bx.ftlt e; omega
theorem Lb1.step (h : LbF w X b sb M v K R es A) (hq : BxQ X w.heap.size b sb M v K R es1 Y) (ht : Tws es1 A1) : Lb1 w b sb M K R A1 Y ∧ Off (Ft sb M v) X Y := by
  obtain ⟨v1, h1, h2, _⟩ := h.step hq ht
  exact ⟨⟨v1, es1, h1⟩, h2⟩
theorem Lb2.step (h : LbG w X b sb M v b' sb' M' v' K R es A es' A') (hq : BxQ X w.heap.size b sb M v K R es1 Y) (ht : Tws es1 A1) : Lb2 w b sb M b' sb' M' K R A1 A' Y ∧ Off (Ft sb M v) X Y := by
  obtain ⟨v1, h1, h2⟩ := h.step hq ht
  exact ⟨⟨v1, v', es1, es', h1⟩, h2⟩
/-- What was told ahead of a call stays behind it: a fault, a list of texts. -/
theorem OEv.stay {B : Nat} {ev : Value} {z : Int} (h : OEv X B ev 0 z) (hB : ∀ q, Ft sb M v q → q < B) (ho : Off (Ft sb M v) X Y) : OEv Y B ev 0 z :=
  h.keep fun q o hl hle => ho.cell (p := ⟨q, o, none⟩) hl (fun e => by have h9 := hB q e; omega)
theorem TRow.stay {B C : Nat} {u : Value} {l : List ByteArray} (h : TRow X B u l) (hx : Bx X C b sb M v K R es) (ho : Off (Ft sb M v) X Y) : TRow Y B u l := ERow.off h ho fun g hg => by
  rcases h.2 with ⟨rfl, _⟩ | ⟨g1, c1, u1, rfl, _, b1, _⟩
  · cases hg
  · simp only [Value.ownBlock, Option.some.injEq] at hg
    subst hg
    exact hx.sh.notType (by decide) (by decide) b1
end
end Go.Proofs.YtelhiihbgnfpiaaDoor
