import Derived.Test.YtbljepiejbikaaaPrSta
import Derived.Test.YtbljepiejbikaaaBook
import Derived.Test.YtbljepiejbikaaaDkOps
import Derived.Test.YtbljepiejbikaaaOpenOps3
/-
  Three pairs and one book: plays, told, Alone.
-/
namespace Go.Proofs.Ytbljepiejbikaaa
open Go.RowKit Go.BigFrame

def Ft (K R : Nat) (v0 v1 : Value) (v : Nat → Value) (k : Nat) : Prop := Foot K v0 v1 k ∨ RFoot R v k
def Tri0 (w1 : World) (K R : Nat → Nat) (Q bx m : Nat) (x : World) : Prop := ∃ (v0 v1 : Nat → Value) (v : Nat → Nat → Value) (σ : Nat → Sg) (ρ : Nat → Nat) (vb vw : Value) (es : List Ent), (∀ j, j < 3 → Jt x w1.heap.size (K j) (R j) (v0 j) (v1 j) (v j) (σ j) Q ρ vb vw es) ∧ (∀ i j, i < 3 → j < 3 → i ≠ j → ∀ k, Ft (K i) (R i) (v0 i) (v1 i) (v i) k → ¬ Ft (K j) (R j) (v0 j) (v1 j) (v j) k) ∧ es.length ≤ m ∧ (∀ j, j < 3 → Alien (K j) (R j) (v0 j) (v1 j) (v j) ρ bx)
def Tri (w1 : World) (K R : Nat → Nat) (Q bx m : Nat) (x : World) : Prop := Tri0 w1 K R Q bx m x ∧ Below w1.heap.size w1 x ∧ (∀ j, j < 3 → x.cell? ⟨bx, 2 * j, none⟩ = some (.pointer (some ⟨K j, 0, none⟩)) ∧ x.cell? ⟨bx, 2 * j + 1, none⟩ = some (.pointer (some ⟨R j, 0, none⟩))) ∧ bx < x.heap.size
theorem Tri.below {w1 : World} {K R : Nat → Nat} {Q bx m : Nat} {x x' : World} (h : Tri w1 K R Q bx m x) (hb : Below x.heap.size x x') : Tri w1 K R Q bx m x' := by
  obtain ⟨⟨v0, v1, v, σ, ρ, vb, vw, es, jt, ap, hel, hal⟩, hbw, hc, q2⟩ := h
  have hs := hb.size
  exact ⟨⟨v0, v1, v, σ, ρ, vb, vw, es, fun j hj => (jt j hj).below hb, ap, hel, hal⟩, hbw.trans (hb.mono hbw.size), fun j hj => ⟨(hb.cell (p := ⟨bx, 2 * j, none⟩) q2).trans (hc j hj).1, (hb.cell (p := ⟨bx, 2 * j + 1, none⟩) q2).trans (hc j hj).2⟩, by omega⟩
theorem Tri.upd {w1 : World} {K R : Nat → Nat} {Q bx m : Nat} {x x' : World} (h : Tri w1 K R Q bx m x) {v0 v1 : Nat → Value} {v : Nat → Nat → Value} {σ : Nat → Sg} {ρ : Nat → Nat} {vb vw : Value} {es : List Ent} (jt : ∀ j, j < 3 → Jt x w1.heap.size (K j) (R j) (v0 j) (v1 j) (v j) (σ j) Q ρ vb vw es) (ap : ∀ i j, i < 3 → j < 3 → i ≠ j → ∀ k, Ft (K i) (R i) (v0 i) (v1 i) (v i) k → ¬ Ft (K j) (R j) (v0 j) (v1 j) (v j) k) (hal : ∀ j, j < 3 → Alien (K j) (R j) (v0 j) (v1 j) (v j) ρ bx)
    {j : Nat} (hj : j < 3) {v0' v1' : Value} {v' : Nat → Value} {σ' : Sg} {ρ' : Nat → Nat} {vb' vw' : Value} {es' : List Ent} {m' : Nat} (j' : Jt x' w1.heap.size (K j) (R j) v0' v1' v' σ' Q ρ' vb' vw' es') (hel : es'.length ≤ m') (bb : Below w1.heap.size x x') (kp : Keep x x' (K j) (R j) (v0 j) (v1 j) (v j) ρ v0' v1' v' ρ') : Tri w1 K R Q bx m' x' ∧ Frm w1 bx x x' := by
  obtain ⟨-, hbw, hc, q2⟩ := h
  have hk := kp bx q2 (hal j hj)
  have hcb : ∀ o, x'.cell? ⟨bx, o, none⟩ = x.cell? ⟨bx, o, none⟩ := fun o => World.cell?_of_block (a := ⟨bx, o, none⟩) hk.1
  have hoff : Off (fun k => ¬ Alien (K j) (R j) (v0 j) (v1 j) (v j) ρ k) x x' := ⟨bb.os, bb.tape, bb.output, bb.size, fun k hk hn => (kp k hk (Classical.not_not.1 hn)).1⟩
  have hfo : ∀ i, i < 3 → i ≠ j → ∀ k, Ft (K i) (R i) (v0 i) (v1 i) (v i) k → k < x.heap.size ∧ Alien (K j) (R j) (v0 j) (v1 j) (v j) ρ k := fun i hi hn k hf => ⟨(jt i hi).pr.foot_lt hf, ap i j hi hj hn k hf, (jt i hi).ze k hf⟩
  have hof : ∀ i, i < 3 → i ≠ j → Jt x' w1.heap.size (K i) (R i) (v0 i) (v1 i) (v i) (σ i) Q ρ' vb' vw' es' := fun i hi hn =>
    ⟨(jt i hi).pr.off hoff (fun k hf hna => hna (hfo i hi hn k hf).2), (jt i hi).ok, j'.bk, fun k hf => (kp k (hfo i hi hn k hf).1 (hfo i hi hn k hf).2).2.2, j'.eq, j'.hQ, j'.lo⟩
  refine ⟨⟨⟨fun i => if i = j then v0' else v0 i, fun i => if i = j then v1' else v1 i, fun i => if i = j then v' else v i, fun i => if i = j then σ' else σ i, ρ', vb', vw', es', fun i hi => ?_, fun i i2 hi hi2 hne k hf hg => ?_, hel, fun i hi => ?_⟩, hbw.trans bb, fun i hi => ⟨(hcb _).trans (hc i hi).1, (hcb _).trans (hc i hi).2⟩, by have := bb.size; omega⟩, hcb, fun b o hl => bb.cell (p := ⟨b, o, none⟩) hl⟩
  · by_cases e : i = j
    · subst e; simpa using j'
    · simpa [e] using hof i hi e
  · by_cases e : i = j
    · subst e
      have e2 : ¬ i2 = i := fun q => hne q.symm
      simp only [if_true, if_neg e2] at hf hg
      exact (kp k (hfo i2 hi2 e2 k hg).1 (hfo i2 hi2 e2 k hg).2).2.1 hf
    · by_cases e2 : i2 = j
      · subst e2
        simp only [if_true, if_neg e] at hf hg
        exact (kp k (hfo i hi e k hf).1 (hfo i hi e k hf).2).2.1 hg
      · simp only [if_neg e, if_neg e2] at hf hg
        exact ap i i2 hi hi2 hne k hf hg
  · by_cases e : i = j
    · subst e; simpa using hk.2
    · simp only [if_neg e]
      exact ⟨(hal i hi).1, hk.2.2⟩
theorem tri_plays {w1 : World} {K R : Nat → Nat} {Q bx m : Nat} {x : World} (h : Tri w1 K R Q bx m x) {j : Nat} (hj : j < 3) (y : Opv) (hby : Byts w1 y.po y.pl y.bs) (hfit : OpFit y) (hm : m + 4 ≤ 1099511627776) :
    Calls Try.prog 17 #[.agg #[.pointer (some ⟨K j, 0, none⟩), .pointer (some ⟨R j, 0, none⟩)], .agg #[.int .i64 y.kd, .int .i64 y.ar, .int .i64 y.at_, .int .i64 y.n, .slice y.po y.pl y.pc, .int .i64 y.t0, .int .i64 y.t1, .int .i64 y.t2, .int .i64 y.t3], .pointer (some ⟨Q, 0, none⟩)] x fun e x' => e = .returned (.bool true) ∧ Tri w1 K R Q bx (m + 4) x' ∧ Frm w1 bx x x' := by
  have h' := h
  obtain ⟨⟨v0, v1, v, σ, ρ, vb, vw, es, jt, ap, hel, hal⟩, hbw, -, -⟩ := h
  have jx := jt j hj
  refine (plays_any jx y (hby.below hbw) hfit.po (by have := hfit.pl; omega) (fun h0 b' o' e' hf => by
    obtain ⟨b2', o2', e2', hl2, _⟩ := hby.cell 0 h0
    rw [e'] at e2'
    simp only [Option.some.injEq, Addr.mk.injEq] at e2'
    have hge : w1.heap.size ≤ b' := by
      rcases hf with hf | hf
      · exact (jx.pr.d.foot_lt hf).1
      · exact (jx.pr.r.foot_lt hf).1
    omega) hfit.at_ hfit.n (by omega)).mono ?_
  rintro e x' ⟨he, v0', v1', v', σ', ρ', vb', vw', es', j', l', bb', kp⟩
  exact ⟨he, h'.upd jt ap hal hj j' (by omega) bb' kp⟩
theorem tri_told {w1 : World} {K R : Nat → Nat} {Q bx m : Nat} {x : World} (h : Tri w1 K R Q bx m x) {j : Nat} (hj : j < 3) (hm : m + 4 ≤ 1099511627776) :
    Calls Try.prog 18 #[.agg #[.pointer (some ⟨K j, 0, none⟩), .pointer (some ⟨R j, 0, none⟩)], .pointer (some ⟨Q, 0, none⟩)] x fun e x' => e = .returned (.bool true) ∧ Tri w1 K R Q bx (m + 4) x' ∧ Frm w1 bx x x' := by
  have h' := h
  obtain ⟨⟨v0, v1, v, σ, ρ, vb, vw, es, jt, ap, hel, hal⟩, -, -, -⟩ := h
  refine (told_any (jt j hj) (by omega)).mono ?_
  rintro e x' ⟨he, ρ', vb', vw', es', j', l', bb', o', p'⟩
  exact ⟨he, h'.upd jt ap hal hj j' (by omega) bb' (Keep.book (Below.refl _ _) o' p')⟩
theorem tri_alone {w1 : World} {K R : Nat → Nat} {Q bx m : Nat} {x : World} (h : Tri w1 K R Q bx m x) (hm : m + 1 ≤ 1099511627776) :
    Calls Try.prog 20 #[.pointer (some ⟨Q, 0, none⟩)] x fun e x' => e = .returned (.bool true) ∧ Tri w1 K R Q bx 0 x' ∧ Frm w1 bx x x' := by
  obtain ⟨⟨v0, v1, v, σ, ρ, vb, vw, es, jt, ap, hel, hal⟩, hbw, hc, q2⟩ := h
  refine (Alone_true (jt 0 (by omega)).bk (jt 0 (by omega)).eq (by omega)).mono ?_
  rintro e x' ⟨he, hbk, o'⟩
  have hr0 : ρ bx = 0 := (hal 0 (by omega)).2
  have hz : ¬ (ρ bx = 1 ∨ ∃ j, ρ bx = 6 + 2 * j) := fun g => by rcases g with g | ⟨j, g⟩ <;> omega
  have hne : bx ≠ Q := fun g => by have := (jt 0 (by omega)).bk.pK; subst g; omega
  have hcb : ∀ o, x'.cell? ⟨bx, o, none⟩ = x.cell? ⟨bx, o, none⟩ := fun o => World.cell?_of_block (a := ⟨bx, o, none⟩) (o'.block bx q2 hz)
  have bb := ((jt 0 (by omega)).alone hbk o').2
  exact ⟨he, ⟨⟨v0, v1, v, σ, _, _, _, [], fun j hj => ((jt j hj).alone hbk o').1, ap, Nat.zero_le _, fun j hj => ⟨(hal j hj).1, if_neg hne⟩⟩, hbw.trans bb, fun i hi => ⟨(hcb _).trans (hc i hi).1, (hcb _).trans (hc i hi).2⟩, by have := bb.size; omega⟩, hcb, fun b o hl => bb.cell (p := ⟨b, o, none⟩) hl⟩
end Go.Proofs.Ytbljepiejbikaaa

/-
  A list of Ops of the call's own (nine cells each), and append of one.
-/
namespace Go.Proofs.Ytbljepiejbikaaa
open Go.RowKit Go.BigFrame

def ocells (y : Opv) : List Value := [.int .i64 y.kd, .int .i64 y.ar, .int .i64 y.at_, .int .i64 y.n, .slice y.po y.pl y.pc, .int .i64 y.t0, .int .i64 y.t1, .int .i64 y.t2, .int .i64 y.t3]
def OpRow (w : World) (B : Nat) (v : Value) (xs : List Opv) : Prop := w.ownsRow B 34 9 v xs.length (xs.flatMap ocells)
theorem opinfo : ∃ i z, Try.prog.info? 34 = some i ∧ i.zero = some z ∧ z.cells.size = 9 ∧ i.size = 9 ∧ i.bytes = 88 := by
  have h : (Try.prog.info? 34).map (fun i => (i.zero.map (fun z => z.cells.size), i.size, i.bytes)) = some (some 9, 9, 88) := by kernel_rfl
  obtain ⟨i, hi, e⟩ := Option.map_eq_some_iff.1 h
  simp only [Prod.mk.injEq] at e
  obtain ⟨z, hz, e1⟩ := Option.map_eq_some_iff.1 e.1
  exact ⟨i, z, hi, hz, e1, e.2.1, e.2.2⟩
theorem flat_get : ∀ (xs : List Opv) (k : Nat) (x : Opv), xs[k]? = some x → ∀ q, q < 9 → (xs.flatMap ocells)[k * 9 + q]? = (ocells x)[q]?
  | [], k, x, h, q, hq => by simp at h
  | y :: r, 0, x, h, q, hq => by
    simp only [List.getElem?_cons_zero, Option.some.injEq] at h
    subst h
    rw [List.flatMap_cons, List.getElem?_append_left (by simp [ocells]; omega)]
    simp
  | y :: r, k + 1, x, h, q, hq => by
    rw [List.getElem?_cons_succ] at h
    rw [List.flatMap_cons, List.getElem?_append_right (by simp [ocells]; omega)]
    have := flat_get r k x h q hq
    rw [← this]
    congr 1
    simp [ocells]; omega
theorem OpRow.nil (w : World) (B : Nat) : OpRow w B (.slice none 0 0) [] := World.ownsRow_nil w B _ 9
theorem OpRow.isSlice {w : World} {B : Nat} {v : Value} {xs : List Opv} (h : OpRow w B v xs) : ∃ a c, v = .slice a xs.length c := by
  rcases h.2 with ⟨rfl, h0⟩ | ⟨g, cap, cur, rfl, _⟩
  · exact ⟨none, 0, by rw [h0]⟩
  · exact ⟨_, _, rfl⟩
theorem OpRow.keep {w w' : World} {B : Nat} {v : Value} {xs : List Opv} (h : OpRow w B v xs) (hk : Below w.heap.size w w') : OpRow w' B v xs := by
  refine ⟨h.1, ?_⟩
  rcases h.2 with ⟨rfl, h0⟩ | ⟨g, cap, cur, rfl, hbg, hg, r⟩
  · exact .inl ⟨rfl, h0⟩
  · exact .inr ⟨g, cap, cur, rfl, hbg, by rw [hk.block g (by rcases Nat.lt_or_ge g w.heap.size with q | q; exact q; rw [Array.getElem?_eq_none q] at hg; cases hg)]; exact hg, r⟩
theorem run_opush {w : World} {B : Nat} {v : Value} {xs : List Opv} (h : OpRow w B v xs) (hB : B ≤ w.heap.size) (hl : xs.length + 1 ≤ 1048577) (y : Opv) :
    ∃ a c w', (Builtin.append_ #[22, 22] 22 #[v, .slice (some ⟨w.heap.size, 0, none⟩) 1 1]).run Try.prog (w.alloc (.cells (ocells y).toArray 34)) = .ok (.slice a (xs.length + 1) c) w' ∧ OpRow w' B (.slice a (xs.length + 1) c) (xs ++ [y]) ∧ Below B w w' := by
  obtain ⟨i, z, hi, hz, hzs, hs, hby⟩ := opinfo
  have bW : Below w.heap.size w (w.alloc (.cells (ocells y).toArray 34)) := (Below.refl _ _).alloc (Nat.le_refl _) _
  have hrow : OpRow (w.alloc (.cells (ocells y).toArray 34)) B v xs := h.keep bW
  obtain ⟨v', w', hr, r, hg, _⟩ := run_append_own (P := Try.prog) (w.alloc (.cells (ocells y).toArray 34)) B 22 22 34 i z 9 88 Try.underlying22 hi hz hs hby hzs (by omega) v xs.length (xs.flatMap ocells) hrow ⟨w.heap.size, 0, none⟩ 1 1 (ocells y) rfl (fun j u hu => by
      rw [show (⟨w.heap.size, 0, none⟩ : Addr).add j = ⟨w.heap.size, j, none⟩ by rw [Addr.add_lit, Nat.zero_add]]
      match j, hu with
      | 0, hu | 1, hu | 2, hu | 3, hu | 4, hu | 5, hu | 6, hu | 7, hu | 8, hu => simp [ocells] at hu ⊢; exact hu
      | j + 9, hu => simp [ocells] at hu) (fun u hu => by simp only [ocells, List.mem_cons, List.not_mem_nil, or_false] at hu; rcases hu with rfl | rfl | rfl | rfl | rfl | rfl | rfl | rfl | rfl <;> rfl) (by unfold maxLen; omega) (by omega) (by simp; omega)
  have hR : OpRow w' B v' (xs ++ [y]) := by
    unfold OpRow
    simpa using r
  obtain ⟨a, c, rfl⟩ := hR.isSlice
  simp only [List.length_append, List.length_singleton] at hr hR
  refine ⟨a, c, w', hr, hR, ?_⟩
  have ho : Off (fun k => v.ownBlock = some k) (w.alloc (.cells (ocells y).toArray 34)) w' := Off.of_grown hg
  refine Below.trans ⟨bW.os, bW.tape, bW.output, bW.size, fun k hk => bW.block k (by omega)⟩ (ho.below (by simp; omega) (fun k hk => ?_))
  rcases h.2 with ⟨rfl, h0⟩ | ⟨g, cap, cur, rfl, hbg, _⟩
  · cases hk
  · simp [Value.ownBlock] at hk; omega
theorem OpRow.ops {w : World} {B : Nat} {a : Option Addr} {n c : Nat} {xs : List Opv} (h : OpRow w B (.slice a n c) xs) (hp : ∀ y ∈ xs, Byts w y.po y.pl y.bs) : Ops w a xs := fun k x hx => by
  have hcl := fun g e => World.ownsRow.cells h (g := g) e
  rcases h.2 with ⟨e, h0⟩ | ⟨g, cap, cur, e, hbg, hg, r⟩
  · have := List.getElem?_eq_none (l := xs) (i := k) (by omega); rw [this] at hx; cases hx
  · obtain ⟨rfl, rfl, rfl⟩ : a = some ⟨g, 0, none⟩ ∧ n = xs.length ∧ c = cap := by simpa using e
    have hlt : g < w.heap.size := by rcases Nat.lt_or_ge g w.heap.size with q | q; exact q; rw [Array.getElem?_eq_none q] at hg; cases hg
    have hc : ∀ q u, q < 9 → (ocells x)[q]? = some u → w.cell? ⟨g, 0 + k * 9 + q, none⟩ = some u := fun q u hq hu => by
      have := hcl g rfl (k * 9 + q) u (by rw [flat_get xs k x hx q hq]; exact hu)
      rw [Addr.add_lit] at this
      rw [← this, Nat.add_assoc]
    exact ⟨g, 0, rfl, hlt, hc 0 _ (by omega) rfl, hc 1 _ (by omega) rfl, hc 2 _ (by omega) rfl, hc 3 _ (by omega) rfl, hc 4 _ (by omega) rfl, hc 5 _ (by omega) rfl, hc 6 _ (by omega) rfl, hc 7 _ (by omega) rfl, hc 8 _ (by omega) rfl, hp x (List.mem_of_getElem? hx)⟩
end Go.Proofs.Ytbljepiejbikaaa

/-
  Three pairs made one behind another; a list of turns.
-/
namespace Go.Proofs.Ytbljepiejbikaaa
open Go.RowKit Go.BigFrame

def nil' : Value := .slice none 0 0
structure Mk (w1 : World) (bx j : Nat) (K R : Nat → Nat) (x : World) : Prop where
  pr : ∀ i, i < j → Pr x w1.heap.size (K i) (R i) (.slice none 0 0) (.slice none 0 0) (fun _ => .slice none 0 0) (sg0 [] [])
  ord : ∀ i, i < j → bx < K i ∧ K i < R i
  apart : ∀ i i', i' < i → i < j → R i' < K i
  cells : ∀ i, i < j → x.cell? ⟨bx, 2 * i, none⟩ = some (.pointer (some ⟨K i, 0, none⟩)) ∧ x.cell? ⟨bx, 2 * i + 1, none⟩ = some (.pointer (some ⟨R i, 0, none⟩))
  wr : ∀ o, x.frozen? ⟨bx, o, none⟩ = false
  has : ∀ o, o < 6 → ∃ u, x.cell? ⟨bx, o, none⟩ = some u
  lt : bx < x.heap.size
  ge : w1.heap.size ≤ bx
  be : Below w1.heap.size w1 x
theorem ft_nil {K R k : Nat} (h : Ft K R (.slice none 0 0) (.slice none 0 0) (fun _ => .slice none 0 0) k) : k = K ∨ k = R := by
  rcases h with (h | h | h) | (h | ⟨q, _, h⟩)
  · exact Or.inl h
  · cases h
  · cases h
  · exact Or.inr h
  · cases h
theorem Mk.start {w1 x : World} (hb : Below w1.heap.size w1 x) (K R : Nat → Nat) (t : TypeId) : Mk w1 x.heap.size 0 K R (x.alloc (.cells #[.pointer none, .pointer none, .pointer none, .pointer none, .pointer none, .pointer none] t)) := by
  refine ⟨fun i hi => by omega, fun i hi => by omega, fun i i' h hi => by omega, fun i hi => by omega, fun o => by simp, fun o ho => ?_, by simp, hb.size, hb.trans ((Below.refl _ _).alloc hb.size _)⟩
  match o, ho with
  | 0, _ | 1, _ | 2, _ | 3, _ | 4, _ | 5, _ => exact ⟨.pointer none, by simp⟩
theorem Mk.step {w1 : World} {bx j : Nat} {K R : Nat → Nat} {x x1 x2 : World} (h : Mk w1 bx j K R x) (hj : j < 3) (h1 : x1 = x.alloc (.cells #[.slice none 0 0, .int .i64 0, .slice none 0 0, .int .i64 0, .int .i64 1, .int .i64 (-1), .int .i64 0, .int .i64 0, .int .i64 0] 75)) (h2 : Rk x2 x1.heap.size x1.heap.size (fun _ => .slice none 0 0) (fun _ => []) false (-1) 0 0 0) (b2 : Below x1.heap.size x1 x2) :
    Mk w1 bx (j + 1) (fun i => if i = j then x.heap.size else K i) (fun i => if i = j then x1.heap.size else R i) ((x2.setCell ⟨bx, 2 * j, none⟩ (.pointer (some ⟨x.heap.size, 0, none⟩))).setCell ⟨bx, 2 * j + 1, none⟩ (.pointer (some ⟨x1.heap.size, 0, none⟩))) := by
  obtain ⟨x3, h3⟩ : ∃ y, (x2.setCell ⟨bx, 2 * j, none⟩ (.pointer (some ⟨x.heap.size, 0, none⟩))).setCell ⟨bx, 2 * j + 1, none⟩ (.pointer (some ⟨x1.heap.size, 0, none⟩)) = y := ⟨_, rfl⟩
  have hlt := h.lt
  have hge := h.ge
  have s1 : x1.heap.size = x.heap.size + 1 := by rw [h1]; simp
  have s2 := b2.size
  have s3 : x3.heap.size = x2.heap.size := by rw [← h3]; simp
  have o23 : Off (fun k => k = bx) x2 x3 := by rw [← h3]; exact ((Off.refl (fun k => k = bx) x2).setCell (p := ⟨bx, 2 * j, none⟩) rfl _).setCell (p := ⟨bx, 2 * j + 1, none⟩) rfl _
  have o13 : Off (fun k => k = bx) x1 x3 := (Off.of_below b2).trans o23
  have b01 : Below x.heap.size x x1 := by rw [h1]; exact (Below.refl _ _).alloc (Nat.le_refl _) _
  have o03 : Off (fun k => k = bx) x x3 := (Off.of_below b01).trans o13
  have hc2 : ∀ o, x2.cell? ⟨bx, o, none⟩ = x.cell? ⟨bx, o, none⟩ := fun o => (b2.cell (p := ⟨bx, o, none⟩) (by simp only; omega)).trans (b01.cell (p := ⟨bx, o, none⟩) hlt)
  have hf2 : ∀ o, x2.frozen? ⟨bx, o, none⟩ = x.frozen? ⟨bx, o, none⟩ := fun o => (b2.frozen (p := ⟨bx, o, none⟩) (by simp only; omega)).trans (b01.frozen (p := ⟨bx, o, none⟩) hlt)
  have hcb : ∀ o, o ≠ 2 * j → o ≠ 2 * j + 1 → x3.cell? ⟨bx, o, none⟩ = x.cell? ⟨bx, o, none⟩ := fun o n1 n2 => by
    rw [← h3, World.cell?_setCell_other _ _ _ _ (by simp; first | done | omega), World.cell?_setCell_other _ _ _ _ (by simp; first | done | omega), hc2]
  obtain ⟨u, hu⟩ := h.has (2 * j) (by omega)
  obtain ⟨u', hu'⟩ := h.has (2 * j + 1) (by omega)
  have hk0 : x3.cell? ⟨bx, 2 * j, none⟩ = some (.pointer (some ⟨x.heap.size, 0, none⟩)) := by
    rw [← h3, World.cell?_setCell_other _ _ _ _ (by simp)]
    exact World.cell?_setCell_same' _ _ _ (by rw [hc2, hu]; rfl)
  have hk1 : x3.cell? ⟨bx, 2 * j + 1, none⟩ = some (.pointer (some ⟨x1.heap.size, 0, none⟩)) := by
    rw [← h3]
    exact World.cell?_setCell_same' _ _ _ (by rw [World.cell?_setCell_other _ _ _ _ (by simp), hc2, hu']; rfl)
  rw [h3]
  have hd := dsk_new x
  rw [← h1] at hd
  refine ⟨fun i hi => ?_, fun i hi => ?_, fun i i' hii hi => ?_, fun i hi => ?_, fun o => ?_, fun o ho => ?_, by omega, hge, h.be.trans (o03.below h.be.size (fun k hk => by omega))⟩
  · by_cases e : i = j
    · subst e
      simp only [if_true]
      refine ⟨(hd.off o13 (fun k hk hb => ?_)).low (by omega), ((h2.off o23 (fun k hk hb => ?_)).low (by omega)).congr (fun q hq => ?_), fun k h1' h2' => ?_⟩
      · have := ft_nil (R := x1.heap.size) (Or.inl hk); rcases hk with hk | hk | hk
        · omega
        · cases hk
        · cases hk
      · rcases hk with hk | ⟨q, _, hk⟩
        · omega
        · cases hk
      · simp only [rx, sg0]; split <;> first | rfl | (split <;> first | rfl | (split <;> rfl))
      · rcases h1' with h1' | h1' | h1'
        · rcases h2' with h2' | ⟨q, _, h2'⟩
          · omega
          · cases h2'
        · cases h1'
        · cases h1'
    · simp only [if_neg e]
      have ho := h.ord i (by omega)
      exact (h.pr i (by omega)).off o03 (fun k hk hb => by rcases ft_nil hk with q | q <;> omega)
  · by_cases e : i = j
    · subst e; simp only [if_true]; omega
    · simp only [if_neg e]; exact h.ord i (by omega)
  · by_cases e : i = j
    · subst e
      have e2 : ¬ i' = i := by omega
      simp only [if_true, if_neg e2]
      exact (h.pr i' hii).foot_lt (Or.inr (Or.inl rfl))
    · have e2 : ¬ i' = j := by omega
      simp only [if_neg e, if_neg e2]
      exact h.apart i i' hii (by omega)
  · by_cases e : i = j
    · subst e; simp only [if_true]; exact ⟨hk0, hk1⟩
    · simp only [if_neg e]
      have := h.cells i (by omega)
      exact ⟨(hcb _ (by omega) (by omega)).trans this.1, (hcb _ (by omega) (by omega)).trans this.2⟩
  · rw [← h3, World.frozen?_setCell, World.frozen?_setCell, hf2]; exact h.wr o
  · by_cases e : o = 2 * j
    · subst e; exact ⟨_, hk0⟩
    · by_cases e2 : o = 2 * j + 1
      · subst e2; exact ⟨_, hk1⟩
      · rw [hcb o e e2]; exact h.has o ho
theorem Mk.tri {w1 : World} {bx : Nat} {K R : Nat → Nat} {x : World} (h : Mk w1 bx 3 K R x) : Tri w1 K R x.heap.size bx 0 (x.alloc (.cells #[.slice none 0 0, .slice none 0 0, .slice none 0 0, .slice none 0 0, .slice none 0 0, .slice none 0 0] 53)) := by
  have bW : Below x.heap.size x (x.alloc (.cells #[.slice none 0 0, .slice none 0 0, .slice none 0 0, .slice none 0 0, .slice none 0 0, .slice none 0 0] 53)) := (Below.refl _ _).alloc (Nat.le_refl _) _
  have hbk := Bk.fresh (w := x) (B := w1.heap.size) h.be.size
  have hlt := h.lt
  have hsz := h.be.size
  refine ⟨⟨fun _ => .slice none 0 0, fun _ => .slice none 0 0, fun _ _ => .slice none 0 0, fun _ => sg0 [] [], _, _, _, [], fun j hj => ⟨(h.pr j hj).below bW, ⟨Nat.le_refl _, Nat.le_refl _, Nat.zero_le _, Nat.zero_le _⟩, hbk, fun k hk => ?_, fun i e he => by simp at he, hsz, fun k hk => if_neg (by omega)⟩, fun i j hi hj hne k hf hg => ?_, Nat.zero_le _, fun j hj => ⟨fun hf => ?_, if_neg (by omega)⟩⟩, h.be.trans (bW.mono hsz), fun j hj => ⟨(bW.cell (p := ⟨bx, 2 * j, none⟩) hlt).trans (h.cells j hj).1, (bW.cell (p := ⟨bx, 2 * j + 1, none⟩) hlt).trans (h.cells j hj).2⟩, by have := bW.size; omega⟩
  · exact if_neg (by have := (h.pr j hj).foot_lt hk; omega)
  · have o1 := h.ord i hi
    have o2 := h.ord j hj
    have f1 := ft_nil hf
    have f2 := ft_nil hg
    rcases Nat.lt_or_ge i j with q | q
    · have := h.apart j i q hj; omega
    · have := h.apart i j (by omega) hi; omega
  · have := h.ord j hj
    have := ft_nil hf
    omega
def Tns (w : World) (ao : Option Addr) (ts : List (Int × Opv)) : Prop := ∀ (k : Nat) (x : Int × Opv), ts[k]? = some x → ∃ b off, ao = some ⟨b, off, none⟩ ∧ w.cell? ⟨b, off + k * 10, none⟩ = some (.int .i64 x.1) ∧ OpAt w b (off + k * 10 + 1) x.2
theorem Tns.below {w w' : World} {ao : Option Addr} {xs : List (Int × Opv)} (h : Tns w ao xs) (hb : Below w.heap.size w w') : Tns w' ao xs := fun k x hx => by
  obtain ⟨b, off, e, h0, ho⟩ := h k x hx
  exact ⟨b, off, e, (hb.cell (p := ⟨b, off + k * 10, none⟩) ho.lt).trans h0, ho.below hb⟩
end Go.Proofs.Ytbljepiejbikaaa

/-
  A list of turns, opened under the second form's bound.
-/
namespace Go.Proofs.Ytbljepiejbikaaa
open Go.ChangeShapes Go.WideShapes Go.ChangeAt Go.RowKit Go.Deep

section
variable {H : Type} {enc : TypeId × Value → H} {W : World} {base : Nat} {spare : Nat → Bool} {held : Bool}
theorem cellsTurn : Try.prog.cellsOf 58 = 10 := by kernel_rfl
theorem ten {α : Type} {l : List α} (h : l.length = 10) : ∃ c r, l = c :: r ∧ r.length = 9 := by
  cases l with
  | nil => simp at h
  | cons c r => exact ⟨c, r, rfl, by simpa using h⟩
theorem open_turn3 {n : Nat} {cs : List Value} {x : DataW H × List MemPlace} {b o : Nat} (h : DataW.trod enc Try.prog W base spare held n 58 cs = some x) (hc : ∀ j v, cs[j]? = some v → W.cell? ⟨b, o + j, none⟩ = some v) (hx : Rows.uptoBulk x.1 ≤ 1048576) :
    ∃ y : Int × Opv, (W.cell? ⟨b, o, none⟩ = some (.int .i64 y.1) ∧ OpAt W b (o + 1) y.2) ∧ OpFit y.2 := by
  obtain ⟨xs, m, _, hxe, hcl, hlen, hfl⟩ := DataW.trod_struct Try.underlying58 h
  obtain ⟨c, r, rfl, hr⟩ := ten (l := cs) (by rw [hcl, cellsTurn])
  obtain ⟨x0, x1, rfl⟩ := two (l := xs) hlen
  have g0 : DataW.trod enc Try.prog W base spare held m 3 [c] = some x0 := by simpa [cellsInt] using hfl 0 _ rfl
  have g1 : DataW.trod enc Try.prog W base spare held m 34 r = some x1 := by
    have := hfl 1 _ rfl
    simpa [cellsInt, cellsOp, List.take_of_length_le (Nat.le_of_eq hr)] using this
  obtain ⟨k, rfl⟩ := one_int g0
  have hbx : Rows.uptoBulk x1.1 ≤ Rows.uptoBulk x.1 := by
    rw [hxe]
    simp [Rows.uptoBulk, Rows.uptoBulkAll]
    omega
  obtain ⟨y, hy, hp⟩ := open_op3 (b := b) (o := o + 1) g1 (fun j v hv => by
    have := hc (j + 1) v (by simpa using hv)
    rwa [show o + (j + 1) = o + 1 + j by omega] at this) (by omega)
  exact ⟨(k, y), ⟨hc 0 _ rfl, hy⟩, hp⟩
theorem open_turns3 {n : Nat} {cs : List Value} {x : DataW H × List MemPlace} (h : DataW.trod enc Try.prog W base spare held n 56 cs = some x) (hb : Rows.uptoBulk x.1 ≤ 1048576) :
    ∃ ao cap xs, cs = [.slice ao xs.length cap] ∧ Tns W ao xs ∧ xs.length ≤ 1048576 ∧ ∀ y ∈ xs, OpFit y.2 := by
  rcases open_slice Try.underlying56 h with ⟨rfl, _⟩ | ⟨a, len, cap, m, n', D, Pl, rfl, _, hl, hm, hmm, hxe, hx⟩
  · exact ⟨none, 0, [], rfl, fun k x hk => (by simp at hk), Nat.zero_le _, fun y hy => (by cases hy)⟩
  · have hlm : len ≤ m := by rw [hmm]; split <;> omega
    have hDk : ∀ k, k < len → Rows.uptoBulk (D k) ≤ 1048576 ∧ len ≤ 1048576 := by
      intro k hk
      rw [hxe] at hb
      simp only [Rows.uptoBulk] at hb
      have h1 := bulk_mem (H := H) (l := (List.range len).map D) (d := D k) (List.mem_map_of_mem (List.mem_range.2 hk))
      have h2 := bulk_len ((List.range len).map D)
      simp only [List.length_map, List.length_range] at h2
      omega
    have key : ∀ k, k < len → ∃ y : Int × Opv, (∃ b off, a = ⟨b, off, none⟩ ∧ W.cell? ⟨b, off + k * 10, none⟩ = some (.int .i64 y.1) ∧ OpAt W b (off + k * 10 + 1) y.2) ∧ OpFit y.2 := by
      have hsp : 0 < len → a.spot = none := fun h0 => by
        obtain ⟨cs', h1, _⟩ := hx 0 (by omega)
        rw [Nat.zero_mul] at h1
        obtain ⟨b, o, e, _⟩ := cells_at h1 (by rw [cellsTurn]; decide)
        have : a.add 0 = a := rfl
        rw [this] at e; rw [e]
      intro k hk
      obtain ⟨b, off, sp⟩ := a
      obtain rfl : sp = none := hsp (by omega)
      obtain ⟨cs', h1, h2⟩ := hx k (by omega)
      rw [cellsTurn] at h1
      obtain ⟨b', o', e, hc⟩ := cells_at h1 (by decide)
      rw [Addr.add_lit] at e
      obtain ⟨rfl, rfl⟩ : b = b' ∧ off + k * 10 = o' := by simpa using e
      obtain ⟨y, hy, hp⟩ := open_turn3 h2 hc (hDk k hk).1
      exact ⟨y, ⟨b, off, rfl, hy⟩, hp⟩
    haveI : Inhabited (Int × Opv) := ⟨0, ⟨0, 0, 0, 0, none, 0, 0, 0, 0, 0, 0, []⟩⟩
    obtain ⟨Y, hY⟩ := choose_lt (α := Int × Opv) (p := fun k y => (∃ b off, a = ⟨b, off, none⟩ ∧ W.cell? ⟨b, off + k * 10, none⟩ = some (.int .i64 y.1) ∧ OpAt W b (off + k * 10 + 1) y.2) ∧ OpFit y.2) key
    refine ⟨some a, cap, (List.range len).map Y, by simp, fun k x hk => ?_, ?_, fun y hy => ?_⟩
    · simp only [List.getElem?_map, Option.map_eq_some_iff] at hk
      obtain ⟨i, hi, rfl⟩ := hk
      obtain ⟨hi1, hi2⟩ := List.getElem?_eq_some_iff.1 hi
      simp at hi1 hi2
      subst hi2
      obtain ⟨⟨b, off, e, ho⟩, _⟩ := hY k hi1
      exact ⟨b, off, by rw [e], ho⟩
    · simp only [List.length_map, List.length_range]
      rcases Nat.eq_zero_or_pos len with h0 | h0
      · omega
      · exact (hDk 0 h0).2
    · obtain ⟨i, hi, rfl⟩ := List.mem_map.1 hy
      exact (hY i (List.mem_range.1 hi)).2
end
end Go.Proofs.Ytbljepiejbikaaa

/-
  DiskPair: the walk.
-/
namespace Go.Proofs.Ytbljepiejbikaaa
open Go.RowKit Go.BigFrame

set_option maxRecDepth 100000 in
set_option maxHeartbeats 8000000 in
theorem pair_law {w : World} {ao : Option Addr} {ts : List (Int × Opv)} {cap : Nat} (hT : Tns w ao ts) (hl : ts.length ≤ 1048576) (hF : ∀ y ∈ ts, OpFit y.2) :
    Calls Try.prog 5 #[.slice ao ts.length cap] w fun e w' => e = .returned (.bool true) ∧ Below w.heap.size w w' := by
  have HI : Hid (Tns w ao ts ∧ ∀ y ∈ ts, OpFit y.2) := ⟨hT, hF⟩
  clear hT hF
  go_enter Try.func5, Try.ntmps5
  go_wp2_with fail
  go_loopw [3, 4] (fun t3 t4 wx => ∃ i : Nat, i ≤ ts.length ∧ t4 = .int .i64 i ∧ Hid (OpRow wx w.heap.size t3 ((ts.take i).map Prod.snd) ∧ Below w.heap.size w wx)) (fun _ t4 _ => ts.length - (intOf t4).toNat)
  case atStart => exact ⟨0, Nat.zero_le _, rfl, OpRow.nil _ _, Below.refl _ _⟩
  case round =>
    obtain ⟨i, hi, rfl, HR'⟩ := hrel
    obtain ⟨a3, c3, e3'⟩ := HR'.out.1.isSlice
    have hlen : ((ts.take i).map Prod.snd).length = i := by simp; omega
    rw [hlen] at e3'
    subst e3'
    have HR : Hid (OpRow wr w.heap.size (.slice a3 i c3) ((ts.take i).map Prod.snd) ∧ Below w.heap.size w wr) := HR'
    clear HR'
    by_cases hlt : i < ts.length
    · have hlti : (i : Int) < ts.length := by omega
      obtain ⟨y, hy⟩ : ∃ y, ts[i]? = some y := ⟨_, List.getElem?_eq_getElem hlt⟩
      obtain ⟨b, off, rfl, hof, hat⟩ := (HI.out.1.below HR.out.2) i y hy
      have a0 := hat.c0
      have a1 := hat.c1
      have a2 := hat.c2
      have a3' := hat.c3
      have a4 := hat.c4
      have a5 := hat.c5
      have a6 := hat.c6
      have a7 := hat.c7
      have a8 := hat.c8
      obtain ⟨a', c', w', e2, r2, b2⟩ := run_opush HR.out.1 HR.out.2.size (by omega) y.2
      rw [hlen] at e2 r2
      have HN : Hid (OpRow w' w.heap.size (.slice a' (i + 1) c') ((ts.take (i + 1)).map Prod.snd) ∧ Below w.heap.size w w') := by
        refine ⟨?_, HR.out.2.trans b2⟩
        rw [List.take_add_one, hy]
        simpa using r2
      have e3 : (Builtin.append_ #[22, 22] 22 #[.slice a3 i c3, .slice (some ⟨wr.heap.size, 0, none⟩) 1 1]).run Try.prog (wr.alloc (.cells #[.int .i64 y.2.kd, .int .i64 y.2.ar, .int .i64 y.2.at_, .int .i64 y.2.n, .slice y.2.po y.2.pl y.2.pc, .int .i64 y.2.t0, .int .i64 y.2.t1, .int .i64 y.2.t2, .int .i64 y.2.t3] 34)) = .ok (.slice a' (i + 1) c') w' := e2
      clear e2 r2 b2 hat hy hlen
      go_wp2_with (at_builtin; refine wpList_append_run rfl (.tmp 16) (.tmp 22) 22 _ rfl e3 ?_)
      clear e3 a0 a1 a2 a3' a4 a5 a6 a7 a8 hof
      go_roundw
      case rel => exact ⟨i + 1, hlt, by go_num, HN.out⟩
      case measure => simp [intOf]; omega
    · have hlti : ¬ (i : Int) < ts.length := by omega
      have hie : i = ts.length := by omega
      subst hie
      have HR1 : Hid (Ops wr a3 (ts.map Prod.snd) ∧ Below w.heap.size w wr ∧ Tns wr ao ts ∧ (ts.map Prod.snd).length = ts.length ∧ ∀ y ∈ ts.map Prod.snd, OpFit y) := by
        obtain ⟨r1, b1⟩ := HR.out
        rw [List.take_length] at r1
        have ht := HI.out.1.below b1
        refine ⟨r1.ops (fun y hy => ?_), b1, ht, by simp, fun y hy => ?_⟩
        · obtain ⟨z, hz, rfl⟩ := List.mem_map.1 hy
          obtain ⟨k, hk⟩ := List.getElem?_of_mem hz
          obtain ⟨b, off, _, _, ho⟩ := ht k z hk
          exact ho.p
        · obtain ⟨z, hz, rfl⟩ := List.mem_map.1 hy
          exact HI.out.2 z hz
      clear HR
      go_wp2_with fail
      have hbe := beyond_areas (p0 := none) (p1 := none) (m0 := 0) (m1 := 0) (c0 := 0) (c1 := 0) (cap := c3) wr HR1.out.1 (by rw [HR1.out.2.2.2.1]; unfold maxLen; omega) (fun y hy => by have := (HR1.out.2.2.2.2 y hy).pl; omega) (by omega) (by omega)
      rw [HR1.out.2.2.2.1] at hbe
      refine hbe.mono ?_
      rintro e w1 ⟨⟨q, rfl⟩, b1⟩
      have HB1 : Hid (Below w.heap.size w w1 ∧ Tns w1 ao ts) := ⟨HR1.out.2.1.trans (b1.mono HR1.out.2.1.size), HR1.out.2.2.1.below b1⟩
      clear b1 hbe
      cases q with
      | true =>
        go_wp2_with fail
        go_ret
        exact ⟨rfl, HB1.out.1⟩
      | false =>
        go_wp2_with fail
        have HM0 : Hid (Mk w1 w1.heap.size 0 (fun _ => 0) (fun _ => 0) (w1.alloc (.cells #[.pointer none, .pointer none, .pointer none, .pointer none, .pointer none, .pointer none] 59))) := Mk.start (Below.refl _ _) _ _ _
        go_loopw [6] (fun t6 wx => ∃ j : Nat, j ≤ 3 ∧ t6 = .int .i64 j ∧ Hid (∃ K R, Mk w1 w1.heap.size j K R wx)) (fun t6 _ => 3 - (intOf t6).toNat)
        case atStart => exact ⟨0, Nat.zero_le _, rfl, _, _, HM0.out⟩
        case round =>
          obtain ⟨j, hj, rfl, HM'⟩ := hrel
          obtain ⟨K, R, hM⟩ := HM'.out
          have HM : Hid (Mk w1 w1.heap.size j K R wr) := hM
          clear hM HM'
          by_cases hlt : j < 3
          · have hlti : (j : Int) < 3 := by omega
            go_wp2_with fail
            refine (New_any _).mono ?_
            rintro e x1 ⟨rfl, hx1⟩
            have H1 : Hid (x1 = wr.alloc (.cells #[.slice none 0 0, .int .i64 0, .slice none 0 0, .int .i64 0, .int .i64 1, .int .i64 (-1), .int .i64 0, .int .i64 0, .int .i64 0] 75)) := hx1
            clear hx1
            go_wp2_with fail
            refine (rNew_any _).mono ?_
            rintro e x2 ⟨rfl, hr2, b2⟩
            have H2 : Hid (Mk w1 w1.heap.size (j + 1) (fun i => if i = j then wr.heap.size else K i) (fun i => if i = j then x1.heap.size else R i) ((x2.setCell ⟨w1.heap.size, j * 2, none⟩ (.pointer (some ⟨wr.heap.size, 0, none⟩))).setCell ⟨w1.heap.size, j * 2 + 1, none⟩ (.pointer (some ⟨x1.heap.size, 0, none⟩)))) := by
              have := HM.out.step hlt H1.out hr2 b2
              rwa [Nat.mul_comm 2 j] at this
            have hcx : ∀ o, x2.cell? ⟨w1.heap.size, o, none⟩ = wr.cell? ⟨w1.heap.size, o, none⟩ ∧ x2.frozen? ⟨w1.heap.size, o, none⟩ = false := fun o => by
              have hb := HM.out.lt
              have b01 : Below wr.heap.size wr x1 := by rw [H1.out]; exact (Below.refl _ _).alloc (Nat.le_refl _) _
              have s1 := b01.size
              exact ⟨(b2.cell (p := ⟨w1.heap.size, o, none⟩) (by simp only; omega)).trans (b01.cell (p := ⟨w1.heap.size, o, none⟩) hb), ((b2.frozen (p := ⟨w1.heap.size, o, none⟩) (by simp only; omega)).trans (b01.frozen (p := ⟨w1.heap.size, o, none⟩) hb)).trans (HM.out.wr o)⟩
            obtain ⟨u0, hu0⟩ := HM.out.has (j * 2) (by omega)
            obtain ⟨u1, hu1⟩ := HM.out.has (j * 2 + 1) (by omega)
            have g0 := (hcx (j * 2)).1.trans hu0
            have g1 := (hcx (j * 2 + 1)).1.trans hu1
            have f0 := (hcx (j * 2)).2
            have f1 := (hcx (j * 2 + 1)).2
            clear hcx hr2 b2 hu0 hu1
            go_wp2_with fail
            go_roundw
            case rel => exact ⟨j + 1, by omega, by go_num, _, _, H2.out⟩
            case measure => simp [intOf]; omega
          · have hlti : ¬ (j : Int) < 3 := by omega
            have hje : j = 3 := by omega
            subst hje
            go_wp2_with fail
            obtain ⟨Q, hQ⟩ : ∃ y, wr.heap.size = y := ⟨_, rfl⟩
            obtain ⟨W, hW⟩ : ∃ y, wr.alloc (.cells #[.slice none 0 0, .slice none 0 0, .slice none 0 0, .slice none 0 0, .slice none 0 0, .slice none 0 0] 53) = y := ⟨_, rfl⟩
            have HW : Hid (Tri w1 K R Q w1.heap.size 0 W) := by
              have := HM.out.tri
              rwa [hQ, hW] at this
            rw [hQ, hW]
            clear hQ hW HM HM0
            go_loopw [8] (fun t8 wx => ∃ i : Nat, i ≤ ts.length ∧ t8 = .int .i64 i ∧ Hid (∃ m, m ≤ 4 * i ∧ Tri w1 K R Q w1.heap.size m wx)) (fun t8 _ => ts.length - (intOf t8).toNat)
            case atStart => exact ⟨0, Nat.zero_le _, rfl, 0, Nat.zero_le _, HW.out⟩
            case round =>
              obtain ⟨i, hi', rfl, HT'⟩ := hrel
              obtain ⟨m, hmi, hT⟩ := HT'.out
              have HT : Hid (Tri w1 K R Q w1.heap.size m wr) := hT
              have hcell := hT.2.2.1
              have k0 : wr.cell? ⟨w1.heap.size, 0, none⟩ = some (.pointer (some ⟨K 0, 0, none⟩)) := (hcell 0 (by omega)).1
              have k1 : wr.cell? ⟨w1.heap.size, 1, none⟩ = some (.pointer (some ⟨R 0, 0, none⟩)) := (hcell 0 (by omega)).2
              have k2 : wr.cell? ⟨w1.heap.size, 2, none⟩ = some (.pointer (some ⟨K 1, 0, none⟩)) := (hcell 1 (by omega)).1
              have k3 : wr.cell? ⟨w1.heap.size, 3, none⟩ = some (.pointer (some ⟨R 1, 0, none⟩)) := (hcell 1 (by omega)).2
              have k4 : wr.cell? ⟨w1.heap.size, 4, none⟩ = some (.pointer (some ⟨K 2, 0, none⟩)) := (hcell 2 (by omega)).1
              have k5 : wr.cell? ⟨w1.heap.size, 5, none⟩ = some (.pointer (some ⟨R 2, 0, none⟩)) := (hcell 2 (by omega)).2
              clear hT HT' hcell
              by_cases hlt : i < ts.length
              · have hlti : (i : Int) < ts.length := by omega
                obtain ⟨y, hy⟩ : ∃ y, ts[i]? = some y := ⟨_, List.getElem?_eq_getElem hlt⟩
                obtain ⟨b, off, rfl, hof1, hat1⟩ := HB1.out.2 i y hy
                have hfit := HI.out.2 y (List.mem_of_getElem? hy)
                have hat := hat1.below HT.out.2.1
                have hbl := hat1.lt
                have hof := (HT.out.2.1.cell (p := ⟨b, off + i * 10, none⟩) hbl).trans hof1
                have a0 := hat.c0
                have a1 := hat.c1
                have a2 := hat.c2
                have a3 := hat.c3
                have a4 := hat.c4
                have a5 := hat.c5
                have a6 := hat.c6
                have a7 := hat.c7
                have a8 := hat.c8
                have hpc : ∀ j x, j < 3 → Below wr.heap.size wr x → Calls Try.prog 17 #[.agg #[.pointer (some ⟨K j, 0, none⟩), .pointer (some ⟨R j, 0, none⟩)], .agg #[.int .i64 y.2.kd, .int .i64 y.2.ar, .int .i64 y.2.at_, .int .i64 y.2.n, .slice y.2.po y.2.pl y.2.pc, .int .i64 y.2.t0, .int .i64 y.2.t1, .int .i64 y.2.t2, .int .i64 y.2.t3], .pointer (some ⟨Q, 0, none⟩)] x fun e x' => e = .returned (.bool true) ∧ Hid (Tri w1 K R Q w1.heap.size (m + 4) x') ∧ (∀ o, x'.cell? ⟨w1.heap.size, o, none⟩ = wr.cell? ⟨w1.heap.size, o, none⟩) ∧ (∀ o, x'.cell? ⟨b, o, none⟩ = wr.cell? ⟨b, o, none⟩) := fun j x hj hx => by
                  refine (tri_plays (HT.out.below hx) hj y.2 hat1.p hfit (by omega)).mono ?_
                  rintro e x' ⟨he, hs', hf⟩
                  have q2 := HT.out.2.2.2
                  have hsz := HT.out.2.1.size
                  exact ⟨he, hs', fun o => (hf.1 o).trans (hx.cell (p := ⟨w1.heap.size, o, none⟩) q2), fun o => (hf.2 b o hbl).trans (hx.cell (p := ⟨b, o, none⟩) (by simp only; omega))⟩
                have htm : y.1.tmod 3 = -2 ∨ y.1.tmod 3 = -1 ∨ y.1.tmod 3 = 0 ∨ y.1.tmod 3 = 1 ∨ y.1.tmod 3 = 2 := by have t1 := Int.tmod_lt_of_pos y.1 (b := 3) (by omega); have t2 := Int.lt_tmod_of_pos y.1 (b := 3) (by omega); omega
                clear hat hat1 hy hfit hof1
                rcases htm with htm | htm | htm | htm | htm
                all_goals
                  go_wp2_with fail
                  go_region_held3 (fun x => x.cell? ⟨w1.heap.size, 0, none⟩ = some (.pointer (some ⟨K 0, 0, none⟩)) ∧ x.cell? ⟨w1.heap.size, 1, none⟩ = some (.pointer (some ⟨R 0, 0, none⟩)) ∧ x.cell? ⟨w1.heap.size, 2, none⟩ = some (.pointer (some ⟨K 1, 0, none⟩)) ∧ x.cell? ⟨w1.heap.size, 3, none⟩ = some (.pointer (some ⟨R 1, 0, none⟩)) ∧ x.cell? ⟨w1.heap.size, 4, none⟩ = some (.pointer (some ⟨K 2, 0, none⟩)) ∧ x.cell? ⟨w1.heap.size, 5, none⟩ = some (.pointer (some ⟨R 2, 0, none⟩)) ∧ x.cell? ⟨b, off + i * 10 + 1, none⟩ = some (.int .i64 y.2.kd) ∧ x.cell? ⟨b, off + i * 10 + 1 + 1, none⟩ = some (.int .i64 y.2.ar) ∧ x.cell? ⟨b, off + i * 10 + 1 + 2, none⟩ = some (.int .i64 y.2.at_) ∧ x.cell? ⟨b, off + i * 10 + 1 + 3, none⟩ = some (.int .i64 y.2.n) ∧ x.cell? ⟨b, off + i * 10 + 1 + 4, none⟩ = some (.slice y.2.po y.2.pl y.2.pc) ∧ x.cell? ⟨b, off + i * 10 + 1 + 5, none⟩ = some (.int .i64 y.2.t0) ∧ x.cell? ⟨b, off + i * 10 + 1 + 6, none⟩ = some (.int .i64 y.2.t1) ∧ x.cell? ⟨b, off + i * 10 + 1 + 7, none⟩ = some (.int .i64 y.2.t2) ∧ x.cell? ⟨b, off + i * 10 + 1 + 8, none⟩ = some (.int .i64 y.2.t3)) (simp [*]) (first | (go_at_call 17; refine (hpc _ _ ?_ ?_).mono ?_; (omega); (first | exact Below.refl _ _ | exact Below.drew (Below.refl _ _) | assumption | exact Below.drew (by assumption)); rintro e wx ⟨rfl, hx1, hx2, hx3⟩))
                  all_goals
                    go_wp2_with fail
                    go_roundw
                    case rel => exact ⟨i + 1, hlt, by go_num, m + 4, by omega, hx1.out⟩
                    case measure => simp [intOf]; omega
              · have hlti : ¬ (i : Int) < ts.length := by omega
                go_wp2_with fail
                refine (tri_told HT.out (j := 0) (by omega) (by omega)).mono ?_
                rintro e q1 ⟨rfl, hs, hf⟩
                have T1 : Hid (Tri w1 K R Q w1.heap.size (m + 4) q1) := hs
                have g2 : q1.cell? ⟨w1.heap.size, 2, none⟩ = some (.pointer (some ⟨K 1, 0, none⟩)) := (hs.2.2.1 1 (by omega)).1
                have g3 : q1.cell? ⟨w1.heap.size, 3, none⟩ = some (.pointer (some ⟨R 1, 0, none⟩)) := (hs.2.2.1 1 (by omega)).2
                clear hs hf
                go_wp2_with fail
                refine (tri_told T1.out (j := 1) (by omega) (by omega)).mono ?_
                rintro e q2 ⟨rfl, hs, hf⟩
                have T2 : Hid (Tri w1 K R Q w1.heap.size (m + 4 + 4) q2) := hs
                have g4 : q2.cell? ⟨w1.heap.size, 4, none⟩ = some (.pointer (some ⟨K 2, 0, none⟩)) := (hs.2.2.1 2 (by omega)).1
                have g5 : q2.cell? ⟨w1.heap.size, 5, none⟩ = some (.pointer (some ⟨R 2, 0, none⟩)) := (hs.2.2.1 2 (by omega)).2
                clear hs hf
                go_wp2_with fail
                refine (tri_told T2.out (j := 2) (by omega) (by omega)).mono ?_
                rintro e q3 ⟨rfl, hs, hf⟩
                have T3 : Hid (Tri w1 K R Q w1.heap.size (m + 4 + 4 + 4) q3) := hs
                clear hs hf
                go_wp2_with fail
                refine (tri_alone T3.out (by omega)).mono ?_
                rintro e q4 ⟨rfl, hs, hf⟩
                have T4 : Hid (Tri w1 K R Q w1.heap.size 0 q4) := hs
                have g0 : q4.cell? ⟨w1.heap.size, 0, none⟩ = some (.pointer (some ⟨K 0, 0, none⟩)) := (hs.2.2.1 0 (by omega)).1
                have g1 : q4.cell? ⟨w1.heap.size, 1, none⟩ = some (.pointer (some ⟨R 0, 0, none⟩)) := (hs.2.2.1 0 (by omega)).2
                clear hs hf
                go_wp2_with fail
                refine (tri_told T4.out (j := 0) (by omega) (by omega)).mono ?_
                rintro e q5 ⟨rfl, hs, hf⟩
                have T5 : Hid (Tri w1 K R Q w1.heap.size (0 + 4) q5) := hs
                have g2 : q5.cell? ⟨w1.heap.size, 2, none⟩ = some (.pointer (some ⟨K 1, 0, none⟩)) := (hs.2.2.1 1 (by omega)).1
                have g3 : q5.cell? ⟨w1.heap.size, 3, none⟩ = some (.pointer (some ⟨R 1, 0, none⟩)) := (hs.2.2.1 1 (by omega)).2
                clear hs hf
                go_wp2_with fail
                refine (tri_told T5.out (j := 1) (by omega) (by omega)).mono ?_
                rintro e q6 ⟨rfl, hs, hf⟩
                have T6 : Hid (Tri w1 K R Q w1.heap.size (0 + 4 + 4) q6) := hs
                have g4 : q6.cell? ⟨w1.heap.size, 4, none⟩ = some (.pointer (some ⟨K 2, 0, none⟩)) := (hs.2.2.1 2 (by omega)).1
                have g5 : q6.cell? ⟨w1.heap.size, 5, none⟩ = some (.pointer (some ⟨R 2, 0, none⟩)) := (hs.2.2.1 2 (by omega)).2
                clear hs hf
                go_wp2_with fail
                refine (tri_told T6.out (j := 2) (by omega) (by omega)).mono ?_
                rintro e q7 ⟨rfl, hs, hf⟩
                have H7 : Hid (Below w.heap.size w q7) := HB1.out.1.trans (hs.2.1.mono HB1.out.1.size)
                clear hs hf
                go_wp2_with fail
                go_ret
                exact ⟨rfl, H7.out⟩
end Go.Proofs.Ytbljepiejbikaaa
