/-
  A box in memory; made; copies tell the same.
-/
import Derived.Test.YtplhdgijjckjcaaGreatDoorIbDec
namespace Go.Proofs.YtplhdgijjckjcaaGreatDoor
open Go.RowKit

/-- Ticks do not fall. -/
def Srt (es : List Ent) : Prop := ∀ (i : Nat) (x y : Ent), es[i]? = some x → es[i + 1]? = some y → x.tk ≤ y.tk
/-- What is always so of an inbox. -/
structure Inv (K R : Int) (es : List Ent) : Prop where
  k1 : 1 ≤ K
  k2 : K ≤ 64
  r1 : 1 ≤ R
  r2 : R ≤ 32
  op : (nOp es : Int) ≤ R
  dc : (nDc es : Int) ≤ K + 1
  srt : Srt es
theorem Inv.len {K R : Int} {es : List Ent} (h : Inv K R es) : es.length ≤ 97 := by
  have h1 := h.k2
  have h2 := h.r2
  have h3 := h.op
  have h4 := h.dc
  have h5 := nOp_add es
  omega
/-- A box: its block b, its shelf's sb, its map's M, its list's slice v; nothing of it lies below B. -/
structure Bx (w : World) (B b sb M : Nat) (v : Value) (K R : Int) (es : List Ent) : Prop where
  blk : w.heap[b]? = some (.cells #[.pointer (some ⟨sb, 0, none⟩)] 97 (0, 0))
  sh : Shf w B sb M v K R es
  own : ∀ e ∈ es, Own w B e
  lb : B ≤ b
  ls : B ≤ sb
  lm : B ≤ M
  inv : Inv K R es
section
variable {w w' : World} {B b sb M : Nat} {v : Value} {K R : Int} {es : List Ent}
theorem Bx.lt (h : Bx w B b sb M v K R es) : b < w.heap.size := blk_lt h.blk
theorem Bx.below (h : Bx w B b sb M v K R es) (hb : Below w.heap.size w w') : Bx w' B b sb M v K R es :=
  ⟨(hb.block b h.lt).trans h.blk, h.sh.below hb, fun e he => (h.own e he).below hb, h.lb, h.ls, h.lm, h.inv⟩
theorem Bx.ft (h : Bx w B b sb M v K R es) {q : Nat} (hq : Ft sb M v q) : B ≤ q := by
  rcases hq with rfl | rfl | hg
  · exact h.ls
  · exact h.lm
  · exact (h.sh.row.lt hg).1
theorem Bx.nb (h : Bx w B b sb M v K R es) : ¬ Ft sb M v b := by
  rintro (rfl | rfl | hg)
  · have := h.blk
    rw [h.sh.blk] at this
    simp at this
  · obtain ⟨es', clock, hm⟩ := h.sh.map.isMap
    have := h.blk
    rw [hm] at this
    simp at this
  · obtain ⟨cs, b1⟩ := row_type h.sh.row hg
    have := h.blk
    rw [b1] at this
    simp at this
/-- Each entry of it may be copied. -/
theorem Bx.lie (h : Bx w B b sb M v K R es) : ∀ e ∈ es, Lie w e := fun e he => by
  have := mayB_is (h.sh.ok e he)
  exact ⟨(h.own e he).lies, by omega, by omega, by omega⟩
/-- What a call leaves of a box. -/
def BxQ (w : World) (B b sb M : Nat) (v : Value) (K R : Int) (es' : List Ent) (w' : World) : Prop :=
  ∃ v', Bx w' B b sb M v' K R es' ∧ Off (Ft sb M v) w w' ∧ ∀ q, v'.ownBlock = some q → v.ownBlock = some q ∨ w.heap.size ≤ q
theorem BxQ.of_below {w1 : World} {es' : List Ent} (hb : Below w.heap.size w w1) (h : BxQ w1 B b sb M v K R es' w') : BxQ w B b sb M v K R es' w' := by
  obtain ⟨v', h1, h2, h3⟩ := h
  exact ⟨v', h1, (Off.of_below hb).trans h2, fun q e => (h3 q e).imp id fun g => Nat.le_trans hb.size g⟩
theorem BxQ.then_below {w1 : World} {es' : List Ent} (h : BxQ w B b sb M v K R es' w1) (hb : Below w1.heap.size w1 w') : BxQ w B b sb M v K R es' w' := by
  obtain ⟨v', h1, h2, h3⟩ := h
  exact ⟨v', h1.below hb, h2.trans (Off.of_below hb), h3⟩
theorem Bx.same (h : Bx w B b sb M v K R es) (hb : Below w.heap.size w w') : BxQ w B b sb M v K R es w' := ⟨v, h.below hb, Off.of_below hb, fun _ e => Or.inl e⟩
/-- A box out of its shelf behind a call. -/
theorem bxq_of {es' : List Ent} (h : Bx w B b sb M v K R es) (hq : ShfQ w B sb M v K R es' w') (hi : Inv K R es') (ho : ∀ e ∈ es', Own w B e) : BxQ w B b sb M v K R es' w' := by
  obtain ⟨v', h1, h2, h3⟩ := hq
  exact ⟨v', ⟨(h2.block b h.lt h.nb).trans h.blk, h1, fun e he => (ho e he).byType h2 (h.sh.notBytes), h.lb, h.ls, h.lm, hi⟩, h2, h3⟩
theorem ne_nil (b : Nat) : (binOp .neq 38 (.pointer (some ⟨b, 0, none⟩)) (.pointer none)).run Tryz.prog w = .ok (.bool true) w := by
  kernel_rfl
set_option maxHeartbeats 400000 in
theorem made_yes (h : Bx w B b sb M v K R es) : Calls Tryz.prog 51 #[.pointer (some ⟨b, 0, none⟩)] w fun e w' => e = .returned (.bool true) ∧ w' = w := by
  have c0 := hcell h.blk 0
  clear h
  go_enter Tryz.func51, Tryz.ntmps51
  go_wp2
  go_ret
  exact ⟨rfl, rfl⟩
/-- A box that nobody made. -/
def Un (w : World) (x : Value) : Prop := x = .pointer none ∨ ∃ b, x = .pointer (some ⟨b, 0, none⟩) ∧ w.cell? ⟨b, 0, none⟩ = some (.pointer none)
theorem Un.below {x : Value} (h : Un w x) (hb : Below w.heap.size w w') : Un w' x := by
  rcases h with h | ⟨b, h, hc⟩
  · exact Or.inl h
  · exact Or.inr ⟨b, h, by rw [hb.cell (p := ⟨b, 0, none⟩) (cell_lt hc)]; exact hc⟩
theorem Un.alloc {x : Value} (h : Un w x) (o : Obj) : Un (w.alloc o) x := h.below ((Below.refl _ _).alloc (Nat.le_refl _) _)
set_option maxHeartbeats 400000 in
theorem made_no {x : Value} (h : Un w x) : Calls Tryz.prog 51 #[x] w fun e w' => e = .returned (.bool false) ∧ w' = w := by
  rcases h with rfl | ⟨b, rfl, hc⟩
  · go_enter Tryz.func51, Tryz.ntmps51
    go_wp2
    go_ret
    exact ⟨rfl, rfl⟩
  · go_enter Tryz.func51, Tryz.ntmps51
    go_wp2
    go_ret
    exact ⟨rfl, rfl⟩
end
/-! ### copies -/
section
variable {w : World} {B : Nat} {ls es : List Ent}
theorem Cps.map_eq {α : Type} (h : Cps w B ls es) (f : Ent → α) (hf : ∀ (m : Ent) a c a' c' a'' c'', f (m.wi a c a' c' a'' c'') = f m) : ls.map f = es.map f := by
  apply List.ext_getElem?
  intro i
  rw [List.getElem?_map, List.getElem?_map]
  cases hl : ls[i]? with
  | none =>
    rw [List.getElem?_eq_none_iff, h.1] at hl
    rw [List.getElem?_eq_none hl]
  | some l =>
    have hi := (List.getElem?_eq_some_iff.1 hl).1
    rw [h.1] at hi
    rw [List.getElem?_eq_getElem hi]
    obtain ⟨⟨a, c, a', c', a'', c'', rfl⟩, _⟩ := h.2 i l es[i] hl (List.getElem?_eq_getElem hi)
    simp only [Option.map_some, hf]
theorem fi_map (s : ByteArray) (es : List Ent) : fi s es = (es.map (·.ct)).findIdx? (fun t => t.toList == s.toList) := by
  rw [List.findIdx?_map]; rfl
theorem Cps.fi (h : Cps w B ls es) (s : ByteArray) : fi s ls = fi s es := by rw [fi_map, fi_map, h.map_eq (·.ct) (fun _ _ _ _ _ _ _ => rfl)]
theorem nOp_map (es : List Ent) : nOp es = (es.map opB).countP id := by rw [List.countP_map]; rfl
theorem nDc_map (es : List Ent) : nDc es = (es.map dcB).countP id := by rw [List.countP_map]; rfl
theorem Cps.nOp (h : Cps w B ls es) : nOp ls = nOp es := by rw [nOp_map, nOp_map, h.map_eq opB (fun _ _ _ _ _ _ _ => rfl)]
theorem Cps.nDc (h : Cps w B ls es) : nDc ls = nDc es := by rw [nDc_map, nDc_map, h.map_eq dcB (fun _ _ _ _ _ _ _ => rfl)]
theorem Cps.at_ (h : Cps w B ls es) {i : Nat} {l : Ent} (hl : ls[i]? = some l) : ∃ m, es[i]? = some m ∧ (∃ a c a' c' a'' c'', l = m.wi a c a' c' a'' c'') ∧ Own w B l := by
  have hi := (List.getElem?_eq_some_iff.1 hl).1
  rw [h.1] at hi
  have := h.2 i l es[i] hl (List.getElem?_eq_getElem hi)
  exact ⟨es[i], List.getElem?_eq_getElem hi, this.1, this.2⟩
theorem Cps.dis (h : Cps w B ls es) (hd : Dis es) : Dis ls := fun i j x y hx hy e => by
  obtain ⟨m, h1, ⟨_, _, _, _, _, _, rfl⟩, _⟩ := h.at_ hx
  obtain ⟨m', g1, ⟨_, _, _, _, _, _, rfl⟩, _⟩ := h.at_ hy
  exact hd i j m m' h1 g1 e
theorem Cps.srt (h : Cps w B ls es) (hs : Srt es) : Srt ls := fun i x y hx hy => by
  obtain ⟨m, h1, ⟨_, _, _, _, _, _, rfl⟩, _⟩ := h.at_ hx
  obtain ⟨m', g1, ⟨_, _, _, _, _, _, rfl⟩, _⟩ := h.at_ hy
  exact hs i m m' h1 g1
theorem Cps.ok (h : Cps w B ls es) (ho : ∀ e ∈ es, mayB e = true) : ∀ e ∈ ls, mayB e = true := fun e he => by
  obtain ⟨i, hi, rfl⟩ := List.getElem_of_mem he
  obtain ⟨m, h1, ⟨a, c, a', c', a'', c'', h2⟩, _⟩ := h.at_ (List.getElem?_eq_getElem hi)
  rw [h2]
  have := ho m (List.mem_of_getElem? h1)
  exact this
theorem Cps.own (h : Cps w B ls es) : ∀ e ∈ ls, Own w B e := fun e he => by
  obtain ⟨i, hi, rfl⟩ := List.getElem_of_mem he
  obtain ⟨m, h1, _, h3⟩ := h.at_ (List.getElem?_eq_getElem hi)
  exact h3
theorem Cps.inv {K R : Int} (h : Cps w B ls es) (hi : Inv K R es) : Inv K R ls := ⟨hi.k1, hi.k2, hi.r1, hi.r2, by rw [h.nOp]; exact hi.op, by rw [h.nDc]; exact hi.dc, h.srt hi.srt⟩
end
end Go.Proofs.YtplhdgijjckjcaaGreatDoor
