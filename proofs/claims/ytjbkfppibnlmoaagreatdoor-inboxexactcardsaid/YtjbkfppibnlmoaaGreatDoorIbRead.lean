import Derived.Test.YtjbkfppibnlmoaaGreatDoorIbHand
/-
  A box in memory; made; copies tell the same.
-/
namespace Go.Proofs.YtjbkfppibnlmoaaGreatDoor
open Go.RowKit

/-- Ticks do not fall. -/
def Srt (es : List Ent) : Prop := ∀ (i : Nat) (x y : Ent), es[i]? = some x → es[i + 1]? = some y → x.tk ≤ y.tk
/-- What is always so of an inbox. -/
structure Inv (K R : Int) (es : List Ent) : Prop where
  k1 : 1 ≤ K
  k2 : K ≤ 64
  r1 : 1 ≤ R
  r2 : R ≤ 32
  op : (nOp es : Int) ≤ R
  dc : (nDc es : Int) ≤ K + 1
  srt : Srt es
theorem Inv.len {K R : Int} {es : List Ent} (h : Inv K R es) : es.length ≤ 97 := by
  have h1 := h.k2
  have h2 := h.r2
  have h3 := h.op
  have h4 := h.dc
  have h5 := nOp_add es
  omega
/-- A box: its block b, its shelf's sb, its map's M, its list's slice v; nothing of it lies below B. -/
structure Bx (w : World) (B b sb M : Nat) (v : Value) (K R : Int) (es : List Ent) : Prop where
  blk : w.heap[b]? = some (.cells #[.pointer (some ⟨sb, 0, none⟩)] 91 (0, 0))
  sh : Shf w B sb M v K R es
  own : ∀ e ∈ es, Own w B e
  lb : B ≤ b
  ls : B ≤ sb
  lm : B ≤ M
  inv : Inv K R es
section
variable {w w' : World} {B b sb M : Nat} {v : Value} {K R : Int} {es : List Ent}
theorem Bx.lt (h : Bx w B b sb M v K R es) : b < w.heap.size := blk_lt h.blk
theorem Bx.below (h : Bx w B b sb M v K R es) (hb : Below w.heap.size w w') : Bx w' B b sb M v K R es :=
  ⟨(hb.block b h.lt).trans h.blk, h.sh.below hb, fun e he => (h.own e he).below hb, h.lb, h.ls, h.lm, h.inv⟩
theorem Bx.ft (h : Bx w B b sb M v K R es) {q : Nat} (hq : Ft sb M v q) : B ≤ q := by
  rcases hq with rfl | rfl | hg
  · exact h.ls
  · exact h.lm
  · exact (h.sh.row.lt hg).1
theorem Bx.nb (h : Bx w B b sb M v K R es) : ¬ Ft sb M v b := by
  rintro (rfl | rfl | hg)
  · have := h.blk
    rw [h.sh.blk] at this
    simp at this
  · obtain ⟨es', clock, hm⟩ := h.sh.map.isMap
    have := h.blk
    rw [hm] at this
    simp at this
  · obtain ⟨cs, b1⟩ := row_type h.sh.row hg
    have := h.blk
    rw [b1] at this
    simp at this
/-- Each entry of it may be copied. -/
theorem Bx.lie (h : Bx w B b sb M v K R es) : ∀ e ∈ es, Lie w e := fun e he => by
  have := mayB_is (h.sh.ok e he)
  exact ⟨(h.own e he).lies, by omega, by omega, by omega⟩
/-- What a call leaves of a box. -/
def BxQ (w : World) (B b sb M : Nat) (v : Value) (K R : Int) (es' : List Ent) (w' : World) : Prop :=
  ∃ v', Bx w' B b sb M v' K R es' ∧ Off (Ft sb M v) w w' ∧ ∀ q, v'.ownBlock = some q → v.ownBlock = some q ∨ w.heap.size ≤ q
theorem BxQ.of_below {w1 : World} {es' : List Ent} (hb : Below w.heap.size w w1) (h : BxQ w1 B b sb M v K R es' w') : BxQ w B b sb M v K R es' w' := by
  obtain ⟨v', h1, h2, h3⟩ := h
  exact ⟨v', h1, (Off.of_below hb).trans h2, fun q e => (h3 q e).imp id fun g => Nat.le_trans hb.size g⟩
theorem BxQ.then_below {w1 : World} {es' : List Ent} (h : BxQ w B b sb M v K R es' w1) (hb : Below w1.heap.size w1 w') : BxQ w B b sb M v K R es' w' := by
  obtain ⟨v', h1, h2, h3⟩ := h
  exact ⟨v', h1.below hb, h2.trans (Off.of_below hb), h3⟩
theorem Bx.same (h : Bx w B b sb M v K R es) (hb : Below w.heap.size w w') : BxQ w B b sb M v K R es w' := ⟨v, h.below hb, Off.of_below hb, fun _ e => Or.inl e⟩
/-- A box out of its shelf behind a call. -/
theorem bxq_of {es' : List Ent} (h : Bx w B b sb M v K R es) (hq : ShfQ w B sb M v K R es' w') (hi : Inv K R es') (ho : ∀ e ∈ es', Own w B e) : BxQ w B b sb M v K R es' w' := by
  obtain ⟨v', h1, h2, h3⟩ := hq
  exact ⟨v', ⟨(h2.block b h.lt h.nb).trans h.blk, h1, fun e he => (ho e he).byType h2 (h.sh.notBytes), h.lb, h.ls, h.lm, hi⟩, h2, h3⟩
theorem ne_nil (b : Nat) : (binOp .neq 37 (.pointer (some ⟨b, 0, none⟩)) (.pointer none)).run Tryz.prog w = .ok (.bool true) w := by
  kernel_rfl
set_option maxHeartbeats 400000 in
theorem made_yes (h : Bx w B b sb M v K R es) : Calls Tryz.prog 60 #[.pointer (some ⟨b, 0, none⟩)] w fun e w' => e = .returned (.bool true) ∧ w' = w := by
  have c0 := hcell h.blk 0
  clear h
  go_enter Tryz.func60, Tryz.ntmps60
  go_wp2
  go_ret
  exact ⟨rfl, rfl⟩
/-- A box that nobody made. -/
def Un (w : World) (x : Value) : Prop := x = .pointer none ∨ ∃ b, x = .pointer (some ⟨b, 0, none⟩) ∧ w.cell? ⟨b, 0, none⟩ = some (.pointer none)
theorem Un.below {x : Value} (h : Un w x) (hb : Below w.heap.size w w') : Un w' x := by
  rcases h with h | ⟨b, h, hc⟩
  · exact Or.inl h
  · exact Or.inr ⟨b, h, by rw [hb.cell (p := ⟨b, 0, none⟩) (cell_lt hc)]; exact hc⟩
theorem Un.alloc {x : Value} (h : Un w x) (o : Obj) : Un (w.alloc o) x := h.below ((Below.refl _ _).alloc (Nat.le_refl _) _)
set_option maxHeartbeats 400000 in
theorem made_no {x : Value} (h : Un w x) : Calls Tryz.prog 60 #[x] w fun e w' => e = .returned (.bool false) ∧ w' = w := by
  rcases h with rfl | ⟨b, rfl, hc⟩
  · go_enter Tryz.func60, Tryz.ntmps60
    go_wp2
    go_ret
    exact ⟨rfl, rfl⟩
  · go_enter Tryz.func60, Tryz.ntmps60
    go_wp2
    go_ret
    exact ⟨rfl, rfl⟩
end
/-! ### copies -/
section
variable {w : World} {B : Nat} {ls es : List Ent}
theorem Cps.map_eq {α : Type} (h : Cps w B ls es) (f : Ent → α) (hf : ∀ (m : Ent) a c a' c' a'' c'', f (m.wi a c a' c' a'' c'') = f m) : ls.map f = es.map f := by
  apply List.ext_getElem?
  intro i
  rw [List.getElem?_map, List.getElem?_map]
  cases hl : ls[i]? with
  | none =>
    rw [List.getElem?_eq_none_iff, h.1] at hl
    rw [List.getElem?_eq_none hl]
  | some l =>
    have hi := (List.getElem?_eq_some_iff.1 hl).1
    rw [h.1] at hi
    rw [List.getElem?_eq_getElem hi]
    obtain ⟨⟨a, c, a', c', a'', c'', rfl⟩, _⟩ := h.2 i l es[i] hl (List.getElem?_eq_getElem hi)
    simp only [Option.map_some, hf]
theorem fi_map (s : ByteArray) (es : List Ent) : fi s es = (es.map (·.ct)).findIdx? (fun t => t.toList == s.toList) := by
  rw [List.findIdx?_map]; rfl
theorem Cps.fi (h : Cps w B ls es) (s : ByteArray) : fi s ls = fi s es := by rw [fi_map, fi_map, h.map_eq (·.ct) (fun _ _ _ _ _ _ _ => rfl)]
theorem nOp_map (es : List Ent) : nOp es = (es.map opB).countP id := by rw [List.countP_map]; rfl
theorem nDc_map (es : List Ent) : nDc es = (es.map dcB).countP id := by rw [List.countP_map]; rfl
theorem Cps.nOp (h : Cps w B ls es) : nOp ls = nOp es := by rw [nOp_map, nOp_map, h.map_eq opB (fun _ _ _ _ _ _ _ => rfl)]
theorem Cps.nDc (h : Cps w B ls es) : nDc ls = nDc es := by rw [nDc_map, nDc_map, h.map_eq dcB (fun _ _ _ _ _ _ _ => rfl)]
theorem Cps.at_ (h : Cps w B ls es) {i : Nat} {l : Ent} (hl : ls[i]? = some l) : ∃ m, es[i]? = some m ∧ (∃ a c a' c' a'' c'', l = m.wi a c a' c' a'' c'') ∧ Own w B l := by
  have hi := (List.getElem?_eq_some_iff.1 hl).1
  rw [h.1] at hi
  have := h.2 i l es[i] hl (List.getElem?_eq_getElem hi)
  exact ⟨es[i], List.getElem?_eq_getElem hi, this.1, this.2⟩
theorem Cps.dis (h : Cps w B ls es) (hd : Dis es) : Dis ls := fun i j x y hx hy e => by
  obtain ⟨m, h1, ⟨_, _, _, _, _, _, rfl⟩, _⟩ := h.at_ hx
  obtain ⟨m', g1, ⟨_, _, _, _, _, _, rfl⟩, _⟩ := h.at_ hy
  exact hd i j m m' h1 g1 e
theorem Cps.srt (h : Cps w B ls es) (hs : Srt es) : Srt ls := fun i x y hx hy => by
  obtain ⟨m, h1, ⟨_, _, _, _, _, _, rfl⟩, _⟩ := h.at_ hx
  obtain ⟨m', g1, ⟨_, _, _, _, _, _, rfl⟩, _⟩ := h.at_ hy
  exact hs i m m' h1 g1
theorem Cps.ok (h : Cps w B ls es) (ho : ∀ e ∈ es, mayB e = true) : ∀ e ∈ ls, mayB e = true := fun e he => by
  obtain ⟨i, hi, rfl⟩ := List.getElem_of_mem he
  obtain ⟨m, h1, ⟨a, c, a', c', a'', c'', h2⟩, _⟩ := h.at_ (List.getElem?_eq_getElem hi)
  rw [h2]
  have := ho m (List.mem_of_getElem? h1)
  exact this
theorem Cps.own (h : Cps w B ls es) : ∀ e ∈ ls, Own w B e := fun e he => by
  obtain ⟨i, hi, rfl⟩ := List.getElem_of_mem he
  obtain ⟨m, h1, _, h3⟩ := h.at_ (List.getElem?_eq_getElem hi)
  exact h3
theorem Cps.inv {K R : Int} (h : Cps w B ls es) (hi : Inv K R es) : Inv K R ls := ⟨hi.k1, hi.k2, hi.r1, hi.r2, by rw [h.nOp]; exact hi.op, by rw [h.nDc]; exact hi.dc, h.srt hi.srt⟩
end
end Go.Proofs.YtjbkfppibnlmoaaGreatDoor

/-
  Find, Last, List, Count, Open.
-/
namespace Go.Proofs.YtjbkfppibnlmoaaGreatDoor
open Go.RowKit

/-- An entry handed out: a copy of m. -/
def EnQ (w : World) (m : Ent) (t : Bool) (r : Ending) (w' : World) : Prop := ∃ a c a' c' a'' c'', r = .returned (.tuple #[.agg #[.string m.ct, .slice a m.tn c, .int .i64 m.nu, .int .i64 m.tk, .slice a' m.cn c', .string m.cd, .slice a'' m.an c''], .bool t]) ∧ Own w' w.heap.size (m.wi a c a' c' a'' c'') ∧ Below w.heap.size w w'
theorem zE_own (w : World) (B : Nat) : Own w B zE := ⟨ERow.nil _ _ _ _ _, ERow.nil _ _ _ _ _, ERow.nil _ _ _ _ _⟩
theorem lie_zero (w : World) : Lie w zE := ⟨Lies.zero w, by decide, by decide, by decide⟩
section
variable {w w' : World} {B b sb M : Nat} {v : Value} {K R : Int} {es : List Ent}
set_option maxRecDepth 100000 in
set_option maxHeartbeats 2000000 in
theorem find_no (h : Bx w B b sb M v K R es) {s : ByteArray} (hk : KeyS s) (hf : fi s es = none) : Calls Tryz.prog 58 #[.pointer (some ⟨b, 0, none⟩), .string s] w (EnQ w zE false) := by
  have bv : Below w.heap.size w (w.alloc (.cells #[.string ⟨#[]⟩, .slice none 0 0, .int .i64 0, .int .i64 0, .slice none 0 0, .string ⟨#[]⟩, .slice none 0 0] 30)) := (Below.refl _ _).alloc (Nat.le_refl _) _
  have bx := Box.new w #[.string ⟨#[]⟩, .slice none 0 0, .int .i64 0, .int .i64 0, .slice none 0 0, .string ⟨#[]⟩, .slice none 0 0] 30
  obtain ⟨V, hV⟩ : ∃ V, w.alloc (.cells #[.string ⟨#[]⟩, .slice none 0 0, .int .i64 0, .int .i64 0, .slice none 0 0, .string ⟨#[]⟩, .slice none 0 0] 30) = V := ⟨_, rfl⟩
  rw [hV] at bv bx
  have h1 := h.below bv
  have hmk := made_yes h1
  have c0 := hcell h1.blk 0
  have k3 := h1.sh.cells.2.2.2.1
  have hlk := h1.sh.map.look_no hk hf
  have cx := bx.cell
  have fx := bx.free
  have HB : Hid (Below w.heap.size w V) := bv
  clear bv h h1 hf hk bx
  go_enter Tryz.func58, Tryz.ntmps58
  go_wp2_with (go_at_call 60; refine hmk.mono ?_; rintro _ w9 ⟨rfl, h9⟩; subst w9)
  clear hV
  refine bodyPost_ret ?_ rfl ⟨none, 0, none, 0, none, 0, rfl, zE_own _ _, ?_⟩
  · simp [results, Tryz.results58, go_sem, cx, zE]
  · repeat' (first | (with_reducible exact HB.out) | (with_reducible refine Below.setCell ?_ (by exact Nat.le_refl _) _) | (with_reducible refine Below.alloc ?_ (by simp; omega) _))
set_option maxRecDepth 100000 in
set_option maxHeartbeats 2000000 in
theorem find_yes (h : Bx w B b sb M v K R es) {s : ByteArray} {i : Nat} {m : Ent} (hk : KeyS s) (hf : fi s es = some i) (hm : es[i]? = some m) : Calls Tryz.prog 58 #[.pointer (some ⟨b, 0, none⟩), .string s] w (EnQ w m true) := by
  have bv : Below w.heap.size w (w.alloc (.cells #[.string ⟨#[]⟩, .slice none 0 0, .int .i64 0, .int .i64 0, .slice none 0 0, .string ⟨#[]⟩, .slice none 0 0] 30)) := (Below.refl _ _).alloc (Nat.le_refl _) _
  have bx := Box.new w #[.string ⟨#[]⟩, .slice none 0 0, .int .i64 0, .int .i64 0, .slice none 0 0, .string ⟨#[]⟩, .slice none 0 0] 30
  obtain ⟨V, hV⟩ : ∃ V, w.alloc (.cells #[.string ⟨#[]⟩, .slice none 0 0, .int .i64 0, .int .i64 0, .slice none 0 0, .string ⟨#[]⟩, .slice none 0 0] 30) = V := ⟨_, rfl⟩
  rw [hV] at bv bx
  have h1 := h.below bv
  have hmk := made_yes h1
  have c0 := hcell h1.blk 0
  have k3 := h1.sh.cells.2.2.2.1
  have k2 := h1.sh.cells.2.2.1
  have hlk := h1.sh.map.look_yes hk hf
  obtain ⟨a, c, hv, _⟩ := h1.sh.row.isSlice
  have hil := (List.getElem?_eq_some_iff.1 hm).1
  obtain ⟨n, hn⟩ : ∃ n, es.length = n := ⟨_, rfl⟩
  have hrow := h1.sh.row
  rw [hv, hn] at hrow k2
  rw [hn] at hil
  obtain ⟨g, rfl, hg, hc⟩ := nrow_cells hrow hm
  obtain ⟨d0, d1, d2, d3, d4, d5, d6⟩ := hc
  have hl := h1.lie m (List.mem_of_getElem? hm)
  have hcp := copied_any m V hl.1 hl.2.1 hl.2.2.1 hl.2.2.2
  have q1 : (i : Int) < n := by omega
  have cx := bx.cell
  have fx := bx.free
  have lx := bx.lt
  have HX : Hid (Box V w.heap.size #[.string ⟨#[]⟩, .slice none 0 0, .int .i64 0, .int .i64 0, .slice none 0 0, .string ⟨#[]⟩, .slice none 0 0]) := bx
  have HB : Hid (Below w.heap.size w V) := bv
  clear bv h h1 hf hk bx hv hrow hn hm hl
  go_enter Tryz.func58, Tryz.ntmps58
  go_wp2_with (go_at_call 60; refine hmk.mono ?_; rintro _ w9 ⟨rfl, h9⟩; subst w9)
  clear hV
  refine hcp.mono ?_
  rintro _ w1 ⟨a1, c1, a2, c2, a3, c3, rfl, ho, hb⟩
  have hx1 := HX.out.below hb
  have cx1 := hx1.cell
  have fx1 := hx1.free
  have HE : Hid (∀ W', Off (fun q => q = w.heap.size) w1 W' → Own W' w.heap.size (m.wi a1 c1 a2 c2 a3 c3) ∧ Below w.heap.size w W') := fun W' ho' => by
    refine ⟨(ho.off ho' fun q hq e => by omega).base HB.out.size, (below_then HB.out hb).trans (ho'.below (Nat.le_trans HB.out.size hb.size) fun k hk => by omega)⟩
  clear hcp ho hb hx1 cx fx d0 d1 d2 d3 d4 d5 d6 c0 k2 k3 hlk hmk
  go_wp2_with fail
  refine bodyPost_ret ?_ rfl ⟨a1, c1, a2, c2, a3, c3, rfl, HE.out _ ?_⟩
  · simp [results, Tryz.results58, go_sem, cx1]
  · iterate 7 (refine Off.setCell ?_ (by exact rfl) _)
    exact Off.refl _ _
set_option maxRecDepth 100000 in
set_option maxHeartbeats 2000000 in
theorem blast_any (h : Bx w B b sb M v K R es) {l : Ent} (hl : lasE es = l) {t : Bool} (ht : decide (0 < es.length) = t) : Calls Tryz.prog 26 #[.pointer (some ⟨b, 0, none⟩)] w (EnQ w l t) := by
  have bv : Below w.heap.size w (w.alloc (.cells #[.string ⟨#[]⟩, .slice none 0 0, .int .i64 0, .int .i64 0, .slice none 0 0, .string ⟨#[]⟩, .slice none 0 0] 30)) := (Below.refl _ _).alloc (Nat.le_refl _) _
  have bx := Box.new w #[.string ⟨#[]⟩, .slice none 0 0, .int .i64 0, .int .i64 0, .slice none 0 0, .string ⟨#[]⟩, .slice none 0 0] 30
  obtain ⟨V, hV⟩ : ∃ V, w.alloc (.cells #[.string ⟨#[]⟩, .slice none 0 0, .int .i64 0, .int .i64 0, .slice none 0 0, .string ⟨#[]⟩, .slice none 0 0] 30) = V := ⟨_, rfl⟩
  rw [hV] at bv bx
  have h1 := h.below bv
  have hmk := made_yes h1
  have c0 := hcell h1.blk 0
  have hls := last_any h1.sh hl
  rw [ht] at hls
  have HL : Hid (Lie V l) := by
    unfold Hid
    rcases Nat.eq_zero_or_pos es.length with h0 | h0
    · obtain rfl : es = [] := List.eq_nil_of_length_eq_zero h0
      rw [← hl]
      exact lie_zero V
    · have := lasE_at (es := es) (n := es.length - 1) (by omega)
      rw [hl] at this
      exact h1.lie l (List.mem_of_getElem? this)
  have HX : Hid (Box V w.heap.size #[.string ⟨#[]⟩, .slice none 0 0, .int .i64 0, .int .i64 0, .slice none 0 0, .string ⟨#[]⟩, .slice none 0 0]) := bx
  have HB : Hid (Below w.heap.size w V) := bv
  obtain ⟨xb, hxb⟩ : ∃ xb, w.heap.size = xb := ⟨_, rfl⟩
  clear bv h h1 bx hl ht
  go_enter Tryz.func26, Tryz.ntmps26
  go_wp2_with (go_at_call 60; refine hmk.mono ?_; rintro _ w9 ⟨rfl, h9⟩; subst w9)
  clear hV
  refine hls.mono ?_
  rintro _ w1 ⟨rfl, hb1⟩
  have HB1 : Hid (Below w.heap.size w w1) := below_then HB.out hb1
  have HX1 : Hid (Box w1 w.heap.size #[.string ⟨#[]⟩, .slice none 0 0, .int .i64 0, .int .i64 0, .slice none 0 0, .string ⟨#[]⟩, .slice none 0 0]) := HX.out.below hb1
  have HL1 : Hid (Lie w1 l) := HL.out.below hb1
  clear hls hb1 HB HX HL c0 hmk
  go_wp2_with fail
  have bv2 : Below w1.heap.size w1 (w1.alloc (.cells #[.string l.ct, .slice l.tp l.tn l.tc, .int .i64 l.nu, .int .i64 l.tk, .slice l.cp l.cn l.cc, .string l.cd, .slice l.ap l.an l.ac] 30)) := (Below.refl _ _).alloc (Nat.le_refl _) _
  have by2 := Box.new w1 #[.string l.ct, .slice l.tp l.tn l.tc, .int .i64 l.nu, .int .i64 l.tk, .slice l.cp l.cn l.cc, .string l.cd, .slice l.ap l.an l.ac] 30
  generalize w1.alloc (.cells #[.string l.ct, .slice l.tp l.tn l.tc, .int .i64 l.nu, .int .i64 l.tk, .slice l.cp l.cn l.cc, .string l.cd, .slice l.ap l.an l.ac] 30) = V2 at bv2 by2 ⊢
  have HB2 : Hid (Below w.heap.size w V2) := below_then HB1.out bv2
  have HX2 : Hid (Box V2 w.heap.size #[.string ⟨#[]⟩, .slice none 0 0, .int .i64 0, .int .i64 0, .slice none 0 0, .string ⟨#[]⟩, .slice none 0 0]) := HX1.out.below bv2
  have hl2 := HL1.out.below bv2
  have hcp := copied_any l V2 hl2.1 hl2.2.1 hl2.2.2.1 hl2.2.2.2
  have cy := by2.cell
  clear bv2 HB1 HX1 HL1 hl2 by2
  go_wp2_with fail
  refine hcp.mono ?_
  rintro _ w3 ⟨a1, c1, a2, c2, a3, c3, rfl, ho, hb⟩
  have hx3 := HX2.out.below hb
  rw [hxb] at hx3
  have cx3 := hx3.cell
  have fx3 := hx3.free
  have HE : Hid (∀ W', Off (fun q => q = xb) w3 W' → Own W' w.heap.size (l.wi a1 c1 a2 c2 a3 c3) ∧ Below w.heap.size w W') := fun W' ho' => by
    have hlt := HX2.out.lt
    refine ⟨(ho.off ho' fun q hq e => by omega).base HB2.out.size, (below_then HB2.out hb).trans (ho'.below (Nat.le_trans HB2.out.size hb.size) fun k hk => by omega)⟩
  clear hcp ho hb hx3 cy
  go_wp2_with fail
  refine bodyPost_ret ?_ rfl ⟨a1, c1, a2, c2, a3, c3, rfl, HE.out _ ?_⟩
  · simp [results, Tryz.results26, go_sem, cx3]
  · iterate 7 (refine Off.setCell ?_ (by exact rfl) _)
    exact Off.refl _ _
set_option maxRecDepth 100000 in
set_option maxHeartbeats 2000000 in
theorem list_any (h : Bx w B b sb M v K R es) : Calls Tryz.prog 32 #[.pointer (some ⟨b, 0, none⟩)] w (LsQ w es) := by
  have hmk := made_yes h
  have c0 := hcell h.blk 0
  have k2 := h.sh.cells.2.2.1
  obtain ⟨a, c, hv, _⟩ := h.sh.row.isSlice
  have hrow := h.sh.row
  rw [hv] at hrow k2
  have hal := allCopied_any hrow h.lie h.sh.len
  clear h hv hrow
  go_enter Tryz.func32, Tryz.ntmps32
  go_wp2_with (go_at_call 60; refine hmk.mono ?_; rintro _ w9 ⟨rfl, h9⟩; subst w9)
  refine hal.mono ?_
  rintro _ w1 ⟨ls, a1, c1, rfl, h1, h2, h3⟩
  have HE : Hid (NRow w1 w.heap.size (.slice a1 es.length c1) ls ∧ Cps w1 w.heap.size ls es ∧ Below w.heap.size w w1) := ⟨h1, h2, h3⟩
  clear hal hmk c0 k2 h1 h2 h3
  go_wp2_with fail
  go_ret
  exact ⟨ls, a1, c1, rfl, HE.out.1, HE.out.2.1, HE.out.2.2⟩
set_option maxRecDepth 100000 in
set_option maxHeartbeats 2000000 in
theorem count_any (h : Bx w B b sb M v K R es) : Calls Tryz.prog 35 #[.pointer (some ⟨b, 0, none⟩)] w fun r w' => r = .returned (.tuple #[.int .i64 (es.length : Int), .int .i64 (nOp es : Int)]) ∧ ∃ m, w' = w.drewN m := by
  have hmk := made_yes h
  have c0 := hcell h.blk 0
  have k2 := h.sh.cells.2.2.1
  have k4 := h.sh.cells.2.2.2.2
  obtain ⟨a, c, hv, _⟩ := h.sh.row.isSlice
  rw [hv] at k2
  obtain ⟨n, hn⟩ : ∃ n, es.length = n := ⟨_, rfl⟩
  obtain ⟨o, ho⟩ : ∃ o, (nOp es : Int) = o := ⟨_, rfl⟩
  rw [hn] at k2 ⊢
  rw [ho] at k4 ⊢
  clear h hv hn ho
  go_enter Tryz.func35, Tryz.ntmps35
  go_wp2_with (go_at_call 60; refine hmk.mono ?_; rintro _ w9 ⟨rfl, h9⟩; subst w9)
  go_quiet (fail)
  go_wp2_with fail
  go_ret2
  exact ⟨rfl, _, rfl⟩
end
end Go.Proofs.YtjbkfppibnlmoaaGreatDoor
