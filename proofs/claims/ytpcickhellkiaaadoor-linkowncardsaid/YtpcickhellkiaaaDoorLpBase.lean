/-
  The program's link in memory: its sides, their lists of pieces; what stays; append, make, copy of pieces.
-/
import Derived.Test.YtpcickhellkiaaaDoorLkBase
import Derived.Test.YtpcickhellkiaaaDoorLkSpec
namespace Go.Proofs.YtpcickhellkiaaaDoor
open Go.RowKit

/-- A piece: where it lies, its bytes, whether it is broken. -/
structure Pp where
  a : Option Addr
  n : Nat
  c : Nat
  bs : List Int
  br : Bool
def encP (p : Pp) : List Value := [.slice p.a p.n p.c, .bool p.br]
theorem encP_len (p : Pp) : (encP p).length = 2 := rfl
theorem encP_one (p : Pp) : ∀ u ∈ encP p, u.oneCell' = true := fun u hu => by
  simp only [encP, List.mem_cons, List.not_mem_nil, or_false] at hu
  rcases hu with rfl | rfl <;> rfl
theorem celP : Cel Tryd.prog 79 2 32 := cel_of (by kernel_rfl)
abbrev PpRow (w : World) (B : Nat) (v : Value) (ps : List Pp) : Prop := ERow w B 79 2 encP v ps
/-- A piece's bytes lie in a block of F. -/
structure PpOk (w : World) (F : Nat → Prop) (p : Pp) : Prop where
  byts : Byts w p.a p.n p.bs
  at_ : ∃ b o, p.a = some ⟨b, o, none⟩ ∧ F b
  n1 : 1 ≤ p.n
  n2 : p.n ≤ 8195
  c1 : p.n ≤ p.c
  c2 : p.c ≤ maxLen
/-- A side: its list, the broken one. -/
structure Dw where
  a : Option Addr
  n : Nat
  c : Nat
  ps : List Pp
  h : Int
def dwOwn (z : Dw) : Option Nat := (Value.slice z.a z.n z.c).ownBlock
def sdL (z : Dw) : Sd := (z.ps.map (·.bs), z.h)
structure DwOk (w : World) (F : Nat → Prop) (z : Dw) : Prop where
  row : PpRow w 0 (.slice z.a z.n z.c) z.ps
  own : ∀ g, dwOwn z = some g → F g
  pcs : ∀ p ∈ z.ps, PpOk w F p
  br : ∀ (j : Nat) (p : Pp), z.ps[j]? = some p → p.br = decide (z.h = (j : Int))
  ok : SdOk (sdL z)
/-- The link: its block lb, the blocks F of its lists and texts. -/
structure Lk (w : World) (lb : Nat) (F : Nat → Prop) (x y : Dw) : Prop where
  blk : w.heap[lb]? = some (.cells #[.slice x.a x.n x.c, .slice y.a y.n y.c, .bool true] 53 (0, 0))
  px : DwOk w F x
  py : DwOk w F y
  nl : ¬ F lb
  lt : ∀ b, F b → b < w.heap.size
  ty : ∀ b, F b → ∃ cs t, w.heap[b]? = some (.cells cs t (0, 0)) ∧ (t = 79 ∨ t = 5)
def dwS (x y : Dw) (s : Nat) : Dw := if s = 0 then x else y
def dX (x z : Dw) (s : Nat) : Dw := if s = 0 then z else x
def dY (y z : Dw) (s : Nat) : Dw := if s = 0 then y else z
/-- What a call leaves of the link. -/
def LQ (w : World) (lb : Nat) (F : Nat → Prop) (x y : Dw) (s : Nat) (c' : Sd) (w' : World) : Prop :=
  ∃ F' z', Lk w' lb F' (dX x z' s) (dY y z' s) ∧ sdL z' = c' ∧ Off (fun q => q = lb) w w' ∧ ∀ b, F' b → F b ∨ (w.heap.size ≤ b ∧ b < w'.heap.size)
section
variable {w w' w1 : World} {lb s : Nat} {F G : Nat → Prop} {x y z : Dw} {p : Pp} {c' : Sd}
theorem PpOk.off {P : Nat → Prop} (h : PpOk w F p) (o : Off P w w') (hF : ∀ b, F b → ¬ P b) : PpOk w' F p :=
  ⟨h.byts.off o fun b q e _ => by
    obtain ⟨b', q', e', hb⟩ := h.at_
    rw [e] at e'
    simp only [Option.some.injEq, Addr.mk.injEq, and_true] at e'
    rw [e'.1]
    exact hF b' hb, h.at_, h.n1, h.n2, h.c1, h.c2⟩
theorem PpOk.mono (h : PpOk w F p) (hF : ∀ b, F b → G b) : PpOk w G p := ⟨h.byts, by obtain ⟨b, o, e, g⟩ := h.at_; exact ⟨b, o, e, hF b g⟩, h.n1, h.n2, h.c1, h.c2⟩
theorem DwOk.off {P : Nat → Prop} (h : DwOk w F z) (o : Off P w w') (hF : ∀ b, F b → ¬ P b) : DwOk w' F z :=
  ⟨ERow.off h.row o fun g hg => hF g (h.own g hg), h.own, fun p hp => (h.pcs p hp).off o hF, h.br, h.ok⟩
theorem DwOk.mono (h : DwOk w F z) (hF : ∀ b, F b → G b) : DwOk w G z := ⟨h.row, fun g hg => hF g (h.own g hg), fun p hp => (h.pcs p hp).mono hF, h.br, h.ok⟩
theorem Lk.off {P : Nat → Prop} (h : Lk w lb F x y) (o : Off P w w') (hl : ¬ P lb) (hF : ∀ b, F b → ¬ P b) : Lk w' lb F x y :=
  ⟨(o.block lb (blk_lt h.blk) hl).trans h.blk, h.px.off o hF, h.py.off o hF, h.nl, fun b hb => Nat.lt_of_lt_of_le (h.lt b hb) o.size, fun b hb => by
    obtain ⟨cs, t, e, ht⟩ := h.ty b hb
    exact ⟨cs, t, (o.block b (h.lt b hb) (hF b hb)).trans e, ht⟩⟩
theorem Lk.below (h : Lk w lb F x y) (hb : Below w.heap.size w w') : Lk w' lb F x y := h.off (P := fun _ => False) (Off.of_below hb) id (fun _ _ => id)
theorem LQ.below {w3 : World} (h : LQ w lb F x y s c' w') (hb : Below w'.heap.size w' w3) : LQ w lb F x y s c' w3 := by
  obtain ⟨F', z', h1, h2, h3, h4⟩ := h
  refine ⟨F', z', h1.below hb, h2, h3.trans (Off.of_below hb), fun b hb' => ?_⟩
  rcases h4 b hb' with g | g
  · exact Or.inl g
  · exact Or.inr ⟨g.1, Nat.lt_of_lt_of_le g.2 hb.size⟩
theorem LQ.same (h : Lk w lb F x y) (e : sdL (dwS x y s) = c') : LQ w lb F x y s c' w := ⟨F, dwS x y s, by
  unfold dX dY dwS
  by_cases h0 : s = 0
  · simpa [h0] using h
  · simpa [h0] using h, e, Off.refl _ _, fun b hb => Or.inl hb⟩
theorem LQ.from_ {w0 : World} (hb : Below w0.heap.size w0 w) (h : LQ w lb F x y s c' w') : LQ w0 lb F x y s c' w' := by
  obtain ⟨F', z', h1, h2, h3, h4⟩ := h
  refine ⟨F', z', h1, h2, (Off.of_below hb).trans h3, fun b hb' => ?_⟩
  rcases h4 b hb' with g | g
  · exact Or.inl g
  · exact Or.inr ⟨Nat.le_trans hb.size g.1, g.2⟩
theorem Lk.side (h : Lk w lb F x y) (s : Nat) : DwOk w F (dwS x y s) := by
  unfold dwS
  split
  · exact h.px
  · exact h.py
theorem Lk.cell (h : Lk w lb F x y) (hs : s < 2) : w.cell? ⟨lb, s, none⟩ = some (.slice (dwS x y s).a (dwS x y s).n (dwS x y s).c) ∧ w.frozen? ⟨lb, s, none⟩ = false := by
  refine ⟨?_, hfroz h.blk s⟩
  rw [hcell h.blk]
  rcases (by omega : s = 0 ∨ s = 1) with rfl | rfl <;> rfl
theorem DwOk.len (h : DwOk w F z) : z.n = z.ps.length ∧ (sdL z).1.length = z.n ∧ z.n ≤ 256 ∧ z.n ≤ z.c ∧ z.c ≤ maxLen := by
  have h1 := h.row.len
  have h2 := h.ok.len
  have e : (sdL z).1.length = z.ps.length := List.length_map _
  refine ⟨h1, by omega, by omega, ?_⟩
  rcases ERow.form h.row with ⟨e1, _⟩ | ⟨g, cap, e1, _, _, h3, h4⟩
  · simp only [Value.slice.injEq] at e1; omega
  · simp only [Value.slice.injEq] at e1; omega
/-- The piece at a place. -/
theorem DwOk.piece (h : DwOk w F z) {k : Nat} (hk : k < z.n) : ∃ p g pb po, p ∈ z.ps ∧ z.ps[k]? = some p ∧ z.a = some ⟨g, 0, none⟩ ∧ w.cell? ⟨g, k * 2, none⟩ = some (.slice p.a p.n p.c) ∧ w.cell? ⟨g, k * 2 + 1, none⟩ = some (.bool p.br) ∧ PpOk w F p ∧ pcAt (sdL z) (k : Int) = p.bs ∧ p.bs.length = p.n ∧ p.a = some ⟨pb, po, none⟩ ∧ p.br = decide (z.h = (k : Int)) := by
  have hn := h.len.1
  obtain ⟨p, hp⟩ : ∃ p, z.ps[k]? = some p := ⟨_, List.getElem?_eq_getElem (by omega)⟩
  obtain ⟨g, eg, hg, hc⟩ := ERow.at_ encP_len h.row hp
  have hm := List.mem_of_getElem? hp
  have hok := h.pcs p hm
  obtain ⟨pb, po, e1, _⟩ := hok.at_
  refine ⟨p, g, pb, po, hm, hp, eg, hc 0 (by decide), hc 1 (by decide), hok, ?_, hok.byts.len, e1, h.br k p hp⟩
  unfold pcAt sdL
  rw [Int.toNat_natCast, List.getD_eq_getElem?_getD, List.getElem?_map, hp]
  rfl
/-- The blocks of the link behind a call: those of before, and new ones of these types. -/
def F1 (w w1 : World) (F : Nat → Prop) (b : Nat) : Prop := F b ∨ (w.heap.size ≤ b ∧ ∃ cs t, w1.heap[b]? = some (.cells cs t (0, 0)) ∧ (t = 79 ∨ t = 5))
/-- The new list is stored. -/
theorem lq_store (h : Lk w lb F x y) (hs : s < 2) (hb : Below w.heap.size w w1) {a' : Option Addr} {n' c1 : Nat} {ps' : List Pp} {h' : Int} (hr : PpRow w1 w.heap.size (.slice a' n' c1) ps') (hp : ∀ p ∈ ps', PpOk w1 (F1 w w1 F) p) (hbr : ∀ (j : Nat) (p : Pp), ps'[j]? = some p → p.br = decide (h' = (j : Int))) (hok : SdOk (ps'.map (·.bs), h')) :
    w1.cell? ⟨lb, s, none⟩ = some (.slice (dwS x y s).a (dwS x y s).n (dwS x y s).c) ∧ w1.frozen? ⟨lb, s, none⟩ = false ∧ LQ w lb F x y s (ps'.map (·.bs), h') (w1.setCell ⟨lb, s, none⟩ (.slice a' n' c1)) := by
  have h1 := h.below hb
  have hlb := blk_lt h.blk
  refine ⟨(h1.cell hs).1, (h1.cell hs).2, F1 w w1 F, ⟨a', n', c1, ps', h'⟩, ?_, rfl, ?_, ?_⟩
  · have o3 : Off (fun q => q = lb) w1 (w1.setCell ⟨lb, s, none⟩ (.slice a' n' c1)) := Off.setCell (P := fun q => q = lb) (Off.refl _ _) (p := ⟨lb, s, none⟩) rfl _
    have nF : ¬ F1 w w1 F lb := fun e => by
      rcases e with e | ⟨e, _⟩
      · exact h.nl e
      · omega
    have hF : ∀ b, F1 w w1 F b → ¬ b = lb := fun b hb' e => nF (e ▸ hb')
    have own : ∀ g, dwOwn ⟨a', n', c1, ps', h'⟩ = some g → F1 w w1 F g := fun g hg => by
      refine Or.inr ⟨(ERow.lt hr hg).1, ?_⟩
      rcases hr.2 with ⟨e, _⟩ | ⟨g1, c1, u1, e, _, b1, _⟩
      · simp only [Value.slice.injEq] at e
        unfold dwOwn at hg
        rw [e.1] at hg
        cases hg
      · simp only [Value.slice.injEq] at e
        unfold dwOwn at hg
        rw [e.1] at hg
        simp only [Value.ownBlock, Option.some.injEq] at hg
        subst hg
        exact ⟨_, _, b1, Or.inl rfl⟩
    have kz : DwOk (w1.setCell ⟨lb, s, none⟩ (.slice a' n' c1)) (F1 w w1 F) ⟨a', n', c1, ps', h'⟩ := DwOk.off (P := fun q => q = lb) ⟨ERow.base hr (Nat.zero_le _), own, hp, hbr, hok⟩ o3 hF
    have kx := (h1.px.off o3 fun b hb' e => h.nl (e ▸ hb')).mono (G := F1 w w1 F) fun b hb' => Or.inl hb'
    have ky := (h1.py.off o3 fun b hb' e => h.nl (e ▸ hb')).mono (G := F1 w w1 F) fun b hb' => Or.inl hb'
    have b1 := set_heap h1.blk s (.slice a' n' c1)
    have lt : ∀ b, F1 w w1 F b → b < (w1.setCell ⟨lb, s, none⟩ (.slice a' n' c1)).heap.size := fun b hb' => by
      rw [World.size_setCell]
      rcases hb' with e | ⟨_, cs, t, e, _⟩
      · exact h1.lt b e
      · exact blk_lt e
    have ty : ∀ b, F1 w w1 F b → ∃ cs t, (w1.setCell ⟨lb, s, none⟩ (.slice a' n' c1)).heap[b]? = some (.cells cs t (0, 0)) ∧ (t = 79 ∨ t = 5) := fun b hb' => by
      have hne := hF b hb'
      rcases hb' with e | ⟨_, cs, t, e, ht⟩
      · obtain ⟨cs, t, e1, ht⟩ := h1.ty b e
        exact ⟨cs, t, (o3.block b (h1.lt b e) hne).trans e1, ht⟩
      · exact ⟨cs, t, (o3.block b (blk_lt e) hne).trans e, ht⟩
    rcases (by omega : s = 0 ∨ s = 1) with rfl | rfl
    · exact ⟨b1, kz, ky, nF, lt, ty⟩
    · exact ⟨b1, kx, kz, nF, lt, ty⟩
  · exact (Off.of_below hb).trans (Off.setCell (P := fun q => q = lb) (Off.refl _ _) (p := ⟨lb, s, none⟩) rfl _)
  · rintro b (e | ⟨e, cs, t, g, _⟩)
    · exact Or.inl e
    · exact Or.inr ⟨e, by rw [World.size_setCell]; exact blk_lt g⟩
end
/-! ### append, make, copy -/
/-- append of one behind a list whose room ends with it: always a new list. -/
theorem run_padd {w : World} {a : Option Addr} {n c : Nat} {ps : List Pp} (h : PpRow w 0 (.slice a n c) ps) (hn : n ≤ 256) (p : Pp) :
    ∃ a' c' w', (Builtin.append_ #[48, 48] 48 #[.slice a n n, .slice (some ⟨w.heap.size, 0, none⟩) 1 1]).run Tryd.prog (w.alloc (.cells #[.slice p.a p.n p.c, .bool p.br] 79)) = .ok (.slice a' (n + 1) c') w' ∧ PpRow w' w.heap.size (.slice a' (n + 1) c') (ps ++ [p]) ∧ Below w.heap.size w w' := by
  have hl := h.len
  rcases ERow.form h with ⟨e, e2⟩ | ⟨g, cap, e, _, hg, _, _⟩
  · simp only [Value.slice.injEq] at e
    obtain ⟨rfl, rfl, rfl⟩ := e
    subst e2
    obtain ⟨a', c', w', h1, h2, h3, _⟩ := run_epush (P := Tryd.prog) (t := 48) Tryd.underlying48 celP encP_len encP_one (w := w) (B := w.heap.size) (v := .slice none 0 0) (ERow.nil _ _ _ _ _) p #[.slice p.a p.n p.c, .bool p.br] rfl (by simp) (by decide) (Nat.le_refl _)
    exact ⟨a', c', w', h1, h2, h3.below (Nat.le_refl _) fun k e => by simp [Value.ownBlock] at e⟩
  · simp only [Value.slice.injEq] at e
    obtain ⟨rfl, rfl, rfl⟩ := e
    obtain ⟨i, z, hi, hz, hzs, hs, hby⟩ := celP
    have hrow : PpRow (w.alloc (.cells #[.slice p.a p.n p.c, .bool p.br] 79)) 0 (.slice (some ⟨g, 0, none⟩) ps.length c) ps := h.below ((Below.refl w.heap.size w).alloc (Nat.le_refl _) _)
    obtain ⟨v', w', hr, r, o⟩ := run_append_arg_grows (P := Tryd.prog) (w.alloc (.cells #[.slice p.a p.n p.c, .bool p.br] 79)) 48 48 79 i z 2 32 Tryd.underlying48 hi hz hs hby hzs (by decide) ⟨g, 0, none⟩ ps.length ps.length (ps.flatMap encP) (flat_len encP_len ps) (World.ownsRow.cells hrow (g := g) rfl) ⟨w.heap.size, 0, none⟩ 1 1 (encP p) (by rw [encP_len]) (fun j u hu => by
      rw [show (⟨w.heap.size, 0, none⟩ : Addr).add j = ⟨w.heap.size, j, none⟩ by rw [Addr.add_lit, Nat.zero_add], cell_new]
      simpa [encP] using hu) (by omega) (by unfold maxLen; omega) (by omega)
    have hR : PpRow w' (w.heap.size + 1) v' (ps ++ [p]) := by
      unfold PpRow ERow
      rw [List.length_append, List.flatMap_append]
      rw [World.size_alloc] at r
      simpa using r
    obtain ⟨a', c', e1, _⟩ := hR.isSlice
    rw [List.length_append] at e1
    simp only [List.length_cons, List.length_nil, Nat.zero_add] at e1
    subst e1
    refine ⟨a', c', w', hr, ERow.base hR (by omega), ?_⟩
    exact ((Below.refl w.heap.size w).alloc (Nat.le_refl _) _).trans (((Off.of_grown o).below (Nat.le_refl _) (fun k e => by cases e)).mono (by simp))
def zP : Pp := ⟨none, 0, 0, [], false⟩
theorem run_make_pieces {w : World} (n : Nat) (hn : n ≤ 1000) : ∃ w', (Instr.makeSlice 48 (.int .i64 (n : Int)) (.int .i64 (n : Int))).run Tryd.prog w = .ok (.slice (some ⟨w.heap.size, 0, none⟩) n n) w' ∧ PpRow w' w.heap.size (.slice (some ⟨w.heap.size, 0, none⟩) n n) (List.replicate n zP) ∧ Below w.heap.size w w' := by
  have h : (Tryd.prog.info? 79).map (fun i => (i.zero, i.size, i.bytes)) = some (some (.agg #[.slice none 0 0, .bool false]), 2, 32) := by kernel_rfl
  obtain ⟨i, hi, e⟩ := Option.map_eq_some_iff.1 h
  simp only [Prod.mk.injEq] at e
  obtain ⟨hz, hs, hby⟩ := e
  obtain ⟨w', h1, h2, h3⟩ := run_make_full (P := Tryd.prog) w w.heap.size 48 79 i _ 2 Tryd.underlying48 hi hz hs .i64 .i64 n (by rw [hby]; omega) (by unfold maxLen; omega) (Nat.le_refl _)
  refine ⟨w', h1, ?_, (Off.of_grown h3).below (Nat.le_refl _) (fun k e => by cases e)⟩
  unfold PpRow ERow
  rw [List.length_replicate]
  have e : (madeCells (Value.agg #[.slice none 0 0, .bool false]).cells (n * 2)).toList = (List.replicate n zP).flatMap encP := made_flat encP_len (by decide) zP n
  rw [← e]
  exact h2
theorem run_make_bytes {w : World} (n : Nat) (hn : n ≤ 140737488355328) : ∃ w', (Instr.makeSlice 27 (.int .i64 (n : Int)) (.int .i64 (n : Int))).run Tryd.prog w = .ok (.slice (some ⟨w.heap.size, 0, none⟩) n n) w' ∧ BRow w' w.heap.size (.slice (some ⟨w.heap.size, 0, none⟩) n n) (List.replicate n 0) ∧ Below w.heap.size w w' := by
  have h : (Tryd.prog.info? 5).map (fun i => (i.zero, i.size, i.bytes)) = some (some (.int .u8 0), 1, 1) := by kernel_rfl
  obtain ⟨i, hi, e⟩ := Option.map_eq_some_iff.1 h
  simp only [Prod.mk.injEq] at e
  obtain ⟨hz, hs, hby⟩ := e
  obtain ⟨w', h1, h2, h3⟩ := run_make_full (P := Tryd.prog) w w.heap.size 27 5 i _ 1 Tryd.underlying27 hi hz hs .i64 .i64 n (by rw [hby]; omega) (by unfold maxLen; omega) (Nat.le_refl _)
  refine ⟨w', h1, ?_, (Off.of_grown h3).below (Nat.le_refl _) (fun k e => by cases e)⟩
  unfold BRow ERow
  rw [List.length_replicate]
  have e : (madeCells (Value.int .u8 0).cells (n * 1)).toList = (List.replicate n (0 : Int)).flatMap encB := made_flat encB_len (by decide) 0 n
  rw [← e]
  exact h2
/-- copy, elements of any number of cells: all is read before anything is written. -/
theorem run_copy_k {P : Program} (w : World) (dT sT ty elem : TypeId) (i : TypeInfo) (hi : P.info? elem = some i) (b o dLen dCap : Nat) (a : Addr) (sLen sCap : Nat) (cs : List Value)
    (hu : P.underlying dT = some (.slice elem)) (hn : cs.length = Nat.min sLen dLen * i.size)
    (hsrc : ∀ j v, cs[j]? = some v → w.cell? (a.add j) = some v) (hc : ∀ j, j < cs.length → (w.cell? ⟨b, o + j, none⟩).isSome = true) (hf : ∀ j, j < cs.length → w.frozen? ⟨b, o + j, none⟩ = false) (h1 : ∀ v ∈ cs, v.oneCell' = true) :
    (Builtin.copy_ #[dT, sT] ty #[.slice (some ⟨b, o, none⟩) dLen dCap, .slice (some a) sLen sCap]).run P w = .ok (goInt (Nat.min sLen dLen)) (w.setCells b o cs) := by
  have hl := run_loadCells_list (P := P) w a cs hsrc
  have hst := run_storeCells_cells (P := P) b o cs 0 w (by simpa using hc) (by simpa using hf) h1
  simp [Builtin.copy_, run_underlying hu, Builtin.lenOf, Builtin.firstCells, sizeOf, typeInfo, hi, ← hn, hl, hst]
theorem run_copy_no {P : Program} (w : World) (dT sT ty elem : TypeId) (i : TypeInfo) (hi : P.info? elem = some i) (d a : Option Addr) (dLen dCap sLen sCap : Nat) (hu : P.underlying dT = some (.slice elem)) (hn : Nat.min sLen dLen = 0) :
    (Builtin.copy_ #[dT, sT] ty #[.slice d dLen dCap, .slice a sLen sCap]).run P w = .ok (goInt 0) w := by
  have hl : ∀ (x : Addr), (loadCells x 0).run P w = .ok #[] w := fun x => by simpa using run_loadCells_list (P := P) w x [] (by simp)
  cases d <;> cases a <;> simp [Builtin.copy_, run_underlying hu, Builtin.lenOf, Builtin.firstCells, sizeOf, typeInfo, hi, hn, storeCells, hl]
/-- copy, in the walk, by an equation of its run. -/
theorem wpList_copy_run {P : Program} {w w' : World} {ops : Array Oper} {rest : List Oper} {o : Oper} {a : Act} {Q : Exit → Act → World → Prop} (hgd : o.guard = none) (s x : Operand) (t : TypeId) (v' : Value)
    (ho : o.op = .call { callee := .builtin .copy, args := #[s, x], argTypes := #[t, t] }) (hr : (Builtin.copy_ #[t, t] o.type #[a.eval s, a.eval x]).run P w = .ok v' w') (h : wpList P ops Q rest (a.put o.dst v') w') : wpList P ops Q (o :: rest) a w :=
  wpList_plain hgd fun _ hK => by
    unfold Oper.wp execOp
    simp only [ho, resolve, invoke, builtin, Sem.run_bind, Sem.run_pure, Result.andThen_ok, List.map_toArray, List.map_cons, List.map_nil, hr]
    exact hK _ _ h
theorem step_copy_run {P : Program} {w w' : World} {ops : Array Oper} {o : Oper} {a : Act} {K : Act → World → Prop} {Q : Exit → Act → World → Prop} {E : Prop} (hgd : o.guard = none) (s x : Operand) (t : TypeId) (ho : o.op = Op.call { callee := Callee.builtin Builtin.copy, args := #[s, x], argTypes := #[t, t] }) {sv xv r : Value} (hs : a.eval s = sv) (hx : a.eval x = xv) (hr : (Builtin.copy_ #[t, t] o.type #[sv, xv]).run P w = .ok r w') (h : K (a.put o.dst r) w') :
    if Region.wanted o (yielded ops a.tmps) = true then Oper.wp P o a w K Q else E := by
  have hw : Region.wanted o (yielded ops a.tmps) = true := by simp [Region.wanted, hgd]
  rw [if_pos hw]
  unfold Oper.wp execOp
  simp only [ho, resolve, invoke, builtin, Sem.run_bind, Sem.run_pure, Result.andThen_ok, List.map_toArray, List.map_cons, List.map_nil, hs, hx, hr]
  exact h
end Go.Proofs.YtpcickhellkiaaaDoor
