/-
  Bytes that lie somewhere, rows of bytes, rows of pieces; the document's link in memory.
-/
import Derived.Test.YtpcickhellkiaaaDoorIbBase
namespace Go.Proofs.YtpcickhellkiaaaDoor
open Go.RowKit

/-- The bytes that a byte string holds. -/
structure Byts (w : World) (po : Option Addr) (n : Nat) (bs : List Int) : Prop where
  len : bs.length = n
  cell : ∀ j, j < n → ∃ b o, po = some ⟨b, o, none⟩ ∧ b < w.heap.size ∧ w.cell? ⟨b, o + j, none⟩ = some (.int .u8 (bs.getD j 0))
theorem Byts.off {P : Nat → Prop} {w w' : World} {po : Option Addr} {n : Nat} {bs : List Int} (h : Byts w po n bs) (ho : Off P w w') (hP : ∀ b o, po = some ⟨b, o, none⟩ → b < w.heap.size → ¬ P b) : Byts w' po n bs :=
  ⟨h.len, fun j hj => by
    obtain ⟨b, o, e, hl, hc⟩ := h.cell j hj
    exact ⟨b, o, e, Nat.lt_of_lt_of_le hl ho.size, by rw [ho.cell (p := ⟨b, o + j, none⟩) hl (hP b o e hl)]; exact hc⟩⟩
theorem Byts.below {w w' : World} {po : Option Addr} {n : Nat} {bs : List Int} (h : Byts w po n bs) (hb : Below w.heap.size w w') : Byts w' po n bs := h.off (P := fun _ => False) (Off.of_below hb) (fun _ _ _ _ => id)
theorem Byts.nil (w : World) (po : Option Addr) : Byts w po 0 [] := ⟨rfl, fun j hj => by omega⟩
theorem Byts.uniq {w : World} {po : Option Addr} {n : Nat} {bs cs : List Int} (h : Byts w po n bs) (g : Byts w po n cs) : bs = cs := by
  apply List.ext_getElem (by rw [h.len, g.len])
  intro j hj hj'
  obtain ⟨b, o, e, _, hc⟩ := h.cell j (by have := h.len; omega)
  obtain ⟨b', o', e', _, hc'⟩ := g.cell j (by have := h.len; omega)
  rw [e] at e'
  simp only [Option.some.injEq, Addr.mk.injEq, and_true] at e'
  obtain ⟨rfl, rfl⟩ := e'
  rw [hc] at hc'
  simp only [Option.some.injEq, Value.int.injEq, true_and] at hc'
  rw [List.getD_eq_getElem?_getD, List.getD_eq_getElem?_getD, List.getElem?_eq_getElem hj, List.getElem?_eq_getElem hj'] at hc'
  exact hc'
def encB (z : Int) : List Value := [.int .u8 z]
theorem encB_len (z : Int) : (encB z).length = 1 := rfl
theorem encB_one (z : Int) : ∀ u ∈ encB z, u.oneCell' = true := fun u hu => by
  simp only [encB, List.mem_cons, List.not_mem_nil, or_false] at hu; rw [hu]; rfl
theorem celB : Cel Tryd.prog 5 1 1 := cel_of (by kernel_rfl)
theorem flatB (bs : List Int) {j : Nat} {u : Value} (h : (bs.flatMap encB)[j]? = some u) : j < bs.length ∧ u = .int .u8 (bs.getD j 0) := by
  have hj : j < bs.length := by
    have := (List.getElem?_eq_some_iff.1 h).1
    rwa [flat_len encB_len, Nat.mul_one] at this
  refine ⟨hj, ?_⟩
  have := flat_get encB_len bs j bs[j] 0 (List.getElem?_eq_getElem hj) (by decide)
  rw [Nat.mul_one, Nat.add_zero, h] at this
  simp only [encB, List.getElem?_cons_zero, Option.some.injEq] at this
  rw [this, List.getD_eq_getElem?_getD, List.getElem?_eq_getElem hj]
  rfl
/-- A text of one's own. -/
def BRow (w : World) (B : Nat) (v : Value) (bs : List Int) : Prop := ERow w B 5 1 encB v bs
theorem BRow.byts {w : World} {B : Nat} {a : Option Addr} {n c : Nat} {bs : List Int} (h : BRow w B (.slice a n c) bs) : Byts w a n bs := by
  refine ⟨(ERow.len h).symm, fun j hj => ?_⟩
  have hn := ERow.len h
  obtain ⟨g, e, hl, hc⟩ := ERow.at_ encB_len h (List.getElem?_eq_getElem (l := bs) (i := j) (by omega))
  refine ⟨g, 0, e, hl, ?_⟩
  have := hc 0 (by decide)
  rw [Nat.mul_one, Nat.add_zero] at this
  have hjl : j < bs.length := by omega
  rw [Nat.zero_add, this, List.getD_eq_getElem?_getD, List.getElem?_eq_getElem hjl]
  rfl
theorem run_bapp {w : World} {B : Nat} {v : Value} {po : Option Addr} {m c : Nat} {bs : List Int} (h : BRow w B v []) (hb : Byts w po m bs) (hl : m ≤ 140737488355328) (hB : B ≤ w.heap.size) :
    ∃ a' c' w', (Builtin.append_ #[27, 27] 27 #[v, .slice po m c]).run Tryd.prog w = .ok (.slice a' m c') w' ∧ BRow w' B (.slice a' m c') bs ∧ Off (fun q => v.ownBlock = some q) w w' := by
  obtain ⟨i, z, hi, hz, hzs, hs, hby⟩ := celB
  have hm := hb.len
  have hbn : ((0 + bs.length) + (0 + bs.length) / 4 + 192) * 1 ≤ 281474976710656 := by omega
  have hh : w.ownsRow B 5 1 v 0 ([] : List Value) := h
  obtain ⟨v', w', hr, r, o, l⟩ := run_append_k (P := Tryd.prog) w B 27 27 5 i z 1 1 Tryd.underlying27 hi hz hs hby hzs v 0 [] hh po bs.length c (bs.flatMap encB) (flat_len encB_len bs) (fun e => by
    rcases Nat.eq_zero_or_pos m with g | g
    · omega
    · obtain ⟨_, _, e', _⟩ := hb.cell 0 g
      rw [e] at e'; cases e') (fun a' ha j u hu => by
    obtain ⟨hj, rfl⟩ := flatB bs hu
    obtain ⟨b, o, e, _, hc⟩ := hb.cell j (by omega)
    rw [ha] at e
    obtain rfl : a' = ⟨b, o, none⟩ := by simpa using e
    rw [Addr.add_lit]; exact hc) (fun u hu => by
    obtain ⟨x, _, hx⟩ := List.mem_flatMap.1 hu
    exact encB_one x u hx) (by unfold maxLen; omega) hbn hB
  have hR : BRow w' B v' bs := by
    unfold BRow ERow
    rw [Nat.zero_add, List.nil_append] at r
    exact r
  obtain ⟨a', c', e1, _⟩ := ERow.isSlice hR
  rw [hm] at e1 hr
  subst e1
  exact ⟨a', c', w', hr, hR, o⟩
/-! ### pieces -/
/-- A piece: where it lies, and its bytes. -/
structure Pc where
  a : Option Addr
  n : Nat
  c : Nat
  bs : List Int
def encPc (p : Pc) : List Value := [.slice p.a p.n p.c]
theorem encPc_len (p : Pc) : (encPc p).length = 1 := rfl
theorem encPc_one (p : Pc) : ∀ u ∈ encPc p, u.oneCell' = true := fun u hu => by
  simp only [encPc, List.mem_cons, List.not_mem_nil, or_false] at hu; rw [hu]; rfl
theorem celPc : Cel Tryd.prog 27 1 24 := cel_of (by kernel_rfl)
abbrev PcRow (w : World) (B : Nat) (v : Value) (ps : List Pc) : Prop := ERow w B 27 1 encPc v ps
/-- Its bytes lie in a row of their own. -/
def PcOk (w : World) (B : Nat) (p : Pc) : Prop := BRow w B (.slice p.a p.n p.c) p.bs ∧ p.n ≤ 8195
/-- One side: its list of pieces, the broken one. -/
structure Wy where
  a : Option Addr
  n : Nat
  c : Nat
  ps : List Pc
  h : Int
structure WyOk (w : World) (B : Nat) (x : Wy) : Prop where
  row : PcRow w B (.slice x.a x.n x.c) x.ps
  pcs : ∀ p ∈ x.ps, PcOk w B p
  len : x.ps.length ≤ 256
def wyOwn (x : Wy) : Option Nat := (Value.slice x.a x.n x.c).ownBlock
/-- The document's link: block rb. -/
structure RLk (w : World) (rb : Nat) (x y : Wy) : Prop where
  blk : w.heap[rb]? = some (.cells #[.bool true, .slice x.a x.n x.c, .int .i64 x.h, .slice y.a y.n y.c, .int .i64 y.h] 59 (0, 0))
  px : WyOk w (rb + 1) x
  py : WyOk w (rb + 1) y
  ap : ∀ g, wyOwn x = some g → wyOwn y ≠ some g
section
variable {w w' : World} {rb B : Nat} {x y : Wy}
theorem PcOk.below {p : Pc} (h : PcOk w B p) (hb : Below w.heap.size w w') : PcOk w' B p := ⟨ERow.below h.1 hb, h.2⟩
theorem WyOk.below (h : WyOk w B x) (hb : Below w.heap.size w w') : WyOk w' B x := ⟨ERow.below h.row hb, fun p hp => (h.pcs p hp).below hb, h.len⟩
theorem RLk.below (h : RLk w rb x y) (hb : Below w.heap.size w w') : RLk w' rb x y := ⟨(hb.block rb (blk_lt h.blk)).trans h.blk, h.px.below hb, h.py.below hb, h.ap⟩
theorem row_pc {v : Value} {ps : List Pc} {g : Nat} (h : PcRow w B v ps) (hg : v.ownBlock = some g) : ∃ cs, w.heap[g]? = some (.cells cs 27 (0, 0)) := by
  rcases h.2 with ⟨rfl, _⟩ | ⟨g1, c1, u1, rfl, _, b1, _⟩
  · cases hg
  · simp only [Value.ownBlock, Option.some.injEq] at hg
    subst hg
    exact ⟨_, b1⟩
theorem row_b {v : Value} {bs : List Int} {g : Nat} (h : BRow w B v bs) (hg : v.ownBlock = some g) : ∃ cs, w.heap[g]? = some (.cells cs 5 (0, 0)) := by
  rcases h.2 with ⟨rfl, _⟩ | ⟨g1, c1, u1, rfl, _, b1, _⟩
  · cases hg
  · simp only [Value.ownBlock, Option.some.injEq] at hg
    subst hg
    exact ⟨_, b1⟩
/-- What touches no block of bytes keeps a piece. -/
theorem PcOk.off {P : Nat → Prop} {p : Pc} (h : PcOk w B p) (o : Off P w w') (hP : ∀ q cs, w.heap[q]? = some (.cells cs 5 (0, 0)) → ¬ P q) : PcOk w' B p :=
  ⟨ERow.off h.1 o fun g hg => by obtain ⟨cs, e⟩ := row_b h.1 hg; exact hP g cs e, h.2⟩
theorem WyOk.off {P : Nat → Prop} (h : WyOk w B x) (o : Off P w w') (hr : ∀ g, wyOwn x = some g → ¬ P g) (hP : ∀ q cs, w.heap[q]? = some (.cells cs 5 (0, 0)) → ¬ P q) : WyOk w' B x :=
  ⟨ERow.off h.row o hr, fun p hp => (h.pcs p hp).off o hP, h.len⟩
end
end Go.Proofs.YtpcickhellkiaaaDoor
