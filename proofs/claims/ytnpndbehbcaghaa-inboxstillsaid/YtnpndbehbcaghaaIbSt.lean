/-
  In the midst of a round of InboxStill: the box, the call's box, the list that was taken.
-/
import Derived.Test.YtnpndbehbcaghaaIbDcdd
import Derived.Test.YtnpndbehbcaghaaIbLives2
namespace Go.Proofs.Ytnpndbehbcaghaa
open Go.RowKit

theorem Cps.off {P : Nat → Prop} {w w' : World} {B : Nat} {ls es : List Ent} (h : Cps w B ls es) (ho : Off P w w') (hP : ∀ q, B ≤ q → ¬ P q) : Cps w' B ls es := h.keep fun _ _ hl => hl.off ho hP
/-- es: what the box holds; es0: what the list ls tells. -/
structure St (w : World) (N0 : Nat) (x : World) (b sb M : Nat) (v : Value) (K R : Int) (es : List Ent) (yb : Nat) (y : Opv) (s : ByteArray) (a : Option Addr) (ne k : Nat) (ls es0 : List Ent) : Prop where
  bx : Bx x w.heap.size b sb M v K R es
  bel : Below w.heap.size w x
  ob : x.heap[yb]? = some (.cells #[.int .i64 y.kd, .int .i64 y.of_, .int .i64 y.n, .string y.e.ct, .slice y.e.tp y.e.tn y.e.tc, .int .i64 y.e.nu, .int .i64 y.e.tk, .slice y.e.cp y.e.cn y.e.cc, .string y.e.cd, .slice y.e.ap y.e.an y.e.ac, .string s, .string y.cd, .slice y.ap y.an y.ac] 33 (0, 0))
  ny : N0 ≤ yb
  row : NRow x N0 (.slice a ne k) ls
  cps : Cps x N0 ls es0
section
variable {w x x' : World} {N0 b sb M yb ne k : Nat} {v : Value} {K R : Int} {es es' es0 ls : List Ent} {y : Opv} {s : ByteArray} {a : Option Addr}
theorem St.below (h : St w N0 x b sb M v K R es yb y s a ne k ls es0) (hb : Below x.heap.size x x') : St w N0 x' b sb M v K R es yb y s a ne k ls es0 :=
  ⟨h.bx.below hb, below_then h.bel hb, (hb.block yb (blk_lt h.ob)).trans h.ob, h.ny, h.row.below hb, h.cps.below hb⟩
theorem St.step (h : St w N0 x b sb M v K R es yb y s a ne k ls es0) (hf : ∀ q, Ft sb M v q → q < N0) (hq : BxQ x w.heap.size b sb M v K R es' x') : ∃ v', St w N0 x' b sb M v' K R es' yb y s a ne k ls es0 := by
  obtain ⟨v', h1, h2, _⟩ := hq
  have hn : ∀ q, N0 ≤ q → ¬ Ft sb M v q := fun q hq hF => by have := hf q hF; omega
  exact ⟨v', h1, h.bel.trans (h2.below h.bel.size fun q hq => h.bx.ft hq), (h2.block yb (blk_lt h.ob) (hn _ h.ny)).trans h.ob, h.ny, h.row.off h2 fun g hg => hn g (h.row.lt hg).1, h.cps.off h2 hn⟩
theorem St.box (h : St w N0 x b sb M v K R es yb y s a ne k ls es0) : Box x yb #[.int .i64 y.kd, .int .i64 y.of_, .int .i64 y.n, .string y.e.ct, .slice y.e.tp y.e.tn y.e.tc, .int .i64 y.e.nu, .int .i64 y.e.tk, .slice y.e.cp y.e.cn y.e.cc, .string y.e.cd, .slice y.e.ap y.e.an y.e.ac, .string s, .string y.cd, .slice y.ap y.an y.ac] := ⟨blk_lt h.ob, hcell h.ob, hfroz h.ob⟩
/-- The call's control id is another one. -/
theorem St.put (h : St w N0 x b sb M v K R es yb y s a ne k ls es0) (hw : w.heap.size ≤ yb) (st : ByteArray) : St w N0 (x.setCell ⟨yb, 10, none⟩ (.string st)) b sb M v K R es yb y st a ne k ls es0 := by
  have o1 : Off (fun q => q = yb) x (x.setCell ⟨yb, 10, none⟩ (.string st)) := Off.setCell (P := fun q => q = yb) (Off.refl _ _) (p := ⟨yb, 10, none⟩) rfl _
  have hby : ∀ q cs, x.heap[q]? = some (.cells cs 5 (0, 0)) → ¬ q = yb := fun q cs hq e => by
    rw [e, h.ob] at hq
    simp at hq
  have hrt : ∀ {v' : Value} {B : Nat} {l : List Ent}, NRow x B v' l → ∀ g, v'.ownBlock = some g → ¬ g = yb := fun hr g hg e => by
    obtain ⟨cs, h1⟩ := row_type hr hg
    rw [e, h.ob] at h1
    simp at h1
  have hbb : ¬ b = yb := fun e => by
    have h1 := h.bx.blk
    rw [e, h.ob] at h1
    simp at h1
  have hF : ∀ q, Ft sb M v q → ¬ q = yb := fun q hq e => by
    rcases hq with g | g | g
    · have h1 := h.bx.sh.blk
      rw [← g, e, h.ob] at h1
      simp at h1
    · obtain ⟨es', clock, hm⟩ := h.bx.sh.map.isMap
      rw [← g, e, h.ob] at hm
      simp at hm
    · exact hrt h.bx.sh.row q g e
  refine ⟨⟨(o1.block b h.bx.lt hbb).trans h.bx.blk, h.bx.sh.off o1 hF, fun e he => (h.bx.own e he).byType o1 hby, h.bx.lb, h.bx.ls, h.bx.lm, h.bx.inv⟩, h.bel.trans (o1.below h.bel.size fun q hq => by omega), ?_, h.ny, h.row.off o1 (hrt h.row), h.cps.keep fun _ _ hl => hl.byType o1 hby⟩
  exact set_heap h.ob 10 _
theorem St.li (h : St w N0 x b sb M v K R es yb y s a ne k ls es0) : Li w x b sb M K R es := ⟨⟨v, h.bx⟩, h.bel⟩
end
theorem ops_mem {es : List Ent} {s : ByteArray} (h : s ∈ opS es) : ∃ e ∈ es, e.ct = s := by
  unfold opS at h
  obtain ⟨e, h1, h2⟩ := List.mem_map.1 h
  exact ⟨e, (List.mem_filter.1 h1).1, h2⟩
theorem may_sz {e : Ent} (h : mayB e = true) : Sz e := by
  have := mayB_is h
  exact ⟨by omega, by omega, by omega⟩
theorem cps_k {w : World} {B : Nat} {ls es : List Ent} (h : Cps w B ls es) (ho : ∀ e ∈ es, mayB e = true) : ∀ l ∈ ls, Lies w l ∧ Sz l := fun l hl => ⟨(h.own l hl).lies, may_sz (h.ok ho l hl)⟩
theorem cps_take {w : World} {B : Nat} {ls es : List Ent} {e : Ent} (h : Cps w B ls (es ++ [e])) : Tws (ls.take es.length) es := by
  refine ⟨by rw [List.length_take, h.1]; simp, fun i l m hl hm => ?_⟩
  have hi := (List.getElem?_eq_some_iff.1 hm).1
  rw [List.getElem?_take_of_lt hi] at hl
  exact h.tws.2 i l m hl (by rw [List.getElem?_append_left hi]; exact hm)
theorem nrow_take {w : World} {B n m c g : Nat} {es : List Ent} (h : NRow w B (.slice (some ⟨g, 0, none⟩) n c) es) (hm : m ≤ n) : NRow w B (.slice (some ⟨g, 0, none⟩) m c) (es.take m) := by
  have hn := ERow.len h
  have h' : w.ownsRow B 31 7 (.slice (some ⟨g, 0, none⟩) n c) n (es.flatMap encE) := by
    have := h
    unfold NRow ERow at this
    rw [← hn] at this
    exact this
  have := own_prefix h' hm
  unfold NRow ERow
  rw [List.length_take, Nat.min_eq_left (by omega)]
  have e : (es.flatMap encE).take (m * 7) = (es.take m).flatMap encE := by
    conv => lhs; rw [← List.take_append_drop m es, List.flatMap_append]
    refine List.take_left' ?_
    rw [flat_len encE_len, List.length_take, Nat.min_eq_left (by omega)]
  rw [← e]
  exact this
end Go.Proofs.Ytnpndbehbcaghaa
