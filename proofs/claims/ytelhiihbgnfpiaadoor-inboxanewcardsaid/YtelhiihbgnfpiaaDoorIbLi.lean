/-
  A box of the law's own, from call to call.
-/
import Derived.Test.YtelhiihbgnfpiaaDoorIbDcd
import Derived.Test.YtelhiihbgnfpiaaDoorIbLoad
import Derived.Test.YtelhiihbgnfpiaaDoorIbOpn
import Derived.Test.YtelhiihbgnfpiaaDoorIbRead
namespace Go.Proofs.YtelhiihbgnfpiaaDoor
open Go.RowKit

/-- A box of the law's own: nothing of it lay in W. -/
def Li (W w : World) (b sb M : Nat) (K R : Int) (es : List Ent) : Prop := (∃ v, Bx w W.heap.size b sb M v K R es) ∧ Below W.heap.size W w
section
variable {W w w' : World} {b sb M : Nat} {K R : Int} {es : List Ent}
theorem Li.below (h : Li W w b sb M K R es) (hb : Below w.heap.size w w') : Li W w' b sb M K R es := by
  obtain ⟨⟨v, h1⟩, h2⟩ := h
  exact ⟨⟨v, h1.below hb⟩, below_then h2 hb⟩
theorem Li.step {v : Value} {es' : List Ent} (h : Bx w W.heap.size b sb M v K R es) (hb : Below W.heap.size W w) (hq : BxQ w W.heap.size b sb M v K R es' w') : Li W w' b sb M K R es' := by
  obtain ⟨v', h1, h2, _⟩ := hq
  exact ⟨⟨v', h1⟩, hb.trans (h2.below hb.size fun q hq => h.ft hq)⟩
theorem Li.inv (h : Li W w b sb M K R es) : Inv K R es := by
  obtain ⟨⟨v, h1⟩, _⟩ := h
  exact h1.inv
theorem Li.ok (h : Li W w b sb M K R es) : ∀ e ∈ es, mayB e = true := by
  obtain ⟨⟨v, h1⟩, _⟩ := h
  exact h1.sh.ok
theorem Li.dis (h : Li W w b sb M K R es) : Dis es := by
  obtain ⟨⟨v, h1⟩, _⟩ := h
  exact h1.sh.dis
theorem li_new (W w : World) (hb : Below W.heap.size W w) (k1 : 1 ≤ K) (k2 : K ≤ 64) (r1 : 1 ≤ R) (r2 : R ≤ 32) : Calls Tryd.prog 4 #[.int .i64 K, .int .i64 R] w fun r w' => ∃ b sb M, r = .returned (.tuple #[.pointer (some ⟨b, 0, none⟩), .nilIface]) ∧ Hid (Li W w' b sb M K R [] ∧ Below w.heap.size w w') :=
  (new_yes w k1 k2 r1 r2).mono fun r w' ⟨b, sb, M, v, h1, h2⟩ => by
    refine ⟨b, sb, M, h1, ⟨⟨v, ?_⟩, below_then hb h2.out.2⟩, h2.out.2⟩
    have h := h2.out.1
    exact ⟨h.blk, ⟨h.sh.blk, ERow.base h.sh.row hb.size, h.sh.map, h.sh.dis, h.sh.len, h.sh.ok⟩, fun e he => (by cases he), Nat.le_trans hb.size h.lb, Nat.le_trans hb.size h.ls, Nat.le_trans hb.size h.lm, h.inv⟩
theorem li_acc_yes (h : Li W w b sb M K R es) (e : Ent) (hk : KeyS e.ct) (hl : Lies w e) (hz : accC R es e = 0) : Calls Tryd.prog 10 #[.pointer (some ⟨b, 0, none⟩), .agg #[.string e.ct, .slice e.tp e.tn e.tc, .int .i64 e.nu, .int .i64 e.tk, .slice e.cp e.cn e.cc, .string e.cd, .slice e.ap e.an e.ac]] w fun r w' => r = .returned .nilIface ∧ Hid (∃ a c a' c' a'' c'', Li W w' b sb M K R (es ++ [e.wi a c a' c' a'' c''])) := by
  obtain ⟨⟨v, h1⟩, h2⟩ := h
  exact (acc_yes h1 e hk hl hz).mono fun r w' ⟨g1, g2⟩ => ⟨g1, by
    obtain ⟨a, c, a', c', a'', c'', g3⟩ := g2.out
    exact ⟨a, c, a', c', a'', c'', Li.step h1 h2 g3⟩⟩
theorem li_acc_no (h : Li W w b sb M K R es) (e : Ent) (hk : KeyS e.ct) {z : Int} (hz : accC R es e = z) (h0 : z ≠ 0) : Calls Tryd.prog 10 #[.pointer (some ⟨b, 0, none⟩), .agg #[.string e.ct, .slice e.tp e.tn e.tc, .int .i64 e.nu, .int .i64 e.tk, .slice e.cp e.cn e.cc, .string e.cd, .slice e.ap e.an e.ac]] w fun r w' => ∃ ev, r = .returned (.iface 72 (.pointer (some ⟨ev, 0, none⟩))) ∧ Hid (IFault w' ev 0 z ∧ Li W w' b sb M K R es ∧ Below w.heap.size w w') := by
  obtain ⟨⟨v, h1⟩, h2⟩ := h
  exact (acc_no h1 e hk hz h0).mono fun r w' ⟨ev, g1, g2, g3, g4⟩ => ⟨ev, g1, g2, ⟨⟨v, h1.below g4⟩, below_then h2 g4⟩, g4⟩
theorem li_dec_no (h : Li W w b sb M K R es) {s cd : ByteArray} {p : Option Addr} {n c : Nat} (hk : KeyS s) (hn : n ≤ 9223372036854775807) {z : Int} (hz : decC es s cd n = z) (h0 : z ≠ 0) : Calls Tryd.prog 12 #[.pointer (some ⟨b, 0, none⟩), .string s, .string cd, .slice p n c] w fun r w' => ∃ ev, r = .returned (.tuple #[.slice none 0 0, .iface 72 (.pointer (some ⟨ev, 0, none⟩))]) ∧ Hid (IFault w' ev 0 z ∧ Li W w' b sb M K R es ∧ Below w.heap.size w w') := by
  obtain ⟨⟨v, h1⟩, h2⟩ := h
  exact (dec_no h1 hk hn hz h0).mono fun r w' ⟨ev, g1, g2, g3, g4⟩ => ⟨ev, g1, g2, ⟨⟨v, h1.below g4⟩, below_then h2 g4⟩, g4⟩
theorem li_dec_yes (h : Li W w b sb M K R es) {s cd : ByteArray} {po : Option Addr} {n co i : Nat} {bs : List Int} {x : Ent} (hk : KeyS s) (hb : Byts w po n bs) (hv : vdB cd = true) (hn : n ≤ 2048) (hf : fi s es = some i) (hx : es[i]? = some x) (ho : opB x = true) : Calls Tryd.prog 12 #[.pointer (some ⟨b, 0, none⟩), .string s, .string cd, .slice po n co] w fun r w' => ∃ a k m, r = .returned (.tuple #[.slice a m k, .nilIface]) ∧ Hid (∃ p c, TRow w' w.heap.size (.slice a m k) (goneS K (es.set i (x.vd cd p n c bs))) ∧ m = (goneS K (es.set i (x.vd cd p n c bs))).length ∧ Li W w' b sb M K R (shedS K (es.set i (x.vd cd p n c bs)))) := by
  obtain ⟨⟨v, h1⟩, h2⟩ := h
  exact (dec_yes h1 hk hb hv hn hf hx ho).mono fun r w' ⟨u, g1, g2⟩ => by
    obtain ⟨p, c, g3, g4⟩ := g2.out
    obtain ⟨a, k, e1, _⟩ := ERow.isSlice g3
    subst e1
    exact ⟨a, k, _, g1, p, c, g3, rfl, Li.step h1 h2 g4⟩
theorem li_find_yes (h : Li W w b sb M K R es) {s : ByteArray} {i : Nat} {m : Ent} (hk : KeyS s) (hf : fi s es = some i) (hm : es[i]? = some m) : Calls Tryd.prog 13 #[.pointer (some ⟨b, 0, none⟩), .string s] w (EnQ w m true) := by
  obtain ⟨⟨v, h1⟩, _⟩ := h
  exact find_yes h1 hk hf hm
theorem li_find_no (h : Li W w b sb M K R es) {s : ByteArray} (hk : KeyS s) (hf : fi s es = none) : Calls Tryd.prog 13 #[.pointer (some ⟨b, 0, none⟩), .string s] w (EnQ w zE false) := by
  obtain ⟨⟨v, h1⟩, _⟩ := h
  exact find_no h1 hk hf
theorem li_last (h : Li W w b sb M K R es) {l : Ent} (hl : lasE es = l) {t : Bool} (ht : decide (0 < es.length) = t) : Calls Tryd.prog 26 #[.pointer (some ⟨b, 0, none⟩)] w (EnQ w l t) := by
  obtain ⟨⟨v, h1⟩, _⟩ := h
  exact blast_any h1 hl ht
theorem li_list (h : Li W w b sb M K R es) : Calls Tryd.prog 7 #[.pointer (some ⟨b, 0, none⟩)] w (LsQ w es) := by
  obtain ⟨⟨v, h1⟩, _⟩ := h
  exact list_any h1
theorem li_open (h : Li W w b sb M K R es) : Calls Tryd.prog 24 #[.pointer (some ⟨b, 0, none⟩)] w (OpQ w es) := by
  obtain ⟨⟨v, h1⟩, _⟩ := h
  exact open_any h1
end
end Go.Proofs.YtelhiihbgnfpiaaDoor
