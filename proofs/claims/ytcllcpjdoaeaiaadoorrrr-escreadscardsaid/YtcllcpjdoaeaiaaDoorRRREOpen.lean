/-
  Arguments opened: five marks, a string; what the listed package-level variables give: the names of heads.
-/
import Derived.Test.YtcllcpjdoaeaiaaDoorRRRCards
import Derived.Test.YtcllcpjdoaeaiaaDoorRRRTie
import Derived.Test.YtcllcpjdoaeaiaaDoorRRREsName
import Derived.ProofKit
import Derived.OpenShut
import Derived.Deep.DeepHandedRow
import Derived.Lib.LaidTab
import Derived.LaidMore
import Derived.ChangeMaps5
namespace Go.Proofs.YtcllcpjdoaeaiaaDoorRRR
open Go.ChangeShapes Go.WideShapes Go.ChangeAt Go.RowKit

theorem own : ownKnob Tryd.prog.godebug = none := by kernel_rfl
theorem typesSize : Tryd.prog.types.size = 121 := by kernel_rfl
theorem gHeads : Tryd.prog.globalNamed "courier/esc.heads" = some 0 := by kernel_rfl
theorem tHeads : (Tryd.prog.globals[0]?).map (·.type) = some 61 := by kernel_rfl
theorem cellsHeads : Tryd.prog.cellsOf 61 = 3 := by kernel_rfl
theorem cellsString : Tryd.prog.cellsOf 9 = 1 := by kernel_rfl
theorem cellsU8 : Tryd.prog.cellsOf 5 = 1 := by kernel_rfl
theorem cellsMarks : Tryd.prog.cellsOf 23 = 5 := by kernel_rfl
theorem three {α : Type} {l : List α} (h : l.length = 3) : ∃ a b c, l = [a, b, c] := by
  match l, h with
  | [a, b, c], _ => exact ⟨a, b, c, rfl⟩
theorem five {α : Type} {l : List α} (h : l.length = 5) : ∃ a b c d e, l = [a, b, c, d, e] := by
  match l, h with
  | [a, b, c, d, e], _ => exact ⟨a, b, c, d, e, rfl⟩
theorem str_of {s : ByteArray} {l : List UInt8} (h : s.data.toList = l) : s = ⟨l.toArray⟩ := by
  obtain ⟨⟨d⟩⟩ := s; simp at h; subst h; rfl
theorem heads_of {W : World} {rest : List (String × DataW Unit)} (h : laidMet Tryd.prog (("courier/esc.heads", Rows.laid_courier_esc_heads) :: rest) W) : Heads W := by
  obtain ⟨ps, ⟨g', t', cs, fuel, p, q, hg', ht', hvar, hd, _, _⟩, _⟩ := h
  obtain rfl := Option.some.inj (gHeads.symm.trans hg')
  obtain rfl := Option.some.inj (tHeads.symm.trans ht')
  obtain ⟨xs, m, _, hx, hl, hlen, hfl⟩ := DataW.trod_array Tryd.underlying61 hd
  rw [cellsHeads] at hl
  obtain ⟨ll⟩ := cs
  obtain ⟨c0, c1, c2, rfl⟩ := three (l := ll) hl
  obtain ⟨x0, x1, x2, rfl⟩ := three hlen
  have g0 := hfl 0 (by decide)
  have g1 := hfl 1 (by decide)
  have g2 := hfl 2 (by decide)
  simp only [cellsString, Nat.mul_one, List.drop_zero, List.drop_succ_cons, List.take_succ_cons, List.take_zero, List.getElem?_cons_zero, List.getElem?_cons_succ] at g0 g1 g2
  obtain ⟨s0, e0, rfl, _⟩ := DataW.trod_string Tryd.underlying9 g0
  obtain ⟨s1, e1, rfl, _⟩ := DataW.trod_string Tryd.underlying9 g1
  obtain ⟨s2, e2, rfl, _⟩ := DataW.trod_string Tryd.underlying9 g2
  simp only [List.cons.injEq, and_true] at e0 e1 e2
  subst e0 e1 e2
  have hx1 := congrArg Prod.fst hx
  simp only [Rows.laid_courier_esc_heads, List.map_cons, List.map_nil, DataW.agg.injEq, List.cons.injEq, DataW.lit.injEq, Lit.string.injEq, and_true] at hx1
  obtain ⟨a0, a1, a2⟩ := hx1
  have k0 := World.var?_cell gHeads hvar 0
  have k1 := World.var?_cell gHeads hvar 1
  have k2 := World.var?_cell gHeads hvar 2
  rw [str_of a0.symm, str_of a1.symm, str_of a2.symm] at k0 k1 k2
  exact ⟨by simpa using k0, by simpa using k1, by simpa using k2⟩
theorem one_u8 {H : Type} {enc : TypeId × Value → H} {W : World} {base : Nat} {spare : Nat → Bool} {held : Bool} {n : Nat} {c : Value} {x : DataW H × List MemPlace}
    (h : DataW.trod enc Tryd.prog W base spare held n 5 [c] = some x) : ∃ k : UInt8, c = .int .u8 k.toNat ∧ x.2 = [] := by
  obtain ⟨k, e, hx, hw⟩ := DataW.trod_int Tryd.underlying5 h
  have hb : 0 ≤ k ∧ k ≤ 255 := by
    simp [Lit.wf, IntKind.min, IntKind.max, IntKind.signed, IntKind.bits] at hw
    omega
  refine ⟨k.toNat.toUInt8, ?_, by rw [hx]⟩
  rw [List.head_eq_of_cons_eq e]
  congr 1
  simp [Nat.toUInt8, UInt8.toNat_ofNat']
  omega
set_option maxHeartbeats 1000000 in
set_option maxRecDepth 100000 in
theorem open_marks {H : Type} {enc : TypeId × Value → H} {W : World} {r : Reach} {b0 base : Nat} {spare : Nat → Bool} {held : Bool} {v : Value} {d : DataW H} {p : List MemPlace}
    (hv : Value.okWide Tryd.prog W r b0 23 v) (h : DataW.Trod enc Tryd.prog W base spare held 23 v d p) :
    ∃ m : Mk, v = .agg #[.int .u8 (m.f.toNat : Int), .int .u8 (m.c.toNat : Int), .int .u8 (m.r.toNat : Int), .int .u8 (m.x.toNat : Int), .int .u8 (m.s.toNat : Int)] ∧ p = [] := by
  obtain ⟨cs, rfl, hsz⟩ := okWide_struct Tryd.underlying23 hv
  obtain ⟨l⟩ := cs
  obtain ⟨c0, c1, c2, c3, c4, rfl⟩ := five (l := l) (by simpa [cellsMarks] using hsz)
  obtain ⟨fuel, hf⟩ := h
  obtain ⟨xs, n, _, hx, hl, hlen, hfl⟩ := DataW.trod_struct Tryd.underlying23 hf
  obtain ⟨x0, x1, x2, x3, x4, rfl⟩ := five (l := xs) hlen
  have g0 : DataW.trod enc Tryd.prog W base spare held n 5 [c0] = some x0 := by simpa [Value.cells, cellsU8] using hfl 0 _ rfl
  have g1 : DataW.trod enc Tryd.prog W base spare held n 5 [c1] = some x1 := by simpa [Value.cells, cellsU8] using hfl 1 _ rfl
  have g2 : DataW.trod enc Tryd.prog W base spare held n 5 [c2] = some x2 := by simpa [Value.cells, cellsU8] using hfl 2 _ rfl
  have g3 : DataW.trod enc Tryd.prog W base spare held n 5 [c3] = some x3 := by simpa [Value.cells, cellsU8] using hfl 3 _ rfl
  have g4 : DataW.trod enc Tryd.prog W base spare held n 5 [c4] = some x4 := by simpa [Value.cells, cellsU8] using hfl 4 _ rfl
  obtain ⟨a0, rfl, e0⟩ := one_u8 g0
  obtain ⟨a1, rfl, e1⟩ := one_u8 g1
  obtain ⟨a2, rfl, e2⟩ := one_u8 g2
  obtain ⟨a3, rfl, e3⟩ := one_u8 g3
  obtain ⟨a4, rfl, e4⟩ := one_u8 g4
  simp only [Prod.mk.injEq, List.flatMap_cons, List.flatMap_nil, e0, e1, e2, e3, e4, List.append_nil] at hx
  exact ⟨⟨a0, a1, a2, a3, a4⟩, rfl, hx.2⟩
end Go.Proofs.YtcllcpjdoaeaiaaDoorRRR
