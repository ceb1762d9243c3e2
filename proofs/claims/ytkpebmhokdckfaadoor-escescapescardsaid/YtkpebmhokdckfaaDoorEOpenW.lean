/-
  Arguments opened: five marks, a string; what the listed package-level variables give: the words.
-/
import Derived.Test.YtkpebmhokdckfaaDoorCards
import Derived.Test.YtkpebmhokdckfaaDoorTie
import Derived.Test.YtkpebmhokdckfaaDoorEsBody
import Derived.ProofKit
import Derived.OpenShut
import Derived.ChangeSame
import Derived.Deep.DeepHandedRow
import Derived.Lib.LaidTab
import Derived.LaidMore
import Derived.ChangeMaps5
namespace Go.Proofs.YtkpebmhokdckfaaDoor
open Go.ChangeShapes Go.WideShapes Go.ChangeAt Go.RowKit

theorem own : ownKnob Tryd.prog.godebug = none := by kernel_rfl
theorem typesSize : Tryd.prog.types.size = 111 := by kernel_rfl
theorem gWords : Tryd.prog.globalNamed "courier/esc.words" = some 0 := by kernel_rfl
theorem tWords : (Tryd.prog.globals[0]?).map (·.type) = some 72 := by kernel_rfl
theorem cellsWords : Tryd.prog.cellsOf 72 = 48 := by kernel_rfl
theorem cellsWord : Tryd.prog.cellsOf 71 = 4 := by kernel_rfl
theorem cellsPiece : Tryd.prog.cellsOf 53 = 3 := by kernel_rfl
theorem cellsString : Tryd.prog.cellsOf 9 = 1 := by kernel_rfl
theorem cellsInt : Tryd.prog.cellsOf 3 = 1 := by kernel_rfl
theorem cellsU8 : Tryd.prog.cellsOf 5 = 1 := by kernel_rfl
theorem cellsMarks : Tryd.prog.cellsOf 23 = 5 := by kernel_rfl
theorem laidMet_tail {P : Program} {W : World} {x : String × DataW Unit} {r : List (String × DataW Unit)} (h : laidMet P (x :: r) W) : laidMet P r W := by
  obtain ⟨ps, ⟨g, t, cs, fuel, p, q, hg, ht, hv, hd, hr, rfl⟩, hnd, hall⟩ := h
  exact ⟨q, hr, (List.nodup_append.1 hnd).2.1, fun b off hm => hall b off (List.mem_append_right _ hm)⟩
theorem three {α : Type} {l : List α} (h : l.length = 3) : ∃ a b c, l = [a, b, c] := by
  match l, h with
  | [a, b, c], _ => exact ⟨a, b, c, rfl⟩
theorem four {α : Type} {l : List α} (h : l.length = 4) : ∃ a b c d, l = [a, b, c, d] := by
  match l, h with
  | [a, b, c, d], _ => exact ⟨a, b, c, d, rfl⟩
theorem five {α : Type} {l : List α} (h : l.length = 5) : ∃ a b c d e, l = [a, b, c, d, e] := by
  match l, h with
  | [a, b, c, d, e], _ => exact ⟨a, b, c, d, e, rfl⟩
theorem str_of {s : ByteArray} {l : List UInt8} (h : s.data.toList = l) : s = ⟨l.toArray⟩ := by
  obtain ⟨⟨d⟩⟩ := s; simp at h; subst h; rfl
set_option maxRecDepth 100000 in
set_option maxHeartbeats 1000000 in
theorem word_of {H : Type} {enc : TypeId × Value → H} {W : World} {base : Nat} {spare : Nat → Bool} {held : Bool} {m : Nat} {cs : List Value} {x : DataW H × List MemPlace} {b t : List UInt8} {k n : Int}
    (h : DataW.trod enc Tryd.prog W base spare held m 71 cs = some x) (hx : x.1 = .agg [.lit (.string b), .agg [.lit (.int .i64 k), .lit (.string t), .lit (.int .i64 n)]]) :
    cs = [.string ⟨b.toArray⟩, .int .i64 k, .string ⟨t.toArray⟩, .int .i64 n] := by
  obtain ⟨y0, y1, m1, hx1, hl, g0, g1⟩ := trod_struct2 Tryd.underlying71 h
  rw [cellsWord] at hl
  obtain ⟨c0, c1, c2, c3, rfl⟩ := four hl
  have g0' : DataW.trod enc Tryd.prog W base spare held m1 9 [c0] = some y0 := by simpa [cellsString] using g0
  have g1' : DataW.trod enc Tryd.prog W base spare held m1 53 [c1, c2, c3] = some y1 := by simpa [cellsPiece] using g1
  obtain ⟨xs, m2, _, hy, _, hlen, hf⟩ := DataW.trod_struct Tryd.underlying53 g1'
  obtain ⟨z0, z1, z2, rfl⟩ := three (l := xs) hlen
  have f0 : DataW.trod enc Tryd.prog W base spare held m2 3 [c1] = some z0 := by simpa [cellsInt] using hf 0 _ rfl
  have f1 : DataW.trod enc Tryd.prog W base spare held m2 9 [c2] = some z1 := by simpa [cellsString] using hf 1 _ rfl
  have f2 : DataW.trod enc Tryd.prog W base spare held m2 3 [c3] = some z2 := by simpa [cellsInt] using hf 2 _ rfl
  obtain ⟨s0, e0, h0, _⟩ := DataW.trod_string Tryd.underlying9 g0'
  obtain ⟨k1, e1, h1, _⟩ := DataW.trod_int Tryd.underlying3 f0
  obtain ⟨s2, e2, h2, _⟩ := DataW.trod_string Tryd.underlying9 f1
  obtain ⟨k3, e3, h3, _⟩ := DataW.trod_int Tryd.underlying3 f2
  simp only [List.cons.injEq, and_true] at e0 e1 e2 e3
  subst e0 e1 e2 e3
  rw [hx1, hy, h0, h1, h2, h3] at hx
  simp only [List.map_cons, List.map_nil, DataW.agg.injEq, List.cons.injEq, DataW.lit.injEq, Lit.string.injEq, Lit.int.injEq, and_true, true_and] at hx
  obtain ⟨a0, a1, a2, a3⟩ := hx
  rw [str_of a0, a1, str_of a2, a3]
theorem chunk_get {l n : List Value} {j : Nat} (h : (l.drop (j / 4 * 4)).take 4 = (n.drop (j / 4 * 4)).take 4) : l[j]? = n[j]? := by
  have h1 := congrArg (fun q => q[j % 4]?) h
  simp only [List.getElem?_take, List.getElem?_drop] at h1
  rw [if_pos (by omega), if_pos (by omega), show j / 4 * 4 + j % 4 = j by omega] at h1
  exact h1
set_option maxRecDepth 100000 in
set_option maxHeartbeats 1000000 in
theorem words_of {W : World} {rest : List (String × DataW Unit)} (h : laidMet Tryd.prog (("courier/esc.words", Rows.laid_courier_esc_words) :: rest) W) : Words W := by
  obtain ⟨ps, ⟨g', t', cs, fuel, p, q, hg', ht', hvar, hd, _, _⟩, _⟩ := h
  obtain rfl := Option.some.inj (gWords.symm.trans hg')
  obtain rfl := Option.some.inj (tWords.symm.trans ht')
  obtain ⟨xs, m, _, hx, hl, hlen, hfl⟩ := DataW.trod_array Tryd.underlying72 hd
  rw [cellsWords] at hl
  rw [cellsWord] at hfl
  have hx1 := congrArg Prod.fst hx
  simp only [Rows.laid_courier_esc_words, DataW.agg.injEq] at hx1
  have el : ∀ i y, i < 12 → xs[i]? = some y → (xs.map (·.1))[i]? = some y.1 := fun i y _ hy => by rw [List.getElem?_map, hy]; rfl
  have ch : ∀ i, i < 12 → (cs.toList.drop (i * 4)).take 4 = (WL.drop (i * 4)).take 4 := fun i hi => by
    have gi := hfl i hi
    obtain ⟨y, hy⟩ : ∃ y, xs[i]? = some y := ⟨_, List.getElem?_eq_getElem (by omega)⟩
    rw [hy] at gi
    have ey := el i y hi hy
    rw [← hx1] at ey
    rcases (by omega : i = 0 ∨ i = 1 ∨ i = 2 ∨ i = 3 ∨ i = 4 ∨ i = 5 ∨ i = 6 ∨ i = 7 ∨ i = 8 ∨ i = 9 ∨ i = 10 ∨ i = 11) with rfl | rfl | rfl | rfl | rfl | rfl | rfl | rfl | rfl | rfl | rfl | rfl
    · exact (word_of (b := [70]) (k := 2) (t := [70]) (n := 0) gi (by simpa using ey.symm)).trans rfl
    · exact (word_of (b := [83]) (k := 2) (t := [83]) (n := 0) gi (by simpa using ey.symm)).trans rfl
    · exact (word_of (b := [84]) (k := 2) (t := [84]) (n := 0) gi (by simpa using ey.symm)).trans rfl
    · exact (word_of (b := [82]) (k := 2) (t := [82]) (n := 0) gi (by simpa using ey.symm)).trans rfl
    · exact (word_of (b := [69]) (k := 2) (t := [69]) (n := 0) gi (by simpa using ey.symm)).trans rfl
    · exact (word_of (b := [72]) (k := 4) (t := []) (n := 1) gi (by simpa using ey.symm)).trans rfl
    · exact (word_of (b := [78]) (k := 4) (t := []) (n := 0) gi (by simpa using ey.symm)).trans rfl
    · exact (word_of (b := [46, 98, 114]) (k := 6) (t := [98, 114]) (n := 0) gi (by simpa using ey.symm)).trans rfl
    · exact (word_of (b := [46, 99, 101]) (k := 6) (t := [99, 101]) (n := 0) gi (by simpa using ey.symm)).trans rfl
    · exact (word_of (b := [46, 102, 105]) (k := 6) (t := [102, 105]) (n := 0) gi (by simpa using ey.symm)).trans rfl
    · exact (word_of (b := [46, 110, 102]) (k := 6) (t := [110, 102]) (n := 0) gi (by simpa using ey.symm)).trans rfl
    · exact (word_of (b := [46, 115, 112]) (k := 6) (t := [115, 112]) (n := 0) gi (by simpa using ey.symm)).trans rfl
  intro j u hu
  have hj : j < 48 := by
    rcases Nat.lt_or_ge j 48 with g | g
    · exact g
    · rw [List.getElem?_eq_none (by exact g)] at hu; cases hu
  have k := World.var?_cell gWords hvar j
  have e := chunk_get (ch (j / 4) (by omega))
  rw [← Array.getElem?_toList, e, hu] at k
  simpa using k
theorem one_u8 {H : Type} {enc : TypeId × Value → H} {W : World} {base : Nat} {spare : Nat → Bool} {held : Bool} {n : Nat} {c : Value} {x : DataW H × List MemPlace}
    (h : DataW.trod enc Tryd.prog W base spare held n 5 [c] = some x) : ∃ k : UInt8, c = .int .u8 k.toNat ∧ x.2 = [] := by
  obtain ⟨k, e, hx, hw⟩ := DataW.trod_int Tryd.underlying5 h
  have hb : 0 ≤ k ∧ k ≤ 255 := by
    simp [Lit.wf, IntKind.min, IntKind.max, IntKind.signed, IntKind.bits] at hw
    omega
  refine ⟨k.toNat.toUInt8, ?_, by rw [hx]⟩
  rw [List.head_eq_of_cons_eq e]
  congr 1
  simp [Nat.toUInt8, UInt8.toNat_ofNat']
  omega
set_option maxHeartbeats 1000000 in
set_option maxRecDepth 100000 in
theorem open_marks {H : Type} {enc : TypeId × Value → H} {W : World} {r : Reach} {b0 base : Nat} {spare : Nat → Bool} {held : Bool} {v : Value} {d : DataW H} {p : List MemPlace}
    (hv : Value.okWide Tryd.prog W r b0 23 v) (h : DataW.Trod enc Tryd.prog W base spare held 23 v d p) :
    ∃ m : Mk, v = .agg #[.int .u8 (m.f.toNat : Int), .int .u8 (m.c.toNat : Int), .int .u8 (m.r.toNat : Int), .int .u8 (m.x.toNat : Int), .int .u8 (m.s.toNat : Int)] ∧ p = [] := by
  obtain ⟨cs, rfl, hsz⟩ := okWide_struct Tryd.underlying23 hv
  obtain ⟨l⟩ := cs
  obtain ⟨c0, c1, c2, c3, c4, rfl⟩ := five (l := l) (by simpa [cellsMarks] using hsz)
  obtain ⟨fuel, hf⟩ := h
  obtain ⟨xs, n, _, hx, hl, hlen, hfl⟩ := DataW.trod_struct Tryd.underlying23 hf
  obtain ⟨x0, x1, x2, x3, x4, rfl⟩ := five (l := xs) hlen
  have g0 : DataW.trod enc Tryd.prog W base spare held n 5 [c0] = some x0 := by simpa [Value.cells, cellsU8] using hfl 0 _ rfl
  have g1 : DataW.trod enc Tryd.prog W base spare held n 5 [c1] = some x1 := by simpa [Value.cells, cellsU8] using hfl 1 _ rfl
  have g2 : DataW.trod enc Tryd.prog W base spare held n 5 [c2] = some x2 := by simpa [Value.cells, cellsU8] using hfl 2 _ rfl
  have g3 : DataW.trod enc Tryd.prog W base spare held n 5 [c3] = some x3 := by simpa [Value.cells, cellsU8] using hfl 3 _ rfl
  have g4 : DataW.trod enc Tryd.prog W base spare held n 5 [c4] = some x4 := by simpa [Value.cells, cellsU8] using hfl 4 _ rfl
  obtain ⟨a0, rfl, e0⟩ := one_u8 g0
  obtain ⟨a1, rfl, e1⟩ := one_u8 g1
  obtain ⟨a2, rfl, e2⟩ := one_u8 g2
  obtain ⟨a3, rfl, e3⟩ := one_u8 g3
  obtain ⟨a4, rfl, e4⟩ := one_u8 g4
  simp only [Prod.mk.injEq, List.flatMap_cons, List.flatMap_nil, e0, e1, e2, e3, e4, List.append_nil] at hx
  exact ⟨⟨a0, a1, a2, a3, a4⟩, rfl, hx.2⟩
end Go.Proofs.YtkpebmhokdckfaaDoor
