/-
  What the listed package-level variables give: the words, the table of codes.
-/
import Derived.Test.YtjmjimbhoncidaaDoorDcOpen
import Derived.Test.YtjmjimbhoncidaaDoorDcVar
import Derived.LaidMore
namespace Go.Proofs.YtjmjimbhoncidaaDoor
open Go.ChangeShapes Go.WideShapes Go.ChangeAt Go.RowKit

theorem gWords : Tryd.prog.globalNamed "courier/decide.words" = some 0 := by kernel_rfl
theorem tWords : (Tryd.prog.globals[0]?).map (·.type) = some 106 := by kernel_rfl
theorem gCodes : Tryd.prog.globalNamed "courier/decide.codes" = some 1 := by kernel_rfl
theorem tCodes : (Tryd.prog.globals[1]?).map (·.type) = some 137 := by kernel_rfl
theorem cellsWords : Tryd.prog.cellsOf 106 = 4 := by kernel_rfl
theorem cellsCodes : Tryd.prog.cellsOf 137 = 18 := by kernel_rfl
theorem cellsRule : Tryd.prog.cellsOf 136 = 3 := by kernel_rfl
theorem cellsStr' : Tryd.prog.cellsOf 9 = 1 := by kernel_rfl
theorem cellsInt' : Tryd.prog.cellsOf 3 = 1 := by kernel_rfl
theorem cellsBool' : Tryd.prog.cellsOf 4 = 1 := by kernel_rfl
theorem str_of {s : ByteArray} {l : List UInt8} (h : s.data.toList = l) : s = ⟨l.toArray⟩ := by
  obtain ⟨⟨d⟩⟩ := s; simp at h; subst h; rfl
theorem threeL {α : Type} {l : List α} (h : l.length = 3) : ∃ a b c, l = [a, b, c] := by
  match l, h with
  | [a, b, c], _ => exact ⟨a, b, c, rfl⟩
theorem oneL {α : Type} {l : List α} (h : l.length = 1) : ∃ a, l = [a] := by
  match l, h with
  | [a], _ => exact ⟨a, rfl⟩
theorem laid_tail {P : Program} {W : World} {x : String × DataW Unit} {r : List (String × DataW Unit)} (h : laidMet P (x :: r) W) : laidMet P r W := by
  obtain ⟨ps, ⟨g, t, cs, fuel, p, q, hg, ht, hv, hd, hr, rfl⟩, hnd, hall⟩ := h
  exact ⟨q, hr, (List.nodup_append.1 hnd).2.1, fun b off hm => hall b off (List.mem_append_right _ hm)⟩
set_option maxRecDepth 100000 in
set_option maxHeartbeats 1000000 in
theorem rule_of {H : Type} {enc : TypeId × Value → H} {W : World} {base : Nat} {spare : Nat → Bool} {held : Bool} {m : Nat} {cs : List Value} {x : DataW H × List MemPlace} {b : List UInt8} {k : Bool} {n : Int}
    (h : DataW.trod enc Tryd.prog W base spare held m 136 cs = some x) (hx : x.1 = .agg [.lit (.string b), .lit (.bool k), .lit (.int .i64 n)]) : cs = [.string ⟨b.toArray⟩, .bool k, .int .i64 n] := by
  obtain ⟨xs, m2, _, hy, hl, hlen, hf⟩ := DataW.trod_struct Tryd.underlying136 h
  rw [cellsRule] at hl
  obtain ⟨c0, c1, c2, rfl⟩ := threeL hl
  obtain ⟨z0, z1, z2, rfl⟩ := threeL (l := xs) hlen
  have f0 : DataW.trod enc Tryd.prog W base spare held m2 9 [c0] = some z0 := by simpa [cellsStr'] using hf 0 _ rfl
  have f1 : DataW.trod enc Tryd.prog W base spare held m2 4 [c1] = some z1 := by simpa [cellsBool'] using hf 1 _ rfl
  have f2 : DataW.trod enc Tryd.prog W base spare held m2 3 [c2] = some z2 := by simpa [cellsInt'] using hf 2 _ rfl
  obtain ⟨s0, e0, h0, _⟩ := DataW.trod_string Tryd.underlying9 f0
  obtain ⟨k1, e1, h1⟩ := DataW.trod_bool Tryd.underlying4 f1
  obtain ⟨k2, e2, h2, _⟩ := DataW.trod_int Tryd.underlying3 f2
  simp only [List.cons.injEq, and_true] at e0 e1 e2
  subst e0 e1 e2
  rw [hy, h0, h1, h2] at hx
  simp only [List.map_cons, List.map_nil, DataW.agg.injEq, List.cons.injEq, DataW.lit.injEq, Lit.string.injEq, Lit.bool.injEq, Lit.int.injEq, and_true, true_and] at hx
  obtain ⟨a0, a1, a2⟩ := hx
  rw [str_of a0, a1, a2]
theorem word_of {H : Type} {enc : TypeId × Value → H} {W : World} {base : Nat} {spare : Nat → Bool} {held : Bool} {m : Nat} {cs : List Value} {x : DataW H × List MemPlace} {b : List UInt8}
    (h : DataW.trod enc Tryd.prog W base spare held m 9 cs = some x) (hx : x.1 = .lit (.string b)) : cs = [.string ⟨b.toArray⟩] := by
  obtain ⟨s0, e0, h0, _⟩ := DataW.trod_string Tryd.underlying9 h
  rw [h0] at hx
  simp only [DataW.lit.injEq, Lit.string.injEq] at hx
  rw [e0, str_of hx]
theorem chunk3 {l n : List Value} {j : Nat} (h : (l.drop (j / 3 * 3)).take 3 = (n.drop (j / 3 * 3)).take 3) : l[j]? = n[j]? := by
  have h1 := congrArg (fun q => q[j % 3]?) h
  simp only [List.getElem?_take, List.getElem?_drop] at h1
  rw [if_pos (by omega), if_pos (by omega), show j / 3 * 3 + j % 3 = j by omega] at h1
  exact h1
theorem chunk1 {l n : List Value} {j : Nat} (h : (l.drop (j * 1)).take 1 = (n.drop (j * 1)).take 1) : l[j]? = n[j]? := by
  have h1 := congrArg (fun q => q[0]?) h
  simp only [List.getElem?_take, List.getElem?_drop] at h1
  rw [if_pos (by omega), if_pos (by omega), show j * 1 + 0 = j by omega] at h1
  exact h1
set_option maxRecDepth 100000 in
set_option maxHeartbeats 1000000 in
theorem codes_of {W : World} {rest : List (String × DataW Unit)} (h : laidMet Tryd.prog (("courier/decide.codes", Rows.laid_courier_decide_codes) :: rest) W) : PVc W := by
  obtain ⟨ps, ⟨g', t', cs, fuel, p, q, hg', ht', hvar, hd, _, _⟩, _⟩ := h
  obtain rfl := Option.some.inj (gCodes.symm.trans hg')
  obtain rfl := Option.some.inj (tCodes.symm.trans ht')
  obtain ⟨xs, m, _, hx, hl, hlen, hfl⟩ := DataW.trod_array Tryd.underlying137 hd
  rw [cellsCodes] at hl
  rw [cellsRule] at hfl
  have hx1 := congrArg Prod.fst hx
  simp only [Rows.laid_courier_decide_codes, DataW.agg.injEq] at hx1
  have el : ∀ i y, i < 6 → xs[i]? = some y → (xs.map (·.1))[i]? = some y.1 := fun i y _ hy => by rw [List.getElem?_map, hy]; rfl
  have ch : ∀ i, i < 6 → (cs.toList.drop (i * 3)).take 3 = (CV.drop (i * 3)).take 3 := fun i hi => by
    have gi := hfl i hi
    obtain ⟨y, hy⟩ : ∃ y, xs[i]? = some y := ⟨_, List.getElem?_eq_getElem (by omega)⟩
    rw [hy] at gi
    have ey := el i y hi hy
    rw [← hx1] at ey
    rcases (by omega : i = 0 ∨ i = 1 ∨ i = 2 ∨ i = 3 ∨ i = 4 ∨ i = 5) with rfl | rfl | rfl | rfl | rfl | rfl
    · exact (rule_of (b := [67, 65]) (k := true) (n := 3) gi (by simpa using ey.symm)).trans rfl
    · exact (rule_of (b := [67, 69]) (k := true) (n := 2) gi (by simpa using ey.symm)).trans rfl
    · exact (rule_of (b := [67, 82]) (k := true) (n := 2) gi (by simpa using ey.symm)).trans rfl
    · exact (rule_of (b := [65, 65]) (k := false) (n := 3) gi (by simpa using ey.symm)).trans rfl
    · exact (rule_of (b := [65, 69]) (k := false) (n := 2) gi (by simpa using ey.symm)).trans rfl
    · exact (rule_of (b := [65, 82]) (k := false) (n := 2) gi (by simpa using ey.symm)).trans rfl
  intro j u hu
  have hj : j < 18 := by
    rcases Nat.lt_or_ge j 18 with g | g
    · exact g
    · rw [List.getElem?_eq_none (by exact g)] at hu; cases hu
  have k := World.var?_cell gCodes hvar j
  have e := chunk3 (ch (j / 3) (by omega))
  rw [← Array.getElem?_toList, e, hu] at k
  simpa using k
set_option maxRecDepth 100000 in
set_option maxHeartbeats 1000000 in
theorem words_of {W : World} {rest : List (String × DataW Unit)} (h : laidMet Tryd.prog (("courier/decide.words", Rows.laid_courier_decide_words) :: rest) W) : PVw W := by
  obtain ⟨ps, ⟨g', t', cs, fuel, p, q, hg', ht', hvar, hd, _, _⟩, _⟩ := h
  obtain rfl := Option.some.inj (gWords.symm.trans hg')
  obtain rfl := Option.some.inj (tWords.symm.trans ht')
  obtain ⟨xs, m, _, hx, hl, hlen, hfl⟩ := DataW.trod_array Tryd.underlying106 hd
  rw [cellsWords] at hl
  rw [cellsStr'] at hfl
  have hx1 := congrArg Prod.fst hx
  simp only [Rows.laid_courier_decide_words, DataW.agg.injEq] at hx1
  have el : ∀ i y, i < 4 → xs[i]? = some y → (xs.map (·.1))[i]? = some y.1 := fun i y _ hy => by rw [List.getElem?_map, hy]; rfl
  have ch : ∀ i, i < 4 → (cs.toList.drop (i * 1)).take 1 = (WV.drop (i * 1)).take 1 := fun i hi => by
    have gi := hfl i hi
    obtain ⟨y, hy⟩ : ∃ y, xs[i]? = some y := ⟨_, List.getElem?_eq_getElem (by omega)⟩
    rw [hy] at gi
    have ey := el i y hi hy
    rw [← hx1] at ey
    rcases (by omega : i = 0 ∨ i = 1 ∨ i = 2 ∨ i = 3) with rfl | rfl | rfl | rfl
    · exact (word_of (b := [78, 69]) gi (by simpa using ey.symm)).trans rfl
    · exact (word_of (b := [65, 76]) gi (by simpa using ey.symm)).trans rfl
    · exact (word_of (b := [69, 82]) gi (by simpa using ey.symm)).trans rfl
    · exact (word_of (b := [83, 85]) gi (by simpa using ey.symm)).trans rfl
  intro j u hu
  have hj : j < 4 := by
    rcases Nat.lt_or_ge j 4 with g | g
    · exact g
    · rw [List.getElem?_eq_none (by exact g)] at hu; cases hu
  have k := World.var?_cell gWords hvar j
  have e := chunk1 (ch j hj)
  rw [← Array.getElem?_toList, e, hu] at k
  simpa using k
end Go.Proofs.YtjmjimbhoncidaaDoor
