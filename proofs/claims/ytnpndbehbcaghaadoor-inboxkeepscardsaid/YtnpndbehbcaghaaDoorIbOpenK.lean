/-
  Arguments opened: lists of steps; what the listed table of codes gives.
-/
import Derived.Test.YtnpndbehbcaghaaDoorIbOpen
import Derived.Test.YtnpndbehbcaghaaDoorIbKeepW
import Derived.Test.YtnpndbehbcaghaaDoorCards
import Derived.Test.YtnpndbehbcaghaaDoorTie
namespace Go.Proofs.YtnpndbehbcaghaaDoor
open Go.ChangeShapes Go.WideShapes Go.ChangeAt Go.RowKit Go.Deep

theorem cellsBoolK : Tryd.prog.cellsOf 4 = 1 := by kernel_rfl
theorem cellsStep : Tryd.prog.cellsOf 34 = 10 := by kernel_rfl
theorem tenL {α : Type} {l : List α} (h : l.length = 10) : ∃ c0 c1 c2 c3 c4 c5 c6 c7 c8 c9, l = [c0, c1, c2, c3, c4, c5, c6, c7, c8, c9] := by
  match l, h with
  | [c0, c1, c2, c3, c4, c5, c6, c7, c8, c9], _ => exact ⟨c0, c1, c2, c3, c4, c5, c6, c7, c8, c9, rfl⟩
theorem fourL {α : Type} {l : List α} (h : l.length = 4) : ∃ c0 c1 c2 c3, l = [c0, c1, c2, c3] := by
  match l, h with
  | [c0, c1, c2, c3], _ => exact ⟨c0, c1, c2, c3, rfl⟩
theorem strl_of {s : ByteArray} {l : List UInt8} (h : s.data.toList = l) : s = ⟨l.toArray⟩ := by
  obtain ⟨⟨d⟩⟩ := s; simp at h; subst h; rfl
section
variable {H : Type} {enc : TypeId × Value → H} {W : World} {base : Nat} {spare : Nat → Bool} {held : Bool}
theorem one_bool {n : Nat} {c : Value} {x : DataW H × List MemPlace} (h : DataW.trod enc Tryd.prog W base spare held n 4 [c] = some x) : ∃ k, c = .bool k := by
  obtain ⟨k, e, _⟩ := DataW.trod_bool Tryd.underlying4 h
  exact ⟨k, List.head_eq_of_cons_eq e⟩
set_option maxRecDepth 100000 in
set_option maxHeartbeats 1000000 in
theorem open_step {n : Nat} {cs : List Value} {x : DataW H × List MemPlace} {b o : Nat} (h : DataW.trod enc Tryd.prog W base spare held n 34 cs = some x) (hc : ∀ j v, cs[j]? = some v → W.cell? ⟨b, o + j, none⟩ = some v) :
    ∃ y : Stv, (b < W.heap.size ∧ StAt W b o y) ∧ KeyS y.e.ct := by
  obtain ⟨xs, m, _, hxe, hcl, hlen, hfl⟩ := DataW.trod_struct Tryd.underlying34 h
  obtain ⟨c0, c1, c2, c3, c4, c5, c6, c7, c8, c9, rfl⟩ := tenL (l := cs) (by rw [hcl, cellsStep])
  obtain ⟨x0, x1, x2, x3, rfl⟩ := fourL (l := xs) hlen
  have g0 : DataW.trod enc Tryd.prog W base spare held m 4 [c0] = some x0 := by simpa [cellsBoolK] using hfl 0 _ rfl
  have g1 : DataW.trod enc Tryd.prog W base spare held m 3 [c1] = some x1 := by simpa [cellsBoolK, cellsInt] using hfl 1 _ rfl
  have g2 : DataW.trod enc Tryd.prog W base spare held m 3 [c2] = some x2 := by simpa [cellsBoolK, cellsInt] using hfl 2 _ rfl
  have g3 : DataW.trod enc Tryd.prog W base spare held m 32 [c3, c4, c5, c6, c7, c8, c9] = some x3 := by simpa [cellsBoolK, cellsInt, cellsEnt] using hfl 3 _ rfl
  obtain ⟨de, rfl⟩ := one_bool g0
  obtain ⟨nn, rfl⟩ := one_int g1
  obtain ⟨cd, rfl⟩ := one_int g2
  obtain ⟨e, e3, hL, hk, _⟩ := open_entry g3
  simp only [encE, List.cons.injEq, and_true] at e3
  obtain ⟨rfl, rfl, rfl, rfl, rfl, rfl, rfl⟩ := e3
  refine ⟨⟨de, nn, cd, e⟩, ⟨cell_lt (hc 0 _ rfl), ⟨fun q hq => ?_, hL⟩⟩, hk⟩
  rcases (by omega : q = 0 ∨ q = 1 ∨ q = 2 ∨ q = 3 ∨ q = 4 ∨ q = 5 ∨ q = 6 ∨ q = 7 ∨ q = 8 ∨ q = 9) with rfl | rfl | rfl | rfl | rfl | rfl | rfl | rfl | rfl | rfl <;> exact hc _ _ rfl
set_option maxRecDepth 100000 in
set_option maxHeartbeats 1000000 in
theorem open_steps {n : Nat} {cs : List Value} {x : DataW H × List MemPlace} (h : DataW.trod enc Tryd.prog W base spare held n 22 cs = some x) :
    ∃ ao cap xs, cs = [.slice ao xs.length cap] ∧ Sts W ao xs ∧ ∀ y ∈ xs, KeyS y.e.ct := by
  rcases open_slice Tryd.underlying22 h with ⟨rfl, _⟩ | ⟨a, len, cap, m, n', D, Pl, rfl, _, hl, hm, hmm, hxe, hx⟩
  · exact ⟨none, 0, [], rfl, fun k x hk => (by simp at hk), fun y hy => (by cases hy)⟩
  · have hlm : len ≤ m := by rw [hmm]; split <;> omega
    have key : ∀ k, k < len → ∃ y : Stv, (∃ b off, a = ⟨b, off, none⟩ ∧ b < W.heap.size ∧ StAt W b (off + k * 10) y) ∧ KeyS y.e.ct := by
      have hsp : 0 < len → a.spot = none := fun h0 => by
        obtain ⟨cs', h1, _⟩ := hx 0 (by omega)
        rw [Nat.zero_mul] at h1
        obtain ⟨b, o, e, _⟩ := cells_at h1 (by rw [cellsStep]; decide)
        have : a.add 0 = a := rfl
        rw [this] at e; rw [e]
      intro k hk
      obtain ⟨b, off, sp⟩ := a
      obtain rfl : sp = none := hsp (by omega)
      obtain ⟨cs', h1, h2⟩ := hx k (by omega)
      rw [cellsStep] at h1
      obtain ⟨b', o', e, hc⟩ := cells_at h1 (by decide)
      rw [Addr.add_lit] at e
      obtain ⟨rfl, rfl⟩ : b = b' ∧ off + k * 10 = o' := by simpa using e
      obtain ⟨y, hy, hp⟩ := open_step h2 hc
      exact ⟨y, ⟨b, off, rfl, hy.1, hy.2⟩, hp⟩
    haveI : Inhabited Stv := ⟨⟨false, 0, 0, zE⟩⟩
    obtain ⟨Y, hY⟩ := choose_lt (α := Stv) (p := fun k y => (∃ b off, a = ⟨b, off, none⟩ ∧ b < W.heap.size ∧ StAt W b (off + k * 10) y) ∧ KeyS y.e.ct) key
    refine ⟨some a, cap, (List.range len).map Y, by simp, fun k x hk => ?_, fun y hy => ?_⟩
    · simp only [List.getElem?_map, Option.map_eq_some_iff] at hk
      obtain ⟨i, hi, rfl⟩ := hk
      obtain ⟨hi1, hi2⟩ := List.getElem?_eq_some_iff.1 hi
      simp at hi1 hi2
      subst hi2
      obtain ⟨⟨b, off, e, hb, ho⟩, _⟩ := hY k hi1
      exact ⟨b, off, by rw [e], hb, ho⟩
    · obtain ⟨i, hi, rfl⟩ := List.mem_map.1 hy
      exact (hY i (List.mem_range.1 hi)).2
theorem strT_of {m : Nat} {cs : List Value} {x : DataW H × List MemPlace} {b : List UInt8} (h : DataW.trod enc Tryd.prog W base spare held m 9 cs = some x) (hx : x.1 = .lit (.string b)) : cs = [.string ⟨b.toArray⟩] := by
  obtain ⟨s0, e0, h0, _⟩ := DataW.trod_string Tryd.underlying9 h
  rw [h0] at hx
  simp only [DataW.lit.injEq, Lit.string.injEq] at hx
  rw [e0, strl_of hx]
end
theorem gCodes : Tryd.prog.globalNamed "courier/courierlaw15.codes" = some 0 := by kernel_rfl
theorem tCodes : (Tryd.prog.globals[0]?).map (·.type) = some 43 := by kernel_rfl
set_option maxRecDepth 100000 in
set_option maxHeartbeats 1000000 in
theorem codes_of {W : World} {rest : List (String × DataW Unit)} (h : laidMet Tryd.prog (("courier/courierlaw15.codes", Rows.laid_courier_courierlaw15_codes) :: rest) W) : PVk W := by
  obtain ⟨ps, ⟨g', t', cs, fuel, p, q, hg', ht', hvar, hd, _, _⟩, _⟩ := h
  obtain rfl := Option.some.inj (gCodes.symm.trans hg')
  obtain rfl := Option.some.inj (tCodes.symm.trans ht')
  obtain ⟨xs, m, _, hx, hl, hlen, hfl⟩ := DataW.trod_array Tryd.underlying43 hd
  rw [cellsString] at hfl
  have hx1 := congrArg Prod.fst hx
  simp only [Rows.laid_courier_courierlaw15_codes, DataW.agg.injEq] at hx1
  have ch : ∀ i, i < 3 → cs.toList[i]? = some (.string (cdS i)) := fun i hi => by
    have gi := hfl i hi
    obtain ⟨y, hy⟩ : ∃ y, xs[i]? = some y := ⟨_, List.getElem?_eq_getElem (by omega)⟩
    rw [hy] at gi
    have ey : (xs.map (·.1))[i]? = some y.1 := by rw [List.getElem?_map, hy]; rfl
    rw [← hx1] at ey
    have e9 : ∀ {v : Value}, (cs.toList.drop (i * 1)).take 1 = [v] → cs.toList[i]? = some v := fun {v} h9 => by
      have h8 := congrArg (fun q => q[0]?) h9
      simp only [List.getElem?_take, List.getElem?_drop] at h8
      simpa using h8
    rcases (by omega : i = 0 ∨ i = 1 ∨ i = 2) with rfl | rfl | rfl
    · exact e9 (strT_of (b := [65, 65]) gi (by simpa using ey.symm))
    · exact e9 (strT_of (b := [65, 69]) gi (by simpa using ey.symm))
    · exact e9 (strT_of (b := [65, 82]) gi (by simpa using ey.symm))
  intro j hj
  have k := World.var?_cell gCodes hvar j
  rw [← Array.getElem?_toList, ch j hj] at k
  simpa using k
end Go.Proofs.YtnpndbehbcaghaaDoor
