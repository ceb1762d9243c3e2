/-
  Arguments opened: asks.
-/
import Derived.Test.YtjmjimbhoncidaaDoorDcOpenS
import Derived.Test.YtjmjimbhoncidaaDoorDcEx4
namespace Go.Proofs.YtjmjimbhoncidaaDoor
open Go.ChangeShapes Go.WideShapes Go.ChangeAt Go.RowKit Go.Deep

theorem cellsAsk : Tryd.prog.cellsOf 94 = 11 := by kernel_rfl
theorem bytesAsk : Tryd.prog.bytesOf 94 = 104 := by kernel_rfl
theorem eleven {α : Type} {l : List α} (h : l.length = 11) : ∃ c0 c1 c2 c3 c4 c5 c6 c7 c8 c9 c10, l = [c0, c1, c2, c3, c4, c5, c6, c7, c8, c9, c10] := by
  match l, h with
  | [c0, c1, c2, c3, c4, c5, c6, c7, c8, c9, c10], _ => exact ⟨c0, c1, c2, c3, c4, c5, c6, c7, c8, c9, c10, rfl⟩
theorem seven {α : Type} {l : List α} (h : l.length = 7) : ∃ c0 c1 c2 c3 c4 c5 c6, l = [c0, c1, c2, c3, c4, c5, c6] := by
  match l, h with
  | [c0, c1, c2, c3, c4, c5, c6], _ => exact ⟨c0, c1, c2, c3, c4, c5, c6, rfl⟩
section
variable {H : Type} {enc : TypeId × Value → H} {W : World} {base : Nat} {spare : Nat → Bool} {held : Bool}
set_option maxRecDepth 100000 in
set_option maxHeartbeats 1000000 in
theorem in_cond {n : Nat} {c0 c1 c2 : Value} {x : DataW H × List MemPlace} (h : DataW.trod enc Tryd.prog W base spare held n 23 [c0, c1, c2] = some x) : ∃ (e : Bool) (a b : Int), c0 = .bool e ∧ c1 = .int .i64 a ∧ c2 = .int .i64 b := by
  obtain ⟨xs, m, _, _, _, hlen, hfl⟩ := DataW.trod_struct Tryd.underlying23 h
  obtain ⟨x0, x1, x2, rfl⟩ := three (l := xs) hlen
  have g0 : DataW.trod enc Tryd.prog W base spare held m 4 [c0] = some x0 := by simpa [cellsBool] using hfl 0 _ rfl
  have g1 : DataW.trod enc Tryd.prog W base spare held m 3 [c1] = some x1 := by simpa [cellsInt] using hfl 1 _ rfl
  have g2 : DataW.trod enc Tryd.prog W base spare held m 3 [c2] = some x2 := by simpa [cellsInt] using hfl 2 _ rfl
  obtain ⟨k0, rfl, _⟩ := one_bool g0
  obtain ⟨k1, rfl, _⟩ := one_int g1
  obtain ⟨k2, rfl, _⟩ := one_int g2
  exact ⟨k0, k1, k2, rfl, rfl, rfl⟩
set_option maxRecDepth 100000 in
set_option maxHeartbeats 1000000 in
theorem in_want {n : Nat} {c0 c1 : Value} {x : DataW H × List MemPlace} (h : DataW.trod enc Tryd.prog W base spare held n 50 [c0, c1] = some x) : ∃ (a b : Int), c0 = .int .i64 a ∧ c1 = .int .i64 b := by
  obtain ⟨xs, m, _, _, _, hlen, hfl⟩ := DataW.trod_struct Tryd.underlying50 h
  obtain ⟨x0, x1, rfl⟩ := two (l := xs) hlen
  have g0 : DataW.trod enc Tryd.prog W base spare held m 3 [c0] = some x0 := by simpa [cellsInt] using hfl 0 _ rfl
  have g1 : DataW.trod enc Tryd.prog W base spare held m 3 [c1] = some x1 := by simpa [cellsInt] using hfl 1 _ rfl
  obtain ⟨k0, rfl, _⟩ := one_int g0
  obtain ⟨k1, rfl, _⟩ := one_int g1
  exact ⟨k0, k1, rfl, rfl⟩
set_option maxRecDepth 100000 in
set_option maxHeartbeats 1000000 in
theorem in_kept {n : Nat} {c0 c1 : Value} {x : DataW H × List MemPlace} (h : DataW.trod enc Tryd.prog W base spare held n 59 [c0, c1] = some x) : ∃ (a : Bool) (b : ByteArray), c0 = .bool a ∧ c1 = .string b := by
  obtain ⟨xs, m, _, _, _, hlen, hfl⟩ := DataW.trod_struct Tryd.underlying59 h
  obtain ⟨x0, x1, rfl⟩ := two (l := xs) hlen
  have g0 : DataW.trod enc Tryd.prog W base spare held m 4 [c0] = some x0 := by simpa [cellsBool] using hfl 0 _ rfl
  have g1 : DataW.trod enc Tryd.prog W base spare held m 9 [c1] = some x1 := by simpa [cellsString] using hfl 1 _ rfl
  obtain ⟨k0, rfl, _⟩ := one_bool g0
  obtain ⟨k1, rfl, _⟩ := one_string g1
  exact ⟨k0, k1, rfl, rfl⟩
def AskAt (W : World) (b o : Nat) (x : AskV) : Prop := b < W.heap.size ∧ W.cell? ⟨b, o, none⟩ = some (.int .i64 x.kd) ∧ W.cell? ⟨b, o + 1, none⟩ = some (.bool x.e) ∧ W.cell? ⟨b, o + 2, none⟩ = some (.int .i64 x.a) ∧ W.cell? ⟨b, o + 3, none⟩ = some (.int .i64 x.p) ∧ W.cell? ⟨b, o + 4, none⟩ = some (.int .i64 x.st) ∧ W.cell? ⟨b, o + 5, none⟩ = some (.int .i64 x.lf) ∧ W.cell? ⟨b, o + 6, none⟩ = some (.bool x.d) ∧ W.cell? ⟨b, o + 7, none⟩ = some (.string x.c) ∧ W.cell? ⟨b, o + 8, none⟩ = some (.int .i64 x.n) ∧ W.cell? ⟨b, o + 9, none⟩ = some (.bool x.on) ∧ W.cell? ⟨b, o + 10, none⟩ = some (.string x.s)
set_option maxRecDepth 100000 in
set_option maxHeartbeats 1000000 in
theorem open_ask {n : Nat} {cs : List Value} {x : DataW H × List MemPlace} {b o : Nat} (h : DataW.trod enc Tryd.prog W base spare held n 94 cs = some x) (hc : ∀ j v, cs[j]? = some v → W.cell? ⟨b, o + j, none⟩ = some v) : ∃ y : AskV, AskAt W b o y := by
  obtain ⟨xs, m, _, _, hcl, hlen, hfl⟩ := DataW.trod_struct Tryd.underlying94 h
  obtain ⟨c0, c1, c2, c3, c4, c5, c6, c7, c8, c9, c10, rfl⟩ := eleven (l := cs) (by rw [hcl, cellsAsk])
  obtain ⟨x0, x1, x2, x3, x4, x5, x6, rfl⟩ := seven (l := xs) hlen
  have g0 : DataW.trod enc Tryd.prog W base spare held m 3 [c0] = some x0 := by simpa [cellsInt] using hfl 0 _ rfl
  have g1 : DataW.trod enc Tryd.prog W base spare held m 23 [c1, c2, c3] = some x1 := by simpa [cellsCond] using hfl 1 _ rfl
  have g2 : DataW.trod enc Tryd.prog W base spare held m 50 [c4, c5] = some x2 := by simpa [cellsWant] using hfl 2 _ rfl
  have g3 : DataW.trod enc Tryd.prog W base spare held m 59 [c6, c7] = some x3 := by simpa [cellsKept] using hfl 3 _ rfl
  have g4 : DataW.trod enc Tryd.prog W base spare held m 3 [c8] = some x4 := by simpa [cellsInt] using hfl 4 _ rfl
  have g5 : DataW.trod enc Tryd.prog W base spare held m 4 [c9] = some x5 := by simpa [cellsBool] using hfl 5 _ rfl
  have g6 : DataW.trod enc Tryd.prog W base spare held m 9 [c10] = some x6 := by simpa [cellsString] using hfl 6 _ rfl
  obtain ⟨kd, rfl, _⟩ := one_int g0
  obtain ⟨e, a, p, rfl, rfl, rfl⟩ := in_cond g1
  obtain ⟨st, lf, rfl, rfl⟩ := in_want g2
  obtain ⟨d, c, rfl, rfl⟩ := in_kept g3
  obtain ⟨n', rfl, _⟩ := one_int g4
  obtain ⟨on, rfl, _⟩ := one_bool g5
  obtain ⟨s, rfl, _⟩ := one_string g6
  exact ⟨⟨kd, e, a, p, st, lf, d, c, n', on, s⟩, cell_lt (hc 0 _ rfl), hc 0 _ rfl, hc 1 _ rfl, hc 2 _ rfl, hc 3 _ rfl, hc 4 _ rfl, hc 5 _ rfl, hc 6 _ rfl, hc 7 _ rfl, hc 8 _ rfl, hc 9 _ rfl, hc 10 _ rfl⟩
set_option maxRecDepth 100000 in
set_option maxHeartbeats 1000000 in
theorem open_asks {n : Nat} {cs : List Value} {x : DataW H × List MemPlace} (h : DataW.trod enc Tryd.prog W base spare held n 91 cs = some x) :
    ∃ ao cap xs, cs = [.slice ao xs.length cap] ∧ Asks W ao xs ∧ (xs.length = 0 ∨ ∃ el sp, x.1 = .slice el sp ∧ el.length = xs.length) := by
  rcases open_slice Tryd.underlying91 h with ⟨rfl, _⟩ | ⟨a, len, cap, m, n', D, Pl, rfl, _, hl, hm, hmm, hxx, hx⟩
  · exact ⟨none, 0, [], rfl, fun k x hk => (by simp at hk), Or.inl rfl⟩
  · have hlm : len ≤ m := by rw [hmm]; split <;> omega
    have key : ∀ k, k < len → ∃ y : AskV, ∃ b off, a = ⟨b, off, none⟩ ∧ AskAt W b (off + k * 11) y := by
      have hsp : 0 < len → a.spot = none := fun h0 => by
        obtain ⟨cs', h1, _⟩ := hx 0 (by omega)
        rw [Nat.zero_mul] at h1
        obtain ⟨b, o, e, _⟩ := cells_at h1 (by rw [cellsAsk]; decide)
        have : a.add 0 = a := rfl
        rw [this] at e; rw [e]
      intro k hk
      obtain ⟨b, off, sp⟩ := a
      obtain rfl : sp = none := hsp (by omega)
      obtain ⟨cs', h1, h2⟩ := hx k (by omega)
      rw [cellsAsk] at h1
      obtain ⟨b', o', e, hc⟩ := cells_at h1 (by decide)
      rw [Addr.add_lit] at e
      obtain ⟨rfl, rfl⟩ : b = b' ∧ off + k * 11 = o' := by simpa using e
      obtain ⟨y, hy⟩ := open_ask h2 hc
      exact ⟨y, b, off, rfl, hy⟩
    haveI : Inhabited AskV := ⟨⟨0, false, 0, 0, 0, 0, false, ⟨#[]⟩, 0, false, ⟨#[]⟩⟩⟩
    obtain ⟨Y, hY⟩ := choose_lt (α := AskV) (p := fun k y => ∃ b off, a = ⟨b, off, none⟩ ∧ AskAt W b (off + k * 11) y) key
    refine ⟨some a, cap, (List.range len).map Y, by simp, fun k x hk => ?_, Or.inr ⟨_, _, by rw [hxx], by simp⟩⟩
    simp only [List.getElem?_map, Option.map_eq_some_iff] at hk
    obtain ⟨i, hi, rfl⟩ := hk
    obtain ⟨hi1, hi2⟩ := List.getElem?_eq_some_iff.1 hi
    simp at hi1 hi2
    subst hi2
    obtain ⟨b, off, e, ho⟩ := hY k hi1
    exact ⟨b, off, by rw [e], ho⟩
end
end Go.Proofs.YtjmjimbhoncidaaDoor
