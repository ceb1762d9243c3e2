/-
  Arguments opened under the second form's bound: byte strings, areas, a list of Ops.
-/
import Derived.Test.YtlgjjemfckmidaaOpenOps2
import Derived.Test.YtlgjjemfckmidaaPrCallsLaw
namespace Go.Proofs.Ytlgjjemfckmidaa
open Go.ChangeShapes Go.WideShapes Go.ChangeAt Go.RowKit Go.Deep

theorem bulk_one {H : Type} (d : DataW H) : 1 ≤ Rows.uptoBulk d := by
  cases d with
  | lit l => cases l <;> simp [Rows.uptoBulk]
  | nil => simp [Rows.uptoBulk]
  | ptr d => simp [Rows.uptoBulk]
  | slice a b => simp [Rows.uptoBulk]
  | agg a => simp [Rows.uptoBulk]
  | iface t d => simp [Rows.uptoBulk]
  | map a => simp [Rows.uptoBulk]
  | held a => simp [Rows.uptoBulk]
theorem bulk_mem {H : Type} : ∀ {l : List (DataW H)} {d : DataW H}, d ∈ l → Rows.uptoBulk d ≤ Rows.uptoBulkAll l
  | x :: r, d, h => by
    simp only [Rows.uptoBulkAll]
    rcases List.mem_cons.1 h with rfl | h
    · omega
    · have := bulk_mem h; omega
theorem bulk_len {H : Type} : ∀ (l : List (DataW H)), l.length ≤ Rows.uptoBulkAll l
  | [] => by simp [Rows.uptoBulkAll]
  | x :: r => by have h1 := bulk_one x; have h2 := bulk_len r; simp only [Rows.uptoBulkAll, List.length_cons]; omega
section
variable {H : Type} {enc : TypeId × Value → H} {W : World} {base : Nat} {spare : Nat → Bool} {held : Bool}
theorem int_range {n : Nat} {k : Int} {x : DataW H × List MemPlace} (h : DataW.trod enc Try.prog W base spare held n 3 [.int .i64 k] = some x) : -9223372036854775808 ≤ k ∧ k ≤ 9223372036854775807 := by
  obtain ⟨k', e, _, hw⟩ := DataW.trod_int Try.underlying3 h
  have e' : k = k' := by simpa using List.head_eq_of_cons_eq e
  subst e'
  simp [Lit.wf, IntKind.min, IntKind.max, IntKind.signed, IntKind.bits] at hw
  omega
theorem bytes_bulk {pl : Nat} {x : DataW H × List MemPlace} (hw : pl = 0 ∨ ∃ el sp, x.1 = .slice el sp ∧ el.length = pl) : pl ≤ Rows.uptoBulk x.1 := by
  rcases hw with rfl | ⟨el, sp, e, rfl⟩
  · exact Nat.zero_le _
  · rw [e]
    have := bulk_len el
    simp only [Rows.uptoBulk]
    omega
theorem open_op3 {n : Nat} {cs : List Value} {x : DataW H × List MemPlace} {b o : Nat} (h : DataW.trod enc Try.prog W base spare held n 34 cs = some x) (hc : ∀ j v, cs[j]? = some v → W.cell? ⟨b, o + j, none⟩ = some v) (hx : Rows.uptoBulk x.1 ≤ 1048576) :
    ∃ y : Opv, OpAt W b o y ∧ OpFit y := by
  obtain ⟨xs, m, _, hxe, hcl, hlen, hfl⟩ := DataW.trod_struct Try.underlying34 h
  obtain ⟨c0, c1, c2, c3, c4, c5, c6, c7, c8, rfl⟩ := nine (l := cs) (by rw [hcl, cellsOp])
  obtain ⟨x0, x1, x2, x3, x4, x5, rfl⟩ := six (l := xs) hlen
  have g0 : DataW.trod enc Try.prog W base spare held m 3 [c0] = some x0 := by simpa [cellsInt] using hfl 0 _ rfl
  have g1 : DataW.trod enc Try.prog W base spare held m 3 [c1] = some x1 := by simpa [cellsInt] using hfl 1 _ rfl
  have g2 : DataW.trod enc Try.prog W base spare held m 3 [c2] = some x2 := by simpa [cellsInt] using hfl 2 _ rfl
  have g3 : DataW.trod enc Try.prog W base spare held m 3 [c3] = some x3 := by simpa [cellsInt] using hfl 3 _ rfl
  have g4 : DataW.trod enc Try.prog W base spare held m 25 [c4] = some x4 := by simpa [cellsBytes] using hfl 4 _ rfl
  have g5 : DataW.trod enc Try.prog W base spare held m 32 [c5, c6, c7, c8] = some x5 := by simpa [cellsTears] using hfl 5 _ rfl
  obtain ⟨kd, rfl⟩ := one_int g0
  obtain ⟨ar, rfl⟩ := one_int g1
  obtain ⟨at_, rfl⟩ := one_int g2
  obtain ⟨nn, rfl⟩ := one_int g3
  obtain ⟨po, pl, pc, bs, e4, hB, hpl, hpc, _, hw4, _⟩ := open_bytes g4
  obtain rfl := List.head_eq_of_cons_eq e4
  obtain ⟨t0, t1, t2, t3, rfl, rfl, rfl, rfl⟩ := open_tears g5
  have hb4 := bytes_bulk hw4
  have hbx : Rows.uptoBulk x4.1 ≤ Rows.uptoBulk x.1 := by
    rw [hxe]
    have := bulk_mem (H := H) (l := [x0, x1, x2, x3, x4, x5].map (·.1)) (d := x4.1) (by simp)
    simp only [Rows.uptoBulk]
    omega
  exact ⟨⟨kd, ar, at_, nn, po, pl, pc, t0, t1, t2, t3, bs⟩, ⟨cell_lt (hc 0 _ rfl), hc 0 _ rfl, hc 1 _ rfl, hc 2 _ rfl, hc 3 _ rfl, hc 4 _ rfl, hc 5 _ rfl, hc 6 _ rfl, hc 7 _ rfl, hc 8 _ rfl, hB⟩, ⟨hpc, by show pl ≤ _; omega, int_range g2, int_range g3⟩⟩
theorem open_ops3 {n : Nat} {cs : List Value} {x : DataW H × List MemPlace} (h : DataW.trod enc Try.prog W base spare held n 22 cs = some x) (hb : Rows.uptoBulk x.1 ≤ 1048576) :
    ∃ ao cap xs, cs = [.slice ao xs.length cap] ∧ Ops W ao xs ∧ xs.length ≤ 1048576 ∧ ∀ y ∈ xs, OpFit y := by
  rcases open_slice Try.underlying22 h with ⟨rfl, _⟩ | ⟨a, len, cap, m, n', D, Pl, rfl, _, hl, hm, hmm, hxe, hx⟩
  · exact ⟨none, 0, [], rfl, fun k x hk => (by simp at hk), Nat.zero_le _, fun y hy => (by cases hy)⟩
  · have hlm : len ≤ m := by rw [hmm]; split <;> omega
    have hDk : ∀ k, k < len → Rows.uptoBulk (D k) ≤ 1048576 ∧ len ≤ 1048576 := by
      intro k hk
      rw [hxe] at hb
      simp only [Rows.uptoBulk] at hb
      have h1 := bulk_mem (H := H) (l := (List.range len).map D) (d := D k) (List.mem_map_of_mem (List.mem_range.2 hk))
      have h2 := bulk_len ((List.range len).map D)
      simp only [List.length_map, List.length_range] at h2
      omega
    have key : ∀ k, k < len → ∃ y : Opv, (∃ b off, a = ⟨b, off, none⟩ ∧ OpAt W b (off + k * 9) y) ∧ OpFit y := by
      have hsp : 0 < len → a.spot = none := fun h0 => by
        obtain ⟨cs', h1, _⟩ := hx 0 (by omega)
        rw [Nat.zero_mul] at h1
        obtain ⟨b, o, e, _⟩ := cells_at h1 (by rw [cellsOp]; decide)
        have : a.add 0 = a := rfl
        rw [this] at e; rw [e]
      intro k hk
      obtain ⟨b, off, sp⟩ := a
      obtain rfl : sp = none := hsp (by omega)
      obtain ⟨cs', h1, h2⟩ := hx k (by omega)
      rw [cellsOp] at h1
      obtain ⟨b', o', e, hc⟩ := cells_at h1 (by decide)
      rw [Addr.add_lit] at e
      obtain ⟨rfl, rfl⟩ : b = b' ∧ off + k * 9 = o' := by simpa using e
      obtain ⟨y, hy, hp⟩ := open_op3 h2 hc (hDk k hk).1
      exact ⟨y, ⟨b, off, rfl, hy⟩, hp⟩
    haveI : Inhabited Opv := ⟨⟨0, 0, 0, 0, none, 0, 0, 0, 0, 0, 0, []⟩⟩
    obtain ⟨Y, hY⟩ := choose_lt (α := Opv) (p := fun k y => (∃ b off, a = ⟨b, off, none⟩ ∧ OpAt W b (off + k * 9) y) ∧ OpFit y) key
    refine ⟨some a, cap, (List.range len).map Y, by simp, fun k x hk => ?_, ?_, fun y hy => ?_⟩
    · simp only [List.getElem?_map, Option.map_eq_some_iff] at hk
      obtain ⟨i, hi, rfl⟩ := hk
      obtain ⟨hi1, hi2⟩ := List.getElem?_eq_some_iff.1 hi
      simp at hi1 hi2
      subst hi2
      obtain ⟨⟨b, off, e, ho⟩, _⟩ := hY k hi1
      exact ⟨b, off, by rw [e], ho⟩
    · simp only [List.length_map, List.length_range]
      rcases Nat.eq_zero_or_pos len with h0 | h0
      · omega
      · exact (hDk 0 h0).2
    · obtain ⟨i, hi, rfl⟩ := List.mem_map.1 hy
      exact (hY i (List.mem_range.1 hi)).2
theorem okWide_arr {P : Program} {w : World} {r : Reach} {b : Nat} {t : TypeId} {v : Value} {n : Nat} {e : TypeId} (ht : P.underlying t = some (.array n e)) (h : Value.okWide P w r b t v) : ∃ cs, v = .agg cs ∧ cs.size = P.cellsOf t := by
  unfold Value.okWide at h
  rw [ht] at h
  obtain ⟨cs, h1, h2, _⟩ := h
  exact ⟨cs, h1, h2⟩
theorem cellsAreas : Try.prog.cellsOf 26 = 2 := by kernel_rfl
theorem open_areas {n : Nat} {cs : List Value} {x : DataW H × List MemPlace} (h : DataW.trod enc Try.prog W base spare held n 26 cs = some x) (hb : Rows.uptoBulk x.1 ≤ 1048576) :
    ∃ p0 m0 c0 bs0 p1 m1 c1 bs1, cs = [.slice p0 m0 c0, .slice p1 m1 c1] ∧ Byts W p0 m0 bs0 ∧ Byts W p1 m1 bs1 ∧ (p0 = none → c0 = 0) ∧ (p1 = none → c1 = 0) ∧ m0 ≤ 16777216 ∧ m1 ≤ 16777216 := by
  obtain ⟨xs, m, _, hxe, hcl, hlen, hfl⟩ := DataW.trod_array Try.underlying26 h
  rw [cellsAreas] at hcl
  obtain ⟨a, b, rfl⟩ := two (l := cs) hcl
  obtain ⟨x0, x1, rfl⟩ := two (l := xs) hlen
  have g0 : DataW.trod enc Try.prog W base spare held m 25 [a] = some x0 := by simpa [cellsBytes] using hfl 0 (by decide)
  have g1 : DataW.trod enc Try.prog W base spare held m 25 [b] = some x1 := by simpa [cellsBytes] using hfl 1 (by decide)
  obtain ⟨p0, m0, c0, bs0, e0, hB0, _, hz0, _, hw0, _⟩ := open_bytes g0
  obtain ⟨p1, m1, c1, bs1, e1, hB1, _, hz1, _, hw1, _⟩ := open_bytes g1
  obtain rfl := List.head_eq_of_cons_eq e0
  obtain rfl := List.head_eq_of_cons_eq e1
  have k0 := bytes_bulk hw0
  have k1 := bytes_bulk hw1
  have hbx : Rows.uptoBulk x0.1 + Rows.uptoBulk x1.1 ≤ Rows.uptoBulk x.1 := by
    rw [hxe]; simp [Rows.uptoBulk, Rows.uptoBulkAll]
  exact ⟨p0, m0, c0, bs0, p1, m1, c1, bs1, rfl, hB0, hB1, hz0, hz1, by omega, by omega⟩
end
end Go.Proofs.Ytlgjjemfckmidaa
