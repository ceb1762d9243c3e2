/-
  Arguments opened under the second form's bound: Ops, Outs, a Made.
-/
import Derived.Test.YtoijhecphgdfnaaGreatDoorOxOpenM
namespace Go.Proofs.YtoijhecphgdfnaaGreatDoor
open Go.ChangeShapes Go.WideShapes Go.ChangeAt Go.RowKit Go.Deep

theorem bulk_one {H : Type} (d : DataW H) : 1 ≤ Rows.uptoBulk d := by
  cases d with
  | lit l => cases l <;> simp [Rows.uptoBulk]
  | nil => simp [Rows.uptoBulk]
  | ptr d => simp [Rows.uptoBulk]
  | slice a b => simp [Rows.uptoBulk]
  | agg a => simp [Rows.uptoBulk]
  | iface t d => simp [Rows.uptoBulk]
  | map a => simp [Rows.uptoBulk]
  | held a => simp [Rows.uptoBulk]
theorem bulk_len {H : Type} : ∀ (l : List (DataW H)), l.length ≤ Rows.uptoBulkAll l
  | [] => by simp [Rows.uptoBulkAll]
  | x :: r => by have h1 := bulk_one x; have h2 := bulk_len r; simp only [Rows.uptoBulkAll, List.length_cons]; omega
theorem bulk_mem {H : Type} {d : DataW H} : ∀ {l : List (DataW H)}, d ∈ l → Rows.uptoBulk d ≤ Rows.uptoBulkAll l
  | x :: r, h => by
    simp only [Rows.uptoBulkAll]
    rcases List.mem_cons.1 h with rfl | g
    · omega
    · have := bulk_mem g; omega
section
variable {H : Type} {enc : TypeId × Value → H} {W : World} {base : Nat} {spare : Nat → Bool} {held : Bool}
theorem bytes_bulk {x : DataW H × List MemPlace} {pl : Nat} (h : pl = 0 ∨ ∃ el sp, x.1 = .slice el sp ∧ el.length = pl) : pl ≤ Rows.uptoBulk x.1 := by
  rcases h with h0 | ⟨el, sp, e, h1⟩
  · omega
  · rw [e]
    simp only [Rows.uptoBulk]
    have := bulk_len el
    omega
set_option maxRecDepth 100000 in
set_option maxHeartbeats 1000000 in
theorem open_opu {n : Nat} {cs : List Value} {x : DataW H × List MemPlace} {b o : Nat} (h : DataW.trod enc Tryz.prog W base spare held n 47 cs = some x) (hc : ∀ j v, cs[j]? = some v → W.cell? ⟨b, o + j, none⟩ = some v) :
    ∃ y : Opv, OpAt W b o y ∧ y.tn ≤ Rows.uptoBulk x.1 := by
  obtain ⟨xs, m, _, hxe, hcl, hlen, hfl⟩ := DataW.trod_struct Tryz.underlying47 h
  obtain ⟨c0, c1, c2, c3, c4, c5, c6, c7, rfl⟩ := eight (l := cs) (by rw [hcl, cellsOp])
  obtain ⟨x0, x1, x2, x3, x4, x5, rfl⟩ := six (l := xs) hlen
  have g0 : DataW.trod enc Tryz.prog W base spare held m 3 [c0] = some x0 := by simpa [cellsInt] using hfl 0 _ rfl
  have g1 : DataW.trod enc Tryz.prog W base spare held m 9 [c1] = some x1 := by simpa [cellsString] using hfl 1 _ rfl
  have g2 : DataW.trod enc Tryz.prog W base spare held m 43 [c2] = some x2 := by simpa [cellsBytes] using hfl 2 _ rfl
  have g3 : DataW.trod enc Tryz.prog W base spare held m 45 [c3, c4, c5] = some x3 := by simpa [cellsCond] using hfl 3 _ rfl
  have g4 : DataW.trod enc Tryz.prog W base spare held m 9 [c6] = some x4 := by simpa [cellsString] using hfl 4 _ rfl
  have g5 : DataW.trod enc Tryz.prog W base spare held m 3 [c7] = some x5 := by simpa [cellsInt] using hfl 5 _ rfl
  obtain ⟨kd, rfl, _⟩ := one_int g0
  obtain ⟨ct, rfl, _⟩ := one_string g1
  obtain ⟨po, pl, pc, bs, e2, hB, hpc, hw2⟩ := open_bytes g2
  obtain rfl := List.head_eq_of_cons_eq e2
  obtain ⟨ys, m3, _, _, _, hlen3, hfl3⟩ := DataW.trod_struct Tryz.underlying45 g3
  obtain ⟨y0, y1, y2, rfl⟩ := three (l := ys) hlen3
  have k0 : DataW.trod enc Tryz.prog W base spare held m3 4 [c3] = some y0 := by simpa [cellsBool] using hfl3 0 _ rfl
  have k1 : DataW.trod enc Tryz.prog W base spare held m3 3 [c4] = some y1 := by simpa [cellsInt] using hfl3 1 _ rfl
  have k2 : DataW.trod enc Tryz.prog W base spare held m3 3 [c5] = some y2 := by simpa [cellsInt] using hfl3 2 _ rfl
  obtain ⟨ee, rfl, _⟩ := one_bool k0
  obtain ⟨aa, rfl, _⟩ := one_int k1
  obtain ⟨pp, rfl, _⟩ := one_int k2
  obtain ⟨cd, rfl, _⟩ := one_string g4
  obtain ⟨nn, rfl, _⟩ := one_int g5
  refine ⟨⟨kd, ct, po, pl, pc, bs, ee, aa, pp, cd, nn⟩, ⟨cell_lt (hc 0 _ rfl), hc 0 _ rfl, hc 1 _ rfl, hc 2 _ rfl, hc 3 _ rfl, hc 4 _ rfl, hc 5 _ rfl, hc 6 _ rfl, hc 7 _ rfl, hB, hpc⟩, ?_⟩
  · show pl ≤ _
    have hb := bytes_bulk hw2
    rw [hxe]
    simp only [Rows.uptoBulk, List.map_cons, List.map_nil, Rows.uptoBulkAll]
    omega
set_option maxRecDepth 100000 in
set_option maxHeartbeats 1000000 in
theorem open_opsu {n : Nat} {cs : List Value} {x : DataW H × List MemPlace} (h : DataW.trod enc Tryz.prog W base spare held n 25 cs = some x) :
    ∃ ao cap xs, cs = [.slice ao xs.length cap] ∧ Ops 8 W ao xs ∧ xs.length ≤ Rows.uptoBulk x.1 ∧ ∀ y ∈ xs, y.tn ≤ Rows.uptoBulk x.1 := by
  rcases open_slice Tryz.underlying25 h with ⟨rfl, _⟩ | ⟨a, len, cap, m, n', D, Pl, rfl, _, hl, hm, hmm, hxe, hx⟩
  · exact ⟨none, 0, [], rfl, fun k x hk => (by simp at hk), by simp, fun y hy => (by cases hy)⟩
  · have hlm : len ≤ m := by rw [hmm]; split <;> omega
    have key : ∀ k, k < len → ∃ y : Opv, (∃ b off, a = ⟨b, off, none⟩ ∧ OpAt W b (off + k * 8) y) ∧ y.tn ≤ Rows.uptoBulk (D k) := by
      have hsp : 0 < len → a.spot = none := fun h0 => by
        obtain ⟨cs', h1, _⟩ := hx 0 (by omega)
        rw [Nat.zero_mul] at h1
        obtain ⟨b, o, e, _⟩ := cells_at h1 (by rw [cellsOp]; decide)
        have : a.add 0 = a := rfl
        rw [this] at e; rw [e]
      intro k hk
      obtain ⟨b, off, sp⟩ := a
      obtain rfl : sp = none := hsp (by omega)
      obtain ⟨cs', h1, h2⟩ := hx k (by omega)
      rw [cellsOp] at h1
      obtain ⟨b', o', e, hc⟩ := cells_at h1 (by decide)
      rw [Addr.add_lit] at e
      obtain ⟨rfl, rfl⟩ : b = b' ∧ off + k * 8 = o' := by simpa using e
      obtain ⟨y, hy, hp⟩ := open_opu h2 hc
      exact ⟨y, ⟨b, off, rfl, hy⟩, hp⟩
    haveI : Inhabited Opv := ⟨⟨0, ⟨#[]⟩, none, 0, 0, [], false, 0, 0, ⟨#[]⟩, 0⟩⟩
    obtain ⟨Y, hY⟩ := choose_lt (α := Opv) (p := fun k y => (∃ b off, a = ⟨b, off, none⟩ ∧ OpAt W b (off + k * 8) y) ∧ y.tn ≤ Rows.uptoBulk (D k)) key
    refine ⟨some a, cap, (List.range len).map Y, by simp, fun k x hk => ?_, ?_, fun y hy => ?_⟩
    · simp only [List.getElem?_map, Option.map_eq_some_iff] at hk
      obtain ⟨i, hi, rfl⟩ := hk
      obtain ⟨hi1, hi2⟩ := List.getElem?_eq_some_iff.1 hi
      simp at hi1 hi2
      subst hi2
      obtain ⟨⟨b, off, e, ho⟩, _⟩ := hY k hi1
      exact ⟨b, off, by rw [e], ho⟩
    · rw [hxe]
      simp only [Rows.uptoBulk]
      have h3 := bulk_len ((List.range len).map D)
      simp only [List.length_map, List.length_range] at h3 ⊢
      omega
    · obtain ⟨i, hi, rfl⟩ := List.mem_map.1 hy
      have hy2 := (hY i (List.mem_range.1 hi)).2
      rw [hxe]
      simp only [Rows.uptoBulk]
      have h3 := bulk_mem (List.mem_map_of_mem (f := D) hi)
      omega
set_option maxRecDepth 100000 in
set_option maxHeartbeats 1000000 in
theorem open_outu {n : Nat} {cs : List Value} {x : DataW H × List MemPlace} {b o : Nat} (h : DataW.trod enc Tryz.prog W base spare held n 58 cs = some x) (hc : ∀ j v, cs[j]? = some v → W.cell? ⟨b, o + j, none⟩ = some v) :
    ∃ y : Msg, OutAt W b o y ∧ Plain y ∧ y.tn ≤ Rows.uptoBulk x.1 := by
  obtain ⟨xs, m, _, hxe, hcl, hlen, hfl⟩ := DataW.trod_struct Tryz.underlying58 h
  obtain ⟨c0, c1, c2, c3, c4, c5, c6, rfl⟩ := sevenL (l := cs) (by rw [hcl, cellsOut])
  obtain ⟨x0, x1, x2, x3, x4, rfl⟩ := fiveL (l := xs) hlen
  have g0 : DataW.trod enc Tryz.prog W base spare held m 9 [c0] = some x0 := by simpa [cellsString] using hfl 0 _ rfl
  have g1 : DataW.trod enc Tryz.prog W base spare held m 43 [c1] = some x1 := by simpa [cellsBytes] using hfl 1 _ rfl
  have g2 : DataW.trod enc Tryz.prog W base spare held m 45 [c2, c3, c4] = some x2 := by simpa [cellsCond] using hfl 2 _ rfl
  have g3 : DataW.trod enc Tryz.prog W base spare held m 3 [c5] = some x3 := by simpa [cellsInt] using hfl 3 _ rfl
  have g4 : DataW.trod enc Tryz.prog W base spare held m 4 [c6] = some x4 := by simpa [cellsBool] using hfl 4 _ rfl
  obtain ⟨ct, rfl, _⟩ := one_string g0
  obtain ⟨po, pl, pc, bs, e2, hB, hpc, hw2⟩ := open_bytes g1
  obtain rfl := List.head_eq_of_cons_eq e2
  obtain ⟨ys, m3, _, _, _, hlen3, hfl3⟩ := DataW.trod_struct Tryz.underlying45 g2
  obtain ⟨y0, y1, y2, rfl⟩ := three (l := ys) hlen3
  have k0 : DataW.trod enc Tryz.prog W base spare held m3 4 [c2] = some y0 := by simpa [cellsBool] using hfl3 0 _ rfl
  have k1 : DataW.trod enc Tryz.prog W base spare held m3 3 [c3] = some y1 := by simpa [cellsInt] using hfl3 1 _ rfl
  have k2 : DataW.trod enc Tryz.prog W base spare held m3 3 [c4] = some y2 := by simpa [cellsInt] using hfl3 2 _ rfl
  obtain ⟨ee, rfl, _⟩ := one_bool k0
  obtain ⟨aa, rfl, _⟩ := one_int k1
  obtain ⟨pp, rfl, _⟩ := one_int k2
  obtain ⟨nu, rfl, _⟩ := one_int g3
  obtain ⟨nt, rfl, _⟩ := one_bool g4
  refine ⟨⟨ct, po, pl, pc, bs, ee, aa, pp, nu, nt, 0, 0, false⟩, ⟨cell_lt (hc 0 _ rfl), hc 0 _ rfl, hc 1 _ rfl, hc 2 _ rfl, hc 3 _ rfl, hc 4 _ rfl, hc 5 _ rfl, hc 6 _ rfl, hB, hpc⟩, ⟨rfl, rfl, rfl⟩, ?_⟩
  · show pl ≤ _
    have hb := bytes_bulk hw2
    rw [hxe]
    simp only [Rows.uptoBulk, List.map_cons, List.map_nil, Rows.uptoBulkAll]
    omega
set_option maxRecDepth 100000 in
set_option maxHeartbeats 1000000 in
theorem open_outsu {n : Nat} {cs : List Value} {x : DataW H × List MemPlace} (h : DataW.trod enc Tryz.prog W base spare held n 22 cs = some x) :
    ∃ ao cap xs, cs = [.slice ao xs.length cap] ∧ Outs W ao xs ∧ (∀ y ∈ xs, Plain y) ∧ xs.length ≤ Rows.uptoBulk x.1 ∧ ∀ y ∈ xs, y.tn ≤ Rows.uptoBulk x.1 := by
  rcases open_slice Tryz.underlying22 h with ⟨rfl, _⟩ | ⟨a, len, cap, m, n', D, Pl, rfl, _, hl, hm, hmm, hxe, hx⟩
  · exact ⟨none, 0, [], rfl, fun k x hk => (by simp at hk), fun y hy => (by cases hy), by simp, fun y hy => (by cases hy)⟩
  · have hlm : len ≤ m := by rw [hmm]; split <;> omega
    have key : ∀ k, k < len → ∃ y : Msg, (∃ b off, a = ⟨b, off, none⟩ ∧ OutAt W b (off + k * 7) y) ∧ Plain y ∧ y.tn ≤ Rows.uptoBulk (D k) := by
      have hsp : 0 < len → a.spot = none := fun h0 => by
        obtain ⟨cs', h1, _⟩ := hx 0 (by omega)
        rw [Nat.zero_mul] at h1
        obtain ⟨b, o, e, _⟩ := cells_at h1 (by rw [cellsOut]; decide)
        have : a.add 0 = a := rfl
        rw [this] at e; rw [e]
      intro k hk
      obtain ⟨b, off, sp⟩ := a
      obtain rfl : sp = none := hsp (by omega)
      obtain ⟨cs', h1, h2⟩ := hx k (by omega)
      rw [cellsOut] at h1
      obtain ⟨b', o', e, hc⟩ := cells_at h1 (by decide)
      rw [Addr.add_lit] at e
      obtain ⟨rfl, rfl⟩ : b = b' ∧ off + k * 7 = o' := by simpa using e
      obtain ⟨y, hy, hp⟩ := open_outu h2 hc
      exact ⟨y, ⟨b, off, rfl, hy⟩, hp⟩
    haveI : Inhabited Msg := ⟨zM⟩
    obtain ⟨Y, hY⟩ := choose_lt (α := Msg) (p := fun k y => (∃ b off, a = ⟨b, off, none⟩ ∧ OutAt W b (off + k * 7) y) ∧ Plain y ∧ y.tn ≤ Rows.uptoBulk (D k)) key
    refine ⟨some a, cap, (List.range len).map Y, by simp, fun k x hk => ?_, fun y hy => ?_, ?_, fun y hy => ?_⟩
    · simp only [List.getElem?_map, Option.map_eq_some_iff] at hk
      obtain ⟨i, hi, rfl⟩ := hk
      obtain ⟨hi1, hi2⟩ := List.getElem?_eq_some_iff.1 hi
      simp at hi1 hi2
      subst hi2
      obtain ⟨⟨b, off, e, ho⟩, _⟩ := hY k hi1
      exact ⟨b, off, by rw [e], ho⟩
    · obtain ⟨i, hi, rfl⟩ := List.mem_map.1 hy
      exact (hY i (List.mem_range.1 hi)).2.1
    · rw [hxe]
      simp only [Rows.uptoBulk]
      have h3 := bulk_len ((List.range len).map D)
      simp only [List.length_map, List.length_range] at h3 ⊢
      omega
    · obtain ⟨i, hi, rfl⟩ := List.mem_map.1 hy
      have hy2 := (hY i (List.mem_range.1 hi)).2.2
      rw [hxe]
      simp only [Rows.uptoBulk]
      have h3 := bulk_mem (List.mem_map_of_mem (f := D) hi)
      omega
set_option maxRecDepth 100000 in
set_option maxHeartbeats 1000000 in
theorem open_madeu {r : Reach} {b0 : Nat} {v : Value} {d : DataW H} {p : List MemPlace}
    (hv : Value.okWide Tryz.prog W r b0 24 v) (h : DataW.Trod enc Tryz.prog W base spare held 24 v d p) :
    ∃ ao cap xs sq tr, v = .agg #[.slice ao (List.length xs) cap, .bool sq, .int .i64 tr] ∧ Outs W ao xs ∧ (∀ y ∈ xs, Plain y) ∧ xs.length ≤ Rows.uptoBulk d ∧ ∀ y ∈ xs, y.tn ≤ Rows.uptoBulk d := by
  obtain ⟨cs, rfl, hsz⟩ := okWide_struct Tryz.underlying24 hv
  obtain ⟨l⟩ := cs
  obtain ⟨c0, c1, c2, rfl⟩ := three (l := l) (by simpa [cellsMade] using hsz)
  obtain ⟨fuel, hf⟩ := h
  obtain ⟨xs, n, _, hx, hl, hlen, hfl⟩ := DataW.trod_struct Tryz.underlying24 hf
  obtain ⟨x0, x1, x2, rfl⟩ := three (l := xs) hlen
  have g0 : DataW.trod enc Tryz.prog W base spare held n 22 [c0] = some x0 := by simpa [Value.cells, cellsOuts] using hfl 0 _ rfl
  have g1 : DataW.trod enc Tryz.prog W base spare held n 4 [c1] = some x1 := by simpa [Value.cells, cellsBool] using hfl 1 _ rfl
  have g2 : DataW.trod enc Tryz.prog W base spare held n 3 [c2] = some x2 := by simpa [Value.cells, cellsInt] using hfl 2 _ rfl
  obtain ⟨ao, cap, ys, e0, hO, hP, hW, hT⟩ := open_outsu g0
  obtain rfl := List.head_eq_of_cons_eq e0
  obtain ⟨k1, rfl, _⟩ := one_bool g1
  obtain ⟨k2, rfl, _⟩ := one_int g2
  refine ⟨ao, cap, ys, k1, k2, rfl, hO, hP, ?_, fun y hy => ?_⟩
  all_goals
    have hd : d = .agg ([x0, x1, x2].map (·.1)) := congrArg Prod.fst hx
    rw [hd]
    simp only [Rows.uptoBulk, List.map_cons, List.map_nil, Rows.uptoBulkAll]
  · omega
  · have := hT y hy
    omega
end
end Go.Proofs.YtoijhecphgdfnaaGreatDoor
