import Derived.Test.YtjbkfppibnlmoaaGreatDoorSsBase
/-
  The strong pair: Take, TakeTexts; one more list of entries.
-/
namespace Go.Proofs.YtjbkfppibnlmoaaGreatDoor
open Go.RowKit

/-- The parts behind a taking. -/
def partT (τ ρ' : Nat → Nat) (N : Nat) (l : Option Nat) (q : Nat) : Nat := if q < N then (if l = some q then 2 else τ q) else if ρ' q = 1 ∨ ρ' q = 2 ∨ ρ' q = 3 then 1 else if ρ' q ≠ 0 then 2 else 0
theorem partT_old {τ ρ' : Nat → Nat} {N q : Nat} {l : Option Nat} (h : q < N) (hl : l ≠ some q) : partT τ ρ' N l q = τ q := by unfold partT; rw [if_pos h, if_neg hl]
theorem partT_got {τ ρ' : Nat → Nat} {N q : Nat} {l : Option Nat} (h : q < N) (hl : l = some q) : partT τ ρ' N l q = 2 := by unfold partT; rw [if_pos h, if_pos hl]
theorem partT_new {τ ρ' : Nat → Nat} {N q : Nat} {l : Option Nat} (h : N ≤ q) : partT τ ρ' N l q = if ρ' q = 1 ∨ ρ' q = 2 ∨ ρ' q = 3 then 1 else if ρ' q ≠ 0 then 2 else 0 := by unfold partT; rw [if_neg (by omega)]
theorem partT_ro {τ ρ ρ' : Nat → Nat} {N k : Nat} {l : Option Nat} (h : RoB ρ τ) (hk : ∀ q, q < N → l ≠ some q → ρ' q = ρ q) (hl : ∀ q, l = some q → q < N ∧ ρ' q = 6 + 2 * k) : RoB ρ' (partT τ ρ' N l) := fun q => by
  rcases Nat.lt_or_ge q N with g | g
  · rcases Classical.em (l = some q) with e | e
    · rw [partT_got g e, (hl q e).2]
      exact ⟨fun h => by omega, fun _ => Or.inr rfl⟩
    · rw [partT_old g e, hk q g e]
      exact h q
  · rw [partT_new g]
    refine ⟨fun h => by rw [if_pos h], fun h => ?_⟩
    split
    · exact Or.inl rfl
    · exact Or.inr rfl
theorem partT_ro2 {τ σ ρ' : Nat → Nat} {N : Nat} {l : Option Nat} (h : RoB σ τ) (hl : ∀ q, l = some q → σ q = 0) (hn : ∀ q, N ≤ q → σ q = 0) : RoB σ (partT τ ρ' N l) := fun q => by
  rcases Nat.lt_or_ge q N with g | g
  · rcases Classical.em (l = some q) with e | e
    · rw [hl q e]
      exact ⟨fun h => by omega, fun h => absurd rfl h⟩
    · rw [partT_old g e]
      exact h q
  · rw [hn q g]
    exact ⟨fun h => by omega, fun h => absurd rfl h⟩
section
variable {W w w' : World} {X K n m : Nat} {bv mk ke rm L : Value} {o : Option (Int × Int)} {A A' : List Ent} {τ τ' : Nat → Nat} {P : Nat → Prop}
theorem ro_zero {ρ : Nat → Nat} {q : Nat} (h : RoB ρ τ) (hq : τ q = 0) : ρ q = 0 := by
  rcases Nat.eq_zero_or_pos (ρ q) with g | g
  · exact g
  · have := (h q).2 (by omega); omega
/-- Behind a taking of either kind: what is not the book's. -/
theorem SS.took {l : Option Nat} {ρx : Nat → Nat} {v6 v7 : Value} {gs : List (Sl × Sl)} (h : SS W X K bv mk ke rm L o A A' τ n m w) (ho : Off (fun q => τ q = 1) w w') (hl : ∀ q, l = some q → q < w.heap.size ∧ τ q = 0) (hn : ∀ q, w'.heap.size ≤ q → ρx q = 0)
    (hX : w.heap[X]? = some (.cells #[bv, mk, ke, rm, L, .pointer (some ⟨K, 0, none⟩), v6, v7] 55 (0, 0)))
    (g1 : ERow w W.heap.size 22 1 encSl v6 (gs.map Prod.fst)) (g2 : ERow w W.heap.size 22 1 encSl v7 (gs.map Prod.snd)) (g3 : ∀ q, v6.ownBlock = some q → v7.ownBlock ≠ some q) (g4 : ∀ q, v6.ownBlock = some q ∨ v7.ownBlock = some q → τ q = 5) (g6 : GsOk w W.heap.size τ gs) (hW : ∀ q, l = some q → W.heap.size ≤ q)
    {ρ' σ' : Nat → Nat} {es' : List Bo.Ent} {ts' : List Bt.Ent} {n' m' : Nat} (hb : Bt.Bks w' W.heap.size K ρ' σ' es' ts') (h1 : BkB es' ∧ es'.length ≤ n') (h2 : BkT ts' ∧ ts'.length ≤ m') (h3 : RoB ρ' (partT τ ρx w.heap.size l)) (h4 : RoB σ' (partT τ ρx w.heap.size l)) (g5 : gs.length ≤ m') :
    SS W X K bv mk ke rm L o A A' (partT τ ρx w.heap.size l) n' m' w' ∧ TkQ τ (partT τ ρx w.heap.size l) w w' (fun q => l = some q) := by
  have hk : ∀ q, q < w.heap.size → τ q ≠ 0 → partT τ ρx w.heap.size l q = τ q := fun q hq ht => partT_old hq fun e => ht (hl q e).2
  have hXl := blk_lt hX
  have nX : ¬ τ X = 1 := by rw [h.tX]; decide
  refine ⟨⟨⟨v6, v7, gs, ρ', σ', es', ts', (ho.block X hXl nX).trans hX, hb, h1, h2, h3, h4, ⟨ERow.off g1 ho fun q hq => (by rw [g4 q (Or.inl hq)]; decide), ERow.off g2 ho fun q hq => (by rw [g4 q (Or.inr hq)]; decide), g3, fun q hq => ?_, g5⟩, g6.off ho (fun q _ hp => by rw [hp]; decide) fun q hq ht => hk q hq (by omega)⟩, ?_, fun q hq => ?_, fun q hq => ?_, h.s4.off ho (fun q _ hp => by rw [hp]; decide) fun q hq ht => by rw [hk q hq (by omega)]; exact ht, h.bel.trans (ho.below h.bel.size fun q hq => h.old q (by rw [hq]; decide)), h.lX⟩, ho.mono fun q hq => Or.inl hq, fun q hq hp => partT_old hq hp, fun q hq hp => Or.inl (partT_got hq hp)⟩
  · have : q < w.heap.size := by
      rcases hq with e | e
      · exact (ERow.lt g1 e).2
      · exact (ERow.lt g2 e).2
    rw [hk q this (by rw [g4 q hq]; decide)]
    exact g4 q hq
  · rw [hk X hXl (by rw [h.tX]; decide)]
    exact h.tX
  · have := ho.size
    rw [partT_new (by omega), hn q hq]
    decide
  · rcases Nat.lt_or_ge q w.heap.size with g | g
    · rcases Classical.em (l = some q) with e | e
      · exact hW q e
      · rw [partT_old g e] at hq
        exact h.old q hq
    · have := h.bel.size
      omega
theorem SS.take (h : SS W X K bv mk ke rm L o A A' τ n m w) (hn : n + 1 ≤ 1000000) {a : Option Addr} {k c : Nat} {bs : List Int} (hr : BRow w W.heap.size (.slice a k c) bs) (hk : k ≤ 1000000) (hz : ∀ q, (Value.slice a k c).ownBlock = some q → τ q = 0) :
    Calls Tryz.prog 63 #[.pointer (some ⟨K, 0, none⟩), .slice a k c] w fun e w' => e = .returned (.tuple #[]) ∧ Hid (∃ τ', SS W X K bv mk ke rm L o A A' τ' (n + 1) m w' ∧ TkQ τ τ' w w' (fun q => (Value.slice a k c).ownBlock = some q)) := by
  obtain ⟨v6, v7, gs, ρ, σ, es, ts, hX, hb, h1, h2, h3, h4, ⟨g1, g2, g3, g4, g5⟩, g6⟩ := h.ex
  have hlen := ERow.len hr
  refine (hb.take (row_bo hr) (fun g hg => ⟨ro_zero h3 (hz g hg), ro_zero h4 (hz g hg)⟩) (by omega) (by omega)).mono ?_
  rintro e w1 ⟨he, ρ', was, k1, k2, k3⟩
  refine ⟨he, partT τ ρ' w.heap.size (Value.slice a k c).ownBlock, ?_⟩
  have ho : Off (fun q => τ q = 1) w w1 := (of_bt k2).mono fun q hq => (h3 q).1 hq
  obtain ⟨vb, vw, vt, vu, b1, b2⟩ := k1.ex
  obtain ⟨_, _, _, _, c1, c2⟩ := hb.ex
  have hin : ∀ q, (Value.slice a k c).ownBlock = some q → q < w.heap.size := fun q hq => (ERow.lt hr hq).2
  exact h.took ho (fun q hq => ⟨hin q hq, hz q hq⟩) b1.new hX g1 g2 g3 g4 g6 (fun q hq => (ERow.lt hr hq).1) k1 ⟨h1.1.snoc (by omega), by simp; omega⟩ h2 (partT_ro h3 k3 fun q hq => ⟨hin q hq, b1.pval es.length ⟨.slice a k c, was, bs, bs⟩ (by simp) q hq⟩) (partT_ro2 h4 (fun q hq => ro_zero h4 (hz q hq)) c2.new) g5
theorem SS.texts (h : SS W X K bv mk ke rm L o A A' τ n m w) (hm : m + 1 ≤ 80) {a : Option Addr} {k c : Nat} {l : List ByteArray} (hr : TRow w W.heap.size (.slice a k c) l) (hk : k ≤ 1000) (hz : ∀ q, (Value.slice a k c).ownBlock = some q → τ q = 0) :
    Calls Tryz.prog 30 #[.pointer (some ⟨K, 0, none⟩), .slice a k c] w fun e w' => e = .returned (.tuple #[]) ∧ Hid (∃ τ', SS W X K bv mk ke rm L o A A' τ' n (m + 1) w' ∧ TkQ τ τ' w w' (fun q => (Value.slice a k c).ownBlock = some q)) := by
  obtain ⟨v6, v7, gs, ρ, σ, es, ts, hX, hb, h1, h2, h3, h4, ⟨g1, g2, g3, g4, g5⟩, g6⟩ := h.ex
  have hlen := ERow.len hr
  have hst : ∀ u ∈ l.map Value.string, ∃ s, u = Value.string s := fun u hu => by
    obtain ⟨x, _, rfl⟩ := List.mem_map.1 hu
    exact ⟨x, rfl⟩
  refine (hb.texts (row_bt hr) (fun g hg => ⟨ro_zero h3 (hz g hg), ro_zero h4 (hz g hg)⟩) (by omega) (by omega) hst).mono ?_
  rintro e w1 ⟨he, σ', was, k1, k2, k3⟩
  refine ⟨he, partT τ σ' w.heap.size (Value.slice a k c).ownBlock, ?_⟩
  have ho : Off (fun q => τ q = 1) w w1 := (of_bt k2).mono fun q hq => (h4 q).1 hq
  obtain ⟨vb, vw, vt, vu, b1, b2⟩ := k1.ex
  obtain ⟨_, _, _, _, c1, c2⟩ := hb.ex
  have hin : ∀ q, (Value.slice a k c).ownBlock = some q → q < w.heap.size := fun q hq => (ERow.lt hr hq).2
  exact h.took ho (fun q hq => ⟨hin q hq, hz q hq⟩) b2.new hX g1 g2 g3 g4 g6 (fun q hq => (ERow.lt hr hq).1) k1 ⟨h1.1, by omega⟩ ⟨h2.1.snoc (by simp; omega) hst, by simp; omega⟩ (partT_ro2 h3 (fun q hq => ro_zero h3 (hz q hq)) c1.new) (partT_ro h4 k3 fun q hq => ⟨hin q hq, b2.pval ts.length ⟨.slice a k c, was, l.map Value.string, l.map Value.string⟩ (by simp) q hq⟩) (by omega)
end
end Go.Proofs.YtjbkfppibnlmoaaGreatDoor

/-
  The strong pair: one more list of entries.
-/
namespace Go.Proofs.YtjbkfppibnlmoaaGreatDoor
open Go.RowKit

/-- Rows of slices in two neighbouring cells of a block: each gets one more. -/
theorem push2b {w : World} {B K i : Nat} {t e tK : TypeId} {v0 v1 : Value} {x0 x1 : List Sl} {cs : Array Value} (ht : Tryz.prog.underlying t = some (.slice e)) (ho : Cel Tryz.prog e 1 24) (hne : tK ≠ e)
    (hK : w.heap[K]? = some (.cells cs tK (0, 0))) (hi : cs[i]? = some v0) (hj : cs[i + 1]? = some v1) (h0 : ERow w B e 1 encSl v0 x0) (h1 : ERow w B e 1 encSl v1 x1) (hap : ∀ q, v0.ownBlock = some q → v1.ownBlock ≠ some q)
    (l0 : x0.length ≤ 1000000) (l1 : x1.length ≤ 1000000) (hB : B ≤ w.heap.size) (s0 s1 : Sl) :
    ∃ a0 n0 c0 w2 a1 n1 c1 w4, (Builtin.append_ #[t, t] t #[v0, .slice (some ⟨w.heap.size, 0, none⟩) 1 1]).run Tryz.prog (w.alloc (.cells #[.slice s0.1 s0.2.1 s0.2.2] e)) = .ok (.slice a0 n0 c0) w2 ∧
      w2.cell? ⟨K, i, none⟩ = some v0 ∧ w2.frozen? ⟨K, i, none⟩ = false ∧ (w2.setCell ⟨K, i, none⟩ (.slice a0 n0 c0)).cell? ⟨K, i + 1, none⟩ = some v1 ∧
      (Builtin.append_ #[t, t] t #[v1, .slice (some ⟨w2.heap.size, 0, none⟩) 1 1]).run Tryz.prog ((w2.setCell ⟨K, i, none⟩ (.slice a0 n0 c0)).alloc (.cells #[.slice s1.1 s1.2.1 s1.2.2] e)) = .ok (.slice a1 n1 c1) w4 ∧
      w4.cell? ⟨K, i + 1, none⟩ = some v1 ∧ w4.frozen? ⟨K, i + 1, none⟩ = false ∧
      Hid ((w4.setCell ⟨K, i + 1, none⟩ (.slice a1 n1 c1)).heap[K]? = some (.cells ((cs.set! i (.slice a0 n0 c0)).set! (i + 1) (.slice a1 n1 c1)) tK (0, 0)) ∧ ERow (w4.setCell ⟨K, i + 1, none⟩ (.slice a1 n1 c1)) B e 1 encSl (.slice a0 n0 c0) (x0 ++ [s0]) ∧ ERow (w4.setCell ⟨K, i + 1, none⟩ (.slice a1 n1 c1)) B e 1 encSl (.slice a1 n1 c1) (x1 ++ [s1]) ∧ (∀ q, (Value.slice a0 n0 c0).ownBlock = some q → (Value.slice a1 n1 c1).ownBlock ≠ some q) ∧ Off (fun q => q = K ∨ v0.ownBlock = some q ∨ v1.ownBlock = some q) w (w4.setCell ⟨K, i + 1, none⟩ (.slice a1 n1 c1)) ∧ (∀ q, (Value.slice a0 n0 c0).ownBlock = some q → v0.ownBlock = some q ∨ w.heap.size ≤ q) ∧ ∀ q, (Value.slice a1 n1 c1).ownBlock = some q → v1.ownBlock = some q ∨ w.heap.size ≤ q) := by
  have hlt := blk_lt hK
  have nK : ∀ {w' : World} {v : Value} {xs : List Sl} {cs' : Array Value}, w'.heap[K]? = some (.cells cs' tK (0, 0)) → ERow w' B e 1 encSl v xs → v.ownBlock ≠ some K := fun {w' v xs cs'} hk hr hq => by
    obtain ⟨cs2, b1⟩ := erow_type hr hq
    rw [hk] at b1
    simp only [Option.some.injEq, Obj.cells.injEq] at b1
    exact hne b1.2.1
  obtain ⟨a0, c0, w2, r2, e2, o2, s2⟩ := run_epush (P := Tryz.prog) ht ho encSl_len encSl_one h0 s0 #[.slice s0.1 s0.2.1 s0.2.2] rfl (by omega) (by decide) hB
  have k2 : w2.heap[K]? = some (.cells cs tK (0, 0)) := (o2.block K hlt (nK hK h0)).trans hK
  have h12 : ERow w2 B e 1 encSl v1 x1 := ERow.off h1 o2 fun q hq hq' => hap q hq' hq
  obtain ⟨w3, hw3⟩ : ∃ x, w2.setCell ⟨K, i, none⟩ (.slice a0 (x0.length + 1) c0) = x := ⟨_, rfl⟩
  have o3 : Off (fun q => q = K) w2 w3 := by rw [← hw3]; exact Off.setCell (P := fun q => q = K) (Off.refl _ _) (p := ⟨K, i, none⟩) rfl _
  have k3 : w3.heap[K]? = some (.cells (cs.set! i (.slice a0 (x0.length + 1) c0)) tK (0, 0)) := by rw [← hw3]; exact set_heap k2 i _
  have h13 : ERow w3 B e 1 encSl v1 x1 := ERow.off h12 o3 fun q hq e1 => nK k2 h12 (e1 ▸ hq)
  have h03 : ERow w3 B e 1 encSl (.slice a0 (x0.length + 1) c0) (x0 ++ [s0]) := ERow.off e2 o3 fun q hq e1 => nK k2 e2 (e1 ▸ hq)
  obtain ⟨a1, c1, w4, r4, e4, o4, s4⟩ := run_epush (P := Tryz.prog) ht ho encSl_len encSl_one h13 s1 #[.slice s1.1 s1.2.1 s1.2.2] rfl (by omega) (by decide) (Nat.le_trans hB (Nat.le_trans o2.size o3.size))
  have k4 : w4.heap[K]? = some (.cells (cs.set! i (.slice a0 (x0.length + 1) c0)) tK (0, 0)) := (o4.block K (blk_lt k3) (nK k3 h13)).trans k3
  have hap2 : ∀ q, (Value.slice a0 (x0.length + 1) c0).ownBlock = some q → v1.ownBlock ≠ some q := fun q hq hq' => by
    rcases s2 with g | g
    · exact hap q (g ▸ hq) hq'
    · rw [g] at hq
      have := (ERow.lt h1 hq').2
      simp only [Option.some.injEq] at hq
      omega
  have h04 : ERow w4 B e 1 encSl (.slice a0 (x0.length + 1) c0) (x0 ++ [s0]) := ERow.off h03 o4 fun q hq hq' => hap2 q hq hq'
  have hsz : w3.heap.size = w2.heap.size := by rw [← hw3]; simp
  have o5 : Off (fun q => q = K) w4 (w4.setCell ⟨K, i + 1, none⟩ (.slice a1 (x1.length + 1) c1)) := Off.setCell (P := fun q => q = K) (Off.refl _ _) (p := ⟨K, i + 1, none⟩) rfl _
  have cj : (cs.set! i (.slice a0 (x0.length + 1) c0))[i + 1]? = some v1 := by rw [Array.set!_eq_setIfInBounds, Array.getElem?_setIfInBounds_ne (by omega)]; exact hj
  refine ⟨a0, x0.length + 1, c0, w2, a1, x1.length + 1, c1, w4, r2, ?_, ?_, ?_, ?_, ?_, ?_, ?_⟩
  · rw [hcell k2]; exact hi
  · exact hfree k2 i
  · rw [hw3, hcell k3]; exact cj
  · rw [hw3, ← hsz]; exact r4
  · rw [hcell k4]; exact cj
  · exact hfree k4 _
  · refine ⟨set_heap k4 _ _, ERow.off h04 o5 fun q hq e1 => nK k4 h04 (e1 ▸ hq), ERow.off e4 o5 fun q hq e1 => nK k4 e4 (e1 ▸ hq), fun q hq hq' => ?_, ?_, fun q hq => ?_, fun q hq => ?_⟩
    · rcases s4 with g | g
      · exact hap2 q hq (g ▸ hq')
      · rw [g] at hq'
        have := (ERow.lt h03 hq).2
        simp only [Option.some.injEq] at hq'
        omega
    · refine Off.trans (Off.trans (Off.trans (o2.mono fun q h => Or.inr (Or.inl h)) (o3.mono fun q h => Or.inl h)) (o4.mono fun q h => Or.inr (Or.inr h))) (o5.mono fun q h => Or.inl h)
    · rcases s2 with g | g
      · exact Or.inl (g ▸ hq)
      · rw [g] at hq
        simp only [Option.some.injEq] at hq
        exact Or.inr (by omega)
    · rcases s4 with g | g
      · exact Or.inl (g ▸ hq)
      · rw [g] at hq
        simp only [Option.some.injEq] at hq
        have := o2.size
        exact Or.inr (by omega)
open Classical in
/-- The parts behind it. -/
noncomputable def partL (τ : Nat → Nat) (N : Nat) (F G : Nat → Prop) (q : Nat) : Nat := if q < N then (if F q then 3 else τ q) else if G q then 5 else 0
theorem partL_old {τ : Nat → Nat} {N q : Nat} {F G : Nat → Prop} (h : q < N) (hF : ¬ F q) : partL τ N F G q = τ q := by unfold partL; rw [if_pos h, if_neg hF]
theorem partL_got {τ : Nat → Nat} {N q : Nat} {F G : Nat → Prop} (h : q < N) (hF : F q) : partL τ N F G q = 3 := by unfold partL; rw [if_pos h, if_pos hF]
theorem partL_new {τ : Nat → Nat} {N q : Nat} {F G : Nat → Prop} (h : N ≤ q) (hG : G q) : partL τ N F G q = 5 := by unfold partL; rw [if_neg (by omega), if_pos hG]
theorem partL_non {τ : Nat → Nat} {N q : Nat} {F G : Nat → Prop} (h : N ≤ q) (hG : ¬ G q) : partL τ N F G q = 0 := by unfold partL; rw [if_neg (by omega), if_neg hG]
section
variable {W w w' : World} {X K n m : Nat} {bv mk ke rm L : Value} {o : Option (Int × Int)} {A A' : List Ent} {τ τ' : Nat → Nat} {P : Nat → Prop}
theorem ss_list (h : SS W X K bv mk ke rm L o A A' τ n m w) (hm : m + 1 ≤ 80) (s0 s1 : Sl) {ls ls' : List Ent} (hc : s0.2.2 = s0.2.1) (r0 : NRow w W.heap.size (slv s0) ls) (w0 : ∀ l ∈ ls, Own w W.heap.size l) (r1 : NRow w W.heap.size (slv s1) ls') (w1 : ∀ l ∈ ls', Own w W.heap.size l) (ht : Tws ls ls') (hbn : ∀ l ∈ ls, l.tn ≤ 8192 ∧ l.cn ≤ 2048 ∧ l.an ≤ 2048) (hln : ls.length ≤ 1000)
    (t0 : ∀ q, ob s0 = some q → τ q = 0) (t1 : ∀ q, ob s1 = some q → τ q = 0) (t2 : ∀ l ∈ ls, ∀ q, Blk l q → τ q = 2 ∨ τ q = 3) (t3 : ∀ l ∈ ls', ∀ q, Blk l q → τ q = 0) :
    ∃ v0 v1 a0 n0 c0 w2 a1 n1 c1 w4, w.cell? ⟨X, 6, none⟩ = some v0 ∧ (Builtin.append_ #[53, 53] 53 #[v0, .slice (some ⟨w.heap.size, 0, none⟩) 1 1]).run Tryz.prog (w.alloc (.cells #[.slice s0.1 s0.2.1 s0.2.2] 22)) = .ok (.slice a0 n0 c0) w2 ∧
      w2.cell? ⟨X, 6, none⟩ = some v0 ∧ w2.frozen? ⟨X, 6, none⟩ = false ∧ (w2.setCell ⟨X, 6, none⟩ (.slice a0 n0 c0)).cell? ⟨X, 7, none⟩ = some v1 ∧
      (Builtin.append_ #[53, 53] 53 #[v1, .slice (some ⟨w2.heap.size, 0, none⟩) 1 1]).run Tryz.prog ((w2.setCell ⟨X, 6, none⟩ (.slice a0 n0 c0)).alloc (.cells #[.slice s1.1 s1.2.1 s1.2.2] 22)) = .ok (.slice a1 n1 c1) w4 ∧
      w4.cell? ⟨X, 7, none⟩ = some v1 ∧ w4.frozen? ⟨X, 7, none⟩ = false ∧ Hid (∃ τ', SS W X K bv mk ke rm L o A A' τ' n (m + 1) (w4.setCell ⟨X, 7, none⟩ (.slice a1 n1 c1)) ∧ TkQ τ τ' w (w4.setCell ⟨X, 7, none⟩ (.slice a1 n1 c1)) (fun q => ob s0 = some q ∨ ob s1 = some q ∨ ∃ l ∈ ls', Blk l q)) := by
  obtain ⟨v6, v7, gs, ρ, σ, es, ts, hX, hb, h1, h2, h3, h4, ⟨g1, g2, g3, g4, g5⟩, g6⟩ := h.ex
  obtain ⟨p0, n0, d0, w2, p1, n1, d1, w4, e1, e2, e3, e4, e5, e6, e7, R⟩ := push2b (i := 6) Tryz.underlying53 celSE (by decide) hX rfl rfl g1 g2 g3 (by simp; omega) (by simp; omega) h.bel.size s0 s1
  refine ⟨v6, v7, p0, n0, d0, w2, p1, n1, d1, w4, hcell hX 6, e1, e2, e3, e4, e5, e6, e7, ?_⟩
  obtain ⟨q1, q2, q3, q4, oo, q5, q6⟩ := R.out
  obtain ⟨w5, hw5⟩ : ∃ x, w4.setCell ⟨X, 7, none⟩ (.slice p1 n1 d1) = x := ⟨_, rfl⟩
  rw [hw5] at q1 q2 q3 oo ⊢
  obtain ⟨V6, hV6⟩ : ∃ v, Value.slice p0 n0 d0 = v := ⟨_, rfl⟩
  obtain ⟨V7, hV7⟩ : ∃ v, Value.slice p1 n1 d1 = v := ⟨_, rfl⟩
  rw [hV6, hV7] at q1
  rw [hV6] at q2 q4 q5
  rw [hV7] at q3 q4 q6
  have o5 : Off (fun q => τ q = 5) w w5 := oo.mono fun q hq => by
    rcases hq with rfl | e | e
    · exact h.tX
    · exact g4 q (Or.inl e)
    · exact g4 q (Or.inr e)
  have hs := oo.size
  obtain ⟨F, hF⟩ : ∃ F : Nat → Prop, F = fun q => ob s0 = some q ∨ ob s1 = some q ∨ ∃ l ∈ ls', Blk l q := ⟨_, rfl⟩
  obtain ⟨G, hG⟩ : ∃ G : Nat → Prop, G = fun q => V6.ownBlock = some q ∨ V7.ownBlock = some q := ⟨_, rfl⟩
  have f0 : ∀ q, F q → τ q = 0 ∧ q < w.heap.size := fun q hq => by
    rw [hF] at hq
    rcases hq with e | e | ⟨l, hl, e⟩
    · exact ⟨t0 q e, (ERow.lt r0 e).2⟩
    · exact ⟨t1 q e, (ERow.lt r1 e).2⟩
    · exact ⟨t3 l hl q e, ((w1 l hl).blk e).2⟩
  have hk : ∀ q, q < w.heap.size → τ q ≠ 0 → partL τ w.heap.size F G q = τ q := fun q hq ht => partL_old hq fun e => ht (f0 q e).1
  have hro : ∀ {ρ : Nat → Nat}, RoB ρ τ → (∀ q, w.heap.size ≤ q → ρ q = 0) → RoB ρ (partL τ w.heap.size F G) := fun {ρ} hr hn q => by
    rcases Nat.lt_or_ge q w.heap.size with g | g
    · rcases Classical.em (τ q = 0) with e | e
      · rw [ro_zero hr e]
        exact ⟨fun h => by omega, fun h => absurd rfl h⟩
      · rw [hk q g e]
        exact hr q
    · rw [hn q g]
      exact ⟨fun h => by omega, fun h => absurd rfl h⟩
  obtain ⟨vb, vw, vt, vu, b1, b2⟩ := hb.ex
  have key : ∀ q, V6.ownBlock = some q ∨ V7.ownBlock = some q → partL τ w.heap.size F G q = 5 := fun q hq => by
    have h5 : τ q = 5 ∨ w.heap.size ≤ q := by
      rcases hq with e | e
      · exact (q5 q e).imp (fun e => g4 q (Or.inl e)) id
      · exact (q6 q e).imp (fun e => g4 q (Or.inr e)) id
    rcases Nat.lt_or_ge q w.heap.size with g | g
    · have : τ q = 5 := by omega
      rw [hk q g (by omega)]
      exact this
    · exact partL_new g (by rw [hG]; exact hq)
  have hg1 : GOne w5 W.heap.size (partL τ w.heap.size F G) (s0, s1) := by
    refine ⟨ls, ls', hc, ERow.off r0 o5 fun q hq => ?_, fun l hl => (w0 l hl).offB o5 fun q hq => ?_, ERow.off r1 o5 fun q hq => ?_, fun l hl => (w1 l hl).offB o5 fun q hq => ?_, ht, hbn, hln, fun q hq => partL_got (ERow.lt r0 hq).2 (by rw [hF]; exact Or.inl hq), fun q hq => partL_got (ERow.lt r1 hq).2 (by rw [hF]; exact Or.inr (Or.inl hq)), fun l hl q hq => ?_, fun l hl q hq => partL_got ((w1 l hl).blk hq).2 (by rw [hF]; exact Or.inr (Or.inr ⟨l, hl, hq⟩))⟩
    · rw [t0 q hq]; decide
    · have := t2 l hl q hq; omega
    · rw [t1 q hq]; decide
    · rw [t3 l hl q hq]; decide
    · rw [hk q ((w0 l hl).blk hq).2 (by have := t2 l hl q hq; omega)]
      exact t2 l hl q hq
  have hgs : GsOk w5 W.heap.size (partL τ w.heap.size F G) gs := g6.off o5 (fun q _ hp => by rw [hp]; decide) fun q hq ht => hk q hq (by omega)
  refine ⟨partL τ w.heap.size F G, ⟨⟨V6, V7, gs ++ [(s0, s1)], ρ, σ, es, ts, q1, ?_, h1, ⟨h2.1, by omega⟩, hro h3 b1.new, hro h4 b2.new, ⟨by rw [List.map_append]; exact q2, by rw [List.map_append]; exact q3, q4, key, by simp; omega⟩, hgs.snoc hg1 fun x hx q hq hq' => ?_⟩, ?_, fun q hq => ?_, fun q hq => ?_, h.s4.off o5 (fun q _ hp => by rw [hp]; decide) fun q hq ht => by rw [hk q hq (by omega)]; exact ht, h.bel.trans (o5.below h.bel.size fun q hq => h.old q (by rw [hq]; decide)), h.lX⟩, ⟨o5.mono fun q hq => Or.inr hq, fun q hq hp => partL_old hq (by rw [hF]; exact hp), fun q hq hp => Or.inr (partL_got hq (by rw [hF]; exact hp))⟩⟩
  · exact hb.off (to_bt o5) fun q hq => ⟨by
      rcases Nat.eq_zero_or_pos (ρ q) with g | g
      · exact g
      · have := (h3 q).2 (by omega); omega, by
      rcases Nat.eq_zero_or_pos (σ q) with g | g
      · exact g
      · have := (h4 q).2 (by omega); omega⟩
  · obtain ⟨i, hi, rfl⟩ := List.getElem_of_mem hx
    have h3 := (g6 i _ (List.getElem?_eq_getElem hi)).1
    obtain ⟨_, _, _, _, _, _, _, _, _, _, h9, _⟩ := h3
    have := h9 q hq'
    have := t0 q hq
    omega
  · rw [hk X (blk_lt hX) (by rw [h.tX]; decide)]
    exact h.tX
  · refine partL_non (by omega) fun hg => ?_
    rw [hG] at hg
    rcases hg with e | e
    · have := (ERow.lt q2 e).2; omega
    · have := (ERow.lt q3 e).2; omega
  · rcases Nat.lt_or_ge q w.heap.size with g | g
    · rcases Classical.em (F q) with e | e
      · rw [hF] at e
        rcases e with e | e | ⟨l, hl, e⟩
        · exact (ERow.lt r0 e).1
        · exact (ERow.lt r1 e).1
        · exact ((w1 l hl).blk e).1
      · rw [partL_old g e] at hq
        exact h.old q hq
    · have := h.bel.size
      omega
end
end Go.Proofs.YtjbkfppibnlmoaaGreatDoor
