/-
  couriermem.Book in memory: lists of bytes that were handed out, and what they were.
-/
import Derived.Test.YtoijhecphgdfnaaDoorDkMem
import Derived.Test.YtoijhecphgdfnaaDoorMem2
namespace Go.Proofs.YtoijhecphgdfnaaDoor.Bo
open Go.RowKit

theorem slinfo : ∃ i, Tryd.prog.info? 44 = some i ∧ i.zero = some (.slice none 0 0) ∧ i.size = 1 ∧ i.bytes = 24 := by
  have h : (Tryd.prog.info? 44).map (fun i => (i.zero, i.size, i.bytes)) = some (some (.slice none 0 0), 1, 24) := by kernel_rfl
  obtain ⟨i, hi, e⟩ := Option.map_eq_some_iff.1 h
  simp only [Prod.mk.injEq] at e
  exact ⟨i, hi, e.1, e.2.1, e.2.2⟩
theorem VRow.nil (w : World) (B : Nat) (e : TypeId) : VRow w B e (.slice none 0 0) [] := ⟨rfl, Or.inl ⟨rfl, rfl⟩⟩
theorem VRow.form {w : World} {B : Nat} {e : TypeId} {v : Value} {xs : List Value} (h : VRow w B e v xs) : (v = .slice none 0 0 ∧ xs = []) ∨ ∃ g cap, v = .slice (some ⟨g, 0, none⟩) xs.length cap ∧ B ≤ g ∧ g < w.heap.size ∧ xs.length ≤ cap ∧ cap ≤ maxLen := by
  rcases h.2 with ⟨rfl, h0⟩ | ⟨g, cap, cur, rfl, hB, hg, hn, hm, _, _⟩
  · exact Or.inl ⟨rfl, List.eq_nil_of_length_eq_zero h0⟩
  · refine Or.inr ⟨g, cap, rfl, hB, ?_, hn, hm⟩
    rcases Nat.lt_or_ge g w.heap.size with g1 | g1
    · exact g1
    · rw [Array.getElem?_eq_none g1] at hg; cases hg
theorem VRow.keep {w w' : World} {B : Nat} {e : TypeId} {v : Value} {xs : List Value} (h : VRow w B e v xs) (hk : ∀ g, v.ownBlock = some g → w'.heap[g]? = w.heap[g]?) : VRow w' B e v xs := by
  rcases h.2 with ⟨rfl, h0⟩ | ⟨g, cap, cur, rfl, hB, hg, rest⟩
  · exact ⟨h.1, Or.inl ⟨rfl, h0⟩⟩
  · exact ⟨h.1, Or.inr ⟨g, cap, cur, rfl, hB, by rw [hk g rfl]; exact hg, rest⟩⟩
theorem VRow.lt {w : World} {B : Nat} {e : TypeId} {v : Value} {xs : List Value} (h : VRow w B e v xs) {g : Nat} (hg : v.ownBlock = some g) : B ≤ g ∧ g < w.heap.size := by
  rcases h.form with ⟨rfl, _⟩ | ⟨g', cap, rfl, hB, hl, _⟩
  · cases hg
  · simp only [Value.ownBlock, Option.some.injEq] at hg; subst hg; exact ⟨hB, hl⟩
theorem VRow.slot {w : World} {B : Nat} {e : TypeId} {xs : List Value} {g cap n : Nat} (h : VRow w B e (.slice (some ⟨g, 0, none⟩) n cap) xs) {j : Nat} {u : Value} (hj : xs[j]? = some u) : w.cell? ⟨g, j, none⟩ = some u := by
  rcases h.2 with ⟨h0, _⟩ | ⟨g', cap', cur, e', hB, hg, hn, hm, hc, ht⟩
  · cases h0
  · simp only [Value.slice.injEq, Option.some.injEq, Addr.mk.injEq, and_true] at e'
    obtain ⟨rfl, rfl, rfl⟩ := e'
    have hl := (List.getElem?_eq_some_iff.1 hj).1
    have e1 : (cur.toList.take (xs.length * 1))[j]? = xs[j]? := by rw [ht]
    rw [List.getElem?_take, if_pos (by omega)] at e1
    have e2 : w.cell? ⟨g, j, none⟩ = cur[j]? := by simp [World.cell?, hg]
    rw [e2, ← Array.getElem?_toList, e1, hj]
theorem VRow.off {P : Nat → Prop} {w w' : World} {B : Nat} {e : TypeId} {v : Value} {xs : List Value} (h : VRow w B e v xs) (o : Off P w w') (hP : ∀ g, v.ownBlock = some g → ¬ P g) : VRow w' B e v xs :=
  h.keep fun g hg => o.block g (h.lt hg).2 (hP g hg)
theorem Row.off {P : Nat → Prop} {w w' : World} {B : Nat} {v : Value} {xs : List Int} (h : Row w B v xs) (o : Off P w w') (hP : ∀ g, v.ownBlock = some g → ¬ P g) : Row w' B v xs :=
  h.keep fun g hg => o.block g (h.lt hg).2 (hP g hg)
/-- 'append' of one list to a list of lists. -/
theorem run_vpush {w : World} {B : Nat} {v : Value} {xs : List Value} (h : VRow w B 44 v xs) (hB : B ≤ w.heap.size) (hl : xs.length + 1 ≤ 1099511627776) (u : Value) (hu : u.oneCell' = true) :
    ∃ a n c w', (Builtin.append_ #[34, 34] 34 #[v, .slice (some ⟨w.heap.size, 0, none⟩) 1 1]).run Tryd.prog (w.alloc (.cells #[u] 44)) = .ok (.slice a n c) w' ∧ VRow w' B 44 (.slice a n c) (xs ++ [u]) ∧ Off (fun k => v.ownBlock = some k) w w' ∧ ((Value.slice a n c).ownBlock = v.ownBlock ∨ ∃ g, (Value.slice a n c).ownBlock = some g ∧ w.heap.size ≤ g) := by
  obtain ⟨i, hi, hz, hs, hby⟩ := slinfo
  have hrow : VRow (w.alloc (.cells #[u] 44)) B 44 v xs := h.keep (fun g e => ((Below.refl w.heap.size w).alloc (Nat.le_refl _) (.cells #[u] 44)).block g (h.lt e).2)
  obtain ⟨v', w', hr, r, p⟩ := run_append_two (P := Tryd.prog) (w.alloc (.cells #[u] 44)) B 34 34 44 i _ 24 Tryd.underlying34 hi hz hs hby rfl v xs hrow ⟨w.heap.size, 0, none⟩ 1 1 [u] rfl (cell_one_new w u _) (fun x hx => by simp only [List.mem_singleton] at hx; subst hx; exact hu) (by unfold maxLen; omega) (by omega) (by simp; omega)
  have hof : Off (fun k => v.ownBlock = some k) w w' := by
    refine ((Off.refl _ w).alloc (.cells #[u] 44)).trans ?_
    cases p with
    | same g cap hv hv' hg => rw [hv]; exact Off.of_grown hg
    | idle hv hm hw => omega
    | fresh cap hv' hg hs => exact (Off.of_grown hg).mono (fun k e => by cases e)
  cases p with
  | same g cap hv hv' hg => subst hv; subst hv'; exact ⟨_, _, _, w', hr, r, hof, Or.inl rfl⟩
  | idle hv hm hw => omega
  | fresh cap hv' hg hs => subst hv'; exact ⟨_, _, _, w', hr, r, hof, Or.inr ⟨_, rfl, by simp⟩⟩
/-- One list of the book: where it lies, what it holds; the copy, what that holds. -/
structure Ent where
  val : Value
  was : Value
  bs : List Int
  old : List Int
/-- The book at block K. The blocks' roles: 1 the book, 2 and 3 its two lists, 4 the copies, 6 + 2 i the list of place i; 0: none of them. -/
structure Bk (w : World) (B K : Nat) (ux : Nat → Value) (ρ : Nat → Nat) (vb vw : Value) (es : List Ent) : Prop where
  c0 : w.cell? ⟨K, 4, none⟩ = some vb
  c1 : w.cell? ⟨K, 5, none⟩ = some vw
  c2 : w.cell? ⟨K, 6, none⟩ = some (.slice none 0 0)
  c3 : w.cell? ⟨K, 7, none⟩ = some (.slice none 0 0)
  c4 : w.cell? ⟨K, 8, none⟩ = some (.slice none 0 0)
  c5 : w.cell? ⟨K, 9, none⟩ = some (.slice none 0 0)
  cu : ∀ q, q < 4 → w.cell? ⟨K, q, none⟩ = some (ux q)
  fz : ∀ q, w.frozen? ⟨K, q, none⟩ = false
  hB : B ≤ w.heap.size
  rb : VRow w B 44 vb (es.map Ent.val)
  rws : VRow w B 44 vw (es.map Ent.was)
  val : ∀ (i : Nat) (e : Ent), es[i]? = some e → Row w B e.val e.bs
  was : ∀ (i : Nat) (e : Ent), es[i]? = some e → Row w B e.was e.old
  pK : ρ K = 1
  pb : ∀ g, vb.ownBlock = some g → ρ g = 2
  pw : ∀ g, vw.ownBlock = some g → ρ g = 3
  pwas : ∀ (i : Nat) (e : Ent), es[i]? = some e → ∀ g, e.was.ownBlock = some g → ρ g = 4
  pval : ∀ (i : Nat) (e : Ent), es[i]? = some e → ∀ g, e.val.ownBlock = some g → ρ g = 6 + 2 * i
  new : ∀ g, w.heap.size ≤ g → ρ g = 0
theorem Bk.lt {w : World} {B K : Nat} {ux : Nat → Value} {ρ : Nat → Nat} {vb vw : Value} {es : List Ent} (h : Bk w B K ux ρ vb vw es) : K < w.heap.size := by
  rcases Nat.lt_or_ge K w.heap.size with g | g
  · exact g
  · have := h.c0; simp [World.cell?, Array.getElem?_eq_none g] at this
/-- What others do, and new roles for new blocks. -/
theorem Bk.role {P : Nat → Prop} {w w' : World} {B K : Nat} {ux : Nat → Value} {ρ ρ' : Nat → Nat} {vb vw : Value} {es : List Ent} (h : Bk w B K ux ρ vb vw es) (o : Off P w w') (hP : ∀ k, P k → ρ k = 0 ∨ ρ k = 5) (hr : ∀ k, k < w.heap.size → ρ k ≠ 0 → ρ k ≠ 5 → ρ' k = ρ k) (hn : ∀ g, w'.heap.size ≤ g → ρ' g = 0) : Bk w' B K ux ρ' vb vw es := by
  have hK := h.lt
  have nP : ∀ {k r : Nat}, ρ k = r → r ≠ 0 → r ≠ 5 → ¬ P k := fun {k r} e h0 h5 p => by rcases hP k p with q | q <;> omega
  have hc : ∀ q, w'.cell? ⟨K, q, none⟩ = w.cell? ⟨K, q, none⟩ := fun q => o.cell (p := ⟨K, q, none⟩) hK (nP h.pK (by decide) (by decide))
  refine ⟨by rw [hc]; exact h.c0, by rw [hc]; exact h.c1, by rw [hc]; exact h.c2, by rw [hc]; exact h.c3, by rw [hc]; exact h.c4, by rw [hc]; exact h.c5, fun q hq => by rw [hc]; exact h.cu q hq, fun q => by rw [o.frozen (p := ⟨K, q, none⟩) hK (nP h.pK (by decide) (by decide))]; exact h.fz q, Nat.le_trans h.hB o.size,
    h.rb.off o (fun g e => nP (h.pb g e) (by decide) (by decide)), h.rws.off o (fun g e => nP (h.pw g e) (by decide) (by decide)),
    fun i e he => (h.val i e he).off o (fun g eg => nP (h.pval i e he g eg) (by omega) (by omega)), fun i e he => (h.was i e he).off o (fun g eg => nP (h.pwas i e he g eg) (by decide) (by decide)),
    ?_, fun g e => ?_, fun g e => ?_, fun i e he g eg => ?_, fun i e he g eg => ?_, hn⟩
  · rw [hr K hK (by rw [h.pK]; decide) (by rw [h.pK]; decide)]; exact h.pK
  · have := h.pb g e; rw [hr g (h.rb.lt e).2 (by omega) (by omega)]; exact this
  · have := h.pw g e; rw [hr g (h.rws.lt e).2 (by omega) (by omega)]; exact this
  · have := h.pwas i e he g eg; rw [hr g ((h.was i e he).lt eg).2 (by omega) (by omega)]; exact this
  · have := h.pval i e he g eg; rw [hr g ((h.val i e he).lt eg).2 (by omega) (by omega)]; exact this
theorem Bk.off {P : Nat → Prop} {w w' : World} {B K : Nat} {ux : Nat → Value} {ρ : Nat → Nat} {vb vw : Value} {es : List Ent} (h : Bk w B K ux ρ vb vw es) (o : Off P w w') (hP : ∀ k, P k → ρ k = 0) : Bk w' B K ux ρ vb vw es :=
  h.role o (fun k p => Or.inl (hP k p)) (fun _ _ _ _ => rfl) (fun g hg => h.new g (Nat.le_trans o.size hg))
/-- One list is touched. -/
theorem Bk.touch {w w' : World} {B K : Nat} {ux : Nat → Value} {ρ : Nat → Nat} {vb vw : Value} {es : List Ent} (h : Bk w B K ux ρ vb vw es) {i : Nat} {e : Ent} (he : es[i]? = some e) (o : Off (fun k => ρ k = 6 + 2 * i) w w') {bs' : List Int} (hv : Row w' B e.val bs') :
    Bk w' B K ux ρ vb vw (es.set i { e with bs := bs' }) := by
  have hK := h.lt
  have hi : i < es.length := (List.getElem?_eq_some_iff.1 he).1
  have hat : ∀ j x, (es.set i { e with bs := bs' })[j]? = some x → (j = i ∧ x = { e with bs := bs' }) ∨ (j ≠ i ∧ es[j]? = some x) := fun j x hx => by
    by_cases hj : i = j
    · subst hj
      rw [List.getElem?_set_self hi] at hx
      exact Or.inl ⟨rfl, by simpa using hx.symm⟩
    · rw [List.getElem?_set_ne hj] at hx
      exact Or.inr ⟨fun q => hj q.symm, hx⟩
  have hc : ∀ q, w'.cell? ⟨K, q, none⟩ = w.cell? ⟨K, q, none⟩ := fun q => o.cell (p := ⟨K, q, none⟩) hK (fun (q : ρ K = _) => by have := h.pK; omega)
  have hge : ∀ (f : Ent → Value), f { e with bs := bs' } = f e → (es.set i { e with bs := bs' }).map f = es.map f := fun f hf => by
    rw [List.map_set, hf]
    refine List.ext_getElem? fun j => ?_
    by_cases hj : i = j
    · subst hj; rw [List.getElem?_set_self (by simpa using hi), List.getElem?_map, he]; rfl
    · rw [List.getElem?_set_ne hj]
  refine ⟨by rw [hc]; exact h.c0, by rw [hc]; exact h.c1, by rw [hc]; exact h.c2, by rw [hc]; exact h.c3, by rw [hc]; exact h.c4, by rw [hc]; exact h.c5, fun q hq => by rw [hc]; exact h.cu q hq, fun q => by rw [o.frozen (p := ⟨K, q, none⟩) hK (fun (q : ρ K = _) => by have := h.pK; omega)]; exact h.fz q, Nat.le_trans h.hB o.size,
    ?_, ?_, fun j x hx => ?_, fun j x hx => ?_, h.pK, h.pb, h.pw, fun j x hx g eg => ?_, fun j x hx g eg => ?_, fun g hg => h.new g (Nat.le_trans o.size hg)⟩
  · rw [hge Ent.val rfl]; exact h.rb.off o (fun g e (q : ρ g = _) => by have := h.pb g e; omega)
  · rw [hge Ent.was rfl]; exact h.rws.off o (fun g e (q : ρ g = _) => by have := h.pw g e; omega)
  · rcases hat j x hx with ⟨rfl, rfl⟩ | ⟨hj, hx'⟩
    · exact hv
    · exact (h.val j x hx').off o (fun g eg (q : ρ g = _) => by have := h.pval j x hx' g eg; omega)
  · rcases hat j x hx with ⟨rfl, rfl⟩ | ⟨hj, hx'⟩
    · exact (h.was j e he).off o (fun g eg (q : ρ g = _) => by have := h.pwas j e he g eg; omega)
    · exact (h.was j x hx').off o (fun g eg (q : ρ g = _) => by have := h.pwas j x hx' g eg; omega)
  · rcases hat j x hx with ⟨rfl, rfl⟩ | ⟨hj, hx'⟩
    · exact h.pwas j e he g eg
    · exact h.pwas j x hx' g eg
  · rcases hat j x hx with ⟨rfl, rfl⟩ | ⟨hj, hx'⟩
    · exact h.pval j e he g eg
    · exact h.pval j x hx' g eg
end Go.Proofs.YtoijhecphgdfnaaDoor.Bo
