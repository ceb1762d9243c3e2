import Derived.Test.YtpcickhellkiaaaDoorMem2
/-
  couriermem.Book in memory: lists of bytes that were handed out, and what they were.
-/
namespace Go.Proofs.YtpcickhellkiaaaDoor.Bo
open Go.RowKit

theorem slinfo : ∃ i, Tryd.prog.info? 27 = some i ∧ i.zero = some (.slice none 0 0) ∧ i.size = 1 ∧ i.bytes = 24 := by
  have h : (Tryd.prog.info? 27).map (fun i => (i.zero, i.size, i.bytes)) = some (some (.slice none 0 0), 1, 24) := by kernel_rfl
  obtain ⟨i, hi, e⟩ := Option.map_eq_some_iff.1 h
  simp only [Prod.mk.injEq] at e
  exact ⟨i, hi, e.1, e.2.1, e.2.2⟩
theorem VRow.nil (w : World) (B : Nat) (e : TypeId) : VRow w B e (.slice none 0 0) [] := ⟨rfl, Or.inl ⟨rfl, rfl⟩⟩
theorem VRow.form {w : World} {B : Nat} {e : TypeId} {v : Value} {xs : List Value} (h : VRow w B e v xs) : (v = .slice none 0 0 ∧ xs = []) ∨ ∃ g cap, v = .slice (some ⟨g, 0, none⟩) xs.length cap ∧ B ≤ g ∧ g < w.heap.size ∧ xs.length ≤ cap ∧ cap ≤ maxLen := by
  rcases h.2 with ⟨rfl, h0⟩ | ⟨g, cap, cur, rfl, hB, hg, hn, hm, _, _⟩
  · exact Or.inl ⟨rfl, List.eq_nil_of_length_eq_zero h0⟩
  · refine Or.inr ⟨g, cap, rfl, hB, ?_, hn, hm⟩
    rcases Nat.lt_or_ge g w.heap.size with g1 | g1
    · exact g1
    · rw [Array.getElem?_eq_none g1] at hg; cases hg
theorem VRow.keep {w w' : World} {B : Nat} {e : TypeId} {v : Value} {xs : List Value} (h : VRow w B e v xs) (hk : ∀ g, v.ownBlock = some g → w'.heap[g]? = w.heap[g]?) : VRow w' B e v xs := by
  rcases h.2 with ⟨rfl, h0⟩ | ⟨g, cap, cur, rfl, hB, hg, rest⟩
  · exact ⟨h.1, Or.inl ⟨rfl, h0⟩⟩
  · exact ⟨h.1, Or.inr ⟨g, cap, cur, rfl, hB, by rw [hk g rfl]; exact hg, rest⟩⟩
theorem VRow.lt {w : World} {B : Nat} {e : TypeId} {v : Value} {xs : List Value} (h : VRow w B e v xs) {g : Nat} (hg : v.ownBlock = some g) : B ≤ g ∧ g < w.heap.size := by
  rcases h.form with ⟨rfl, _⟩ | ⟨g', cap, rfl, hB, hl, _⟩
  · cases hg
  · simp only [Value.ownBlock, Option.some.injEq] at hg; subst hg; exact ⟨hB, hl⟩
theorem VRow.slot {w : World} {B : Nat} {e : TypeId} {xs : List Value} {g cap n : Nat} (h : VRow w B e (.slice (some ⟨g, 0, none⟩) n cap) xs) {j : Nat} {u : Value} (hj : xs[j]? = some u) : w.cell? ⟨g, j, none⟩ = some u := by
  rcases h.2 with ⟨h0, _⟩ | ⟨g', cap', cur, e', hB, hg, hn, hm, hc, ht⟩
  · cases h0
  · simp only [Value.slice.injEq, Option.some.injEq, Addr.mk.injEq, and_true] at e'
    obtain ⟨rfl, rfl, rfl⟩ := e'
    have hl := (List.getElem?_eq_some_iff.1 hj).1
    have e1 : (cur.toList.take (xs.length * 1))[j]? = xs[j]? := by rw [ht]
    rw [List.getElem?_take, if_pos (by omega)] at e1
    have e2 : w.cell? ⟨g, j, none⟩ = cur[j]? := by simp [World.cell?, hg]
    rw [e2, ← Array.getElem?_toList, e1, hj]
theorem VRow.off {P : Nat → Prop} {w w' : World} {B : Nat} {e : TypeId} {v : Value} {xs : List Value} (h : VRow w B e v xs) (o : Off P w w') (hP : ∀ g, v.ownBlock = some g → ¬ P g) : VRow w' B e v xs :=
  h.keep fun g hg => o.block g (h.lt hg).2 (hP g hg)
theorem Row.off {P : Nat → Prop} {w w' : World} {B : Nat} {v : Value} {xs : List Int} (h : Row w B v xs) (o : Off P w w') (hP : ∀ g, v.ownBlock = some g → ¬ P g) : Row w' B v xs :=
  h.keep fun g hg => o.block g (h.lt hg).2 (hP g hg)
/-- 'append' of one list to a list of lists. -/
theorem run_vpush {w : World} {B : Nat} {v : Value} {xs : List Value} (h : VRow w B 27 v xs) (hB : B ≤ w.heap.size) (hl : xs.length + 1 ≤ 1099511627776) (u : Value) (hu : u.oneCell' = true) :
    ∃ a n c w', (Builtin.append_ #[22, 22] 22 #[v, .slice (some ⟨w.heap.size, 0, none⟩) 1 1]).run Tryd.prog (w.alloc (.cells #[u] 27)) = .ok (.slice a n c) w' ∧ VRow w' B 27 (.slice a n c) (xs ++ [u]) ∧ Off (fun k => v.ownBlock = some k) w w' ∧ ((Value.slice a n c).ownBlock = v.ownBlock ∨ ∃ g, (Value.slice a n c).ownBlock = some g ∧ w.heap.size ≤ g) := by
  obtain ⟨i, hi, hz, hs, hby⟩ := slinfo
  have hrow : VRow (w.alloc (.cells #[u] 27)) B 27 v xs := h.keep (fun g e => ((Below.refl w.heap.size w).alloc (Nat.le_refl _) (.cells #[u] 27)).block g (h.lt e).2)
  obtain ⟨v', w', hr, r, p⟩ := run_append_two (P := Tryd.prog) (w.alloc (.cells #[u] 27)) B 22 22 27 i _ 24 Tryd.underlying22 hi hz hs hby rfl v xs hrow ⟨w.heap.size, 0, none⟩ 1 1 [u] rfl (cell_one_new w u _) (fun x hx => by simp only [List.mem_singleton] at hx; subst hx; exact hu) (by unfold maxLen; omega) (by omega) (by simp; omega)
  have hof : Off (fun k => v.ownBlock = some k) w w' := by
    refine ((Off.refl _ w).alloc (.cells #[u] 27)).trans ?_
    cases p with
    | same g cap hv hv' hg => rw [hv]; exact Off.of_grown hg
    | idle hv hm hw => omega
    | fresh cap hv' hg hs => exact (Off.of_grown hg).mono (fun k e => by cases e)
  cases p with
  | same g cap hv hv' hg => subst hv; subst hv'; exact ⟨_, _, _, w', hr, r, hof, Or.inl rfl⟩
  | idle hv hm hw => omega
  | fresh cap hv' hg hs => subst hv'; exact ⟨_, _, _, w', hr, r, hof, Or.inr ⟨_, rfl, by simp⟩⟩
/-- One list of the book: where it lies, what it holds; the copy, what that holds. -/
structure Ent where
  val : Value
  was : Value
  bs : List Int
  old : List Int
/-- The book at block K. The blocks' roles: 1 the book, 2 and 3 its two lists, 4 the copies, 6 + 2 i the list of place i; 0: none of them. -/
structure Bk (w : World) (B K : Nat) (ρ : Nat → Nat) (vb vw : Value) (es : List Ent) : Prop where
  c0 : w.cell? ⟨K, 0, none⟩ = some vb
  c1 : w.cell? ⟨K, 1, none⟩ = some vw
  c2 : w.cell? ⟨K, 2, none⟩ = some (.slice none 0 0)
  c3 : w.cell? ⟨K, 3, none⟩ = some (.slice none 0 0)
  c4 : w.cell? ⟨K, 4, none⟩ = some (.slice none 0 0)
  c5 : w.cell? ⟨K, 5, none⟩ = some (.slice none 0 0)
  fz : ∀ q, w.frozen? ⟨K, q, none⟩ = false
  hB : B ≤ w.heap.size
  rb : VRow w B 27 vb (es.map Ent.val)
  rws : VRow w B 27 vw (es.map Ent.was)
  val : ∀ (i : Nat) (e : Ent), es[i]? = some e → Row w B e.val e.bs
  was : ∀ (i : Nat) (e : Ent), es[i]? = some e → Row w B e.was e.old
  pK : ρ K = 1
  pb : ∀ g, vb.ownBlock = some g → ρ g = 2
  pw : ∀ g, vw.ownBlock = some g → ρ g = 3
  pwas : ∀ (i : Nat) (e : Ent), es[i]? = some e → ∀ g, e.was.ownBlock = some g → ρ g = 4
  pval : ∀ (i : Nat) (e : Ent), es[i]? = some e → ∀ g, e.val.ownBlock = some g → ρ g = 6 + 2 * i
  new : ∀ g, w.heap.size ≤ g → ρ g = 0
theorem Bk.lt {w : World} {B K : Nat} {ρ : Nat → Nat} {vb vw : Value} {es : List Ent} (h : Bk w B K ρ vb vw es) : K < w.heap.size := by
  rcases Nat.lt_or_ge K w.heap.size with g | g
  · exact g
  · have := h.c0; simp [World.cell?, Array.getElem?_eq_none g] at this
/-- What others do, and new roles for new blocks. -/
theorem Bk.role {P : Nat → Prop} {w w' : World} {B K : Nat} {ρ ρ' : Nat → Nat} {vb vw : Value} {es : List Ent} (h : Bk w B K ρ vb vw es) (o : Off P w w') (hP : ∀ k, P k → ρ k = 0 ∨ ρ k = 5) (hr : ∀ k, k < w.heap.size → ρ k ≠ 0 → ρ k ≠ 5 → ρ' k = ρ k) (hn : ∀ g, w'.heap.size ≤ g → ρ' g = 0) : Bk w' B K ρ' vb vw es := by
  have hK := h.lt
  have nP : ∀ {k r : Nat}, ρ k = r → r ≠ 0 → r ≠ 5 → ¬ P k := fun {k r} e h0 h5 p => by rcases hP k p with q | q <;> omega
  have hc : ∀ q, w'.cell? ⟨K, q, none⟩ = w.cell? ⟨K, q, none⟩ := fun q => o.cell (p := ⟨K, q, none⟩) hK (nP h.pK (by decide) (by decide))
  refine ⟨by rw [hc]; exact h.c0, by rw [hc]; exact h.c1, by rw [hc]; exact h.c2, by rw [hc]; exact h.c3, by rw [hc]; exact h.c4, by rw [hc]; exact h.c5, fun q => by rw [o.frozen (p := ⟨K, q, none⟩) hK (nP h.pK (by decide) (by decide))]; exact h.fz q, Nat.le_trans h.hB o.size,
    h.rb.off o (fun g e => nP (h.pb g e) (by decide) (by decide)), h.rws.off o (fun g e => nP (h.pw g e) (by decide) (by decide)),
    fun i e he => (h.val i e he).off o (fun g eg => nP (h.pval i e he g eg) (by omega) (by omega)), fun i e he => (h.was i e he).off o (fun g eg => nP (h.pwas i e he g eg) (by decide) (by decide)),
    ?_, fun g e => ?_, fun g e => ?_, fun i e he g eg => ?_, fun i e he g eg => ?_, hn⟩
  · rw [hr K hK (by rw [h.pK]; decide) (by rw [h.pK]; decide)]; exact h.pK
  · have := h.pb g e; rw [hr g (h.rb.lt e).2 (by omega) (by omega)]; exact this
  · have := h.pw g e; rw [hr g (h.rws.lt e).2 (by omega) (by omega)]; exact this
  · have := h.pwas i e he g eg; rw [hr g ((h.was i e he).lt eg).2 (by omega) (by omega)]; exact this
  · have := h.pval i e he g eg; rw [hr g ((h.val i e he).lt eg).2 (by omega) (by omega)]; exact this
theorem Bk.off {P : Nat → Prop} {w w' : World} {B K : Nat} {ρ : Nat → Nat} {vb vw : Value} {es : List Ent} (h : Bk w B K ρ vb vw es) (o : Off P w w') (hP : ∀ k, P k → ρ k = 0) : Bk w' B K ρ vb vw es :=
  h.role o (fun k p => Or.inl (hP k p)) (fun _ _ _ _ => rfl) (fun g hg => h.new g (Nat.le_trans o.size hg))
/-- One list is touched. -/
theorem Bk.touch {w w' : World} {B K : Nat} {ρ : Nat → Nat} {vb vw : Value} {es : List Ent} (h : Bk w B K ρ vb vw es) {i : Nat} {e : Ent} (he : es[i]? = some e) (o : Off (fun k => ρ k = 6 + 2 * i) w w') {bs' : List Int} (hv : Row w' B e.val bs') :
    Bk w' B K ρ vb vw (es.set i { e with bs := bs' }) := by
  have hK := h.lt
  have hi : i < es.length := (List.getElem?_eq_some_iff.1 he).1
  have hat : ∀ j x, (es.set i { e with bs := bs' })[j]? = some x → (j = i ∧ x = { e with bs := bs' }) ∨ (j ≠ i ∧ es[j]? = some x) := fun j x hx => by
    by_cases hj : i = j
    · subst hj
      rw [List.getElem?_set_self hi] at hx
      exact Or.inl ⟨rfl, by simpa using hx.symm⟩
    · rw [List.getElem?_set_ne hj] at hx
      exact Or.inr ⟨fun q => hj q.symm, hx⟩
  have hc : ∀ q, w'.cell? ⟨K, q, none⟩ = w.cell? ⟨K, q, none⟩ := fun q => o.cell (p := ⟨K, q, none⟩) hK (fun (q : ρ K = _) => by have := h.pK; omega)
  have hge : ∀ (f : Ent → Value), f { e with bs := bs' } = f e → (es.set i { e with bs := bs' }).map f = es.map f := fun f hf => by
    rw [List.map_set, hf]
    refine List.ext_getElem? fun j => ?_
    by_cases hj : i = j
    · subst hj; rw [List.getElem?_set_self (by simpa using hi), List.getElem?_map, he]; rfl
    · rw [List.getElem?_set_ne hj]
  refine ⟨by rw [hc]; exact h.c0, by rw [hc]; exact h.c1, by rw [hc]; exact h.c2, by rw [hc]; exact h.c3, by rw [hc]; exact h.c4, by rw [hc]; exact h.c5, fun q => by rw [o.frozen (p := ⟨K, q, none⟩) hK (fun (q : ρ K = _) => by have := h.pK; omega)]; exact h.fz q, Nat.le_trans h.hB o.size,
    ?_, ?_, fun j x hx => ?_, fun j x hx => ?_, h.pK, h.pb, h.pw, fun j x hx g eg => ?_, fun j x hx g eg => ?_, fun g hg => h.new g (Nat.le_trans o.size hg)⟩
  · rw [hge Ent.val rfl]; exact h.rb.off o (fun g e (q : ρ g = _) => by have := h.pb g e; omega)
  · rw [hge Ent.was rfl]; exact h.rws.off o (fun g e (q : ρ g = _) => by have := h.pw g e; omega)
  · rcases hat j x hx with ⟨rfl, rfl⟩ | ⟨hj, hx'⟩
    · exact hv
    · exact (h.val j x hx').off o (fun g eg (q : ρ g = _) => by have := h.pval j x hx' g eg; omega)
  · rcases hat j x hx with ⟨rfl, rfl⟩ | ⟨hj, hx'⟩
    · exact (h.was j e he).off o (fun g eg (q : ρ g = _) => by have := h.pwas j e he g eg; omega)
    · exact (h.was j x hx').off o (fun g eg (q : ρ g = _) => by have := h.pwas j x hx' g eg; omega)
  · rcases hat j x hx with ⟨rfl, rfl⟩ | ⟨hj, hx'⟩
    · exact h.pwas j e he g eg
    · exact h.pwas j x hx' g eg
  · rcases hat j x hx with ⟨rfl, rfl⟩ | ⟨hj, hx'⟩
    · exact h.pval j e he g eg
    · exact h.pval j x hx' g eg
end Go.Proofs.YtpcickhellkiaaaDoor.Bo

/-
  Book.Take.
-/
namespace Go.Proofs.YtpcickhellkiaaaDoor.Bo
open Go.RowKit

theorem Row.asByts {w : World} {B n c : Nat} {a : Option Addr} {xs : List Int} (h : Row w B (.slice a n c) xs) : Byts w a n xs := by
  rcases h.form with ⟨e, rfl⟩ | ⟨g, cap, e, _⟩
  · cases e; exact ⟨rfl, fun j hj => by omega⟩
  · cases e; exact h.bytes
theorem Row.len {w : World} {B n c : Nat} {a : Option Addr} {xs : List Int} (h : Row w B (.slice a n c) xs) : xs.length = n := h.asByts.len
theorem slice_one (a : Option Addr) (n c : Nat) : (Value.slice a n c).oneCell' = true := rfl
/-- The roles behind a Take. -/
def roleT (ρ : Nat → Nat) (N g b v : Nat) (l : Option Nat) (n : Nat) (k : Nat) : Nat := if l = some k then 6 + 2 * n else if k < N then ρ k else if k = g then 4 else if k = b then 2 else if k = v then 3 else 0
theorem take_done {w wr w2 w3 w4 : World} {B K : Nat} {ρ : Nat → Nat} {vb vw : Value} {es : List Ent} {a ab aw : Option Addr} {n c nb cb nw cw : Nat} {bs : List Int} (h : Bk w B K ρ vb vw es) (hl : Row w B (.slice a n c) bs) (hz : ∀ g, (Value.slice a n c).ownBlock = some g → ρ g = 0)
    (hrow : Row wr w.heap.size (.slice (some ⟨w.heap.size, 0, none⟩) n n) bs) (hbel : Below w.heap.size w wr) (hb1 : Bk wr B K ρ vb vw es) (r2 : VRow w2 B 27 (.slice ab nb cb) (es.map Ent.val ++ [.slice a n c])) (o2 : Off (fun k => vb.ownBlock = some k) wr w2) (s2 : (Value.slice ab nb cb).ownBlock = vb.ownBlock ∨ ∃ g, (Value.slice ab nb cb).ownBlock = some g ∧ wr.heap.size ≤ g)
    (hw3 : w2.setCell ⟨K, 0, none⟩ (.slice ab nb cb) = w3) (r4 : VRow w4 B 27 (.slice aw nw cw) (es.map Ent.was ++ [.slice (some ⟨w.heap.size, 0, none⟩) n n])) (o4 : Off (fun k => vw.ownBlock = some k) w3 w4) (s4 : (Value.slice aw nw cw).ownBlock = vw.ownBlock ∨ ∃ g, (Value.slice aw nw cw).ownBlock = some g ∧ w3.heap.size ≤ g) :
    ∃ ρ' vb' vw' was, Bk (w4.setCell ⟨K, 1, none⟩ (.slice aw nw cw)) B K ρ' vb' vw' (es ++ [⟨.slice a n c, was, bs, bs⟩]) ∧ Off (fun k => ρ k = 1 ∨ ρ k = 2 ∨ ρ k = 3) w (w4.setCell ⟨K, 1, none⟩ (.slice aw nw cw)) ∧ (∀ k, k < w.heap.size → (Value.slice a n c).ownBlock ≠ some k → ρ' k = ρ k) := by
  have hK := h.lt
  have hg1 : w.heap.size < wr.heap.size := (hrow.lt (g := w.heap.size) rfl).2
  have hs12 : wr.heap.size ≤ w2.heap.size := o2.size
  have hs23 : w2.heap.size = w3.heap.size := by rw [← hw3]; simp
  have hs34 : w3.heap.size ≤ w4.heap.size := o4.size
  obtain ⟨w5, hw5⟩ : ∃ x, w4.setCell ⟨K, 1, none⟩ (.slice aw nw cw) = x := ⟨_, rfl⟩
  have hs45 : w4.heap.size = w5.heap.size := by rw [← hw5]; simp
  have o23 : Off (fun k => k = K) w2 w3 := by rw [← hw3]; exact Off.setCell (P := fun k => k = K) (Off.refl _ _) (p := ⟨K, 0, none⟩) rfl _
  have o45 : Off (fun k => k = K) w4 w5 := by rw [← hw5]; exact Off.setCell (P := fun k => k = K) (Off.refl _ _) (p := ⟨K, 1, none⟩) rfl _
  have or5 : Off (fun k => ρ k = 1 ∨ ρ k = 2 ∨ ρ k = 3) wr w5 := by
    refine ((o2.mono (fun k e => Or.inr (Or.inl (hb1.pb k e)))).trans (o23.mono (fun k e => Or.inl (by rw [e]; exact h.pK)))).trans ((o4.mono (fun k e => Or.inr (Or.inr (hb1.pw k e)))).trans (o45.mono (fun k e => Or.inl (by rw [e]; exact h.pK))))
  have o05 : Off (fun k => ρ k = 1 ∨ ρ k = 2 ∨ ρ k = 3) w w5 := (Off.of_below hbel).trans or5
  have nK2 : vb.ownBlock ≠ some K := fun e => by have h1 := hb1.pb K e; have h2 := hb1.pK; omega
  have nK3 : vw.ownBlock ≠ some K := fun e => by have h1 := hb1.pw K e; have h2 := hb1.pK; omega
  -- the numbers of the new blocks
  obtain ⟨gb, hgb⟩ : ∃ g, ∀ k, (Value.slice ab nb cb).ownBlock = some k → (k < w.heap.size ∧ ρ k = 2) ∨ (k = g ∧ wr.heap.size ≤ k ∧ k < w3.heap.size) := by
    rcases s2 with e | ⟨g, e, hg⟩
    · refine ⟨0, fun k hk => Or.inl ?_⟩
      rw [e] at hk
      exact ⟨(h.rb.lt hk).2, h.pb k hk⟩
    · refine ⟨g, fun k hk => Or.inr ?_⟩
      have h1 := (r2.lt hk).2
      rw [e] at hk
      simp only [Option.some.injEq] at hk
      omega
  obtain ⟨gw, hgw⟩ : ∃ g, ∀ k, (Value.slice aw nw cw).ownBlock = some k → (k < w.heap.size ∧ ρ k = 3) ∨ (k = g ∧ w3.heap.size ≤ k ∧ k < w4.heap.size) := by
    rcases s4 with e | ⟨g, e, hg⟩
    · refine ⟨0, fun k hk => Or.inl ?_⟩
      rw [e] at hk
      exact ⟨(h.rws.lt hk).2, h.pw k hk⟩
    · refine ⟨g, fun k hk => Or.inr ?_⟩
      have h1 := (r4.lt hk).2
      rw [e] at hk
      simp only [Option.some.injEq] at hk
      omega
  have hlb : ∀ k, (Value.slice a n c).ownBlock = some k → k < w.heap.size ∧ ρ k = 0 := fun k e => ⟨(hl.lt e).2, hz k e⟩
  refine ⟨roleT ρ w.heap.size w.heap.size (if wr.heap.size ≤ gb ∧ gb < w3.heap.size then gb else 0) (if w3.heap.size ≤ gw ∧ gw < w4.heap.size then gw else 0) (Value.slice a n c).ownBlock es.length, .slice ab nb cb, .slice aw nw cw, .slice (some ⟨w.heap.size, 0, none⟩) n n, ?_, by rw [hw5]; exact o05, fun k hk hn => by simp only [roleT, if_neg hn, if_pos hk]⟩
  rw [hw5]
  have hold : ∀ k, k < w.heap.size → ρ k ≠ 0 → roleT ρ w.heap.size w.heap.size (if wr.heap.size ≤ gb ∧ gb < w3.heap.size then gb else 0) (if w3.heap.size ≤ gw ∧ gw < w4.heap.size then gw else 0) (Value.slice a n c).ownBlock es.length k = ρ k := fun k hk hr => by
    have hn : (Value.slice a n c).ownBlock ≠ some k := fun e => hr (hlb k e).2
    simp only [roleT, if_neg hn, if_pos hk]
  have hat : ∀ (j : Nat) (x : Ent), (es ++ [⟨.slice a n c, .slice (some ⟨w.heap.size, 0, none⟩) n n, bs, bs⟩])[j]? = some x → (j < es.length ∧ es[j]? = some x) ∨ (j = es.length ∧ x = ⟨.slice a n c, .slice (some ⟨w.heap.size, 0, none⟩) n n, bs, bs⟩) := fun j x hx => by
    rcases Nat.lt_or_ge j es.length with g | g
    · rw [List.getElem?_append_left g] at hx; exact Or.inl ⟨g, hx⟩
    · rw [List.getElem?_append_right g] at hx
      rcases Nat.eq_or_lt_of_le g with e | e
      · subst e; simp at hx; exact Or.inr ⟨rfl, hx.symm⟩
      · rw [List.getElem?_eq_none (by simp; omega)] at hx; cases hx
  have cK : ∀ q, q ≠ 0 → q ≠ 1 → w5.cell? ⟨K, q, none⟩ = w.cell? ⟨K, q, none⟩ := fun q h0 h1 => by
    rw [← hw5, World.cell?_setCell_other _ _ _ _ (by simp only [ne_eq, Addr.mk.injEq, not_and]; intro _ e; omega), o4.cell (p := ⟨K, q, none⟩) (by show K < _; omega) nK3, ← hw3, World.cell?_setCell_other _ _ _ _ (by simp only [ne_eq, Addr.mk.injEq, not_and]; intro _ e; omega), o2.cell (p := ⟨K, q, none⟩) (by show K < _; omega) nK2, hbel.cell (p := ⟨K, q, none⟩) hK]
  have fK : ∀ q, w5.frozen? ⟨K, q, none⟩ = w.frozen? ⟨K, q, none⟩ := fun q => by
    rw [← hw5, World.frozen?_setCell, o4.frozen (p := ⟨K, q, none⟩) (by show K < _; omega) nK3, ← hw3, World.frozen?_setCell, o2.frozen (p := ⟨K, q, none⟩) (by show K < _; omega) nK2, hbel.frozen (p := ⟨K, q, none⟩) hK]
  have c03 : w3.cell? ⟨K, 0, none⟩ = some (.slice ab nb cb) := by
    rw [← hw3]
    exact World.cell?_setCell_same _ _ _ (show _ = some vb by rw [o2.cell (p := ⟨K, 0, none⟩) (by show K < _; omega) nK2]; exact hb1.c0)
  have c05 : w5.cell? ⟨K, 0, none⟩ = some (.slice ab nb cb) := by
    rw [← hw5, World.cell?_setCell_other _ _ _ _ (by simp), o4.cell (p := ⟨K, 0, none⟩) (by show K < _; omega) nK3]; exact c03
  have c15 : w5.cell? ⟨K, 1, none⟩ = some (.slice aw nw cw) := by
    rw [← hw5]
    refine World.cell?_setCell_same _ _ _ (?_ : _ = some vw)
    rw [o4.cell (p := ⟨K, 1, none⟩) (by show K < _; omega) nK3, ← hw3, World.cell?_setCell_other _ _ _ _ (by simp), o2.cell (p := ⟨K, 1, none⟩) (by show K < _; omega) nK2]; exact hb1.c1
  have row5 : ∀ {v : Value} {xs : List Int}, Row w B v xs → (∀ g, v.ownBlock = some g → ρ g ≠ 1 ∧ ρ g ≠ 2 ∧ ρ g ≠ 3) → Row w5 B v xs := fun {v xs} hr hn => hr.off o05 (fun g e p => by have := hn g e; omega)
  refine ⟨c05, c15, by rw [cK 2 (by decide) (by decide)]; exact h.c2, by rw [cK 3 (by decide) (by decide)]; exact h.c3, by rw [cK 4 (by decide) (by decide)]; exact h.c4, by rw [cK 5 (by decide) (by decide)]; exact h.c5, fun q => by rw [fK]; exact h.fz q, by have := h.hB; omega,
    ?_, ?_, fun j x hx => ?_, fun j x hx => ?_, by rw [hold K hK (by rw [h.pK]; decide)]; exact h.pK, fun g e => ?_, fun g e => ?_, fun j x hx g e => ?_, fun j x hx g e => ?_, fun g hg => ?_⟩
  · rw [List.map_append]
    refine ((r2.off o23 (fun g e p => ?_)).off o4 (fun g e p => ?_)).off o45 (fun g e p => ?_)
    · subst p; rcases hgb _ e with q | q
      · have := h.pK; omega
      · omega
    · have hp := hb1.pw g p
      rcases hgb _ e with q | q
      · omega
      · have := h.new g (by omega); omega
    · subst p; rcases hgb _ e with q | q
      · have := h.pK; omega
      · omega
  · rw [List.map_append]
    refine r4.off o45 (fun g e p => ?_)
    subst p; rcases hgw _ e with q | q
    · have := h.pK; omega
    · omega
  · rcases hat j x hx with ⟨_, hx'⟩ | ⟨rfl, rfl⟩
    · exact row5 (h.val j x hx') (fun g e => by have := h.pval j x hx' g e; omega)
    · exact row5 hl (fun g e => by have := (hlb g e).2; omega)
  · rcases hat j x hx with ⟨_, hx'⟩ | ⟨rfl, rfl⟩
    · exact row5 (h.was j x hx') (fun g e => by have := h.pwas j x hx' g e; omega)
    · have r5 := hrow.off or5 (fun g e p => by
        simp only [Value.ownBlock, Option.some.injEq] at e; subst e
        have := h.new w.heap.size (Nat.le_refl _); omega)
      exact ⟨r5.1, by
        rcases r5.2 with q | ⟨g', c', u', e1, hb, rest⟩
        · exact Or.inl q
        · exact Or.inr ⟨g', c', u', e1, Nat.le_trans h.hB hb, rest⟩⟩
  · rcases hgb g e with ⟨q1, q2⟩ | ⟨q1, q2, q3⟩
    · rw [hold g q1 (by omega)]; exact q2
    · have hn : (Value.slice a n c).ownBlock ≠ some g := fun e' => by have := (hlb g e').1; omega
      subst q1
      simp only [roleT, if_neg hn, if_pos (And.intro q2 q3)]
      rw [if_neg (by omega), if_neg (by omega), if_pos trivial]
  · rcases hgw g e with ⟨q1, q2⟩ | ⟨q1, q2, q3⟩
    · rw [hold g q1 (by omega)]; exact q2
    · have hn : (Value.slice a n c).ownBlock ≠ some g := fun e' => by have := (hlb g e').1; omega
      subst q1
      simp only [roleT, if_neg hn, if_pos (And.intro q2 q3)]
      rw [if_neg (by omega), if_neg (by omega), if_neg (by split <;> omega), if_pos trivial]
  · rcases hat j x hx with ⟨_, hx'⟩ | ⟨rfl, rfl⟩
    · have hp := h.pwas j x hx' g e
      rw [hold g ((h.was j x hx').lt e).2 (by omega)]; exact hp
    · simp only [Value.ownBlock, Option.some.injEq] at e; subst e
      have hn : (Value.slice a n c).ownBlock ≠ some w.heap.size := fun e' => by have := (hlb _ e').1; omega
      simp only [roleT, if_neg hn]
      rw [if_neg (by omega), if_pos trivial]
  · rcases hat j x hx with ⟨_, hx'⟩ | ⟨rfl, rfl⟩
    · have hp := h.pval j x hx' g e
      rw [hold g ((h.val j x hx').lt e).2 (by omega)]; exact hp
    · simp only [roleT, if_pos e]
  · have hn : (Value.slice a n c).ownBlock ≠ some g := fun e' => by have := (hlb g e').1; omega
    simp only [roleT, if_neg hn]
    rw [if_neg (by omega), if_neg (by omega), if_neg (by split <;> omega), if_neg (by split <;> omega)]
set_option maxRecDepth 100000 in
set_option maxHeartbeats 2000000 in
theorem Take_any {w : World} {B K : Nat} {ρ : Nat → Nat} {vb vw : Value} {es : List Ent} {a : Option Addr} {n c : Nat} {bs : List Int} (h : Bk w B K ρ vb vw es) (hl : Row w B (.slice a n c) bs) (hz : ∀ g, (Value.slice a n c).ownBlock = some g → ρ g = 0) (hn : n ≤ 70368744177664) (hm : es.length + 1 ≤ 1099511627776) :
    Calls Tryd.prog 55 #[.pointer (some ⟨K, 0, none⟩), .slice a n c] w fun e w' => e = .returned (.tuple #[]) ∧ ∃ ρ' vb' vw' was, Bk w' B K ρ' vb' vw' (es ++ [⟨.slice a n c, was, bs, bs⟩]) ∧ Off (fun k => ρ k = 1 ∨ ρ k = 2 ∨ ρ k = 3) w w' ∧ (∀ k, k < w.heap.size → (Value.slice a n c).ownBlock ≠ some k → ρ' k = ρ k) := by
  have HH : Hid (Bk w B K ρ vb vw es) := h
  have HL : Hid (Row w B (.slice a n c) bs) := hl
  have HN : Hid (bs.length = n) := hl.len
  have HK : Hid (K < w.heap.size) := h.lt
  have HZ : Hid (∀ g, (Value.slice a n c).ownBlock = some g → ρ g = 0) := hz
  clear h hl hz
  obtain ⟨w1, hmk, hR, hB1⟩ := run_make_bytes (w := w) n (by omega)
  have HR : Hid (Row w1 w.heap.size (.slice (some ⟨w.heap.size, 0, none⟩) n n) (List.replicate n 0) ∧ Below w.heap.size w w1) := ⟨hR, hB1⟩
  clear hR hB1
  go_enter Tryd.func55, Tryd.ntmps55
  go_wp2_with fail
  clear hmk
  go_loopw [5] (fun ti wx => ∃ i : Nat, i ≤ n ∧ ti = .int .i64 i ∧ Hid (Row wx w.heap.size (.slice (some ⟨w.heap.size, 0, none⟩) n n) (bs.take i ++ List.replicate (n - i) 0) ∧ Below w.heap.size w wx)) (fun ti _ => n - (intOf ti).toNat)
  case atStart => exact ⟨0, Nat.zero_le _, rfl, HR⟩
  case round =>
    obtain ⟨i, hi, rfl, HI⟩ := hrel
    by_cases hlt : i < n
    · have hlt1 : (i : Int) < n := by omega
      obtain ⟨b, o, hpo, _, hcell⟩ := (HL.out.asByts.below HI.out.2).cell i (by omega)
      subst hpo
      have k1 : wr.cell? ⟨w.heap.size, i, none⟩ = some (.int .u8 ((bs.take i ++ List.replicate (n - i) 0).getD i 0)) := HI.out.1.slot (by simp; have := HN.out; omega)
      have k2 := HI.out.1.thaw i
      go_wp2_with fail
      go_roundw
      case rel =>
        refine ⟨i + 1, hlt, by go_num, ?_, HI.out.2.setCell (Nat.le_refl _) _⟩
        have hs := HI.out.1.stored i (bs.getD i 0)
        have e := set_next (bs.take i) (n - i) (bs.getD i 0) (by omega)
        rw [show (bs.take i).length = i by rw [List.length_take]; have := HN.out; omega, take_next (by have := HN.out; omega)] at e
        rw [e, show n - i - 1 = n - (i + 1) by omega] at hs
        exact hs
      case measure => simp [intOf]; omega
    · have hlt1 : ¬ (i : Int) < n := by omega
      obtain rfl : i = n := by omega
      obtain ⟨hrow, hbel⟩ := HI.out
      rw [List.take_of_length_le (by have := HN.out; omega), Nat.sub_self, List.replicate_zero, List.append_nil] at hrow
      have hb1 : Bk wr B K ρ vb vw es := HH.out.off (Off.of_below (P := fun _ => False) hbel) (fun _ p => p.elim)
      obtain ⟨ab, nb, cb, w2, e2, r2, o2, s2⟩ := run_vpush hb1.rb hb1.hB (by simpa using hm) (.slice a i c) (slice_one _ _ _)
      have q0 : wr.cell? ⟨K, 0, none⟩ = some vb := hb1.c0
      have hKl : K < wr.heap.size := hb1.lt
      have hK2 : vb.ownBlock ≠ some K := fun e => by have h1 := hb1.pb K e; have h2 := hb1.pK; omega
      have q1 : w2.cell? ⟨K, 0, none⟩ = some vb := by rw [o2.cell (p := ⟨K, 0, none⟩) hKl hK2]; exact q0
      have q2 : w2.frozen? ⟨K, 0, none⟩ = false := by rw [o2.frozen (p := ⟨K, 0, none⟩) hKl hK2]; exact hb1.fz 0
      have q3 : w2.cell? ⟨K, 1, none⟩ = some vw := by rw [o2.cell (p := ⟨K, 1, none⟩) hKl hK2]; exact hb1.c1
      -- the second list, in the world behind the first store
      have o3 : Off (fun k => vb.ownBlock = some k ∨ k = K) wr (w2.setCell ⟨K, 0, none⟩ (.slice ab nb cb)) := Off.setCell (P := fun k => vb.ownBlock = some k ∨ k = K) (o2.mono (fun _ e => Or.inl e)) (p := ⟨K, 0, none⟩) (Or.inr rfl) _
      have rw3 : VRow (w2.setCell ⟨K, 0, none⟩ (.slice ab nb cb)) B 27 vw (es.map Ent.was) := hb1.rws.off o3 (fun g e p => by
        have h1 := hb1.pw g e
        rcases p with p | p
        · have := hb1.pb g p; omega
        · subst p; have := hb1.pK; omega)
      have hs3 : wr.heap.size ≤ (w2.setCell ⟨K, 0, none⟩ (.slice ab nb cb)).heap.size := o3.size
      obtain ⟨aw, nw, cw, w4, e4, r4, o4, s4⟩ := run_vpush rw3 (Nat.le_trans hb1.hB hs3) (by simpa using hm) (.slice (some ⟨w.heap.size, 0, none⟩) i i) (slice_one _ _ _)
      obtain ⟨w3, hw3⟩ : ∃ x, w2.setCell ⟨K, 0, none⟩ (.slice ab nb cb) = x := ⟨_, rfl⟩
      have hK3 : vw.ownBlock ≠ some K := fun e => by have h1 := hb1.pw K e; have h2 := hb1.pK; omega
      have p1 : w3.cell? ⟨K, 1, none⟩ = some vw := by
        rw [← hw3, World.cell?_setCell_other _ _ _ _ (by simp), o2.cell (p := ⟨K, 1, none⟩) hKl hK2]; exact hb1.c1
      rw [hw3] at e4 o4 s4 rw3 hs3 o3
      have hK4 : K < w3.heap.size := Nat.lt_of_lt_of_le hKl hs3
      have p2 : w4.cell? ⟨K, 1, none⟩ = some vw := by rw [o4.cell (p := ⟨K, 1, none⟩) hK4 hK3]; exact p1
      have p3 : w4.frozen? ⟨K, 1, none⟩ = false := by
        rw [o4.frozen (p := ⟨K, 1, none⟩) hK4 hK3, ← hw3, World.frozen?_setCell, o2.frozen (p := ⟨K, 1, none⟩) hKl hK2]; exact hb1.fz 1
      rw [show w3.heap.size = w2.heap.size by rw [← hw3]; simp] at e4
      have HE : Hid (w2.setCell ⟨K, 0, none⟩ (.slice ab nb cb) = w3) := hw3
      have HQ : Hid (Row wr w.heap.size (.slice (some ⟨w.heap.size, 0, none⟩) i i) bs ∧ Below w.heap.size w wr ∧ Bk wr B K ρ vb vw es ∧ VRow w2 B 27 (.slice ab nb cb) (es.map Ent.val ++ [.slice a i c]) ∧ Off (fun k => vb.ownBlock = some k) wr w2 ∧ ((Value.slice ab nb cb).ownBlock = vb.ownBlock ∨ ∃ g, (Value.slice ab nb cb).ownBlock = some g ∧ wr.heap.size ≤ g) ∧ VRow w4 B 27 (.slice aw nw cw) (es.map Ent.was ++ [.slice (some ⟨w.heap.size, 0, none⟩) i i]) ∧ Off (fun k => vw.ownBlock = some k) w3 w4 ∧ ((Value.slice aw nw cw).ownBlock = vw.ownBlock ∨ ∃ g, (Value.slice aw nw cw).ownBlock = some g ∧ w3.heap.size ≤ g)) := ⟨hrow, hbel, hb1, r2, o2, s2, r4, o4, s4⟩
      clear hrow hbel hb1 r2 o2 s2 r4 o4 s4 rw3 hs3 o3 hK2 hK3 hK4 hw3 HI
      go_wp2_with (at_builtin; first | refine wpList_append_run rfl (.tmp 26) (.tmp 28) 22 _ rfl e2 ?_ | (rw [HE.out]; refine wpList_append_run rfl (.tmp 36) (.tmp 38) 22 _ rfl e4 ?_))
      go_end0
      refine ⟨rfl, ?_⟩
      obtain ⟨hrow, hbel, hb1, r2, o2, s2, r4, o4, s4⟩ := HQ.out
      have hw3 := HE.out
      obtain ⟨ρ', a1, a2, a3, h1, h2, h3⟩ := take_done HH.out HL.out HZ.out hrow hbel hb1 r2 o2 s2 hw3 r4 o4 s4
      exact ⟨ρ', ⟨a1, a2, a3, h1⟩, h2, h3⟩
end Go.Proofs.YtpcickhellkiaaaDoor.Bo

/-
  Book.Still: what is kept is as it came.
-/
namespace Go.Proofs.YtpcickhellkiaaaDoor.Bo
open Go.RowKit

theorem Row.isSlice {w : World} {B : Nat} {v : Value} {xs : List Int} (h : Row w B v xs) : ∃ a c, v = .slice a xs.length c ∧ (0 < xs.length → ∃ g, a = some ⟨g, 0, none⟩) := by
  rcases h.form with ⟨rfl, rfl⟩ | ⟨g, cap, rfl, _⟩
  · exact ⟨_, _, rfl, fun h => by simp at h⟩
  · exact ⟨_, _, rfl, fun _ => ⟨g, rfl⟩⟩
theorem VRow.isSlice {w : World} {B : Nat} {e : TypeId} {v : Value} {xs : List Value} (h : VRow w B e v xs) : ∃ a c, v = .slice a xs.length c ∧ (0 < xs.length → ∃ g, a = some ⟨g, 0, none⟩) := by
  rcases h.form with ⟨rfl, rfl⟩ | ⟨g, cap, rfl, _⟩
  · exact ⟨_, _, rfl, fun h => by simp at h⟩
  · exact ⟨_, _, rfl, fun _ => ⟨g, rfl⟩⟩
set_option maxRecDepth 100000 in
set_option maxHeartbeats 2000000 in
theorem Still_true {w : World} {B K : Nat} {ρ : Nat → Nat} {vb vw : Value} {es : List Ent} (h : Bk w B K ρ vb vw es) (hs : ∀ (i : Nat) (e : Ent), es[i]? = some e → e.old = e.bs ∧ e.bs.length ≤ 70368744177664) (hm : es.length ≤ 1099511627776) :
    Calls Tryd.prog 56 #[.pointer (some ⟨K, 0, none⟩)] w fun e w' => e = .returned (.bool true) ∧ ∃ k, w' = w.drewN k := by
  have HH : Hid (Bk w B K ρ vb vw es) := h
  have HS : Hid (∀ (i : Nat) (e : Ent), es[i]? = some e → e.old = e.bs ∧ e.bs.length ≤ 70368744177664) := hs
  obtain ⟨ab, cb, rfl, hab⟩ := h.rb.isSlice
  obtain ⟨aw, cw, rfl, haw⟩ := h.rws.isSlice
  have HA : Hid ((0 < es.length → ∃ g, ab = some ⟨g, 0, none⟩) ∧ (0 < es.length → ∃ g, aw = some ⟨g, 0, none⟩)) := by simp only [List.length_map] at hab haw; exact ⟨hab, haw⟩
  obtain ⟨n, hn⟩ : ∃ n, es.length = n := ⟨_, rfl⟩
  have HN : Hid (es.length = n) := hn
  have q0 := h.c0
  have q1 := h.c1
  have q2 := h.c2
  have q4 := h.c4
  rw [List.length_map, hn] at q0 q1
  rw [hn] at hm
  clear h hs hab haw hn
  go_enter Tryd.func56, Tryd.ntmps56
  go_wp2_with fail
  go_loopw [3, 4] (fun t3 t4 wx => t3 = .bool true ∧ ∃ i k : Nat, i ≤ n ∧ t4 = .int .i64 i ∧ wx = w.drewN k) (fun _ t4 _ => n - (intOf t4).toNat)
  case atStart => exact ⟨rfl, 0, 0, Nat.zero_le _, rfl, rfl⟩
  case round =>
    obtain ⟨rfl, i, k, hi, rfl, rfl⟩ := hrel
    by_cases hlt : i < n
    · have hlt1 : (i : Int) < n := by omega
      obtain ⟨g, rfl⟩ := HA.out.1 (by have := HN.out; omega)
      obtain ⟨g2, rfl⟩ := HA.out.2 (by have := HN.out; omega)
      have hie : i < es.length := by have := HN.out; omega
      obtain ⟨e, he⟩ : ∃ e, es[i]? = some e := ⟨_, List.getElem?_eq_getElem hie⟩
      have c1 : w.cell? ⟨g, i, none⟩ = some e.val := HH.out.rb.slot (by rw [List.getElem?_map, he]; rfl)
      have c2 : w.cell? ⟨g2, i, none⟩ = some e.was := HH.out.rws.slot (by rw [List.getElem?_map, he]; rfl)
      have r1 := HH.out.val i e he
      have r2 := HH.out.was i e he
      obtain ⟨hold, hlen⟩ := HS.out i e he
      rw [hold] at r2
      obtain ⟨a1, d1, e1, _⟩ := r1.isSlice
      obtain ⟨a2, d2, e2, _⟩ := r2.isSlice
      rw [e1] at c1 r1
      rw [e2] at c2 r2
      have HC : Hid (∀ x, Calls Tryd.prog 13 #[.slice a1 e.bs.length d1, .slice a2 e.bs.length d2] (w.drewN (k + x)) fun ev w' => ev = .returned (.bool true) ∧ ∃ m, w' = w.drewN (k + m)) := fun x => (same_true (r1.asByts.drew (k + x)) (r2.asByts.drew (k + x)) (by omega)).mono (fun ev w' ⟨he, m, hm⟩ => ⟨he, x + m, by rw [hm]; simp [Nat.add_assoc]⟩)
      obtain ⟨lb, hlb⟩ : ∃ l, e.bs.length = l := ⟨_, rfl⟩
      rw [hlb] at c1 c2 HC
      clear r1 r2 e1 e2 hold hlen hlb he hie
      go_wp2_with fail
      go_quiet ((go_at_call 13; first | exact HC.out _ | (simp only [World.drewN_drewN]; exact HC.out _)))
      go_wp2_with fail
      go_roundw
      case rel => exact ⟨rfl, i + 1, _, hlt, by go_num, rfl⟩
      case measure => simp [intOf]; omega
    · have hlt1 : ¬ (i : Int) < n := by omega
      go_wp2_with fail
      refine wp_loop_rounds 1 ?_
      rw [rounds_succ]
      go_wp2_with fail
      refine wp_loop_rounds 1 ?_
      rw [rounds_succ]
      go_wp2_with fail
      go_ret
      exact ⟨rfl, k, rfl⟩
end Go.Proofs.YtpcickhellkiaaaDoor.Bo

/-
  couriermem.markByte: some byte of the two numbers.
-/
namespace Go.Proofs.YtpcickhellkiaaaDoor.Bo
open Go.RowKit

/-- The mark of place k in the list of number i. -/
def markI (i k : Nat) : Int := bits BinOp.xor IntKind.u8 ((i : Int) / 2 ^ (8 * (k % 3)) % 256) (53 * ((k : Int) % 3) + 1)
def mk (i n : Nat) : List Int := (List.range n).map (markI i)
theorem mk_length (i n : Nat) : (mk i n).length = n := by simp [mk]
theorem mk_succ (i n : Nat) : mk i (n + 1) = mk i n ++ [markI i n] := by simp [mk, List.range_succ]
theorem mk_getD (i n k : Nat) (h : k < n) : (mk i n).getD k 0 = markI i k := by
  rw [List.getD_eq_getElem?_getD, mk, List.getElem?_map, List.getElem?_range h]; rfl
theorem mk_take (i n k : Nat) (h : k ≤ n) : (mk i n).take k = mk i k := by
  rw [mk, mk, ← List.map_take, List.take_range, Nat.min_eq_left h]
set_option maxHeartbeats 1000000 in
theorem mark_any (i k : Nat) (hk : k ≤ 4611686018427387904) (w : World) : Calls Tryd.prog 58 #[.int .i64 (i : Int), .int .i64 (k : Int)] w fun e w' => e = .returned (.int .u8 (markI i k)) ∧ w' = w := by
  go_enter Tryd.func58, Tryd.ntmps58
  go_wp2
  go_ret
  exact ⟨rfl, rfl⟩
end Go.Proofs.YtpcickhellkiaaaDoor.Bo

/-
  Book.write: each list with marks of its own.
-/
namespace Go.Proofs.YtpcickhellkiaaaDoor.Bo
open Go.RowKit

/-- The first i lists are written over. -/
def wrote (i : Nat) (es : List Ent) : List Ent := es.mapIdx fun j e => if j < i then { e with bs := mk j e.bs.length } else e
theorem wrote_length (i : Nat) (es : List Ent) : (wrote i es).length = es.length := by simp [wrote]
theorem wrote_get (i j : Nat) (es : List Ent) (e : Ent) (h : es[j]? = some e) : (wrote i es)[j]? = some (if j < i then { e with bs := mk j e.bs.length } else e) := by simp [wrote, h]
theorem wrote_zero (es : List Ent) : wrote 0 es = es := by
  refine List.ext_getElem? fun j => ?_
  simp [wrote]
theorem wrote_set (i : Nat) (es : List Ent) (e : Ent) (h : es[i]? = some e) : (wrote i es).set i { e with bs := mk i e.bs.length } = wrote (i + 1) es := by
  refine List.ext_getElem? fun j => ?_
  have hi := (List.getElem?_eq_some_iff.1 h).1
  by_cases hj : i = j
  · subst hj
    rw [List.getElem?_set_self (by rw [wrote_length]; exact hi), wrote_get (i + 1) i es e h, if_pos (Nat.lt_succ_self _)]
  · rw [List.getElem?_set_ne hj]
    simp only [wrote, List.getElem?_mapIdx]
    cases es[j]? with
    | none => rfl
    | some x =>
      simp only [Option.map_some]
      by_cases hl : j < i
      · rw [if_pos hl, if_pos (by omega)]
      · rw [if_neg hl, if_neg (by omega)]
theorem wrote_same (i : Nat) (es : List Ent) (e : Ent) (h : es[i]? = some e) : (wrote i es).set i { e with bs := e.bs } = wrote i es := by
  refine List.ext_getElem? fun j => ?_
  have hi := (List.getElem?_eq_some_iff.1 h).1
  by_cases hj : i = j
  · subst hj
    rw [List.getElem?_set_self (by rw [wrote_length]; exact hi), wrote_get i i es e h, if_neg (Nat.lt_irrefl _)]
  · rw [List.getElem?_set_ne hj]
theorem over_next (i : Nat) (bs : List Int) (k : Nat) (h : k < bs.length) : (mk i k ++ bs.drop k).set k (markI i k) = mk i (k + 1) ++ bs.drop (k + 1) := by
  rw [List.set_append_right _ _ (by rw [mk_length]; omega), mk_length, Nat.sub_self, List.drop_eq_getElem_cons h, List.set_cons_zero, mk_succ, List.append_assoc]
  rfl
theorem ents_map (f : Ent → Value) (i : Nat) (es : List Ent) (hf : ∀ (e : Ent) bs, f { e with bs := bs } = f e) : (wrote i es).map f = es.map f := by
  refine List.ext_getElem? fun j => ?_
  simp only [wrote, List.getElem?_map, List.getElem?_mapIdx]
  cases es[j]? with
  | none => rfl
  | some x =>
    simp only [Option.map_some]
    by_cases hl : j < i
    · rw [if_pos hl, hf]
    · rw [if_neg hl]
theorem write_step {w wr : World} {B K g gv n cb i k lb d1 : Nat} {ρ : Nat → Nat} {vw : Value} {es : List Ent} {e : Ent} (h : Bk wr B K ρ (.slice (some ⟨g, 0, none⟩) n cb) vw (es.set i { e with bs := mk i k ++ e.bs.drop k })) (ho : Off (fun k => ∃ j, ρ k = 6 + 2 * j) w wr) (hi : i < es.length) (he : e.val = .slice (some ⟨gv, 0, none⟩) e.bs.length d1) (hl : e.bs.length = lb) (hk : k < lb) (hr : Row wr B (.slice (some ⟨gv, 0, none⟩) lb d1) (mk i k ++ e.bs.drop k)) :
    Bk (wr.setCell ⟨gv, k, none⟩ (.int .u8 (markI i k))) B K ρ (.slice (some ⟨g, 0, none⟩) n cb) vw (es.set i { e with bs := mk i (k + 1) ++ e.bs.drop (k + 1) }) ∧ Off (fun k => ∃ j, ρ k = 6 + 2 * j) w (wr.setCell ⟨gv, k, none⟩ (.int .u8 (markI i k))) := by
  have hat : (es.set i { e with bs := mk i k ++ e.bs.drop k })[i]? = some { e with bs := mk i k ++ e.bs.drop k } := List.getElem?_set_self hi
  have hp : ρ gv = 6 + 2 * i := h.pval i _ hat gv (by show e.val.ownBlock = some gv; rw [he]; rfl)
  have hrow := hr.stored k (markI i k)
  rw [over_next i e.bs k (by omega)] at hrow
  have o1 : Off (fun k => ρ k = 6 + 2 * i) wr (wr.setCell ⟨gv, k, none⟩ (.int .u8 (markI i k))) := Off.setCell (P := fun k => ρ k = 6 + 2 * i) (Off.refl _ _) (p := ⟨gv, k, none⟩) hp _
  have hb := h.touch hat o1 (bs' := mk i (k + 1) ++ e.bs.drop (k + 1)) (by
    show Row _ B e.val _
    rw [he, hl]; exact hrow)
  rw [List.set_set] at hb
  exact ⟨hb, ho.trans (o1.mono (fun k e => ⟨i, e⟩))⟩
set_option maxRecDepth 100000 in
set_option maxHeartbeats 4000000 in
theorem write_any {w : World} {B K : Nat} {ρ : Nat → Nat} {vb vw : Value} {es : List Ent} (h : Bk w B K ρ vb vw es) (hs : ∀ (i : Nat) (e : Ent), es[i]? = some e → e.bs.length ≤ 70368744177664) (hm : es.length ≤ 1099511627776) :
    Calls Tryd.prog 57 #[.pointer (some ⟨K, 0, none⟩)] w fun e w' => e = .returned (.tuple #[]) ∧ Bk w' B K ρ vb vw (wrote es.length es) ∧ Off (fun k => ∃ j, ρ k = 6 + 2 * j) w w' := by
  have HS : Hid (∀ (i : Nat) (e : Ent), es[i]? = some e → e.bs.length ≤ 70368744177664) := hs
  obtain ⟨ab, cb, rfl, hab⟩ := h.rb.isSlice
  have HA : Hid (0 < es.length → ∃ g, ab = some ⟨g, 0, none⟩) := by simp only [List.length_map] at hab; exact hab
  rw [List.length_map] at h ⊢
  obtain ⟨n, hn⟩ : ∃ n, es.length = n := ⟨_, rfl⟩
  have HN : Hid (es.length = n) := hn
  rw [hn] at h hm ⊢
  have HH : Hid (Bk w B K ρ (.slice ab n cb) vw es) := h
  clear h hs hab hn
  go_enter Tryd.func57, Tryd.ntmps57
  go_wp2_with fail
  go_loopw [2] (fun t2 wx => ∃ i : Nat, i ≤ n ∧ t2 = .int .i64 i ∧ Hid (Bk wx B K ρ (.slice ab n cb) vw (wrote i es) ∧ Off (fun k => ∃ j, ρ k = 6 + 2 * j) w wx)) (fun t2 _ => n - (intOf t2).toNat)
  case atStart => exact ⟨0, Nat.zero_le _, rfl, by rw [wrote_zero]; exact HH.out, Off.refl _ _⟩
  case round =>
    obtain ⟨i, hi, rfl, HI⟩ := hrel
    have q0 := HI.out.1.c0
    by_cases hlt : i < n
    · have hlt1 : (i : Int) < n := by omega
      obtain ⟨g, rfl⟩ := HA.out (by have := HN.out; omega)
      have hie : i < es.length := by have := HN.out; omega
      obtain ⟨e, he⟩ : ∃ e, es[i]? = some e := ⟨_, List.getElem?_eq_getElem hie⟩
      have HE : Hid (es[i]? = some e) := he
      have hlen := HS.out i e he
      have he2 : (wrote i es)[i]? = some e := by rw [wrote_get i i es e he, if_neg (Nat.lt_irrefl _)]
      obtain ⟨a1, d1, e1, hb1⟩ := (HI.out.1.val i e he2).isSlice
      have HE1 : Hid (e.val = .slice a1 e.bs.length d1 ∧ (0 < e.bs.length → ∃ g, a1 = some ⟨g, 0, none⟩)) := ⟨e1, hb1⟩
      obtain ⟨lb, hlb⟩ : ∃ l, e.bs.length = l := ⟨_, rfl⟩
      have HLB : Hid (e.bs.length = lb) := hlb
      rw [hlb] at hlen
      have HI2 : Hid (Bk wr B K ρ (.slice (some ⟨g, 0, none⟩) n cb) vw ((wrote i es).set i { e with bs := mk i 0 ++ e.bs.drop 0 }) ∧ Off (fun k => ∃ j, ρ k = 6 + 2 * j) w wr) := ⟨by
        have := HI.out.1
        rw [← wrote_same i es e he] at this
        exact this, HI.out.2⟩
      clear HI he he2 e1 hb1 hlb hie
      go_wp2_with fail
      go_loopw [3] (fun t3 wx => ∃ k : Nat, k ≤ lb ∧ t3 = .int .i64 k ∧ Hid (Bk wx B K ρ (.slice (some ⟨g, 0, none⟩) n cb) vw ((wrote i es).set i { e with bs := mk i k ++ e.bs.drop k }) ∧ Off (fun k => ∃ j, ρ k = 6 + 2 * j) w wx)) (fun t3 _ => lb - (intOf t3).toNat)
      case atStart => exact ⟨0, Nat.zero_le _, rfl, HI2⟩
      case round =>
        obtain ⟨k, hk, rfl, HJ⟩ := hrel
        have q0 := HJ.out.1.c0
        have hie : i < (wrote i es).length := by rw [wrote_length]; have := HN.out; omega
        have hat : ((wrote i es).set i { e with bs := mk i k ++ e.bs.drop k })[i]? = some { e with bs := mk i k ++ e.bs.drop k } := List.getElem?_set_self hie
        have c1 : wr.cell? ⟨g, i, none⟩ = some e.val := HJ.out.1.rb.slot (by rw [List.getElem?_map, hat]; rfl)
        rw [HE1.out.1, HLB.out] at c1
        by_cases hlt2 : k < lb
        · have hlt3 : (k : Int) < lb := by omega
          obtain ⟨gv, rfl⟩ := HE1.out.2 (by have := HLB.out; omega)
          have hrow := HJ.out.1.val i _ hat
          have hrow2 : Row wr B (.slice (some ⟨gv, 0, none⟩) lb d1) (mk i k ++ e.bs.drop k) := by
            have h2 : Row wr B e.val (mk i k ++ e.bs.drop k) := hrow
            rw [HE1.out.1, HLB.out] at h2; exact h2
          have k1 := hrow2.slot (j := k) (by rw [List.length_append, mk_length, List.length_drop]; have := HLB.out; omega)
          have k2 := hrow2.thaw k
          have HR : Hid (Row wr B (.slice (some ⟨gv, 0, none⟩) lb d1) (mk i k ++ e.bs.drop k)) := hrow2
          obtain ⟨z, hz⟩ : ∃ z, (mk i k ++ e.bs.drop k).getD k 0 = z := ⟨_, rfl⟩
          rw [hz] at k1
          have HM : Hid (∀ x : World, Calls Tryd.prog 58 #[.int .i64 (i : Int), .int .i64 (k : Int)] x fun e w' => e = .returned (.int .u8 (markI i k)) ∧ w' = x) := fun x => mark_any i k (by omega) x
          clear hrow hrow2 hat hie hz
          go_wp2_with fail
          go_region_with (go_at_call 58; refine (HM.out _).mono ?_; rintro e w1 ⟨rfl, rfl⟩)
          all_goals
            go_wp2_with fail
            go_roundw
            case rel =>
              refine ⟨k + 1, hlt2, by go_num, ?_⟩
              have hb := write_step HJ.out.1 HJ.out.2 (by rw [wrote_length]; have := HN.out; omega) HE1.out.1 HLB.out hlt2 HR.out
              first
                | exact hb
                | exact ⟨hb.1.off (Off.drew (P := fun _ => False) (Off.refl _ _)) (fun _ p => p.elim), hb.2.drew⟩
                | exact ⟨hb.1.off (Off.drewN (P := fun _ => False) (Off.refl _ _) _) (fun _ p => p.elim), hb.2.drewN _⟩
            case measure => simp [intOf]; omega
        · have hlt3 : ¬ (k : Int) < lb := by omega
          obtain rfl : k = lb := by omega
          go_wp2_with fail
          go_roundw
          case rel =>
            refine ⟨i + 1, hlt, by go_num, ?_, HJ.out.2⟩
            have hb := HJ.out.1
            rw [List.drop_of_length_le (by have := HLB.out; omega), List.append_nil, ← HLB.out, wrote_set i es e HE.out] at hb
            exact hb
          case measure => simp [intOf]; omega
    · have hlt1 : ¬ (i : Int) < n := by omega
      have q2 := HI.out.1.c2
      have q4 := HI.out.1.c4
      go_wp2_with fail
      refine wp_loop_rounds 1 ?_
      rw [rounds_succ]
      go_wp2_with fail
      refine wp_loop_rounds 1 ?_
      rw [rounds_succ]
      go_wp2_with fail
      go_end0
      obtain rfl : i = n := by omega
      exact ⟨rfl, HI.out.1, HI.out.2⟩
end Go.Proofs.YtpcickhellkiaaaDoor.Bo

/-
  Lists of the book, grown by marks of their own.
-/
namespace Go.Proofs.YtpcickhellkiaaaDoor.Bo
open Go.RowKit

/-- l has grown out of v: it holds ys, v still holds bs. -/
structure Grew (w : World) (B : Nat) (v l : Value) (bs ys : List Int) : Prop where
  row : Row w B l ys
  val : Row w B v bs
  pre : ys.take bs.length = bs
  way : (∃ g n m cap, v = .slice (some ⟨g, 0, none⟩) n cap ∧ l = .slice (some ⟨g, 0, none⟩) m cap) ∨ (∀ g, l.ownBlock = some g → v.ownBlock ≠ some g)
theorem Grew.refl {w : World} {B : Nat} {v : Value} {bs : List Int} (h : Row w B v bs) : Grew w B v v bs bs := by
  refine ⟨h, h, List.take_length, ?_⟩
  rcases h.form with ⟨rfl, _⟩ | ⟨g, cap, rfl, _⟩
  · exact Or.inr (fun g e => by cases e)
  · exact Or.inl ⟨_, _, _, _, rfl, rfl⟩
theorem vrow_of_row {w : World} {B : Nat} {v : Value} {xs : List Int} (h : Row w B v xs) : VRow w B 5 v (u8s xs) := by
  unfold VRow; rw [u8s_length]; exact h
theorem row_of_vrow {w : World} {B : Nat} {v : Value} {xs : List Int} (h : VRow w B 5 v (u8s xs)) : Row w B v xs := by
  unfold VRow at h; rw [u8s_length] at h; exact h
theorem run_grow {w : World} {B : Nat} {v l : Value} {bs ys : List Int} (h : Grew w B v l bs ys) (hB : B ≤ w.heap.size) (hl : ys.length + 1 ≤ 140737488355328) (z : Int) :
    ∃ a n c w', (Builtin.append_ #[27, 27] 27 #[l, .slice (some ⟨w.heap.size, 0, none⟩) 1 1]).run Tryd.prog (w.alloc (.cells #[.int .u8 z] 5)) = .ok (.slice a n c) w' ∧ Grew w' B v (.slice a n c) bs (ys ++ [z]) ∧ Off (fun k => l.ownBlock = some k) w w' ∧ ((Value.slice a n c).ownBlock = l.ownBlock ∨ ∃ g, (Value.slice a n c).ownBlock = some g ∧ w.heap.size ≤ g) := by
  obtain ⟨i, hi, hz, hs, hby⟩ := u8info
  have hbl : Below w.heap.size w (w.alloc (.cells #[.int .u8 z] 5)) := (Below.refl w.heap.size w).alloc (Nat.le_refl _) _
  have hrow : Row (w.alloc (.cells #[.int .u8 z] 5)) B l ys := h.row.keep (fun g e => hbl.block g (h.row.lt e).2)
  have hval : Row (w.alloc (.cells #[.int .u8 z] 5)) B v bs := h.val.keep (fun g e => hbl.block g (h.val.lt e).2)
  have hbl2 : bs.length ≤ ys.length := by have := congrArg List.length h.pre; rw [List.length_take] at this; omega
  obtain ⟨v', w', hr, r, p⟩ := run_append_two (P := Tryd.prog) (w.alloc (.cells #[.int .u8 z] 5)) B 27 27 5 i _ 1 Tryd.underlying27 hi hz hs hby rfl l (u8s ys) (vrow_of_row hrow) ⟨w.heap.size, 0, none⟩ 1 1 [.int .u8 z] rfl (cell_one_new w _ _) (fun x hx => by simp only [List.mem_singleton] at hx; subst hx; rfl) (by rw [u8s_length]; unfold maxLen; omega) (by rw [u8s_length]; omega) (by simp; omega)
  have r2 : Row w' B v' (ys ++ [z]) := row_of_vrow (by rw [u8s_append]; exact r)
  have hof : Off (fun k => l.ownBlock = some k) w w' := by
    refine ((Off.refl _ w).alloc (.cells #[.int .u8 z] 5)).trans ?_
    cases p with
    | same g cap hv hv' hg => rw [hv]; exact Off.of_grown hg
    | idle hv hm hw => omega
    | fresh cap hv' hg hs => exact (Off.of_grown hg).mono (fun k e => by cases e)
  have hpre : (ys ++ [z]).take bs.length = bs := by rw [List.take_append_of_le_length hbl2]; exact h.pre
  cases p with
  | same g cap hv hv' hg =>
    subst hv; subst hv'
    refine ⟨_, _, _, w', hr, ⟨r2, ?_, hpre, ?_⟩, hof, Or.inl rfl⟩
    · rcases h.way with ⟨g1, n1, m1, c1, e1, e2⟩ | hne
      · simp only [Value.slice.injEq, Option.some.injEq, Addr.mk.injEq, and_true] at e2
        obtain ⟨rfl, _, rfl⟩ := e2
        subst e1
        have hn := h.val.len
        have hp := r2.prefix (m := n1) (by rw [u8s_length]; omega)
        rw [← hn, hpre] at hp
        rw [← hn]
        exact hp
      · exact hval.off (Off.of_grown hg) (fun k e p => by simp only [Option.some.injEq] at p; subst p; exact hne _ rfl e)
    · rcases h.way with ⟨g1, n1, m1, c1, e1, e2⟩ | hne
      · simp only [Value.slice.injEq, Option.some.injEq, Addr.mk.injEq, and_true] at e2
        obtain ⟨rfl, _, rfl⟩ := e2
        exact Or.inl ⟨_, _, _, _, e1, rfl⟩
      · exact Or.inr (fun k e => hne k e)
  | idle hv hm hw => omega
  | fresh cap hv' hg hs =>
    subst hv'
    refine ⟨_, _, _, w', hr, ⟨r2, hval.off (Off.of_grown hg) (fun k e p => by cases p), hpre, Or.inr (fun k e e2 => ?_)⟩, hof, Or.inr ⟨_, rfl, by simp⟩⟩
    simp only [Value.ownBlock, Option.some.injEq] at e
    have := (h.val.lt e2).2
    simp at e
    omega
/-- The book, and beside it the grown lists. -/
structure Gw (w : World) (B K : Nat) (ρ : Nat → Nat) (vb vw vl : Value) (es : List Ent) (ls : List Value) : Prop where
  bk : Bk w B K ρ vb vw es
  rl : VRow w B 27 vl ls
  pl : ∀ g, vl.ownBlock = some g → ρ g = 5
  ll : ∀ (j : Nat) (l : Value) (e : Ent), ls[j]? = some l → es[j]? = some e → Row w B l (mk j (e.bs.length + 90)) ∧ ∀ g, l.ownBlock = some g → ρ g = 6 + 2 * j ∨ ρ g = 7 + 2 * j
theorem set_self (es : List Ent) (i : Nat) (e : Ent) (h : es[i]? = some e) : es.set i { e with bs := e.bs } = es := by
  refine List.ext_getElem? fun j => ?_
  have hi := (List.getElem?_eq_some_iff.1 h).1
  by_cases hj : i = j
  · subst hj; rw [List.getElem?_set_self hi, h]
  · rw [List.getElem?_set_ne hj]
theorem gw_step {w w1 w2 : World} {B K i : Nat} {ρ : Nat → Nat} {vb vw vl l : Value} {a : Option Addr} {n c : Nat} {es : List Ent} {ls : List Value} {e : Ent} (h : Gw w B K ρ vb vw vl es ls) (hi : ls.length = i) (he : es[i]? = some e)
    (o1 : Off (fun k => ρ k = 6 + 2 * i) w w1) (hg : Grew w1 B e.val l e.bs (mk i (e.bs.length + 90))) (hlb : ∀ g, l.ownBlock = some g → e.val.ownBlock = some g ∨ w.heap.size ≤ g)
    (v2 : VRow w2 B 27 (.slice a n c) (ls ++ [l])) (o2 : Off (fun k => vl.ownBlock = some k) w1 w2) (s2 : (Value.slice a n c).ownBlock = vl.ownBlock ∨ ∃ g, (Value.slice a n c).ownBlock = some g ∧ w1.heap.size ≤ g) :
    ∃ ρ', Gw w2 B K ρ' vb vw (.slice a n c) es (ls ++ [l]) ∧ Off (fun k => ρ k = 6 + 2 * i ∨ vl.ownBlock = some k) w w2 ∧ (∀ k, k < w.heap.size → ρ' k = ρ k) := by
  obtain ⟨l2, hl2⟩ : ∃ x, Value.slice a n c = x := ⟨_, rfl⟩
  rw [hl2] at v2 s2 ⊢
  have hs1 := o1.size
  have hs2 := o2.size
  have hvl : ∀ g, vl.ownBlock = some g → g < w.heap.size ∧ ρ g = 5 := fun g e => ⟨(h.rl.lt e).2, h.pl g e⟩
  have b1 : Bk w1 B K ρ vb vw es := by
    have := h.bk.touch he o1 hg.val
    rw [set_self es i e he] at this
    exact this
  have hll : ∀ g, l.ownBlock = some g → (g < w.heap.size ∧ ρ g = 6 + 2 * i) ∨ (w.heap.size ≤ g ∧ g < w1.heap.size) := fun g eg => by
    rcases hlb g eg with q | q
    · exact Or.inl ⟨(h.bk.val i e he |>.lt q).2, h.bk.pval i e he g q⟩
    · exact Or.inr ⟨q, (hg.row.lt eg).2⟩
  have hl2b : ∀ g, l2.ownBlock = some g → (g < w.heap.size ∧ ρ g = 5) ∨ (w1.heap.size ≤ g ∧ g < w2.heap.size) := fun g eg => by
    rcases s2 with q | ⟨k, q, hk⟩
    · rw [q] at eg; exact Or.inl (hvl g eg)
    · have := (v2.lt eg).2
      rw [q] at eg; simp only [Option.some.injEq] at eg
      exact Or.inr ⟨by omega, this⟩
  refine ⟨fun k => if k < w.heap.size then ρ k else if l.ownBlock = some k then 7 + 2 * i else if l2.ownBlock = some k then 5 else 0, ⟨?_, v2, fun g eg => ?_, fun j x y hx hy => ?_⟩, (o1.mono (fun _ p => Or.inl p)).trans (o2.mono (fun k p => Or.inr p)), fun k hk => if_pos hk⟩
  · refine b1.role o2 (fun k p => Or.inr (hvl k p).2) (fun k _ h0 _ => ?_) (fun g hgs => ?_)
    · have hk : k < w.heap.size := by
        rcases Nat.lt_or_ge k w.heap.size with q | q
        · exact q
        · exact absurd (h.bk.new k q) h0
      exact if_pos hk
    · rw [if_neg (by omega), if_neg (fun q => by rcases hll g q with z | z <;> omega), if_neg (fun q => by rcases hl2b g q with z | z <;> omega)]
  · rcases hl2b g eg with q | q
    · rw [if_pos q.1]; exact q.2
    · rw [if_neg (by omega), if_neg (fun z => by rcases hll g z with z | z <;> omega), if_pos eg]
  · rcases Nat.lt_or_ge j ls.length with q | q
    · rw [List.getElem?_append_left q] at hx
      obtain ⟨r, p⟩ := h.ll j x y hx hy
      have hb : ∀ g, x.ownBlock = some g → g < w.heap.size := fun g eg => (r.lt eg).2
      refine ⟨(r.off o1 (fun g eg z => by have := p g eg; omega)).off o2 (fun g eg z => by have := p g eg; have := (hvl g z).2; omega), fun g eg => ?_⟩
      rw [if_pos (hb g eg)]; exact p g eg
    · rw [List.getElem?_append_right q] at hx
      have hj : j = ls.length := by
        rcases Nat.eq_or_lt_of_le q with z | z
        · exact z.symm
        · rw [List.getElem?_eq_none (by simp; omega)] at hx; cases hx
      subst hj
      rw [hi, he] at hy
      simp only [Nat.sub_self, List.getElem?_cons_zero, Option.some.injEq] at hx hy
      subst hx; subst hy
      rw [hi]
      refine ⟨hg.row.off o2 (fun g eg z => ?_), fun g eg => ?_⟩
      · have := hvl g z
        rcases hll g eg with z2 | z2 <;> omega
      · rcases hll g eg with z | z
        · rw [if_pos z.1]; exact Or.inl z.2
        · rw [if_neg (by omega), if_pos eg]; exact Or.inr rfl
end Go.Proofs.YtpcickhellkiaaaDoor.Bo

/-
  Book.shows: no list shows in another.
-/
namespace Go.Proofs.YtpcickhellkiaaaDoor.Bo
open Go.RowKit

set_option maxRecDepth 100000 in
set_option maxHeartbeats 4000000 in
theorem shows_true {w : World} {B K : Nat} {ρ : Nat → Nat} {vb vw vl : Value} {es : List Ent} {ls : List Value} (h : Gw w B K ρ vb vw vl es ls) (hl : ls.length = es.length) (hs : ∀ (i : Nat) (e : Ent), es[i]? = some e → e.bs = mk i e.bs.length ∧ e.bs.length ≤ 70368744177664) (hm : es.length ≤ 1099511627776) :
    Calls Tryd.prog 61 #[.pointer (some ⟨K, 0, none⟩), vl, .slice none 0 0, .slice none 0 0] w fun e w' => e = .returned (.bool true) ∧ ∃ k, w' = w.drewN k := by
  have HS : Hid (∀ (i : Nat) (e : Ent), es[i]? = some e → e.bs = mk i e.bs.length ∧ e.bs.length ≤ 70368744177664) := hs
  obtain ⟨ab, cb, rfl, hab⟩ := h.bk.rb.isSlice
  obtain ⟨al, cl, rfl, hal⟩ := h.rl.isSlice
  rw [List.length_map] at h hab
  obtain ⟨n, hn⟩ : ∃ n, es.length = n := ⟨_, rfl⟩
  rw [hl] at h hal
  rw [hn] at h hm hab hal hl
  have HA : Hid ((0 < n → ∃ g, ab = some ⟨g, 0, none⟩) ∧ (0 < n → ∃ g, al = some ⟨g, 0, none⟩) ∧ es.length = n ∧ ls.length = n) := ⟨hab, hal, hn, hl⟩
  have HH : Hid (Gw w B K ρ (.slice ab n cb) vw (.slice al n cl) es ls) := h
  have q0 := h.bk.c0
  have en : ls.length = n := hl
  rw [en]
  clear h hs hab hal hn hl en
  go_enter Tryd.func61, Tryd.ntmps61
  go_wp2_with fail
  go_loopw [9] (fun t9 wx => ∃ i x : Nat, i ≤ n ∧ t9 = .int .i64 i ∧ wx = w.drewN x) (fun t9 _ => n - (intOf t9).toNat)
  case atStart => exact ⟨0, 0, Nat.zero_le _, rfl, rfl⟩
  case round =>
    obtain ⟨i, x, hi, rfl, rfl⟩ := hrel
    by_cases hlt : i < n
    · have hlt1 : (i : Int) < n := by omega
      obtain ⟨g, rfl⟩ := HA.out.1 (by omega)
      obtain ⟨g2, rfl⟩ := HA.out.2.1 (by omega)
      obtain ⟨e, he⟩ : ∃ e, es[i]? = some e := ⟨_, List.getElem?_eq_getElem (by have := HA.out.2.2.1; omega)⟩
      obtain ⟨l, hl⟩ : ∃ l, ls[i]? = some l := ⟨_, List.getElem?_eq_getElem (by have := HA.out.2.2.2; omega)⟩
      have c1 : w.cell? ⟨g, i, none⟩ = some e.val := HH.out.bk.rb.slot (by rw [List.getElem?_map, he]; rfl)
      have c2 : w.cell? ⟨g2, i, none⟩ = some l := HH.out.rl.slot hl
      have r1 := HH.out.bk.val i e he
      obtain ⟨hmk, hlen⟩ := HS.out i e he
      have r2 := (HH.out.ll i l e hl he).1
      obtain ⟨a1, d1, e1, hb1⟩ := r1.isSlice
      obtain ⟨a2, d2, e2, hb2⟩ := r2.isSlice
      obtain ⟨m, hm1⟩ : ∃ m, e.bs.length = m := ⟨_, rfl⟩
      rw [mk_length, hm1] at e2
      rw [hm1] at e1 hlen hmk
      rw [e1] at c1
      rw [e2] at c2
      have HR : Hid (Row w B (.slice a1 m d1) (mk i m) ∧ Row w B (.slice a2 (m + 90) d2) (mk i (m + 90)) ∧ (0 < m → ∃ g, a1 = some ⟨g, 0, none⟩) ∧ ∃ g, a2 = some ⟨g, 0, none⟩) := ⟨by rw [← e1, ← hmk]; exact r1, by rw [← e2, ← hm1]; exact r2, by rw [hm1] at hb1; exact hb1, hb2 (by rw [mk_length]; omega)⟩
      clear r1 r2 hmk e1 e2 hb1 hb2 hm1 he hl
      go_wp2_with fail
      go_loopw [10] (fun t10 wx => ∃ k y : Nat, k ≤ m + 90 ∧ t10 = .int .i64 k ∧ wx = w.drewN y) (fun t10 _ => m + 90 - (intOf t10).toNat)
      case atStart => exact ⟨0, x, Nat.zero_le _, rfl, rfl⟩
      case round =>
        obtain ⟨k, y, hk, rfl, rfl⟩ := hrel
        by_cases hlt2 : k < m + 90
        · have hlt3 : (k : Int) < (m : Int) + 90 := by omega
          obtain ⟨gl, rfl⟩ := HR.out.2.2.2
          have k2 : w.cell? ⟨gl, k, none⟩ = some (.int .u8 (markI i k)) := by
            have := HR.out.2.1.slot (j := k) (by rw [mk_length]; omega)
            rw [mk_getD i _ k hlt2] at this; exact this
          have HM : Hid (∀ z, Calls Tryd.prog 58 #[.int .i64 (i : Int), .int .i64 (k : Int)] (w.drewN (y + z)) fun e w' => e = .returned (.int .u8 (markI i k)) ∧ ∃ u, w' = w.drewN (y + u)) := fun z => (mark_any i k (by omega) _).mono (fun e w' ⟨h1, h2⟩ => ⟨h1, z, h2⟩)
          by_cases hlt4 : k < m
          · have hlt5 : (k : Int) < m := by omega
            obtain ⟨gv, rfl⟩ := HR.out.2.2.1 (by omega)
            have k1 : w.cell? ⟨gv, k, none⟩ = some (.int .u8 (markI i k)) := by
              have := HR.out.1.slot (j := k) (by rw [mk_length]; omega)
              rw [mk_getD i _ k hlt4] at this; exact this
            go_wp2_with fail
            go_quiet ((go_at_call 58; exact HM.out _))
            go_wp2_with fail
            go_roundw
            case rel => exact ⟨k + 1, _, hlt2, by go_num, rfl⟩
            case measure => simp [intOf]; omega
          · have hlt5 : ¬ (k : Int) < m := by omega
            go_wp2_with fail
            go_quiet ((go_at_call 58; exact HM.out _))
            go_wp2_with fail
            go_roundw
            case rel => exact ⟨k + 1, _, hlt2, by go_num, rfl⟩
            case measure => simp [intOf]; omega
        · have hlt3 : ¬ (k : Int) < (m : Int) + 90 := by omega
          go_wp2_with fail
          go_roundw
          case rel => exact ⟨i + 1, _, hlt, by go_num, rfl⟩
          case measure => simp [intOf]; omega
    · have hlt1 : ¬ (i : Int) < n := by omega
      go_wp2_with fail
      refine wp_loop_rounds 1 ?_
      rw [rounds_succ]
      go_wp2_with fail
      refine wp_loop_rounds 1 ?_
      rw [rounds_succ]
      go_wp2_with fail
      go_ret
      exact ⟨rfl, x, rfl⟩
end Go.Proofs.YtpcickhellkiaaaDoor.Bo

/-
  Book.Alone: as they came; written over, grown, none shows in another; the book is empty then.
-/
namespace Go.Proofs.YtpcickhellkiaaaDoor.Bo
open Go.RowKit

/-- A book of nothing at block K. -/
theorem Bk.empty {w : World} {B K : Nat} (h : ∀ q, q < 6 → w.cell? ⟨K, q, none⟩ = some (.slice none 0 0)) (hf : ∀ q, w.frozen? ⟨K, q, none⟩ = false) (hB : B ≤ w.heap.size) : Bk w B K (fun k => if k = K then 1 else 0) (.slice none 0 0) (.slice none 0 0) [] := by
  have hK : K < w.heap.size := by
    rcases Nat.lt_or_ge K w.heap.size with g | g
    · exact g
    · have := h 0 (by decide); simp [World.cell?, Array.getElem?_eq_none g] at this
  exact ⟨h 0 (by decide), h 1 (by decide), h 2 (by decide), h 3 (by decide), h 4 (by decide), h 5 (by decide), hf, hB, VRow.nil _ _ _, VRow.nil _ _ _, fun i e he => (by simp at he), fun i e he => (by simp at he), if_pos rfl, fun g e => (by cases e), fun g e => (by cases e), fun i e he => (by simp at he), fun i e he => (by simp at he), fun g hg => if_neg (by omega)⟩
theorem clear_one {w : World} {K j : Nat} (h : ∀ q, q < 6 → ∃ v, w.cell? ⟨K, q, none⟩ = some v) (hn : ∀ q, q < j → w.cell? ⟨K, q, none⟩ = some (.slice none 0 0)) (hj : j < 6) : (∀ q, q < 6 → ∃ v, (w.setCell ⟨K, j, none⟩ (.slice none 0 0)).cell? ⟨K, q, none⟩ = some v) ∧ (∀ q, q < j + 1 → (w.setCell ⟨K, j, none⟩ (.slice none 0 0)).cell? ⟨K, q, none⟩ = some (.slice none 0 0)) := by
  obtain ⟨v, hv⟩ := h j hj
  have hs : (w.setCell ⟨K, j, none⟩ (.slice none 0 0)).cell? ⟨K, j, none⟩ = some (.slice none 0 0) := World.cell?_setCell_same _ _ _ hv
  have ho : ∀ q, q ≠ j → (w.setCell ⟨K, j, none⟩ (.slice none 0 0)).cell? ⟨K, q, none⟩ = w.cell? ⟨K, q, none⟩ := fun q hq => World.cell?_setCell_other _ _ _ _ (by simp only [ne_eq, Addr.mk.injEq, not_and]; intro _ e; omega)
  refine ⟨fun q hq => ?_, fun q hq => ?_⟩
  · by_cases e : q = j
    · subst e; exact ⟨_, hs⟩
    · rw [ho q e]; exact h q hq
  · by_cases e : q = j
    · subst e; exact hs
    · rw [ho q e]; exact hn q (by omega)
theorem clear_book {w : World} {B K : Nat} {ρ : Nat → Nat} {vb vw : Value} {es : List Ent} (h : Bk w B K ρ vb vw es) :
    Bk ((((((w.setCell ⟨K, 0, none⟩ (.slice none 0 0)).setCell ⟨K, 1, none⟩ (.slice none 0 0)).setCell ⟨K, 2, none⟩ (.slice none 0 0)).setCell ⟨K, 3, none⟩ (.slice none 0 0)).setCell ⟨K, 4, none⟩ (.slice none 0 0)).setCell ⟨K, 5, none⟩ (.slice none 0 0)) B K (fun k => if k = K then 1 else 0) (.slice none 0 0) (.slice none 0 0) [] ∧
    Off (fun k => k = K) w ((((((w.setCell ⟨K, 0, none⟩ (.slice none 0 0)).setCell ⟨K, 1, none⟩ (.slice none 0 0)).setCell ⟨K, 2, none⟩ (.slice none 0 0)).setCell ⟨K, 3, none⟩ (.slice none 0 0)).setCell ⟨K, 4, none⟩ (.slice none 0 0)).setCell ⟨K, 5, none⟩ (.slice none 0 0)) := by
  have z : ∀ q, q < 6 → ∃ v, w.cell? ⟨K, q, none⟩ = some v := fun q hq => by
    match q, hq with
    | 0, _ => exact ⟨_, h.c0⟩
    | 1, _ => exact ⟨_, h.c1⟩
    | 2, _ => exact ⟨_, h.c2⟩
    | 3, _ => exact ⟨_, h.c3⟩
    | 4, _ => exact ⟨_, h.c4⟩
    | 5, _ => exact ⟨_, h.c5⟩
  obtain ⟨a0, b0⟩ := clear_one z (fun q hq => absurd hq (by omega)) (j := 0) (by decide)
  obtain ⟨a1, b1⟩ := clear_one a0 b0 (by decide)
  obtain ⟨a2, b2⟩ := clear_one a1 b1 (by decide)
  obtain ⟨a3, b3⟩ := clear_one a2 b2 (by decide)
  obtain ⟨a4, b4⟩ := clear_one a3 b3 (by decide)
  obtain ⟨a5, b5⟩ := clear_one a4 b4 (by decide)
  refine ⟨Bk.empty b5 (fun q => ?_) (by simpa using h.hB), ?_⟩
  · simp only [World.frozen?_setCell]; exact h.fz q
  · exact ((((((Off.refl (fun k => k = K) w).setCell (p := ⟨K, 0, none⟩) rfl _).setCell (p := ⟨K, 1, none⟩) rfl _).setCell (p := ⟨K, 2, none⟩) rfl _).setCell (p := ⟨K, 3, none⟩) rfl _).setCell (p := ⟨K, 4, none⟩) rfl _).setCell (p := ⟨K, 5, none⟩) rfl _
set_option maxRecDepth 100000 in
set_option maxHeartbeats 8000000 in
theorem Alone_true {w : World} {B K : Nat} {ρ : Nat → Nat} {vb vw : Value} {es : List Ent} (h : Bk w B K ρ vb vw es) (hs : ∀ (i : Nat) (e : Ent), es[i]? = some e → e.old = e.bs ∧ e.bs.length ≤ 70368744177664) (hm : es.length + 1 ≤ 1099511627776) :
    Calls Tryd.prog 28 #[.pointer (some ⟨K, 0, none⟩)] w fun e w' => e = .returned (.bool true) ∧ Bk w' B K (fun k => if k = K then 1 else 0) (.slice none 0 0) (.slice none 0 0) [] ∧ Off (fun k => ρ k = 1 ∨ ∃ j, ρ k = 6 + 2 * j) w w' := by
  have HST := Still_true h hs (by omega)
  have HS : Hid (∀ (i : Nat) (e : Ent), es[i]? = some e → e.old = e.bs ∧ e.bs.length ≤ 70368744177664) := hs
  obtain ⟨ab, cb, rfl, hab⟩ := h.rb.isSlice
  rw [List.length_map] at h hab
  obtain ⟨n, hn⟩ : ∃ n, es.length = n := ⟨_, rfl⟩
  have HN : Hid (es.length = n ∧ (0 < n → ∃ g, ab = some ⟨g, 0, none⟩)) := ⟨hn, by rw [hn] at hab; exact hab⟩
  rw [hn] at h hm
  have HH : Hid (Bk w B K ρ (.slice ab n cb) vw es) := h
  have HS1 : Hid (Calls Tryd.prog 56 #[.pointer (some ⟨K, 0, none⟩)] w fun e w' => e = .returned (.bool true) ∧ ∃ k, w' = w.drewN k) := HST
  clear h hs hab hn HST
  go_enter Tryd.func28, Tryd.ntmps28
  go_wp2_with fail
  refine HS1.out.mono ?_
  rintro ev w0 ⟨rfl, k0, rfl⟩
  clear HS1
  have HB0 : Hid (Bk (w.drewN k0) B K ρ (.slice ab n cb) vw es) := HH.out.off (P := fun _ => False) ((Off.refl _ _).drewN _) (fun _ p => p.elim)
  have HO0 : Hid (Off (fun k => ρ k = 1 ∨ ∃ j, ρ k = 6 + 2 * j) w (w.drewN k0)) := (Off.refl _ _).drewN _
  obtain ⟨w0, hw0⟩ : ∃ x, w.drewN k0 = x := ⟨_, rfl⟩
  rw [hw0] at HB0 HO0 ⊢
  clear hw0 HH
  go_wp2_with fail
  refine (write_any HB0.out (fun i e he => (HS.out i e he).2) (by have := HN.out.1; omega)).mono ?_
  rintro ev w1 ⟨rfl, hb1, ho1⟩
  obtain ⟨fs, hfs⟩ : ∃ fs, wrote es.length es = fs := ⟨_, rfl⟩
  have HF : Hid (fs.length = n ∧ ∀ (i : Nat) (e : Ent), fs[i]? = some e → e.bs = mk i e.bs.length ∧ e.bs.length ≤ 70368744177664) := by
    subst hfs
    refine ⟨by rw [wrote_length]; exact HN.out.1, fun i e he => ?_⟩
    have hi : i < es.length := by have := (List.getElem?_eq_some_iff.1 he).1; rw [wrote_length] at this; exact this
    obtain ⟨d, hd⟩ : ∃ d, es[i]? = some d := ⟨_, List.getElem?_eq_getElem hi⟩
    rw [wrote_get es.length i es d hd, if_pos hi, Option.some.injEq] at he
    subst he
    exact ⟨by simp only [mk_length], by simp only [mk_length]; exact (HS.out i d hd).2⟩
  rw [hfs] at hb1
  have HB1 : Hid (Bk w1 B K ρ (.slice ab n cb) vw fs) := hb1
  have HO1 : Hid (Off (fun k => ρ k = 1 ∨ ∃ j, ρ k = 6 + 2 * j) w w1) := HO0.out.trans (ho1.mono (fun k p => Or.inr p))
  clear hb1 ho1 hfs HB0 HO0 HS
  go_wp2_with fail
  go_loopw [4, 7] (fun t4 t7 wx => ∃ i : Nat, i ≤ n ∧ t7 = .int .i64 i ∧ ∃ al nl cl, t4 = .slice al nl cl ∧ Hid (∃ ρ' ls, Gw wx B K ρ' (.slice ab n cb) vw (.slice al nl cl) fs ls ∧ ls.length = i ∧ Off (fun k => ρ k = 1 ∨ ∃ j, ρ k = 6 + 2 * j) w wx ∧ (∀ k, k < w1.heap.size → ρ' k = ρ k) ∧ w1.heap.size ≤ wx.heap.size ∧ (∀ z, (Value.slice al nl cl).ownBlock = some z → w1.heap.size ≤ z))) (fun _ t7 _ => n - (intOf t7).toNat)
  case atStart => exact ⟨0, Nat.zero_le _, rfl, _, _, _, rfl, ρ, [], ⟨HB1.out, VRow.nil _ _ _, fun g e => (by cases e), fun j l e h1 => (by simp at h1)⟩, rfl, HO1.out, fun _ _ => rfl, Nat.le_refl _, fun z e => (by cases e)⟩
  case round =>
    obtain ⟨i, hi, rfl, al, nl, cl, rfl, HI⟩ := hrel
    obtain ⟨ρ', ls, hgw, hls, hoff, hro, hsz, hfr⟩ := HI.out
    have q0 := hgw.bk.c0
    by_cases hlt : i < n
    · have hlt1 : (i : Int) < n := by omega
      obtain ⟨wo, hwo⟩ : ∃ x, x = wr := ⟨_, rfl⟩
      subst hwo
      obtain ⟨g, rfl⟩ := HN.out.2 (by omega)
      obtain ⟨e, he⟩ : ∃ e, fs[i]? = some e := ⟨_, List.getElem?_eq_getElem (by have := HF.out.1; omega)⟩
      have c1 : wo.cell? ⟨g, i, none⟩ = some e.val := hgw.bk.rb.slot (by rw [List.getElem?_map, he]; rfl)
      have r1 := hgw.bk.val i e he
      obtain ⟨a1, d1, e1, hb1⟩ := r1.isSlice
      obtain ⟨m, hm1⟩ : ∃ m, e.bs.length = m := ⟨_, rfl⟩
      have hmk := (HF.out.2 i e he).1
      have hml := (HF.out.2 i e he).2
      rw [hm1] at e1 hmk hml
      have HG : Hid (Gw wo B K ρ' (.slice (some ⟨g, 0, none⟩) n cb) vw (.slice al nl cl) fs ls ∧ ls.length = i ∧ fs[i]? = some e ∧ e.val = .slice a1 m d1 ∧ e.bs.length = m ∧ e.bs = mk i m ∧ Off (fun k => ρ k = 1 ∨ ∃ j, ρ k = 6 + 2 * j) w wo ∧ (∀ k, k < w1.heap.size → ρ' k = ρ k) ∧ w1.heap.size ≤ wo.heap.size ∧ (∀ z, (Value.slice al nl cl).ownBlock = some z → w1.heap.size ≤ z)) := ⟨hgw, hls, he, e1, hm1, hmk, hoff, hro, hsz, hfr⟩
      rw [e1] at c1
      clear HI hgw hls hoff hro hsz hfr he r1 e1 hb1 hm1 hmk
      go_wp2_with fail
      go_loopw [8, 9] (fun t8 t9 wx => ∃ k : Nat, k ≤ 90 ∧ t9 = .int .i64 k ∧ ∃ a8 c8, t8 = .slice a8 (m + k) c8 ∧ Hid (Grew wx B e.val (.slice a8 (m + k) c8) e.bs (mk i (m + k)) ∧ Off (fun z => ρ' z = 6 + 2 * i) wo wx ∧ (∀ z, (Value.slice a8 (m + k) c8).ownBlock = some z → e.val.ownBlock = some z ∨ wo.heap.size ≤ z))) (fun _ t9 _ => 90 - (intOf t9).toNat)
      case atStart =>
        refine ⟨0, by omega, rfl, a1, d1, rfl, ?_⟩
        obtain ⟨hgw, hls, he, e1, hm1, hmk, hoff, hro, hsz, hfr⟩ := HG.out
        have r1 := hgw.bk.val i e he
        refine ⟨?_, Off.refl _ _, fun z hz => Or.inl (by rw [e1]; exact hz)⟩
        have := Grew.refl r1
        rw [Nat.add_zero, ← e1, ← hmk]
        exact this
      case round =>
        obtain ⟨k, hk, rfl, a8, c8, rfl, HJ⟩ := hrel
        by_cases hlt2 : k < 90
        · have hlt3 : (k : Int) < 90 := by omega
          obtain ⟨a9, n9, c9, w9, e9, g9, o9, s9⟩ := run_grow HJ.out.1 (Nat.le_trans HG.out.1.bk.hB HJ.out.2.1.size) (by rw [mk_length]; omega) (markI i (m + k))
          obtain rfl : n9 = m + (k + 1) := by have := g9.row.len; rw [List.length_append, mk_length] at this; simp at this; omega
          have HK : Hid (Grew w9 B e.val (.slice a9 (m + (k + 1)) c9) e.bs (mk i (m + (k + 1))) ∧ Off (fun z => ρ' z = 6 + 2 * i) wo w9 ∧ (∀ z, (Value.slice a9 (m + (k + 1)) c9).ownBlock = some z → e.val.ownBlock = some z ∨ wo.heap.size ≤ z)) := by
            rw [← mk_succ] at g9
            refine ⟨g9, HJ.out.2.1.join o9 (fun z hz hz2 => ?_), fun z hz => ?_⟩
            · rcases HJ.out.2.2 z hz2 with q | q
              · exact HG.out.1.bk.pval i e HG.out.2.2.1 z q
              · omega
            · rcases s9 with q | ⟨g', q, hg'⟩
              · rw [q] at hz; exact HJ.out.2.2 z hz
              · rw [q, Option.some.injEq] at hz; have := HJ.out.2.1.size; exact Or.inr (by omega)
          clear g9 o9 s9 HJ
          go_wp2_with fail
          refine (mark_any i (m + k) (by omega) _).mono ?_
          rintro ev w2 ⟨rfl, rfl⟩
          go_wp2_with (at_builtin; refine wpList_append_run rfl (.tmp 43) (.tmp 48) 27 _ rfl e9 ?_)
          go_roundw
          case rel => exact ⟨k + 1, hlt2, by go_num, a9, c9, rfl, HK⟩
          case measure => simp [intOf]; omega
        · have hlt3 : ¬ (k : Int) < 90 := by omega
          obtain rfl : k = 90 := by omega
          have rl1 : VRow wr B 27 (.slice al nl cl) ls := HG.out.1.rl.off HJ.out.2.1 (fun z hz p => by have := HG.out.1.pl z hz; omega)
          obtain ⟨a9, n9, c9, w9, e9, v9, o9, s9⟩ := run_vpush rl1 (Nat.le_trans HG.out.1.bk.hB HJ.out.2.1.size) (by have := HG.out.2.1; omega) (.slice a8 (m + 90) c8) (slice_one _ _ _)
          have HK : Hid (∃ ρ'' ls', Gw w9 B K ρ'' (.slice (some ⟨g, 0, none⟩) n cb) vw (.slice a9 n9 c9) fs ls' ∧ ls'.length = i + 1 ∧ Off (fun k => ρ k = 1 ∨ ∃ j, ρ k = 6 + 2 * j) w w9 ∧ (∀ k, k < w1.heap.size → ρ'' k = ρ k) ∧ w1.heap.size ≤ w9.heap.size ∧ (∀ z, (Value.slice a9 n9 c9).ownBlock = some z → w1.heap.size ≤ z)) := by
            obtain ⟨hgw, hls, he, e1, hm1, hmk, hoff, hro, hsz, hfr⟩ := HG.out
            have hg1 := HJ.out.1
            rw [← hm1] at hg1
            obtain ⟨ρ'', hgw2, hof2, hro2⟩ := gw_step hgw hls he HJ.out.2.1 (hm1 ▸ HJ.out.1) HJ.out.2.2 v9 o9 s9
            refine ⟨ρ'', _, hgw2, by simp [hls], hoff.join hof2 (fun z hz p => ?_), fun k hk => by rw [hro2 k (by omega)]; exact hro k hk, Nat.le_trans hsz hof2.size, fun z hz => ?_⟩
            · have hs1 : w.heap.size ≤ w1.heap.size := HO1.out.size
              rcases p with p | p
              · rw [hro z (by omega)] at p; exact Or.inr ⟨i, p⟩
              · have := hfr z p; omega
            · rcases s9 with q | ⟨g', q, hg'⟩
              · rw [q] at hz; exact hfr z hz
              · rw [q, Option.some.injEq] at hz; have := HJ.out.2.1.size; omega
          clear rl1 v9 o9 s9 HJ
          go_wp2_with (at_builtin; refine wpList_append_run rfl (.tmp 50) (.tmp 52) 22 _ rfl e9 ?_)
          go_roundw
          case rel => exact ⟨i + 1, hlt, by go_num, a9, n9, c9, rfl, HK⟩
          case measure => simp [intOf]; omega
    · have hlt1 : ¬ (i : Int) < n := by omega
      obtain rfl : i = n := by omega
      have q2 := hgw.bk.c2
      have q4 := hgw.bk.c4
      have HSH := shows_true hgw (by rw [hls]; exact HF.out.1.symm) HF.out.2 (by have := HF.out.1; omega)
      have HX : Hid (Gw wr B K ρ' (.slice ab i cb) vw (.slice al nl cl) fs ls ∧ Off (fun k => ρ k = 1 ∨ ∃ j, ρ k = 6 + 2 * j) w wr) := ⟨hgw, hoff⟩
      have HS2 : Hid (Calls Tryd.prog 61 #[.pointer (some ⟨K, 0, none⟩), .slice al nl cl, .slice none 0 0, .slice none 0 0] wr fun e w' => e = .returned (.bool true) ∧ ∃ k, w' = wr.drewN k) := HSH
      have HKp : Hid (ρ K = 1) := by
        have h1 := HB1.out.pK
        exact h1
      clear HSH hgw hls hoff hro hsz hfr HI
      go_wp2_with fail
      refine wp_loop_rounds 1 ?_
      rw [rounds_succ]
      go_wp2_with fail
      refine wp_loop_rounds 1 ?_
      rw [rounds_succ]
      go_wp2_with fail
      refine HS2.out.mono ?_
      rintro ev w3 ⟨rfl, k3, rfl⟩
      have hb3 : Bk (wr.drewN k3) B K ρ' (.slice ab i cb) vw fs := HX.out.1.bk.off (P := fun _ => False) ((Off.refl _ _).drewN _) (fun _ p => p.elim)
      have ho3 : Off (fun k => ρ k = 1 ∨ ∃ j, ρ k = 6 + 2 * j) w (wr.drewN k3) := HX.out.2.drewN _
      obtain ⟨w3, hw3⟩ : ∃ x, wr.drewN k3 = x := ⟨_, rfl⟩
      rw [hw3] at hb3 ho3 ⊢
      have r0 := hb3.c0
      have r1 := hb3.c1
      have r2 := hb3.c2
      have r3 := hb3.c3
      have r4 := hb3.c4
      have r5 := hb3.c5
      have f0 := hb3.fz 0
      have f1 := hb3.fz 1
      have f2 := hb3.fz 2
      have f3 := hb3.fz 3
      have f4 := hb3.fz 4
      have f5 := hb3.fz 5
      have HB3 : Hid (Bk w3 B K ρ' (.slice ab i cb) vw fs ∧ Off (fun k => ρ k = 1 ∨ ∃ j, ρ k = 6 + 2 * j) w w3) := ⟨hb3, ho3⟩
      clear hb3 ho3 hw3 HX HS2 q0 q2 q4
      go_wp2_with fail
      go_ret
      obtain ⟨h1, h2⟩ := clear_book HB3.out.1
      exact ⟨rfl, h1, HB3.out.2.trans (h2.mono (fun k e => Or.inl (by rw [e]; exact HKp.out)))⟩
end Go.Proofs.YtpcickhellkiaaaDoor.Bo
