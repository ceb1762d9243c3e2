import Derived.Test.YtjbkfppibnlmoaaGreatDoorMem2
/-
  couriermem.Book in memory: lists of bytes that were handed out, and what they were.
-/
namespace Go.Proofs.YtjbkfppibnlmoaaGreatDoor.Bo
open Go.RowKit

theorem slinfo : ∃ i, Tryz.prog.info? 28 = some i ∧ i.zero = some (.slice none 0 0) ∧ i.size = 1 ∧ i.bytes = 24 := by
  have h : (Tryz.prog.info? 28).map (fun i => (i.zero, i.size, i.bytes)) = some (some (.slice none 0 0), 1, 24) := by kernel_rfl
  obtain ⟨i, hi, e⟩ := Option.map_eq_some_iff.1 h
  simp only [Prod.mk.injEq] at e
  exact ⟨i, hi, e.1, e.2.1, e.2.2⟩
theorem VRow.nil (w : World) (B : Nat) (e : TypeId) : VRow w B e (.slice none 0 0) [] := ⟨rfl, Or.inl ⟨rfl, rfl⟩⟩
theorem VRow.form {w : World} {B : Nat} {e : TypeId} {v : Value} {xs : List Value} (h : VRow w B e v xs) : (v = .slice none 0 0 ∧ xs = []) ∨ ∃ g cap, v = .slice (some ⟨g, 0, none⟩) xs.length cap ∧ B ≤ g ∧ g < w.heap.size ∧ xs.length ≤ cap ∧ cap ≤ maxLen := by
  rcases h.2 with ⟨rfl, h0⟩ | ⟨g, cap, cur, rfl, hB, hg, hn, hm, _, _⟩
  · exact Or.inl ⟨rfl, List.eq_nil_of_length_eq_zero h0⟩
  · refine Or.inr ⟨g, cap, rfl, hB, ?_, hn, hm⟩
    rcases Nat.lt_or_ge g w.heap.size with g1 | g1
    · exact g1
    · rw [Array.getElem?_eq_none g1] at hg; cases hg
theorem VRow.keep {w w' : World} {B : Nat} {e : TypeId} {v : Value} {xs : List Value} (h : VRow w B e v xs) (hk : ∀ g, v.ownBlock = some g → w'.heap[g]? = w.heap[g]?) : VRow w' B e v xs := by
  rcases h.2 with ⟨rfl, h0⟩ | ⟨g, cap, cur, rfl, hB, hg, rest⟩
  · exact ⟨h.1, Or.inl ⟨rfl, h0⟩⟩
  · exact ⟨h.1, Or.inr ⟨g, cap, cur, rfl, hB, by rw [hk g rfl]; exact hg, rest⟩⟩
theorem VRow.lt {w : World} {B : Nat} {e : TypeId} {v : Value} {xs : List Value} (h : VRow w B e v xs) {g : Nat} (hg : v.ownBlock = some g) : B ≤ g ∧ g < w.heap.size := by
  rcases h.form with ⟨rfl, _⟩ | ⟨g', cap, rfl, hB, hl, _⟩
  · cases hg
  · simp only [Value.ownBlock, Option.some.injEq] at hg; subst hg; exact ⟨hB, hl⟩
theorem VRow.slot {w : World} {B : Nat} {e : TypeId} {xs : List Value} {g cap n : Nat} (h : VRow w B e (.slice (some ⟨g, 0, none⟩) n cap) xs) {j : Nat} {u : Value} (hj : xs[j]? = some u) : w.cell? ⟨g, j, none⟩ = some u := by
  rcases h.2 with ⟨h0, _⟩ | ⟨g', cap', cur, e', hB, hg, hn, hm, hc, ht⟩
  · cases h0
  · simp only [Value.slice.injEq, Option.some.injEq, Addr.mk.injEq, and_true] at e'
    obtain ⟨rfl, rfl, rfl⟩ := e'
    have hl := (List.getElem?_eq_some_iff.1 hj).1
    have e1 : (cur.toList.take (xs.length * 1))[j]? = xs[j]? := by rw [ht]
    rw [List.getElem?_take, if_pos (by omega)] at e1
    have e2 : w.cell? ⟨g, j, none⟩ = cur[j]? := by simp [World.cell?, hg]
    rw [e2, ← Array.getElem?_toList, e1, hj]
theorem VRow.off {P : Nat → Prop} {w w' : World} {B : Nat} {e : TypeId} {v : Value} {xs : List Value} (h : VRow w B e v xs) (o : Off P w w') (hP : ∀ g, v.ownBlock = some g → ¬ P g) : VRow w' B e v xs :=
  h.keep fun g hg => o.block g (h.lt hg).2 (hP g hg)
theorem Row.off {P : Nat → Prop} {w w' : World} {B : Nat} {v : Value} {xs : List Int} (h : Row w B v xs) (o : Off P w w') (hP : ∀ g, v.ownBlock = some g → ¬ P g) : Row w' B v xs :=
  h.keep fun g hg => o.block g (h.lt hg).2 (hP g hg)
/-- 'append' of one list to a list of lists. -/
theorem run_vpush {w : World} {B : Nat} {v : Value} {xs : List Value} (h : VRow w B 28 v xs) (hB : B ≤ w.heap.size) (hl : xs.length + 1 ≤ 1099511627776) (u : Value) (hu : u.oneCell' = true) :
    ∃ a n c w', (Builtin.append_ #[48, 48] 48 #[v, .slice (some ⟨w.heap.size, 0, none⟩) 1 1]).run Tryz.prog (w.alloc (.cells #[u] 28)) = .ok (.slice a n c) w' ∧ VRow w' B 28 (.slice a n c) (xs ++ [u]) ∧ Off (fun k => v.ownBlock = some k) w w' ∧ ((Value.slice a n c).ownBlock = v.ownBlock ∨ ∃ g, (Value.slice a n c).ownBlock = some g ∧ w.heap.size ≤ g) := by
  obtain ⟨i, hi, hz, hs, hby⟩ := slinfo
  have hrow : VRow (w.alloc (.cells #[u] 28)) B 28 v xs := h.keep (fun g e => ((Below.refl w.heap.size w).alloc (Nat.le_refl _) (.cells #[u] 28)).block g (h.lt e).2)
  obtain ⟨v', w', hr, r, p⟩ := run_append_two (P := Tryz.prog) (w.alloc (.cells #[u] 28)) B 48 48 28 i _ 24 Tryz.underlying48 hi hz hs hby rfl v xs hrow ⟨w.heap.size, 0, none⟩ 1 1 [u] rfl (cell_one_new w u _) (fun x hx => by simp only [List.mem_singleton] at hx; subst hx; exact hu) (by unfold maxLen; omega) (by omega) (by simp; omega)
  have hof : Off (fun k => v.ownBlock = some k) w w' := by
    refine ((Off.refl _ w).alloc (.cells #[u] 28)).trans ?_
    cases p with
    | same g cap hv hv' hg => rw [hv]; exact Off.of_grown hg
    | idle hv hm hw => omega
    | fresh cap hv' hg hs => exact (Off.of_grown hg).mono (fun k e => by cases e)
  cases p with
  | same g cap hv hv' hg => subst hv; subst hv'; exact ⟨_, _, _, w', hr, r, hof, Or.inl rfl⟩
  | idle hv hm hw => omega
  | fresh cap hv' hg hs => subst hv'; exact ⟨_, _, _, w', hr, r, hof, Or.inr ⟨_, rfl, by simp⟩⟩
/-- One list of the book: where it lies, what it holds; the copy, what that holds. -/
structure Ent where
  val : Value
  was : Value
  bs : List Int
  old : List Int
/-- The book at block K. The blocks' roles: 1 the book, 2 and 3 its two lists, 4 the copies, 6 + 2 i the list of place i; 0: none of them. -/
structure Bk (w : World) (B K : Nat) (ρ : Nat → Nat) (vb vw vt vu : Value) (es : List Ent) : Prop where
  c0 : w.cell? ⟨K, 0, none⟩ = some vb
  c1 : w.cell? ⟨K, 1, none⟩ = some vw
  c2 : w.cell? ⟨K, 2, none⟩ = some (.slice none 0 0)
  c3 : w.cell? ⟨K, 3, none⟩ = some (.slice none 0 0)
  c4 : w.cell? ⟨K, 4, none⟩ = some vt
  c5 : w.cell? ⟨K, 5, none⟩ = some vu
  fz : ∀ q, w.frozen? ⟨K, q, none⟩ = false
  hB : B ≤ w.heap.size
  rb : VRow w B 28 vb (es.map Ent.val)
  rws : VRow w B 28 vw (es.map Ent.was)
  val : ∀ (i : Nat) (e : Ent), es[i]? = some e → Row w B e.val e.bs
  was : ∀ (i : Nat) (e : Ent), es[i]? = some e → Row w B e.was e.old
  pK : ρ K = 1
  pb : ∀ g, vb.ownBlock = some g → ρ g = 2
  pw : ∀ g, vw.ownBlock = some g → ρ g = 3
  pwas : ∀ (i : Nat) (e : Ent), es[i]? = some e → ∀ g, e.was.ownBlock = some g → ρ g = 4
  pval : ∀ (i : Nat) (e : Ent), es[i]? = some e → ∀ g, e.val.ownBlock = some g → ρ g = 6 + 2 * i
  new : ∀ g, w.heap.size ≤ g → ρ g = 0
theorem Bk.lt {w : World} {B K : Nat} {ρ : Nat → Nat} {vb vw vt vu : Value} {es : List Ent} (h : Bk w B K ρ vb vw vt vu es) : K < w.heap.size := by
  rcases Nat.lt_or_ge K w.heap.size with g | g
  · exact g
  · have := h.c0; simp [World.cell?, Array.getElem?_eq_none g] at this
/-- What others do, and new roles for new blocks. -/
theorem Bk.role {P : Nat → Prop} {w w' : World} {B K : Nat} {ρ ρ' : Nat → Nat} {vb vw vt vu : Value} {es : List Ent} (h : Bk w B K ρ vb vw vt vu es) (o : Off P w w') (hP : ∀ k, P k → ρ k = 0 ∨ ρ k = 5) (hr : ∀ k, k < w.heap.size → ρ k ≠ 0 → ρ k ≠ 5 → ρ' k = ρ k) (hn : ∀ g, w'.heap.size ≤ g → ρ' g = 0) : Bk w' B K ρ' vb vw vt vu es := by
  have hK := h.lt
  have nP : ∀ {k r : Nat}, ρ k = r → r ≠ 0 → r ≠ 5 → ¬ P k := fun {k r} e h0 h5 p => by rcases hP k p with q | q <;> omega
  have hc : ∀ q, w'.cell? ⟨K, q, none⟩ = w.cell? ⟨K, q, none⟩ := fun q => o.cell (p := ⟨K, q, none⟩) hK (nP h.pK (by decide) (by decide))
  refine ⟨by rw [hc]; exact h.c0, by rw [hc]; exact h.c1, by rw [hc]; exact h.c2, by rw [hc]; exact h.c3, by rw [hc]; exact h.c4, by rw [hc]; exact h.c5, fun q => by rw [o.frozen (p := ⟨K, q, none⟩) hK (nP h.pK (by decide) (by decide))]; exact h.fz q, Nat.le_trans h.hB o.size,
    h.rb.off o (fun g e => nP (h.pb g e) (by decide) (by decide)), h.rws.off o (fun g e => nP (h.pw g e) (by decide) (by decide)),
    fun i e he => (h.val i e he).off o (fun g eg => nP (h.pval i e he g eg) (by omega) (by omega)), fun i e he => (h.was i e he).off o (fun g eg => nP (h.pwas i e he g eg) (by decide) (by decide)),
    ?_, fun g e => ?_, fun g e => ?_, fun i e he g eg => ?_, fun i e he g eg => ?_, hn⟩
  · rw [hr K hK (by rw [h.pK]; decide) (by rw [h.pK]; decide)]; exact h.pK
  · have := h.pb g e; rw [hr g (h.rb.lt e).2 (by omega) (by omega)]; exact this
  · have := h.pw g e; rw [hr g (h.rws.lt e).2 (by omega) (by omega)]; exact this
  · have := h.pwas i e he g eg; rw [hr g ((h.was i e he).lt eg).2 (by omega) (by omega)]; exact this
  · have := h.pval i e he g eg; rw [hr g ((h.val i e he).lt eg).2 (by omega) (by omega)]; exact this
theorem Bk.off {P : Nat → Prop} {w w' : World} {B K : Nat} {ρ : Nat → Nat} {vb vw vt vu : Value} {es : List Ent} (h : Bk w B K ρ vb vw vt vu es) (o : Off P w w') (hP : ∀ k, P k → ρ k = 0) : Bk w' B K ρ vb vw vt vu es :=
  h.role o (fun k p => Or.inl (hP k p)) (fun _ _ _ _ => rfl) (fun g hg => h.new g (Nat.le_trans o.size hg))
/-- One list is touched. -/
theorem Bk.touch {w w' : World} {B K : Nat} {ρ : Nat → Nat} {vb vw vt vu : Value} {es : List Ent} (h : Bk w B K ρ vb vw vt vu es) {i : Nat} {e : Ent} (he : es[i]? = some e) (o : Off (fun k => ρ k = 6 + 2 * i) w w') {bs' : List Int} (hv : Row w' B e.val bs') :
    Bk w' B K ρ vb vw vt vu (es.set i { e with bs := bs' }) := by
  have hK := h.lt
  have hi : i < es.length := (List.getElem?_eq_some_iff.1 he).1
  have hat : ∀ j x, (es.set i { e with bs := bs' })[j]? = some x → (j = i ∧ x = { e with bs := bs' }) ∨ (j ≠ i ∧ es[j]? = some x) := fun j x hx => by
    by_cases hj : i = j
    · subst hj
      rw [List.getElem?_set_self hi] at hx
      exact Or.inl ⟨rfl, by simpa using hx.symm⟩
    · rw [List.getElem?_set_ne hj] at hx
      exact Or.inr ⟨fun q => hj q.symm, hx⟩
  have hc : ∀ q, w'.cell? ⟨K, q, none⟩ = w.cell? ⟨K, q, none⟩ := fun q => o.cell (p := ⟨K, q, none⟩) hK (fun (q : ρ K = _) => by have := h.pK; omega)
  have hge : ∀ (f : Ent → Value), f { e with bs := bs' } = f e → (es.set i { e with bs := bs' }).map f = es.map f := fun f hf => by
    rw [List.map_set, hf]
    refine List.ext_getElem? fun j => ?_
    by_cases hj : i = j
    · subst hj; rw [List.getElem?_set_self (by simpa using hi), List.getElem?_map, he]; rfl
    · rw [List.getElem?_set_ne hj]
  refine ⟨by rw [hc]; exact h.c0, by rw [hc]; exact h.c1, by rw [hc]; exact h.c2, by rw [hc]; exact h.c3, by rw [hc]; exact h.c4, by rw [hc]; exact h.c5, fun q => by rw [o.frozen (p := ⟨K, q, none⟩) hK (fun (q : ρ K = _) => by have := h.pK; omega)]; exact h.fz q, Nat.le_trans h.hB o.size,
    ?_, ?_, fun j x hx => ?_, fun j x hx => ?_, h.pK, h.pb, h.pw, fun j x hx g eg => ?_, fun j x hx g eg => ?_, fun g hg => h.new g (Nat.le_trans o.size hg)⟩
  · rw [hge Ent.val rfl]; exact h.rb.off o (fun g e (q : ρ g = _) => by have := h.pb g e; omega)
  · rw [hge Ent.was rfl]; exact h.rws.off o (fun g e (q : ρ g = _) => by have := h.pw g e; omega)
  · rcases hat j x hx with ⟨rfl, rfl⟩ | ⟨hj, hx'⟩
    · exact hv
    · exact (h.val j x hx').off o (fun g eg (q : ρ g = _) => by have := h.pval j x hx' g eg; omega)
  · rcases hat j x hx with ⟨rfl, rfl⟩ | ⟨hj, hx'⟩
    · exact (h.was j e he).off o (fun g eg (q : ρ g = _) => by have := h.pwas j e he g eg; omega)
    · exact (h.was j x hx').off o (fun g eg (q : ρ g = _) => by have := h.pwas j x hx' g eg; omega)
  · rcases hat j x hx with ⟨rfl, rfl⟩ | ⟨hj, hx'⟩
    · exact h.pwas j e he g eg
    · exact h.pwas j x hx' g eg
  · rcases hat j x hx with ⟨rfl, rfl⟩ | ⟨hj, hx'⟩
    · exact h.pval j e he g eg
    · exact h.pval j x hx' g eg
end Go.Proofs.YtjbkfppibnlmoaaGreatDoor.Bo

/-
  Book.Take.
-/
namespace Go.Proofs.YtjbkfppibnlmoaaGreatDoor.Bo
open Go.RowKit

theorem Row.asByts {w : World} {B n c : Nat} {a : Option Addr} {xs : List Int} (h : Row w B (.slice a n c) xs) : Byts w a n xs := by
  rcases h.form with ⟨e, rfl⟩ | ⟨g, cap, e, _⟩
  · cases e; exact ⟨rfl, fun j hj => by omega⟩
  · cases e; exact h.bytes
theorem Row.len {w : World} {B n c : Nat} {a : Option Addr} {xs : List Int} (h : Row w B (.slice a n c) xs) : xs.length = n := h.asByts.len
theorem slice_one (a : Option Addr) (n c : Nat) : (Value.slice a n c).oneCell' = true := rfl
/-- The roles behind a Take. -/
def roleT (ρ : Nat → Nat) (N g b v : Nat) (l : Option Nat) (n : Nat) (k : Nat) : Nat := if l = some k then 6 + 2 * n else if k < N then ρ k else if k = g then 4 else if k = b then 2 else if k = v then 3 else 0
theorem take_done {w wr w2 w3 w4 : World} {B K : Nat} {ρ : Nat → Nat} {vb vw vt vu : Value} {es : List Ent} {a ab aw : Option Addr} {n c nb cb nw cw : Nat} {bs : List Int} (h : Bk w B K ρ vb vw vt vu es) (hl : Row w B (.slice a n c) bs) (hz : ∀ g, (Value.slice a n c).ownBlock = some g → ρ g = 0)
    (hrow : Row wr w.heap.size (.slice (some ⟨w.heap.size, 0, none⟩) n n) bs) (hbel : Below w.heap.size w wr) (hb1 : Bk wr B K ρ vb vw vt vu es) (r2 : VRow w2 B 28 (.slice ab nb cb) (es.map Ent.val ++ [.slice a n c])) (o2 : Off (fun k => vb.ownBlock = some k) wr w2) (s2 : (Value.slice ab nb cb).ownBlock = vb.ownBlock ∨ ∃ g, (Value.slice ab nb cb).ownBlock = some g ∧ wr.heap.size ≤ g)
    (hw3 : w2.setCell ⟨K, 0, none⟩ (.slice ab nb cb) = w3) (r4 : VRow w4 B 28 (.slice aw nw cw) (es.map Ent.was ++ [.slice (some ⟨w.heap.size, 0, none⟩) n n])) (o4 : Off (fun k => vw.ownBlock = some k) w3 w4) (s4 : (Value.slice aw nw cw).ownBlock = vw.ownBlock ∨ ∃ g, (Value.slice aw nw cw).ownBlock = some g ∧ w3.heap.size ≤ g) :
    ∃ ρ' vb' vw' was, Bk (w4.setCell ⟨K, 1, none⟩ (.slice aw nw cw)) B K ρ' vb' vw' vt vu (es ++ [⟨.slice a n c, was, bs, bs⟩]) ∧ Off (fun k => ρ k = 1 ∨ ρ k = 2 ∨ ρ k = 3) w (w4.setCell ⟨K, 1, none⟩ (.slice aw nw cw)) ∧ (∀ k, k < w.heap.size → (Value.slice a n c).ownBlock ≠ some k → ρ' k = ρ k) := by
  have hK := h.lt
  have hg1 : w.heap.size < wr.heap.size := (hrow.lt (g := w.heap.size) rfl).2
  have hs12 : wr.heap.size ≤ w2.heap.size := o2.size
  have hs23 : w2.heap.size = w3.heap.size := by rw [← hw3]; simp
  have hs34 : w3.heap.size ≤ w4.heap.size := o4.size
  obtain ⟨w5, hw5⟩ : ∃ x, w4.setCell ⟨K, 1, none⟩ (.slice aw nw cw) = x := ⟨_, rfl⟩
  have hs45 : w4.heap.size = w5.heap.size := by rw [← hw5]; simp
  have o23 : Off (fun k => k = K) w2 w3 := by rw [← hw3]; exact Off.setCell (P := fun k => k = K) (Off.refl _ _) (p := ⟨K, 0, none⟩) rfl _
  have o45 : Off (fun k => k = K) w4 w5 := by rw [← hw5]; exact Off.setCell (P := fun k => k = K) (Off.refl _ _) (p := ⟨K, 1, none⟩) rfl _
  have or5 : Off (fun k => ρ k = 1 ∨ ρ k = 2 ∨ ρ k = 3) wr w5 := by
    refine ((o2.mono (fun k e => Or.inr (Or.inl (hb1.pb k e)))).trans (o23.mono (fun k e => Or.inl (by rw [e]; exact h.pK)))).trans ((o4.mono (fun k e => Or.inr (Or.inr (hb1.pw k e)))).trans (o45.mono (fun k e => Or.inl (by rw [e]; exact h.pK))))
  have o05 : Off (fun k => ρ k = 1 ∨ ρ k = 2 ∨ ρ k = 3) w w5 := (Off.of_below hbel).trans or5
  have nK2 : vb.ownBlock ≠ some K := fun e => by have h1 := hb1.pb K e; have h2 := hb1.pK; omega
  have nK3 : vw.ownBlock ≠ some K := fun e => by have h1 := hb1.pw K e; have h2 := hb1.pK; omega
  -- the numbers of the new blocks
  obtain ⟨gb, hgb⟩ : ∃ g, ∀ k, (Value.slice ab nb cb).ownBlock = some k → (k < w.heap.size ∧ ρ k = 2) ∨ (k = g ∧ wr.heap.size ≤ k ∧ k < w3.heap.size) := by
    rcases s2 with e | ⟨g, e, hg⟩
    · refine ⟨0, fun k hk => Or.inl ?_⟩
      rw [e] at hk
      exact ⟨(h.rb.lt hk).2, h.pb k hk⟩
    · refine ⟨g, fun k hk => Or.inr ?_⟩
      have h1 := (r2.lt hk).2
      rw [e] at hk
      simp only [Option.some.injEq] at hk
      omega
  obtain ⟨gw, hgw⟩ : ∃ g, ∀ k, (Value.slice aw nw cw).ownBlock = some k → (k < w.heap.size ∧ ρ k = 3) ∨ (k = g ∧ w3.heap.size ≤ k ∧ k < w4.heap.size) := by
    rcases s4 with e | ⟨g, e, hg⟩
    · refine ⟨0, fun k hk => Or.inl ?_⟩
      rw [e] at hk
      exact ⟨(h.rws.lt hk).2, h.pw k hk⟩
    · refine ⟨g, fun k hk => Or.inr ?_⟩
      have h1 := (r4.lt hk).2
      rw [e] at hk
      simp only [Option.some.injEq] at hk
      omega
  have hlb : ∀ k, (Value.slice a n c).ownBlock = some k → k < w.heap.size ∧ ρ k = 0 := fun k e => ⟨(hl.lt e).2, hz k e⟩
  refine ⟨roleT ρ w.heap.size w.heap.size (if wr.heap.size ≤ gb ∧ gb < w3.heap.size then gb else 0) (if w3.heap.size ≤ gw ∧ gw < w4.heap.size then gw else 0) (Value.slice a n c).ownBlock es.length, .slice ab nb cb, .slice aw nw cw, .slice (some ⟨w.heap.size, 0, none⟩) n n, ?_, by rw [hw5]; exact o05, fun k hk hn => by simp only [roleT, if_neg hn, if_pos hk]⟩
  rw [hw5]
  have hold : ∀ k, k < w.heap.size → ρ k ≠ 0 → roleT ρ w.heap.size w.heap.size (if wr.heap.size ≤ gb ∧ gb < w3.heap.size then gb else 0) (if w3.heap.size ≤ gw ∧ gw < w4.heap.size then gw else 0) (Value.slice a n c).ownBlock es.length k = ρ k := fun k hk hr => by
    have hn : (Value.slice a n c).ownBlock ≠ some k := fun e => hr (hlb k e).2
    simp only [roleT, if_neg hn, if_pos hk]
  have hat : ∀ (j : Nat) (x : Ent), (es ++ [⟨.slice a n c, .slice (some ⟨w.heap.size, 0, none⟩) n n, bs, bs⟩])[j]? = some x → (j < es.length ∧ es[j]? = some x) ∨ (j = es.length ∧ x = ⟨.slice a n c, .slice (some ⟨w.heap.size, 0, none⟩) n n, bs, bs⟩) := fun j x hx => by
    rcases Nat.lt_or_ge j es.length with g | g
    · rw [List.getElem?_append_left g] at hx; exact Or.inl ⟨g, hx⟩
    · rw [List.getElem?_append_right g] at hx
      rcases Nat.eq_or_lt_of_le g with e | e
      · subst e; simp at hx; exact Or.inr ⟨rfl, hx.symm⟩
      · rw [List.getElem?_eq_none (by simp; omega)] at hx; cases hx
  have cK : ∀ q, q ≠ 0 → q ≠ 1 → w5.cell? ⟨K, q, none⟩ = w.cell? ⟨K, q, none⟩ := fun q h0 h1 => by
    rw [← hw5, World.cell?_setCell_other _ _ _ _ (by simp only [ne_eq, Addr.mk.injEq, not_and]; intro _ e; omega), o4.cell (p := ⟨K, q, none⟩) (by show K < _; omega) nK3, ← hw3, World.cell?_setCell_other _ _ _ _ (by simp only [ne_eq, Addr.mk.injEq, not_and]; intro _ e; omega), o2.cell (p := ⟨K, q, none⟩) (by show K < _; omega) nK2, hbel.cell (p := ⟨K, q, none⟩) hK]
  have fK : ∀ q, w5.frozen? ⟨K, q, none⟩ = w.frozen? ⟨K, q, none⟩ := fun q => by
    rw [← hw5, World.frozen?_setCell, o4.frozen (p := ⟨K, q, none⟩) (by show K < _; omega) nK3, ← hw3, World.frozen?_setCell, o2.frozen (p := ⟨K, q, none⟩) (by show K < _; omega) nK2, hbel.frozen (p := ⟨K, q, none⟩) hK]
  have c03 : w3.cell? ⟨K, 0, none⟩ = some (.slice ab nb cb) := by
    rw [← hw3]
    exact World.cell?_setCell_same _ _ _ (show _ = some vb by rw [o2.cell (p := ⟨K, 0, none⟩) (by show K < _; omega) nK2]; exact hb1.c0)
  have c05 : w5.cell? ⟨K, 0, none⟩ = some (.slice ab nb cb) := by
    rw [← hw5, World.cell?_setCell_other _ _ _ _ (by simp), o4.cell (p := ⟨K, 0, none⟩) (by show K < _; omega) nK3]; exact c03
  have c15 : w5.cell? ⟨K, 1, none⟩ = some (.slice aw nw cw) := by
    rw [← hw5]
    refine World.cell?_setCell_same _ _ _ (?_ : _ = some vw)
    rw [o4.cell (p := ⟨K, 1, none⟩) (by show K < _; omega) nK3, ← hw3, World.cell?_setCell_other _ _ _ _ (by simp), o2.cell (p := ⟨K, 1, none⟩) (by show K < _; omega) nK2]; exact hb1.c1
  have row5 : ∀ {v : Value} {xs : List Int}, Row w B v xs → (∀ g, v.ownBlock = some g → ρ g ≠ 1 ∧ ρ g ≠ 2 ∧ ρ g ≠ 3) → Row w5 B v xs := fun {v xs} hr hn => hr.off o05 (fun g e p => by have := hn g e; omega)
  refine ⟨c05, c15, by rw [cK 2 (by decide) (by decide)]; exact h.c2, by rw [cK 3 (by decide) (by decide)]; exact h.c3, by rw [cK 4 (by decide) (by decide)]; exact h.c4, by rw [cK 5 (by decide) (by decide)]; exact h.c5, fun q => by rw [fK]; exact h.fz q, by have := h.hB; omega,
    ?_, ?_, fun j x hx => ?_, fun j x hx => ?_, by rw [hold K hK (by rw [h.pK]; decide)]; exact h.pK, fun g e => ?_, fun g e => ?_, fun j x hx g e => ?_, fun j x hx g e => ?_, fun g hg => ?_⟩
  · rw [List.map_append]
    refine ((r2.off o23 (fun g e p => ?_)).off o4 (fun g e p => ?_)).off o45 (fun g e p => ?_)
    · subst p; rcases hgb _ e with q | q
      · have := h.pK; omega
      · omega
    · have hp := hb1.pw g p
      rcases hgb _ e with q | q
      · omega
      · have := h.new g (by omega); omega
    · subst p; rcases hgb _ e with q | q
      · have := h.pK; omega
      · omega
  · rw [List.map_append]
    refine r4.off o45 (fun g e p => ?_)
    subst p; rcases hgw _ e with q | q
    · have := h.pK; omega
    · omega
  · rcases hat j x hx with ⟨_, hx'⟩ | ⟨rfl, rfl⟩
    · exact row5 (h.val j x hx') (fun g e => by have := h.pval j x hx' g e; omega)
    · exact row5 hl (fun g e => by have := (hlb g e).2; omega)
  · rcases hat j x hx with ⟨_, hx'⟩ | ⟨rfl, rfl⟩
    · exact row5 (h.was j x hx') (fun g e => by have := h.pwas j x hx' g e; omega)
    · have r5 := hrow.off or5 (fun g e p => by
        simp only [Value.ownBlock, Option.some.injEq] at e; subst e
        have := h.new w.heap.size (Nat.le_refl _); omega)
      exact ⟨r5.1, by
        rcases r5.2 with q | ⟨g', c', u', e1, hb, rest⟩
        · exact Or.inl q
        · exact Or.inr ⟨g', c', u', e1, Nat.le_trans h.hB hb, rest⟩⟩
  · rcases hgb g e with ⟨q1, q2⟩ | ⟨q1, q2, q3⟩
    · rw [hold g q1 (by omega)]; exact q2
    · have hn : (Value.slice a n c).ownBlock ≠ some g := fun e' => by have := (hlb g e').1; omega
      subst q1
      simp only [roleT, if_neg hn, if_pos (And.intro q2 q3)]
      rw [if_neg (by omega), if_neg (by omega), if_pos trivial]
  · rcases hgw g e with ⟨q1, q2⟩ | ⟨q1, q2, q3⟩
    · rw [hold g q1 (by omega)]; exact q2
    · have hn : (Value.slice a n c).ownBlock ≠ some g := fun e' => by have := (hlb g e').1; omega
      subst q1
      simp only [roleT, if_neg hn, if_pos (And.intro q2 q3)]
      rw [if_neg (by omega), if_neg (by omega), if_neg (by split <;> omega), if_pos trivial]
  · rcases hat j x hx with ⟨_, hx'⟩ | ⟨rfl, rfl⟩
    · have hp := h.pwas j x hx' g e
      rw [hold g ((h.was j x hx').lt e).2 (by omega)]; exact hp
    · simp only [Value.ownBlock, Option.some.injEq] at e; subst e
      have hn : (Value.slice a n c).ownBlock ≠ some w.heap.size := fun e' => by have := (hlb _ e').1; omega
      simp only [roleT, if_neg hn]
      rw [if_neg (by omega), if_pos trivial]
  · rcases hat j x hx with ⟨_, hx'⟩ | ⟨rfl, rfl⟩
    · have hp := h.pval j x hx' g e
      rw [hold g ((h.val j x hx').lt e).2 (by omega)]; exact hp
    · simp only [roleT, if_pos e]
  · have hn : (Value.slice a n c).ownBlock ≠ some g := fun e' => by have := (hlb g e').1; omega
    simp only [roleT, if_neg hn]
    rw [if_neg (by omega), if_neg (by omega), if_neg (by split <;> omega), if_neg (by split <;> omega)]
set_option maxRecDepth 100000 in
set_option maxHeartbeats 2000000 in
theorem Take_any {w : World} {B K : Nat} {ρ : Nat → Nat} {vb vw vt vu : Value} {es : List Ent} {a : Option Addr} {n c : Nat} {bs : List Int} (h : Bk w B K ρ vb vw vt vu es) (hl : Row w B (.slice a n c) bs) (hz : ∀ g, (Value.slice a n c).ownBlock = some g → ρ g = 0) (hn : n ≤ 70368744177664) (hm : es.length + 1 ≤ 1099511627776) :
    Calls Tryz.prog 63 #[.pointer (some ⟨K, 0, none⟩), .slice a n c] w fun e w' => e = .returned (.tuple #[]) ∧ ∃ ρ' vb' vw' was, Bk w' B K ρ' vb' vw' vt vu (es ++ [⟨.slice a n c, was, bs, bs⟩]) ∧ Off (fun k => ρ k = 1 ∨ ρ k = 2 ∨ ρ k = 3) w w' ∧ (∀ k, k < w.heap.size → (Value.slice a n c).ownBlock ≠ some k → ρ' k = ρ k) := by
  have HH : Hid (Bk w B K ρ vb vw vt vu es) := h
  have HL : Hid (Row w B (.slice a n c) bs) := hl
  have HN : Hid (bs.length = n) := hl.len
  have HK : Hid (K < w.heap.size) := h.lt
  have HZ : Hid (∀ g, (Value.slice a n c).ownBlock = some g → ρ g = 0) := hz
  clear h hl hz
  obtain ⟨w1, hmk, hR, hB1⟩ := run_make_bytes (w := w) n (by omega)
  have HR : Hid (Row w1 w.heap.size (.slice (some ⟨w.heap.size, 0, none⟩) n n) (List.replicate n 0) ∧ Below w.heap.size w w1) := ⟨hR, hB1⟩
  clear hR hB1
  go_enter Tryz.func63, Tryz.ntmps63
  go_wp2_with fail
  clear hmk
  go_loopw [5] (fun ti wx => ∃ i : Nat, i ≤ n ∧ ti = .int .i64 i ∧ Hid (Row wx w.heap.size (.slice (some ⟨w.heap.size, 0, none⟩) n n) (bs.take i ++ List.replicate (n - i) 0) ∧ Below w.heap.size w wx)) (fun ti _ => n - (intOf ti).toNat)
  case atStart => exact ⟨0, Nat.zero_le _, rfl, HR⟩
  case round =>
    obtain ⟨i, hi, rfl, HI⟩ := hrel
    by_cases hlt : i < n
    · have hlt1 : (i : Int) < n := by omega
      obtain ⟨b, o, hpo, _, hcell⟩ := (HL.out.asByts.below HI.out.2).cell i (by omega)
      subst hpo
      have k1 : wr.cell? ⟨w.heap.size, i, none⟩ = some (.int .u8 ((bs.take i ++ List.replicate (n - i) 0).getD i 0)) := HI.out.1.slot (by simp; have := HN.out; omega)
      have k2 := HI.out.1.thaw i
      go_wp2_with fail
      go_roundw
      case rel =>
        refine ⟨i + 1, hlt, by go_num, ?_, HI.out.2.setCell (Nat.le_refl _) _⟩
        have hs := HI.out.1.stored i (bs.getD i 0)
        have e := set_next (bs.take i) (n - i) (bs.getD i 0) (by omega)
        rw [show (bs.take i).length = i by rw [List.length_take]; have := HN.out; omega, take_next (by have := HN.out; omega)] at e
        rw [e, show n - i - 1 = n - (i + 1) by omega] at hs
        exact hs
      case measure => simp [intOf]; omega
    · have hlt1 : ¬ (i : Int) < n := by omega
      obtain rfl : i = n := by omega
      obtain ⟨hrow, hbel⟩ := HI.out
      rw [List.take_of_length_le (by have := HN.out; omega), Nat.sub_self, List.replicate_zero, List.append_nil] at hrow
      have hb1 : Bk wr B K ρ vb vw vt vu es := HH.out.off (Off.of_below (P := fun _ => False) hbel) (fun _ p => p.elim)
      obtain ⟨ab, nb, cb, w2, e2, r2, o2, s2⟩ := run_vpush hb1.rb hb1.hB (by simpa using hm) (.slice a i c) (slice_one _ _ _)
      have q0 : wr.cell? ⟨K, 0, none⟩ = some vb := hb1.c0
      have hKl : K < wr.heap.size := hb1.lt
      have hK2 : vb.ownBlock ≠ some K := fun e => by have h1 := hb1.pb K e; have h2 := hb1.pK; omega
      have q1 : w2.cell? ⟨K, 0, none⟩ = some vb := by rw [o2.cell (p := ⟨K, 0, none⟩) hKl hK2]; exact q0
      have q2 : w2.frozen? ⟨K, 0, none⟩ = false := by rw [o2.frozen (p := ⟨K, 0, none⟩) hKl hK2]; exact hb1.fz 0
      have q3 : w2.cell? ⟨K, 1, none⟩ = some vw := by rw [o2.cell (p := ⟨K, 1, none⟩) hKl hK2]; exact hb1.c1
      -- the second list, in the world behind the first store
      have o3 : Off (fun k => vb.ownBlock = some k ∨ k = K) wr (w2.setCell ⟨K, 0, none⟩ (.slice ab nb cb)) := Off.setCell (P := fun k => vb.ownBlock = some k ∨ k = K) (o2.mono (fun _ e => Or.inl e)) (p := ⟨K, 0, none⟩) (Or.inr rfl) _
      have rw3 : VRow (w2.setCell ⟨K, 0, none⟩ (.slice ab nb cb)) B 28 vw (es.map Ent.was) := hb1.rws.off o3 (fun g e p => by
        have h1 := hb1.pw g e
        rcases p with p | p
        · have := hb1.pb g p; omega
        · subst p; have := hb1.pK; omega)
      have hs3 : wr.heap.size ≤ (w2.setCell ⟨K, 0, none⟩ (.slice ab nb cb)).heap.size := o3.size
      obtain ⟨aw, nw, cw, w4, e4, r4, o4, s4⟩ := run_vpush rw3 (Nat.le_trans hb1.hB hs3) (by simpa using hm) (.slice (some ⟨w.heap.size, 0, none⟩) i i) (slice_one _ _ _)
      obtain ⟨w3, hw3⟩ : ∃ x, w2.setCell ⟨K, 0, none⟩ (.slice ab nb cb) = x := ⟨_, rfl⟩
      have hK3 : vw.ownBlock ≠ some K := fun e => by have h1 := hb1.pw K e; have h2 := hb1.pK; omega
      have p1 : w3.cell? ⟨K, 1, none⟩ = some vw := by
        rw [← hw3, World.cell?_setCell_other _ _ _ _ (by simp), o2.cell (p := ⟨K, 1, none⟩) hKl hK2]; exact hb1.c1
      rw [hw3] at e4 o4 s4 rw3 hs3 o3
      have hK4 : K < w3.heap.size := Nat.lt_of_lt_of_le hKl hs3
      have p2 : w4.cell? ⟨K, 1, none⟩ = some vw := by rw [o4.cell (p := ⟨K, 1, none⟩) hK4 hK3]; exact p1
      have p3 : w4.frozen? ⟨K, 1, none⟩ = false := by
        rw [o4.frozen (p := ⟨K, 1, none⟩) hK4 hK3, ← hw3, World.frozen?_setCell, o2.frozen (p := ⟨K, 1, none⟩) hKl hK2]; exact hb1.fz 1
      rw [show w3.heap.size = w2.heap.size by rw [← hw3]; simp] at e4
      have HE : Hid (w2.setCell ⟨K, 0, none⟩ (.slice ab nb cb) = w3) := hw3
      have HQ : Hid (Row wr w.heap.size (.slice (some ⟨w.heap.size, 0, none⟩) i i) bs ∧ Below w.heap.size w wr ∧ Bk wr B K ρ vb vw vt vu es ∧ VRow w2 B 28 (.slice ab nb cb) (es.map Ent.val ++ [.slice a i c]) ∧ Off (fun k => vb.ownBlock = some k) wr w2 ∧ ((Value.slice ab nb cb).ownBlock = vb.ownBlock ∨ ∃ g, (Value.slice ab nb cb).ownBlock = some g ∧ wr.heap.size ≤ g) ∧ VRow w4 B 28 (.slice aw nw cw) (es.map Ent.was ++ [.slice (some ⟨w.heap.size, 0, none⟩) i i]) ∧ Off (fun k => vw.ownBlock = some k) w3 w4 ∧ ((Value.slice aw nw cw).ownBlock = vw.ownBlock ∨ ∃ g, (Value.slice aw nw cw).ownBlock = some g ∧ w3.heap.size ≤ g)) := ⟨hrow, hbel, hb1, r2, o2, s2, r4, o4, s4⟩
      clear hrow hbel hb1 r2 o2 s2 r4 o4 s4 rw3 hs3 o3 hK2 hK3 hK4 hw3 HI
      go_wp2_with (at_builtin; first | refine wpList_append_run rfl (.tmp 26) (.tmp 28) 48 _ rfl e2 ?_ | (rw [HE.out]; refine wpList_append_run rfl (.tmp 36) (.tmp 38) 48 _ rfl e4 ?_))
      go_end0
      refine ⟨rfl, ?_⟩
      obtain ⟨hrow, hbel, hb1, r2, o2, s2, r4, o4, s4⟩ := HQ.out
      have hw3 := HE.out
      obtain ⟨ρ', a1, a2, a3, h1, h2, h3⟩ := take_done HH.out HL.out HZ.out hrow hbel hb1 r2 o2 s2 hw3 r4 o4 s4
      exact ⟨ρ', ⟨a1, a2, a3, h1⟩, h2, h3⟩
end Go.Proofs.YtjbkfppibnlmoaaGreatDoor.Bo
