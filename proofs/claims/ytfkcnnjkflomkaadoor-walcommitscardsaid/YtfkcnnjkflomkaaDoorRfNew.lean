import Derived.Test.YtfkcnnjkflomkaaDoorDkOff
import Derived.Deep.DeepAppendRoom
import Derived.Test.YtfkcnnjkflomkaaDoorDkFrom
import Derived.Deep.RegionLaw
import Derived.Deep.OwnRows
import Derived.Deep.DeepCutAuto
/-
  append, told in full: in place (same block, same room), or in a new block (all old ones stand).
-/
namespace Go.Proofs.YtfkcnnjkflomkaaDoor
open Go.RowKit

/-- A slice of the call's own, whatever its elements (one cell each). -/
def VRow (w : World) (B : Nat) (e : TypeId) (v : Value) (xs : List Value) : Prop := w.ownsRow B e 1 v xs.length xs
/-- How an append leaves its row. -/
inductive Put (w w' : World) (v v' : Value) (n m : Nat) : Prop
  | same (g cap : Nat) (hv : v = .slice (some ⟨g, 0, none⟩) n cap) (hv' : v' = .slice (some ⟨g, 0, none⟩) (n + m) cap) (hg : w.grownBy w' (some g)) : Put w w' v v' n m
  | idle (hv : v' = v) (hm : m = 0) (hw : w' = w) : Put w w' v v' n m
  | fresh (cap : Nat) (hv' : v' = .slice (some ⟨w.heap.size, 0, none⟩) (n + m) cap) (hg : w.grownBy w' none) (hs : w.heap.size < w'.heap.size) : Put w w' v v' n m
theorem run_append_two {P : Program} (w : World) (base : Nat) (t ty e : TypeId) (i : TypeInfo) (z : Value) (bytes : Nat) (ht : P.underlying t = some (.slice e)) (hi : P.info? e = some i) (hz : i.zero = some z)
    (hsize : i.size = 1) (hby : i.bytes = bytes) (hzs : z.cells.size = 1)
    (v : Value) (xs : List Value) (hown : VRow w base e v xs)
    (a : Addr) (m c : Nat) (news : List Value) (hl : news.length = m) (hnews : ∀ j u, news[j]? = some u → w.cell? (a.add j) = some u) (h1 : ∀ u ∈ news, u.oneCell' = true)
    (h63 : xs.length + m ≤ maxLen) (hbytes : (xs.length + m) * bytes ≤ 140737488355328) (hbase : base ≤ w.heap.size) :
    ∃ v' w', (Builtin.append_ #[t, t] ty #[v, .slice (some a) m c]).run P w = .ok v' w' ∧ VRow w' base e v' (xs ++ news) ∧ Put w w' v v' xs.length m := by
  have hl1 : news.length = m * i.size := by rw [hsize]; omega
  subst hby
  have hsmall : xs.length + m ≤ 9223372036854775807 := by simp only [maxLen] at h63; omega
  have hlen : (xs ++ news).length = xs.length + m := by rw [List.length_append, hl]
  have grown : ∀ (old : Nat), old < xs.length + m →
      VRow (w.drew.alloc (.cells (xs.toArray ++ news.toArray ++ Builtin.zeroCells z.cells (grownCap w (xs.length + m) old e - (xs.length + m))) e)) base e
        (.slice (some ⟨w.heap.size, 0, none⟩) (xs.length + m) (grownCap w (xs.length + m) old e)) (xs ++ news) ∧
      w.grownBy (w.drew.alloc (.cells (xs.toArray ++ news.toArray ++ Builtin.zeroCells z.cells (grownCap w (xs.length + m) old e - (xs.length + m))) e)) none ∧ w.heap.size < (w.drew.alloc (.cells (xs.toArray ++ news.toArray ++ Builtin.zeroCells z.cells (grownCap w (xs.length + m) old e - (xs.length + m))) e)).heap.size := by
    intro old ho
    have hge := grownCap_ge w (xs.length + m) old e
    have hcm : grownCap w (xs.length + m) old e ≤ maxLen := grownCap_le_maxLen w (xs.length + m) old e h63
    refine ⟨⟨by omega, .inr ⟨w.heap.size, _, _, by rw [hlen], hbase, heap_alloc_new w.drew _, by omega, hcm, ?_, ?_⟩⟩, ⟨rfl, rfl, rfl, by simp, fun k hk _ => Below.heap_alloc w.drew _ k hk⟩, by simp⟩
    · simp only [Array.size_append, List.size_toArray, size_zeroCells, hzs, hl]
      omega
    · simp only [Array.toList_append, List.append_assoc, Nat.mul_one]
      rw [← List.append_assoc]
      exact List.take_left
  rcases hown.2 with ⟨rfl, h0⟩ | ⟨g, cap, cur, rfl, hbg, hg, hnc, hcm, hcs, htake⟩
  · have hx : xs = [] := List.eq_nil_of_length_eq_zero h0
    subst hx
    by_cases hm : m = 0
    · subst hm
      obtain rfl : news = [] := List.eq_nil_of_length_eq_zero hl
      refine ⟨.slice none 0 0, w, ?_, World.ownsRow_nil w base e 1, .idle rfl rfl rfl⟩
      simp [Builtin.append_, run_underlying ht, sizeOf, typeInfo, hi, Builtin.lenOf, Builtin.firstCells, loadCells, loadCellsFrom]
    · have hr := run_append_nil (P := P) w t ty e i z ht hi hz a m c news hl1 hnews (by omega) (by simp only [List.length_nil] at hsmall; omega) (by have hb := hbytes; simp only [List.length_nil, Nat.zero_add] at hb; omega)
      have hgr := grown 0 (by simp; omega)
      simp only [List.length_nil, Nat.zero_add, List.nil_append, Array.empty_append] at hgr ⊢
      exact ⟨_, _, hr, hgr.1, .fresh _ (by rw [Nat.zero_add]) hgr.2.1 hgr.2.2⟩
  · by_cases hroom : xs.length + m ≤ cap
    · obtain ⟨w', hr, h2, h3⟩ := run_append_own_spare (P := P) w base t ty e i 1 ht hi hsize g xs.length cap xs hown a m c news (by omega) hnews h1 hroom
      refine ⟨_, w', hr, ?_, .same g cap rfl rfl h3⟩
      unfold VRow
      rw [hlen]
      exact h2
    · have holds : ∀ j u, xs[j]? = some u → w.cell? ((⟨g, 0, none⟩ : Addr).add j) = some u := hown.cells (g := g) rfl
      have hr := run_append_grow (P := P) w t ty e i z ht hi hz ⟨g, 0, none⟩ xs.length cap xs (by rw [hsize]; omega) holds a m c news hl1 hnews (by omega) (by omega) (growslice_fits (by omega) hbytes)
      have hgr := grown cap (by omega)
      exact ⟨_, _, hr, hgr.1, .fresh _ rfl hgr.2.1 hgr.2.2⟩
end Go.Proofs.YtfkcnnjkflomkaaDoor

/-
  couriermem.Book in memory: lists of bytes that were handed out, and what they were.
-/
namespace Go.Proofs.YtfkcnnjkflomkaaDoor
open Go.RowKit

theorem slinfo : ∃ i, Tryd.prog.info? 28 = some i ∧ i.zero = some (.slice none 0 0) ∧ i.size = 1 ∧ i.bytes = 24 := by
  have h : (Tryd.prog.info? 28).map (fun i => (i.zero, i.size, i.bytes)) = some (some (.slice none 0 0), 1, 24) := by kernel_rfl
  obtain ⟨i, hi, e⟩ := Option.map_eq_some_iff.1 h
  simp only [Prod.mk.injEq] at e
  exact ⟨i, hi, e.1, e.2.1, e.2.2⟩
theorem VRow.nil (w : World) (B : Nat) (e : TypeId) : VRow w B e (.slice none 0 0) [] := ⟨rfl, Or.inl ⟨rfl, rfl⟩⟩
theorem VRow.form {w : World} {B : Nat} {e : TypeId} {v : Value} {xs : List Value} (h : VRow w B e v xs) : (v = .slice none 0 0 ∧ xs = []) ∨ ∃ g cap, v = .slice (some ⟨g, 0, none⟩) xs.length cap ∧ B ≤ g ∧ g < w.heap.size ∧ xs.length ≤ cap ∧ cap ≤ maxLen := by
  rcases h.2 with ⟨rfl, h0⟩ | ⟨g, cap, cur, rfl, hB, hg, hn, hm, _, _⟩
  · exact Or.inl ⟨rfl, List.eq_nil_of_length_eq_zero h0⟩
  · refine Or.inr ⟨g, cap, rfl, hB, ?_, hn, hm⟩
    rcases Nat.lt_or_ge g w.heap.size with g1 | g1
    · exact g1
    · rw [Array.getElem?_eq_none g1] at hg; cases hg
theorem VRow.keep {w w' : World} {B : Nat} {e : TypeId} {v : Value} {xs : List Value} (h : VRow w B e v xs) (hk : ∀ g, v.ownBlock = some g → w'.heap[g]? = w.heap[g]?) : VRow w' B e v xs := by
  rcases h.2 with ⟨rfl, h0⟩ | ⟨g, cap, cur, rfl, hB, hg, rest⟩
  · exact ⟨h.1, Or.inl ⟨rfl, h0⟩⟩
  · exact ⟨h.1, Or.inr ⟨g, cap, cur, rfl, hB, by rw [hk g rfl]; exact hg, rest⟩⟩
theorem VRow.lt {w : World} {B : Nat} {e : TypeId} {v : Value} {xs : List Value} (h : VRow w B e v xs) {g : Nat} (hg : v.ownBlock = some g) : B ≤ g ∧ g < w.heap.size := by
  rcases h.form with ⟨rfl, _⟩ | ⟨g', cap, rfl, hB, hl, _⟩
  · cases hg
  · simp only [Value.ownBlock, Option.some.injEq] at hg; subst hg; exact ⟨hB, hl⟩
theorem VRow.slot {w : World} {B : Nat} {e : TypeId} {xs : List Value} {g cap n : Nat} (h : VRow w B e (.slice (some ⟨g, 0, none⟩) n cap) xs) {j : Nat} {u : Value} (hj : xs[j]? = some u) : w.cell? ⟨g, j, none⟩ = some u := by
  rcases h.2 with ⟨h0, _⟩ | ⟨g', cap', cur, e', hB, hg, hn, hm, hc, ht⟩
  · cases h0
  · simp only [Value.slice.injEq, Option.some.injEq, Addr.mk.injEq, and_true] at e'
    obtain ⟨rfl, rfl, rfl⟩ := e'
    have hl := (List.getElem?_eq_some_iff.1 hj).1
    have e1 : (cur.toList.take (xs.length * 1))[j]? = xs[j]? := by rw [ht]
    rw [List.getElem?_take, if_pos (by omega)] at e1
    have e2 : w.cell? ⟨g, j, none⟩ = cur[j]? := by simp [World.cell?, hg]
    rw [e2, ← Array.getElem?_toList, e1, hj]
theorem VRow.off {P : Nat → Prop} {w w' : World} {B : Nat} {e : TypeId} {v : Value} {xs : List Value} (h : VRow w B e v xs) (o : Off P w w') (hP : ∀ g, v.ownBlock = some g → ¬ P g) : VRow w' B e v xs :=
  h.keep fun g hg => o.block g (h.lt hg).2 (hP g hg)
theorem Row.off {P : Nat → Prop} {w w' : World} {B : Nat} {v : Value} {xs : List Int} (h : Row w B v xs) (o : Off P w w') (hP : ∀ g, v.ownBlock = some g → ¬ P g) : Row w' B v xs :=
  h.keep fun g hg => o.block g (h.lt hg).2 (hP g hg)
/-- 'append' of one list to a list of lists. -/
theorem run_vpush {w : World} {B : Nat} {v : Value} {xs : List Value} (h : VRow w B 28 v xs) (hB : B ≤ w.heap.size) (hl : xs.length + 1 ≤ 1099511627776) (u : Value) (hu : u.oneCell' = true) :
    ∃ a n c w', (Builtin.append_ #[22, 22] 22 #[v, .slice (some ⟨w.heap.size, 0, none⟩) 1 1]).run Tryd.prog (w.alloc (.cells #[u] 28)) = .ok (.slice a n c) w' ∧ VRow w' B 28 (.slice a n c) (xs ++ [u]) ∧ Off (fun k => v.ownBlock = some k) w w' ∧ ((Value.slice a n c).ownBlock = v.ownBlock ∨ ∃ g, (Value.slice a n c).ownBlock = some g ∧ w.heap.size ≤ g) := by
  obtain ⟨i, hi, hz, hs, hby⟩ := slinfo
  have hrow : VRow (w.alloc (.cells #[u] 28)) B 28 v xs := h.keep (fun g e => ((Below.refl w.heap.size w).alloc (Nat.le_refl _) (.cells #[u] 28)).block g (h.lt e).2)
  obtain ⟨v', w', hr, r, p⟩ := run_append_two (P := Tryd.prog) (w.alloc (.cells #[u] 28)) B 22 22 28 i _ 24 Tryd.underlying22 hi hz hs hby rfl v xs hrow ⟨w.heap.size, 0, none⟩ 1 1 [u] rfl (cell_one_new w u _) (fun x hx => by simp only [List.mem_singleton] at hx; subst hx; exact hu) (by unfold maxLen; omega) (by omega) (by simp; omega)
  have hof : Off (fun k => v.ownBlock = some k) w w' := by
    refine ((Off.refl _ w).alloc (.cells #[u] 28)).trans ?_
    cases p with
    | same g cap hv hv' hg => rw [hv]; exact Off.of_grown hg
    | idle hv hm hw => omega
    | fresh cap hv' hg hs => exact (Off.of_grown hg).mono (fun k e => by cases e)
  cases p with
  | same g cap hv hv' hg => subst hv; subst hv'; exact ⟨_, _, _, w', hr, r, hof, Or.inl rfl⟩
  | idle hv hm hw => omega
  | fresh cap hv' hg hs => subst hv'; exact ⟨_, _, _, w', hr, r, hof, Or.inr ⟨_, rfl, by simp⟩⟩
/-- One list of the book: where it lies, what it holds; the copy, what that holds. -/
structure Ent where
  val : Value
  was : Value
  bs : List Int
  old : List Int
/-- The book at block K. The blocks' roles: 1 the book, 2 and 3 its two lists, 4 the copies, 6 + 2 i the list of place i; 0: none of them. -/
structure Bk (w : World) (B K : Nat) (ρ : Nat → Nat) (vb vw : Value) (es : List Ent) : Prop where
  c0 : w.cell? ⟨K, 0, none⟩ = some vb
  c1 : w.cell? ⟨K, 1, none⟩ = some vw
  c2 : w.cell? ⟨K, 2, none⟩ = some (.slice none 0 0)
  c3 : w.cell? ⟨K, 3, none⟩ = some (.slice none 0 0)
  c4 : w.cell? ⟨K, 4, none⟩ = some (.slice none 0 0)
  c5 : w.cell? ⟨K, 5, none⟩ = some (.slice none 0 0)
  fz : ∀ q, w.frozen? ⟨K, q, none⟩ = false
  hB : B ≤ w.heap.size
  rb : VRow w B 28 vb (es.map Ent.val)
  rws : VRow w B 28 vw (es.map Ent.was)
  val : ∀ (i : Nat) (e : Ent), es[i]? = some e → Row w B e.val e.bs
  was : ∀ (i : Nat) (e : Ent), es[i]? = some e → Row w B e.was e.old
  pK : ρ K = 1
  pb : ∀ g, vb.ownBlock = some g → ρ g = 2
  pw : ∀ g, vw.ownBlock = some g → ρ g = 3
  pwas : ∀ (i : Nat) (e : Ent), es[i]? = some e → ∀ g, e.was.ownBlock = some g → ρ g = 4
  pval : ∀ (i : Nat) (e : Ent), es[i]? = some e → ∀ g, e.val.ownBlock = some g → ρ g = 6 + 2 * i
  new : ∀ g, w.heap.size ≤ g → ρ g = 0
theorem Bk.lt {w : World} {B K : Nat} {ρ : Nat → Nat} {vb vw : Value} {es : List Ent} (h : Bk w B K ρ vb vw es) : K < w.heap.size := by
  rcases Nat.lt_or_ge K w.heap.size with g | g
  · exact g
  · have := h.c0; simp [World.cell?, Array.getElem?_eq_none g] at this
/-- What others do, and new roles for new blocks. -/
theorem Bk.role {P : Nat → Prop} {w w' : World} {B K : Nat} {ρ ρ' : Nat → Nat} {vb vw : Value} {es : List Ent} (h : Bk w B K ρ vb vw es) (o : Off P w w') (hP : ∀ k, P k → ρ k = 0 ∨ ρ k = 5) (hr : ∀ k, k < w.heap.size → ρ k ≠ 0 → ρ k ≠ 5 → ρ' k = ρ k) (hn : ∀ g, w'.heap.size ≤ g → ρ' g = 0) : Bk w' B K ρ' vb vw es := by
  have hK := h.lt
  have nP : ∀ {k r : Nat}, ρ k = r → r ≠ 0 → r ≠ 5 → ¬ P k := fun {k r} e h0 h5 p => by rcases hP k p with q | q <;> omega
  have hc : ∀ q, w'.cell? ⟨K, q, none⟩ = w.cell? ⟨K, q, none⟩ := fun q => o.cell (p := ⟨K, q, none⟩) hK (nP h.pK (by decide) (by decide))
  refine ⟨by rw [hc]; exact h.c0, by rw [hc]; exact h.c1, by rw [hc]; exact h.c2, by rw [hc]; exact h.c3, by rw [hc]; exact h.c4, by rw [hc]; exact h.c5, fun q => by rw [o.frozen (p := ⟨K, q, none⟩) hK (nP h.pK (by decide) (by decide))]; exact h.fz q, Nat.le_trans h.hB o.size,
    h.rb.off o (fun g e => nP (h.pb g e) (by decide) (by decide)), h.rws.off o (fun g e => nP (h.pw g e) (by decide) (by decide)),
    fun i e he => (h.val i e he).off o (fun g eg => nP (h.pval i e he g eg) (by omega) (by omega)), fun i e he => (h.was i e he).off o (fun g eg => nP (h.pwas i e he g eg) (by decide) (by decide)),
    ?_, fun g e => ?_, fun g e => ?_, fun i e he g eg => ?_, fun i e he g eg => ?_, hn⟩
  · rw [hr K hK (by rw [h.pK]; decide) (by rw [h.pK]; decide)]; exact h.pK
  · have := h.pb g e; rw [hr g (h.rb.lt e).2 (by omega) (by omega)]; exact this
  · have := h.pw g e; rw [hr g (h.rws.lt e).2 (by omega) (by omega)]; exact this
  · have := h.pwas i e he g eg; rw [hr g ((h.was i e he).lt eg).2 (by omega) (by omega)]; exact this
  · have := h.pval i e he g eg; rw [hr g ((h.val i e he).lt eg).2 (by omega) (by omega)]; exact this
theorem Bk.off {P : Nat → Prop} {w w' : World} {B K : Nat} {ρ : Nat → Nat} {vb vw : Value} {es : List Ent} (h : Bk w B K ρ vb vw es) (o : Off P w w') (hP : ∀ k, P k → ρ k = 0) : Bk w' B K ρ vb vw es :=
  h.role o (fun k p => Or.inl (hP k p)) (fun _ _ _ _ => rfl) (fun g hg => h.new g (Nat.le_trans o.size hg))
/-- One list is touched. -/
theorem Bk.touch {w w' : World} {B K : Nat} {ρ : Nat → Nat} {vb vw : Value} {es : List Ent} (h : Bk w B K ρ vb vw es) {i : Nat} {e : Ent} (he : es[i]? = some e) (o : Off (fun k => ρ k = 6 + 2 * i) w w') {bs' : List Int} (hv : Row w' B e.val bs') :
    Bk w' B K ρ vb vw (es.set i { e with bs := bs' }) := by
  have hK := h.lt
  have hi : i < es.length := (List.getElem?_eq_some_iff.1 he).1
  have hat : ∀ j x, (es.set i { e with bs := bs' })[j]? = some x → (j = i ∧ x = { e with bs := bs' }) ∨ (j ≠ i ∧ es[j]? = some x) := fun j x hx => by
    by_cases hj : i = j
    · subst hj
      rw [List.getElem?_set_self hi] at hx
      exact Or.inl ⟨rfl, by simpa using hx.symm⟩
    · rw [List.getElem?_set_ne hj] at hx
      exact Or.inr ⟨fun q => hj q.symm, hx⟩
  have hc : ∀ q, w'.cell? ⟨K, q, none⟩ = w.cell? ⟨K, q, none⟩ := fun q => o.cell (p := ⟨K, q, none⟩) hK (fun (q : ρ K = _) => by have := h.pK; omega)
  have hge : ∀ (f : Ent → Value), f { e with bs := bs' } = f e → (es.set i { e with bs := bs' }).map f = es.map f := fun f hf => by
    rw [List.map_set, hf]
    refine List.ext_getElem? fun j => ?_
    by_cases hj : i = j
    · subst hj; rw [List.getElem?_set_self (by simpa using hi), List.getElem?_map, he]; rfl
    · rw [List.getElem?_set_ne hj]
  refine ⟨by rw [hc]; exact h.c0, by rw [hc]; exact h.c1, by rw [hc]; exact h.c2, by rw [hc]; exact h.c3, by rw [hc]; exact h.c4, by rw [hc]; exact h.c5, fun q => by rw [o.frozen (p := ⟨K, q, none⟩) hK (fun (q : ρ K = _) => by have := h.pK; omega)]; exact h.fz q, Nat.le_trans h.hB o.size,
    ?_, ?_, fun j x hx => ?_, fun j x hx => ?_, h.pK, h.pb, h.pw, fun j x hx g eg => ?_, fun j x hx g eg => ?_, fun g hg => h.new g (Nat.le_trans o.size hg)⟩
  · rw [hge Ent.val rfl]; exact h.rb.off o (fun g e (q : ρ g = _) => by have := h.pb g e; omega)
  · rw [hge Ent.was rfl]; exact h.rws.off o (fun g e (q : ρ g = _) => by have := h.pw g e; omega)
  · rcases hat j x hx with ⟨rfl, rfl⟩ | ⟨hj, hx'⟩
    · exact hv
    · exact (h.val j x hx').off o (fun g eg (q : ρ g = _) => by have := h.pval j x hx' g eg; omega)
  · rcases hat j x hx with ⟨rfl, rfl⟩ | ⟨hj, hx'⟩
    · exact (h.was j e he).off o (fun g eg (q : ρ g = _) => by have := h.pwas j e he g eg; omega)
    · exact (h.was j x hx').off o (fun g eg (q : ρ g = _) => by have := h.pwas j x hx' g eg; omega)
  · rcases hat j x hx with ⟨rfl, rfl⟩ | ⟨hj, hx'⟩
    · exact h.pwas j e he g eg
    · exact h.pwas j x hx' g eg
  · rcases hat j x hx with ⟨rfl, rfl⟩ | ⟨hj, hx'⟩
    · exact h.pval j e he g eg
    · exact h.pval j x hx' g eg
end Go.Proofs.YtfkcnnjkflomkaaDoor

/-
  The document's disk in memory: four lists of bytes (safe and tail of each area), whether it is dead, what the fuse lets be done, three counts.
-/
namespace Go.Proofs.YtfkcnnjkflomkaaDoor
open Go.RowKit

def upd {α : Type} (f : Nat → α) (q : Nat) (y : α) : Nat → α := fun k => if k = q then y else f k
theorem upd_same {α : Type} (f : Nat → α) (q : Nat) (y : α) : upd f q y q = y := if_pos rfl
theorem upd_ne {α : Type} (f : Nat → α) {q k : Nat} (y : α) (h : k ≠ q) : upd f q y k = f k := if_neg h
structure Rk (w : World) (B R : Nat) (v : Nat → Value) (x : Nat → List Int) (dead : Bool) (left na ns nc : Int) : Prop where
  cell : ∀ q, q < 4 → w.cell? ⟨R, q, none⟩ = some (v q)
  c4 : w.cell? ⟨R, 4, none⟩ = some (.bool dead)
  c5 : w.cell? ⟨R, 5, none⟩ = some (.int .i64 left)
  c6 : w.cell? ⟨R, 6, none⟩ = some (.int .i64 na)
  c7 : w.cell? ⟨R, 7, none⟩ = some (.int .i64 ns)
  c8 : w.cell? ⟨R, 8, none⟩ = some (.int .i64 nc)
  fr : ∀ q, w.frozen? ⟨R, q, none⟩ = false
  row : ∀ q, q < 4 → Row w B (v q) (x q)
  own : ∀ q, q < 4 → (v q).ownBlock ≠ some R
  ap : ∀ p q, p < 4 → q < 4 → p ≠ q → ∀ g, (v p).ownBlock = some g → (v q).ownBlock ≠ some g
  len : ∀ q, q < 4 → (x q).length ≤ 16777216
  hB : B ≤ R
  hR : R < w.heap.size
  bn : -1 ≤ left ∧ left ≤ 9223372036854775807 ∧ 0 ≤ na ∧ na ≤ 9007199254740992 ∧ 0 ≤ ns ∧ ns ≤ 9007199254740992 ∧ 0 ≤ nc ∧ nc ≤ 9007199254740992
/-- The blocks of it. -/
def RFoot (R : Nat) (v : Nat → Value) (k : Nat) : Prop := k = R ∨ ∃ q, q < 4 ∧ (v q).ownBlock = some k
structure RStep (w w' : World) (R : Nat) (v v' : Nat → Value) : Prop where
  off : Off (RFoot R v) w w'
  foot : ∀ k, k < w.heap.size → RFoot R v' k → RFoot R v k
theorem RStep.refl (w : World) (R : Nat) (v : Nat → Value) : RStep w w R v v := ⟨Off.refl _ _, fun _ _ h => h⟩
theorem RStep.trans {a b c : World} {R : Nat} {u v z : Nat → Value} (h : RStep a b R u v) (k : RStep b c R v z) : RStep a c R u z :=
  ⟨h.off.join k.off h.foot, fun i hi g => h.foot i hi (k.foot i (Nat.lt_of_lt_of_le hi h.off.size) g)⟩
section
variable {w w' : World} {B R : Nat} {v : Nat → Value} {x : Nat → List Int} {dead : Bool} {left na ns nc : Int}
theorem Rk.foot_lt (h : Rk w B R v x dead left na ns nc) {k : Nat} (hk : RFoot R v k) : B ≤ k ∧ k < w.heap.size := by
  rcases hk with rfl | ⟨q, hq, hk⟩
  · exact ⟨h.hB, h.hR⟩
  · exact (h.row q hq).lt hk
theorem Rk.off {P : Nat → Prop} (h : Rk w B R v x dead left na ns nc) (o : Off P w w') (hP : ∀ k, RFoot R v k → ¬ P k) : Rk w' B R v x dead left na ns nc := by
  have hc : ∀ q, w'.cell? ⟨R, q, none⟩ = w.cell? ⟨R, q, none⟩ := fun q => o.cell (p := ⟨R, q, none⟩) h.hR (hP R (Or.inl rfl))
  exact ⟨fun q hq => by rw [hc]; exact h.cell q hq, by rw [hc]; exact h.c4, by rw [hc]; exact h.c5, by rw [hc]; exact h.c6, by rw [hc]; exact h.c7, by rw [hc]; exact h.c8, fun q => by rw [o.frozen (p := ⟨R, q, none⟩) h.hR (hP R (Or.inl rfl))]; exact h.fr q,
    fun q hq => (h.row q hq).off o (fun g e => hP g (Or.inr ⟨q, hq, e⟩)), h.own, h.ap, h.len, h.hB, Nat.lt_of_lt_of_le h.hR o.size, h.bn⟩
theorem Rk.below (h : Rk w B R v x dead left na ns nc) (hb : Below w.heap.size w w') : Rk w' B R v x dead left na ns nc := h.off (Off.of_below (P := fun _ => False) hb) (fun _ _ => id)
theorem Rk.drewN (h : Rk w B R v x dead left na ns nc) (k : Nat) : Rk (w.drewN k) B R v x dead left na ns nc := h.off (P := fun _ => False) ((Off.refl _ _).drewN _) (fun _ _ => id)
/-- A cell of the rest is written. -/
theorem Rk.setN (h : Rk w B R v x dead left na ns nc) {q : Nat} (hq : 4 ≤ q) (u : Value) : (∀ p, p < 4 → (w.setCell ⟨R, q, none⟩ u).cell? ⟨R, p, none⟩ = some (v p)) ∧ (∀ p, p < 4 → Row (w.setCell ⟨R, q, none⟩ u) B (v p) (x p)) ∧ (∀ p, p ≠ q → (w.setCell ⟨R, q, none⟩ u).cell? ⟨R, p, none⟩ = w.cell? ⟨R, p, none⟩) ∧ (∀ p, (w.setCell ⟨R, q, none⟩ u).frozen? ⟨R, p, none⟩ = false) ∧ RStep w (w.setCell ⟨R, q, none⟩ u) R v v := by
  have ho : ∀ p, p ≠ q → (w.setCell ⟨R, q, none⟩ u).cell? ⟨R, p, none⟩ = w.cell? ⟨R, p, none⟩ := fun p hp => World.cell?_setCell_other _ _ _ _ (by simp only [ne_eq, Addr.mk.injEq, not_and]; intro _ e; omega)
  refine ⟨fun p hp => by rw [ho p (by omega)]; exact h.cell p hp, fun p hp => (h.row p hp).set (h.own p hp), ho, fun p => by rw [World.frozen?_setCell]; exact h.fr p, ⟨Off.setCell (P := RFoot R v) (Off.refl _ _) (p := ⟨R, q, none⟩) (Or.inl rfl) _, fun _ _ g => g⟩⟩
theorem Rk.set4 (h : Rk w B R v x dead left na ns nc) (d : Bool) : Rk (w.setCell ⟨R, 4, none⟩ (.bool d)) B R v x d left na ns nc ∧ RStep w (w.setCell ⟨R, 4, none⟩ (.bool d)) R v v := by
  obtain ⟨a, b, c, f, s⟩ := h.setN (q := 4) (by decide) (.bool d)
  exact ⟨⟨a, World.cell?_setCell_same _ _ _ h.c4, by rw [c 5 (by decide)]; exact h.c5, by rw [c 6 (by decide)]; exact h.c6, by rw [c 7 (by decide)]; exact h.c7, by rw [c 8 (by decide)]; exact h.c8, f, b, h.own, h.ap, h.len, h.hB, by simpa using h.hR, h.bn⟩, s⟩
theorem Rk.set5 (h : Rk w B R v x dead left na ns nc) (X : Int) (hX : -1 ≤ X ∧ X ≤ 9223372036854775807) : Rk (w.setCell ⟨R, 5, none⟩ (.int .i64 X)) B R v x dead X na ns nc ∧ RStep w (w.setCell ⟨R, 5, none⟩ (.int .i64 X)) R v v := by
  obtain ⟨a, b, c, f, s⟩ := h.setN (q := 5) (by decide) (.int .i64 X)
  exact ⟨⟨a, by rw [c 4 (by decide)]; exact h.c4, World.cell?_setCell_same _ _ _ h.c5, by rw [c 6 (by decide)]; exact h.c6, by rw [c 7 (by decide)]; exact h.c7, by rw [c 8 (by decide)]; exact h.c8, f, b, h.own, h.ap, h.len, h.hB, by simpa using h.hR, ⟨hX.1, hX.2, h.bn.2.2⟩⟩, s⟩
theorem Rk.set55 (h : Rk w B R v x dead left na ns nc) (u : Value) (X : Int) (hX : -1 ≤ X ∧ X ≤ 9223372036854775807) : Rk ((w.setCell ⟨R, 5, none⟩ u).setCell ⟨R, 5, none⟩ (.int .i64 X)) B R v x dead X na ns nc ∧ RStep w ((w.setCell ⟨R, 5, none⟩ u).setCell ⟨R, 5, none⟩ (.int .i64 X)) R v v := by
  have ho : ∀ p, p ≠ 5 → ((w.setCell ⟨R, 5, none⟩ u).setCell ⟨R, 5, none⟩ (.int .i64 X)).cell? ⟨R, p, none⟩ = w.cell? ⟨R, p, none⟩ := fun p hp => by
    rw [World.cell?_setCell_other _ _ _ _ (by simp only [ne_eq, Addr.mk.injEq, not_and]; intro _ e; omega), World.cell?_setCell_other _ _ _ _ (by simp only [ne_eq, Addr.mk.injEq, not_and]; intro _ e; omega)]
  exact ⟨⟨fun p hp => by rw [ho p (by omega)]; exact h.cell p hp, by rw [ho 4 (by decide)]; exact h.c4, World.cell?_setCell_same _ _ _ (World.cell?_setCell_same _ _ _ h.c5), by rw [ho 6 (by decide)]; exact h.c6, by rw [ho 7 (by decide)]; exact h.c7, by rw [ho 8 (by decide)]; exact h.c8, fun p => by rw [World.frozen?_setCell, World.frozen?_setCell]; exact h.fr p,
    fun p hp => ((h.row p hp).set (h.own p hp)).set (h.own p hp), h.own, h.ap, h.len, h.hB, by simpa using h.hR, ⟨hX.1, hX.2, h.bn.2.2⟩⟩, ⟨Off.setCell (P := RFoot R v) (Off.setCell (P := RFoot R v) (Off.refl _ _) (p := ⟨R, 5, none⟩) (Or.inl rfl) _) (p := ⟨R, 5, none⟩) (Or.inl rfl) _, fun _ _ g => g⟩⟩
theorem Rk.set6 (h : Rk w B R v x dead left na ns nc) (X : Int) (hX : 0 ≤ X ∧ X ≤ 9007199254740992) : Rk (w.setCell ⟨R, 6, none⟩ (.int .i64 X)) B R v x dead left X ns nc ∧ RStep w (w.setCell ⟨R, 6, none⟩ (.int .i64 X)) R v v := by
  obtain ⟨a, b, c, f, s⟩ := h.setN (q := 6) (by decide) (.int .i64 X)
  exact ⟨⟨a, by rw [c 4 (by decide)]; exact h.c4, by rw [c 5 (by decide)]; exact h.c5, World.cell?_setCell_same _ _ _ h.c6, by rw [c 7 (by decide)]; exact h.c7, by rw [c 8 (by decide)]; exact h.c8, f, b, h.own, h.ap, h.len, h.hB, by simpa using h.hR, ⟨h.bn.1, h.bn.2.1, hX.1, hX.2, h.bn.2.2.2.2⟩⟩, s⟩
theorem Rk.set7 (h : Rk w B R v x dead left na ns nc) (X : Int) (hX : 0 ≤ X ∧ X ≤ 9007199254740992) : Rk (w.setCell ⟨R, 7, none⟩ (.int .i64 X)) B R v x dead left na X nc ∧ RStep w (w.setCell ⟨R, 7, none⟩ (.int .i64 X)) R v v := by
  obtain ⟨a, b, c, f, s⟩ := h.setN (q := 7) (by decide) (.int .i64 X)
  exact ⟨⟨a, by rw [c 4 (by decide)]; exact h.c4, by rw [c 5 (by decide)]; exact h.c5, by rw [c 6 (by decide)]; exact h.c6, World.cell?_setCell_same _ _ _ h.c7, by rw [c 8 (by decide)]; exact h.c8, f, b, h.own, h.ap, h.len, h.hB, by simpa using h.hR, ⟨h.bn.1, h.bn.2.1, h.bn.2.2.1, h.bn.2.2.2.1, hX.1, hX.2, h.bn.2.2.2.2.2.2⟩⟩, s⟩
theorem Rk.set8 (h : Rk w B R v x dead left na ns nc) (X : Int) (hX : 0 ≤ X ∧ X ≤ 9007199254740992) : Rk (w.setCell ⟨R, 8, none⟩ (.int .i64 X)) B R v x dead left na ns X ∧ RStep w (w.setCell ⟨R, 8, none⟩ (.int .i64 X)) R v v := by
  obtain ⟨a, b, c, f, s⟩ := h.setN (q := 8) (by decide) (.int .i64 X)
  exact ⟨⟨a, by rw [c 4 (by decide)]; exact h.c4, by rw [c 5 (by decide)]; exact h.c5, by rw [c 6 (by decide)]; exact h.c6, by rw [c 7 (by decide)]; exact h.c7, World.cell?_setCell_same _ _ _ h.c8, f, b, h.own, h.ap, h.len, h.hB, by simpa using h.hR, ⟨h.bn.1, h.bn.2.1, h.bn.2.2.1, h.bn.2.2.2.1, h.bn.2.2.2.2.1, h.bn.2.2.2.2.2.1, hX.1, hX.2⟩⟩, s⟩
/-- One of the four lists is another: its row has grown, or is a new one; its cell is written. -/
theorem Rk.put (h : Rk w B R v x dead left na ns nc) {q : Nat} (hq : q < 4) {y : Value} {zs : List Int} (o : Off (fun k => (v q).ownBlock = some k) w w') (hy : Row w' B y zs) (hb : ∀ g, y.ownBlock = some g → (v q).ownBlock = some g ∨ w.heap.size ≤ g) (hl : zs.length ≤ 16777216) :
    Rk (w'.setCell ⟨R, q, none⟩ y) B R (upd v q y) (upd x q zs) dead left na ns nc ∧ RStep w (w'.setCell ⟨R, q, none⟩ y) R v (upd v q y) := by
  have nR : (v q).ownBlock ≠ some R := h.own q hq
  have hc : ∀ p, w'.cell? ⟨R, p, none⟩ = w.cell? ⟨R, p, none⟩ := fun p => o.cell (p := ⟨R, p, none⟩) h.hR nR
  have ho : ∀ p, p ≠ q → (w'.setCell ⟨R, q, none⟩ y).cell? ⟨R, p, none⟩ = w.cell? ⟨R, p, none⟩ := fun p hp => (World.cell?_setCell_other _ _ _ _ (by simp only [ne_eq, Addr.mk.injEq, not_and]; intro _ e; omega)).trans (hc p)
  have yR : y.ownBlock ≠ some R := fun e => by
    rcases hb R e with e2 | e2
    · exact nR e2
    · have := h.hR; omega
  have hrow : ∀ p, p < 4 → p ≠ q → Row w' B (v p) (x p) := fun p hp hpq => (h.row p hp).off o (fun g e e2 => h.ap p q hp hq hpq g e e2)
  have hnew : ∀ p, p < 4 → p ≠ q → ∀ g, (v p).ownBlock = some g → y.ownBlock ≠ some g := fun p hp hpq g e e2 => by
    rcases hb g e2 with e3 | e3
    · exact h.ap p q hp hq hpq g e e3
    · have := ((h.row p hp).lt e).2; omega
  refine ⟨⟨fun p hp => ?_, by rw [ho 4 (by omega)]; exact h.c4, by rw [ho 5 (by omega)]; exact h.c5, by rw [ho 6 (by omega)]; exact h.c6, by rw [ho 7 (by omega)]; exact h.c7, by rw [ho 8 (by omega)]; exact h.c8, fun p => by rw [World.frozen?_setCell, o.frozen (p := ⟨R, p, none⟩) h.hR nR]; exact h.fr p, fun p hp => ?_, fun p hp => ?_, fun p r hp hr hpr g e e2 => ?_, fun p hp => by by_cases e : p = q <;> simp only [upd, e, if_true, if_false] <;> first | exact hl | exact h.len p hp, h.hB, by simp only [World.size_setCell]; exact Nat.lt_of_lt_of_le h.hR o.size, h.bn⟩, ⟨?_, fun k hk hf => ?_⟩⟩
  · by_cases e : p = q
    · subst e; rw [upd_same]; exact World.cell?_setCell_same _ _ _ (by rw [hc]; exact h.cell p hp)
    · rw [upd_ne _ _ e, ho p e]; exact h.cell p hp
  · by_cases e : p = q
    · subst e; rw [upd_same, upd_same]; exact hy.set yR
    · rw [upd_ne _ _ e, upd_ne _ _ e]; exact (hrow p hp e).set (h.own p hp)
  · by_cases e : p = q
    · subst e; rw [upd_same]; exact yR
    · rw [upd_ne _ _ e]; exact h.own p hp
  · by_cases ep : p = q
    · have er : r ≠ q := fun z => hpr (by omega)
      subst ep
      rw [upd_same] at e
      rw [upd_ne _ _ er] at e2
      exact hnew r hr er g e2 e
    · rw [upd_ne _ _ ep] at e
      by_cases er : r = q
      · subst er
        rw [upd_same] at e2
        exact hnew p hp ep g e e2
      · rw [upd_ne _ _ er] at e2
        exact h.ap p r hp hr hpr g e e2
  · exact Off.setCell (P := RFoot R v) (o.mono (fun k e => Or.inr ⟨q, hq, e⟩)) (p := ⟨R, q, none⟩) (Or.inl rfl) _
  · rcases hf with e | ⟨p, hp, e⟩
    · exact Or.inl e
    · by_cases ep : p = q
      · subst ep
        rw [upd_same] at e
        rcases hb k e with e2 | e2
        · exact Or.inr ⟨p, hp, e2⟩
        · omega
      · rw [upd_ne _ _ ep] at e
        exact Or.inr ⟨p, hp, e⟩
theorem Row.asByts0 {w : World} {B n c : Nat} {a : Option Addr} {xs : List Int} (h : Row w B (.slice a n c) xs) : Byts w a n xs := by
  rcases h.form with ⟨e, rfl⟩ | ⟨g, cap, e, _⟩
  · cases e; exact ⟨rfl, fun j hj => by omega⟩
  · cases e; exact h.bytes
end
/-- append, as a step of a region that draws. -/
theorem step_app {w0 w : World} {B : Nat} {ops : Array Oper} {o : Oper} {a : Act} {K : Act → World → Prop} {Q : Exit → Act → World → Prop} {E : Prop} {v : Value} {xs : List Int} {po : Option Addr} {m c : Nat} {bs : List Int} (hgd : o.guard = none) (s y : Operand)
    (ho : o.op = .call { callee := .builtin .append, args := #[s, y], argTypes := #[28, 28] }) (hs : a.eval s = v) (hx : a.eval y = .slice po m c)
    (hr : Row w0 B v xs) (hb : Byts w0 po m bs) (hpo : po = none → c = 0) (hl : xs.length + m ≤ 140737488355328) (hB : B ≤ w0.heap.size) (ha : Off (fun _ => False) w0 w)
    (h : ∀ a' n' c' w', Row w' B (.slice a' n' c') (xs ++ bs) → Off (fun k => v.ownBlock = some k) w0 w' → (∀ g, (Value.slice a' n' c').ownBlock = some g → v.ownBlock = some g ∨ w0.heap.size ≤ g) → K (a.put o.dst (.slice a' n' c')) w') :
    if Region.wanted o (yielded ops a.tmps) = true then Oper.wp Tryd.prog o a w K Q else E := by
  have hw : Region.wanted o (yielded ops a.tmps) = true := by simp [Region.wanted, hgd]
  obtain ⟨v', w', hrn, r1, g1, b1⟩ := run_append_bytes (hr.off ha (fun _ _ => id)) (hb.off ha (fun _ _ _ => id)) hpo hl (Nat.le_trans hB ha.size) o.type
  obtain ⟨a', c', rfl, _⟩ := r1.slice
  rw [if_pos hw]
  unfold Oper.wp execOp
  simp only [ho, resolve, invoke, builtin, Sem.run_bind, Sem.run_pure, Result.andThen_ok, List.map_toArray, List.map_cons, List.map_nil, hs, hx, hrn]
  refine h _ _ _ _ r1 ((ha.mono (fun _ p => p.elim)).trans (Off.of_grown g1)) (fun g e => ?_)
  rcases b1 with q | q
  · rw [q] at e; exact Or.inl e
  · rw [q, Option.some.injEq] at e; have := ha.size; exact Or.inr (by omega)
end Go.Proofs.YtfkcnnjkflomkaaDoor

/-
  The calls of the document's disk. (Typed by gen/mkref.py.)
-/
namespace Go.Proofs.YtfkcnnjkflomkaaDoor
open Go.RowKit

/-- Bytes that stand apart, if there are any. -/
theorem Byts.off' {P : Nat → Prop} {w w' : World} {po : Option Addr} {n : Nat} {bs : List Int} (h : Byts w po n bs) (ho : Off P w w') (hP : 0 < n → ∀ b o, po = some ⟨b, o, none⟩ → ¬ P b) : Byts w' po n bs :=
  ⟨h.len, fun j hj => by
    obtain ⟨b, o, e, hl, hc⟩ := h.cell j hj
    exact ⟨b, o, e, Nat.lt_of_lt_of_le hl ho.size, by rw [ho.cell (p := ⟨b, o + j, none⟩) hl (hP (by omega) b o e)]; exact hc⟩⟩

/-- Whether a write is done; what the fuse is then. -/
def goesOn (dead : Bool) (left : Int) : Bool := !(dead || left == 0)
theorem RStep.drewN (w : World) (R : Nat) (v : Nat → Value) (k : Nat) : RStep w (w.drewN k) R v v := ⟨(Off.refl _ _).drewN _, fun _ _ g => g⟩
def leftOn (left : Int) : Int := if 0 < left then left - 1 else left
def oneMore (n : Int) : Int := if 9007199254740992 ≤ n then 9007199254740992 else n + 1
theorem oneMore_bn {n : Int} (h : 0 ≤ n ∧ n ≤ 9007199254740992) : 0 ≤ oneMore n ∧ oneMore n ≤ 9007199254740992 := by
  unfold oneMore; split <;> omega
end Go.Proofs.YtfkcnnjkflomkaaDoor

/-
  Counts of a disk that was made; the law's fill and beyond.
-/
namespace Go.Proofs.YtfkcnnjkflomkaaDoor
open Go.RowKit

/-- What fill answers: a list no longer than that. -/
def FOut (e : Ending) : Prop := ∃ (a : Option Addr) (m c : Nat), e = .returned (.slice a m c) ∧ m ≤ 16777217
/-- What beyond answers. -/
def BOut (xs : List Opv) (e : Ending) : Prop := ∃ b, e = .returned (.bool b) ∧ (b = false → ∀ y ∈ xs, y.pl ≤ 2147483647)
theorem u8make : (Tryd.prog.info? 5).map (fun i => (i.zero, i.size, i.bytes)) = some (some (.int .u8 0), 1, 1) := by kernel_rfl
end Go.Proofs.YtfkcnnjkflomkaaDoor

/-
  The law DiskTorn: what its walks share.
-/
namespace Go.Proofs.YtfkcnnjkflomkaaDoor
open Go.RowKit

theorem wpList_append_run_g {P : Program} {w w' : World} {ops : Array Oper} {rest : List Oper} {o : Oper} {a : Act} {Q : Exit → Act → World → Prop} (hw : Region.wanted o (yielded ops a.tmps) = true) (s x : Operand) (t : TypeId) (v' : Value)
    (ho : o.op = .call { callee := .builtin .append, args := #[s, x], argTypes := #[t, t] }) (hr : (Builtin.append_ #[t, t] o.type #[a.eval s, a.eval x]).run P w = .ok v' w') (h : wpList P ops Q rest (a.put o.dst v') w') : wpList P ops Q (o :: rest) a w :=
  wpList_step fun _ hK => by
    rw [if_pos hw]
    unfold Oper.wp execOp
    simp only [ho, resolve, invoke, builtin, Sem.run_bind, Sem.run_pure, Result.andThen_ok, List.map_toArray, List.map_cons, List.map_nil, hr]
    exact hK _ _ h
theorem Row.byts' {w : World} {B : Nat} {a : Option Addr} {n c : Nat} {xs : List Int} (h : Row w B (.slice a n c) xs) : n = xs.length ∧ Byts w a n xs ∧ (a = none → c = 0) ∧ ∀ b o, a = some ⟨b, o, none⟩ → B ≤ b := by
  rcases h.form with ⟨e, rfl⟩ | ⟨g, cap, e, hB, _⟩
  · simp only [Value.slice.injEq] at e
    obtain ⟨rfl, rfl, rfl⟩ := e
    exact ⟨rfl, ⟨rfl, fun j hj => by omega⟩, fun _ => rfl, fun b o e => by cases e⟩
  · simp only [Value.slice.injEq] at e
    obtain ⟨rfl, rfl, rfl⟩ := e
    refine ⟨rfl, ?_, fun e => (by cases e), fun b o e => by simp only [Option.some.injEq, Addr.mk.injEq] at e; omega⟩
    have := h.byts (x := 0) (n := xs.length) (m := xs.length) (by omega) rfl
    simpa using this
theorem row_empty (w : World) (n : Nat) (hn : w.heap.size = n) : Row (w.alloc (.cells #[] 5)) n (.slice (some ⟨n, 0, none⟩) 0 0) [] := by
  subst hn
  refine ⟨rfl, Or.inr ⟨w.heap.size, 0, #[], rfl, Nat.le_refl _, ?_, Nat.le_refl _, Nat.zero_le _, rfl, rfl⟩⟩
  show (w.heap.push _)[w.heap.size]? = _
  simp
/-- A copy: append to an empty list. -/
theorem run_copy_bytes {w : World} {po : Option Addr} {m c : Nat} {bs : List Int} (hb : Byts w po m bs) (hpo : po = none → c = 0) (hl : m ≤ 140737488355328) :
    ∃ a n c' w', (Builtin.append_ #[28, 28] 28 #[.slice (some ⟨w.heap.size, 0, none⟩) 0 0, .slice po m c]).run Tryd.prog (w.alloc (.cells #[] 5)) = .ok (.slice a n c') w' ∧ Row w' w.heap.size (.slice a n c') bs ∧ Below w.heap.size w w' := by
  obtain ⟨v', w', hr, r1, g1, b1⟩ := run_append_bytes (row_empty w _ rfl) (hb.off (P := fun _ => False) ((Off.refl _ _).alloc _) (fun _ _ _ => id)) hpo (by simp; omega) (by simp) 28
  obtain ⟨a, c', rfl, _⟩ := r1.slice
  refine ⟨a, _, c', w', hr, by simpa using r1, ((Below.refl _ _).alloc (Nat.le_refl _) _).trans ((Off.of_grown g1).below (by simp) (fun k e => by simp [Value.ownBlock] at e; omega))⟩

theorem torn_eq (ss ts : List Int) (k z : Nat) : torn (ss ++ ts) ss.length k z = ss ++ (ts.take k ++ List.replicate z 0) := by
  unfold torn
  rw [List.take_append, List.take_of_length_le (by omega), Nat.add_sub_cancel_left, List.append_assoc]
theorem torn_rest {W : World} {a : Option Addr} {ss ts : List Int} {sl k z c : Nat} (h : Byts W a (sl + k + z) (torn (ss ++ ts) ss.length k z)) (hs : ss.length = sl) (hc : sl + k + z ≤ c) (nd : Nat) :
    (c = sl → Byts (W.drewN nd) a (k + z) (ts.take k ++ List.replicate z 0)) ∧ (∀ g, a = some ⟨g, 0, none⟩ → Byts (W.drewN nd) (some ⟨g, sl, none⟩) (k + z) (ts.take k ++ List.replicate z 0)) := by
  rw [torn_eq] at h
  have hl : (ts.take k ++ List.replicate z (0 : Int)).length = k + z := by have := h.len; rw [List.length_append] at this; omega
  refine ⟨fun e => ⟨hl, fun j hj => by omega⟩, fun g hg => ⟨hl, fun j hj => ?_⟩⟩
  subst hg
  obtain ⟨b, o, e, hb, hcell⟩ := h.cell (sl + j) (by omega)
  simp only [Option.some.injEq, Addr.mk.injEq, and_true] at e
  obtain ⟨rfl, rfl⟩ := e
  refine ⟨g, sl, rfl, hb, ?_⟩
  have e2 : (W.drewN nd).cell? ⟨g, sl + j, none⟩ = W.cell? ⟨g, sl + j, none⟩ := rfl
  rw [e2]
  rw [Nat.zero_add] at hcell
  rw [hcell]
  congr 2
  rw [List.getD_eq_getElem?_getD, List.getD_eq_getElem?_getD, List.getElem?_append_right (by omega), hs, Nat.add_sub_cancel_left]
theorem torn_pre {ss ts : List Int} {k z : Nat} (_h : ss.length ≤ ss.length) : ss.length ≤ (torn (ss ++ ts) ss.length k z).length ∧ (torn (ss ++ ts) ss.length k z).take ss.length = ss := by
  have e : torn (ss ++ ts) ss.length k z = ss ++ (ts.take k ++ List.replicate z 0) := by
    unfold torn
    rw [List.take_append, List.take_of_length_le (by omega), Nat.add_sub_cancel_left, List.append_assoc]
  rw [e]
  exact ⟨by simp, by rw [List.take_append_of_le_length (Nat.le_refl _), List.take_length]⟩
end Go.Proofs.YtfkcnnjkflomkaaDoor

/-
  The law's does: one call that may write.
-/
namespace Go.Proofs.YtfkcnnjkflomkaaDoor
open Go.RowKit

theorem row_empty_at {w0 w : World} {n : Nat} (hn : w0.heap.size ≤ n) (hg : w.heap[n]? = some (.cells #[] 5)) : Row w w0.heap.size (.slice (some ⟨n, 0, none⟩) 0 0) [] :=
  ⟨rfl, Or.inr ⟨n, 0, #[], rfl, hn, hg, Nat.le_refl _, Nat.zero_le _, rfl, rfl⟩⟩
/-- A copy by append, as a step of a region that draws. -/
theorem step_copy {w0 w : World} {ops : Array Oper} {o : Oper} {a : Act} {K : Act → World → Prop} {Q : Exit → Act → World → Prop} {E : Prop} {n : Nat} {po : Option Addr} {m c : Nat} {bs : List Int} (hgd : o.guard = none) (s x : Operand)
    (ho : o.op = .call { callee := .builtin .append, args := #[s, x], argTypes := #[28, 28] }) (hs : a.eval s = .slice (some ⟨n, 0, none⟩) 0 0) (hx : a.eval x = .slice po m c)
    (hb : Byts w0 po m bs) (hpo : po = none → c = 0) (hl : m ≤ 140737488355328) (ha : Off (fun _ => False) w0 w) (hn : w0.heap.size ≤ n) (hg : w.heap[n]? = some (.cells #[] 5))
    (h : ∀ a' n' c' w', Row w' w0.heap.size (.slice a' n' c') bs → Below w0.heap.size w0 w' → K (a.put o.dst (.slice a' n' c')) w') :
    if Region.wanted o (yielded ops a.tmps) = true then Oper.wp Tryd.prog o a w K Q else E := by
  have hw : Region.wanted o (yielded ops a.tmps) = true := by simp [Region.wanted, hgd]
  obtain ⟨v', w', hr, r1, g1, b1⟩ := run_append_bytes (row_empty_at hn hg) (hb.off ha (fun _ _ _ => id)) hpo (by simp; omega) ha.size o.type
  obtain ⟨a', c', rfl, _⟩ := r1.slice
  rw [if_pos hw]
  unfold Oper.wp execOp
  simp only [ho, resolve, invoke, builtin, Sem.run_bind, Sem.run_pure, Result.andThen_ok, List.map_toArray, List.map_cons, List.map_nil, hs, hx, hr]
  exact h _ _ _ _ (by simpa using r1) ((ha.below_of (fun _ _ => id)).trans ((Off.of_grown g1).below ha.size (fun k e => by simp [Value.ownBlock] at e; omega)))

end Go.Proofs.YtfkcnnjkflomkaaDoor

/-
  Cut of the document's disk. (Typed by gen/mkref2.py.)
-/
namespace Go.Proofs.YtfkcnnjkflomkaaDoor
open Go.RowKit

theorem Row.cutTo {w : World} {B n c m : Nat} {a : Option Addr} {xs : List Int} (h : Row w B (.slice a n c) xs) (hm : m ≤ n) : Byts w a m (xs.take m) := by
  rcases h.form with ⟨e, rfl⟩ | ⟨g, cap, e, _⟩
  · cases e; obtain rfl : m = 0 := by omega
    exact ⟨rfl, fun j hj => by omega⟩
  · cases e; exact (h.prefix hm).bytes
theorem row_empty_new {w : World} {B : Nat} (hB : B ≤ w.heap.size) : Row (w.alloc (.cells #[] 5)) B (.slice (some ⟨w.heap.size, 0, none⟩) 0 0) [] :=
  ⟨rfl, Or.inr ⟨w.heap.size, 0, #[], rfl, hB, heap_alloc_new _ _, Nat.le_refl _, Nat.zero_le _, rfl, rfl⟩⟩
/-- append of bytes to nothing, the answer a slice in a new block or none. -/
theorem run_copy {w : World} {B : Nat} {po : Option Addr} {m c : Nat} {bs : List Int} (hB : B ≤ w.heap.size) (hb : Byts w po m bs) (hpo : po = none → c = 0) (hl : m ≤ 140737488355328) :
    ∃ a n c' w', (Builtin.append_ #[28, 28] 28 #[.slice (some ⟨w.heap.size, 0, none⟩) 0 0, .slice po m c]).run Tryd.prog (w.alloc (.cells #[] 5)) = .ok (.slice a n c') w' ∧ Row w' B (.slice a n c') bs ∧ Below w.heap.size w w' ∧ (∀ g, (Value.slice a n c').ownBlock = some g → w.heap.size ≤ g) := by
  have hal : Below w.heap.size w (w.alloc (.cells #[] 5)) := (Below.refl _ _).alloc (Nat.le_refl _) _
  obtain ⟨v', w', hr, r1, g1, b1⟩ := run_append_bytes (row_empty_new hB) (hb.below hal) hpo (by simpa using hl) (by simp; omega) 28
  obtain ⟨a', c', rfl, _⟩ := r1.slice
  refine ⟨_, _, _, w', hr, by simpa using r1, hal.trans ((Off.of_grown g1).below (by simp) (fun k e => by simp [Value.ownBlock] at e; omega)), fun g e => ?_⟩
  rcases b1 with q | q
  · rw [q] at e; simp [Value.ownBlock] at e; omega
  · rw [q, Option.some.injEq] at e; simp at e; omega
end Go.Proofs.YtfkcnnjkflomkaaDoor

/-
  The document's disk: New, From, Len.
-/
namespace Go.Proofs.YtfkcnnjkflomkaaDoor
open Go.RowKit

section
variable {w : World} {B R : Nat} {v : Nat → Value} {x : Nat → List Int} {dead : Bool} {left na ns nc : Int}
end
end Go.Proofs.YtfkcnnjkflomkaaDoor
