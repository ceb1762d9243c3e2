/-
  The lists, the map and the timers that there are: what each call makes of them (of no memory).
-/
import Derived.Test.YtdglnobapnohmaaDoorWhMeet
namespace Go.Proofs.YtdglnobapnohmaaDoor
open Go.RowKit

/-- All that lies in the lists. -/
def allL (L : Nat → List Tm) : List Tm := pick (fun _ => true) L
def resL (i : Nat) (L : Nat → List Tm) : List Tm := pick (fun q => q != i) L
theorem pick_one {i : Nat} (hi : i < 448) (L : Nat → List Tm) : pick (fun q => q == i) L = L i := by
  have e : (fun q => q == i) = rng i (i + 1) := by
    funext q
    unfold rng
    by_cases h : q = i
    · subst h; simp
    · have : (q == i) = false := by simp [h]
      rw [this]
      simp only [Bool.false_eq]
      simp; omega
  rw [e, ← btw_pick L i 1 (by omega), btw_step L (Nat.le_refl _), btw_self]
  rfl
theorem allL_at {i : Nat} (hi : i < 448) (L : Nat → List Tm) : (allL L).Perm (L i ++ resL i L) := by
  have h := pick_or (p := fun q => q == i) (r := fun q => q != i) L (fun q a b => by simp at a b; exact b a)
  have e : (fun q => (q == i) || (q != i)) = fun _ => true := by funext q; by_cases h : q = i <;> simp [h]
  rw [e, pick_one hi] at h
  exact h
theorem resL_upd (i : Nat) (L : Nat → List Tm) (ys : List Tm) : resL i (upd L i ys) = resL i L := by
  unfold resL pick
  rw [List.flatMap_def, List.flatMap_def]
  congr 1
  refine List.map_congr_left fun q hq => ?_
  have := (List.mem_filter.1 hq).2
  exact upd_other _ _ (by simpa using this)
theorem allL_upd {i : Nat} (hi : i < 448) (L : Nat → List Tm) (ys : List Tm) : (allL (upd L i ys)).Perm (ys ++ resL i L) := by
  have h := allL_at hi (upd L i ys)
  rwa [upd_same, resL_upd] at h
theorem mem_allL {L : Nat → List Tm} {x : Tm} : x ∈ allL L ↔ ∃ i, i < 448 ∧ x ∈ L i := by
  unfold allL pick
  simp
theorem erase_perm : ∀ {l : List Tm} {j : Nat} {y : Tm}, l[j]? = some y → l.Perm (y :: l.eraseIdx j)
  | [], j, y, h => by simp at h
  | x :: l, 0, y, h => by
    simp only [List.getElem?_cons_zero, Option.some.injEq] at h
    subst h
    exact List.Perm.refl _
  | x :: l, j + 1, y, h => by
    rw [List.getElem?_cons_succ] at h
    exact ((erase_perm h).cons x).trans (List.Perm.swap y x _)
/-- A list without its j-th: the last one takes the gap. -/
theorem swap_perm {l : List Tm} {j m : Nat} {x y : Tm} (hl : l.length = m + 1) (hx : l[m]? = some x) (hy : l[j]? = some y) : l.Perm (y :: (l.set j x).take m) := by
  have hj := (List.getElem?_eq_some_iff.1 hy).1
  have hs : (l.set j x).length = m + 1 := by rw [List.length_set, hl]
  have e1 : (l.set j x) = (l.set j x).take m ++ [x] := by
    have h1 : (l.set j x)[m]? = some x := by
      by_cases e : j = m
      · subst e; rw [List.getElem?_set_self hj]
      · rw [List.getElem?_set_ne e, hx]
    have h2 := (List.take_append_drop m (l.set j x)).symm
    rw [List.drop_eq_getElem_cons (by omega), List.drop_eq_nil_of_le (by omega)] at h2
    rw [List.getElem?_eq_getElem (by omega)] at h1
    injection h1 with h1
    rw [h1] at h2
    exact h2
  have p1 : l.Perm (y :: l.eraseIdx j) := erase_perm hy
  have p2 : (l.set j x).Perm (x :: l.eraseIdx j) := by
    have := erase_perm (l := l.set j x) (j := j) (y := x) (List.getElem?_set_self hj)
    rwa [List.eraseIdx_set_eq] at this
  have p3 : (l.eraseIdx j).Perm ((l.set j x).take m) := by
    have h4 : (x :: (l.set j x).take m).Perm (x :: l.eraseIdx j) := by
      refine (List.perm_append_comm (l₁ := [x])).trans ?_
      rw [← e1]
      exact p2
    exact ((List.perm_cons x).1 h4).symm
  exact p1.trans (p3.cons y)
/-- The lists, the map f and its size n; P: timers that lie in no list just now. -/
structure Ok (now : Nat) (L : Nat → List Tm) (f : Int → Option (Nat × Nat)) (n : Nat) (P : List Tm) : Prop where
  uq : Uniq (allL L ++ P)
  ky : ∀ x ∈ allL L ++ P, KeyI x.1
  pl : ∀ i, i < 448 → ∀ x ∈ L i, idx now x.2 = i ∧ now < x.2 ∧ x.2 ≤ MaxT
  mp : ∀ k, (∀ x ∈ P, x.1 ≠ k) → ∀ i j, f k = some (i, j) ↔ (i < 448 ∧ ∃ t, (L i)[j]? = some (k, t))
  ps : ∀ x ∈ P, (f x.1).isSome = true
  nn : n = (allL L ++ P).length
theorem Ok.len {now : Nat} {L : Nat → List Tm} {f : Int → Option (Nat × Nat)} {n : Nat} {P : List Tm} (h : Ok now L f n P) {i : Nat} (hi : i < 448) : (L i).length ≤ n := by
  have := (allL_at hi L).length_eq
  rw [h.nn, List.length_append, this, List.length_append]
  omega
/-- A key that has no timer. -/
theorem Ok.none_ {now : Nat} {L : Nat → List Tm} {f : Int → Option (Nat × Nat)} {n : Nat} (h : Ok now L f n []) {k : Int} (hk : ∀ x ∈ allL L, x.1 ≠ k) : f k = none := by
  cases e : f k with
  | none => rfl
  | some p =>
    obtain ⟨i, j⟩ := p
    obtain ⟨hi, t, ht⟩ := (h.mp k (fun x hx => (by cases hx)) i j).1 e
    exact absurd rfl (hk (k, t) (mem_allL.2 ⟨i, hi, List.mem_of_getElem? ht⟩))
theorem Ok.some_ {now : Nat} {L : Nat → List Tm} {f : Int → Option (Nat × Nat)} {n : Nat} (h : Ok now L f n []) {k : Int} {t : Nat} (hk : (k, t) ∈ allL L) : ∃ i j, i < 448 ∧ f k = some (i, j) ∧ (L i)[j]? = some (k, t) := by
  obtain ⟨i, hi, hm⟩ := mem_allL.1 hk
  obtain ⟨j, hj⟩ := List.getElem?_of_mem hm
  exact ⟨i, j, hi, (h.mp k (fun x hx => (by cases hx)) i j).2 ⟨hi, t, hj⟩, hj⟩
theorem ok_drop {now : Nat} {L : Nat → List Tm} {f : Int → Option (Nat × Nat)} {n : Nat} {P : List Tm} {d : Tm} (h : Ok now L f n (d :: P)) : Ok now L (updF f d.1 none) (n - 1) P := by
  have hp : (d :: (allL L ++ P)).Perm (allL L ++ d :: P) := List.perm_middle.symm
  have hu := h.uq.perm hp.symm
  have hu1 := List.pairwise_cons.1 hu
  refine ⟨hu1.2, fun x hx => h.ky x (hp.subset (List.mem_cons_of_mem _ hx)), h.pl, fun k hk i j => ?_, fun x hx => ?_, by rw [h.nn, ← hp.length_eq]; simp⟩
  · by_cases e : k = d.1
    · subst e
      unfold updF
      rw [if_pos rfl]
      refine ⟨fun e => (by cases e), fun ⟨hi, t, ht⟩ => ?_⟩
      exact absurd rfl (hu1.1 (d.1, t) (List.mem_append_left _ (mem_allL.2 ⟨i, hi, List.mem_of_getElem? ht⟩)))
    · unfold updF
      rw [if_neg e]
      exact h.mp k (fun x hx => by
        rcases List.mem_cons.1 hx with rfl | hx
        · exact fun e' => e e'.symm
        · exact hk x hx) i j
  · have hne : x.1 ≠ d.1 := fun e => hu1.1 x (List.mem_append_right _ hx) e.symm
    unfold updF
    rw [if_neg hne]
    exact h.ps x (List.mem_cons_of_mem _ hx)
theorem ok_put {now : Nat} {L : Nat → List Tm} {f : Int → Option (Nat × Nat)} {n : Nat} {P : List Tm} {k : Int} {t : Nat} (h : Ok now L f n P) (hk : KeyI k) (hf : ∀ x ∈ allL L ++ P, k ≠ x.1) (h1 : now < t) (h2 : t ≤ MaxT) :
    Ok now (upd L (idx now t) (L (idx now t) ++ [(k, t)])) (updF f k (some (idx now t, (L (idx now t)).length))) (n + 1) P ∧ (allL (upd L (idx now t) (L (idx now t) ++ [(k, t)]))).Perm ((k, t) :: allL L) := by
  have hi := idx_lt now t
  have hp : (allL (upd L (idx now t) (L (idx now t) ++ [(k, t)]))).Perm ((k, t) :: allL L) := by
    refine (allL_upd hi L _).trans ?_
    rw [List.append_assoc]
    exact (List.perm_middle).trans ((allL_at hi L).symm.cons _)
  have hp2 : (allL (upd L (idx now t) (L (idx now t) ++ [(k, t)])) ++ P).Perm ((k, t) :: (allL L ++ P)) := (List.perm_append_right_iff P).2 hp
  refine ⟨⟨(Uniq.perm (List.pairwise_cons.2 ⟨fun x hx => hf x hx, h.uq⟩) hp2.symm), fun x hx => ?_, fun i hi' x hx => ?_, fun k' hk' i j => ?_, fun x hx => ?_, by rw [hp2.length_eq, h.nn]; rfl⟩, hp⟩
  · rcases List.mem_cons.1 (hp2.subset hx) with rfl | hx
    · exact hk
    · exact h.ky x hx
  · by_cases e : i = idx now t
    · subst e
      rw [upd_same] at hx
      rcases List.mem_append.1 hx with hx | hx
      · exact h.pl _ hi x hx
      · obtain rfl := List.mem_singleton.1 hx
        exact ⟨rfl, h1, h2⟩
    · rw [upd_other _ _ e] at hx
      exact h.pl i hi' x hx
  · have hlen : ∀ j, (L (idx now t) ++ [(k, t)])[j]? = if j < (L (idx now t)).length then (L (idx now t))[j]? else if j = (L (idx now t)).length then some (k, t) else none := fun j => by
      rcases Nat.lt_or_ge j (L (idx now t)).length with p | p
      · rw [if_pos p, List.getElem?_append_left p]
      · rw [if_neg (by omega), List.getElem?_append_right p]
        by_cases e : j = (L (idx now t)).length
        · subst e; simp
        · rw [if_neg e, List.getElem?_eq_none (by simp; omega)]
    by_cases ek : k' = k
    · subst ek
      unfold updF
      rw [if_pos rfl]
      constructor
      · intro e
        simp only [Option.some.injEq, Prod.mk.injEq] at e
        obtain ⟨rfl, rfl⟩ := e
        exact ⟨hi, t, by rw [upd_same, hlen, if_neg (by omega), if_pos rfl]⟩
      · rintro ⟨hi', t', ht⟩
        have hno : ∀ i j, i < 448 → (L i)[j]? = some (k', t') → False := fun i j hi he => hf (k', t') (List.mem_append_left _ (mem_allL.2 ⟨i, hi, List.mem_of_getElem? he⟩)) rfl
        by_cases e : i = idx now t
        · subst e
          rw [upd_same, hlen] at ht
          split at ht
          · exact (hno _ _ hi ht).elim
          · split at ht
            · rename_i e; rw [e]
            · cases ht
        · rw [upd_other _ _ e] at ht
          exact (hno _ _ hi' ht).elim
    · unfold updF
      rw [if_neg ek, h.mp k' hk' i j]
      by_cases e : i = idx now t
      · subst e
        rw [upd_same]
        refine and_congr_right fun _ => exists_congr fun t' => ?_
        rw [hlen]
        rcases Nat.lt_or_ge j (L (idx now t)).length with p | p
        · rw [if_pos p]
        · rw [if_neg (by omega), List.getElem?_eq_none p]
          split
          · constructor
            · intro e; cases e
            · intro e
              simp only [Option.some.injEq, Prod.mk.injEq] at e
              exact absurd e.1.symm ek
          · exact Iff.rfl
      · rw [upd_other _ _ e]
  · have : x.1 ≠ k := fun e => hf x (List.mem_append_right _ hx) e.symm
    unfold updF
    rw [if_neg this]
    exact h.ps x hx
theorem ok_rem {now : Nat} {L : Nat → List Tm} {f : Int → Option (Nat × Nat)} {n : Nat} {k : Int} {i j m t : Nat} {x : Tm} (h : Ok now L f n []) (hi : i < 448) (hf : f k = some (i, j)) (hl : (L i).length = m + 1) (hx : (L i)[m]? = some x) (hy : (L i)[j]? = some (k, t)) :
    Ok now (upd L i (((L i).set j x).take m)) (updF (updF f x.1 (some (i, j))) k none) (n - 1) [] ∧ (allL L).Perm ((k, t) :: allL (upd L i (((L i).set j x).take m))) := by
  have hp : (allL L).Perm ((k, t) :: allL (upd L i (((L i).set j x).take m))) := by
    refine (allL_at hi L).trans (((List.perm_append_right_iff _).2 (swap_perm hl hx hy)).trans ?_)
    exact ((allL_upd hi L _).symm.cons _)
  have hM := fun k' i' j' => h.mp k' (fun x hx => (by cases hx)) i' j'
  have hu := h.uq
  rw [List.append_nil] at hu
  have hj := (List.getElem?_eq_some_iff.1 hy).1
  have fx : f x.1 = some (i, m) := (hM x.1 i m).2 ⟨hi, x.2, hx⟩
  have hat : ∀ j', (((L i).set j x).take m)[j']? = if j' < m then (if j' = j then some x else (L i)[j']?) else none := fun j' => by
    rw [List.getElem?_take]
    split
    · by_cases e : j' = j
      · subst e; rw [if_pos rfl, List.getElem?_set_self hj]
      · rw [if_neg e, List.getElem?_set_ne (fun e' => e e'.symm)]
    · rfl
  refine ⟨⟨?_, fun y hy => ?_, fun i' hi' y hy => ?_, fun k' _ i' j' => ?_, fun y hy => (by cases hy), ?_⟩, hp⟩
  · rw [List.append_nil]
    exact (List.pairwise_cons.1 (hu.perm hp)).2
  · rw [List.append_nil] at hy
    exact h.ky y (by rw [List.append_nil]; exact hp.symm.subset (List.mem_cons_of_mem _ hy))
  · by_cases e : i' = i
    · subst e
      rw [upd_same] at hy
      refine h.pl _ hi y ?_
      rcases List.mem_or_eq_of_mem_set (List.mem_of_mem_take hy) with hy | rfl
      · exact hy
      · exact List.mem_of_getElem? hx
    · rw [upd_other _ _ e] at hy
      exact h.pl i' hi' y hy
  · by_cases ek : k' = k
    · subst ek
      unfold updF
      rw [if_pos rfl]
      refine ⟨fun e => (by cases e), fun ⟨hi', t', ht⟩ => ?_⟩
      by_cases e : i' = i
      · subst e
        rw [upd_same, hat] at ht
        split at ht
        · split at ht
          · simp only [Option.some.injEq] at ht
            have := fx
            rw [ht, hf] at this
            simp only [Option.some.injEq, Prod.mk.injEq, true_and] at this
            omega
          · have := (hM k' i' j').2 ⟨hi, t', ht⟩
            rw [hf] at this
            simp only [Option.some.injEq, Prod.mk.injEq, true_and] at this
            omega
        · cases ht
      · rw [upd_other _ _ e] at ht
        have := (hM k' i' j').2 ⟨hi', t', ht⟩
        rw [hf] at this
        simp only [Option.some.injEq, Prod.mk.injEq] at this
        exact absurd this.1.symm e
    · unfold updF
      rw [if_neg ek]
      by_cases exk : k' = x.1
      · subst exk
        rw [if_pos rfl]
        have hjm : j ≠ m := fun e => by
          rw [e, hx] at hy
          injection hy with hy
          rw [hy] at ek
          exact ek rfl
        constructor
        · intro e
          simp only [Option.some.injEq, Prod.mk.injEq] at e
          obtain ⟨rfl, rfl⟩ := e
          refine ⟨hi, x.2, ?_⟩
          rw [upd_same, hat, if_pos (by omega), if_pos rfl]
        · rintro ⟨hi', t', ht⟩
          by_cases e : i' = i
          · subst e
            rw [upd_same, hat] at ht
            split at ht
            · split at ht
              · rename_i e; rw [e]
              · have := (hM _ i' j').2 ⟨hi, t', ht⟩
                rw [fx] at this
                simp only [Option.some.injEq, Prod.mk.injEq, true_and] at this
                omega
            · cases ht
          · rw [upd_other _ _ e] at ht
            have := (hM _ i' j').2 ⟨hi', t', ht⟩
            rw [fx] at this
            simp only [Option.some.injEq, Prod.mk.injEq] at this
            exact absurd this.1.symm e
      · rw [if_neg exk, hM k' i' j']
        by_cases e : i' = i
        · subst e
          rw [upd_same]
          refine and_congr_right fun _ => exists_congr fun t' => ?_
          rw [hat]
          constructor
          · intro ht
            have hlt : j' < m := by
              have := (List.getElem?_eq_some_iff.1 ht).1
              rcases Nat.lt_or_ge j' m with p | p
              · exact p
              · obtain rfl : j' = m := by omega
                rw [hx] at ht
                injection ht with ht
                rw [ht] at exk
                exact absurd rfl exk
            have hne : j' ≠ j := fun e => by
              rw [e, hy] at ht
              simp only [Option.some.injEq, Prod.mk.injEq] at ht
              exact ek ht.1.symm
            rw [if_pos hlt, if_neg hne]
            exact ht
          · intro ht
            split at ht
            · split at ht
              · simp only [Option.some.injEq] at ht
                rw [ht] at exk
                exact absurd rfl exk
              · exact ht
            · cases ht
        · rw [upd_other _ _ e]
  · rw [List.append_nil, h.nn, List.append_nil, hp.length_eq]
    rfl
theorem ok_met {now to_ : Nat} {L : Nat → List Tm} {f : Int → Option (Nat × Nat)} {n : Nat} {acc : List Tm} (h : Ok now L f n []) (hnow : now ≤ to_) (hto : to_ ≤ MaxT) (ha : acc.Perm (pick (met now to_) L)) :
    Ok to_ (clrL (met now to_) L) f n acc ∧ (allL L).Perm (allL (clrL (met now to_) L) ++ acc) ∧ ∀ x ∈ allL (clrL (met now to_) L), to_ < x.2 := by
  have hM := fun k' i' j' => h.mp k' (fun x hx => (by cases hx)) i' j'
  have hu := h.uq
  rw [List.append_nil] at hu
  have e1 : allL (clrL (met now to_) L) = pick (fun i => !met now to_ i) L := by
    unfold allL pick clrL
    have : ∀ l : List Nat, (l.filter fun _ => true).flatMap (fun i => if met now to_ i = true then [] else L i) = (l.filter fun i => !met now to_ i).flatMap L := fun l => by
      induction l with
      | nil => rfl
      | cons x l ih =>
        rw [List.filter_cons_of_pos rfl, List.flatMap_cons, ih]
        cases hm : met now to_ x with
        | true => rw [List.filter_cons_of_neg (by simp [hm])]; simp
        | false => rw [List.filter_cons_of_pos (by simp [hm]), List.flatMap_cons]; simp
    exact this _
  have hp : (allL L).Perm (allL (clrL (met now to_) L) ++ acc) := by
    rw [e1]
    have h1 := pick_or (p := fun i => !met now to_ i) (r := met now to_) L (fun i a b => by simp [b] at a)
    have e : (fun i => !met now to_ i || met now to_ i) = fun _ => true := by funext q; simp
    rw [e] at h1
    exact h1.trans ((List.perm_append_left_iff _).2 ha.symm)
  have hacc : ∀ x ∈ acc, ∃ i, i < 448 ∧ met now to_ i = true ∧ x ∈ L i := fun x hx => by
    have := ha.subset hx
    unfold pick at this
    obtain ⟨i, hi, hx⟩ := List.mem_flatMap.1 this
    exact ⟨i, List.mem_range.1 (List.mem_filter.1 hi).1, (List.mem_filter.1 hi).2, hx⟩
  refine ⟨⟨hu.perm hp, fun x hx => h.ky x (by rw [List.append_nil]; exact hp.symm.subset hx), fun i hi x hx => ?_, fun k hk i j => ?_, fun x hx => ?_, ?_⟩, hp, fun x hx => ?_⟩
  · unfold clrL at hx
    split at hx
    · cases hx
    · rename_i hm
      obtain ⟨h1, h2, h3⟩ := h.pl i hi x hx
      have h4 := met_no h3 h2 hto hnow (by rw [h1]; simpa using hm)
      exact ⟨by rw [h4.2, h1], h4.1, h3⟩
  · rw [hM k i j]
    refine and_congr_right fun hi => exists_congr fun t => ?_
    unfold clrL
    split
    · rename_i hm
      refine ⟨fun ht => ?_, fun ht => by simp at ht⟩
      refine absurd rfl (hk (k, t) (ha.symm.subset ?_))
      unfold pick
      exact List.mem_flatMap.2 ⟨i, List.mem_filter.2 ⟨List.mem_range.2 hi, hm⟩, List.mem_of_getElem? ht⟩
    · exact Iff.rfl
  · obtain ⟨i, hi, _, hx⟩ := hacc x hx
    obtain ⟨j, hj⟩ := List.getElem?_of_mem hx
    rw [(hM x.1 i j).2 ⟨hi, x.2, hj⟩]
    rfl
  · rw [← hp.length_eq, h.nn, List.append_nil]
  · obtain ⟨i, hi, hx⟩ := mem_allL.1 hx
    unfold clrL at hx
    split at hx
    · cases hx
    · rename_i hm
      obtain ⟨h1, h2, h3⟩ := h.pl i hi x hx
      exact (met_no h3 h2 hto hnow (by rw [h1]; simpa using hm)).1
theorem ok_new (now : Nat) : Ok now (fun _ => []) (fun _ => none) 0 [] := by
  have e : allL (fun _ => []) = [] := by unfold allL pick; simp
  refine ⟨by rw [e]; exact List.Pairwise.nil, fun x hx => (by rw [e] at hx; cases hx), fun i _ x hx => (by cases hx), fun k _ i j => ⟨fun e => (by cases e), fun ⟨_, t, ht⟩ => by simp at ht⟩, fun x hx => (by cases hx), by rw [e]; rfl⟩
end Go.Proofs.YtdglnobapnohmaaDoor
