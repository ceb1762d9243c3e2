/-
  InboxKeeps: the statement's own list, beside the inbox. Of no program.
-/
import Derived.Test.YtjbkfppibnlmoaaDoorLeaf
import Derived.Test.YtjbkfppibnlmoaaDoorIbLi
namespace Go.Proofs.YtjbkfppibnlmoaaDoor
open Go.RowKit

/-- What was accepted: decided, gone. -/
structure Bk where
  ct : ByteArray
  de : Bool
  go : Bool
def encK (b : Bk) : List Value := [.string b.ct, .bool b.de, .bool b.go]
theorem encK_len (b : Bk) : (encK b).length = 3 := rfl
theorem encK_one (b : Bk) : ∀ u ∈ encK b, u.oneCell' = true := fun u hu => by
  simp only [encK, List.mem_cons, List.not_mem_nil, or_false] at hu
  rcases hu with rfl | rfl | rfl <;> rfl
/-- Those that are kept. -/
def kp (l : List Bk) : List Bk := l.filter (fun b => !b.go)
def kd (b : Bk) : Bool := b.de && !b.go
/-- How many are decided behind; how many of those are kept. -/
def dcN (l : List Bk) (i : Nat) : Nat := (l.drop (i + 1)).countP (·.de)
def kB (l : List Bk) (i : Nat) : Nat := (l.drop (i + 1)).countP kd
def vE (e : Ent) : ByteArray × Bool := (e.ct, dcB e)
def vB (b : Bk) : ByteArray × Bool := (b.ct, b.de)
theorem map_erase {α β : Type} (f : α → β) : ∀ (l : List α) (i : Nat), (l.eraseIdx i).map f = (l.map f).eraseIdx i
  | [], _ => rfl
  | _ :: _, 0 => rfl
  | x :: r, i + 1 => by rw [List.eraseIdx_cons_succ, List.map_cons, map_erase f r i, List.map_cons, List.eraseIdx_cons_succ]
structure Kin (K : Int) (l : List Bk) (es : List Ent) : Prop where
  mp : es.map vE = (kp l).map vB
  gd : ∀ b ∈ l, b.go = true → b.de = true
  gk : ∀ (i : Nat) (b : Bk), l[i]? = some b → b.go = true → K + 1 ≤ (kB l i : Int)
theorem Kin.nil (K : Int) : Kin K [] [] := ⟨rfl, fun b hb => (by cases hb), fun i b h => (by simp at h)⟩
section
variable {K : Int} {l A C : List Bk} {es : List Ent} {b g : Bk}
theorem Kin.dc (h : Kin K l es) : l.countP kd = nDc es := by
  have h1 : nDc es = (es.map vE).countP (·.2) := by rw [List.countP_map]; rfl
  rw [h1, h.mp, List.countP_map]
  unfold kp
  rw [List.countP_filter]
  rfl
theorem Kin.op (h : Kin K l es) : l.countP (fun b => !b.de) = nOp es := by
  have h1 : nOp es = (es.map vE).countP (fun p => !p.2) := by
    rw [List.countP_map]
    unfold nOp
    congr 1
    funext e
    simp [opB, vE, dcB]
  rw [h1, h.mp, List.countP_map]
  unfold kp
  rw [List.countP_filter]
  refine List.countP_congr fun b hb => ?_
  have := h.gd b hb
  simp only [Function.comp, vB, Bool.not_eq_true', Bool.and_eq_true]
  constructor
  · intro hd
    refine ⟨hd, ?_⟩
    cases hg : b.go with
    | false => rfl
    | true => rw [this hg] at hd; cases hd
  · exact fun hd => hd.1
theorem kB_mid_lt {i : Nat} (hi : i < A.length) : kB (A ++ b :: C) i = (A.drop (i + 1)).countP kd + (if kd b = true then 1 else 0) + C.countP kd := by
  unfold kB
  rw [List.drop_append_of_le_length (by omega), List.countP_append, List.countP_cons]
  omega
theorem kB_mid_ge {i : Nat} (hi : A.length ≤ i) : kB (A ++ b :: C) i = (C.drop (i - A.length)).countP kd := by
  unfold kB
  rw [List.drop_append, List.drop_eq_nil_of_le (by omega), List.nil_append, show i + 1 - A.length = (i - A.length) + 1 by omega, List.drop_succ_cons]
theorem kB_le {i j : Nat} (h : i ≤ j) : kB l j ≤ kB l i := by
  unfold kB
  exact List.Sublist.countP_le (List.drop_sublist_drop_left l (by omega))
/-- Of a kept decided one: fewer kept decided ones stand behind than there are. -/
theorem kB_lt {i : Nat} (hb : l[i]? = some b) (hk : kd b = true) : kB l i + 1 ≤ l.countP kd := by
  obtain ⟨hi, rfl⟩ := List.getElem?_eq_some_iff.1 hb
  have e1 : l = l.take i ++ (l[i] :: l.drop (i + 1)) := by rw [List.getElem_cons_drop, List.take_append_drop]
  conv => rhs; rw [e1, List.countP_append, List.countP_cons, if_pos hk]
  unfold kB
  omega
theorem still_of (h : Kin K l es) {i : Nat} (hi : (kB l i : Int) ≤ K) : ¬ K < (dcN l i : Int) := by
  by_cases hg : ∃ b ∈ l.drop (i + 1), b.go = true
  · obtain ⟨b, hb, hgo⟩ := hg
    obtain ⟨j, hj, rfl⟩ := List.getElem_of_mem hb
    have hx : l[i + 1 + j]? = some (l.drop (i + 1))[j] := by
      rw [← List.getElem?_drop, List.getElem?_eq_getElem hj]
    have := h.gk _ _ hx hgo
    have h2 := kB_le (l := l) (i := i) (j := i + 1 + j) (by omega)
    omega
  · have e : dcN l i = kB l i := by
      unfold dcN kB
      refine List.countP_congr fun b hb => ?_
      have : b.go = false := by
        cases hgo : b.go with
        | false => rfl
        | true => exact absurd ⟨b, hb, hgo⟩ hg
      simp [kd, this]
    omega
def gc (K : Int) (l : List Bk) (i : Nat) (b : Bk) : Bool := b.de && !b.go && decide (K < (dcN l i : Int))
/-- Nobody goes. -/
theorem none_goes (h : Kin K l es) (hm : (nDc es : Int) ≤ K + 1) (i : Nat) (b : Bk) (hb : l[i]? = some b) : gc K l i b = false := by
  unfold gc
  cases hk : kd b with
  | false => unfold kd at hk; rw [hk]; rfl
  | true =>
    have h1 := kB_lt hb hk
    have h2 := h.dc
    rw [decide_eq_false (still_of h (by omega))]
    simp
/-- Just the first decided one goes. -/
theorem first_goes (h : Kin K (A ++ g :: C) es) (hm : (nDc es : Int) = K + 2) (hA : ∀ a ∈ A, kd a = false) (hg : kd g = true) (i : Nat) (b : Bk) (hb : (A ++ g :: C)[i]? = some b) : gc K (A ++ g :: C) i b = decide (i = A.length) := by
  have hdc := h.dc
  have hA0 : A.countP kd = 0 := by
    rw [List.countP_eq_zero]
    intro a ha
    rw [hA a ha]
    decide
  rw [List.countP_append, List.countP_cons, if_pos hg, hA0] at hdc
  unfold gc
  cases hk : kd b with
  | false =>
    have hi : i ≠ A.length := fun e => by
      rw [e, List.getElem?_append_right (Nat.le_refl _), Nat.sub_self] at hb
      simp only [List.getElem?_cons_zero, Option.some.injEq] at hb
      rw [← hb, hg] at hk
      cases hk
    unfold kd at hk
    rw [hk, decide_eq_false hi]
    rfl
  | true =>
    have hk' := hk
    unfold kd at hk'
    rw [hk', Bool.true_and]
    by_cases hi : i = A.length
    · have h1 : kB (A ++ g :: C) i = C.countP kd := by rw [kB_mid_ge (by omega), hi, Nat.sub_self, List.drop_zero]
      have h2 : kB (A ++ g :: C) i ≤ dcN (A ++ g :: C) i := by
        unfold kB dcN
        refine List.countP_mono_left fun x _ hx => ?_
        unfold kd at hx
        simp only [Bool.and_eq_true] at hx
        exact hx.1
      rw [decide_eq_true hi, decide_eq_true (by omega)]
    · have hil : A.length ≤ i := by
        rcases Nat.lt_or_ge i A.length with g1 | g1
        · rw [List.getElem?_append_left g1] at hb
          rw [hA b (List.mem_of_getElem? hb)] at hk
          cases hk
        · exact g1
      obtain ⟨j, rfl⟩ : ∃ j, i = A.length + 1 + j := ⟨i - A.length - 1, by omega⟩
      have hbC : C[j]? = some b := by
        rw [List.getElem?_append_right (by omega), show A.length + 1 + j - A.length = j + 1 by omega, List.getElem?_cons_succ] at hb
        exact hb
      have h1 : kB (A ++ g :: C) (A.length + 1 + j) = kB C j := by
        rw [kB_mid_ge (by omega), show A.length + 1 + j - A.length = j + 1 by omega]
        rfl
      have h3 := kB_lt hbC hk
      rw [decide_eq_false hi, decide_eq_false (still_of h (by omega))]
theorem kp_mid (hg : b.go = false) : kp (A ++ b :: C) = kp A ++ b :: kp C := by
  unfold kp
  rw [List.filter_append, List.filter_cons_of_pos (by rw [hg]; rfl)]
theorem kp_gone (hg : b.go = true) : kp (A ++ b :: C) = kp A ++ kp C := by
  unfold kp
  rw [List.filter_append, List.filter_cons_of_neg (by rw [hg]; decide)]
/-- One of the list stands in the inbox. -/
theorem Kin.at_ (h : Kin K (A ++ b :: C) es) (hg : b.go = false) : ∃ x, es[(kp A).length]? = some x ∧ x.ct = b.ct ∧ dcB x = b.de := by
  have h1 := h.mp
  rw [kp_mid hg, List.map_append, List.map_cons] at h1
  have h2 : (es.map vE)[(kp A).length]? = some (vB b) := by
    rw [h1, List.getElem?_append_right (by simp), List.length_map, Nat.sub_self]
    rfl
  rw [List.getElem?_map] at h2
  obtain ⟨x, hx, he⟩ := Option.map_eq_some_iff.1 h2
  simp only [vE, vB, Prod.mk.injEq] at he
  exact ⟨x, hx, he.1, he.2⟩
/-- An open one is decided. -/
theorem Kin.dcd (h : Kin K (A ++ b :: C) es) (hd : b.de = false) {y : Ent} (hy : y.ct = b.ct) (hyd : dcB y = true) : Kin K (A ++ { b with de := true } :: C) (es.set (kp A).length y) := by
  have hg : b.go = false := by
    cases hg : b.go with
    | false => rfl
    | true => have := h.gd b (by simp) hg; rw [hd] at this; cases this
  refine ⟨?_, fun x hx hgo => ?_, fun i x hx hgo => ?_⟩
  · rw [kp_mid (b := { b with de := true }) hg, List.map_set, h.mp, kp_mid hg, List.map_append, List.map_cons, List.map_append, List.map_cons, List.set_append_right _ _ (by simp), List.length_map, Nat.sub_self, List.set_cons_zero]
    congr 2
    simp [vE, vB, hy, hyd]
  · rcases List.mem_append.1 hx with g1 | g1
    · exact h.gd x (List.mem_append_left _ g1) hgo
    · rcases List.mem_cons.1 g1 with rfl | g1
      · rfl
      · exact h.gd x (List.mem_append_right _ (List.mem_cons_of_mem _ g1)) hgo
  · have hkb : kB (A ++ b :: C) i ≤ kB (A ++ { b with de := true } :: C) i := by
      rcases Nat.lt_or_ge i A.length with g1 | g1
      · rw [kB_mid_lt g1, kB_mid_lt g1, show kd b = false by unfold kd; rw [hd]; rfl]
        simp
      · rw [kB_mid_ge g1, kB_mid_ge g1]
        exact Nat.le_refl _
    have hxo : (A ++ b :: C)[i]? = some x := by
      by_cases hi : i = A.length
      · rw [hi, List.getElem?_append_right (Nat.le_refl _), Nat.sub_self] at hx
        simp only [List.getElem?_cons_zero, Option.some.injEq] at hx
        rw [← hx] at hgo
        simp only at hgo
        rw [hg] at hgo
        cases hgo
      · rcases Nat.lt_or_ge i A.length with g1 | g1
        · rw [List.getElem?_append_left g1] at hx ⊢
          exact hx
        · obtain ⟨j, rfl⟩ : ∃ j, i = A.length + 1 + j := ⟨i - A.length - 1, by omega⟩
          rw [List.getElem?_append_right (by omega), show A.length + 1 + j - A.length = j + 1 by omega, List.getElem?_cons_succ] at hx ⊢
          exact hx
    have := h.gk i x hxo hgo
    omega
/-- The first decided one goes. -/
theorem Kin.goes (h : Kin K (A ++ g :: C) es) (hm : (nDc es : Int) = K + 2) (hA : ∀ a ∈ A, kd a = false) (hg : kd g = true) : Kin K (A ++ { g with go := true } :: C) (es.eraseIdx (kp A).length) := by
  have hgg : g.go = false ∧ g.de = true := by
    unfold kd at hg
    simp only [Bool.and_eq_true, Bool.not_eq_true'] at hg
    exact ⟨hg.2, hg.1⟩
  have hdc := h.dc
  have hA0 : A.countP kd = 0 := by
    rw [List.countP_eq_zero]
    intro a ha
    rw [hA a ha]
    decide
  rw [List.countP_append, List.countP_cons, if_pos hg, hA0] at hdc
  refine ⟨?_, fun x hx hgo => ?_, fun i x hx hgo => ?_⟩
  · rw [kp_gone (b := { g with go := true }) rfl, map_erase, h.mp, kp_mid hgg.1, List.map_append, List.map_cons, List.eraseIdx_append_of_length_le (by simp), List.length_map, Nat.sub_self, List.eraseIdx_cons_zero, List.map_append]
  · rcases List.mem_append.1 hx with g1 | g1
    · exact h.gd x (List.mem_append_left _ g1) hgo
    · rcases List.mem_cons.1 g1 with rfl | g1
      · exact hgg.2
      · exact h.gd x (List.mem_append_right _ (List.mem_cons_of_mem _ g1)) hgo
  · rcases Nat.lt_or_ge i A.length with g1 | g1
    · rw [kB_mid_lt g1]
      omega
    · by_cases hi : i = A.length
      · rw [kB_mid_ge g1, hi, Nat.sub_self, List.drop_zero]
        omega
      · obtain ⟨j, rfl⟩ : ∃ j, i = A.length + 1 + j := ⟨i - A.length - 1, by omega⟩
        have hxo : (A ++ g :: C)[A.length + 1 + j]? = some x := by
          rw [List.getElem?_append_right (by omega), show A.length + 1 + j - A.length = j + 1 by omega, List.getElem?_cons_succ] at hx ⊢
          exact hx
        have := h.gk _ x hxo hgo
        rw [kB_mid_ge g1] at this ⊢
        exact this
/-- One more is accepted. -/
theorem Kin.snoc (h : Kin K l es) {e : Ent} (hd : dcB e = false) : Kin K (l ++ [⟨e.ct, false, false⟩]) (es ++ [e]) := by
  refine ⟨?_, fun x hx hgo => ?_, fun i x hx hgo => ?_⟩
  · unfold kp
    rw [List.filter_append, List.map_append, List.map_append, h.mp]
    congr 1
    simp [vE, vB, hd]
  · rcases List.mem_append.1 hx with g1 | g1
    · exact h.gd x g1 hgo
    · obtain rfl : x = ⟨e.ct, false, false⟩ := by simpa using g1
      cases hgo
  · rcases Nat.lt_or_ge i l.length with g1 | g1
    · rw [List.getElem?_append_left g1] at hx
      have := h.gk i x hx hgo
      unfold kB at this ⊢
      rw [List.drop_append_of_le_length (by omega), List.countP_append]
      omega
    · have hil := (List.getElem?_eq_some_iff.1 hx).1
      simp only [List.length_append, List.length_singleton] at hil
      obtain rfl : i = l.length := by omega
      rw [List.getElem?_append_right (Nat.le_refl _), Nat.sub_self] at hx
      simp only [List.getElem?_cons_zero, Option.some.injEq] at hx
      rw [← hx] at hgo
      cases hgo
/-- The first decided one in the list is the first decided one in the inbox. -/
theorem Kin.fd (h : Kin K (A ++ g :: C) es) (hA : ∀ a ∈ A, kd a = false) (hg : kd g = true) : fdS es = some (kp A).length := by
  have hgg : g.go = false ∧ g.de = true := by
    unfold kd at hg
    simp only [Bool.and_eq_true, Bool.not_eq_true'] at hg
    exact ⟨hg.2, hg.1⟩
  have e1 : fdS es = (es.map vE).findIdx? (·.2) := by rw [List.findIdx?_map]; rfl
  rw [e1, h.mp, kp_mid hgg.1, List.map_append, List.map_cons, List.findIdx?_append]
  have e2 : ((kp A).map vB).findIdx? (·.2) = none := by
    rw [List.findIdx?_eq_none_iff]
    intro p hp
    obtain ⟨a, ha, rfl⟩ := List.mem_map.1 hp
    unfold kp at ha
    obtain ⟨h1, h2⟩ := List.mem_filter.1 ha
    have := hA a h1
    unfold kd at this
    simp only [Bool.not_eq_true'] at h2
    rw [h2] at this
    simpa [vB] using this
  rw [e2, List.findIdx?_cons]
  simp [vB, hgg.2]
/-- A list with kept decided ones, parted at the first. -/
theorem part_first (h : 0 < l.countP kd) : ∃ A g C, l = A ++ g :: C ∧ (∀ a ∈ A, kd a = false) ∧ kd g = true := by
  induction l with
  | nil => simp at h
  | cons b r ih =>
    cases hb : kd b with
    | true => exact ⟨[], b, r, rfl, fun a ha => (by cases ha), hb⟩
    | false =>
      rw [List.countP_cons, hb] at h
      obtain ⟨A, g, C, e, h1, h2⟩ := ih (by simpa using h)
      refine ⟨b :: A, g, C, by rw [e]; rfl, fun a ha => ?_, h2⟩
      rcases List.mem_cons.1 ha with rfl | ha
      · exact hb
      · exact h1 a ha
theorem part_at {k : Nat} (hb : l[k]? = some b) : ∃ A C, l = A ++ b :: C ∧ A.length = k := by
  obtain ⟨hk, rfl⟩ := List.getElem?_eq_some_iff.1 hb
  exact ⟨l.take k, l.drop (k + 1), by rw [List.getElem_cons_drop, List.take_append_drop], by rw [List.length_take]; omega⟩
/-- What goes does to the list. -/
def gset (l : List Bk) (f : Nat) : List Bk := match l[f]? with | some b => l.set f { b with go := true } | none => l
def goW (l : List Bk) (f : Nat) : List ByteArray := match l[f]? with | some b => [b.ct] | none => []
/-- Behind a Decide or an Accept: who goes, by both. -/
theorem Kin.step (h : Kin K l es) (hK : 0 ≤ K) (hm : (nDc es : Int) ≤ K + 2) : ∃ f, (∀ i b, l[i]? = some b → gc K l i b = decide (i = f)) ∧ goneS K es = goW l f ∧ Kin K (gset l f) (shedS K es) := by
  by_cases h2 : (nDc es : Int) = K + 2
  · obtain ⟨A, g, C, rfl, hA, hg⟩ := part_first (l := l) (by rw [h.dc]; omega)
    have hgl : (A ++ g :: C)[A.length]? = some g := by simp
    have hfd := h.fd hA hg
    have hmb : manyB K es = true := by unfold manyB; rw [decide_eq_true (by omega)]
    refine ⟨A.length, first_goes h h2 hA hg, ?_, ?_⟩
    · unfold goneS goW
      rw [hmb, hfd, hgl]
      have hgg : g.go = false := by
        unfold kd at hg
        simp only [Bool.and_eq_true, Bool.not_eq_true'] at hg
        exact hg.2
      obtain ⟨x, hx, hxc, _⟩ := h.at_ hgg
      simp only [if_true]
      rw [List.getD_eq_getElem?_getD, hx]
      simp [hxc]
    · unfold gset shedS
      rw [hmb, hfd, hgl]
      have := h.goes h2 hA hg
      simp only [if_true]
      rw [List.set_append_right _ _ (Nat.le_refl _), Nat.sub_self, List.set_cons_zero]
      exact this
  · have hq := none_goes h (by omega)
    have hmb : manyB K es = false := by unfold manyB; rw [decide_eq_false (by omega)]
    have hn : l[l.length]? = none := List.getElem?_eq_none (Nat.le_refl _)
    refine ⟨l.length, fun i b hb => ?_, ?_, ?_⟩
    · have := (List.getElem?_eq_some_iff.1 hb).1
      rw [hq i b hb, decide_eq_false (by omega)]
    · unfold goneS goW
      rw [hmb, hn]
      rfl
    · unfold gset shedS
      rw [hmb, hn]
      exact h
/-- The one accepted last is there. -/
theorem Kin.last (h : Kin K l es) (hK : 0 ≤ K) {b : Bk} {n : Nat} (hl : l.length = n + 1) (hb : l[n]? = some b) : 0 < es.length ∧ (lasE es).ct = b.ct := by
  have hg : b.go = false := by
    cases hg : b.go with
    | false => rfl
    | true =>
      have := h.gk n b hb hg
      unfold kB at this
      rw [List.drop_eq_nil_of_le (by omega)] at this
      simp at this
      omega
  obtain ⟨A, C, rfl, hA⟩ := part_at hb
  obtain rfl : C = [] := by
    simp only [List.length_append, List.length_cons] at hl
    exact List.eq_nil_of_length_eq_zero (by omega)
  obtain ⟨x, hx, hxc, _⟩ := h.at_ hg
  have hlen : es.length = (kp A).length + 1 := by
    have := congrArg List.length h.mp
    rw [List.length_map, List.length_map, kp_mid hg] at this
    simpa [kp] using this
  refine ⟨by omega, ?_⟩
  have := lasE_at hlen
  rw [hx] at this
  rw [← Option.some.inj this]
  exact hxc
theorem Kin.nonempty (h : Kin K l es) (he : 0 < es.length) : 0 < l.length := by
  have := congrArg List.length h.mp
  rw [List.length_map, List.length_map] at this
  have h2 := List.length_filter_le (fun b : Bk => !b.go) l
  unfold kp at this
  omega
end
end Go.Proofs.YtjbkfppibnlmoaaDoor
