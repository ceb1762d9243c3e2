import Derived.Test.YtjbkfppibnlmoaaGreatDoorIbOpen
import Derived.Test.YtjbkfppibnlmoaaGreatDoorIbLi
import Derived.Test.YtjbkfppibnlmoaaGreatDoorIbRead
/-
  InboxKeeps: the statement's own list, beside the inbox. Of no program.
-/
namespace Go.Proofs.YtjbkfppibnlmoaaGreatDoor
open Go.RowKit

/-- What was accepted: decided, gone. -/
structure Bk where
  ct : ByteArray
  de : Bool
  go : Bool
def encK (b : Bk) : List Value := [.string b.ct, .bool b.de, .bool b.go]
theorem encK_len (b : Bk) : (encK b).length = 3 := rfl
theorem encK_one (b : Bk) : ∀ u ∈ encK b, u.oneCell' = true := fun u hu => by
  simp only [encK, List.mem_cons, List.not_mem_nil, or_false] at hu
  rcases hu with rfl | rfl | rfl <;> rfl
/-- Those that are kept. -/
def kp (l : List Bk) : List Bk := l.filter (fun b => !b.go)
def kd (b : Bk) : Bool := b.de && !b.go
/-- How many are decided behind; how many of those are kept. -/
def dcN (l : List Bk) (i : Nat) : Nat := (l.drop (i + 1)).countP (·.de)
def kB (l : List Bk) (i : Nat) : Nat := (l.drop (i + 1)).countP kd
def vE (e : Ent) : ByteArray × Bool := (e.ct, dcB e)
def vB (b : Bk) : ByteArray × Bool := (b.ct, b.de)
theorem map_erase {α β : Type} (f : α → β) : ∀ (l : List α) (i : Nat), (l.eraseIdx i).map f = (l.map f).eraseIdx i
  | [], _ => rfl
  | _ :: _, 0 => rfl
  | x :: r, i + 1 => by rw [List.eraseIdx_cons_succ, List.map_cons, map_erase f r i, List.map_cons, List.eraseIdx_cons_succ]
structure Kin (K : Int) (l : List Bk) (es : List Ent) : Prop where
  mp : es.map vE = (kp l).map vB
  gd : ∀ b ∈ l, b.go = true → b.de = true
  gk : ∀ (i : Nat) (b : Bk), l[i]? = some b → b.go = true → K + 1 ≤ (kB l i : Int)
theorem Kin.nil (K : Int) : Kin K [] [] := ⟨rfl, fun b hb => (by cases hb), fun i b h => (by simp at h)⟩
section
variable {K : Int} {l A C : List Bk} {es : List Ent} {b g : Bk}
theorem Kin.dc (h : Kin K l es) : l.countP kd = nDc es := by
  have h1 : nDc es = (es.map vE).countP (·.2) := by rw [List.countP_map]; rfl
  rw [h1, h.mp, List.countP_map]
  unfold kp
  rw [List.countP_filter]
  rfl
theorem Kin.op (h : Kin K l es) : l.countP (fun b => !b.de) = nOp es := by
  have h1 : nOp es = (es.map vE).countP (fun p => !p.2) := by
    rw [List.countP_map]
    unfold nOp
    congr 1
    funext e
    simp [opB, vE, dcB]
  rw [h1, h.mp, List.countP_map]
  unfold kp
  rw [List.countP_filter]
  refine List.countP_congr fun b hb => ?_
  have := h.gd b hb
  simp only [Function.comp, vB, Bool.not_eq_true', Bool.and_eq_true]
  constructor
  · intro hd
    refine ⟨hd, ?_⟩
    cases hg : b.go with
    | false => rfl
    | true => rw [this hg] at hd; cases hd
  · exact fun hd => hd.1
theorem kB_mid_lt {i : Nat} (hi : i < A.length) : kB (A ++ b :: C) i = (A.drop (i + 1)).countP kd + (if kd b = true then 1 else 0) + C.countP kd := by
  unfold kB
  rw [List.drop_append_of_le_length (by omega), List.countP_append, List.countP_cons]
  omega
theorem kB_mid_ge {i : Nat} (hi : A.length ≤ i) : kB (A ++ b :: C) i = (C.drop (i - A.length)).countP kd := by
  unfold kB
  rw [List.drop_append, List.drop_eq_nil_of_le (by omega), List.nil_append, show i + 1 - A.length = (i - A.length) + 1 by omega, List.drop_succ_cons]
theorem kB_le {i j : Nat} (h : i ≤ j) : kB l j ≤ kB l i := by
  unfold kB
  exact List.Sublist.countP_le (List.drop_sublist_drop_left l (by omega))
/-- Of a kept decided one: fewer kept decided ones stand behind than there are. -/
theorem kB_lt {i : Nat} (hb : l[i]? = some b) (hk : kd b = true) : kB l i + 1 ≤ l.countP kd := by
  obtain ⟨hi, rfl⟩ := List.getElem?_eq_some_iff.1 hb
  have e1 : l = l.take i ++ (l[i] :: l.drop (i + 1)) := by rw [List.getElem_cons_drop, List.take_append_drop]
  conv => rhs; rw [e1, List.countP_append, List.countP_cons, if_pos hk]
  unfold kB
  omega
theorem still_of (h : Kin K l es) {i : Nat} (hi : (kB l i : Int) ≤ K) : ¬ K < (dcN l i : Int) := by
  by_cases hg : ∃ b ∈ l.drop (i + 1), b.go = true
  · obtain ⟨b, hb, hgo⟩ := hg
    obtain ⟨j, hj, rfl⟩ := List.getElem_of_mem hb
    have hx : l[i + 1 + j]? = some (l.drop (i + 1))[j] := by
      rw [← List.getElem?_drop, List.getElem?_eq_getElem hj]
    have := h.gk _ _ hx hgo
    have h2 := kB_le (l := l) (i := i) (j := i + 1 + j) (by omega)
    omega
  · have e : dcN l i = kB l i := by
      unfold dcN kB
      refine List.countP_congr fun b hb => ?_
      have : b.go = false := by
        cases hgo : b.go with
        | false => rfl
        | true => exact absurd ⟨b, hb, hgo⟩ hg
      simp [kd, this]
    omega
def gc (K : Int) (l : List Bk) (i : Nat) (b : Bk) : Bool := b.de && !b.go && decide (K < (dcN l i : Int))
/-- Nobody goes. -/
theorem none_goes (h : Kin K l es) (hm : (nDc es : Int) ≤ K + 1) (i : Nat) (b : Bk) (hb : l[i]? = some b) : gc K l i b = false := by
  unfold gc
  cases hk : kd b with
  | false => unfold kd at hk; rw [hk]; rfl
  | true =>
    have h1 := kB_lt hb hk
    have h2 := h.dc
    rw [decide_eq_false (still_of h (by omega))]
    simp
/-- Just the first decided one goes. -/
theorem first_goes (h : Kin K (A ++ g :: C) es) (hm : (nDc es : Int) = K + 2) (hA : ∀ a ∈ A, kd a = false) (hg : kd g = true) (i : Nat) (b : Bk) (hb : (A ++ g :: C)[i]? = some b) : gc K (A ++ g :: C) i b = decide (i = A.length) := by
  have hdc := h.dc
  have hA0 : A.countP kd = 0 := by
    rw [List.countP_eq_zero]
    intro a ha
    rw [hA a ha]
    decide
  rw [List.countP_append, List.countP_cons, if_pos hg, hA0] at hdc
  unfold gc
  cases hk : kd b with
  | false =>
    have hi : i ≠ A.length := fun e => by
      rw [e, List.getElem?_append_right (Nat.le_refl _), Nat.sub_self] at hb
      simp only [List.getElem?_cons_zero, Option.some.injEq] at hb
      rw [← hb, hg] at hk
      cases hk
    unfold kd at hk
    rw [hk, decide_eq_false hi]
    rfl
  | true =>
    have hk' := hk
    unfold kd at hk'
    rw [hk', Bool.true_and]
    by_cases hi : i = A.length
    · have h1 : kB (A ++ g :: C) i = C.countP kd := by rw [kB_mid_ge (by omega), hi, Nat.sub_self, List.drop_zero]
      have h2 : kB (A ++ g :: C) i ≤ dcN (A ++ g :: C) i := by
        unfold kB dcN
        refine List.countP_mono_left fun x _ hx => ?_
        unfold kd at hx
        simp only [Bool.and_eq_true] at hx
        exact hx.1
      rw [decide_eq_true hi, decide_eq_true (by omega)]
    · have hil : A.length ≤ i := by
        rcases Nat.lt_or_ge i A.length with g1 | g1
        · rw [List.getElem?_append_left g1] at hb
          rw [hA b (List.mem_of_getElem? hb)] at hk
          cases hk
        · exact g1
      obtain ⟨j, rfl⟩ : ∃ j, i = A.length + 1 + j := ⟨i - A.length - 1, by omega⟩
      have hbC : C[j]? = some b := by
        rw [List.getElem?_append_right (by omega), show A.length + 1 + j - A.length = j + 1 by omega, List.getElem?_cons_succ] at hb
        exact hb
      have h1 : kB (A ++ g :: C) (A.length + 1 + j) = kB C j := by
        rw [kB_mid_ge (by omega), show A.length + 1 + j - A.length = j + 1 by omega]
        rfl
      have h3 := kB_lt hbC hk
      rw [decide_eq_false hi, decide_eq_false (still_of h (by omega))]
theorem kp_mid (hg : b.go = false) : kp (A ++ b :: C) = kp A ++ b :: kp C := by
  unfold kp
  rw [List.filter_append, List.filter_cons_of_pos (by rw [hg]; rfl)]
theorem kp_gone (hg : b.go = true) : kp (A ++ b :: C) = kp A ++ kp C := by
  unfold kp
  rw [List.filter_append, List.filter_cons_of_neg (by rw [hg]; decide)]
/-- One of the list stands in the inbox. -/
theorem Kin.at_ (h : Kin K (A ++ b :: C) es) (hg : b.go = false) : ∃ x, es[(kp A).length]? = some x ∧ x.ct = b.ct ∧ dcB x = b.de := by
  have h1 := h.mp
  rw [kp_mid hg, List.map_append, List.map_cons] at h1
  have h2 : (es.map vE)[(kp A).length]? = some (vB b) := by
    rw [h1, List.getElem?_append_right (by simp), List.length_map, Nat.sub_self]
    rfl
  rw [List.getElem?_map] at h2
  obtain ⟨x, hx, he⟩ := Option.map_eq_some_iff.1 h2
  simp only [vE, vB, Prod.mk.injEq] at he
  exact ⟨x, hx, he.1, he.2⟩
/-- An open one is decided. -/
theorem Kin.dcd (h : Kin K (A ++ b :: C) es) (hd : b.de = false) {y : Ent} (hy : y.ct = b.ct) (hyd : dcB y = true) : Kin K (A ++ { b with de := true } :: C) (es.set (kp A).length y) := by
  have hg : b.go = false := by
    cases hg : b.go with
    | false => rfl
    | true => have := h.gd b (by simp) hg; rw [hd] at this; cases this
  refine ⟨?_, fun x hx hgo => ?_, fun i x hx hgo => ?_⟩
  · rw [kp_mid (b := { b with de := true }) hg, List.map_set, h.mp, kp_mid hg, List.map_append, List.map_cons, List.map_append, List.map_cons, List.set_append_right _ _ (by simp), List.length_map, Nat.sub_self, List.set_cons_zero]
    congr 2
    simp [vE, vB, hy, hyd]
  · rcases List.mem_append.1 hx with g1 | g1
    · exact h.gd x (List.mem_append_left _ g1) hgo
    · rcases List.mem_cons.1 g1 with rfl | g1
      · rfl
      · exact h.gd x (List.mem_append_right _ (List.mem_cons_of_mem _ g1)) hgo
  · have hkb : kB (A ++ b :: C) i ≤ kB (A ++ { b with de := true } :: C) i := by
      rcases Nat.lt_or_ge i A.length with g1 | g1
      · rw [kB_mid_lt g1, kB_mid_lt g1, show kd b = false by unfold kd; rw [hd]; rfl]
        simp
      · rw [kB_mid_ge g1, kB_mid_ge g1]
        exact Nat.le_refl _
    have hxo : (A ++ b :: C)[i]? = some x := by
      by_cases hi : i = A.length
      · rw [hi, List.getElem?_append_right (Nat.le_refl _), Nat.sub_self] at hx
        simp only [List.getElem?_cons_zero, Option.some.injEq] at hx
        rw [← hx] at hgo
        simp only at hgo
        rw [hg] at hgo
        cases hgo
      · rcases Nat.lt_or_ge i A.length with g1 | g1
        · rw [List.getElem?_append_left g1] at hx ⊢
          exact hx
        · obtain ⟨j, rfl⟩ : ∃ j, i = A.length + 1 + j := ⟨i - A.length - 1, by omega⟩
          rw [List.getElem?_append_right (by omega), show A.length + 1 + j - A.length = j + 1 by omega, List.getElem?_cons_succ] at hx ⊢
          exact hx
    have := h.gk i x hxo hgo
    omega
/-- The first decided one goes. -/
theorem Kin.goes (h : Kin K (A ++ g :: C) es) (hm : (nDc es : Int) = K + 2) (hA : ∀ a ∈ A, kd a = false) (hg : kd g = true) : Kin K (A ++ { g with go := true } :: C) (es.eraseIdx (kp A).length) := by
  have hgg : g.go = false ∧ g.de = true := by
    unfold kd at hg
    simp only [Bool.and_eq_true, Bool.not_eq_true'] at hg
    exact ⟨hg.2, hg.1⟩
  have hdc := h.dc
  have hA0 : A.countP kd = 0 := by
    rw [List.countP_eq_zero]
    intro a ha
    rw [hA a ha]
    decide
  rw [List.countP_append, List.countP_cons, if_pos hg, hA0] at hdc
  refine ⟨?_, fun x hx hgo => ?_, fun i x hx hgo => ?_⟩
  · rw [kp_gone (b := { g with go := true }) rfl, map_erase, h.mp, kp_mid hgg.1, List.map_append, List.map_cons, List.eraseIdx_append_of_length_le (by simp), List.length_map, Nat.sub_self, List.eraseIdx_cons_zero, List.map_append]
  · rcases List.mem_append.1 hx with g1 | g1
    · exact h.gd x (List.mem_append_left _ g1) hgo
    · rcases List.mem_cons.1 g1 with rfl | g1
      · exact hgg.2
      · exact h.gd x (List.mem_append_right _ (List.mem_cons_of_mem _ g1)) hgo
  · rcases Nat.lt_or_ge i A.length with g1 | g1
    · rw [kB_mid_lt g1]
      omega
    · by_cases hi : i = A.length
      · rw [kB_mid_ge g1, hi, Nat.sub_self, List.drop_zero]
        omega
      · obtain ⟨j, rfl⟩ : ∃ j, i = A.length + 1 + j := ⟨i - A.length - 1, by omega⟩
        have hxo : (A ++ g :: C)[A.length + 1 + j]? = some x := by
          rw [List.getElem?_append_right (by omega), show A.length + 1 + j - A.length = j + 1 by omega, List.getElem?_cons_succ] at hx ⊢
          exact hx
        have := h.gk _ x hxo hgo
        rw [kB_mid_ge g1] at this ⊢
        exact this
/-- One more is accepted. -/
theorem Kin.snoc (h : Kin K l es) {e : Ent} (hd : dcB e = false) : Kin K (l ++ [⟨e.ct, false, false⟩]) (es ++ [e]) := by
  refine ⟨?_, fun x hx hgo => ?_, fun i x hx hgo => ?_⟩
  · unfold kp
    rw [List.filter_append, List.map_append, List.map_append, h.mp]
    congr 1
    simp [vE, vB, hd]
  · rcases List.mem_append.1 hx with g1 | g1
    · exact h.gd x g1 hgo
    · obtain rfl : x = ⟨e.ct, false, false⟩ := by simpa using g1
      cases hgo
  · rcases Nat.lt_or_ge i l.length with g1 | g1
    · rw [List.getElem?_append_left g1] at hx
      have := h.gk i x hx hgo
      unfold kB at this ⊢
      rw [List.drop_append_of_le_length (by omega), List.countP_append]
      omega
    · have hil := (List.getElem?_eq_some_iff.1 hx).1
      simp only [List.length_append, List.length_singleton] at hil
      obtain rfl : i = l.length := by omega
      rw [List.getElem?_append_right (Nat.le_refl _), Nat.sub_self] at hx
      simp only [List.getElem?_cons_zero, Option.some.injEq] at hx
      rw [← hx] at hgo
      cases hgo
/-- The first decided one in the list is the first decided one in the inbox. -/
theorem Kin.fd (h : Kin K (A ++ g :: C) es) (hA : ∀ a ∈ A, kd a = false) (hg : kd g = true) : fdS es = some (kp A).length := by
  have hgg : g.go = false ∧ g.de = true := by
    unfold kd at hg
    simp only [Bool.and_eq_true, Bool.not_eq_true'] at hg
    exact ⟨hg.2, hg.1⟩
  have e1 : fdS es = (es.map vE).findIdx? (·.2) := by rw [List.findIdx?_map]; rfl
  rw [e1, h.mp, kp_mid hgg.1, List.map_append, List.map_cons, List.findIdx?_append]
  have e2 : ((kp A).map vB).findIdx? (·.2) = none := by
    rw [List.findIdx?_eq_none_iff]
    intro p hp
    obtain ⟨a, ha, rfl⟩ := List.mem_map.1 hp
    unfold kp at ha
    obtain ⟨h1, h2⟩ := List.mem_filter.1 ha
    have := hA a h1
    unfold kd at this
    simp only [Bool.not_eq_true'] at h2
    rw [h2] at this
    simpa [vB] using this
  rw [e2, List.findIdx?_cons]
  simp [vB, hgg.2]
/-- A list with kept decided ones, parted at the first. -/
theorem part_first (h : 0 < l.countP kd) : ∃ A g C, l = A ++ g :: C ∧ (∀ a ∈ A, kd a = false) ∧ kd g = true := by
  induction l with
  | nil => simp at h
  | cons b r ih =>
    cases hb : kd b with
    | true => exact ⟨[], b, r, rfl, fun a ha => (by cases ha), hb⟩
    | false =>
      rw [List.countP_cons, hb] at h
      obtain ⟨A, g, C, e, h1, h2⟩ := ih (by simpa using h)
      refine ⟨b :: A, g, C, by rw [e]; rfl, fun a ha => ?_, h2⟩
      rcases List.mem_cons.1 ha with rfl | ha
      · exact hb
      · exact h1 a ha
theorem part_at {k : Nat} (hb : l[k]? = some b) : ∃ A C, l = A ++ b :: C ∧ A.length = k := by
  obtain ⟨hk, rfl⟩ := List.getElem?_eq_some_iff.1 hb
  exact ⟨l.take k, l.drop (k + 1), by rw [List.getElem_cons_drop, List.take_append_drop], by rw [List.length_take]; omega⟩
/-- What goes does to the list. -/
def gset (l : List Bk) (f : Nat) : List Bk := match l[f]? with | some b => l.set f { b with go := true } | none => l
def goW (l : List Bk) (f : Nat) : List ByteArray := match l[f]? with | some b => [b.ct] | none => []
/-- Behind a Decide or an Accept: who goes, by both. -/
theorem Kin.step (h : Kin K l es) (hK : 0 ≤ K) (hm : (nDc es : Int) ≤ K + 2) : ∃ f, (∀ i b, l[i]? = some b → gc K l i b = decide (i = f)) ∧ goneS K es = goW l f ∧ Kin K (gset l f) (shedS K es) := by
  by_cases h2 : (nDc es : Int) = K + 2
  · obtain ⟨A, g, C, rfl, hA, hg⟩ := part_first (l := l) (by rw [h.dc]; omega)
    have hgl : (A ++ g :: C)[A.length]? = some g := by simp
    have hfd := h.fd hA hg
    have hmb : manyB K es = true := by unfold manyB; rw [decide_eq_true (by omega)]
    refine ⟨A.length, first_goes h h2 hA hg, ?_, ?_⟩
    · unfold goneS goW
      rw [hmb, hfd, hgl]
      have hgg : g.go = false := by
        unfold kd at hg
        simp only [Bool.and_eq_true, Bool.not_eq_true'] at hg
        exact hg.2
      obtain ⟨x, hx, hxc, _⟩ := h.at_ hgg
      simp only [if_true]
      rw [List.getD_eq_getElem?_getD, hx]
      simp [hxc]
    · unfold gset shedS
      rw [hmb, hfd, hgl]
      have := h.goes h2 hA hg
      simp only [if_true]
      rw [List.set_append_right _ _ (Nat.le_refl _), Nat.sub_self, List.set_cons_zero]
      exact this
  · have hq := none_goes h (by omega)
    have hmb : manyB K es = false := by unfold manyB; rw [decide_eq_false (by omega)]
    have hn : l[l.length]? = none := List.getElem?_eq_none (Nat.le_refl _)
    refine ⟨l.length, fun i b hb => ?_, ?_, ?_⟩
    · have := (List.getElem?_eq_some_iff.1 hb).1
      rw [hq i b hb, decide_eq_false (by omega)]
    · unfold goneS goW
      rw [hmb, hn]
      rfl
    · unfold gset shedS
      rw [hmb, hn]
      exact h
/-- The one accepted last is there. -/
theorem Kin.last (h : Kin K l es) (hK : 0 ≤ K) {b : Bk} {n : Nat} (hl : l.length = n + 1) (hb : l[n]? = some b) : 0 < es.length ∧ (lasE es).ct = b.ct := by
  have hg : b.go = false := by
    cases hg : b.go with
    | false => rfl
    | true =>
      have := h.gk n b hb hg
      unfold kB at this
      rw [List.drop_eq_nil_of_le (by omega)] at this
      simp at this
      omega
  obtain ⟨A, C, rfl, hA⟩ := part_at hb
  obtain rfl : C = [] := by
    simp only [List.length_append, List.length_cons] at hl
    exact List.eq_nil_of_length_eq_zero (by omega)
  obtain ⟨x, hx, hxc, _⟩ := h.at_ hg
  have hlen : es.length = (kp A).length + 1 := by
    have := congrArg List.length h.mp
    rw [List.length_map, List.length_map, kp_mid hg] at this
    simpa [kp] using this
  refine ⟨by omega, ?_⟩
  have := lasE_at hlen
  rw [hx] at this
  rw [← Option.some.inj this]
  exact hxc
theorem Kin.nonempty (h : Kin K l es) (he : 0 < es.length) : 0 < l.length := by
  have := congrArg List.length h.mp
  rw [List.length_map, List.length_map] at this
  have h2 := List.length_filter_le (fun b : Bk => !b.go) l
  unfold kp at this
  omega
end
end Go.Proofs.YtjbkfppibnlmoaaGreatDoor

/-
  InboxKeeps: the statement's own calls: MayBe, open, known, goes, there.
-/
namespace Go.Proofs.YtjbkfppibnlmoaaGreatDoor
open Go.RowKit

set_option maxHeartbeats 1000000 in
theorem rVerdict_any (s : ByteArray) (w : World) : Calls Tryz.prog 75 #[.string s] w fun e w' => e = .returned (.bool (vdB s)) ∧ w' = w := by
  cases h1 : (s.toList == [65, 65]) <;> cases h2 : (s.toList == [65, 69]) <;> cases h3 : (s.toList == [65, 82])
  all_goals
    go_enter Tryz.func75, Tryz.ntmps75
    go_wp2
    go_ret
    exact ⟨ret_bool (by simp [vdB, h1, h2, h3]), rfl⟩
def encI (i : Nat) : List Value := [.int .i64 (i : Int)]
theorem encI_len (i : Nat) : (encI i).length = 1 := rfl
theorem encI_one (i : Nat) : ∀ u ∈ encI i, u.oneCell' = true := fun u hu => by
  simp only [encI, List.mem_cons, List.not_mem_nil, or_false] at hu; rw [hu]; rfl
theorem celI : Cel Tryz.prog 3 1 8 := cel_of (by kernel_rfl)
abbrev IRow (w : World) (B : Nat) (v : Value) (l : List Nat) : Prop := ERow w B 3 1 encI v l
/-- The numbers of the open ones. -/
def opN (l : List Bk) : List Nat := (l.zipIdx.filter (fun p => !p.1.de)).map (·.2)
theorem opN_snoc (l : List Bk) (b : Bk) : opN (l ++ [b]) = opN l ++ (if b.de = true then [] else [l.length]) := by
  unfold opN
  rw [List.zipIdx_append, List.filter_append, List.map_append]
  congr 1
  cases hb : b.de <;> simp [hb]
theorem opN_len (l : List Bk) : (opN l).length = l.countP (fun b => !b.de) := by
  unfold opN
  rw [List.length_map, ← List.countP_eq_length_filter]
  have : l.countP (fun b => !b.de) = (l.zipIdx.map Prod.fst).countP (fun b => !b.de) := by rw [List.zipIdx_map_fst]
  rw [this, List.countP_map]
  rfl
theorem opN_at {l : List Bk} {j k : Nat} (h : (opN l)[j]? = some k) : ∃ b, l[k]? = some b ∧ b.de = false := by
  have hm := List.mem_of_getElem? h
  unfold opN at hm
  obtain ⟨p, hp, rfl⟩ := List.mem_map.1 hm
  obtain ⟨h1, h2⟩ := List.mem_filter.1 hp
  obtain ⟨b, i⟩ := p
  rw [List.mem_zipIdx_iff_getElem?] at h1
  exact ⟨b, h1, by simpa using h2⟩
theorem take_snoc {α : Type} {l : List α} {i : Nat} {x : α} (hx : l[i]? = some x) : l.take (i + 1) = l.take i ++ [x] := by
  obtain ⟨hi, rfl⟩ := List.getElem?_eq_some_iff.1 hx
  exact List.take_succ_eq_append_getElem hi
section
variable {w : World} {B n c : Nat} {a : Option Addr} {l : List Bk}
def knB (s : ByteArray) (b : Bk) : Bool := (b.ct.toList == s.toList) && !b.go
end
end Go.Proofs.YtjbkfppibnlmoaaGreatDoor

/-
  InboxKeeps: there; the document's MayBe.
-/
namespace Go.Proofs.YtjbkfppibnlmoaaGreatDoor
open Go.RowKit

section
variable {W w : World} {b sb M : Nat} {K R : Int} {es : List Ent} {B n c : Nat} {a : Option Addr} {l : List Bk}
end
set_option maxRecDepth 100000 in
set_option maxHeartbeats 4000000 in
theorem rControl_any (s : ByteArray) (w : World) : Calls Tryz.prog 74 #[.string s] w fun e w' => e = .returned (.bool (ctB s)) ∧ w' = w := by
  by_cases h0 : s.size < 1
  · have e0 : ctB s = false := by unfold ctB; rw [decide_eq_false (by omega)]; rfl
    rw [e0]
    have h2 : (s.size : Int) < 1 := by omega
    go_enter Tryz.func74, Tryz.ntmps74
    go_wp2
    go_ret
    exact ⟨rfl, rfl⟩
  by_cases h18 : 18 < s.size
  · have e0 : ctB s = false := by unfold ctB; rw [decide_eq_false (show ¬ s.size ≤ 18 by omega)]; simp
    rw [e0]
    have h2 : ¬ (s.size : Int) < 1 := by omega
    have h3 : (s.size : Int) > 18 := by omega
    go_enter Tryz.func74, Tryz.ntmps74
    go_wp2
    go_ret
    exact ⟨rfl, rfl⟩
  have h2 : ¬ (s.size : Int) < 1 := by omega
  have h3 : ¬ (s.size : Int) > 18 := by omega
  have HE : Hid (ctB s = s.data.toList.all (fun c => cbB (c.toNat : Int))) := by
    unfold ctB; rw [decide_eq_true (show 1 ≤ s.size by omega), decide_eq_true (show s.size ≤ 18 by omega)]; rfl
  have HL : Hid (s.data.toList.length = s.size) := rfl
  go_enter Tryz.func74, Tryz.ntmps74
  go_wp2_with fail
  go_loopw [3] (fun t wx => ∃ i : Nat, i ≤ s.size ∧ t = .int .i64 i ∧ wx = w ∧ Hid ((s.data.toList.take i).all (fun c => cbB (c.toNat : Int)) = true)) (fun t _ => s.size - (intOf t).toNat)
  case atStart => exact ⟨0, Nat.zero_le _, rfl, rfl, rfl⟩
  case round =>
    obtain ⟨i, hi, rfl, rfl, HA⟩ := hrel
    by_cases hlt : i < s.size
    · have hlt1 : (i : Int) < s.size := by omega
      have hx : s.data.toList[i]? = some s[i] := by rw [Array.getElem?_toList]; exact Array.getElem?_eq_getElem hlt
      have HT : Hid (cbB (s[i].toNat : Int) = true → (s.data.toList.take (i + 1)).all (fun c => cbB (c.toNat : Int)) = true) := fun h => by
        rw [take_snoc hx, List.all_append, HA.out]
        simp [h]
      have HF : Hid (cbB (s[i].toNat : Int) = false → ctB s = false) := fun h => by
        rw [HE.out, List.all_eq_false]
        exact ⟨s[i], List.mem_of_getElem? hx, by rw [h]; decide⟩
      obtain ⟨c, hc⟩ : ∃ c : Int, (s[i].toNat : Int) = c := ⟨_, rfl⟩
      rw [hc] at HT HF
      clear hx
      go_wp2_with fail
      all_goals (try simp only [Bool.not_eq_false', Bool.not_eq_true', decide_eq_true_eq, decide_eq_false_iff_not, bne_eq_false_iff_eq, bne_iff_ne, ne_eq] at *)
      all_goals first
        | (go_ret; refine ⟨ret_bool (HF.out ?_).symm, rfl⟩; unfold cbB; rw [Bool.eq_iff_iff]; simp; try (first | omega | (intros; omega)))
        | (go_roundw
           case rel =>
             refine ⟨i + 1, hlt, by go_num, by trivial, HT.out ?_⟩
             unfold cbB
             rw [Bool.eq_iff_iff]
             simp
             try (first | omega | (intros; omega))
           case measure => (simp [intOf]; try omega))
    · have hlt1 : ¬ (i : Int) < s.size := by omega
      have HH : Hid (ctB s = true) := by
        unfold Hid
        rw [HE.out, ← HA.out, List.take_of_length_le (by rw [HL.out]; omega)]
      go_wp2_with fail
      go_ret
      exact ⟨ret_bool HH.out.symm, rfl⟩
end Go.Proofs.YtjbkfppibnlmoaaGreatDoor

/-
  InboxKeeps: the document's MayBe.
-/
namespace Go.Proofs.YtjbkfppibnlmoaaGreatDoor
open Go.RowKit

set_option maxRecDepth 100000 in
set_option maxHeartbeats 4000000 in
theorem rMayBe_any (e : Ent) (w : World) : Calls Tryz.prog 46 #[.agg #[.string e.ct, .slice e.tp e.tn e.tc, .int .i64 e.nu, .int .i64 e.tk, .slice e.cp e.cn e.cc, .string e.cd, .slice e.ap e.an e.ac]] w fun r w' => r = .returned (.bool (mayB e)) ∧ Below w.heap.size w w' := by
  have bv : Below w.heap.size w (w.alloc (.cells #[.string e.ct, .slice e.tp e.tn e.tc, .int .i64 e.nu, .int .i64 e.tk, .slice e.cp e.cn e.cc, .string e.cd, .slice e.ap e.an e.ac] 30)) := (Below.refl _ _).alloc (Nat.le_refl _) _
  have bx := Box.new w #[.string e.ct, .slice e.tp e.tn e.tc, .int .i64 e.nu, .int .i64 e.tk, .slice e.cp e.cn e.cc, .string e.cd, .slice e.ap e.an e.ac] 30
  obtain ⟨V, hV⟩ : ∃ V, w.alloc (.cells #[.string e.ct, .slice e.tp e.tn e.tc, .int .i64 e.nu, .int .i64 e.tk, .slice e.cp e.cn e.cc, .string e.cd, .slice e.ap e.an e.ac] 30) = V := ⟨_, rfl⟩
  rw [hV] at bv bx
  have HB : Hid (Below w.heap.size w V) := bv
  have hct := rControl_any e.ct V
  have hvd := rVerdict_any e.cd V
  have cx := bx.cell
  clear bv bx
  cases h0 : ctB e.ct with
  | false =>
    have HE : Hid (mayB e = false) := mayB_no (i := 0) (by decide) h0
    rw [h0] at hct
    clear h0 hvd
    go_enter Tryz.func46, Tryz.ntmps46
    go_wp2_with (go_at_call 74; refine hct.mono ?_; rintro _ w9 ⟨rfl, h9⟩; subst w9)
    go_ret
    exact ⟨ret_bool HE.out.symm, HB.out⟩
  | true =>
    rw [h0] at hct
    have H0 : Hid (ctB e.ct = true) := h0
    clear h0
    by_cases h1 : ruB e 1 = true ∧ ruB e 2 = true ∧ ruB e 3 = true ∧ ruB e 4 = true ∧ ruB e 5 = true
    · obtain ⟨h1, h2, h3, h4, h5⟩ := h1
      simp only [ruB, Bool.and_eq_true, decide_eq_true_eq] at h1 h2 h3 h4 h5
      have g1 : ¬ (e.tn : Int) < 1 := by omega
      have g2 : ¬ (e.tn : Int) > 8192 := by omega
      have g3 : ¬ e.nu < 0 := by omega
      have g4 : ¬ e.nu > 2147483647 := by omega
      have g5 : ¬ e.tk < 0 := by omega
      have g6 : ¬ e.tk > 1099511627776 := by omega
      have g7 : ¬ (e.cn : Int) > 2048 := by omega
      have g8 : ¬ (e.an : Int) > 2048 := by omega
      have HM : Hid (mayB e = (ruB e 6 && ruB e 7)) := by
        unfold Hid mayB
        rw [show ruB e 0 = true from H0.out, show ruB e 1 = true by simp [ruB]; omega, show ruB e 2 = true by simp [ruB]; omega, show ruB e 3 = true by simp [ruB]; omega, show ruB e 4 = true by simp [ruB]; omega, show ruB e 5 = true by simp [ruB]; omega]
        rfl
      cases h6 : e.cd.toList.isEmpty with
      | true =>
        have HE : Hid (mayB e = decide (e.an = 0)) := by unfold Hid; rw [HM.out]; simp [ruB, h6]
        clear h1 h2 h3 h4 h5 hvd HM
        by_cases h7 : e.an = 0
        · have q7 : ((e.an : Int) == 0) = true := by rw [h7]; rfl
          have HE2 : Hid (mayB e = true) := by unfold Hid; rw [HE.out, decide_eq_true h7]
          clear h7 HE
          go_enter Tryz.func46, Tryz.ntmps46
          go_wp2_with (go_at_call 74; refine hct.mono ?_; rintro _ w9 ⟨rfl, h9⟩; subst w9)
          go_ret
          exact ⟨ret_bool HE2.out.symm, HB.out⟩
        · have q7 : ((e.an : Int) == 0) = false := by rw [beq_eq_false_iff_ne]; omega
          have HE2 : Hid (mayB e = false) := by unfold Hid; rw [HE.out, decide_eq_false h7]
          clear h7 HE
          go_enter Tryz.func46, Tryz.ntmps46
          go_wp2_with (go_at_call 74; refine hct.mono ?_; rintro _ w9 ⟨rfl, h9⟩; subst w9)
          go_ret
          exact ⟨ret_bool HE2.out.symm, HB.out⟩
      | false =>
        have HE : Hid (mayB e = vdB e.cd) := by unfold Hid; rw [HM.out]; simp [ruB, h6]
        clear h1 h2 h3 h4 h5 HM
        go_enter Tryz.func46, Tryz.ntmps46
        go_wp2_with (first | (go_at_call 74; refine hct.mono ?_; rintro _ w9 ⟨rfl, h9⟩; subst w9) | (go_at_call 75; refine hvd.mono ?_; rintro _ w9 ⟨rfl, h9⟩; subst w9))
        go_ret
        exact ⟨ret_bool HE.out.symm, HB.out⟩
    · have HE : Hid (mayB e = false) := by
        unfold Hid
        rw [Bool.eq_false_iff]
        intro h
        have := mayB_is h
        apply h1
        simp only [ruB, Bool.and_eq_true, decide_eq_true_eq]
        omega
      simp only [ruB, Bool.and_eq_true, decide_eq_true_eq] at h1
      clear hvd
      by_cases g1 : (e.tn : Int) < 1
      · clear h1
        go_enter Tryz.func46, Tryz.ntmps46
        go_wp2_with (go_at_call 74; refine hct.mono ?_; rintro _ w9 ⟨rfl, h9⟩; subst w9)
        go_ret
        exact ⟨ret_bool HE.out.symm, HB.out⟩
      by_cases g2 : (e.tn : Int) > 8192
      · clear h1
        go_enter Tryz.func46, Tryz.ntmps46
        go_wp2_with (go_at_call 74; refine hct.mono ?_; rintro _ w9 ⟨rfl, h9⟩; subst w9)
        go_ret
        exact ⟨ret_bool HE.out.symm, HB.out⟩
      by_cases g3 : e.nu < 0
      · clear h1
        go_enter Tryz.func46, Tryz.ntmps46
        go_wp2_with (go_at_call 74; refine hct.mono ?_; rintro _ w9 ⟨rfl, h9⟩; subst w9)
        go_ret
        exact ⟨ret_bool HE.out.symm, HB.out⟩
      by_cases g4 : e.nu > 2147483647
      · clear h1
        go_enter Tryz.func46, Tryz.ntmps46
        go_wp2_with (go_at_call 74; refine hct.mono ?_; rintro _ w9 ⟨rfl, h9⟩; subst w9)
        go_ret
        exact ⟨ret_bool HE.out.symm, HB.out⟩
      by_cases g5 : e.tk < 0
      · clear h1
        go_enter Tryz.func46, Tryz.ntmps46
        go_wp2_with (go_at_call 74; refine hct.mono ?_; rintro _ w9 ⟨rfl, h9⟩; subst w9)
        go_ret
        exact ⟨ret_bool HE.out.symm, HB.out⟩
      by_cases g6 : e.tk > 1099511627776
      · clear h1
        go_enter Tryz.func46, Tryz.ntmps46
        go_wp2_with (go_at_call 74; refine hct.mono ?_; rintro _ w9 ⟨rfl, h9⟩; subst w9)
        go_ret
        exact ⟨ret_bool HE.out.symm, HB.out⟩
      by_cases g7 : (e.cn : Int) > 2048
      · clear h1
        go_enter Tryz.func46, Tryz.ntmps46
        go_wp2_with (go_at_call 74; refine hct.mono ?_; rintro _ w9 ⟨rfl, h9⟩; subst w9)
        go_ret
        exact ⟨ret_bool HE.out.symm, HB.out⟩
      have g8 : (e.an : Int) > 2048 := by omega
      clear h1
      go_enter Tryz.func46, Tryz.ntmps46
      go_wp2_with (go_at_call 74; refine hct.mono ?_; rintro _ w9 ⟨rfl, h9⟩; subst w9)
      go_ret
      exact ⟨ret_bool HE.out.symm, HB.out⟩
end Go.Proofs.YtjbkfppibnlmoaaGreatDoor

/-
  A box where other blocks change.
-/
namespace Go.Proofs.YtjbkfppibnlmoaaGreatDoor
open Go.RowKit

section
variable {w w' : World} {B b sb M : Nat} {v : Value} {K R : Int} {es : List Ent}
/-- A block of another type is none of its blocks. -/
theorem Shf.notType (h : Shf w B sb M v K R es) {t : TypeId} (h1 : 89 ≠ t) (h2 : 30 ≠ t) {q : Nat} {cs : Array Value} {cur : Nat × Nat} (hq : w.heap[q]? = some (.cells cs t cur)) : ¬ Ft sb M v q := by
  rintro (rfl | rfl | hg)
  · rw [h.blk] at hq
    simp only [Option.some.injEq, Obj.cells.injEq] at hq
    exact h1 hq.2.1
  · obtain ⟨es', clock, hm⟩ := h.map.isMap
    rw [hm] at hq
    simp at hq
  · obtain ⟨cs', b1⟩ := row_type h.row hg
    rw [b1] at hq
    simp only [Option.some.injEq, Obj.cells.injEq] at hq
    exact h2 hq.2.1
theorem Bx.off {P : Nat → Prop} (h : Bx w B b sb M v K R es) (o : Off P w w') (hb : ¬ P b) (hF : ∀ q, Ft sb M v q → ¬ P q) (hy : ∀ q cs, w.heap[q]? = some (.cells cs 5 (0, 0)) → ¬ P q) : Bx w' B b sb M v K R es :=
  ⟨(o.block b h.lt hb).trans h.blk, h.sh.off o hF, fun e he => (h.own e he).byType o hy, h.lb, h.ls, h.lm, h.inv⟩
end
end Go.Proofs.YtjbkfppibnlmoaaGreatDoor
