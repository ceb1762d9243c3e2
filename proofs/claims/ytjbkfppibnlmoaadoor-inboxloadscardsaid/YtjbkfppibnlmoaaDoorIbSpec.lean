/-
  inbox as plain data: entries, what is refused, what is done. Of no program.
-/
import Derived.Test.YtjbkfppibnlmoaaDoorIbBase
namespace Go.Proofs.YtjbkfppibnlmoaaDoor
open Go.RowKit

/-- An entry as it stands; each of its lists: where it lies (p, n, c), its bytes (x). -/
structure Ent where
  ct : ByteArray
  tp : Option Addr
  tn : Nat
  tc : Nat
  tx : List Int
  nu : Int
  tk : Int
  cp : Option Addr
  cn : Nat
  cc : Nat
  cx : List Int
  cd : ByteArray
  ap : Option Addr
  an : Nat
  ac : Nat
  ax : List Int
def zE : Ent := ⟨⟨#[]⟩, none, 0, 0, [], 0, 0, none, 0, 0, [], ⟨#[]⟩, none, 0, 0, []⟩
def encE (e : Ent) : List Value := [.string e.ct, .slice e.tp e.tn e.tc, .int .i64 e.nu, .int .i64 e.tk, .slice e.cp e.cn e.cc, .string e.cd, .slice e.ap e.an e.ac]
theorem encE_len (e : Ent) : (encE e).length = 7 := rfl
theorem encE_one (e : Ent) : ∀ u ∈ encE e, u.oneCell' = true := fun u hu => by
  simp only [encE, List.mem_cons, List.not_mem_nil, or_false] at hu
  rcases hu with rfl | rfl | rfl | rfl | rfl | rfl | rfl <;> rfl
/-- An entry with its lists elsewhere. -/
abbrev Ent.wi (e : Ent) (a : Option Addr) (c : Nat) (a' : Option Addr) (c' : Nat) (a'' : Option Addr) (c'' : Nat) : Ent := { e with tp := a, tc := c, cp := a', cc := c', ap := a'', ac := c'' }
/-- Open: without a code. -/
def opB (e : Ent) : Bool := e.cd.toList.isEmpty
def dcB (e : Ent) : Bool := !e.cd.toList.isEmpty
def vdB (s : ByteArray) : Bool := s.toList == [65, 65] || s.toList == [65, 69] || s.toList == [65, 82]
def cbB (c : Int) : Bool := (decide (48 ≤ c) && decide (c ≤ 57)) || (decide (65 ≤ c) && decide (c ≤ 90)) || (decide (97 ≤ c) && decide (c ≤ 122)) || decide (c = 46) || decide (c = 45)
def ctB (s : ByteArray) : Bool := decide (1 ≤ s.size) && decide (s.size ≤ 18) && s.data.toList.all (fun c => cbB (c.toNat : Int))
/-- The i-th rule. -/
def ruB (e : Ent) : Nat → Bool
  | 0 => ctB e.ct
  | 1 => decide (1 ≤ e.tn) && decide (e.tn ≤ 8192)
  | 2 => decide (0 ≤ e.nu) && decide (e.nu ≤ 2147483647)
  | 3 => decide (0 ≤ e.tk) && decide (e.tk ≤ 1099511627776)
  | 4 => decide (e.cn ≤ 2048)
  | 5 => decide (e.an ≤ 2048)
  | 6 => e.cd.toList.isEmpty || vdB e.cd
  | _ => !e.cd.toList.isEmpty || decide (e.an = 0)
def mayB (e : Ent) : Bool := ruB e 0 && ruB e 1 && ruB e 2 && ruB e 3 && ruB e 4 && ruB e 5 && ruB e 6 && ruB e 7
theorem mayB_all {e : Ent} (h : ∀ i, i < 8 → ruB e i = true) : mayB e = true := by
  unfold mayB
  rw [h 0 (by decide), h 1 (by decide), h 2 (by decide), h 3 (by decide), h 4 (by decide), h 5 (by decide), h 6 (by decide), h 7 (by decide)]; rfl
theorem mayB_no {e : Ent} {i : Nat} (hi : i < 8) (h : ruB e i = false) : mayB e = false := by
  unfold mayB
  rcases (by omega : i = 0 ∨ i = 1 ∨ i = 2 ∨ i = 3 ∨ i = 4 ∨ i = 5 ∨ i = 6 ∨ i = 7) with rfl | rfl | rfl | rfl | rfl | rfl | rfl | rfl <;> simp [h]
theorem mayB_is {e : Ent} (h : mayB e = true) : ctB e.ct = true ∧ 1 ≤ e.tn ∧ e.tn ≤ 8192 ∧ 0 ≤ e.nu ∧ e.nu ≤ 2147483647 ∧ 0 ≤ e.tk ∧ e.tk ≤ 1099511627776 ∧ e.cn ≤ 2048 ∧ e.an ≤ 2048 := by
  simp only [mayB, ruB, Bool.and_eq_true, decide_eq_true_eq] at h
  obtain ⟨⟨⟨⟨⟨⟨⟨h0, h1, h2⟩, h3, h4⟩, h5, h6⟩, h7⟩, h8⟩, _⟩, _⟩ := h
  exact ⟨h0, h1, h2, h3, h4, h5, h6, h7, h8⟩
/-- The place of the first of a control id. -/
def fi (s : ByteArray) (es : List Ent) : Option Nat := es.findIdx? (fun e => e.ct.toList == s.toList)
theorem fi_some {s : ByteArray} {es : List Ent} {i : Nat} (h : fi s es = some i) : ∃ m, es[i]? = some m ∧ (m.ct.toList == s.toList) = true ∧ ∀ j m', j < i → es[j]? = some m' → (m'.ct.toList == s.toList) = false := by
  obtain ⟨hi, h1, h2⟩ := List.findIdx?_eq_some_iff_getElem.1 h
  refine ⟨es[i], List.getElem?_eq_getElem hi, h1, fun j m' hj hm => ?_⟩
  obtain ⟨hj', rfl⟩ := List.getElem?_eq_some_iff.1 hm
  simpa using h2 j hj
theorem fi_none {s : ByteArray} {es : List Ent} (h : fi s es = none) : ∀ (j : Nat) (m' : Ent), es[j]? = some m' → (m'.ct.toList == s.toList) = false := fun j m' hm => by
  have := List.findIdx?_eq_none_iff.1 h m' (List.mem_of_getElem? hm)
  simpa using this
theorem fi_of {s : ByteArray} {es : List Ent} {i : Nat} {m : Ent} (h1 : es[i]? = some m) (h2 : (m.ct.toList == s.toList) = true) (h3 : ∀ j m', j < i → es[j]? = some m' → (m'.ct.toList == s.toList) = false) : fi s es = some i := by
  obtain ⟨hi, rfl⟩ := List.getElem?_eq_some_iff.1 h1
  refine List.findIdx?_eq_some_iff_getElem.2 ⟨hi, h2, fun j hj => ?_⟩
  have := h3 j _ hj (List.getElem?_eq_getElem (by omega))
  simpa using this
theorem fi_no {s : ByteArray} {es : List Ent} (h : ∀ (j : Nat) (m' : Ent), es[j]? = some m' → (m'.ct.toList == s.toList) = false) : fi s es = none :=
  List.findIdx?_eq_none_iff.2 fun x hx => by
    obtain ⟨j, hj, rfl⟩ := List.getElem_of_mem hx
    exact h j _ (List.getElem?_eq_getElem hj)
theorem str_of {s t : ByteArray} (h : (s.toList == t.toList) = true) : s = t := by
  rw [Lib.toList_data, Lib.toList_data] at h
  have := eq_of_beq h
  cases s; cases t
  simp only [ByteArray.mk.injEq]
  exact Array.toList_inj.1 this
theorem str_same (s : ByteArray) : (s.toList == s.toList) = true := beq_self_eq_true _
theorem str_apart {s t : ByteArray} (h : ¬ s = t) : (s.toList == t.toList) = false := by
  rw [Bool.eq_false_iff]
  exact fun e => h (str_of e)
/-- Control ids are apart. -/
def Dis (es : List Ent) : Prop := ∀ (i j : Nat) (x y : Ent), es[i]? = some x → es[j]? = some y → x.ct = y.ct → i = j
theorem Dis.fi {es : List Ent} (h : Dis es) {i : Nat} {x : Ent} (hx : es[i]? = some x) : fi x.ct es = some i :=
  fi_of hx (str_same _) fun j m' hj hm => str_apart fun e => by have := h j i m' x hm hx e; omega
theorem Dis.erase {es : List Ent} (h : Dis es) (k : Nat) : Dis (es.eraseIdx k) := fun i j x y hx hy e => by
  rw [List.getElem?_eraseIdx] at hx hy
  split at hx <;> split at hy
  · exact h i j x y hx hy e
  · have := h i (j + 1) x y hx hy e; omega
  · have := h (i + 1) j x y hx hy e; omega
  · have := h (i + 1) (j + 1) x y hx hy e; omega
theorem Dis.snoc {es : List Ent} (h : Dis es) {x : Ent} (hx : _root_.Go.Proofs.YtjbkfppibnlmoaaDoor.fi x.ct es = none) : Dis (es ++ [x]) := fun i j a b ha hb e => by
  have key : ∀ (i : Nat) (a : Ent), (es ++ [x])[i]? = some a → (i < es.length ∧ es[i]? = some a) ∨ (i = es.length ∧ a = x) := fun i a ha => by
    by_cases hi : i < es.length
    · rw [List.getElem?_append_left hi] at ha; exact Or.inl ⟨hi, ha⟩
    · have := (List.getElem?_eq_some_iff.1 ha).1
      simp only [List.length_append, List.length_singleton] at this
      obtain rfl : i = es.length := by omega
      rw [List.getElem?_append_right (Nat.le_refl _), Nat.sub_self] at ha
      simp only [List.getElem?_cons_zero, Option.some.injEq] at ha
      exact Or.inr ⟨rfl, ha.symm⟩
  rcases key i a ha with ⟨h1, h2⟩ | ⟨rfl, rfl⟩ <;> rcases key j b hb with ⟨g1, g2⟩ | ⟨rfl, rfl⟩
  · exact h i j a b h2 g2 e
  · have := fi_none hx i a h2; rw [e, str_same] at this; cases this
  · have := fi_none hx j b g2; rw [← e, str_same] at this; cases this
  · rfl
theorem Dis.set {es : List Ent} (h : Dis es) {i : Nat} {x y : Ent} (hx : es[i]? = some x) (hy : y.ct = x.ct) : Dis (es.set i y) := fun a b p q hp hq e => by
  have key : ∀ (a : Nat) (p : Ent), (es.set i y)[a]? = some p → ∃ p', es[a]? = some p' ∧ p'.ct = p.ct := fun a p hp => by
    by_cases ha : i = a
    · subst ha
      have hl := (List.getElem?_eq_some_iff.1 hx).1
      rw [List.getElem?_set_self hl] at hp
      cases hp
      exact ⟨x, hx, hy.symm⟩
    · rw [List.getElem?_set_ne ha] at hp
      exact ⟨p, hp, rfl⟩
  obtain ⟨p', h1, h2⟩ := key a p hp
  obtain ⟨q', g1, g2⟩ := key b q hq
  exact h a b p' q' h1 g1 (by rw [h2, g2]; exact e)
/-- How many are open. -/
def nOp (es : List Ent) : Nat := es.countP opB
def nDc (es : List Ent) : Nat := es.countP dcB
theorem nOp_add (es : List Ent) : nOp es + nDc es = es.length := by
  induction es with
  | nil => rfl
  | cons e r ih =>
    simp only [nOp, nDc, List.countP_cons, List.length_cons] at ih ⊢
    unfold opB dcB at *
    cases e.cd.toList.isEmpty <;> simp <;> omega
def lastT (es : List Ent) : Int := match es.getLast? with | some e => e.tk | none => 0
/-- Why an entry can't stand behind those. -/
def refS (R : Int) (es : List Ent) (e : Ent) : Int :=
  if (!mayB e || decide (e.tk < lastT es)) = true then 300 else if (fi e.ct es).isSome = true then 6 else if (opB e && decide ((nOp es : Int) = R)) = true then 7 else 0
/-- The first that is decided. -/
def fdS (es : List Ent) : Option Nat := es.findIdx? dcB
/-- What a Decide leaves behind, and who goes. -/
def manyB (K : Int) (es : List Ent) : Bool := decide ((nDc es : Int) > K + 1)
def shedS (K : Int) (es : List Ent) : List Ent := if manyB K es = true then (match fdS es with | some i => es.eraseIdx i | none => es) else es
def goneS (K : Int) (es : List Ent) : List ByteArray := if manyB K es = true then (match fdS es with | some i => [(es.getD i zE).ct] | none => []) else []
/-- The map's places while they are numbered anew: those from i on stand one too high. -/
def gI (es : List Ent) (i : Nat) (s : ByteArray) : Option Nat := match fi s es with | none => none | some j => some (if j < i then j else j + 1)
theorem gI_end (es : List Ent) : gI es es.length = fun s => fi s es := by
  funext s
  unfold gI
  cases h : fi s es with
  | none => rfl
  | some j =>
    obtain ⟨m, hm, _⟩ := fi_some h
    have := (List.getElem?_eq_some_iff.1 hm).1
    simp [this]
theorem gI_start {es : List Ent} (h : Dis es) {i : Nat} {x : Ent} (hx : es[i]? = some x) (s : ByteArray) : gI (es.eraseIdx i) i s = if s = x.ct then none else fi s es := by
  have hl := (List.getElem?_eq_some_iff.1 hx).1
  by_cases hs : s = x.ct
  · rw [if_pos hs]
    subst hs
    have : fi x.ct (es.eraseIdx i) = none := fi_no fun j m' hm => str_apart fun e => by
      rw [List.getElem?_eraseIdx] at hm
      split at hm
      · have := h j i m' x hm hx e; omega
      · have := h (j + 1) i m' x hm hx e; omega
    unfold gI
    rw [this]
  · rw [if_neg hs]
    unfold gI
    cases hf : fi s es with
    | none =>
      have : fi s (es.eraseIdx i) = none := fi_no fun j m' hm => by
        rw [List.getElem?_eraseIdx] at hm
        split at hm
        · exact fi_none hf j m' hm
        · exact fi_none hf (j + 1) m' hm
      rw [this]
    | some j =>
      obtain ⟨m, hm, he, hb⟩ := fi_some hf
      obtain rfl : m.ct = s := str_of he
      have hji : j ≠ i := fun e => by
        subst e
        rw [hm] at hx
        cases hx
        exact hs rfl
      by_cases hlt : j < i
      · have : fi m.ct (es.eraseIdx i) = some j := (h.erase i).fi (by rw [List.getElem?_eraseIdx, if_pos hlt]; exact hm)
        rw [this]
        simp [hlt]
      · obtain ⟨j', rfl⟩ : ∃ j', j = j' + 1 := ⟨j - 1, by omega⟩
        have : fi m.ct (es.eraseIdx i) = some j' := (h.erase i).fi (by rw [List.getElem?_eraseIdx, if_neg (by omega)]; exact hm)
        rw [this]
        have hn : ¬ j' < i := by omega
        simp [hn]
theorem gI_step {es : List Ent} (h : Dis es) {i : Nat} {x : Ent} (hx : es[i]? = some x) (s : ByteArray) : gI es (i + 1) s = if s = x.ct then some i else gI es i s := by
  by_cases hs : s = x.ct
  · rw [if_pos hs, hs]
    unfold gI
    rw [h.fi hx]
    simp
  · rw [if_neg hs]
    unfold gI
    cases hf : fi s es with
    | none => rfl
    | some j =>
      obtain ⟨m, hm, he, _⟩ := fi_some hf
      have hne : j ≠ i := fun e => by
        subst e
        rw [hx] at hm
        cases hm
        exact hs (str_of he).symm
      by_cases hlt : j < i
      · simp [hlt, show j < i + 1 by omega]
      · simp [hlt, show ¬ j < i + 1 by omega]
end Go.Proofs.YtjbkfppibnlmoaaDoor
