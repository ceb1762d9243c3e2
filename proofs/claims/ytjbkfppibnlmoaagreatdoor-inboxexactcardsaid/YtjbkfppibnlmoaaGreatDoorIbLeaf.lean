import Derived.Test.YtjbkfppibnlmoaaGreatDoorIbBase
import Derived.Maps.Views
/-
  inbox as plain data: entries, what is refused, what is done. Of no program.
-/
namespace Go.Proofs.YtjbkfppibnlmoaaGreatDoor
open Go.RowKit

/-- An entry as it stands; each of its lists: where it lies (p, n, c), its bytes (x). -/
structure Ent where
  ct : ByteArray
  tp : Option Addr
  tn : Nat
  tc : Nat
  tx : List Int
  nu : Int
  tk : Int
  cp : Option Addr
  cn : Nat
  cc : Nat
  cx : List Int
  cd : ByteArray
  ap : Option Addr
  an : Nat
  ac : Nat
  ax : List Int
def zE : Ent := ⟨⟨#[]⟩, none, 0, 0, [], 0, 0, none, 0, 0, [], ⟨#[]⟩, none, 0, 0, []⟩
def encE (e : Ent) : List Value := [.string e.ct, .slice e.tp e.tn e.tc, .int .i64 e.nu, .int .i64 e.tk, .slice e.cp e.cn e.cc, .string e.cd, .slice e.ap e.an e.ac]
theorem encE_len (e : Ent) : (encE e).length = 7 := rfl
theorem encE_one (e : Ent) : ∀ u ∈ encE e, u.oneCell' = true := fun u hu => by
  simp only [encE, List.mem_cons, List.not_mem_nil, or_false] at hu
  rcases hu with rfl | rfl | rfl | rfl | rfl | rfl | rfl <;> rfl
/-- An entry with its lists elsewhere. -/
abbrev Ent.wi (e : Ent) (a : Option Addr) (c : Nat) (a' : Option Addr) (c' : Nat) (a'' : Option Addr) (c'' : Nat) : Ent := { e with tp := a, tc := c, cp := a', cc := c', ap := a'', ac := c'' }
/-- Open: without a code. -/
def opB (e : Ent) : Bool := e.cd.toList.isEmpty
def dcB (e : Ent) : Bool := !e.cd.toList.isEmpty
def vdB (s : ByteArray) : Bool := s.toList == [65, 65] || s.toList == [65, 69] || s.toList == [65, 82]
def cbB (c : Int) : Bool := (decide (48 ≤ c) && decide (c ≤ 57)) || (decide (65 ≤ c) && decide (c ≤ 90)) || (decide (97 ≤ c) && decide (c ≤ 122)) || decide (c = 46) || decide (c = 45)
def ctB (s : ByteArray) : Bool := decide (1 ≤ s.size) && decide (s.size ≤ 18) && s.data.toList.all (fun c => cbB (c.toNat : Int))
/-- The i-th rule. -/
def ruB (e : Ent) : Nat → Bool
  | 0 => ctB e.ct
  | 1 => decide (1 ≤ e.tn) && decide (e.tn ≤ 8192)
  | 2 => decide (0 ≤ e.nu) && decide (e.nu ≤ 2147483647)
  | 3 => decide (0 ≤ e.tk) && decide (e.tk ≤ 1099511627776)
  | 4 => decide (e.cn ≤ 2048)
  | 5 => decide (e.an ≤ 2048)
  | 6 => e.cd.toList.isEmpty || vdB e.cd
  | _ => !e.cd.toList.isEmpty || decide (e.an = 0)
def mayB (e : Ent) : Bool := ruB e 0 && ruB e 1 && ruB e 2 && ruB e 3 && ruB e 4 && ruB e 5 && ruB e 6 && ruB e 7
theorem mayB_all {e : Ent} (h : ∀ i, i < 8 → ruB e i = true) : mayB e = true := by
  unfold mayB
  rw [h 0 (by decide), h 1 (by decide), h 2 (by decide), h 3 (by decide), h 4 (by decide), h 5 (by decide), h 6 (by decide), h 7 (by decide)]; rfl
theorem mayB_no {e : Ent} {i : Nat} (hi : i < 8) (h : ruB e i = false) : mayB e = false := by
  unfold mayB
  rcases (by omega : i = 0 ∨ i = 1 ∨ i = 2 ∨ i = 3 ∨ i = 4 ∨ i = 5 ∨ i = 6 ∨ i = 7) with rfl | rfl | rfl | rfl | rfl | rfl | rfl | rfl <;> simp [h]
theorem mayB_is {e : Ent} (h : mayB e = true) : ctB e.ct = true ∧ 1 ≤ e.tn ∧ e.tn ≤ 8192 ∧ 0 ≤ e.nu ∧ e.nu ≤ 2147483647 ∧ 0 ≤ e.tk ∧ e.tk ≤ 1099511627776 ∧ e.cn ≤ 2048 ∧ e.an ≤ 2048 := by
  simp only [mayB, ruB, Bool.and_eq_true, decide_eq_true_eq] at h
  obtain ⟨⟨⟨⟨⟨⟨⟨h0, h1, h2⟩, h3, h4⟩, h5, h6⟩, h7⟩, h8⟩, _⟩, _⟩ := h
  exact ⟨h0, h1, h2, h3, h4, h5, h6, h7, h8⟩
/-- The place of the first of a control id. -/
def fi (s : ByteArray) (es : List Ent) : Option Nat := es.findIdx? (fun e => e.ct.toList == s.toList)
theorem fi_some {s : ByteArray} {es : List Ent} {i : Nat} (h : fi s es = some i) : ∃ m, es[i]? = some m ∧ (m.ct.toList == s.toList) = true ∧ ∀ j m', j < i → es[j]? = some m' → (m'.ct.toList == s.toList) = false := by
  obtain ⟨hi, h1, h2⟩ := List.findIdx?_eq_some_iff_getElem.1 h
  refine ⟨es[i], List.getElem?_eq_getElem hi, h1, fun j m' hj hm => ?_⟩
  obtain ⟨hj', rfl⟩ := List.getElem?_eq_some_iff.1 hm
  simpa using h2 j hj
theorem fi_none {s : ByteArray} {es : List Ent} (h : fi s es = none) : ∀ (j : Nat) (m' : Ent), es[j]? = some m' → (m'.ct.toList == s.toList) = false := fun j m' hm => by
  have := List.findIdx?_eq_none_iff.1 h m' (List.mem_of_getElem? hm)
  simpa using this
theorem fi_of {s : ByteArray} {es : List Ent} {i : Nat} {m : Ent} (h1 : es[i]? = some m) (h2 : (m.ct.toList == s.toList) = true) (h3 : ∀ j m', j < i → es[j]? = some m' → (m'.ct.toList == s.toList) = false) : fi s es = some i := by
  obtain ⟨hi, rfl⟩ := List.getElem?_eq_some_iff.1 h1
  refine List.findIdx?_eq_some_iff_getElem.2 ⟨hi, h2, fun j hj => ?_⟩
  have := h3 j _ hj (List.getElem?_eq_getElem (by omega))
  simpa using this
theorem fi_no {s : ByteArray} {es : List Ent} (h : ∀ (j : Nat) (m' : Ent), es[j]? = some m' → (m'.ct.toList == s.toList) = false) : fi s es = none :=
  List.findIdx?_eq_none_iff.2 fun x hx => by
    obtain ⟨j, hj, rfl⟩ := List.getElem_of_mem hx
    exact h j _ (List.getElem?_eq_getElem hj)
theorem str_of {s t : ByteArray} (h : (s.toList == t.toList) = true) : s = t := by
  rw [Lib.toList_data, Lib.toList_data] at h
  have := eq_of_beq h
  cases s; cases t
  simp only [ByteArray.mk.injEq]
  exact Array.toList_inj.1 this
theorem str_same (s : ByteArray) : (s.toList == s.toList) = true := beq_self_eq_true _
theorem str_apart {s t : ByteArray} (h : ¬ s = t) : (s.toList == t.toList) = false := by
  rw [Bool.eq_false_iff]
  exact fun e => h (str_of e)
/-- Control ids are apart. -/
def Dis (es : List Ent) : Prop := ∀ (i j : Nat) (x y : Ent), es[i]? = some x → es[j]? = some y → x.ct = y.ct → i = j
theorem Dis.fi {es : List Ent} (h : Dis es) {i : Nat} {x : Ent} (hx : es[i]? = some x) : fi x.ct es = some i :=
  fi_of hx (str_same _) fun j m' hj hm => str_apart fun e => by have := h j i m' x hm hx e; omega
theorem Dis.erase {es : List Ent} (h : Dis es) (k : Nat) : Dis (es.eraseIdx k) := fun i j x y hx hy e => by
  rw [List.getElem?_eraseIdx] at hx hy
  split at hx <;> split at hy
  · exact h i j x y hx hy e
  · have := h i (j + 1) x y hx hy e; omega
  · have := h (i + 1) j x y hx hy e; omega
  · have := h (i + 1) (j + 1) x y hx hy e; omega
theorem Dis.snoc {es : List Ent} (h : Dis es) {x : Ent} (hx : _root_.Go.Proofs.YtjbkfppibnlmoaaGreatDoor.fi x.ct es = none) : Dis (es ++ [x]) := fun i j a b ha hb e => by
  have key : ∀ (i : Nat) (a : Ent), (es ++ [x])[i]? = some a → (i < es.length ∧ es[i]? = some a) ∨ (i = es.length ∧ a = x) := fun i a ha => by
    by_cases hi : i < es.length
    · rw [List.getElem?_append_left hi] at ha; exact Or.inl ⟨hi, ha⟩
    · have := (List.getElem?_eq_some_iff.1 ha).1
      simp only [List.length_append, List.length_singleton] at this
      obtain rfl : i = es.length := by omega
      rw [List.getElem?_append_right (Nat.le_refl _), Nat.sub_self] at ha
      simp only [List.getElem?_cons_zero, Option.some.injEq] at ha
      exact Or.inr ⟨rfl, ha.symm⟩
  rcases key i a ha with ⟨h1, h2⟩ | ⟨rfl, rfl⟩ <;> rcases key j b hb with ⟨g1, g2⟩ | ⟨rfl, rfl⟩
  · exact h i j a b h2 g2 e
  · have := fi_none hx i a h2; rw [e, str_same] at this; cases this
  · have := fi_none hx j b g2; rw [← e, str_same] at this; cases this
  · rfl
theorem Dis.set {es : List Ent} (h : Dis es) {i : Nat} {x y : Ent} (hx : es[i]? = some x) (hy : y.ct = x.ct) : Dis (es.set i y) := fun a b p q hp hq e => by
  have key : ∀ (a : Nat) (p : Ent), (es.set i y)[a]? = some p → ∃ p', es[a]? = some p' ∧ p'.ct = p.ct := fun a p hp => by
    by_cases ha : i = a
    · subst ha
      have hl := (List.getElem?_eq_some_iff.1 hx).1
      rw [List.getElem?_set_self hl] at hp
      cases hp
      exact ⟨x, hx, hy.symm⟩
    · rw [List.getElem?_set_ne ha] at hp
      exact ⟨p, hp, rfl⟩
  obtain ⟨p', h1, h2⟩ := key a p hp
  obtain ⟨q', g1, g2⟩ := key b q hq
  exact h a b p' q' h1 g1 (by rw [h2, g2]; exact e)
/-- How many are open. -/
def nOp (es : List Ent) : Nat := es.countP opB
def nDc (es : List Ent) : Nat := es.countP dcB
theorem nOp_add (es : List Ent) : nOp es + nDc es = es.length := by
  induction es with
  | nil => rfl
  | cons e r ih =>
    simp only [nOp, nDc, List.countP_cons, List.length_cons] at ih ⊢
    unfold opB dcB at *
    cases e.cd.toList.isEmpty <;> simp <;> omega
def lastT (es : List Ent) : Int := match es.getLast? with | some e => e.tk | none => 0
/-- Why an entry can't stand behind those. -/
def refS (R : Int) (es : List Ent) (e : Ent) : Int :=
  if (!mayB e || decide (e.tk < lastT es)) = true then 300 else if (fi e.ct es).isSome = true then 6 else if (opB e && decide ((nOp es : Int) = R)) = true then 7 else 0
/-- The first that is decided. -/
def fdS (es : List Ent) : Option Nat := es.findIdx? dcB
/-- What a Decide leaves behind, and who goes. -/
def manyB (K : Int) (es : List Ent) : Bool := decide ((nDc es : Int) > K + 1)
def shedS (K : Int) (es : List Ent) : List Ent := if manyB K es = true then (match fdS es with | some i => es.eraseIdx i | none => es) else es
def goneS (K : Int) (es : List Ent) : List ByteArray := if manyB K es = true then (match fdS es with | some i => [(es.getD i zE).ct] | none => []) else []
/-- The map's places while they are numbered anew: those from i on stand one too high. -/
def gI (es : List Ent) (i : Nat) (s : ByteArray) : Option Nat := match fi s es with | none => none | some j => some (if j < i then j else j + 1)
theorem gI_end (es : List Ent) : gI es es.length = fun s => fi s es := by
  funext s
  unfold gI
  cases h : fi s es with
  | none => rfl
  | some j =>
    obtain ⟨m, hm, _⟩ := fi_some h
    have := (List.getElem?_eq_some_iff.1 hm).1
    simp [this]
theorem gI_start {es : List Ent} (h : Dis es) {i : Nat} {x : Ent} (hx : es[i]? = some x) (s : ByteArray) : gI (es.eraseIdx i) i s = if s = x.ct then none else fi s es := by
  have hl := (List.getElem?_eq_some_iff.1 hx).1
  by_cases hs : s = x.ct
  · rw [if_pos hs]
    subst hs
    have : fi x.ct (es.eraseIdx i) = none := fi_no fun j m' hm => str_apart fun e => by
      rw [List.getElem?_eraseIdx] at hm
      split at hm
      · have := h j i m' x hm hx e; omega
      · have := h (j + 1) i m' x hm hx e; omega
    unfold gI
    rw [this]
  · rw [if_neg hs]
    unfold gI
    cases hf : fi s es with
    | none =>
      have : fi s (es.eraseIdx i) = none := fi_no fun j m' hm => by
        rw [List.getElem?_eraseIdx] at hm
        split at hm
        · exact fi_none hf j m' hm
        · exact fi_none hf (j + 1) m' hm
      rw [this]
    | some j =>
      obtain ⟨m, hm, he, hb⟩ := fi_some hf
      obtain rfl : m.ct = s := str_of he
      have hji : j ≠ i := fun e => by
        subst e
        rw [hm] at hx
        cases hx
        exact hs rfl
      by_cases hlt : j < i
      · have : fi m.ct (es.eraseIdx i) = some j := (h.erase i).fi (by rw [List.getElem?_eraseIdx, if_pos hlt]; exact hm)
        rw [this]
        simp [hlt]
      · obtain ⟨j', rfl⟩ : ∃ j', j = j' + 1 := ⟨j - 1, by omega⟩
        have : fi m.ct (es.eraseIdx i) = some j' := (h.erase i).fi (by rw [List.getElem?_eraseIdx, if_neg (by omega)]; exact hm)
        rw [this]
        have hn : ¬ j' < i := by omega
        simp [hn]
theorem gI_step {es : List Ent} (h : Dis es) {i : Nat} {x : Ent} (hx : es[i]? = some x) (s : ByteArray) : gI es (i + 1) s = if s = x.ct then some i else gI es i s := by
  by_cases hs : s = x.ct
  · rw [if_pos hs, hs]
    unfold gI
    rw [h.fi hx]
    simp
  · rw [if_neg hs]
    unfold gI
    cases hf : fi s es with
    | none => rfl
    | some j =>
      obtain ⟨m, hm, he, _⟩ := fi_some hf
      have hne : j ≠ i := fun e => by
        subst e
        rw [hx] at hm
        cases hm
        exact hs (str_of he).symm
      by_cases hlt : j < i
      · simp [hlt, show j < i + 1 by omega]
      · simp [hlt, show ¬ j < i + 1 by omega]
end Go.Proofs.YtjbkfppibnlmoaaGreatDoor

/-
  The map from control ids to places, as a function; its operations.
-/
namespace Go.Proofs.YtjbkfppibnlmoaaGreatDoor
open Go.RowKit

theorem mapKeyed : Maps.Keyed Tryz.prog 9 := Maps.string_keyed Tryz.underlying9
/-- A key: a text that a machine holds. -/
def KeyS (s : ByteArray) : Prop := s.size ≤ maxLen
theorem keyOfS {s : ByteArray} (h : KeyS s) : keyOf Tryz.prog 9 (.string s) = some (.string s.data.toList) := WideMaps.keyOf_string_mk Tryz.underlying9 h
def plEl (v : Value) : Option (DataW Unit × List MemPlace) :=
  match v with
  | .int .i64 a => some (.lit (.int .i64 a), [])
  | _ => none
theorem plEl_inv {v : Value} {a : Int} {ps : List MemPlace} (h : plEl v = some (.lit (.int .i64 a), ps)) : v = .int .i64 a := by
  unfold plEl at h
  split at h
  · simp only [Option.some.injEq, Prod.mk.injEq, DataW.lit.injEq, Lit.int.injEq, true_and] at h
    rw [h.1]
  · cases h
/-- Block M is a map that tells f, of n entries. -/
def MapF (w : World) (M : Nat) (f : ByteArray → Option Nat) (n : Nat) : Prop :=
  ∃ D : DataW Unit, w.ownsMap Tryz.prog 9 plEl M n D ∧ Maps.size D = n ∧ (∀ k, KeyS k → f k = none → Maps.has D (.string k.data.toList) = false) ∧ ∀ k p, KeyS k → f k = some p → Maps.has D (.string k.data.toList) = true ∧ ∀ z, D.atKey (.string k.data.toList) z = .lit (.int .i64 (p : Int))
theorem owns_tight {w : World} {M m : Nat} {D : DataW Unit} (h : w.ownsMap Tryz.prog 9 plEl M m D) : w.ownsMap Tryz.prog 9 plEl M (Maps.size D) D := by
  obtain ⟨es, clock, hb, F, _, rfl⟩ := h
  exact ⟨es, clock, hb, F, by simp [Maps.size, length_sorted], rfl⟩
theorem isKey {k : ByteArray} (h : KeyS k) : WideAt.IsKeyLit (.string k.data.toList) := (mapKeyed).key (keyOfS h)
theorem ne_lit {k k' : ByteArray} (h : k' ≠ k) : Lit.string k'.data.toList ≠ Lit.string k.data.toList := fun e => h (by
  injection e with e
  cases k; cases k'
  simp only [ByteArray.mk.injEq]
  exact Array.toList_inj.1 e)
def updF {β : Type} (f : ByteArray → β) (k : ByteArray) (b : β) : ByteArray → β := fun x => if x = k then b else f x
theorem MapF.made (w : World) : MapF (w.alloc (.map #[] 0)) w.heap.size (fun _ => none) 0 :=
  ⟨.map [], World.ownsMap_made w _ _ _, rfl, fun _ _ _ => rfl, fun _ _ _ h => by cases h⟩
theorem MapF.lt {w : World} {M : Nat} {f : ByteArray → Option Nat} {n : Nat} (h : MapF w M f n) : M < w.heap.size := by
  obtain ⟨D, h, _⟩ := h; exact h.lt
theorem MapF.keep {w w' : World} {M : Nat} {f : ByteArray → Option Nat} {n : Nat} (h : MapF w M f n) (hk : w'.heap[M]? = w.heap[M]?) : MapF w' M f n := by
  obtain ⟨D, ⟨es, clock, hb, r⟩, q⟩ := h
  exact ⟨D, ⟨es, clock, hk.trans hb, r⟩, q⟩
theorem MapF.off {P : Nat → Prop} {w w' : World} {M : Nat} {f : ByteArray → Option Nat} {n : Nat} (h : MapF w M f n) (o : Off P w w') (hP : ¬ P M) : MapF w' M f n := h.keep (o.block M h.lt hP)
theorem MapF.below {w w' : World} {M : Nat} {f : ByteArray → Option Nat} {n : Nat} (h : MapF w M f n) (hb : Below w.heap.size w w') : MapF w' M f n := h.keep (hb.block M h.lt)
theorem MapF.isMap {w : World} {M : Nat} {f : ByteArray → Option Nat} {n : Nat} (h : MapF w M f n) : ∃ es clock, w.heap[M]? = some (.map es clock) := by
  obtain ⟨D, ⟨es, clock, hb, _⟩, _⟩ := h
  exact ⟨es, clock, hb⟩
theorem zeroPl (w : World) : (zeroValue 3).run Tryz.prog w = .ok (.int .i64 0) w := by kernel_rfl
theorem MapF.look_no {w : World} {M : Nat} {f : ByteArray → Option Nat} {n : Nat} (h : MapF w M f n) {k : ByteArray} (hk : KeyS k) (hf : f k = none) : (Instr.lookup 87 (.map (some M)) (.string k) true).run Tryz.prog w = .ok (.tuple #[.int .i64 0, .bool false]) w := by
  obtain ⟨D, h1, _, h3, _⟩ := h
  obtain ⟨v, ps, hr, hv⟩ := h1.look_ok mapKeyed Tryz.underlying87 (zeroPl w) (zd := .lit (.int .i64 0)) (zp := []) rfl (keyOfS hk)
  have h4 := h3 k hk hf
  rw [Maps.atKey_of_not_has h4] at hv
  rw [h4, plEl_inv hv] at hr
  exact hr
theorem MapF.look_yes {w : World} {M : Nat} {f : ByteArray → Option Nat} {n : Nat} (h : MapF w M f n) {k : ByteArray} {p : Nat} (hk : KeyS k) (hf : f k = some p) : (Instr.lookup 87 (.map (some M)) (.string k) true).run Tryz.prog w = .ok (.tuple #[.int .i64 (p : Int), .bool true]) w := by
  obtain ⟨D, h1, _, _, h3⟩ := h
  obtain ⟨v, ps, hr, hv⟩ := h1.look_ok mapKeyed Tryz.underlying87 (zeroPl w) (zd := .lit (.int .i64 0)) (zp := []) rfl (keyOfS hk)
  obtain ⟨h4, h5⟩ := h3 k p hk hf
  rw [h5] at hv
  rw [h4, plEl_inv hv] at hr
  exact hr
/-- What is found at a key. -/
def atP (o : Option Nat) : Int := match o with | some p => (p : Int) | none => 0
theorem MapF.look {w : World} {M : Nat} {f : ByteArray → Option Nat} {n : Nat} (h : MapF w M f n) {k : ByteArray} (hk : KeyS k) : (Instr.lookup 87 (.map (some M)) (.string k) true).run Tryz.prog w = .ok (.tuple #[.int .i64 (atP (f k)), .bool (f k).isSome]) w := by
  cases hf : f k with
  | none => exact h.look_no hk hf
  | some p => exact h.look_yes hk hf
theorem turned_off {w w' : World} {M : Nat} (h : w.mapTurned w' M) : Off (fun q => q = M) w w' := by
  have hg := h.grown
  exact ⟨hg.os, hg.tape, hg.output, hg.size, fun k hk hn => hg.block k hk (fun e => hn (by simpa using e))⟩
theorem MapF.drop {w : World} {M : Nat} {f : ByteArray → Option Nat} {n : Nat} (h : MapF w M f n) {k : ByteArray} (hk : KeyS k) (ty : TypeId) :
    ∃ w', (Builtin.delete_ #[87, 9] ty #[.map (some M), .string k]).run Tryz.prog w = .ok (.tuple #[]) w' ∧ MapF w' M (updF f k none) (n - (if (f k).isSome then 1 else 0)) ∧ Off (fun q => q = M) w w' := by
  obtain ⟨D, h1, h2, h3, h4⟩ := h
  obtain ⟨w', hr, h5, h6⟩ := h1.drop mapKeyed Tryz.underlying87 (keyOfS hk) ty
  have hs := Maps.size_del (h1.tidy mapKeyed) (k := .string k.data.toList)
  have hhas : Maps.has D (.string k.data.toList) = (f k).isSome := by
    cases hf : f k with
    | none => rw [h3 k hk hf]; rfl
    | some p => rw [(h4 k p hk hf).1]; rfl
  rw [hhas, h2] at hs
  have hs' : Maps.size (D.del (.string k.data.toList)) = n - (if (f k).isSome then 1 else 0) := by omega
  refine ⟨w', hr, ⟨D.del (.string k.data.toList), by rw [← hs']; exact owns_tight h5, hs', fun k' hk' hf' => ?_, fun k' p hk' hf' => ?_⟩, turned_off h6⟩
  · by_cases e : k' = k
    · subst e; exact Maps.has_del_same
    · rw [Maps.has_del_other (ne_lit e)]
      exact h3 k' hk' (by simpa [updF, e] using hf')
  · by_cases e : k' = k
    · simp [updF, e] at hf'
    · have := h4 k' p hk' (by simpa [updF, e] using hf')
      exact ⟨by rw [Maps.has_del_other (ne_lit e)]; exact this.1, fun z => by rw [Maps.atKey_del_other (ne_lit e)]; exact this.2 z⟩
theorem MapF.store {w : World} {M : Nat} {f : ByteArray → Option Nat} {n : Nat} (h : MapF w M f n) (hn : n < 1000000000) {k : ByteArray} (hk : KeyS k) (p : Nat) :
    ∃ w', (Instr.mapUpdate 87 (.map (some M)) (.string k) (.int .i64 (p : Int))).run Tryz.prog w = .ok () w' ∧ MapF w' M (updF f k (some p)) (n + (if (f k).isSome then 0 else 1)) ∧ Off (fun q => q = M) w w' := by
  obtain ⟨D, h1, h2, h3, h4⟩ := h
  obtain ⟨w', hr, h5, h6⟩ := h1.store mapKeyed Tryz.underlying87 (by unfold maxLen; omega) (keyOfS hk) (show plEl (.int .i64 (p : Int)) = some (.lit (.int .i64 (p : Int)), []) from rfl)
  have hs := Maps.size_put (h1.tidy mapKeyed) (k := .string k.data.toList) (.lit (.int .i64 (p : Int)))
  have hhas : Maps.has D (.string k.data.toList) = (f k).isSome := by
    cases hf : f k with
    | none => rw [h3 k hk hf]; rfl
    | some p => rw [(h4 k p hk hf).1]; rfl
  rw [hhas, h2] at hs
  have hs' : Maps.size (D.put (.string k.data.toList) (.lit (.int .i64 (p : Int)))) = n + (if (f k).isSome then 0 else 1) := by rw [hs]; split <;> simp
  refine ⟨w', hr, ⟨D.put (.string k.data.toList) (.lit (.int .i64 (p : Int))), by rw [← hs']; exact owns_tight h5, hs', fun k' hk' hf' => ?_, fun k' p' hk' hf' => ?_⟩, turned_off h6⟩
  · by_cases e : k' = k
    · simp [updF, e] at hf'
    · rw [Maps.has_put_other (ne_lit e)]
      exact h3 k' hk' (by simpa [updF, e] using hf')
  · by_cases e : k' = k
    · subst e
      simp only [updF, if_pos, Option.some.injEq] at hf'
      subst hf'
      exact ⟨Maps.has_put_same h1.isMap (isKey hk) _, fun z => Maps.atKey_put_same h1.isMap (isKey hk) _ z⟩
    · have := h4 k' p' hk' (by simpa [updF, e] using hf')
      exact ⟨by rw [Maps.has_put_other (ne_lit e)]; exact this.1, fun z => by rw [Maps.atKey_put_other (ne_lit e)]; exact this.2 z⟩
/-! ### at the operation -/
section
variable {P : Program} {w w' : World} {ops : Array Oper} {rest : List Oper} {o : Oper} {a : Act} {Q : Exit → Act → World → Prop}
theorem wpList_upd_run (hg : o.guard = none) (m x v : Operand) (t : TypeId) (hop : o.op = Op.mapUpdate t m x v) {mv xv vv : Value} (hm : a.eval m = mv) (hx : a.eval x = xv) (hv : a.eval v = vv) (hr : (Instr.mapUpdate t mv xv vv).run P w = .ok () w') (hK : wpList P ops Q rest (a.put o.dst undef) w') :
    wpList P ops Q (o :: rest) a w := by
  refine wpList_plain hg fun K' hK' => ?_
  unfold Oper.wp
  simp [execOp, hop, hm, hx, hv, hr, Result.andThen]
  exact hK' _ _ hK
theorem wpList_del_run (hg : o.guard = none) (m x : Operand) (t k : TypeId) (hop : o.op = Op.call { callee := Callee.builtin Builtin.delete, args := #[m, x], argTypes := #[t, k] }) {mv xv : Value} (hm : a.eval m = mv) (hx : a.eval x = xv) (hr : (Builtin.delete_ #[t, k] o.type #[mv, xv]).run P w = .ok (.tuple #[]) w') (hK : wpList P ops Q rest (a.put o.dst (.tuple #[])) w') :
    wpList P ops Q (o :: rest) a w := by
  refine wpList_plain hg fun K' hK' => ?_
  unfold Oper.wp
  simp [execOp, hop, resolve, invoke, builtin, hm, hx, hr, Result.andThen]
  exact hK' _ _ hK
end
end Go.Proofs.YtjbkfppibnlmoaaGreatDoor

/-
  The inbox's leaves: faults, numbers, codes, control ids.
-/
namespace Go.Proofs.YtjbkfppibnlmoaaGreatDoor
open Go.RowKit

section
variable {P : Program} {ops : Array Oper} {o : Oper} {a : Act} {w w' : World} {K : Act → World → Prop} {Q : Exit → Act → World → Prop} {E : Prop}
theorem step_upd_run (hgd : o.guard = none) (m x u : Operand) (t : TypeId) (ho : o.op = Op.mapUpdate t m x u) {mv xv uv : Value} (hm : a.eval m = mv) (hx : a.eval x = xv) (hu : a.eval u = uv) (hr : (Instr.mapUpdate t mv xv uv).run P w = .ok () w') (h : K (a.put o.dst undef) w') :
    if Region.wanted o (yielded ops a.tmps) = true then Oper.wp P o a w K Q else E := by
  have hw : Region.wanted o (yielded ops a.tmps) = true := by simp [Region.wanted, hgd]
  rw [if_pos hw]
  unfold Oper.wp execOp
  simp only [ho, Sem.run_bind, Sem.run_pure, Result.andThen_ok, hm, hx, hu, hr]
  exact h
theorem step_del_run (hgd : o.guard = none) (m x : Operand) (t k : TypeId) (ho : o.op = Op.call { callee := Callee.builtin Builtin.delete, args := #[m, x], argTypes := #[t, k] }) {mv xv r : Value} (hm : a.eval m = mv) (hx : a.eval x = xv) (hr : (Builtin.delete_ #[t, k] o.type #[mv, xv]).run P w = .ok r w') (h : K (a.put o.dst r) w') :
    if Region.wanted o (yielded ops a.tmps) = true then Oper.wp P o a w K Q else E := by
  have hw : Region.wanted o (yielded ops a.tmps) = true := by simp [Region.wanted, hgd]
  rw [if_pos hw]
  unfold Oper.wp execOp
  simp only [ho, resolve, invoke, builtin, Sem.run_bind, Sem.run_pure, Result.andThen_ok, List.map_toArray, List.map_cons, List.map_nil, hm, hx, hr]
  exact h
end
/-- The cells of a fault of layer "inbox". -/
def IFault (w : World) (b : Nat) (a code : Int) : Prop :=
  w.cell? ⟨b, 0, none⟩ = some (.string ⟨#[105, 110, 98, 111, 120]⟩) ∧ w.cell? ⟨b, 1, none⟩ = some (.int .i64 a) ∧ w.cell? ⟨b, 2, none⟩ = some (.int .i64 code) ∧ w.cell? ⟨b, 3, none⟩ = some .nilIface
theorem IFault.keep {w w' : World} {b : Nat} {a c : Int} (h : IFault w b a c) (hk : ∀ o, w'.cell? ⟨b, o, none⟩ = w.cell? ⟨b, o, none⟩) : IFault w' b a c :=
  ⟨by rw [hk]; exact h.1, by rw [hk]; exact h.2.1, by rw [hk]; exact h.2.2.1, by rw [hk]; exact h.2.2.2⟩
theorem IFault.below {w w' : World} {b : Nat} {a c : Int} (h : IFault w b a c) (hb : Below w.heap.size w w') : IFault w' b a c := by
  have hl : b < w.heap.size := cell_lt h.1
  exact h.keep fun o => hb.cell (p := ⟨b, o, none⟩) hl
/-- An error that is just that: none where the number is 0; its block is new (from B on). -/
def OEv (w : World) (B : Nat) (v : Value) (a code : Int) : Prop := (v = .nilIface ∧ code = 0) ∨ (code ≠ 0 ∧ ∃ b, v = .iface 94 (.pointer (some ⟨b, 0, none⟩)) ∧ B ≤ b ∧ IFault w b a code)
theorem OEv.keep {w w' : World} {B : Nat} {v : Value} {a c : Int} (h : OEv w B v a c) (hk : ∀ b o, b < w.heap.size → B ≤ b → w'.cell? ⟨b, o, none⟩ = w.cell? ⟨b, o, none⟩) : OEv w' B v a c := by
  rcases h with h | ⟨h0, b, h1, h2, h3⟩
  · exact Or.inl h
  · exact Or.inr ⟨h0, b, h1, h2, h3.keep fun o => hk b o (cell_lt h3.1) h2⟩
theorem OEv.below {w w' : World} {B : Nat} {v : Value} {a c : Int} (h : OEv w B v a c) (hb : Below w.heap.size w w') : OEv w' B v a c := h.keep fun b o hl _ => hb.cell (p := ⟨b, o, none⟩) hl
theorem OEv.mono {w : World} {B C : Nat} {v : Value} {a c : Int} (h : OEv w B v a c) (hB : C ≤ B) : OEv w C v a c := by
  rcases h with h | ⟨h0, b, h1, h2, h3⟩
  · exact Or.inl h
  · exact Or.inr ⟨h0, b, h1, Nat.le_trans hB h2, h3⟩
theorem oev_ok (w : World) (B : Nat) (a : Int) : OEv w B .nilIface a 0 := Or.inl ⟨rfl, rfl⟩
set_option maxHeartbeats 400000 in
theorem fault_any (a code : Int) (w : World) : Calls Tryz.prog 39 #[.int .i64 a, .int .i64 code] w fun e w' => e = .returned (.iface 94 (.pointer (some ⟨w.heap.size, 0, none⟩))) ∧ IFault w' w.heap.size a code ∧ Below w.heap.size w w' := by
  go_enter Tryz.func39, Tryz.ntmps39
  go_wp2
  go_ret
  exact ⟨rfl, ⟨by simp, by simp, by simp, by simp⟩, (Below.refl _ _).alloc (Nat.le_refl _) _⟩
set_option maxHeartbeats 400000 in
theorem isWithin_any (n a b : Int) (w : World) : Calls Tryz.prog 94 #[.int .i64 n, .int .i64 a, .int .i64 b] w fun e w' => e = .returned (.bool (decide (a ≤ n) && decide (n ≤ b))) ∧ w' = w := by
  go_enter Tryz.func94, Tryz.ntmps94
  go_wp2
  all_goals (go_ret; exact ⟨ret_bool (by rw [Bool.eq_iff_iff]; simp; try omega), rfl⟩)
set_option maxHeartbeats 1000000 in
theorem isVerdict_any (s : ByteArray) (w : World) : Calls Tryz.prog 81 #[.string s] w fun e w' => e = .returned (.bool (vdB s)) ∧ w' = w := by
  cases h1 : (s.toList == [65, 65]) <;> cases h2 : (s.toList == [65, 69]) <;> cases h3 : (s.toList == [65, 82])
  all_goals
    go_enter Tryz.func81, Tryz.ntmps81
    go_wp2
    go_ret
    exact ⟨ret_bool (by simp [vdB, h1, h2, h3]), rfl⟩
set_option maxHeartbeats 1000000 in
theorem isDecided_any (e : Ent) (w : World) : Calls Tryz.prog 65 #[.agg #[.string e.ct, .slice e.tp e.tn e.tc, .int .i64 e.nu, .int .i64 e.tk, .slice e.cp e.cn e.cc, .string e.cd, .slice e.ap e.an e.ac]] w fun r w' => r = .returned (.bool (dcB e)) ∧ Below w.heap.size w w' := by
  have bv : Below w.heap.size w (w.alloc (.cells #[.string e.ct, .slice e.tp e.tn e.tc, .int .i64 e.nu, .int .i64 e.tk, .slice e.cp e.cn e.cc, .string e.cd, .slice e.ap e.an e.ac] 30)) := (Below.refl _ _).alloc (Nat.le_refl _) _
  cases h1 : e.cd.toList.isEmpty
  all_goals
    have HB : Hid (Below w.heap.size w (w.alloc (.cells #[.string e.ct, .slice e.tp e.tn e.tc, .int .i64 e.nu, .int .i64 e.tk, .slice e.cp e.cn e.cc, .string e.cd, .slice e.ap e.an e.ac] 30))) := bv
    clear bv
    go_enter Tryz.func65, Tryz.ntmps65
    go_wp2
    go_ret
    exact ⟨ret_bool (by simp [dcB, h1]), HB.out⟩
set_option maxHeartbeats 1000000 in
theorem isCB_any (c : Int) (w : World) : Calls Tryz.prog 102 #[.int .u8 c] w fun e w' => e = .returned (.bool (cbB c)) ∧ w' = w := by
  go_enter Tryz.func102, Tryz.ntmps102
  go_wp2
  all_goals (go_ret; exact ⟨ret_bool (by unfold cbB; rw [Bool.eq_iff_iff]; simp; try (first | omega | (intros; omega))), rfl⟩)
set_option maxRecDepth 100000 in
set_option maxHeartbeats 2000000 in
theorem isControl_any (s : ByteArray) (w : World) : Calls Tryz.prog 92 #[.string s] w fun e w' => e = .returned (.bool (ctB s)) ∧ Below w.heap.size w w' := by
  by_cases h0 : ¬ (1 ≤ s.size ∧ s.size ≤ 18)
  · have e0 : ctB s = false := by
      unfold ctB
      by_cases h : 1 ≤ s.size
      · rw [decide_eq_false (show ¬ s.size ≤ 18 from fun g => h0 ⟨h, g⟩)]; simp
      · rw [decide_eq_false h]; rfl
    rw [e0]
    have hw1 := isWithin_any (s.size : Int) 1 18 w
    rw [show (decide ((1 : Int) ≤ (s.size : Int)) && decide ((s.size : Int) ≤ 18)) = false by rw [Bool.eq_false_iff]; simp; intro h; omega] at hw1
    clear h0 e0
    go_enter Tryz.func92, Tryz.ntmps92
    go_wp2_with (go_at_call 94; refine hw1.mono ?_; rintro _ w9 ⟨rfl, h9⟩; subst w9)
    go_ret
    exact ⟨rfl, Below.refl _ _⟩
  have h0 : 1 ≤ s.size ∧ s.size ≤ 18 := Classical.not_not.1 h0
  have h18 : ¬ 18 < s.size := by omega
  have hw1 := isWithin_any (s.size : Int) 1 18 (w := w)
  rw [show (decide ((1 : Int) ≤ (s.size : Int)) && decide ((s.size : Int) ≤ 18)) = true by simp; omega] at hw1
  have hcv : (convert 9 28 (.string s)).run Tryz.prog w = _ := Lib.run_convert_string_bytes _ 9 28 5 s Tryz.underlying9 Tryz.underlying28 Tryz.underlying5
  have hc2 := fun j hj => Lib.bytesWorld_cell w 5 s j hj
  have hb2 : Below w.heap.size w (Lib.bytesWorld w 5 s) := ⟨rfl, rfl, rfl, by rw [Lib.bytesWorld_size]; omega, fun k hk => Lib.bytesWorld_at_old w _ s k hk⟩
  obtain ⟨W2, hW2⟩ : ∃ W2, Lib.bytesWorld w 5 s = W2 := ⟨_, rfl⟩
  rw [hW2] at hcv hc2 hb2
  obtain ⟨cap, hcap⟩ : ∃ c, grownCap w s.size 0 5 = c := ⟨_, rfl⟩
  rw [hcap] at hcv
  obtain ⟨n, hn⟩ : ∃ n, s.size = n := ⟨_, rfl⟩
  have HN : Hid (s.data.toList.length = n) := by unfold Hid; rw [← hn]; rfl
  have HE : Hid (ctB s = s.data.toList.all (fun c => cbB (c.toNat : Int))) := by
    unfold ctB; rw [decide_eq_true (show 1 ≤ s.size by omega), decide_eq_true (show s.size ≤ 18 by omega)]; rfl
  rw [hn] at hcv h0 h18 hc2 hw1
  have HC : Hid (∀ j, j < n → W2.cell? ⟨w.heap.size, j, none⟩ = some (.int .u8 (s.data.toList.getD j 0).toNat)) := hc2
  have HB : Hid (Below w.heap.size w W2) := hb2
  have hsz : (s.size : Int) = n := by rw [hn]
  clear hW2 hcap hc2 hb2 hn
  go_enter Tryz.func92, Tryz.ntmps92
  go_wp2_with (go_at_call 94; refine hw1.mono ?_; rintro _ w9 ⟨rfl, h9⟩; subst w9)
  clear hw1
  go_loopw [12] (fun t wx => ∃ i : Nat, i ≤ n ∧ t = .int .i64 i ∧ wx = W2 ∧ Hid ((s.data.toList.take i).all (fun c => cbB (c.toNat : Int)) = true)) (fun t _ => n - (intOf t).toNat)
  case atStart => exact ⟨0, Nat.zero_le _, rfl, rfl, rfl⟩
  case round =>
    obtain ⟨i, hi, rfl, rfl, HA⟩ := hrel
    by_cases hlt : i < n
    · have hlt1 : (i : Int) < n := by omega
      have ci := HC.out i hlt
      obtain ⟨b, hb⟩ : ∃ b, s.data.toList.getD i 0 = b := ⟨_, rfl⟩
      rw [hb] at ci
      have hil : i < s.data.toList.length := by rw [HN.out]; exact hlt
      have hgt : s.data.toList[i]'hil = b := by rw [← hb, List.getD_eq_getElem?_getD, List.getElem?_eq_getElem hil]; rfl
      have HB1 : Hid (s.data.toList[i]'hil = b) := hgt
      clear hb hgt
      cases hc : cbB (b.toNat : Int) with
      | true =>
        have hcb := isCB_any (b.toNat : Int) wr
        rw [hc] at hcb
        have HH : Hid (cbB (b.toNat : Int) = true) := hc
        clear hc
        go_wp2_with fail
        refine hcb.mono ?_
        rintro _ w9 ⟨rfl, h9⟩
        subst w9
        go_wp2_with fail
        go_roundw
        case rel =>
          refine ⟨i + 1, hlt, by go_num, by trivial, ?_⟩
          unfold Hid
          rw [List.take_succ_eq_append_getElem hil, List.all_append, HA.out, HB1.out]
          simp [HH.out]
        case measure => simp [intOf]; omega
      | false =>
        have hcb := isCB_any (b.toNat : Int) wr
        rw [hc] at hcb
        have HH : Hid (ctB s = false) := by
          unfold Hid
          rw [HE.out, List.all_eq_false]
          exact ⟨s.data.toList[i]'hil, List.getElem_mem hil, by rw [HB1.out, hc]; simp⟩
        clear hc
        go_wp2_with fail
        refine hcb.mono ?_
        rintro _ w9 ⟨rfl, h9⟩
        subst w9
        go_wp2_with fail
        go_ret
        exact ⟨ret_bool HH.out.symm, HB.out⟩
    · have hlt1 : ¬ (i : Int) < n := by omega
      have HH : Hid (ctB s = true) := by
        unfold Hid
        rw [HE.out, ← HA.out, List.take_of_length_le (by rw [HN.out]; omega)]
      go_wp2_with fail
      go_ret
      exact ⟨ret_bool HH.out.symm, HB.out⟩
end Go.Proofs.YtjbkfppibnlmoaaGreatDoor
