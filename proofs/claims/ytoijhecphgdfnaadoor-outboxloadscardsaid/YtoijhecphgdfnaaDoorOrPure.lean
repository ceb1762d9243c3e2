import Derived.Test.YtoijhecphgdfnaaDoorOrLdS
import Derived.Test.YtoijhecphgdfnaaDoorOrPLoad
/-
  The document's box: Due.
-/
namespace Go.Proofs.YtoijhecphgdfnaaDoor
open Go.RowKit

section
variable {w w' : World} {B r : Nat} {L : Value} {sq : Bool} {tr : Int} {ms : List Msg}
end
end Go.Proofs.YtoijhecphgdfnaaDoor

/-
  The document's box: Heard, what it refuses, and what is nothing new.
-/
namespace Go.Proofs.YtoijhecphgdfnaaDoor
open Go.RowKit

/-- Whether what was heard is nothing new. -/
def strB (sq : Bool) (nu : Int) (cd : ByteArray) (x : Int) : Bool := (sq && (cd.toList == [67, 69] || cd.toList == [65, 69]) && decide (0 < x)) && (x == nu)
section
variable {w w' : World} {B r : Nat} {L : Value} {sq : Bool} {tr : Int} {ms : List Msg}
theorem deed_lit (w : World) (c : ByteArray) (k : Int) (cd : ByteArray) : DRow (w.alloc (.cells #[.string c, .int .i64 k, .string cd] 70)) w.heap.size (.slice (some ⟨w.heap.size, 0, none⟩) 1 1) [(c, k, cd)] :=
  ⟨rfl, Or.inr ⟨w.heap.size, 1, _, rfl, Nat.le_refl _, heap_alloc_new _ _, Nat.le_refl _, by decide, rfl, rfl⟩⟩
end
end Go.Proofs.YtoijhecphgdfnaaDoor

/-
  The document's box: Heard, what is done.
-/
namespace Go.Proofs.YtoijhecphgdfnaaDoor
open Go.RowKit

section
variable {w w' : World} {B r : Nat} {L : Value} {sq : Bool} {tr : Int} {ms : List Msg}
end
end Go.Proofs.YtoijhecphgdfnaaDoor

/-
  What a run of the initiator keeps: of no program.
-/
namespace Go.Proofs.YtoijhecphgdfnaaDoor
open Go.RowKit

/-- How many acts are of a kind. -/
def cntA (k : Int) (l : ActL) : Int := ((l.filter fun y => y.1 == k).length : Nat)
theorem cnt_bd (k : Int) (l : ActL) : 0 ≤ cntA k l ∧ cntA k l ≤ l.length := by
  unfold cntA
  exact ⟨by omega, by have := List.length_filter_le (fun y : Int × ByteArray => y.1 == k) l; omega⟩
theorem cnt_snoc (k : Int) (l : ActL) (y : Int × ByteArray) : cntA k (l ++ [y]) = cntA k l + (if y.1 = k then 1 else 0) := by
  unfold cntA
  rw [List.filter_append]
  by_cases h : y.1 = k <;> simp [h]
/-- How many Dues it takes at most. -/
def need (st lf : Int) : Int := if 4 ≤ st then 0 else if st = 3 then 1 else lf + 1
structure RunOk (e : Bool) (a p st lf : Int) (x : Ans) : Prop where
  n : x.n = 0
  fit : fitB e a p x.st x.lf = true
  sends : x.lf = lf - cntA 1 x.l
  stays : 4 ≤ st → x.st = st ∧ x.lf = lf
  fin : cntA 4 x.l = (if st < 4 ∧ 4 ≤ x.st then 1 else 0)
  len : x.l.length ≤ 3
theorem fit_4 (e : Bool) (a p lf : Int) (h : 0 ≤ lf ∧ lf ≤ 16) : fitB e a p 4 lf = true := by unfold fitB; simp; omega
theorem fit_5 (e : Bool) (a p lf : Int) (h : 0 ≤ lf ∧ lf ≤ 16) : fitB e a p 5 lf = true := by unfold fitB; simp; omega
theorem fit_less {e : Bool} {a p st lf : Int} (h : fitB e a p st lf = true) (h0 : 0 < lf) : fitB e a p st (lf - 1) = true := by
  have hl := fit_left h
  unfold fitB at h ⊢
  rw [Bool.and_eq_true] at h ⊢
  exact ⟨decide_eq_true (by omega), h.2⟩
theorem sent_ca {e : Bool} {a p : Int} {s : ByteArray} (g : (s.toList == [67, 65]) = true) (h : sentB e a p s = true) : caB e a = true := by
  rcases code_cases s with rfl | rfl | rfl | rfl | rfl | rfl | ⟨k, _⟩
  · rw [sent_1] at h; exact h
  iterate 5 (rw [Lib.toList_data] at g; simp at g)
  · rw [k.h1] at g; cases g
theorem heardS_run {e : Bool} {a p st lf : Int} {s : ByteArray} {number : Bool} (q1 : okB e a p = true) (q2 : fitB e a p st lf = true) : RunOk e a p st lf (heardS e a p st lf s number) := by
  have hl := fit_left q2
  unfold heardS
  rw [if_neg (by simp [q1]), if_neg (by simp [q2])]
  by_cases h0 : (decide (4 ≤ st) || !sentB e a p s) = true
  · rw [if_pos h0]
    exact ⟨rfl, q2, by simp [cntA], fun _ => ⟨rfl, rfl⟩, by simp [cntA] <;> omega, by simp⟩
  rw [if_neg h0]
  have h4 : ¬ 4 ≤ st := fun h => h0 (by simp [h])
  have q3 : sentB e a p s = true := by cases h : sentB e a p s with
    | true => rfl
    | false => exact absurd (by simp [h]) h0
  by_cases g1 : (s.toList == [67, 65]) = true
  · rw [if_pos g1]
    have hca := sent_ca g1 q3
    by_cases h1 : st = 1
    · rw [if_pos h1]
      by_cases h2 : aaB e p = true
      · rw [if_pos h2]
        exact ⟨rfl, by unfold fitB; simp [h2]; omega, by simp [cntA], fun h => absurd h h4, by simp [cntA], by simp⟩
      · rw [if_neg h2]
        by_cases h3 : p = 2
        · rw [if_pos h3]
          refine ⟨rfl, ?_, by simp [cntA], fun h => absurd h h4, by simp [cntA], by simp⟩
          have h2' : aaB e p = false := by simpa using h2
          unfold fitB earB; rw [hca, h2']; simp [h3]; omega
        · rw [if_neg h3]
          exact ⟨rfl, fit_4 _ _ _ _ hl.2.2, by simp [cntA], fun h => absurd h h4, by simp [cntA] <;> omega, by simp⟩
    · rw [if_neg h1]
      exact ⟨rfl, q2, by simp [cntA], fun _ => ⟨rfl, rfl⟩, by simp [cntA] <;> omega, by simp⟩
  · rw [if_neg g1]
    by_cases g2 : (number && (s.toList == [67, 69] || s.toList == [65, 69])) = true
    · rw [if_pos g2]
      by_cases g3 : (caB e a && !decide (st = 1)) = true
      · rw [if_pos g3]
        exact ⟨rfl, q2, by simp [cntA], fun _ => ⟨rfl, rfl⟩, by simp [cntA] <;> omega, by simp⟩
      · rw [if_neg g3]
        by_cases h3 : 0 < lf
        · rw [if_pos h3]
          exact ⟨rfl, fit_less q2 h3, by simp [cntA], fun h => absurd h h4, by simp [cntA] <;> omega, by simp⟩
        · rw [if_neg h3]
          exact ⟨rfl, fit_4 _ _ _ _ hl.2.2, by simp [cntA], fun h => absurd h h4, by simp [cntA] <;> omega, by simp⟩
    · rw [if_neg g2]
      exact ⟨rfl, fit_4 _ _ _ _ hl.2.2, by simp [cntA], fun h => absurd h h4, by simp [cntA] <;> omega, by simp⟩
theorem dueS_run {e : Bool} {a p st lf : Int} (q1 : okB e a p = true) (q2 : fitB e a p st lf = true) : RunOk e a p st lf (dueS e a p st lf) ∧ (need (dueS e a p st lf).st (dueS e a p st lf).lf ≤ need st lf - 1 ∨ 4 ≤ (dueS e a p st lf).st) := by
  have hl := fit_left q2
  unfold dueS
  rw [if_neg (by simp [q1]), if_neg (by simp [q2])]
  by_cases h4 : 4 ≤ st
  · rw [if_pos h4]
    exact ⟨⟨rfl, q2, by simp [cntA], fun _ => ⟨rfl, rfl⟩, by simp [cntA] <;> omega, by simp⟩, Or.inr h4⟩
  rw [if_neg h4]
  by_cases h3 : st = 3
  · rw [if_pos h3]
    exact ⟨⟨rfl, fit_5 _ _ _ _ hl.2.2, by simp [cntA], fun h => absurd h h4, by simp [cntA] <;> omega, by simp⟩, Or.inr (by simp)⟩
  rw [if_neg h3]
  by_cases h0 : 0 < lf
  · rw [if_pos h0]
    refine ⟨⟨rfl, fit_less q2 h0, by simp [cntA], fun h => absurd h h4, by simp [cntA] <;> omega, by simp⟩, Or.inl ?_⟩
    unfold need; simp only [h4, h3, if_false]; omega
  · rw [if_neg h0]
    refine ⟨⟨rfl, ?_, by simp [cntA] <;> omega, fun h => absurd h h4, by simp [cntA] <;> omega, by simp⟩, Or.inr (by simp)⟩
    have hk : caB e a = true ∨ aaB e p = true := by
      unfold fitB at q2
      rw [Bool.and_eq_true] at q2
      have h2 := q2.2
      by_cases h1 : st = 1
      · rw [if_pos h1] at h2; exact Or.inl h2
      · rw [if_neg h1, if_pos (by omega)] at h2; exact Or.inr h2
    unfold fitB
    rcases hk with k | k <;> simp [k]
theorem need_bd {e : Bool} {a p st lf : Int} (h : fitB e a p st lf = true) : 0 ≤ need st lf ∧ need st lf ≤ lf + 1 ∧ (need st lf ≤ 0 → 4 ≤ st) := by
  have hl := fit_left h
  unfold need
  split
  · exact ⟨by omega, by omega, fun _ => by assumption⟩
  · split
    · exact ⟨by omega, by omega, fun h => by omega⟩
    · exact ⟨by omega, by omega, fun h => by omega⟩
/-- A start. -/
theorem startS_run {e : Bool} {a p t : Int} {noted : Bool} (q1 : okB e a p = true) (ht : 0 ≤ t ∧ t ≤ 16) (hn : noted = true → caB e a = true) : (startS e a p t noted).n = 0 ∧ (startS e a p t noted).lf = t ∧ fitB e a p (startS e a p t noted).st t = true ∧ cntA 4 (startS e a p t noted).l = (if 4 ≤ (startS e a p t noted).st then 1 else 0) ∧ (startS e a p t noted).l.length ≤ 3 := by
  unfold startS
  rw [if_neg (by simp [q1]), if_neg (by omega)]
  have g : ¬ (noted && !caB e a) = true := by
    cases hx : noted with
    | false => simp
    | true => simp [hn hx]
  rw [if_neg g]
  by_cases h1 : (caB e a && !noted) = true
  · rw [if_pos h1]
    rw [Bool.and_eq_true] at h1
    exact ⟨rfl, rfl, by unfold fitB; simp [h1.1]; omega, by simp [cntA], by simp⟩
  rw [if_neg h1]
  by_cases h2 : aaB e p = true
  · rw [if_pos h2]
    exact ⟨rfl, rfl, by unfold fitB; simp [h2]; omega, by simp [cntA], by simp⟩
  rw [if_neg h2]
  by_cases h3 : earB e a p noted = true
  · rw [if_pos h3]
    refine ⟨rfl, rfl, ?_, by simp [cntA], by simp⟩
    have hc : caB e a = noted := by
      cases hx : caB e a <;> cases hy : noted
      · rfl
      · rw [hn hy] at hx; cases hx
      · rw [hx, hy] at h1; simp at h1
      · rfl
    unfold fitB; rw [hc, h3]; simp; omega
  rw [if_neg h3]
  by_cases h4 : noted = true
  · rw [if_pos h4]
    exact ⟨rfl, rfl, fit_4 _ _ _ _ ht, by simp [cntA], by simp⟩
  · rw [if_neg h4]
    exact ⟨rfl, rfl, fit_5 _ _ _ _ ht, by simp [cntA], by simp⟩
end Go.Proofs.YtoijhecphgdfnaaDoor

/-
  What the calls answer and leave, of lists of messages alone; the same of lists whose texts lie elsewhere. Of no program.
-/
namespace Go.Proofs.YtoijhecphgdfnaaDoor
open Go.RowKit

theorem doS_don {ms : List Msg} {m m' : Msg} {i : Nat} {x : Int} {l : ActL} (hf : fi m.ct ms = some i) (he : m'.ct = m.ct) : doS ms m' x l = donS ms i m' x l := by
  have hc : (tksS x (m', false) l).1.ct = m.ct := by rw [(tksS_ct x l (m', false)).1, he]
  unfold doS donS delS putS
  rw [hc, hf]
theorem tks_wi (x : Int) (a : Option Addr) (c : Nat) (l : ActL) : ∀ t : Msg × Bool, tksS x (t.1.wi a c, t.2) l = ((tksS x t l).1.wi a c, (tksS x t l).2) := by
  induction l with
  | nil => intro t; rfl
  | cons y r ih =>
    intro t
    have e : ∀ u, tksS x u (y :: r) = tksS x (tkS x u y.1) r := fun _ => rfl
    rw [e, e, ← ih]
    congr 1
    unfold tkS Msg.wi
    split
    · rfl
    split
    · rfl
    split <;> rfl
section
variable {ms rs : List Msg} {sq : Bool} {tr : Int}
theorem Wis.at_ (h : Wis ms rs) {i : Nat} {m : Msg} (hm : ms[i]? = some m) : ∃ y a c, rs[i]? = some y ∧ m = y.wi a c := by
  have hi := (List.getElem?_eq_some_iff.1 hm).1
  obtain ⟨y, hy⟩ : ∃ y, rs[i]? = some y := ⟨_, List.getElem?_eq_getElem (by rw [← h.1]; exact hi)⟩
  obtain ⟨a, c, e⟩ := h.2 i m y hm hy
  exact ⟨y, a, c, hy, e⟩
theorem Wis.at_none (h : Wis ms rs) {i : Nat} (hm : ms[i]? = none) : rs[i]? = none := by
  rw [List.getElem?_eq_none_iff] at hm ⊢
  rw [← h.1]; exact hm
theorem Wis.set (h : Wis ms rs) {i : Nat} {m y : Msg} (he : ∃ a c, m = y.wi a c) : Wis (ms.set i m) (rs.set i y) := by
  refine ⟨by simp [h.1], fun j u z hu hz => ?_⟩
  rw [List.getElem?_set] at hu hz
  by_cases e : i = j
  · subst e
    rw [if_pos rfl] at hu hz
    have hi : i < ms.length := by
      by_cases g : i < ms.length
      · exact g
      · rw [if_neg g] at hu; cases hu
    rw [if_pos hi] at hu
    rw [if_pos (by rw [← h.1]; exact hi)] at hz
    simp only [Option.some.injEq] at hu hz
    subst hu; subst hz
    exact he
  · rw [if_neg e] at hu hz
    exact h.2 j u z hu hz
theorem Wis.erase (h : Wis ms rs) (i : Nat) : Wis (ms.eraseIdx i) (rs.eraseIdx i) := by
  refine ⟨by simp [List.length_eraseIdx, h.1], fun j u z hu hz => ?_⟩
  rw [List.getElem?_eraseIdx] at hu hz
  split at hu
  · rename_i e; rw [if_pos e] at hz; exact h.2 j u z hu hz
  · rename_i e; rw [if_neg e] at hz; exact h.2 _ u z hu hz
theorem Wis.don (h : Wis ms rs) {i : Nat} {m y : Msg} (he : ∃ a c, m = y.wi a c) (x : Int) (l : ActL) : Wis (donS ms i m x l) (donS rs i y x l) := by
  obtain ⟨a, c, rfl⟩ := he
  have e := tks_wi x a c l (y, false)
  unfold donS
  rw [show tksS x (y.wi a c, false) l = _ from e]
  split
  · exact h.erase i
  · exact h.set ⟨a, c, rfl⟩
theorem Wis.fi (h : Wis ms rs) (s : ByteArray) : Go.Proofs.YtoijhecphgdfnaaDoor.fi s ms = Go.Proofs.YtoijhecphgdfnaaDoor.fi s rs := by rw [fi_ids_eq, fi_ids_eq, h.ids]
theorem Wis.tail {m y : Msg} (h : Wis (m :: ms) (y :: rs)) : (∃ a c, m = y.wi a c) ∧ Wis ms rs := ⟨h.2 0 m y rfl rfl, by have := h.1; simpa using this, fun i u z hu hz => h.2 (i + 1) u z (by simpa using hu) (by simpa using hz)⟩
theorem Wis.nx : ∀ {ms rs : List Msg}, Wis ms rs → nxI sq ms = nxI sq rs
  | [], [], _ => rfl
  | [], y :: r, h => by have := h.1; simp at this
  | m :: l, [], h => by have := h.1; simp at this
  | m :: l, y :: r, h => by
    obtain ⟨⟨a, c, rfl⟩, ht⟩ := h.tail
    unfold nxI
    rw [Wis.nx ht]
theorem Wis.addC (h : Wis ms rs) (m : Msg) : Go.Proofs.YtoijhecphgdfnaaDoor.addC sq ms m = Go.Proofs.YtoijhecphgdfnaaDoor.addC sq rs m := by
  unfold Go.Proofs.YtoijhecphgdfnaaDoor.addC
  rw [h.1, refS_wis h]
end
/-- A call's answer: the deeds, what is left, the code. -/
structure CaA where
  ds : List Deed
  ms : List Msg
  cd : Int
def goA (sq : Bool) (tr : Int) (ms : List Msg) : CaA :=
  match nxI sq ms with
  | none => ⟨[], ms, 281⟩
  | some i => match ms[i]? with
    | none => ⟨[], ms, 281⟩
    | some m => if (sq && (m.nu == 0)) = true then ⟨[], ms, 281⟩ else
      ⟨deedsS m.ct (startS m.e m.a m.p tr m.nt).l, donS ms i { m with st := (startS m.e m.a m.p tr m.nt).st, lf := (startS m.e m.a m.p tr m.nt).lf, un := true } 0 (startS m.e m.a m.p tr m.nt).l, 0⟩
def dueA (ms : List Msg) (s : ByteArray) : CaA :=
  match fi s ms with
  | none => ⟨[], ms, 11⟩
  | some i => match ms[i]? with
    | none => ⟨[], ms, 11⟩
    | some m => if m.un = false then ⟨[], ms, 281⟩ else
      ⟨deedsS m.ct (dueS m.e m.a m.p m.st m.lf).l, donS ms i { m with st := (dueS m.e m.a m.p m.st m.lf).st, lf := (dueS m.e m.a m.p m.st m.lf).lf } 0 (dueS m.e m.a m.p m.st m.lf).l, 0⟩
def heardA (sq : Bool) (ms : List Msg) (s cd : ByteArray) (x : Int) : CaA :=
  match fi s ms with
  | none => ⟨[], ms, 11⟩
  | some i => match ms[i]? with
    | none => ⟨[], ms, 11⟩
    | some m => if m.un = false then ⟨[], ms, 281⟩ else if x < 0 ∨ 2147483647 < x then ⟨[], ms, 282⟩ else
      if strB sq m.nu cd x = true then ⟨deedsS s [(6, nT)], ms, 0⟩ else
      ⟨deedsS m.ct (heardS m.e m.a m.p m.st m.lf cd (sq && decide (0 < x))).l, donS ms i { m with st := (heardS m.e m.a m.p m.st m.lf cd (sq && decide (0 < x))).st, lf := (heardS m.e m.a m.p m.st m.lf cd (sq && decide (0 < x))).lf } x (heardS m.e m.a m.p m.st m.lf cd (sq && decide (0 < x))).l, 0⟩
/-- Answers that are the same, the texts elsewhere. -/
structure CaA.Same (y z : CaA) : Prop where
  ds : y.ds = z.ds
  cd : y.cd = z.cd
  ms : Wis y.ms z.ms
section
variable {ms rs : List Msg} {sq : Bool} {tr : Int}
theorem go_same (h : Wis ms rs) : (goA sq tr ms).Same (goA sq tr rs) := by
  unfold goA
  rw [← h.nx]
  cases nxI sq ms with
  | none => exact ⟨rfl, rfl, h⟩
  | some i =>
    simp only []
    cases hm : ms[i]? with
    | none => rw [h.at_none hm]; exact ⟨rfl, rfl, h⟩
    | some m =>
      obtain ⟨y, a, c, hy, rfl⟩ := h.at_ hm
      rw [hy]
      simp only []
      show CaA.Same (if (sq && (y.nu == 0)) = true then _ else _) _
      split
      · exact ⟨rfl, rfl, h⟩
      · exact ⟨rfl, rfl, h.don (by exact ⟨a, c, rfl⟩) _ _⟩
theorem due_same (h : Wis ms rs) (s : ByteArray) : (dueA ms s).Same (dueA rs s) := by
  unfold dueA
  rw [← h.fi]
  cases fi s ms with
  | none => exact ⟨rfl, rfl, h⟩
  | some i =>
    simp only []
    cases hm : ms[i]? with
    | none => rw [h.at_none hm]; exact ⟨rfl, rfl, h⟩
    | some m =>
      obtain ⟨y, a, c, hy, rfl⟩ := h.at_ hm
      rw [hy]
      simp only []
      show CaA.Same (if y.un = false then _ else _) _
      split
      · exact ⟨rfl, rfl, h⟩
      · exact ⟨rfl, rfl, h.don (by exact ⟨a, c, rfl⟩) _ _⟩
theorem heard_same (h : Wis ms rs) (s cd : ByteArray) (x : Int) : (heardA sq ms s cd x).Same (heardA sq rs s cd x) := by
  unfold heardA
  rw [← h.fi]
  cases fi s ms with
  | none => exact ⟨rfl, rfl, h⟩
  | some i =>
    simp only []
    cases hm : ms[i]? with
    | none => rw [h.at_none hm]; exact ⟨rfl, rfl, h⟩
    | some m =>
      obtain ⟨y, a, c, hy, rfl⟩ := h.at_ hm
      rw [hy]
      simp only []
      show CaA.Same (if y.un = false then _ else _) _
      split
      · exact ⟨rfl, rfl, h⟩
      split
      · exact ⟨rfl, rfl, h⟩
      show CaA.Same (if strB sq y.nu cd x = true then _ else _) _
      split
      · exact ⟨rfl, rfl, h⟩
      · exact ⟨rfl, rfl, h.don (by exact ⟨a, c, rfl⟩) _ _⟩
end
end Go.Proofs.YtoijhecphgdfnaaDoor
