import Derived.Test.YtoijhecphgdfnaaGreatDoorOrHeard
import Derived.Test.YtoijhecphgdfnaaGreatDoorOrHeard2
import Derived.Test.YtoijhecphgdfnaaGreatDoorOxSameL
/-
  What a run of the initiator keeps: of no program.
-/
namespace Go.Proofs.YtoijhecphgdfnaaGreatDoor
open Go.RowKit

/-- How many acts are of a kind. -/
def cntA (k : Int) (l : ActL) : Int := ((l.filter fun y => y.1 == k).length : Nat)
/-- How many Dues it takes at most. -/
def need (st lf : Int) : Int := if 4 ≤ st then 0 else if st = 3 then 1 else lf + 1
structure RunOk (e : Bool) (a p st lf : Int) (x : Ans) : Prop where
  n : x.n = 0
  fit : fitB e a p x.st x.lf = true
  sends : x.lf = lf - cntA 1 x.l
  stays : 4 ≤ st → x.st = st ∧ x.lf = lf
  fin : cntA 4 x.l = (if st < 4 ∧ 4 ≤ x.st then 1 else 0)
  len : x.l.length ≤ 3
theorem fit_4 (e : Bool) (a p lf : Int) (h : 0 ≤ lf ∧ lf ≤ 16) : fitB e a p 4 lf = true := by unfold fitB; simp; omega
theorem fit_5 (e : Bool) (a p lf : Int) (h : 0 ≤ lf ∧ lf ≤ 16) : fitB e a p 5 lf = true := by unfold fitB; simp; omega
theorem fit_less {e : Bool} {a p st lf : Int} (h : fitB e a p st lf = true) (h0 : 0 < lf) : fitB e a p st (lf - 1) = true := by
  have hl := fit_left h
  unfold fitB at h ⊢
  rw [Bool.and_eq_true] at h ⊢
  exact ⟨decide_eq_true (by omega), h.2⟩
theorem sent_ca {e : Bool} {a p : Int} {s : ByteArray} (g : (s.toList == [67, 65]) = true) (h : sentB e a p s = true) : caB e a = true := by
  rcases code_cases s with rfl | rfl | rfl | rfl | rfl | rfl | ⟨k, _⟩
  · rw [sent_1] at h; exact h
  iterate 5 (rw [Lib.toList_data] at g; simp at g)
  · rw [k.h1] at g; cases g
theorem heardS_run {e : Bool} {a p st lf : Int} {s : ByteArray} {number : Bool} (q1 : okB e a p = true) (q2 : fitB e a p st lf = true) : RunOk e a p st lf (heardS e a p st lf s number) := by
  have hl := fit_left q2
  unfold heardS
  rw [if_neg (by simp [q1]), if_neg (by simp [q2])]
  by_cases h0 : (decide (4 ≤ st) || !sentB e a p s) = true
  · rw [if_pos h0]
    exact ⟨rfl, q2, by simp [cntA], fun _ => ⟨rfl, rfl⟩, by simp [cntA] <;> omega, by simp⟩
  rw [if_neg h0]
  have h4 : ¬ 4 ≤ st := fun h => h0 (by simp [h])
  have q3 : sentB e a p s = true := by cases h : sentB e a p s with
    | true => rfl
    | false => exact absurd (by simp [h]) h0
  by_cases g1 : (s.toList == [67, 65]) = true
  · rw [if_pos g1]
    have hca := sent_ca g1 q3
    by_cases h1 : st = 1
    · rw [if_pos h1]
      by_cases h2 : aaB e p = true
      · rw [if_pos h2]
        exact ⟨rfl, by unfold fitB; simp [h2]; omega, by simp [cntA], fun h => absurd h h4, by simp [cntA], by simp⟩
      · rw [if_neg h2]
        by_cases h3 : p = 2
        · rw [if_pos h3]
          refine ⟨rfl, ?_, by simp [cntA], fun h => absurd h h4, by simp [cntA], by simp⟩
          have h2' : aaB e p = false := by simpa using h2
          unfold fitB earB; rw [hca, h2']; simp [h3]; omega
        · rw [if_neg h3]
          exact ⟨rfl, fit_4 _ _ _ _ hl.2.2, by simp [cntA], fun h => absurd h h4, by simp [cntA] <;> omega, by simp⟩
    · rw [if_neg h1]
      exact ⟨rfl, q2, by simp [cntA], fun _ => ⟨rfl, rfl⟩, by simp [cntA] <;> omega, by simp⟩
  · rw [if_neg g1]
    by_cases g2 : (number && (s.toList == [67, 69] || s.toList == [65, 69])) = true
    · rw [if_pos g2]
      by_cases g3 : (caB e a && !decide (st = 1)) = true
      · rw [if_pos g3]
        exact ⟨rfl, q2, by simp [cntA], fun _ => ⟨rfl, rfl⟩, by simp [cntA] <;> omega, by simp⟩
      · rw [if_neg g3]
        by_cases h3 : 0 < lf
        · rw [if_pos h3]
          exact ⟨rfl, fit_less q2 h3, by simp [cntA], fun h => absurd h h4, by simp [cntA] <;> omega, by simp⟩
        · rw [if_neg h3]
          exact ⟨rfl, fit_4 _ _ _ _ hl.2.2, by simp [cntA], fun h => absurd h h4, by simp [cntA] <;> omega, by simp⟩
    · rw [if_neg g2]
      exact ⟨rfl, fit_4 _ _ _ _ hl.2.2, by simp [cntA], fun h => absurd h h4, by simp [cntA] <;> omega, by simp⟩
theorem dueS_run {e : Bool} {a p st lf : Int} (q1 : okB e a p = true) (q2 : fitB e a p st lf = true) : RunOk e a p st lf (dueS e a p st lf) ∧ (need (dueS e a p st lf).st (dueS e a p st lf).lf ≤ need st lf - 1 ∨ 4 ≤ (dueS e a p st lf).st) := by
  have hl := fit_left q2
  unfold dueS
  rw [if_neg (by simp [q1]), if_neg (by simp [q2])]
  by_cases h4 : 4 ≤ st
  · rw [if_pos h4]
    exact ⟨⟨rfl, q2, by simp [cntA], fun _ => ⟨rfl, rfl⟩, by simp [cntA] <;> omega, by simp⟩, Or.inr h4⟩
  rw [if_neg h4]
  by_cases h3 : st = 3
  · rw [if_pos h3]
    exact ⟨⟨rfl, fit_5 _ _ _ _ hl.2.2, by simp [cntA], fun h => absurd h h4, by simp [cntA] <;> omega, by simp⟩, Or.inr (by simp)⟩
  rw [if_neg h3]
  by_cases h0 : 0 < lf
  · rw [if_pos h0]
    refine ⟨⟨rfl, fit_less q2 h0, by simp [cntA], fun h => absurd h h4, by simp [cntA] <;> omega, by simp⟩, Or.inl ?_⟩
    unfold need; simp only [h4, h3, if_false]; omega
  · rw [if_neg h0]
    refine ⟨⟨rfl, ?_, by simp [cntA] <;> omega, fun h => absurd h h4, by simp [cntA] <;> omega, by simp⟩, Or.inr (by simp)⟩
    have hk : caB e a = true ∨ aaB e p = true := by
      unfold fitB at q2
      rw [Bool.and_eq_true] at q2
      have h2 := q2.2
      by_cases h1 : st = 1
      · rw [if_pos h1] at h2; exact Or.inl h2
      · rw [if_neg h1, if_pos (by omega)] at h2; exact Or.inr h2
    unfold fitB
    rcases hk with k | k <;> simp [k]
/-- A start. -/
theorem startS_run {e : Bool} {a p t : Int} {noted : Bool} (q1 : okB e a p = true) (ht : 0 ≤ t ∧ t ≤ 16) (hn : noted = true → caB e a = true) : (startS e a p t noted).n = 0 ∧ (startS e a p t noted).lf = t ∧ fitB e a p (startS e a p t noted).st t = true ∧ cntA 4 (startS e a p t noted).l = (if 4 ≤ (startS e a p t noted).st then 1 else 0) ∧ (startS e a p t noted).l.length ≤ 3 := by
  unfold startS
  rw [if_neg (by simp [q1]), if_neg (by omega)]
  have g : ¬ (noted && !caB e a) = true := by
    cases hx : noted with
    | false => simp
    | true => simp [hn hx]
  rw [if_neg g]
  by_cases h1 : (caB e a && !noted) = true
  · rw [if_pos h1]
    rw [Bool.and_eq_true] at h1
    exact ⟨rfl, rfl, by unfold fitB; simp [h1.1]; omega, by simp [cntA], by simp⟩
  rw [if_neg h1]
  by_cases h2 : aaB e p = true
  · rw [if_pos h2]
    exact ⟨rfl, rfl, by unfold fitB; simp [h2]; omega, by simp [cntA], by simp⟩
  rw [if_neg h2]
  by_cases h3 : earB e a p noted = true
  · rw [if_pos h3]
    refine ⟨rfl, rfl, ?_, by simp [cntA], by simp⟩
    have hc : caB e a = noted := by
      cases hx : caB e a <;> cases hy : noted
      · rfl
      · rw [hn hy] at hx; cases hx
      · rw [hx, hy] at h1; simp at h1
      · rfl
    unfold fitB; rw [hc, h3]; simp; omega
  rw [if_neg h3]
  by_cases h4 : noted = true
  · rw [if_pos h4]
    exact ⟨rfl, rfl, fit_4 _ _ _ _ ht, by simp [cntA], by simp⟩
  · rw [if_neg h4]
    exact ⟨rfl, rfl, fit_5 _ _ _ _ ht, by simp [cntA], by simp⟩
end Go.Proofs.YtoijhecphgdfnaaGreatDoor

/-
  What the calls answer and leave, of lists of messages alone; the same of lists whose texts lie elsewhere. Of no program.
-/
namespace Go.Proofs.YtoijhecphgdfnaaGreatDoor
open Go.RowKit

theorem doS_don {ms : List Msg} {m m' : Msg} {i : Nat} {x : Int} {l : ActL} (hf : fi m.ct ms = some i) (he : m'.ct = m.ct) : doS ms m' x l = donS ms i m' x l := by
  have hc : (tksS x (m', false) l).1.ct = m.ct := by rw [(tksS_ct x l (m', false)).1, he]
  unfold doS donS delS putS
  rw [hc, hf]
theorem tks_wi (x : Int) (a : Option Addr) (c : Nat) (l : ActL) : ∀ t : Msg × Bool, tksS x (t.1.wi a c, t.2) l = ((tksS x t l).1.wi a c, (tksS x t l).2) := by
  induction l with
  | nil => intro t; rfl
  | cons y r ih =>
    intro t
    have e : ∀ u, tksS x u (y :: r) = tksS x (tkS x u y.1) r := fun _ => rfl
    rw [e, e, ← ih]
    congr 1
    unfold tkS Msg.wi
    split
    · rfl
    split
    · rfl
    split <;> rfl
section
variable {ms rs : List Msg} {sq : Bool} {tr : Int}
theorem Wis.at_ (h : Wis ms rs) {i : Nat} {m : Msg} (hm : ms[i]? = some m) : ∃ y a c, rs[i]? = some y ∧ m = y.wi a c := by
  have hi := (List.getElem?_eq_some_iff.1 hm).1
  obtain ⟨y, hy⟩ : ∃ y, rs[i]? = some y := ⟨_, List.getElem?_eq_getElem (by rw [← h.1]; exact hi)⟩
  obtain ⟨a, c, e⟩ := h.2 i m y hm hy
  exact ⟨y, a, c, hy, e⟩
theorem Wis.at_none (h : Wis ms rs) {i : Nat} (hm : ms[i]? = none) : rs[i]? = none := by
  rw [List.getElem?_eq_none_iff] at hm ⊢
  rw [← h.1]; exact hm
theorem Wis.set (h : Wis ms rs) {i : Nat} {m y : Msg} (he : ∃ a c, m = y.wi a c) : Wis (ms.set i m) (rs.set i y) := by
  refine ⟨by simp [h.1], fun j u z hu hz => ?_⟩
  rw [List.getElem?_set] at hu hz
  by_cases e : i = j
  · subst e
    rw [if_pos rfl] at hu hz
    have hi : i < ms.length := by
      by_cases g : i < ms.length
      · exact g
      · rw [if_neg g] at hu; cases hu
    rw [if_pos hi] at hu
    rw [if_pos (by rw [← h.1]; exact hi)] at hz
    simp only [Option.some.injEq] at hu hz
    subst hu; subst hz
    exact he
  · rw [if_neg e] at hu hz
    exact h.2 j u z hu hz
theorem Wis.erase (h : Wis ms rs) (i : Nat) : Wis (ms.eraseIdx i) (rs.eraseIdx i) := by
  refine ⟨by simp [List.length_eraseIdx, h.1], fun j u z hu hz => ?_⟩
  rw [List.getElem?_eraseIdx] at hu hz
  split at hu
  · rename_i e; rw [if_pos e] at hz; exact h.2 j u z hu hz
  · rename_i e; rw [if_neg e] at hz; exact h.2 _ u z hu hz
theorem Wis.don (h : Wis ms rs) {i : Nat} {m y : Msg} (he : ∃ a c, m = y.wi a c) (x : Int) (l : ActL) : Wis (donS ms i m x l) (donS rs i y x l) := by
  obtain ⟨a, c, rfl⟩ := he
  have e := tks_wi x a c l (y, false)
  unfold donS
  rw [show tksS x (y.wi a c, false) l = _ from e]
  split
  · exact h.erase i
  · exact h.set ⟨a, c, rfl⟩
theorem Wis.fi (h : Wis ms rs) (s : ByteArray) : Go.Proofs.YtoijhecphgdfnaaGreatDoor.fi s ms = Go.Proofs.YtoijhecphgdfnaaGreatDoor.fi s rs := by rw [fi_ids_eq, fi_ids_eq, h.ids]
theorem Wis.tail {m y : Msg} (h : Wis (m :: ms) (y :: rs)) : (∃ a c, m = y.wi a c) ∧ Wis ms rs := ⟨h.2 0 m y rfl rfl, by have := h.1; simpa using this, fun i u z hu hz => h.2 (i + 1) u z (by simpa using hu) (by simpa using hz)⟩
theorem Wis.nx : ∀ {ms rs : List Msg}, Wis ms rs → nxI sq ms = nxI sq rs
  | [], [], _ => rfl
  | [], y :: r, h => by have := h.1; simp at this
  | m :: l, [], h => by have := h.1; simp at this
  | m :: l, y :: r, h => by
    obtain ⟨⟨a, c, rfl⟩, ht⟩ := h.tail
    unfold nxI
    rw [Wis.nx ht]
theorem Wis.addC (h : Wis ms rs) (m : Msg) : Go.Proofs.YtoijhecphgdfnaaGreatDoor.addC sq ms m = Go.Proofs.YtoijhecphgdfnaaGreatDoor.addC sq rs m := by
  unfold Go.Proofs.YtoijhecphgdfnaaGreatDoor.addC
  rw [h.1, refS_wis h]
end
/-- A call's answer: the deeds, what is left, the code. -/
structure CaA where
  ds : List Deed
  ms : List Msg
  cd : Int
def goA (sq : Bool) (tr : Int) (ms : List Msg) : CaA :=
  match nxI sq ms with
  | none => ⟨[], ms, 281⟩
  | some i => match ms[i]? with
    | none => ⟨[], ms, 281⟩
    | some m => if (sq && (m.nu == 0)) = true then ⟨[], ms, 281⟩ else
      ⟨deedsS m.ct (startS m.e m.a m.p tr m.nt).l, donS ms i { m with st := (startS m.e m.a m.p tr m.nt).st, lf := (startS m.e m.a m.p tr m.nt).lf, un := true } 0 (startS m.e m.a m.p tr m.nt).l, 0⟩
def dueA (ms : List Msg) (s : ByteArray) : CaA :=
  match fi s ms with
  | none => ⟨[], ms, 11⟩
  | some i => match ms[i]? with
    | none => ⟨[], ms, 11⟩
    | some m => if m.un = false then ⟨[], ms, 281⟩ else
      ⟨deedsS m.ct (dueS m.e m.a m.p m.st m.lf).l, donS ms i { m with st := (dueS m.e m.a m.p m.st m.lf).st, lf := (dueS m.e m.a m.p m.st m.lf).lf } 0 (dueS m.e m.a m.p m.st m.lf).l, 0⟩
def heardA (sq : Bool) (ms : List Msg) (s cd : ByteArray) (x : Int) : CaA :=
  match fi s ms with
  | none => ⟨[], ms, 11⟩
  | some i => match ms[i]? with
    | none => ⟨[], ms, 11⟩
    | some m => if m.un = false then ⟨[], ms, 281⟩ else if x < 0 ∨ 2147483647 < x then ⟨[], ms, 282⟩ else
      if strB sq m.nu cd x = true then ⟨deedsS s [(6, nT)], ms, 0⟩ else
      ⟨deedsS m.ct (heardS m.e m.a m.p m.st m.lf cd (sq && decide (0 < x))).l, donS ms i { m with st := (heardS m.e m.a m.p m.st m.lf cd (sq && decide (0 < x))).st, lf := (heardS m.e m.a m.p m.st m.lf cd (sq && decide (0 < x))).lf } x (heardS m.e m.a m.p m.st m.lf cd (sq && decide (0 < x))).l, 0⟩
/-- Answers that are the same, the texts elsewhere. -/
structure CaA.Same (y z : CaA) : Prop where
  ds : y.ds = z.ds
  cd : y.cd = z.cd
  ms : Wis y.ms z.ms
section
variable {ms rs : List Msg} {sq : Bool} {tr : Int}
theorem go_same (h : Wis ms rs) : (goA sq tr ms).Same (goA sq tr rs) := by
  unfold goA
  rw [← h.nx]
  cases nxI sq ms with
  | none => exact ⟨rfl, rfl, h⟩
  | some i =>
    simp only []
    cases hm : ms[i]? with
    | none => rw [h.at_none hm]; exact ⟨rfl, rfl, h⟩
    | some m =>
      obtain ⟨y, a, c, hy, rfl⟩ := h.at_ hm
      rw [hy]
      simp only []
      show CaA.Same (if (sq && (y.nu == 0)) = true then _ else _) _
      split
      · exact ⟨rfl, rfl, h⟩
      · exact ⟨rfl, rfl, h.don (by exact ⟨a, c, rfl⟩) _ _⟩
theorem due_same (h : Wis ms rs) (s : ByteArray) : (dueA ms s).Same (dueA rs s) := by
  unfold dueA
  rw [← h.fi]
  cases fi s ms with
  | none => exact ⟨rfl, rfl, h⟩
  | some i =>
    simp only []
    cases hm : ms[i]? with
    | none => rw [h.at_none hm]; exact ⟨rfl, rfl, h⟩
    | some m =>
      obtain ⟨y, a, c, hy, rfl⟩ := h.at_ hm
      rw [hy]
      simp only []
      show CaA.Same (if y.un = false then _ else _) _
      split
      · exact ⟨rfl, rfl, h⟩
      · exact ⟨rfl, rfl, h.don (by exact ⟨a, c, rfl⟩) _ _⟩
theorem heard_same (h : Wis ms rs) (s cd : ByteArray) (x : Int) : (heardA sq ms s cd x).Same (heardA sq rs s cd x) := by
  unfold heardA
  rw [← h.fi]
  cases fi s ms with
  | none => exact ⟨rfl, rfl, h⟩
  | some i =>
    simp only []
    cases hm : ms[i]? with
    | none => rw [h.at_none hm]; exact ⟨rfl, rfl, h⟩
    | some m =>
      obtain ⟨y, a, c, hy, rfl⟩ := h.at_ hm
      rw [hy]
      simp only []
      show CaA.Same (if y.un = false then _ else _) _
      split
      · exact ⟨rfl, rfl, h⟩
      split
      · exact ⟨rfl, rfl, h⟩
      show CaA.Same (if strB sq y.nu cd x = true then _ else _) _
      split
      · exact ⟨rfl, rfl, h⟩
      · exact ⟨rfl, rfl, h.don (by exact ⟨a, c, rfl⟩) _ _⟩
end
end Go.Proofs.YtoijhecphgdfnaaGreatDoor

/-
  What stays true of a box from call to call. Of no program.
-/
namespace Go.Proofs.YtoijhecphgdfnaaGreatDoor
open Go.RowKit

/-- A box that Load made, whatever was called since. -/
structure Okk (sq : Bool) (tr : Int) (ms : List Msg) : Prop where
  t0 : 0 ≤ tr
  t1 : tr ≤ 16
  bk : Bk sq ms
  fit : ∀ m ∈ ms, m.un = true → fitB m.e m.a m.p m.st m.lf = true
theorem tks_st (x : Int) (l : ActL) : ∀ t : Msg × Bool, (tksS x t l).1.st = t.1.st ∧ (tksS x t l).1.lf = t.1.lf := by
  induction l with
  | nil => intro t; exact ⟨rfl, rfl⟩
  | cons y r ih =>
    intro t
    have e : tksS x t (y :: r) = tksS x (tkS x t y.1) r := rfl
    rw [e]
    have k : (tkS x t y.1).1.st = t.1.st ∧ (tkS x t y.1).1.lf = t.1.lf := by
      unfold tkS
      split
      · exact ⟨rfl, rfl⟩
      split
      · exact ⟨rfl, rfl⟩
      split <;> exact ⟨rfl, rfl⟩
    exact ⟨(ih _).1.trans k.1, (ih _).2.trans k.2⟩
theorem un_eta {m : Msg} (h : m.un = true) (st lf : Int) : ({ m with st := st, lf := lf } : Msg) = { m with st := st, lf := lf, un := true } := by
  cases m
  simp only at h
  subst h
  rfl
theorem un_eta0 {m : Msg} (h : m.un = true) : ({ m with un := true } : Msg) = m := by
  cases m
  simp only at h
  subst h
  rfl
section
variable {ms : List Msg} {sq : Bool} {tr : Int} {m : Msg} {i : Nat} {st lf x : Int} {l : ActL}
theorem okk_do (h : Okk sq tr ms) (hm : ms[i]? = some m) (hs : sq = true → i = 0) (h5 : ∀ y ∈ l, (y.1 = 5 → sq = true ∧ nmB x = true) ∧ (y.1 = 3 → caB m.e m.a = true)) (hf : fitB m.e m.a m.p st lf = true) : Okk sq tr (donS ms i { m with st := st, lf := lf, un := true } x l) := by
  have e := doS_don (ms := ms) (m := m) (m' := { m with st := st, lf := lf, un := true }) (x := x) (l := l) (fi_at h.bk.id hm) rfl
  refine ⟨h.t0, h.t1, by rw [← e]; exact bk_do h.bk hm hs h5, fun y hy hu => ?_⟩
  unfold donS at hy
  split at hy
  · exact h.fit y (List.mem_of_mem_eraseIdx hy) hu
  · rcases mem_set hy with g | rfl
    · exact h.fit y g hu
    · obtain ⟨k1, k2, k3, _⟩ := tks_keep x l ({ m with st := st, lf := lf, un := true }, false)
      obtain ⟨k4, k5⟩ := tks_st x l ({ m with st := st, lf := lf, un := true }, false)
      rw [k1, k2, k3, k4, k5]
      exact hf
theorem un_zero (h : Okk sq tr ms) (hm : ms[i]? = some m) (hu : m.un = true) : sq = true → i = 0 := fun hq => by
  rcases Nat.eq_zero_or_pos i with g | g
  · exact g
  · have := h.bk.un hq i m g hm
    rw [hu] at this; cases this
theorem ok_start (h : Okk sq tr ms) (hm : ms[i]? = some m) : (startS m.e m.a m.p tr m.nt).n = 0 ∧ fitB m.e m.a m.p (startS m.e m.a m.p tr m.nt).st (startS m.e m.a m.p tr m.nt).lf = true := by
  obtain ⟨_, _, o3⟩ := h.bk.ok m (List.mem_of_getElem? hm)
  rw [Bool.and_eq_true] at o3
  have := startS_run (t := tr) (noted := m.nt) o3.1 ⟨h.t0, h.t1⟩ fun hn => by
    have g := o3.2
    rw [hn] at g
    simpa using g
  exact ⟨this.1, by rw [this.2.1]; exact this.2.2.1⟩
theorem ok_due (h : Okk sq tr ms) (hm : ms[i]? = some m) (hu : m.un = true) : (dueS m.e m.a m.p m.st m.lf).n = 0 ∧ fitB m.e m.a m.p (dueS m.e m.a m.p m.st m.lf).st (dueS m.e m.a m.p m.st m.lf).lf = true := by
  obtain ⟨_, _, o3⟩ := h.bk.ok m (List.mem_of_getElem? hm)
  rw [Bool.and_eq_true] at o3
  have := (dueS_run o3.1 (h.fit m (List.mem_of_getElem? hm) hu)).1
  exact ⟨this.n, this.fit⟩
theorem ok_heard (h : Okk sq tr ms) (hm : ms[i]? = some m) (hu : m.un = true) (s : ByteArray) (T : Bool) : (heardS m.e m.a m.p m.st m.lf s T).n = 0 ∧ fitB m.e m.a m.p (heardS m.e m.a m.p m.st m.lf s T).st (heardS m.e m.a m.p m.st m.lf s T).lf = true := by
  obtain ⟨_, _, o3⟩ := h.bk.ok m (List.mem_of_getElem? hm)
  rw [Bool.and_eq_true] at o3
  have := heardS_run (s := s) (number := T) o3.1 (h.fit m (List.mem_of_getElem? hm) hu)
  exact ⟨this.n, this.fit⟩
theorem okk_go (h : Okk sq tr ms) : Okk sq tr (goA sq tr ms).ms := by
  unfold goA
  cases hn : nxI sq ms with
  | none => exact h
  | some i =>
    simp only []
    cases hm : ms[i]? with
    | none => exact h
    | some m =>
      simp only []
      split
      · exact h
      · obtain ⟨_, _, _, _, hz, _⟩ := nxI_some hn
        exact okk_do h hm hz (fun y hy => ⟨fun e => absurd e (start_no5 _ _ _ _ _ y hy).1, fun e => absurd e (start_no5 _ _ _ _ _ y hy).2⟩) (ok_start h hm).2
theorem okk_due (h : Okk sq tr ms) (s : ByteArray) : Okk sq tr (dueA ms s).ms := by
  unfold dueA
  cases hn : fi s ms with
  | none => exact h
  | some i =>
    simp only []
    cases hm : ms[i]? with
    | none => exact h
    | some m =>
      simp only []
      split
      · exact h
      · rename_i hu
        have hu : m.un = true := (Bool.not_eq_false _).mp hu
        show Okk sq tr (donS ms i { m with st := _, lf := _ } 0 _)
        rw [un_eta hu]
        exact okk_do h hm (un_zero h hm hu) (fun y hy => ⟨fun e => absurd e (due_no5 _ _ _ _ _ y hy).1, fun e => absurd e (due_no5 _ _ _ _ _ y hy).2⟩) (ok_due h hm hu).2
theorem okk_heard (h : Okk sq tr ms) (s cd : ByteArray) (x : Int) : Okk sq tr (heardA sq ms s cd x).ms := by
  unfold heardA
  cases hn : fi s ms with
  | none => exact h
  | some i =>
    simp only []
    cases hm : ms[i]? with
    | none => exact h
    | some m =>
      simp only []
      split
      · exact h
      split
      · exact h
      split
      · exact h
      · rename_i hu hx _
        have hu : m.un = true := (Bool.not_eq_false _).mp hu
        show Okk sq tr (donS ms i { m with st := _, lf := _ } x _)
        rw [un_eta hu]
        refine okk_do h hm (un_zero h hm hu) (fun y hy => ⟨fun e => ?_, heard_3 _ _ _ _ _ _ _ y hy⟩) (ok_heard h hm hu _ _).2
        have := heard_5 _ _ _ _ _ _ _ y hy e
        simp only [Bool.and_eq_true, decide_eq_true_eq] at this
        refine ⟨this.1, ?_⟩
        unfold nmB
        simp only [Bool.and_eq_true, decide_eq_true_eq]
        omega
theorem okk_add (h : Okk sq tr ms) (hc : addC sq ms m = 0) (hu : m.un = false) : Okk sq tr (ms ++ [m]) := by
  refine ⟨h.t0, h.t1, h.bk.snoc ?_ hu, fun y hy hy2 => ?_⟩
  · unfold addC at hc
    split at hc
    · cases hc
    · exact hc
  · rcases List.mem_append.1 hy with g | g
    · exact h.fit y g hy2
    · obtain rfl : y = m := by simpa using g
      rw [hu] at hy2; cases hy2
theorem okk_give (h : Okk sq tr ms) (hs : sq = true) (hm : ms[0]? = some m) (hg : nmB x = true) : Okk sq tr (ms.set 0 { m with nu := x }) := by
  refine ⟨h.t0, h.t1, h.bk.set hm rfl (h.bk.ok m (List.mem_of_getElem? hm)) (fun _ => ⟨hs, rfl, hg⟩) (fun _ g2 => by omega), fun y hy hu => ?_⟩
  rcases mem_set hy with g | rfl
  · exact h.fit y g hu
  · exact h.fit m (List.mem_of_getElem? hm) hu
end
end Go.Proofs.YtoijhecphgdfnaaGreatDoor

/-
  Both boxes' calls, in the words of OrPure.
-/
namespace Go.Proofs.YtoijhecphgdfnaaGreatDoor
open Go.RowKit

/-- An error told: none, or a fault of that place and code. -/
def ErrV (w : World) (ev : Value) (at_ cd : Int) : Prop := (cd = 0 ∧ ev = .nilIface) ∨ (cd ≠ 0 ∧ ∃ z, ev = .iface 122 (.pointer (some ⟨z, 0, none⟩)) ∧ OFault w z at_ cd)
theorem OEv.err {w : World} {B : Nat} {v : Value} {a c : Int} (h : OEv w B v a c) : ErrV w v a c := by
  rcases h with ⟨h1, h2⟩ | ⟨h0, b, h1, _, h3⟩
  · exact Or.inl ⟨h2, h1⟩
  · exact Or.inr ⟨h0, b, h1, h3⟩
/-- Behind writes that are elsewhere. -/
theorem OEv.off {P : Nat → Prop} {w w' : World} {B : Nat} {v : Value} {a c : Int} (h : OEv w B v a c) (o : Off P w w') (hP : ∀ q, B ≤ q → q < w.heap.size → ¬ P q) : OEv w' B v a c := h.keep fun b q hl hB => o.cell (p := ⟨b, q, none⟩) hl (hP b hB hl)
/-- What a call of the program's that answers deeds leaves. -/
def PcQ (w : World) (b kb : Nat) (v : Value) (sq : Bool) (tr : Int) (y : CaA) (e : Ending) (w' : World) : Prop :=
  ∃ a c ev, e = .returned (.tuple #[.slice a y.ds.length c, ev]) ∧ Hid (DRow w' w.heap.size (.slice a y.ds.length c) y.ds ∧ OEv w' w.heap.size ev 0 y.cd ∧ BxQ w b kb v sq tr y.ms w')
/-- What a call of the program's that answers an error alone leaves. -/
def PeQ (w : World) (b kb : Nat) (v : Value) (sq : Bool) (tr : Int) (ms' : List Msg) (cd : Int) (e : Ending) (w' : World) : Prop :=
  ∃ ev, e = .returned ev ∧ Hid (OEv w' w.heap.size ev 0 cd ∧ BxQ w b kb v sq tr ms' w')
section
variable {w w' : World} {b kb : Nat} {v : Value} {sq : Bool} {tr : Int} {ms : List Msg}
theorem bxq_below (h : Bx w b kb v sq tr ms) (hb : Below w.heap.size w w') : BxQ w b kb v sq tr ms w' := ⟨v, h.below hb, Off.of_below hb, fun _ e => Or.inl e⟩
theorem pc_no {cd : Int} {f : Nat} {xs : Array Value} (h : Bx w b kb v sq tr ms) (hc : cd ≠ 0) (hq : Calls Tryz.prog f xs w (DFl w cd)) : Calls Tryz.prog f xs w (PcQ w b kb v sq tr ⟨[], ms, cd⟩) :=
  hq.mono fun _ _ ⟨z, he, hz, hf, hb⟩ => ⟨none, 0, _, he, ERow.nil _ _ _ _ _, Or.inr ⟨hc, z, rfl, hz, hf⟩, bxq_below h hb⟩
theorem pc_yes {ds : List Deed} {ms' : List Msg} {f : Nat} {xs : Array Value} (hq : Calls Tryz.prog f xs w (DoQ w b kb v sq tr ds ms')) : Calls Tryz.prog f xs w (PcQ w b kb v sq tr ⟨ds, ms', 0⟩) :=
  hq.mono fun _ _ ⟨a, c, he, hr, hb⟩ => ⟨a, c, _, he, hr, Or.inl ⟨rfl, rfl⟩, hb⟩
theorem pe_no {cd : Int} {f : Nat} {xs : Array Value} (h : Bx w b kb v sq tr ms) (hc : cd ≠ 0) (hq : Calls Tryz.prog f xs w (Fl w 0 cd)) : Calls Tryz.prog f xs w (PeQ w b kb v sq tr ms cd) :=
  hq.mono fun _ _ ⟨z, he, hz, hf, hb⟩ => ⟨_, he, Or.inr ⟨hc, z, rfl, hz, hf⟩, bxq_below h hb⟩
theorem pGo (h : Bx w b kb v sq tr ms) (hV : PVc w) (hk : Okk sq tr ms) : Calls Tryz.prog 23 #[.pointer (some ⟨b, 0, none⟩)] w (PcQ w b kb v sq tr (goA sq tr ms)) := by
  unfold goA
  cases hn : nxI sq ms with
  | none => exact pc_no h (by decide) (go_none h (nxI_none.1 hn))
  | some i =>
    obtain ⟨m, hm, hnx, hu, _, _⟩ := nxI_some hn
    simp only []
    rw [hm]
    simp only []
    by_cases hq : (sq && (m.nu == 0)) = true
    · rw [if_pos hq]
      simp only [Bool.and_eq_true, beq_iff_eq] at hq
      obtain ⟨rfl, h0⟩ := hq
      exact pc_no h (by decide) (go_unnumbered h hnx h0)
    · rw [if_neg hq, ← doS_don (m := m) (m' := { m with st := _, lf := _, un := true }) (fi_at hk.bk.id hm) rfl]
      exact pc_yes (go_go h hV hnx ((Bool.not_eq_true _).mp hq) (ok_start hk hm).1)
theorem pDue (h : Bx w b kb v sq tr ms) (hV : PVc w) (hk : Okk sq tr ms) (s : ByteArray) : Calls Tryz.prog 29 #[.pointer (some ⟨b, 0, none⟩), .string s] w (PcQ w b kb v sq tr (dueA ms s)) := by
  unfold dueA
  cases hn : fi s ms with
  | none => exact pc_no h (by decide) (due_un (under_no h s hn))
  | some i =>
    obtain ⟨m, hm, _, _⟩ := fi_some hn
    simp only []
    rw [hm]
    simp only []
    by_cases hu : m.un = false
    · rw [if_pos hu]
      exact pc_no h (by decide) (due_un (under_not h s hn hm hu))
    · rw [if_neg hu]
      have hu : m.un = true := (Bool.not_eq_false _).mp hu
      rw [un_eta hu, ← doS_don (m := m) (m' := { m with st := _, lf := _, un := true }) (fi_at hk.bk.id hm) rfl]
      exact pc_yes (due_go h hV hn hm hu (ok_due hk hm hu).1)
theorem pHeard (h : Bx w b kb v sq tr ms) (hV : PVc w) (hk : Okk sq tr ms) (s cd : ByteArray) (x : Int) : Calls Tryz.prog 27 #[.pointer (some ⟨b, 0, none⟩), .string s, .string cd, .int .i64 x] w (PcQ w b kb v sq tr (heardA sq ms s cd x)) := by
  unfold heardA
  cases hn : fi s ms with
  | none => exact pc_no h (by decide) (heard_un (under_no h s hn))
  | some i =>
    obtain ⟨m, hm, hct, _⟩ := fi_some hn
    simp only []
    rw [hm]
    simp only []
    by_cases hu : m.un = false
    · rw [if_pos hu]
      exact pc_no h (by decide) (heard_un (under_not h s hn hm hu))
    rw [if_neg hu]
    have hu : m.un = true := (Bool.not_eq_false _).mp hu
    by_cases hx : x < 0 ∨ 2147483647 < x
    · rw [if_pos hx]
      exact pc_no h (by decide) (heard_given h hn hm hu (by omega) (by unfold nmB; rw [Bool.and_eq_false_iff, decide_eq_false_iff_not, decide_eq_false_iff_not]; omega))
    rw [if_neg hx]
    have hg : x = 0 ∨ nmB x = true := by
      by_cases g : x = 0
      · exact Or.inl g
      · right; unfold nmB; rw [decide_eq_true (by omega), decide_eq_true (by omega)]; rfl
    have hT : (sq && decide (0 < x)) = (sq && (x != 0)) := by
      by_cases g : x = 0
      · subst g; simp
      · have g2 : 0 < x := by omega
        simp [g, g2]
    have hst : strB sq m.nu cd x = ((sq && (x != 0)) && (x == m.nu) && (cd.toList == [67, 69] || cd.toList == [65, 69])) := by
      rw [← hT]
      unfold strB
      cases sq <;> cases (cd.toList == [67, 69] || cd.toList == [65, 69]) <;> cases decide (0 < x) <;> cases (x == m.nu) <;> rfl
    by_cases hs : strB sq m.nu cd x = true
    · rw [if_pos hs]
      rw [hst] at hs
      simp only [Bool.and_eq_true, bne_iff_ne, ne_eq, beq_iff_eq] at hs
      obtain ⟨⟨⟨rfl, hx0⟩, he⟩, hc⟩ := hs
      have e : doS ms { m with un := true } 0 [(6, nT)] = ms := by
        rw [un_eta0 hu, doS_don (m := m) (m' := m) (fi_at hk.bk.id hm) rfl]
        unfold donS
        have e1 : tksS 0 (m, false) [(6, nT)] = (m, false) := rfl
        rw [e1]
        simp only [Bool.false_eq_true, if_false]
        have hl := (List.getElem?_eq_some_iff.1 hm).1
        rw [← (List.getElem?_eq_some_iff.1 hm).2]
        exact List.set_getElem_self hl
      have := heard_strange h hn hm hu hx0 (hg.resolve_left hx0) he hc
      rw [e, str_of hct] at this
      exact pc_yes this
    · rw [if_neg hs, un_eta hu, ← doS_don (m := m) (m' := { m with st := _, lf := _, un := true }) (fi_at hk.bk.id hm) rfl]
      rw [hst] at hs
      exact pc_yes (heard_go h hV hn hm hu hg hT ((Bool.not_eq_true _).mp (by rw [hT]; exact hs)) (ok_heard hk hm hu cd _).1)
/-- Give's code, and what it leaves. -/
def givM (sq : Bool) (ms : List Msg) (x : Int) : List Msg := if givC sq ms x = 0 then (match ms[0]? with | some m => ms.set 0 { m with nu := x } | none => ms) else ms
theorem pGive (h : Bx w b kb v sq tr ms) (hk : Okk sq tr ms) (x : Int) : Calls Tryz.prog 21 #[.pointer (some ⟨b, 0, none⟩), .int .i64 x] w (PeQ w b kb v sq tr (givM sq ms x) (givC sq ms x)) := by
  cases hn : nxI sq ms with
  | none =>
    have e : givC sq ms x = 281 := by unfold givC; rw [if_pos (Or.inr hn)]
    unfold givM
    rw [e, if_neg (by decide)]
    exact pe_no h (by decide) (give_state (M := zM) (o := false) h (next_no h (nxI_none.1 hn)) (by cases sq <;> rfl))
  | some i =>
    obtain ⟨m, hm, hnx, hu, hz, _⟩ := nxI_some hn
    cases sq with
    | false =>
      have e : givC false ms x = 281 := by unfold givC; rw [if_pos (Or.inl rfl)]
      unfold givM
      rw [e, if_neg (by decide)]
      exact pe_no h (by decide) (give_state h (next_yes h hnx) rfl)
    | true =>
      obtain rfl := hz rfl
      cases hg : nmB x with
      | false =>
        have e : givC true ms x = 282 := by unfold givC; rw [if_neg (by rw [hn]; simp), if_pos hg]
        unfold givM
        rw [e, if_neg (by decide)]
        exact pe_no h (by decide) (give_given h hnx hg)
      | true =>
        have e : givC true ms x = 0 := by unfold givC; rw [if_neg (by rw [hn]; simp), if_neg (by simp [hg])]
        have e2 : putS { m with nu := x } ms = ms.set 0 { m with nu := x } := by
          unfold putS
          rw [show fi ({ m with nu := x } : Msg).ct ms = some 0 from fi_at (m := m) hk.bk.id hm]
        unfold givM
        rw [e, if_pos rfl, hm]
        have := give_yes h hnx hg
        rw [e2] at this
        exact this.mono fun _ _ ⟨he, hq⟩ => ⟨_, he, Or.inl ⟨rfl, rfl⟩, hq⟩
end
/-- What a call of the document's that answers deeds leaves. -/
def RcY (w : World) (B r : Nat) (L : Value) (sq : Bool) (tr : Int) (y : CaA) (e : Ending) (w' : World) : Prop := RCaQ w B r L sq tr y.ms y.ds y.cd e w'
section
variable {w w' : World} {B r : Nat} {L : Value} {sq : Bool} {tr : Int} {ms : List Msg}
theorem rGo (h : RB w B r L sq tr ms) : Calls Tryz.prog 24 #[.pointer (some ⟨r, 0, none⟩)] w (RcY w B r L sq tr (goA sq tr ms)) := by
  unfold goA
  cases hn : nxI sq ms with
  | none => exact rGo_no h (Or.inl hn)
  | some i =>
    obtain ⟨m, hm, hnx, hu, _, _⟩ := nxI_some hn
    simp only []
    rw [hm]
    simp only []
    by_cases hq : (sq && (m.nu == 0)) = true
    · rw [if_pos hq]
      simp only [Bool.and_eq_true, beq_iff_eq] at hq
      exact rGo_no h (Or.inr ⟨hq.1, i, m, hn, hm, hq.2⟩)
    · rw [if_neg hq]
      exact rGo_yes h hn hm ((Bool.not_eq_true _).mp hq)
theorem rDue (h : RB w B r L sq tr ms) (s : ByteArray) : Calls Tryz.prog 30 #[.pointer (some ⟨r, 0, none⟩), .string s] w (RcY w B r L sq tr (dueA ms s)) := by
  unfold dueA
  cases hn : fi s ms with
  | none => exact rDue_no h s hn
  | some i =>
    obtain ⟨m, hm, _, _⟩ := fi_some hn
    simp only []
    rw [hm]
    simp only []
    by_cases hu : m.un = false
    · rw [if_pos hu]
      exact rDue_not h s hn hm hu
    · rw [if_neg hu]
      exact rDue_yes h s hn hm ((Bool.not_eq_false _).mp hu)
theorem rHeard (h : RB w B r L sq tr ms) (s cd : ByteArray) (x : Int) : Calls Tryz.prog 28 #[.pointer (some ⟨r, 0, none⟩), .string s, .string cd, .int .i64 x] w (RcY w B r L sq tr (heardA sq ms s cd x)) := by
  unfold heardA
  cases hn : fi s ms with
  | none => exact rHeard_no h s cd x hn
  | some i =>
    obtain ⟨m, hm, _, _⟩ := fi_some hn
    simp only []
    rw [hm]
    simp only []
    by_cases hu : m.un = false
    · rw [if_pos hu]
      exact rHeard_not h s cd x hn hm hu
    rw [if_neg hu]
    have hu : m.un = true := (Bool.not_eq_false _).mp hu
    by_cases hx : x < 0 ∨ 2147483647 < x
    · rw [if_pos hx]
      exact rHeard_given h s cd x hn hm hu hx
    rw [if_neg hx]
    by_cases hs : strB sq m.nu cd x = true
    · rw [if_pos hs]
      exact rHeard_strange h s cd x hn hm hu (by omega) hs (by omega)
    · rw [if_neg hs]
      exact rHeard_yes h s cd x hn hm hu (by omega) (by omega) ((Bool.not_eq_true _).mp hs)
end
end Go.Proofs.YtoijhecphgdfnaaGreatDoor

/-
  The law's looks at an error and at deeds.
-/
namespace Go.Proofs.YtoijhecphgdfnaaGreatDoor
open Go.RowKit

set_option maxRecDepth 100000 in
set_option maxHeartbeats 1000000 in
theorem refused_any {w : World} {ev : Value} {a c : Int} (h : ErrV w ev a c) : Calls Tryz.prog 13 #[ev, .int .i64 a, .int .i64 c] w fun e w' => e = .returned (.bool true) ∧ w' = w := by
  rcases h with ⟨rfl, rfl⟩ | ⟨hc, z, rfl, hf⟩
  · go_enter Tryz.func13, Tryz.ntmps13
    go_wp2
    go_ret
    exact ⟨rfl, rfl⟩
  · exact refused_fault hc hf
theorem deed_cells {w : World} {B n c : Nat} {a : Option Addr} {ds : List Deed} {j : Nat} {d : Deed} (h : DRow w B (.slice a n c) ds) (hd : ds[j]? = some d) : ∃ g, a = some ⟨g, 0, none⟩ ∧ g < w.heap.size ∧ w.cell? ⟨g, j * 3, none⟩ = some (.string d.1) ∧ w.cell? ⟨g, j * 3 + 1, none⟩ = some (.int .i64 d.2.1) ∧ w.cell? ⟨g, j * 3 + 2, none⟩ = some (.string d.2.2) := by
  obtain ⟨g, e, hg, hc⟩ := ERow.at_ encD_len h hd
  exact ⟨g, e, hg, hc 0 (by decide), hc 1 (by decide), hc 2 (by decide)⟩
set_option maxRecDepth 100000 in
set_option maxHeartbeats 4000000 in
theorem sameDeeds_any {w : World} {B B' n n' c c' : Nat} {a a' : Option Addr} {ds : List Deed} (h1 : DRow w B (.slice a n c) ds) (h2 : DRow w B' (.slice a' n' c') ds) :
    Calls Tryz.prog 26 #[.slice a n c, .slice a' n' c'] w fun e w' => e = .returned (.bool true) ∧ ∃ m, w' = w.drewN m := by
  obtain rfl : n = ds.length := ERow.len h1
  obtain rfl : n' = ds.length := ERow.len h2
  have hx : ds.length ≤ 9223372036854775807 := by
    rcases ERow.form h1 with ⟨_, e⟩ | ⟨g, cap, _, _, _, h3, h4⟩
    · rw [e]; simp
    · unfold maxLen at h4; omega
  obtain ⟨n, hn⟩ : ∃ n, ds.length = n := ⟨_, rfl⟩
  have HH : Hid (DRow w B (.slice a n c) ds ∧ DRow w B' (.slice a' n c') ds ∧ ds.length = n) := ⟨by rw [← hn]; exact h1, by rw [← hn]; exact h2, hn⟩
  rw [hn] at hx ⊢
  clear h1 h2 hn
  go_enter Tryz.func26, Tryz.ntmps26
  go_wp2_with fail
  go_loopw [5] (fun ti wx => ∃ j m : Nat, j ≤ n ∧ ti = .int .i64 j ∧ wx = w.drewN m) (fun ti _ => n - (intOf ti).toNat)
  case atStart => exact ⟨0, 0, Nat.zero_le _, rfl, rfl⟩
  case round =>
    obtain ⟨j, m, hj, rfl, rfl⟩ := hrel
    by_cases hlt : j < n
    · have hlt1 : (j : Int) < n := by omega
      obtain ⟨d, hd⟩ : ∃ d, ds[j]? = some d := ⟨_, List.getElem?_eq_getElem (by rw [HH.out.2.2]; exact hlt)⟩
      obtain ⟨g, rfl, hg, p0, p1, p2⟩ := deed_cells HH.out.1 hd
      obtain ⟨g', rfl, hg', q0, q1, q2⟩ := deed_cells HH.out.2.1 hd
      clear hd
      go_wp2_with fail
      go_quiet (fail)
      go_wp2_with fail
      go_roundw
      case rel => exact ⟨j + 1, _, hlt, by go_num, rfl⟩
      case measure => simp [intOf]; omega
    · have hlt1 : ¬ ((j : Int) < n) := by omega
      go_wp2_with fail
      go_ret
      exact ⟨rfl, _, rfl⟩
end Go.Proofs.YtoijhecphgdfnaaGreatDoor
