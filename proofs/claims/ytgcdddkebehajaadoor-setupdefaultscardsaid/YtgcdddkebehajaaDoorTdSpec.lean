/-
  Decimal numbers as plain data: what a text tells, how a number is written, how two are ordered. Of no program.
-/
import Derived.Below
namespace Go.Proofs.YtgcdddkebehajaaDoor.Td

def dg (b : UInt8) : Bool := decide (48 ≤ b.toNat) && decide (b.toNat ≤ 57)
def dgs (l : List UInt8) : Bool := !l.isEmpty && l.all dg
def uns : List UInt8 → List UInt8
  | [] => []
  | b :: r => if b = 43 ∨ b = 45 then r else b :: r
def cutA (t : List UInt8) : List UInt8 := t.takeWhile (fun b => b != 46)
def cutR (t : List UInt8) : List UInt8 := t.dropWhile (fun b => b != 46)
def cutB (t : List UInt8) : List UInt8 := (cutR t).tail
def hasP (t : List UInt8) : Bool := !(cutR t).isEmpty
def isNm (l : List UInt8) : Bool := decide (l.length ≤ 16) && dgs (cutA (uns l)) && (!hasP (uns l) || dgs (cutB (uns l)))
def trL (l : List UInt8) : List UInt8 := l.dropWhile (fun b => b == 48)
def trR (l : List UInt8) : List UInt8 := (l.reverse.dropWhile (fun b => b == 48)).reverse
def numD (l : List UInt8) : List UInt8 := trL (cutA (uns l) ++ trR (cutB (uns l)))
/-- What a text tells: sign, digits, how many stand behind the point. -/
def numS (l : List UInt8) : Option (Bool × List UInt8 × Nat) :=
  if isNm l then (if numD l = [] then some (false, [48], 0) else some (l.head? == some 45, numD l, (trR (cutB (uns l))).length)) else none
def wrD (ds : List UInt8) (sc : Nat) : List UInt8 := List.replicate (sc + 1 - ds.length) 48 ++ ds
/-- How a number is written. -/
def wrS (neg : Bool) (ds : List UInt8) (sc : Nat) : List UInt8 :=
  (if neg then [45] else []) ++ (if sc = 0 then wrD ds sc else (wrD ds sc).take ((wrD ds sc).length - sc) ++ 46 :: (wrD ds sc).drop ((wrD ds sc).length - sc))
/-- Whether a number is right. -/
def rgt (neg : Bool) (ds : List UInt8) (sc : Int) : Bool := decide (0 ≤ sc) && decide (sc ≤ 16) && (numS (wrS neg ds sc.toNat) == some (neg, ds, sc.toNat))

theorem mem_dropWhile {p : UInt8 → Bool} {l : List UInt8} {x : UInt8} (h : x ∈ l.dropWhile p) : x ∈ l := (List.dropWhile_suffix p).subset h
theorem trL_sub {l : List UInt8} {x : UInt8} (h : x ∈ trL l) : x ∈ l := mem_dropWhile h
theorem trR_sub {l : List UInt8} {x : UInt8} (h : x ∈ trR l) : x ∈ l := by
  unfold trR at h
  have := mem_dropWhile (List.mem_reverse.1 h)
  exact List.mem_reverse.1 this
theorem trL_len (l : List UInt8) : (trL l).length ≤ l.length := (List.dropWhile_suffix _).length_le
theorem trR_len (l : List UInt8) : (trR l).length ≤ l.length := by
  unfold trR
  have := (List.dropWhile_suffix (fun b => b == (48 : UInt8)) (l := l.reverse)).length_le
  simpa using this
theorem trL_head {l : List UInt8} {x : UInt8} {r : List UInt8} (h : trL l = x :: r) : x ≠ 48 := by
  unfold trL at h
  have := List.head_dropWhile_not (fun b => b == (48 : UInt8)) (l := l) (by rw [h]; simp)
  simp only [h, List.head_cons] at this
  simpa using this
theorem uns_len (l : List UInt8) : (uns l).length ≤ l.length := by
  cases l with
  | nil => simp [uns]
  | cons b r =>
    show (if b = 43 ∨ b = 45 then r else b :: r).length ≤ _
    split <;> simp
theorem cut_len (t : List UInt8) : (cutA t).length + (cutB t).length ≤ t.length := by
  have h := congrArg List.length (List.takeWhile_append_dropWhile (p := fun b => b != (46 : UInt8)) (l := t))
  rw [List.length_append] at h
  unfold cutA cutB cutR
  simp only [List.length_tail]
  omega
theorem dgs_all {l : List UInt8} (h : dgs l = true) : ∀ x ∈ l, dg x = true := by
  unfold dgs at h
  simp at h
  exact h.2
theorem cutB_dg {t : List UInt8} (h : (!hasP t || dgs (cutB t)) = true) : ∀ x ∈ cutB t, dg x = true := by
  intro x hx
  unfold hasP at h
  cases hc : cutR t with
  | nil => unfold cutB at hx; rw [hc] at hx; simp at hx
  | cons a r => rw [hc] at h; simp at h; exact dgs_all h x hx
/-- A right number's digits are digits, no more than sixteen; with a sign one of them is not 0. -/
theorem num_ds {l : List UInt8} {neg : Bool} {ds : List UInt8} {sc : Nat} (h : numS l = some (neg, ds, sc)) : dgs ds = true ∧ ds.length ≤ 16 ∧ sc ≤ 16 ∧ (neg = true → ∃ x r, ds = x :: r ∧ x ≠ 48) := by
  unfold numS at h
  split at h
  · next hn =>
    have hn' := hn
    unfold isNm at hn
    simp only [Bool.and_eq_true, decide_eq_true_eq] at hn
    obtain ⟨⟨h16, ha⟩, hb⟩ := hn
    have l1 := cut_len (uns l)
    have l2 := uns_len l
    have l3 := trR_len (cutB (uns l))
    have l4 := trL_len (cutA (uns l) ++ trR (cutB (uns l)))
    rw [List.length_append] at l4
    split at h
    · simp only [Option.some.injEq, Prod.mk.injEq] at h
      obtain ⟨rfl, rfl, rfl⟩ := h
      exact ⟨by decide, by decide, by decide, fun h => by cases h⟩
    · next hd =>
      simp only [Option.some.injEq, Prod.mk.injEq] at h
      obtain ⟨rfl, rfl, rfl⟩ := h
      have hall : ∀ x ∈ numD l, dg x = true := by
        intro x hx
        have := trL_sub hx
        rcases List.mem_append.1 this with g | g
        · exact dgs_all ha x g
        · exact cutB_dg hb x (trR_sub g)
      refine ⟨?_, by unfold numD; omega, by omega, fun _ => ?_⟩
      · unfold dgs
        simp only [Bool.and_eq_true, Bool.not_eq_true', List.isEmpty_eq_false_iff, List.all_eq_true]
        exact ⟨hd, hall⟩
      · obtain ⟨x, r, hx⟩ := List.exists_cons_of_ne_nil hd
        exact ⟨x, r, hx, trL_head hx⟩
  · cases h
end Go.Proofs.YtgcdddkebehajaaDoor.Td
