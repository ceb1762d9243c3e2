/-
  Escaped bytes as plain data: what any bytes are written as. Of no program.
-/
import Derived.Test.YtkpebmhokdckfaaDoorEsMath
namespace Go.Proofs.YtkpebmhokdckfaaDoor
open Go.RowKit

/-- The kind of the piece as which a byte is written: 1 plain, 2 a mark, 3 by pairs. -/
def kdB (m : Mk) (b : UInt8) : Nat := if m.l.contains b then 2 else if decide (32 ≤ b.toNat) && b.toNat != 127 then 1 else 3
theorem kdB_any (m : Mk) (b : UInt8) : kdB m b = 1 ∨ kdB m b = 2 ∨ kdB m b = 3 := by
  unfold kdB; split
  · exact Or.inr (Or.inl rfl)
  · split
    · exact Or.inl rfl
    · exact Or.inr (Or.inr rfl)
/-- The letter of a mark. -/
def ltB (m : Mk) (b : UInt8) : UInt8 := if b = m.f then 70 else if b = m.c then 83 else if b = m.r then 82 else if b = m.x then 69 else 84
/-- A digit of sixteen. -/
def dgB (n : Nat) : UInt8 := if n < 10 then (48 + n).toUInt8 else (55 + n).toUInt8
def prB (l : List UInt8) : List UInt8 := l.flatMap fun b => [dgB (b.toNat / 16), dgB (b.toNat % 16)]
theorem prB_nil : prB [] = [] := rfl
theorem prB_cons (b : UInt8) (l : List UInt8) : prB (b :: l) = dgB (b.toNat / 16) :: dgB (b.toNat % 16) :: prB l := rfl
theorem prB_app (a b : List UInt8) : prB (a ++ b) = prB a ++ prB b := by simp [prB]
theorem prB_len (l : List UInt8) : (prB l).length = 2 * l.length := by
  induction l with
  | nil => rfl
  | cons b l ih => rw [prB_cons]; simp [ih]; omega
/-- How many bytes that go by pairs stand first, up to n. -/
def rnL (m : Mk) : Nat → List UInt8 → Nat
  | 0, _ => 0
  | _ + 1, [] => 0
  | n + 1, b :: t => if kdB m b = 3 then rnL m n t + 1 else 0
theorem rnL_le (m : Mk) : ∀ n l, rnL m n l ≤ l.length
  | 0, _ => Nat.zero_le _
  | _ + 1, [] => Nat.zero_le _
  | n + 1, b :: t => by
    unfold rnL; split
    · have := rnL_le m n t; simp; omega
    · exact Nat.zero_le _
theorem rnL_run (m : Mk) : ∀ n (l r : List UInt8), l.length ≤ n → (∀ b ∈ l, kdB m b = 3) → (l.length = n ∨ r = [] ∨ ∃ b t, r = b :: t ∧ kdB m b ≠ 3) → rnL m n (l ++ r) = l.length
  | 0, l, r, hl, _, _ => by obtain rfl : l = [] := List.length_eq_zero_iff.1 (by omega); cases r <;> rfl
  | n + 1, [], r, _, _, h => by
    rcases h with h | rfl | ⟨b, t, rfl, h⟩
    · simp at h
    · rfl
    · simp [rnL, h]
  | n + 1, b :: l, r, hl, ha, h => by
    have hb : kdB m b = 3 := ha b (by simp)
    have := rnL_run m n l r (by simp at hl; omega) (fun x hx => ha x (by simp [hx])) (by
      rcases h with h | h
      · exact Or.inl (by simp at h; omega)
      · exact Or.inr h)
    simp [rnL, hb, this]
/-- Bytes as they are written, by at most so many steps. -/
def esL (m : Mk) : Nat → List UInt8 → List UInt8
  | 0, _ => []
  | _ + 1, [] => []
  | f + 1, b :: t =>
    if kdB m b = 1 then b :: esL m f t
    else if kdB m b = 2 then m.x :: ltB m b :: m.x :: esL m f t
    else m.x :: 88 :: (prB ((b :: t).take (rnL m 64 (b :: t))) ++ m.x :: esL m f ((b :: t).drop (rnL m 64 (b :: t))))
theorem rnL_pos (m : Mk) {b : UInt8} (h : ¬ kdB m b = 1) (g : ¬ kdB m b = 2) (t : List UInt8) : 1 ≤ rnL m 64 (b :: t) := by
  have : kdB m b = 3 := by rcases kdB_any m b with e | e | e <;> simp_all
  simp [rnL, this]
theorem esL_more (m : Mk) : ∀ f l g, l.length ≤ f → l.length ≤ g → esL m f l = esL m g l
  | 0, l, g, h, _ => by obtain rfl : l = [] := List.length_eq_zero_iff.1 (by omega); cases g <;> rfl
  | f + 1, [], g, _, _ => by cases g <;> rfl
  | f + 1, b :: t, 0, _, h => by simp at h
  | f + 1, b :: t, g + 1, h, h' => by
    simp only [List.length_cons] at h h'
    unfold esL
    split
    · rw [esL_more m f t g (by omega) (by omega)]
    · split
      · rw [esL_more m f t g (by omega) (by omega)]
      · rename_i h1 h2
        have := rnL_pos m h1 h2 t
        rw [esL_more m f _ g (by rw [List.length_drop]; simp; omega) (by rw [List.length_drop]; simp; omega)]
/-- Bytes as they are written. -/
def esB (m : Mk) (l : List UInt8) : List UInt8 := esL m l.length l
theorem esB_nil (m : Mk) : esB m [] = [] := rfl
theorem esB_txt (m : Mk) {b : UInt8} (h : kdB m b = 1) (t : List UInt8) : esB m (b :: t) = b :: esB m t := by
  simp [esB, esL, h]
theorem esB_mrk (m : Mk) {b : UInt8} (h : kdB m b = 2) (t : List UInt8) : esB m (b :: t) = m.x :: ltB m b :: m.x :: esB m t := by
  simp [esB, esL, h]
theorem esB_run (m : Mk) (l r : List UInt8) (h0 : l ≠ []) (h1 : l.length ≤ 64) (ha : ∀ b ∈ l, kdB m b = 3) (h : l.length = 64 ∨ r = [] ∨ ∃ b t, r = b :: t ∧ kdB m b ≠ 3) :
    esB m (l ++ r) = m.x :: 88 :: (prB l ++ m.x :: esB m r) := by
  have hr := rnL_run m 64 l r h1 ha h
  cases l with
  | nil => exact absurd rfl h0
  | cons b t =>
    have hb : kdB m b = 3 := ha b (by simp)
    rw [List.cons_append] at hr ⊢
    unfold esB
    rw [List.length_cons]
    simp only [esL]
    rw [if_neg (by omega), if_neg (by omega), hr]
    have e1 : (b :: (t ++ r)).take (b :: t).length = b :: t := by rw [← List.cons_append, List.take_left]
    have e2 : (b :: (t ++ r)).drop (b :: t).length = r := by rw [← List.cons_append, List.drop_left]
    rw [e1, e2, esL_more m (t ++ r).length r r.length (by simp) (Nat.le_refl _)]
theorem esB_txts (m : Mk) : ∀ (l r : List UInt8), (∀ b ∈ l, kdB m b = 1) → esB m (l ++ r) = l ++ esB m r
  | [], _, _ => rfl
  | b :: l, r, h => by rw [List.cons_append, esB_txt m (h b (by simp)), esB_txts m l r (fun x hx => h x (by simp [hx]))]; rfl
theorem esL_len (m : Mk) : ∀ f l, (esL m f l).length ≤ 5 * l.length
  | 0, _ => Nat.zero_le _
  | _ + 1, [] => Nat.zero_le _
  | f + 1, b :: t => by
    unfold esL
    split
    · have := esL_len m f t; simp; omega
    · split
      · have := esL_len m f t; simp; omega
      · rename_i h1 h2
        have hp := rnL_pos m h1 h2 t
        have hq := rnL_le m 64 (b :: t)
        have := esL_len m f ((b :: t).drop (rnL m 64 (b :: t)))
        rw [List.length_drop] at this
        simp only [List.length_cons, List.length_append, prB_len, List.length_take] at this hq ⊢
        omega
theorem esB_len (m : Mk) (l : List UInt8) : (esB m l).length ≤ 5 * l.length := esL_len m _ l
/-- A piece: its kind, its text. -/
structure Pc where
  k : Nat
  t : ByteArray
/-- A piece on the wire. -/
def wrP (m : Mk) (p : Pc) : List UInt8 := if p.k = 1 then p.t.data.toList else if p.k = 2 then m.x :: (p.t.data.toList ++ [m.x]) else m.x :: 88 :: (prB p.t.data.toList ++ [m.x])
def wrs (m : Mk) (l : List Pc) : List UInt8 := l.flatMap (wrP m)
theorem wrs_snoc (m : Mk) (l : List Pc) (p : Pc) : wrs m (l ++ [p]) = wrs m l ++ wrP m p := by simp [wrs]
theorem wrs_take (m : Mk) (l : List Pc) {i : Nat} (h : i < l.length) : wrs m (l.take (i + 1)) = wrs m (l.take i) ++ wrP m l[i] := by
  rw [List.take_add_one, List.getElem?_eq_getElem h]; exact wrs_snoc m _ _
theorem wrs_le (m : Mk) (l : List Pc) (i : Nat) : (wrs m (l.take i)).length ≤ (wrs m l).length := by
  have h := congrArg List.length (show wrs m (l.take i) ++ wrs m (l.drop i) = wrs m l by unfold wrs; rw [← List.flatMap_append, List.take_append_drop])
  simp at h; omega
/-- A letter of a mark, as a text. -/
def ltS (b : UInt8) : ByteArray := ⟨#[b]⟩
structure PcOk (p : Pc) : Prop where
  or : p.k = 1 ∨ (p.k = 2 ∧ (p.t = ltS 70 ∨ p.t = ltS 83 ∨ p.t = ltS 82 ∨ p.t = ltS 69 ∨ p.t = ltS 84)) ∨ (p.k = 3 ∧ p.t.size ≤ 64)
  len : p.t.size ≤ 8192
theorem ltB_any (m : Mk) (b : UInt8) : ltB m b = 70 ∨ ltB m b = 83 ∨ ltB m b = 82 ∨ ltB m b = 69 ∨ ltB m b = 84 := by
  unfold ltB
  split
  · exact Or.inl rfl
  · split
    · exact Or.inr (Or.inl rfl)
    · split
      · exact Or.inr (Or.inr (Or.inl rfl))
      · split
        · exact Or.inr (Or.inr (Or.inr (Or.inl rfl)))
        · exact Or.inr (Or.inr (Or.inr (Or.inr rfl)))
/-- The bytes from a place on, and those between two. -/
theorem drop_mid (l : List UInt8) {a i : Nat} (h : a ≤ i) : l.drop a = (l.take i).drop a ++ l.drop i := by
  rw [List.drop_take]
  conv => lhs; rw [← List.take_append_drop (i - a) (l.drop a)]
  rw [List.drop_drop]; congr 2; omega
theorem mid_len (l : List UInt8) {a i : Nat} (hi : i ≤ l.length) : ((l.take i).drop a).length = i - a := by
  rw [List.length_drop, List.length_take]; omega
theorem mid_mem {l : List UInt8} {a i : Nat} {b : UInt8} (h : b ∈ (l.take i).drop a) : ∃ j, a ≤ j ∧ j < i ∧ j < l.length ∧ l.getD j 0 = b := by
  obtain ⟨k, hk, e⟩ := List.getElem_of_mem h
  rw [List.length_drop, List.length_take] at hk
  refine ⟨a + k, by omega, by omega, by omega, ?_⟩
  rw [List.getElem_drop, List.getElem_take] at e
  rw [← e, List.getD_eq_getElem?_getD, List.getElem?_eq_getElem (by omega)]; rfl
theorem mid_snoc (l : List UInt8) {a i : Nat} (h : a ≤ i) (hi : i < l.length) : (l.take (i + 1)).drop a = (l.take i).drop a ++ [l.getD i 0] := by
  rw [List.take_add_one, List.getElem?_eq_getElem hi, List.drop_append_of_le_length (by rw [List.length_take]; omega), List.getD_eq_getElem?_getD, List.getElem?_eq_getElem hi]; rfl
theorem drop_cons (l : List UInt8) {i : Nat} (h : i < l.length) : l.drop i = l.getD i 0 :: l.drop (i + 1) := by
  rw [List.drop_eq_getElem_cons h, List.getD_eq_getElem?_getD, List.getElem?_eq_getElem h]; rfl
end Go.Proofs.YtkpebmhokdckfaaDoor
