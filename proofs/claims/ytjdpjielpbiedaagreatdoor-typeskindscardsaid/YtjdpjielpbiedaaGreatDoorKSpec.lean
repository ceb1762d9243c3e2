/-
  Kinds with parts, as plain data.
-/
import Derived.Test.YtjdpjielpbiedaaGreatDoorTtTOf
import Derived.Lib.Space
namespace Go.Proofs.YtjdpjielpbiedaaGreatDoor.Td
open Go.RowKit

/-- A word's name, and whether a star stands behind it. -/
def cutW (x : List UInt8) : List UInt8 × Bool := if x.getLast? = some 42 then (x.dropLast, true) else (x, false)
/-- The kinds with parts, and the text of their parts. -/
def cmpT : List (List UInt8 × List UInt8) := [([72, 68], [73, 83, 32, 83, 84, 32, 73, 68]),
  ([69, 73], [83, 84, 42, 32, 73, 83, 32, 83, 84, 32, 73, 68]),
  ([67, 69], [83, 84, 32, 83, 84, 32, 73, 68, 32, 83, 84, 32, 83, 84, 32, 73, 68]),
  ([67, 87, 69], [83, 84, 32, 83, 84, 32, 73, 68, 32, 83, 84, 32, 83, 84, 32, 73, 68, 32, 83, 84, 32, 83, 84, 32, 83, 84]),
  ([77, 83, 71], [73, 68, 48, 48, 55, 54, 42, 32, 73, 68, 48, 48, 48, 51, 32, 73, 68]),
  ([80, 84], [73, 68, 48, 49, 48, 51, 42, 32, 73, 68]),
  ([86, 73, 68], [73, 68, 48, 49, 48, 52, 42, 32, 67, 69, 32, 67, 69]),
  ([69, 82, 76], [83, 84, 42, 32, 83, 73, 42, 32, 83, 73, 32, 83, 73, 32, 83, 73, 32, 83, 73]),
  ([67, 88], [83, 84, 42, 32, 83, 84, 32, 73, 68, 32, 72, 68, 32, 73, 68]),
  ([70, 78], [83, 84, 42, 32, 83, 84, 32, 83, 84, 32, 83, 84, 32, 83, 84]),
  ([88, 80, 78], [70, 78, 32, 83, 84, 32, 83, 84, 32, 83, 84, 32, 83, 84, 32, 73, 68]),
  ([80, 76], [73, 83, 32, 73, 83, 32, 73, 83, 32, 72, 68, 32, 73, 83, 32, 73, 68])]
theorem cmpT_length : cmpT.length = 12 := rfl
/-- What the first i rows tell of a kind. -/
def acc (k : List UInt8) (i : Nat) : List (List UInt8 × Bool) := ((cmpT.take i).filter fun r => r.1 == k).flatMap fun r => (Lib.fields r.2).map cutW
theorem acc_zero (k : List UInt8) : acc k 0 = [] := rfl
theorem acc_succ (k : List UInt8) {i : Nat} {r : List UInt8 × List UInt8} (h : cmpT[i]? = some r) : acc k (i + 1) = acc k i ++ (if r.1 == k then (Lib.fields r.2).map cutW else []) := by
  have hi := (List.getElem?_eq_some_iff.1 h).1
  unfold acc
  rw [List.take_succ_eq_append_getElem hi, List.filter_append, List.flatMap_append]
  congr 1
  rw [(List.getElem?_eq_some_iff.1 h).2]
  by_cases q : (r.1 == k) = true
  · simp [q]
  · simp [q]
/-- The ten names. -/
def tenN : List (List UInt8) := [[83, 84], [84, 88], [70, 84], [78, 77], [83, 73], [73, 68], [73, 83], [68, 84], [84, 77], [84, 83]]
def prB (k : List UInt8) : Bool := decide (k ∈ tenN) || (tabOf k).isSome
/-- The text of the parts of a kind with parts. -/
def cmpX (k : List UInt8) : Option (List UInt8) := (cmpT.find? fun r => r.1 == k).map Prod.snd
/-- The parts of a kind. -/
def ptsOf (k : List UInt8) : List (List UInt8 × Bool) := if prB k then [(k, false)] else acc k 12
def wrd (x : List UInt8) : List (List UInt8) := (wst x (x.length + 1)).2
theorem cmp_at0 : cmpX [72, 68] = some [73, 83, 32, 83, 84, 32, 73, 68] := by decide
theorem acc_at0 : acc [72, 68] 12 = (wrd [73, 83, 32, 83, 84, 32, 73, 68]).map cutW := by kernel_rfl
theorem cmp_at1 : cmpX [69, 73] = some [83, 84, 42, 32, 73, 83, 32, 83, 84, 32, 73, 68] := by decide
theorem acc_at1 : acc [69, 73] 12 = (wrd [83, 84, 42, 32, 73, 83, 32, 83, 84, 32, 73, 68]).map cutW := by kernel_rfl
theorem cmp_at2 : cmpX [67, 69] = some [83, 84, 32, 83, 84, 32, 73, 68, 32, 83, 84, 32, 83, 84, 32, 73, 68] := by decide
theorem acc_at2 : acc [67, 69] 12 = (wrd [83, 84, 32, 83, 84, 32, 73, 68, 32, 83, 84, 32, 83, 84, 32, 73, 68]).map cutW := by kernel_rfl
theorem cmp_at3 : cmpX [67, 87, 69] = some [83, 84, 32, 83, 84, 32, 73, 68, 32, 83, 84, 32, 83, 84, 32, 73, 68, 32, 83, 84, 32, 83, 84, 32, 83, 84] := by decide
theorem acc_at3 : acc [67, 87, 69] 12 = (wrd [83, 84, 32, 83, 84, 32, 73, 68, 32, 83, 84, 32, 83, 84, 32, 73, 68, 32, 83, 84, 32, 83, 84, 32, 83, 84]).map cutW := by kernel_rfl
theorem cmp_at4 : cmpX [77, 83, 71] = some [73, 68, 48, 48, 55, 54, 42, 32, 73, 68, 48, 48, 48, 51, 32, 73, 68] := by decide
theorem acc_at4 : acc [77, 83, 71] 12 = (wrd [73, 68, 48, 48, 55, 54, 42, 32, 73, 68, 48, 48, 48, 51, 32, 73, 68]).map cutW := by kernel_rfl
theorem cmp_at5 : cmpX [80, 84] = some [73, 68, 48, 49, 48, 51, 42, 32, 73, 68] := by decide
theorem acc_at5 : acc [80, 84] 12 = (wrd [73, 68, 48, 49, 48, 51, 42, 32, 73, 68]).map cutW := by kernel_rfl
theorem cmp_at6 : cmpX [86, 73, 68] = some [73, 68, 48, 49, 48, 52, 42, 32, 67, 69, 32, 67, 69] := by decide
theorem acc_at6 : acc [86, 73, 68] 12 = (wrd [73, 68, 48, 49, 48, 52, 42, 32, 67, 69, 32, 67, 69]).map cutW := by kernel_rfl
theorem cmp_at7 : cmpX [69, 82, 76] = some [83, 84, 42, 32, 83, 73, 42, 32, 83, 73, 32, 83, 73, 32, 83, 73, 32, 83, 73] := by decide
theorem acc_at7 : acc [69, 82, 76] 12 = (wrd [83, 84, 42, 32, 83, 73, 42, 32, 83, 73, 32, 83, 73, 32, 83, 73, 32, 83, 73]).map cutW := by kernel_rfl
theorem cmp_at8 : cmpX [67, 88] = some [83, 84, 42, 32, 83, 84, 32, 73, 68, 32, 72, 68, 32, 73, 68] := by decide
theorem acc_at8 : acc [67, 88] 12 = (wrd [83, 84, 42, 32, 83, 84, 32, 73, 68, 32, 72, 68, 32, 73, 68]).map cutW := by kernel_rfl
theorem cmp_at9 : cmpX [70, 78] = some [83, 84, 42, 32, 83, 84, 32, 83, 84, 32, 83, 84, 32, 83, 84] := by decide
theorem acc_at9 : acc [70, 78] 12 = (wrd [83, 84, 42, 32, 83, 84, 32, 83, 84, 32, 83, 84, 32, 83, 84]).map cutW := by kernel_rfl
theorem cmp_at10 : cmpX [88, 80, 78] = some [70, 78, 32, 83, 84, 32, 83, 84, 32, 83, 84, 32, 83, 84, 32, 73, 68] := by decide
theorem acc_at10 : acc [88, 80, 78] 12 = (wrd [70, 78, 32, 83, 84, 32, 83, 84, 32, 83, 84, 32, 83, 84, 32, 73, 68]).map cutW := by kernel_rfl
theorem cmp_at11 : cmpX [80, 76] = some [73, 83, 32, 73, 83, 32, 73, 83, 32, 72, 68, 32, 73, 83, 32, 73, 68] := by decide
theorem acc_at11 : acc [80, 76] 12 = (wrd [73, 83, 32, 73, 83, 32, 73, 83, 32, 72, 68, 32, 73, 83, 32, 73, 68]).map cutW := by kernel_rfl
theorem cmp_name {k x : List UInt8} (h : cmpX k = some x) : k = [72, 68] ∨ k = [69, 73] ∨ k = [67, 69] ∨ k = [67, 87, 69] ∨ k = [77, 83, 71] ∨ k = [80, 84] ∨ k = [86, 73, 68] ∨ k = [69, 82, 76] ∨ k = [67, 88] ∨ k = [70, 78] ∨ k = [88, 80, 78] ∨ k = [80, 76] := by
  obtain ⟨r, hr, _⟩ := Option.map_eq_some_iff.1 h
  have h1 := List.find?_some hr
  have h2 := List.mem_of_find?_eq_some hr
  have e : r.1 = k := by simpa using h1
  simp only [cmpT, List.mem_cons, List.not_mem_nil, or_false] at h2
  rcases h2 with rfl | rfl | rfl | rfl | rfl | rfl | rfl | rfl | rfl | rfl | rfl | rfl <;> simp at e <;> simp [← e]
theorem acc_none {k : List UInt8} (h : cmpX k = none) : acc k 12 = [] := by
  have h1 : (cmpT.find? fun r => r.1 == k) = none := by simpa [cmpX] using h
  have h2 : (cmpT.take 12).filter (fun r => r.1 == k) = [] := by
    rw [show cmpT.take 12 = cmpT from rfl]
    rw [List.filter_eq_nil_iff]
    exact fun x hx => List.find?_eq_none.1 h1 x hx
  unfold acc
  rw [h2]
  rfl
/-- What both sides hold of a kind's parts, where it has some. -/
theorem acc_some {k x : List UInt8} (h : cmpX k = some x) : acc k 12 = (wrd x).map cutW ∧ (∀ y ∈ wrd x, y ≠ [] ∧ y.length ≤ 90) ∧ 0 < (wrd x).length ∧ (wrd x).length ≤ 10 ∧ x.length ≤ 90 ∧ x ≠ [] ∧ prB k = false := by
  rcases cmp_name h with rfl | rfl | rfl | rfl | rfl | rfl | rfl | rfl | rfl | rfl | rfl | rfl
  · obtain rfl := Option.some.inj (h.symm.trans cmp_at0); exact ⟨acc_at0, by decide, by decide, by decide, by decide, by decide, by decide⟩
  · obtain rfl := Option.some.inj (h.symm.trans cmp_at1); exact ⟨acc_at1, by decide, by decide, by decide, by decide, by decide, by decide⟩
  · obtain rfl := Option.some.inj (h.symm.trans cmp_at2); exact ⟨acc_at2, by decide, by decide, by decide, by decide, by decide, by decide⟩
  · obtain rfl := Option.some.inj (h.symm.trans cmp_at3); exact ⟨acc_at3, by decide, by decide, by decide, by decide, by decide, by decide⟩
  · obtain rfl := Option.some.inj (h.symm.trans cmp_at4); exact ⟨acc_at4, by decide, by decide, by decide, by decide, by decide, by decide⟩
  · obtain rfl := Option.some.inj (h.symm.trans cmp_at5); exact ⟨acc_at5, by decide, by decide, by decide, by decide, by decide, by decide⟩
  · obtain rfl := Option.some.inj (h.symm.trans cmp_at6); exact ⟨acc_at6, by decide, by decide, by decide, by decide, by decide, by decide⟩
  · obtain rfl := Option.some.inj (h.symm.trans cmp_at7); exact ⟨acc_at7, by decide, by decide, by decide, by decide, by decide, by decide⟩
  · obtain rfl := Option.some.inj (h.symm.trans cmp_at8); exact ⟨acc_at8, by decide, by decide, by decide, by decide, by decide, by decide⟩
  · obtain rfl := Option.some.inj (h.symm.trans cmp_at9); exact ⟨acc_at9, by decide, by decide, by decide, by decide, by decide, by decide⟩
  · obtain rfl := Option.some.inj (h.symm.trans cmp_at10); exact ⟨acc_at10, by decide, by decide, by decide, by decide, by decide, by decide⟩
  · obtain rfl := Option.some.inj (h.symm.trans cmp_at11); exact ⟨acc_at11, by decide, by decide, by decide, by decide, by decide, by decide⟩
end Go.Proofs.YtjdpjielpbiedaaGreatDoor.Td
