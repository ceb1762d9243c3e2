/-
  A side of a link, of no program: its pieces (their bytes), the broken one; what each call answers and leaves.
-/
import Derived.Test.YtpcickhellkiaaaDoorIbBase
namespace Go.Proofs.YtpcickhellkiaaaDoor

/-- The pieces of a side, in order; the place of the broken one (-1: none). -/
abbrev Sd := List (List Int) × Int
/-- Where the broken one stands when the piece at i is taken out. -/
def goneH (h i : Int) : Int := if h = i then -1 else if i < h then h - 1 else h
def goneC (c : Sd) (i : Nat) : Sd := (c.1.eraseIdx i, goneH c.2 i)
def putE (c : Sd) : Int := if 256 ≤ c.1.length then 7 else 0
def putC (c : Sd) (bs : List Int) : Sd := if 256 ≤ c.1.length then c else (c.1 ++ [bs], c.2)
def sendE (c : Sd) (bs : List Int) : Int := if bs.length = 0 ∨ 8195 < bs.length then 4 else putE c
def sendC (c : Sd) (bs : List Int) : Sd := if bs.length = 0 ∨ 8195 < bs.length then c else putC c bs
/-- The bytes that frame. -/
def frB (z : Int) : Bool := z == 11 || z == 28 || z == 13
def noiseE (c : Sd) (bs : List Int) : Int × Int :=
  if bs.length = 0 ∨ 64 < bs.length then (0, 4) else match bs.findIdx? frB with | some i => ((i : Int), 80) | none => (0, putE c)
def noiseC (c : Sd) (bs : List Int) : Sd :=
  if bs.length = 0 ∨ 64 < bs.length then c else match bs.findIdx? frB with | some _ => c | none => putC c bs
/-- The piece at a place. -/
def pcAt (c : Sd) (i : Int) : List Int := c.1.getD i.toNat []
/-- A place of the list? -/
def isAt (c : Sd) (i : Int) : Bool := decide (0 ≤ i) && decide (i < c.1.length)
def carE (c : Sd) (i n : Int) : Int := if isAt c i = true ∧ 0 ≤ n ∧ n ≤ (pcAt c i).length ∧ ¬ (0 ≤ c.2 ∧ c.2 ≠ i) then 0 else 2
/-- All that is left is carried? -/
def carW (c : Sd) (i n : Int) : Bool := decide (n = 0) || decide (n = (pcAt c i).length)
def carR (c : Sd) (i n : Int) : List Int := if carE c i n = 0 then (if carW c i n = true then pcAt c i else (pcAt c i).take n.toNat) else []
def carC (c : Sd) (i n : Int) : Sd := if carE c i n = 0 then (if carW c i n = true then goneC c i.toNat else (c.1.set i.toNat ((pcAt c i).drop n.toNat), i)) else c
def dropE (c : Sd) (i : Int) : Int := if isAt c i = true then 0 else 2
def dropC (c : Sd) (i : Int) : Sd := if isAt c i = true then goneC c i.toNat else c
def dblE (c : Sd) (i : Int) : Int := if isAt c i = true ∧ i ≠ c.2 then putE c else 2
def dblC (c : Sd) (i : Int) : Sd := if isAt c i = true ∧ i ≠ c.2 then putC c (pcAt c i) else c
def clipE (c : Sd) (i n : Int) : Int := if isAt c i = true ∧ 1 ≤ n ∧ n ≤ (pcAt c i).length then 0 else 2
def clipC (c : Sd) (i n : Int) : Sd := if isAt c i = true ∧ 1 ≤ n ∧ n ≤ (pcAt c i).length then (c.1.set i.toNat ((pcAt c i).take n.toNat), c.2) else c
/-- What holds of a side, whatever was done. -/
structure SdOk (c : Sd) : Prop where
  len : c.1.length ≤ 256
  pcs : ∀ p ∈ c.1, 1 ≤ p.length ∧ p.length ≤ 8195
  h1 : -1 ≤ c.2
  h2 : c.2 < c.1.length
theorem isAt_iff {c : Sd} {i : Int} : isAt c i = true ↔ 0 ≤ i ∧ i < c.1.length := by simp [isAt]
theorem pcAt_mem {c : Sd} {i : Int} (h : isAt c i = true) : pcAt c i ∈ c.1 ∧ c.1[i.toNat]? = some (pcAt c i) := by
  rw [isAt_iff] at h
  have hl : i.toNat < c.1.length := by omega
  have e : c.1[i.toNat]? = some (pcAt c i) := by unfold pcAt; rw [List.getD_eq_getElem?_getD, List.getElem?_eq_getElem hl]; rfl
  exact ⟨List.mem_of_getElem? e, e⟩
theorem SdOk.put {c : Sd} {bs : List Int} (h : SdOk c) (h1 : 1 ≤ bs.length) (h2 : bs.length ≤ 8195) : SdOk (putC c bs) := by
  unfold putC
  split
  · exact h
  · refine ⟨by simp; omega, fun p hp => ?_, h.h1, by have := h.h2; simp; omega⟩
    rcases List.mem_append.1 hp with g | g
    · exact h.pcs p g
    · rw [List.mem_singleton] at g; subst g; exact ⟨h1, h2⟩
theorem SdOk.gone {c : Sd} {i : Nat} (h : SdOk c) (hi : i < c.1.length) : SdOk (goneC c i) := by
  have hl : (c.1.eraseIdx i).length = c.1.length - 1 := List.length_eraseIdx_of_lt hi
  have h1 := h.h1
  have h2 := h.h2
  have h3 := h.len
  refine ⟨by show (c.1.eraseIdx i).length ≤ _; omega, fun p hp => h.pcs p (List.mem_of_mem_eraseIdx hp), ?_, ?_⟩
  · show -1 ≤ goneH c.2 i
    unfold goneH
    split
    · omega
    · split <;> omega
  · show goneH c.2 i < ((c.1.eraseIdx i).length : Int)
    unfold goneH
    split
    · omega
    · split <;> omega
theorem SdOk.send {c : Sd} {bs : List Int} (h : SdOk c) : SdOk (sendC c bs) := by
  unfold sendC
  split
  · exact h
  · exact h.put (by omega) (by omega)
theorem SdOk.noise {c : Sd} {bs : List Int} (h : SdOk c) : SdOk (noiseC c bs) := by
  unfold noiseC
  split
  · exact h
  · split
    · exact h
    · exact h.put (by omega) (by omega)
theorem SdOk.car {c : Sd} {i n : Int} (h : SdOk c) : SdOk (carC c i n) := by
  unfold carC
  split
  · rename_i hz
    have ha : isAt c i = true ∧ 0 ≤ n ∧ n ≤ (pcAt c i).length ∧ ¬ (0 ≤ c.2 ∧ c.2 ≠ i) := by
      unfold carE at hz
      split at hz
      · assumption
      · omega
    have hi := isAt_iff.1 ha.1
    split
    · exact h.gone (by omega)
    · rename_i hw
      simp only [carW, Bool.or_eq_true, decide_eq_true_eq, not_or] at hw
      have hp := h.pcs _ (pcAt_mem ha.1).1
      refine ⟨by simpa using h.len, fun p hp' => ?_, by show (-1 : Int) ≤ i; omega, by show i < _; simp; omega⟩
      rcases List.mem_or_eq_of_mem_set hp' with g | g
      · exact h.pcs p g
      · subst g
        rw [List.length_drop]
        omega
  · exact h
theorem SdOk.drop {c : Sd} {i : Int} (h : SdOk c) : SdOk (dropC c i) := by
  unfold dropC
  split
  · rename_i ha
    have hi := isAt_iff.1 ha
    exact h.gone (by omega)
  · exact h
theorem SdOk.dbl {c : Sd} {i : Int} (h : SdOk c) : SdOk (dblC c i) := by
  unfold dblC
  split
  · rename_i ha
    have hp := h.pcs _ (pcAt_mem ha.1).1
    exact h.put hp.1 hp.2
  · exact h
theorem SdOk.clip {c : Sd} {i n : Int} (h : SdOk c) : SdOk (clipC c i n) := by
  unfold clipC
  split
  · rename_i ha
    have hi := isAt_iff.1 ha.1
    have hp := h.pcs _ (pcAt_mem ha.1).1
    refine ⟨by simpa using h.len, fun p hp' => ?_, h.h1, by have := h.h2; simpa using this⟩
    rcases List.mem_or_eq_of_mem_set hp' with g | g
    · exact h.pcs p g
    · subst g
      rw [List.length_take]
      omega
  · exact h
end Go.Proofs.YtpcickhellkiaaaDoor
