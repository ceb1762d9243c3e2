/-
  primitiveOf of the kinds with a table, and of what is no primitive kind.
-/
import Derived.Test.YtjdpjielpbiedaaGreatDoorTtPrim
import Derived.Deep.MidRow
import Derived.WalkSmall
import Derived.Lib.LaidTab
namespace Go.Proofs.YtjdpjielpbiedaaGreatDoor.Td
open Go.RowKit

/-- The table of ASCII spaces. -/
def Spc (w : World) : Prop := Lib.TabIs Tryz.prog w "strings.asciiSpace" .u8 Lib.asciiSpaceTab
theorem gSpc : Tryz.prog.globalNamed "strings.asciiSpace" = some 2 := by kernel_rfl
theorem Spc.below {w w' : World} (h : Spc w) (hb : Below w.heap.size w w') : Spc w' := by
  have hc := World.var?_cell gSpc h 0
  have hl : 2 < w.heap.size := by
    obtain ⟨v, hv⟩ : ∃ v, w.cell? ⟨2, 0, none⟩ = some v := ⟨.int .u8 0, by rw [hc]; kernel_rfl⟩
    exact cell_lt hv
  exact var?_below hb gSpc hl h

/-- The values of a kind's table. -/
def tabOf (k : List UInt8) : Option (List (List UInt8)) :=
  if k = [73, 68, 48, 48, 48, 51] then some [[65, 48, 49], [65, 48, 50], [65, 48, 51], [65, 48, 52], [65, 48, 56], [65, 49, 49], [65, 49, 50], [65, 49, 51], [79, 48, 49], [79, 50, 49], [80, 48, 49], [81, 48, 49], [82, 48, 49]] else if k = [73, 68, 48, 48, 48, 56] then some [[65, 65], [65, 69], [65, 82], [67, 65], [67, 69], [67, 82]] else if k = [73, 68, 48, 48, 54, 49] then some [[68, 78, 83], [73, 83, 79], [77, 49, 48], [77, 49, 49], [85, 85, 73, 68]] else if k = [73, 68, 48, 48, 55, 54] then some [[65, 67, 75], [65, 68, 84], [66, 65, 82], [79, 82, 77], [79, 82, 85], [81, 82, 89]] else if k = [73, 68, 48, 49, 48, 51] then some [[68], [80], [84]] else if k = [73, 68, 48, 49, 48, 52] then some [[50, 46, 49], [50, 46, 50], [50, 46, 51], [50, 46, 51, 46, 49], [50, 46, 52], [50, 46, 53], [50, 46, 53, 46, 49]] else if k = [73, 68, 48, 49, 53, 53] then some [[65, 76], [69, 82], [78, 69], [83, 85]] else if k = [73, 68, 48, 51, 53, 55] then some [[48], [49, 48, 48], [49, 48, 49], [49, 48, 50], [49, 48, 51], [50, 48, 48], [50, 48, 49], [50, 48, 50], [50, 48, 51], [50, 48, 52], [50, 48, 53], [50, 48, 54], [50, 48, 55]] else if k = [73, 68, 48, 53, 49, 54] then some [[69], [70], [73], [87]] else none
/-- Strings in a row. -/
def Strs (w : World) (b : Nat) (l : List (List UInt8)) : Prop := ∀ j, j < l.length → w.cell? ⟨b, j, none⟩ = some (.string ⟨(l.getD j []).toArray⟩)
theorem Strs.below {w w' : World} {b : Nat} {l : List (List UInt8)} (h : Strs w b l) (hb : Below w.heap.size w w') : Strs w' b l := fun j hj => by
  have hl := cell_lt (h j hj)
  rw [hb.cell (p := ⟨b, j, none⟩) hl]; exact h j hj
theorem Strs.new (w : World) (l : List (List UInt8)) (t : TypeId) : Strs (w.alloc (.cells (l.map fun x => Value.string ⟨x.toArray⟩).toArray t)) w.heap.size l := fun j hj => by
  rw [cell_new]
  simp [List.getD, List.getElem?_eq_getElem hj]
theorem ascii_of {s : ByteArray} (h : (s.data.toList.all fun b => decide (b.toNat < 128)) = true) : ∀ (j : Nat) b, s.data.toList[j]? = some b → b.toNat < 128 := fun j b hb => by
  have := List.all_eq_true.1 h b (List.mem_of_getElem? hb)
  simpa using this
theorem str_of {k : ByteArray} {l : List UInt8} (h : (k.toList == l) = true) : bl k = l := by
  have := eq_of_beq h; rw [Lib.toList_data] at this; exact this
theorem str_not {k : ByteArray} {l : List UInt8} (h : (k.toList == l) = false) : bl k ≠ l := fun e => by
  rw [Lib.toList_data, show k.data.toList = l from e] at h; simp at h
theorem fields_0 (w : World) (h : Lib.TabIs Tryz.prog w "strings.asciiSpace" .u8 Lib.asciiSpaceTab) : Calls Tryz.prog 22 #[.string ⟨#[65, 48, 49, 32, 65, 48, 50, 32, 65, 48, 51, 32, 65, 48, 52, 32, 65, 48, 56, 32, 65, 49, 49, 32, 65, 49, 50, 32, 65, 49, 51, 32, 79, 48, 49, 32, 79, 50, 49, 32, 80, 48, 49, 32, 81, 48, 49, 32, 82, 48, 49]⟩] w fun e w' => e = .returned (.slice (some ⟨w.heap.size, 0, none⟩) 13 13) ∧ Strs w' w.heap.size [[65, 48, 49], [65, 48, 50], [65, 48, 51], [65, 48, 52], [65, 48, 56], [65, 49, 49], [65, 49, 50], [65, 49, 51], [79, 48, 49], [79, 50, 49], [80, 48, 49], [81, 48, 49], [82, 48, 49]] ∧ Below w.heap.size w w' := by
  have e : Lib.fields (⟨#[65, 48, 49, 32, 65, 48, 50, 32, 65, 48, 51, 32, 65, 48, 52, 32, 65, 48, 56, 32, 65, 49, 49, 32, 65, 49, 50, 32, 65, 49, 51, 32, 79, 48, 49, 32, 79, 50, 49, 32, 80, 48, 49, 32, 81, 48, 49, 32, 82, 48, 49]⟩ : ByteArray).data.toList = [[65, 48, 49], [65, 48, 50], [65, 48, 51], [65, 48, 52], [65, 48, 56], [65, 49, 49], [65, 49, 50], [65, 49, 51], [79, 48, 49], [79, 50, 49], [80, 48, 49], [81, 48, 49], [82, 48, 49]] := by kernel_rfl
  have c := Tryz.strings_Fields ⟨#[65, 48, 49, 32, 65, 48, 50, 32, 65, 48, 51, 32, 65, 48, 52, 32, 65, 48, 56, 32, 65, 49, 49, 32, 65, 49, 50, 32, 65, 49, 51, 32, 79, 48, 49, 32, 79, 50, 49, 32, 80, 48, 49, 32, 81, 48, 49, 32, 82, 48, 49]⟩ w (by decide) (ascii_of (by kernel_rfl)) h
  rw [e] at c
  refine c.mono ?_
  rintro _ w' ⟨rfl, rfl⟩
  exact ⟨rfl, Strs.new _ _ _, (Below.refl _ _).alloc (Nat.le_refl _) _⟩
theorem fields_1 (w : World) (h : Lib.TabIs Tryz.prog w "strings.asciiSpace" .u8 Lib.asciiSpaceTab) : Calls Tryz.prog 22 #[.string ⟨#[65, 65, 32, 65, 69, 32, 65, 82, 32, 67, 65, 32, 67, 69, 32, 67, 82]⟩] w fun e w' => e = .returned (.slice (some ⟨w.heap.size, 0, none⟩) 6 6) ∧ Strs w' w.heap.size [[65, 65], [65, 69], [65, 82], [67, 65], [67, 69], [67, 82]] ∧ Below w.heap.size w w' := by
  have e : Lib.fields (⟨#[65, 65, 32, 65, 69, 32, 65, 82, 32, 67, 65, 32, 67, 69, 32, 67, 82]⟩ : ByteArray).data.toList = [[65, 65], [65, 69], [65, 82], [67, 65], [67, 69], [67, 82]] := by kernel_rfl
  have c := Tryz.strings_Fields ⟨#[65, 65, 32, 65, 69, 32, 65, 82, 32, 67, 65, 32, 67, 69, 32, 67, 82]⟩ w (by decide) (ascii_of (by kernel_rfl)) h
  rw [e] at c
  refine c.mono ?_
  rintro _ w' ⟨rfl, rfl⟩
  exact ⟨rfl, Strs.new _ _ _, (Below.refl _ _).alloc (Nat.le_refl _) _⟩
theorem fields_2 (w : World) (h : Lib.TabIs Tryz.prog w "strings.asciiSpace" .u8 Lib.asciiSpaceTab) : Calls Tryz.prog 22 #[.string ⟨#[68, 78, 83, 32, 73, 83, 79, 32, 77, 49, 48, 32, 77, 49, 49, 32, 85, 85, 73, 68]⟩] w fun e w' => e = .returned (.slice (some ⟨w.heap.size, 0, none⟩) 5 5) ∧ Strs w' w.heap.size [[68, 78, 83], [73, 83, 79], [77, 49, 48], [77, 49, 49], [85, 85, 73, 68]] ∧ Below w.heap.size w w' := by
  have e : Lib.fields (⟨#[68, 78, 83, 32, 73, 83, 79, 32, 77, 49, 48, 32, 77, 49, 49, 32, 85, 85, 73, 68]⟩ : ByteArray).data.toList = [[68, 78, 83], [73, 83, 79], [77, 49, 48], [77, 49, 49], [85, 85, 73, 68]] := by kernel_rfl
  have c := Tryz.strings_Fields ⟨#[68, 78, 83, 32, 73, 83, 79, 32, 77, 49, 48, 32, 77, 49, 49, 32, 85, 85, 73, 68]⟩ w (by decide) (ascii_of (by kernel_rfl)) h
  rw [e] at c
  refine c.mono ?_
  rintro _ w' ⟨rfl, rfl⟩
  exact ⟨rfl, Strs.new _ _ _, (Below.refl _ _).alloc (Nat.le_refl _) _⟩
theorem fields_3 (w : World) (h : Lib.TabIs Tryz.prog w "strings.asciiSpace" .u8 Lib.asciiSpaceTab) : Calls Tryz.prog 22 #[.string ⟨#[65, 67, 75, 32, 65, 68, 84, 32, 66, 65, 82, 32, 79, 82, 77, 32, 79, 82, 85, 32, 81, 82, 89]⟩] w fun e w' => e = .returned (.slice (some ⟨w.heap.size, 0, none⟩) 6 6) ∧ Strs w' w.heap.size [[65, 67, 75], [65, 68, 84], [66, 65, 82], [79, 82, 77], [79, 82, 85], [81, 82, 89]] ∧ Below w.heap.size w w' := by
  have e : Lib.fields (⟨#[65, 67, 75, 32, 65, 68, 84, 32, 66, 65, 82, 32, 79, 82, 77, 32, 79, 82, 85, 32, 81, 82, 89]⟩ : ByteArray).data.toList = [[65, 67, 75], [65, 68, 84], [66, 65, 82], [79, 82, 77], [79, 82, 85], [81, 82, 89]] := by kernel_rfl
  have c := Tryz.strings_Fields ⟨#[65, 67, 75, 32, 65, 68, 84, 32, 66, 65, 82, 32, 79, 82, 77, 32, 79, 82, 85, 32, 81, 82, 89]⟩ w (by decide) (ascii_of (by kernel_rfl)) h
  rw [e] at c
  refine c.mono ?_
  rintro _ w' ⟨rfl, rfl⟩
  exact ⟨rfl, Strs.new _ _ _, (Below.refl _ _).alloc (Nat.le_refl _) _⟩
theorem fields_4 (w : World) (h : Lib.TabIs Tryz.prog w "strings.asciiSpace" .u8 Lib.asciiSpaceTab) : Calls Tryz.prog 22 #[.string ⟨#[68, 32, 80, 32, 84]⟩] w fun e w' => e = .returned (.slice (some ⟨w.heap.size, 0, none⟩) 3 3) ∧ Strs w' w.heap.size [[68], [80], [84]] ∧ Below w.heap.size w w' := by
  have e : Lib.fields (⟨#[68, 32, 80, 32, 84]⟩ : ByteArray).data.toList = [[68], [80], [84]] := by kernel_rfl
  have c := Tryz.strings_Fields ⟨#[68, 32, 80, 32, 84]⟩ w (by decide) (ascii_of (by kernel_rfl)) h
  rw [e] at c
  refine c.mono ?_
  rintro _ w' ⟨rfl, rfl⟩
  exact ⟨rfl, Strs.new _ _ _, (Below.refl _ _).alloc (Nat.le_refl _) _⟩
theorem fields_5 (w : World) (h : Lib.TabIs Tryz.prog w "strings.asciiSpace" .u8 Lib.asciiSpaceTab) : Calls Tryz.prog 22 #[.string ⟨#[50, 46, 49, 32, 50, 46, 50, 32, 50, 46, 51, 32, 50, 46, 51, 46, 49, 32, 50, 46, 52, 32, 50, 46, 53, 32, 50, 46, 53, 46, 49]⟩] w fun e w' => e = .returned (.slice (some ⟨w.heap.size, 0, none⟩) 7 7) ∧ Strs w' w.heap.size [[50, 46, 49], [50, 46, 50], [50, 46, 51], [50, 46, 51, 46, 49], [50, 46, 52], [50, 46, 53], [50, 46, 53, 46, 49]] ∧ Below w.heap.size w w' := by
  have e : Lib.fields (⟨#[50, 46, 49, 32, 50, 46, 50, 32, 50, 46, 51, 32, 50, 46, 51, 46, 49, 32, 50, 46, 52, 32, 50, 46, 53, 32, 50, 46, 53, 46, 49]⟩ : ByteArray).data.toList = [[50, 46, 49], [50, 46, 50], [50, 46, 51], [50, 46, 51, 46, 49], [50, 46, 52], [50, 46, 53], [50, 46, 53, 46, 49]] := by kernel_rfl
  have c := Tryz.strings_Fields ⟨#[50, 46, 49, 32, 50, 46, 50, 32, 50, 46, 51, 32, 50, 46, 51, 46, 49, 32, 50, 46, 52, 32, 50, 46, 53, 32, 50, 46, 53, 46, 49]⟩ w (by decide) (ascii_of (by kernel_rfl)) h
  rw [e] at c
  refine c.mono ?_
  rintro _ w' ⟨rfl, rfl⟩
  exact ⟨rfl, Strs.new _ _ _, (Below.refl _ _).alloc (Nat.le_refl _) _⟩
theorem fields_6 (w : World) (h : Lib.TabIs Tryz.prog w "strings.asciiSpace" .u8 Lib.asciiSpaceTab) : Calls Tryz.prog 22 #[.string ⟨#[65, 76, 32, 69, 82, 32, 78, 69, 32, 83, 85]⟩] w fun e w' => e = .returned (.slice (some ⟨w.heap.size, 0, none⟩) 4 4) ∧ Strs w' w.heap.size [[65, 76], [69, 82], [78, 69], [83, 85]] ∧ Below w.heap.size w w' := by
  have e : Lib.fields (⟨#[65, 76, 32, 69, 82, 32, 78, 69, 32, 83, 85]⟩ : ByteArray).data.toList = [[65, 76], [69, 82], [78, 69], [83, 85]] := by kernel_rfl
  have c := Tryz.strings_Fields ⟨#[65, 76, 32, 69, 82, 32, 78, 69, 32, 83, 85]⟩ w (by decide) (ascii_of (by kernel_rfl)) h
  rw [e] at c
  refine c.mono ?_
  rintro _ w' ⟨rfl, rfl⟩
  exact ⟨rfl, Strs.new _ _ _, (Below.refl _ _).alloc (Nat.le_refl _) _⟩
theorem fields_7 (w : World) (h : Lib.TabIs Tryz.prog w "strings.asciiSpace" .u8 Lib.asciiSpaceTab) : Calls Tryz.prog 22 #[.string ⟨#[48, 32, 49, 48, 48, 32, 49, 48, 49, 32, 49, 48, 50, 32, 49, 48, 51, 32, 50, 48, 48, 32, 50, 48, 49, 32, 50, 48, 50, 32, 50, 48, 51, 32, 50, 48, 52, 32, 50, 48, 53, 32, 50, 48, 54, 32, 50, 48, 55]⟩] w fun e w' => e = .returned (.slice (some ⟨w.heap.size, 0, none⟩) 13 13) ∧ Strs w' w.heap.size [[48], [49, 48, 48], [49, 48, 49], [49, 48, 50], [49, 48, 51], [50, 48, 48], [50, 48, 49], [50, 48, 50], [50, 48, 51], [50, 48, 52], [50, 48, 53], [50, 48, 54], [50, 48, 55]] ∧ Below w.heap.size w w' := by
  have e : Lib.fields (⟨#[48, 32, 49, 48, 48, 32, 49, 48, 49, 32, 49, 48, 50, 32, 49, 48, 51, 32, 50, 48, 48, 32, 50, 48, 49, 32, 50, 48, 50, 32, 50, 48, 51, 32, 50, 48, 52, 32, 50, 48, 53, 32, 50, 48, 54, 32, 50, 48, 55]⟩ : ByteArray).data.toList = [[48], [49, 48, 48], [49, 48, 49], [49, 48, 50], [49, 48, 51], [50, 48, 48], [50, 48, 49], [50, 48, 50], [50, 48, 51], [50, 48, 52], [50, 48, 53], [50, 48, 54], [50, 48, 55]] := by kernel_rfl
  have c := Tryz.strings_Fields ⟨#[48, 32, 49, 48, 48, 32, 49, 48, 49, 32, 49, 48, 50, 32, 49, 48, 51, 32, 50, 48, 48, 32, 50, 48, 49, 32, 50, 48, 50, 32, 50, 48, 51, 32, 50, 48, 52, 32, 50, 48, 53, 32, 50, 48, 54, 32, 50, 48, 55]⟩ w (by decide) (ascii_of (by kernel_rfl)) h
  rw [e] at c
  refine c.mono ?_
  rintro _ w' ⟨rfl, rfl⟩
  exact ⟨rfl, Strs.new _ _ _, (Below.refl _ _).alloc (Nat.le_refl _) _⟩
theorem fields_8 (w : World) (h : Lib.TabIs Tryz.prog w "strings.asciiSpace" .u8 Lib.asciiSpaceTab) : Calls Tryz.prog 22 #[.string ⟨#[69, 32, 70, 32, 73, 32, 87]⟩] w fun e w' => e = .returned (.slice (some ⟨w.heap.size, 0, none⟩) 4 4) ∧ Strs w' w.heap.size [[69], [70], [73], [87]] ∧ Below w.heap.size w w' := by
  have e : Lib.fields (⟨#[69, 32, 70, 32, 73, 32, 87]⟩ : ByteArray).data.toList = [[69], [70], [73], [87]] := by kernel_rfl
  have c := Tryz.strings_Fields ⟨#[69, 32, 70, 32, 73, 32, 87]⟩ w (by decide) (ascii_of (by kernel_rfl)) h
  rw [e] at c
  refine c.mono ?_
  rintro _ w' ⟨rfl, rfl⟩
  exact ⟨rfl, Strs.new _ _ _, (Below.refl _ _).alloc (Nat.le_refl _) _⟩
/-- What primitiveOf answers to what bears none of the ten names. -/
def PrQ (k : ByteArray) (w : World) (e : Ending) (w' : World) : Prop :=
  ((∃ l b, tabOf (bl k) = some l ∧ Strs w' b l ∧ 0 < l.length ∧ e = .returned (.tuple #[.agg #[.string k, .func (.func 47) #[] #[], .func (.func 44) #[] #[], .slice (some ⟨b, 0, none⟩) l.length l.length], .bool true])) ∨
    (tabOf (bl k) = none ∧ e = .returned (.tuple #[.agg #[.string ⟨#[]⟩, .nilFunc, .nilFunc, .slice none 0 0], .bool false]))) ∧ Below w.heap.size w w'
theorem Strs.set {w : World} {b g : Nat} {l : List (List UInt8)} (h : Strs w b l) (hg : g ≠ b) (o : Nat) (v : Value) : Strs (w.setCell ⟨g, o, none⟩ v) b l := fun j hj => by
  rw [World.cell?_setCell_other _ _ _ _ (fun e => hg (by cases e; rfl))]; exact h j hj
theorem below_set4 {w wf : World} (hb : Below w.heap.size w wf) (x0 x1 x2 x3 : Value) : Below w.heap.size w ((((wf.setCell ⟨w.heap.size, 0, none⟩ x0).setCell ⟨w.heap.size, 1, none⟩ x1).setCell ⟨w.heap.size, 2, none⟩ x2).setCell ⟨w.heap.size, 3, none⟩ x3) :=
  (((hb.setCell (p := ⟨w.heap.size, 0, none⟩) (Nat.le_refl _) _).setCell (p := ⟨w.heap.size, 1, none⟩) (Nat.le_refl _) _).setCell (p := ⟨w.heap.size, 2, none⟩) (Nat.le_refl _) _).setCell (p := ⟨w.heap.size, 3, none⟩) (Nat.le_refl _) _
theorem fin_tab {k : ByteArray} {w wf : World} {b n : Nat} {l : List (List UInt8)} (ht : tabOf (bl k) = some l) (hs : Strs wf b l) (hn : n = l.length) (h0 : 0 < l.length) (hne : w.heap.size ≠ b) (hb : Below w.heap.size w wf) :
    PrQ k w (.returned (.tuple #[.agg #[.string k, .func (.func 47) #[] #[], .func (.func 44) #[] #[], .slice (some ⟨b, 0, none⟩) n n], .bool true])) ((((wf.setCell ⟨w.heap.size, 0, none⟩ (.string k)).setCell ⟨w.heap.size, 1, none⟩ (.func (.func 47) #[] #[])).setCell ⟨w.heap.size, 2, none⟩ (.func (.func 44) #[] #[])).setCell ⟨w.heap.size, 3, none⟩ (.slice (some ⟨b, 0, none⟩) n n)) := by
  subst hn
  exact ⟨Or.inl ⟨l, b, ht, (((hs.set hne _ _).set hne _ _).set hne _ _).set hne _ _, h0, rfl⟩, below_set4 hb _ _ _ _⟩
theorem tab_at0 : tabOf [73, 68, 48, 48, 48, 51] = some [[65, 48, 49], [65, 48, 50], [65, 48, 51], [65, 48, 52], [65, 48, 56], [65, 49, 49], [65, 49, 50], [65, 49, 51], [79, 48, 49], [79, 50, 49], [80, 48, 49], [81, 48, 49], [82, 48, 49]] := by decide
theorem tab_at1 : tabOf [73, 68, 48, 48, 48, 56] = some [[65, 65], [65, 69], [65, 82], [67, 65], [67, 69], [67, 82]] := by decide
theorem tab_at2 : tabOf [73, 68, 48, 48, 54, 49] = some [[68, 78, 83], [73, 83, 79], [77, 49, 48], [77, 49, 49], [85, 85, 73, 68]] := by decide
theorem tab_at3 : tabOf [73, 68, 48, 48, 55, 54] = some [[65, 67, 75], [65, 68, 84], [66, 65, 82], [79, 82, 77], [79, 82, 85], [81, 82, 89]] := by decide
theorem tab_at4 : tabOf [73, 68, 48, 49, 48, 51] = some [[68], [80], [84]] := by decide
theorem tab_at5 : tabOf [73, 68, 48, 49, 48, 52] = some [[50, 46, 49], [50, 46, 50], [50, 46, 51], [50, 46, 51, 46, 49], [50, 46, 52], [50, 46, 53], [50, 46, 53, 46, 49]] := by decide
theorem tab_at6 : tabOf [73, 68, 48, 49, 53, 53] = some [[65, 76], [69, 82], [78, 69], [83, 85]] := by decide
theorem tab_at7 : tabOf [73, 68, 48, 51, 53, 55] = some [[48], [49, 48, 48], [49, 48, 49], [49, 48, 50], [49, 48, 51], [50, 48, 48], [50, 48, 49], [50, 48, 50], [50, 48, 51], [50, 48, 52], [50, 48, 53], [50, 48, 54], [50, 48, 55]] := by decide
theorem tab_at8 : tabOf [73, 68, 48, 53, 49, 54] = some [[69], [70], [73], [87]] := by decide
/-- The names of the kinds with a table. -/
def tNames : List (List UInt8) := [[73, 68, 48, 48, 48, 51], [73, 68, 48, 48, 48, 56], [73, 68, 48, 48, 54, 49], [73, 68, 48, 48, 55, 54], [73, 68, 48, 49, 48, 51], [73, 68, 48, 49, 48, 52], [73, 68, 48, 49, 53, 53], [73, 68, 48, 51, 53, 55], [73, 68, 48, 53, 49, 54]]
theorem tab_none {k : List UInt8} (h : ∀ i, i < 9 → tNames.getD i [] ≠ k) : tabOf k = none := by
  unfold tabOf
  rw [if_neg (fun e => h 0 (by omega) e.symm), if_neg (fun e => h 1 (by omega) e.symm), if_neg (fun e => h 2 (by omega) e.symm), if_neg (fun e => h 3 (by omega) e.symm), if_neg (fun e => h 4 (by omega) e.symm), if_neg (fun e => h 5 (by omega) e.symm), if_neg (fun e => h 6 (by omega) e.symm), if_neg (fun e => h 7 (by omega) e.symm), if_neg (fun e => h 8 (by omega) e.symm)]
theorem str_of' {k : ByteArray} {l : List UInt8} (h : (l == k.toList) = true) : bl k = l := by
  have := eq_of_beq h; rw [Lib.toList_data] at this; exact this.symm
theorem str_not' {k : ByteArray} {l : List UInt8} (h : (l == k.toList) = false) : l ≠ bl k := fun e => by
  rw [Lib.toList_data, show k.data.toList = l from e.symm] at h; simp at h
set_option maxRecDepth 100000 in
set_option maxHeartbeats 8000000 in
theorem prim_rest (k : ByteArray) (w : World) (hT : Tabs w) (hS : Spc w)
    (h0 : ([83, 84] == k.toList) = false) (h1 : ([84, 88] == k.toList) = false) (h2 : ([70, 84] == k.toList) = false) (h3 : ([78, 77] == k.toList) = false) (h4 : ([83, 73] == k.toList) = false) (h5 : ([73, 68] == k.toList) = false) (h6 : ([73, 83] == k.toList) = false) (h7 : ([68, 84] == k.toList) = false) (h8 : ([84, 77] == k.toList) = false) (h9 : ([84, 83] == k.toList) = false) :
    Calls Tryz.prog 31 #[.string k] w (PrQ k w) := by
  have HT : Hid (Tabs w ∧ Spc w) := ⟨hT, hS⟩
  clear hT hS
  go_enter Tryz.func31, Tryz.ntmps31
  go_wp2_with fail
  have HW : Hid (Box (w.alloc (.cells #[.string ⟨#[]⟩, .nilFunc, .nilFunc, .slice none 0 0] 70)) w.heap.size #[.string ⟨#[]⟩, .nilFunc, .nilFunc, .slice none 0 0] ∧ Below w.heap.size w (w.alloc (.cells #[.string ⟨#[]⟩, .nilFunc, .nilFunc, .slice none 0 0] 70)) ∧ (w.alloc (.cells #[.string ⟨#[]⟩, .nilFunc, .nilFunc, .slice none 0 0] 70)).heap.size = w.heap.size + 1) := ⟨Box.new _ _ _, (Below.refl _ _).alloc (Nat.le_refl _) _, by simp⟩
  obtain ⟨W0, hW0⟩ : ∃ W, w.alloc (.cells #[.string ⟨#[]⟩, .nilFunc, .nilFunc, .slice none 0 0] 70) = W := ⟨_, rfl⟩
  rw [hW0] at HW ⊢
  clear hW0
  go_loopw [19] (fun t19 wx => ∃ i : Nat, i ≤ 10 ∧ t19 = .int .i64 i ∧ Hid (Below W0.heap.size W0 wx)) (fun t19 _ => 10 - (intOf t19).toNat)
  case atStart => exact ⟨0, Nat.zero_le _, rfl, Below.refl _ _⟩
  case round =>
    obtain ⟨i, hi, rfl, HB⟩ := hrel
    rcases (by omega : i = 0 ∨ i = 1 ∨ i = 2 ∨ i = 3 ∨ i = 4 ∨ i = 5 ∨ i = 6 ∨ i = 7 ∨ i = 8 ∨ i = 9 ∨ i = 10) with rfl | rfl | rfl | rfl | rfl | rfl | rfl | rfl | rfl | rfl | rfl
    · have hx := pidx_0
      clear hi
      go_wp2_with fail
      go_roundw
      case rel => exact ⟨1, by omega, by go_num, (by have hz := HB.out.size; repeat (first | exact HB.out | refine Below.setCell ?_ (by first | omega | (simp; omega) | simp) _ | refine Below.alloc ?_ (by first | omega | (simp; omega) | simp) _))⟩
      case measure => simp [intOf]
    · have hx := pidx_1
      clear hi
      go_wp2_with fail
      go_roundw
      case rel => exact ⟨2, by omega, by go_num, (by have hz := HB.out.size; repeat (first | exact HB.out | refine Below.setCell ?_ (by first | omega | (simp; omega) | simp) _ | refine Below.alloc ?_ (by first | omega | (simp; omega) | simp) _))⟩
      case measure => simp [intOf]
    · have hx := pidx_2
      clear hi
      go_wp2_with fail
      go_roundw
      case rel => exact ⟨3, by omega, by go_num, (by have hz := HB.out.size; repeat (first | exact HB.out | refine Below.setCell ?_ (by first | omega | (simp; omega) | simp) _ | refine Below.alloc ?_ (by first | omega | (simp; omega) | simp) _))⟩
      case measure => simp [intOf]
    · have hx := pidx_3
      clear hi
      go_wp2_with fail
      go_roundw
      case rel => exact ⟨4, by omega, by go_num, (by have hz := HB.out.size; repeat (first | exact HB.out | refine Below.setCell ?_ (by first | omega | (simp; omega) | simp) _ | refine Below.alloc ?_ (by first | omega | (simp; omega) | simp) _))⟩
      case measure => simp [intOf]
    · have hx := pidx_4
      clear hi
      go_wp2_with fail
      go_roundw
      case rel => exact ⟨5, by omega, by go_num, (by have hz := HB.out.size; repeat (first | exact HB.out | refine Below.setCell ?_ (by first | omega | (simp; omega) | simp) _ | refine Below.alloc ?_ (by first | omega | (simp; omega) | simp) _))⟩
      case measure => simp [intOf]
    · have hx := pidx_5
      clear hi
      go_wp2_with fail
      go_roundw
      case rel => exact ⟨6, by omega, by go_num, (by have hz := HB.out.size; repeat (first | exact HB.out | refine Below.setCell ?_ (by first | omega | (simp; omega) | simp) _ | refine Below.alloc ?_ (by first | omega | (simp; omega) | simp) _))⟩
      case measure => simp [intOf]
    · have hx := pidx_6
      clear hi
      go_wp2_with fail
      go_roundw
      case rel => exact ⟨7, by omega, by go_num, (by have hz := HB.out.size; repeat (first | exact HB.out | refine Below.setCell ?_ (by first | omega | (simp; omega) | simp) _ | refine Below.alloc ?_ (by first | omega | (simp; omega) | simp) _))⟩
      case measure => simp [intOf]
    · have hx := pidx_7
      clear hi
      go_wp2_with fail
      go_roundw
      case rel => exact ⟨8, by omega, by go_num, (by have hz := HB.out.size; repeat (first | exact HB.out | refine Below.setCell ?_ (by first | omega | (simp; omega) | simp) _ | refine Below.alloc ?_ (by first | omega | (simp; omega) | simp) _))⟩
      case measure => simp [intOf]
    · have hx := pidx_8
      clear hi
      go_wp2_with fail
      go_roundw
      case rel => exact ⟨9, by omega, by go_num, (by have hz := HB.out.size; repeat (first | exact HB.out | refine Below.setCell ?_ (by first | omega | (simp; omega) | simp) _ | refine Below.alloc ?_ (by first | omega | (simp; omega) | simp) _))⟩
      case measure => simp [intOf]
    · have hx := pidx_9
      clear hi
      go_wp2_with fail
      go_roundw
      case rel => exact ⟨10, by omega, by go_num, (by have hz := HB.out.size; repeat (first | exact HB.out | refine Below.setCell ?_ (by first | omega | (simp; omega) | simp) _ | refine Below.alloc ?_ (by first | omega | (simp; omega) | simp) _))⟩
      case measure => simp [intOf]
    · have hr : wr.rangeAt 0 0 tbA.toList := fun j v hv => by
        rw [Nat.zero_add, (HT.out.1.below HW.out.2.1).below HB.out j, ← Array.getElem?_toList]; exact hv
      clear hi h0 h1 h2 h3 h4 h5 h6 h7 h8 h9
      go_wp2_with (refine wpList_load_mid rfl 57 (.global 0) rfl 0 0 rfl tbA.toList _ hr Tryz.underlying57 rfl (by kernel_rfl) ?_)
      clear hr
      have j0 := tidx_0
      have j1 := tidx_1
      have j2 := tidx_2
      have j3 := tidx_3
      have j4 := tidx_4
      have j5 := tidx_5
      have j6 := tidx_6
      have j7 := tidx_7
      have j8 := tidx_8
      obtain ⟨A, hA⟩ : ∃ A, tbA = A := ⟨_, rfl⟩
      rw [show tbA.toList.toArray = tbA from rfl, hA]
      rw [hA] at j0 j1 j2 j3 j4 j5 j6 j7 j8
      clear hA
      have HB0 : Hid (Below W0.heap.size W0 wr) := HB
      clear HB
      go_wp2_with fail
      go_loopw [29] (fun t29 wx => ∃ i : Nat, i ≤ 9 ∧ t29 = .int .i64 i ∧ Hid (∀ j, j < i → tNames.getD j [] ≠ bl k) ∧ Hid (Below W0.heap.size W0 wx)) (fun t29 _ => 9 - (intOf t29).toNat)
      case atStart => exact ⟨0, Nat.zero_le _, rfl, fun j h => absurd h (by omega), HB0⟩
      case round =>
        obtain ⟨i, hi, rfl, HN, HB⟩ := hrel
        have kb := (HW.out.1.below HB.out).cell
        have kf := (HW.out.1.below HB.out).free
        have kl := (HW.out.1.below HB.out).lt
        rcases (by omega : i = 0 ∨ i = 1 ∨ i = 2 ∨ i = 3 ∨ i = 4 ∨ i = 5 ∨ i = 6 ∨ i = 7 ∨ i = 8 ∨ i = 9) with rfl | rfl | rfl | rfl | rfl | rfl | rfl | rfl | rfl | rfl
        · clear hi j1 j2 j3 j4 j5 j6 j7 j8
          cases q : ([73, 68, 48, 48, 48, 51] == k.toList) with
          | false =>
            have HN2 : Hid (∀ j, j < 1 → tNames.getD j [] ≠ bl k) := fun m hm => by
              rcases (by omega : m < 0 ∨ m = 0) with g | rfl
              · exact HN.out m g
              · exact str_not' q
            go_wp2_with fail
            go_roundw
            case rel => exact ⟨1, by omega, by go_num, HN2, (by have hz := HB.out.size; repeat (first | exact HB.out | refine Below.setCell ?_ (by first | omega | (simp; omega) | simp) _ | refine Below.alloc ?_ (by first | omega | (simp; omega) | simp) _))⟩
            case measure => simp [intOf]
          | true =>
            have HE : Hid (tabOf (bl k) = some _) := (congrArg tabOf (str_of' q)).trans tab_at0
            go_wp2_with fail
            refine (fields_0 _ ((HT.out.2.below HW.out.2.1).below (by have hz := HB.out.size; repeat (first | exact HB.out | refine Below.setCell ?_ (by first | omega | (simp; omega) | simp) _ | refine Below.alloc ?_ (by first | omega | (simp; omega) | simp) _)))).mono ?_
            rintro _ wf ⟨rfl, hs, hb⟩
            have HF : Hid (type_of% (And.intro hs hb)) := ⟨hs, hb⟩
            have HB3 : Hid (Below W0.heap.size W0 wf) := Below.trans (by have hz := HB.out.size; repeat (first | exact HB.out | refine Below.setCell ?_ (by first | omega | (simp; omega) | simp) _ | refine Below.alloc ?_ (by first | omega | (simp; omega) | simp) _)) (hb.mono (by have hz := HB.out.size; first | omega | (simp; omega)))
            clear hs hb kb kf kl q
            have kb := (HW.out.1.below HB3.out).cell
            have kf := (HW.out.1.below HB3.out).free
            have kl := (HW.out.1.below HB3.out).lt
            go_wp2_with fail
            refine bodyPost_ret ?_ rfl (fin_tab HE.out (by simpa using HF.out.1) rfl (by decide) (by have := HB.out.size; have := HW.out.2.2; omega) (below_then HW.out.2.1 HB3.out))
            simp [results, Tryz.results31, go_sem, kb]
        · clear hi j0 j2 j3 j4 j5 j6 j7 j8
          cases q : ([73, 68, 48, 48, 48, 56] == k.toList) with
          | false =>
            have HN2 : Hid (∀ j, j < 2 → tNames.getD j [] ≠ bl k) := fun m hm => by
              rcases (by omega : m < 1 ∨ m = 1) with g | rfl
              · exact HN.out m g
              · exact str_not' q
            go_wp2_with fail
            go_roundw
            case rel => exact ⟨2, by omega, by go_num, HN2, (by have hz := HB.out.size; repeat (first | exact HB.out | refine Below.setCell ?_ (by first | omega | (simp; omega) | simp) _ | refine Below.alloc ?_ (by first | omega | (simp; omega) | simp) _))⟩
            case measure => simp [intOf]
          | true =>
            have HE : Hid (tabOf (bl k) = some _) := (congrArg tabOf (str_of' q)).trans tab_at1
            go_wp2_with fail
            refine (fields_1 _ ((HT.out.2.below HW.out.2.1).below (by have hz := HB.out.size; repeat (first | exact HB.out | refine Below.setCell ?_ (by first | omega | (simp; omega) | simp) _ | refine Below.alloc ?_ (by first | omega | (simp; omega) | simp) _)))).mono ?_
            rintro _ wf ⟨rfl, hs, hb⟩
            have HF : Hid (type_of% (And.intro hs hb)) := ⟨hs, hb⟩
            have HB3 : Hid (Below W0.heap.size W0 wf) := Below.trans (by have hz := HB.out.size; repeat (first | exact HB.out | refine Below.setCell ?_ (by first | omega | (simp; omega) | simp) _ | refine Below.alloc ?_ (by first | omega | (simp; omega) | simp) _)) (hb.mono (by have hz := HB.out.size; first | omega | (simp; omega)))
            clear hs hb kb kf kl q
            have kb := (HW.out.1.below HB3.out).cell
            have kf := (HW.out.1.below HB3.out).free
            have kl := (HW.out.1.below HB3.out).lt
            go_wp2_with fail
            refine bodyPost_ret ?_ rfl (fin_tab HE.out (by simpa using HF.out.1) rfl (by decide) (by have := HB.out.size; have := HW.out.2.2; omega) (below_then HW.out.2.1 HB3.out))
            simp [results, Tryz.results31, go_sem, kb]
        · clear hi j0 j1 j3 j4 j5 j6 j7 j8
          cases q : ([73, 68, 48, 48, 54, 49] == k.toList) with
          | false =>
            have HN2 : Hid (∀ j, j < 3 → tNames.getD j [] ≠ bl k) := fun m hm => by
              rcases (by omega : m < 2 ∨ m = 2) with g | rfl
              · exact HN.out m g
              · exact str_not' q
            go_wp2_with fail
            go_roundw
            case rel => exact ⟨3, by omega, by go_num, HN2, (by have hz := HB.out.size; repeat (first | exact HB.out | refine Below.setCell ?_ (by first | omega | (simp; omega) | simp) _ | refine Below.alloc ?_ (by first | omega | (simp; omega) | simp) _))⟩
            case measure => simp [intOf]
          | true =>
            have HE : Hid (tabOf (bl k) = some _) := (congrArg tabOf (str_of' q)).trans tab_at2
            go_wp2_with fail
            refine (fields_2 _ ((HT.out.2.below HW.out.2.1).below (by have hz := HB.out.size; repeat (first | exact HB.out | refine Below.setCell ?_ (by first | omega | (simp; omega) | simp) _ | refine Below.alloc ?_ (by first | omega | (simp; omega) | simp) _)))).mono ?_
            rintro _ wf ⟨rfl, hs, hb⟩
            have HF : Hid (type_of% (And.intro hs hb)) := ⟨hs, hb⟩
            have HB3 : Hid (Below W0.heap.size W0 wf) := Below.trans (by have hz := HB.out.size; repeat (first | exact HB.out | refine Below.setCell ?_ (by first | omega | (simp; omega) | simp) _ | refine Below.alloc ?_ (by first | omega | (simp; omega) | simp) _)) (hb.mono (by have hz := HB.out.size; first | omega | (simp; omega)))
            clear hs hb kb kf kl q
            have kb := (HW.out.1.below HB3.out).cell
            have kf := (HW.out.1.below HB3.out).free
            have kl := (HW.out.1.below HB3.out).lt
            go_wp2_with fail
            refine bodyPost_ret ?_ rfl (fin_tab HE.out (by simpa using HF.out.1) rfl (by decide) (by have := HB.out.size; have := HW.out.2.2; omega) (below_then HW.out.2.1 HB3.out))
            simp [results, Tryz.results31, go_sem, kb]
        · clear hi j0 j1 j2 j4 j5 j6 j7 j8
          cases q : ([73, 68, 48, 48, 55, 54] == k.toList) with
          | false =>
            have HN2 : Hid (∀ j, j < 4 → tNames.getD j [] ≠ bl k) := fun m hm => by
              rcases (by omega : m < 3 ∨ m = 3) with g | rfl
              · exact HN.out m g
              · exact str_not' q
            go_wp2_with fail
            go_roundw
            case rel => exact ⟨4, by omega, by go_num, HN2, (by have hz := HB.out.size; repeat (first | exact HB.out | refine Below.setCell ?_ (by first | omega | (simp; omega) | simp) _ | refine Below.alloc ?_ (by first | omega | (simp; omega) | simp) _))⟩
            case measure => simp [intOf]
          | true =>
            have HE : Hid (tabOf (bl k) = some _) := (congrArg tabOf (str_of' q)).trans tab_at3
            go_wp2_with fail
            refine (fields_3 _ ((HT.out.2.below HW.out.2.1).below (by have hz := HB.out.size; repeat (first | exact HB.out | refine Below.setCell ?_ (by first | omega | (simp; omega) | simp) _ | refine Below.alloc ?_ (by first | omega | (simp; omega) | simp) _)))).mono ?_
            rintro _ wf ⟨rfl, hs, hb⟩
            have HF : Hid (type_of% (And.intro hs hb)) := ⟨hs, hb⟩
            have HB3 : Hid (Below W0.heap.size W0 wf) := Below.trans (by have hz := HB.out.size; repeat (first | exact HB.out | refine Below.setCell ?_ (by first | omega | (simp; omega) | simp) _ | refine Below.alloc ?_ (by first | omega | (simp; omega) | simp) _)) (hb.mono (by have hz := HB.out.size; first | omega | (simp; omega)))
            clear hs hb kb kf kl q
            have kb := (HW.out.1.below HB3.out).cell
            have kf := (HW.out.1.below HB3.out).free
            have kl := (HW.out.1.below HB3.out).lt
            go_wp2_with fail
            refine bodyPost_ret ?_ rfl (fin_tab HE.out (by simpa using HF.out.1) rfl (by decide) (by have := HB.out.size; have := HW.out.2.2; omega) (below_then HW.out.2.1 HB3.out))
            simp [results, Tryz.results31, go_sem, kb]
        · clear hi j0 j1 j2 j3 j5 j6 j7 j8
          cases q : ([73, 68, 48, 49, 48, 51] == k.toList) with
          | false =>
            have HN2 : Hid (∀ j, j < 5 → tNames.getD j [] ≠ bl k) := fun m hm => by
              rcases (by omega : m < 4 ∨ m = 4) with g | rfl
              · exact HN.out m g
              · exact str_not' q
            go_wp2_with fail
            go_roundw
            case rel => exact ⟨5, by omega, by go_num, HN2, (by have hz := HB.out.size; repeat (first | exact HB.out | refine Below.setCell ?_ (by first | omega | (simp; omega) | simp) _ | refine Below.alloc ?_ (by first | omega | (simp; omega) | simp) _))⟩
            case measure => simp [intOf]
          | true =>
            have HE : Hid (tabOf (bl k) = some _) := (congrArg tabOf (str_of' q)).trans tab_at4
            go_wp2_with fail
            refine (fields_4 _ ((HT.out.2.below HW.out.2.1).below (by have hz := HB.out.size; repeat (first | exact HB.out | refine Below.setCell ?_ (by first | omega | (simp; omega) | simp) _ | refine Below.alloc ?_ (by first | omega | (simp; omega) | simp) _)))).mono ?_
            rintro _ wf ⟨rfl, hs, hb⟩
            have HF : Hid (type_of% (And.intro hs hb)) := ⟨hs, hb⟩
            have HB3 : Hid (Below W0.heap.size W0 wf) := Below.trans (by have hz := HB.out.size; repeat (first | exact HB.out | refine Below.setCell ?_ (by first | omega | (simp; omega) | simp) _ | refine Below.alloc ?_ (by first | omega | (simp; omega) | simp) _)) (hb.mono (by have hz := HB.out.size; first | omega | (simp; omega)))
            clear hs hb kb kf kl q
            have kb := (HW.out.1.below HB3.out).cell
            have kf := (HW.out.1.below HB3.out).free
            have kl := (HW.out.1.below HB3.out).lt
            go_wp2_with fail
            refine bodyPost_ret ?_ rfl (fin_tab HE.out (by simpa using HF.out.1) rfl (by decide) (by have := HB.out.size; have := HW.out.2.2; omega) (below_then HW.out.2.1 HB3.out))
            simp [results, Tryz.results31, go_sem, kb]
        · clear hi j0 j1 j2 j3 j4 j6 j7 j8
          cases q : ([73, 68, 48, 49, 48, 52] == k.toList) with
          | false =>
            have HN2 : Hid (∀ j, j < 6 → tNames.getD j [] ≠ bl k) := fun m hm => by
              rcases (by omega : m < 5 ∨ m = 5) with g | rfl
              · exact HN.out m g
              · exact str_not' q
            go_wp2_with fail
            go_roundw
            case rel => exact ⟨6, by omega, by go_num, HN2, (by have hz := HB.out.size; repeat (first | exact HB.out | refine Below.setCell ?_ (by first | omega | (simp; omega) | simp) _ | refine Below.alloc ?_ (by first | omega | (simp; omega) | simp) _))⟩
            case measure => simp [intOf]
          | true =>
            have HE : Hid (tabOf (bl k) = some _) := (congrArg tabOf (str_of' q)).trans tab_at5
            go_wp2_with fail
            refine (fields_5 _ ((HT.out.2.below HW.out.2.1).below (by have hz := HB.out.size; repeat (first | exact HB.out | refine Below.setCell ?_ (by first | omega | (simp; omega) | simp) _ | refine Below.alloc ?_ (by first | omega | (simp; omega) | simp) _)))).mono ?_
            rintro _ wf ⟨rfl, hs, hb⟩
            have HF : Hid (type_of% (And.intro hs hb)) := ⟨hs, hb⟩
            have HB3 : Hid (Below W0.heap.size W0 wf) := Below.trans (by have hz := HB.out.size; repeat (first | exact HB.out | refine Below.setCell ?_ (by first | omega | (simp; omega) | simp) _ | refine Below.alloc ?_ (by first | omega | (simp; omega) | simp) _)) (hb.mono (by have hz := HB.out.size; first | omega | (simp; omega)))
            clear hs hb kb kf kl q
            have kb := (HW.out.1.below HB3.out).cell
            have kf := (HW.out.1.below HB3.out).free
            have kl := (HW.out.1.below HB3.out).lt
            go_wp2_with fail
            refine bodyPost_ret ?_ rfl (fin_tab HE.out (by simpa using HF.out.1) rfl (by decide) (by have := HB.out.size; have := HW.out.2.2; omega) (below_then HW.out.2.1 HB3.out))
            simp [results, Tryz.results31, go_sem, kb]
        · clear hi j0 j1 j2 j3 j4 j5 j7 j8
          cases q : ([73, 68, 48, 49, 53, 53] == k.toList) with
          | false =>
            have HN2 : Hid (∀ j, j < 7 → tNames.getD j [] ≠ bl k) := fun m hm => by
              rcases (by omega : m < 6 ∨ m = 6) with g | rfl
              · exact HN.out m g
              · exact str_not' q
            go_wp2_with fail
            go_roundw
            case rel => exact ⟨7, by omega, by go_num, HN2, (by have hz := HB.out.size; repeat (first | exact HB.out | refine Below.setCell ?_ (by first | omega | (simp; omega) | simp) _ | refine Below.alloc ?_ (by first | omega | (simp; omega) | simp) _))⟩
            case measure => simp [intOf]
          | true =>
            have HE : Hid (tabOf (bl k) = some _) := (congrArg tabOf (str_of' q)).trans tab_at6
            go_wp2_with fail
            refine (fields_6 _ ((HT.out.2.below HW.out.2.1).below (by have hz := HB.out.size; repeat (first | exact HB.out | refine Below.setCell ?_ (by first | omega | (simp; omega) | simp) _ | refine Below.alloc ?_ (by first | omega | (simp; omega) | simp) _)))).mono ?_
            rintro _ wf ⟨rfl, hs, hb⟩
            have HF : Hid (type_of% (And.intro hs hb)) := ⟨hs, hb⟩
            have HB3 : Hid (Below W0.heap.size W0 wf) := Below.trans (by have hz := HB.out.size; repeat (first | exact HB.out | refine Below.setCell ?_ (by first | omega | (simp; omega) | simp) _ | refine Below.alloc ?_ (by first | omega | (simp; omega) | simp) _)) (hb.mono (by have hz := HB.out.size; first | omega | (simp; omega)))
            clear hs hb kb kf kl q
            have kb := (HW.out.1.below HB3.out).cell
            have kf := (HW.out.1.below HB3.out).free
            have kl := (HW.out.1.below HB3.out).lt
            go_wp2_with fail
            refine bodyPost_ret ?_ rfl (fin_tab HE.out (by simpa using HF.out.1) rfl (by decide) (by have := HB.out.size; have := HW.out.2.2; omega) (below_then HW.out.2.1 HB3.out))
            simp [results, Tryz.results31, go_sem, kb]
        · clear hi j0 j1 j2 j3 j4 j5 j6 j8
          cases q : ([73, 68, 48, 51, 53, 55] == k.toList) with
          | false =>
            have HN2 : Hid (∀ j, j < 8 → tNames.getD j [] ≠ bl k) := fun m hm => by
              rcases (by omega : m < 7 ∨ m = 7) with g | rfl
              · exact HN.out m g
              · exact str_not' q
            go_wp2_with fail
            go_roundw
            case rel => exact ⟨8, by omega, by go_num, HN2, (by have hz := HB.out.size; repeat (first | exact HB.out | refine Below.setCell ?_ (by first | omega | (simp; omega) | simp) _ | refine Below.alloc ?_ (by first | omega | (simp; omega) | simp) _))⟩
            case measure => simp [intOf]
          | true =>
            have HE : Hid (tabOf (bl k) = some _) := (congrArg tabOf (str_of' q)).trans tab_at7
            go_wp2_with fail
            refine (fields_7 _ ((HT.out.2.below HW.out.2.1).below (by have hz := HB.out.size; repeat (first | exact HB.out | refine Below.setCell ?_ (by first | omega | (simp; omega) | simp) _ | refine Below.alloc ?_ (by first | omega | (simp; omega) | simp) _)))).mono ?_
            rintro _ wf ⟨rfl, hs, hb⟩
            have HF : Hid (type_of% (And.intro hs hb)) := ⟨hs, hb⟩
            have HB3 : Hid (Below W0.heap.size W0 wf) := Below.trans (by have hz := HB.out.size; repeat (first | exact HB.out | refine Below.setCell ?_ (by first | omega | (simp; omega) | simp) _ | refine Below.alloc ?_ (by first | omega | (simp; omega) | simp) _)) (hb.mono (by have hz := HB.out.size; first | omega | (simp; omega)))
            clear hs hb kb kf kl q
            have kb := (HW.out.1.below HB3.out).cell
            have kf := (HW.out.1.below HB3.out).free
            have kl := (HW.out.1.below HB3.out).lt
            go_wp2_with fail
            refine bodyPost_ret ?_ rfl (fin_tab HE.out (by simpa using HF.out.1) rfl (by decide) (by have := HB.out.size; have := HW.out.2.2; omega) (below_then HW.out.2.1 HB3.out))
            simp [results, Tryz.results31, go_sem, kb]
        · clear hi j0 j1 j2 j3 j4 j5 j6 j7
          cases q : ([73, 68, 48, 53, 49, 54] == k.toList) with
          | false =>
            have HN2 : Hid (∀ j, j < 9 → tNames.getD j [] ≠ bl k) := fun m hm => by
              rcases (by omega : m < 8 ∨ m = 8) with g | rfl
              · exact HN.out m g
              · exact str_not' q
            go_wp2_with fail
            go_roundw
            case rel => exact ⟨9, by omega, by go_num, HN2, (by have hz := HB.out.size; repeat (first | exact HB.out | refine Below.setCell ?_ (by first | omega | (simp; omega) | simp) _ | refine Below.alloc ?_ (by first | omega | (simp; omega) | simp) _))⟩
            case measure => simp [intOf]
          | true =>
            have HE : Hid (tabOf (bl k) = some _) := (congrArg tabOf (str_of' q)).trans tab_at8
            go_wp2_with fail
            refine (fields_8 _ ((HT.out.2.below HW.out.2.1).below (by have hz := HB.out.size; repeat (first | exact HB.out | refine Below.setCell ?_ (by first | omega | (simp; omega) | simp) _ | refine Below.alloc ?_ (by first | omega | (simp; omega) | simp) _)))).mono ?_
            rintro _ wf ⟨rfl, hs, hb⟩
            have HF : Hid (type_of% (And.intro hs hb)) := ⟨hs, hb⟩
            have HB3 : Hid (Below W0.heap.size W0 wf) := Below.trans (by have hz := HB.out.size; repeat (first | exact HB.out | refine Below.setCell ?_ (by first | omega | (simp; omega) | simp) _ | refine Below.alloc ?_ (by first | omega | (simp; omega) | simp) _)) (hb.mono (by have hz := HB.out.size; first | omega | (simp; omega)))
            clear hs hb kb kf kl q
            have kb := (HW.out.1.below HB3.out).cell
            have kf := (HW.out.1.below HB3.out).free
            have kl := (HW.out.1.below HB3.out).lt
            go_wp2_with fail
            refine bodyPost_ret ?_ rfl (fin_tab HE.out (by simpa using HF.out.1) rfl (by decide) (by have := HB.out.size; have := HW.out.2.2; omega) (below_then HW.out.2.1 HB3.out))
            simp [results, Tryz.results31, go_sem, kb]
        · have HE : Hid (tabOf (bl k) = none) := tab_none HN.out
          clear hi j0 j1 j2 j3 j4 j5 j6 j7 j8
          go_wp2_with fail
          refine bodyPost_ret ?_ rfl ⟨Or.inr ⟨HE.out, rfl⟩, below_set4 (below_then HW.out.2.1 HB.out) _ _ _ _⟩
          simp [results, Tryz.results31, go_sem, kb]
end Go.Proofs.YtjdpjielpbiedaaGreatDoor.Td
