/-
  Table of any number: the program's and the document's.
-/
import Derived.Test.YtjdpjielpbiedaaGreatDoorKParts
namespace Go.Proofs.YtjdpjielpbiedaaGreatDoor.Td
open Go.RowKit

def tabI (n : Int) : Option (List (List UInt8)) := if 0 ≤ n then tabN n.toNat else none
def tabNums : List Int := [3, 8, 61, 76, 103, 104, 155, 357, 516]
/-- One row of the table of tables. -/
def TRw (i : Nat) (num : Int) (kd vl : ByteArray) : Prop := (∀ w, (Instr.index 57 (.agg tbA) (.int .i64 (i : Int))).run Tryz.prog w = .ok (.agg #[.int .i64 num, .string kd, .string vl]) w) ∧ tabNums[i]? = some num ∧ tabI num = some (Lib.fields (bl vl)) ∧ vl.size ≤ 90 ∧ (vl.data.toList.all fun b => decide (b.toNat < 128)) = true ∧ (Lib.fields (bl vl)).length ≤ 20 ∧ 0 < (Lib.fields (bl vl)).length
theorem trw_at (i : Nat) (h : i < 9) : ∃ num kd vl, TRw i num kd vl := by
  rcases (by omega : i = 0 ∨ i = 1 ∨ i = 2 ∨ i = 3 ∨ i = 4 ∨ i = 5 ∨ i = 6 ∨ i = 7 ∨ i = 8) with rfl | rfl | rfl | rfl | rfl | rfl | rfl | rfl | rfl
  · exact ⟨3, ⟨#[73, 68, 48, 48, 48, 51]⟩, ⟨#[65, 48, 49, 32, 65, 48, 50, 32, 65, 48, 51, 32, 65, 48, 52, 32, 65, 48, 56, 32, 65, 49, 49, 32, 65, 49, 50, 32, 65, 49, 51, 32, 79, 48, 49, 32, 79, 50, 49, 32, 80, 48, 49, 32, 81, 48, 49, 32, 82, 48, 49]⟩, fun w => by kernel_rfl, by rfl, by kernel_rfl, by decide, by decide, by decide, by decide⟩
  · exact ⟨8, ⟨#[73, 68, 48, 48, 48, 56]⟩, ⟨#[65, 65, 32, 65, 69, 32, 65, 82, 32, 67, 65, 32, 67, 69, 32, 67, 82]⟩, fun w => by kernel_rfl, by rfl, by kernel_rfl, by decide, by decide, by decide, by decide⟩
  · exact ⟨61, ⟨#[73, 68, 48, 48, 54, 49]⟩, ⟨#[68, 78, 83, 32, 73, 83, 79, 32, 77, 49, 48, 32, 77, 49, 49, 32, 85, 85, 73, 68]⟩, fun w => by kernel_rfl, by rfl, by kernel_rfl, by decide, by decide, by decide, by decide⟩
  · exact ⟨76, ⟨#[73, 68, 48, 48, 55, 54]⟩, ⟨#[65, 67, 75, 32, 65, 68, 84, 32, 66, 65, 82, 32, 79, 82, 77, 32, 79, 82, 85, 32, 81, 82, 89]⟩, fun w => by kernel_rfl, by rfl, by kernel_rfl, by decide, by decide, by decide, by decide⟩
  · exact ⟨103, ⟨#[73, 68, 48, 49, 48, 51]⟩, ⟨#[68, 32, 80, 32, 84]⟩, fun w => by kernel_rfl, by rfl, by kernel_rfl, by decide, by decide, by decide, by decide⟩
  · exact ⟨104, ⟨#[73, 68, 48, 49, 48, 52]⟩, ⟨#[50, 46, 49, 32, 50, 46, 50, 32, 50, 46, 51, 32, 50, 46, 51, 46, 49, 32, 50, 46, 52, 32, 50, 46, 53, 32, 50, 46, 53, 46, 49]⟩, fun w => by kernel_rfl, by rfl, by kernel_rfl, by decide, by decide, by decide, by decide⟩
  · exact ⟨155, ⟨#[73, 68, 48, 49, 53, 53]⟩, ⟨#[65, 76, 32, 69, 82, 32, 78, 69, 32, 83, 85]⟩, fun w => by kernel_rfl, by rfl, by kernel_rfl, by decide, by decide, by decide, by decide⟩
  · exact ⟨357, ⟨#[73, 68, 48, 51, 53, 55]⟩, ⟨#[48, 32, 49, 48, 48, 32, 49, 48, 49, 32, 49, 48, 50, 32, 49, 48, 51, 32, 50, 48, 48, 32, 50, 48, 49, 32, 50, 48, 50, 32, 50, 48, 51, 32, 50, 48, 52, 32, 50, 48, 53, 32, 50, 48, 54, 32, 50, 48, 55]⟩, fun w => by kernel_rfl, by rfl, by kernel_rfl, by decide, by decide, by decide, by decide⟩
  · exact ⟨516, ⟨#[73, 68, 48, 53, 49, 54]⟩, ⟨#[69, 32, 70, 32, 73, 32, 87]⟩, fun w => by kernel_rfl, by rfl, by kernel_rfl, by decide, by decide, by decide, by decide⟩
theorem tabI_none {n : Int} (h : ∀ (i : Nat) (m : Int), tabNums[i]? = some m → m ≠ n) : tabI n = none := by
  have h0 : (3 : Int) ≠ n := h 0 _ rfl
  have h1 : (8 : Int) ≠ n := h 1 _ rfl
  have h2 : (61 : Int) ≠ n := h 2 _ rfl
  have h3 : (76 : Int) ≠ n := h 3 _ rfl
  have h4 : (103 : Int) ≠ n := h 4 _ rfl
  have h5 : (104 : Int) ≠ n := h 5 _ rfl
  have h6 : (155 : Int) ≠ n := h 6 _ rfl
  have h7 : (357 : Int) ≠ n := h 7 _ rfl
  have h8 : (516 : Int) ≠ n := h 8 _ rfl
  unfold tabI
  split
  · unfold tabN
    rw [if_neg (by omega), if_neg (by omega), if_neg (by omega), if_neg (by omega), if_neg (by omega), if_neg (by omega), if_neg (by omega), if_neg (by omega), if_neg (by omega)]
  · rfl
/-- What a table's values answer: fresh memory, or none. -/
def TaQ (o : Option (List (List UInt8))) (w : World) (e : Ending) (w' : World) : Prop :=
  (∃ l v, o = some l ∧ 0 < l.length ∧ l.length ≤ 20 ∧ e = .returned (.tuple #[v, .nilIface]) ∧ VRow w' w.heap.size 9 v (strs l) ∧ Below w.heap.size w w') ∨
  (o = none ∧ ∃ ev, e = .returned (.tuple #[.slice none 0 0, ev]) ∧ TEv w' ev 0 161 ∧ Below w.heap.size w w')
set_option maxRecDepth 100000 in
set_option maxHeartbeats 4000000 in
theorem Table_any (n : Int) (w : World) (hV : KV w) : Calls Tryz.prog 6 #[.int .i64 n] w (TaQ (tabI n) w) := by
  have HV : Hid (KV w) := hV
  have hr : w.rangeAt 0 0 tbA.toList := fun j v hv => by
    rw [Nat.zero_add, hV.tabs j, ← Array.getElem?_toList]; exact hv
  clear hV
  go_enter Tryz.func6, Tryz.ntmps6
  go_wp2_with (refine wpList_load_mid rfl 57 (.global 0) rfl 0 0 rfl tbA.toList _ hr Tryz.underlying57 rfl (by kernel_rfl) ?_)
  clear hr
  have hrow : ∀ i, i < 9 → ∃ num kd vl, TRw i num kd vl := trw_at
  unfold TRw at hrow
  obtain ⟨A, hA⟩ : ∃ A, tbA = A := ⟨_, rfl⟩
  rw [show tbA.toList.toArray = tbA from rfl, hA]
  rw [hA] at hrow
  have HR : Hid (type_of% hrow) := hrow
  clear hA hrow
  go_loopw [7] (fun t7 wx => ∃ (i : Nat), i ≤ 9 ∧ t7 = .int .i64 i ∧ Hid ((∀ (j : Nat) (m : Int), j < i → tabNums[j]? = some m → m ≠ n) ∧ Below w.heap.size w wx)) (fun t7 _ => 9 - (intOf t7).toNat)
  case atStart => exact ⟨0, Nat.zero_le _, rfl, fun j m hj => absurd hj (Nat.not_lt_zero _), Below.refl _ _⟩
  case round =>
    obtain ⟨i, hi, rfl, HI⟩ := hrel
    by_cases hlt : i < 9
    · have hlt1 : (i : Int) < 9 := by omega
      obtain ⟨num, kd, vl, hix, hnum, htab, hsz, hasc, hfl, hfp⟩ := HR.out i hlt
      have HX : Hid (tabNums[i]? = some num ∧ tabI num = some (Lib.fields (bl vl)) ∧ vl.size ≤ 90 ∧ (vl.data.toList.all fun b => decide (b.toNat < 128)) = true ∧ (Lib.fields (bl vl)).length ≤ 20 ∧ 0 < (Lib.fields (bl vl)).length) := ⟨hnum, htab, hsz, hasc, hfl, hfp⟩
      clear hnum htab hsz hasc hfl hfp
      by_cases hq : num = n
      · subst hq
        obtain ⟨L, hL⟩ : ∃ L, Lib.fields (bl vl) = L := ⟨_, rfl⟩
        have HF : Hid (∀ x, Below w.heap.size w x → Calls Tryz.prog 22 #[.string vl] x fun e x' => e = .returned (.slice (some ⟨x.heap.size, 0, none⟩) L.length L.length) ∧ Hid (VRow x' x.heap.size 9 (.slice (some ⟨x.heap.size, 0, none⟩) L.length L.length) (strs L) ∧ Below x.heap.size x x')) := fun x hx => by
          have c := Tryz.strings_Fields vl x (by have := HX.out.2.2.1; omega) (ascii_of HX.out.2.2.2.1) (HV.out.spc.below hx)
          rw [show Lib.fields vl.data.toList = L from hL] at c
          refine c.mono ?_
          rintro _ x' ⟨rfl, rfl⟩
          exact ⟨rfl, by have := VRow.new x (strs L) 9 (by rw [strs_length, ← hL]; have := HX.out.2.2.2.2.1; omega); rw [strs_length] at this; exact this, (Below.refl _ _).alloc (Nat.le_refl _) _⟩
        have HL : Hid (tabI num = some L ∧ 0 < L.length ∧ L.length ≤ 20) := by rw [hL] at HX; exact ⟨HX.out.2.1, HX.out.2.2.2.2.2, HX.out.2.2.2.2.1⟩
        clear hL HX
        go_wp2_with fail
        refine (HF.out _ (HI.out.2.alloc HI.out.2.size _)).mono ?_
        rintro _ w2 ⟨rfl, H2⟩
        have H3 : Hid (VRow w2 w.heap.size 9 (.slice (some ⟨(wr.alloc (.cells #[.int .i64 num, .string kd, .string vl] 56)).heap.size, 0, none⟩) L.length L.length) (strs L) ∧ Below w.heap.size w w2) := by
          have hb := HI.out.2.alloc HI.out.2.size (.cells #[.int .i64 num, .string kd, .string vl] 56)
          exact ⟨VRow.base H2.out.1 hb.size, below_then hb H2.out.2⟩
        clear H2 HF
        obtain ⟨D, hD⟩ : ∃ D, (wr.alloc (.cells #[.int .i64 num, .string kd, .string vl] 56)).heap.size = D := ⟨_, rfl⟩
        rw [hD] at H3 ⊢
        clear hD
        go_wp2_with fail
        refine bodyPost_ret ?_ rfl (Or.inl ⟨L, _, HL.out.1, HL.out.2.1, HL.out.2.2, rfl, H3.out.1, H3.out.2⟩)
        simp [results, Tryz.results6, go_sem]
      · have hq1 : (num == n) = false := by simpa using hq
        have HN : Hid (∀ (j : Nat) (m : Int), j < i + 1 → tabNums[j]? = some m → m ≠ n) := fun j m hj hm => by
          rcases (by omega : j < i ∨ j = i) with h | rfl
          · exact HI.out.1 j m h hm
          · rw [HX.out.1] at hm; obtain rfl := Option.some.inj hm; exact hq
        clear hq HX
        go_wp2_with fail
        go_roundw
        case rel => exact ⟨i + 1, hlt, by go_num, HN.out, HI.out.2.alloc HI.out.2.size _⟩
        case measure => simp [intOf]; omega
    · have hlt1 : ¬ (i : Int) < 9 := by omega
      obtain rfl : i = 9 := by omega
      have HE : Hid (tabI n = none) := tabI_none (fun j m hm => HI.out.1 j m (by have := (List.getElem?_eq_some_iff.1 hm).1; exact this) hm)
      go_wp2_with fail
      refine (tfault_any 0 161 (by decide) _).mono ?_
      rintro _ w2 ⟨ev, rfl, hev, hb⟩
      have H2 : Hid (TEv w2 ev 0 161 ∧ Below w.heap.size w w2) := ⟨hev, below_then HI.out.2 hb⟩
      clear hev hb
      go_wp2_with fail
      refine bodyPost_ret ?_ rfl (Or.inr ⟨HE.out, ev, rfl, H2.out.1, H2.out.2⟩)
      simp [results, Tryz.results6, go_sem]
/-- What the document's Table answers. -/
def RtaQ (o : Option (List (List UInt8))) (w : World) (e : Ending) (w' : World) : Prop :=
  ((∃ l v, o = some l ∧ 0 < l.length ∧ l.length ≤ 20 ∧ e = .returned v ∧ VRow w' w.heap.size 9 v (strs l)) ∨ (o = none ∧ e = .returned (.slice none 0 0))) ∧ Below w.heap.size w w'
set_option maxHeartbeats 1000000 in
theorem rTable_0 (w : World) : Calls Tryz.prog 7 #[.int .i64 3] w (RtaQ (tabI 3) w) := by
  have HW : Hid (∀ y, Calls Tryz.prog 21 #[.string ⟨#[65, 48, 49, 32, 65, 48, 50, 32, 65, 48, 51, 32, 65, 48, 52, 32, 65, 48, 56, 32, 65, 49, 49, 32, 65, 49, 50, 32, 65, 49, 51, 32, 79, 48, 49, 32, 79, 50, 49, 32, 80, 48, 49, 32, 81, 48, 49, 32, 82, 48, 49]⟩] y (WdQ ⟨#[65, 48, 49, 32, 65, 48, 50, 32, 65, 48, 51, 32, 65, 48, 52, 32, 65, 48, 56, 32, 65, 49, 49, 32, 65, 49, 50, 32, 65, 49, 51, 32, 79, 48, 49, 32, 79, 50, 49, 32, 80, 48, 49, 32, 81, 48, 49, 32, 82, 48, 49]⟩ y)) := fun y => words_any _ y (by decide)
  have HE : Hid (tabI 3 = some (wst (bl ⟨#[65, 48, 49, 32, 65, 48, 50, 32, 65, 48, 51, 32, 65, 48, 52, 32, 65, 48, 56, 32, 65, 49, 49, 32, 65, 49, 50, 32, 65, 49, 51, 32, 79, 48, 49, 32, 79, 50, 49, 32, 80, 48, 49, 32, 81, 48, 49, 32, 82, 48, 49]⟩) ((⟨#[65, 48, 49, 32, 65, 48, 50, 32, 65, 48, 51, 32, 65, 48, 52, 32, 65, 48, 56, 32, 65, 49, 49, 32, 65, 49, 50, 32, 65, 49, 51, 32, 79, 48, 49, 32, 79, 50, 49, 32, 80, 48, 49, 32, 81, 48, 49, 32, 82, 48, 49]⟩ : ByteArray).size + 1)).2 ∧ 0 < (wst (bl ⟨#[65, 48, 49, 32, 65, 48, 50, 32, 65, 48, 51, 32, 65, 48, 52, 32, 65, 48, 56, 32, 65, 49, 49, 32, 65, 49, 50, 32, 65, 49, 51, 32, 79, 48, 49, 32, 79, 50, 49, 32, 80, 48, 49, 32, 81, 48, 49, 32, 82, 48, 49]⟩) ((⟨#[65, 48, 49, 32, 65, 48, 50, 32, 65, 48, 51, 32, 65, 48, 52, 32, 65, 48, 56, 32, 65, 49, 49, 32, 65, 49, 50, 32, 65, 49, 51, 32, 79, 48, 49, 32, 79, 50, 49, 32, 80, 48, 49, 32, 81, 48, 49, 32, 82, 48, 49]⟩ : ByteArray).size + 1)).2.length ∧ (wst (bl ⟨#[65, 48, 49, 32, 65, 48, 50, 32, 65, 48, 51, 32, 65, 48, 52, 32, 65, 48, 56, 32, 65, 49, 49, 32, 65, 49, 50, 32, 65, 49, 51, 32, 79, 48, 49, 32, 79, 50, 49, 32, 80, 48, 49, 32, 81, 48, 49, 32, 82, 48, 49]⟩) ((⟨#[65, 48, 49, 32, 65, 48, 50, 32, 65, 48, 51, 32, 65, 48, 52, 32, 65, 48, 56, 32, 65, 49, 49, 32, 65, 49, 50, 32, 65, 49, 51, 32, 79, 48, 49, 32, 79, 50, 49, 32, 80, 48, 49, 32, 81, 48, 49, 32, 82, 48, 49]⟩ : ByteArray).size + 1)).2.length ≤ 20) := ⟨by kernel_rfl, by decide, by decide⟩
  go_enter Tryz.func7, Tryz.ntmps7
  go_wp2_with fail
  refine (HW.out _).mono ?_
  rintro _ w1 ⟨v, rfl, hs, hb⟩
  have HH : Hid (type_of% (And.intro (srow_of hs) hb)) := ⟨srow_of hs, hb⟩
  clear hs hb
  go_wp2_with fail
  go_ret
  exact ⟨Or.inl ⟨_, v, HE.out.1, HE.out.2.1, HE.out.2.2, rfl, HH.out.1⟩, HH.out.2⟩
set_option maxHeartbeats 1000000 in
theorem rTable_1 (w : World) : Calls Tryz.prog 7 #[.int .i64 8] w (RtaQ (tabI 8) w) := by
  have HW : Hid (∀ y, Calls Tryz.prog 21 #[.string ⟨#[65, 65, 32, 65, 69, 32, 65, 82, 32, 67, 65, 32, 67, 69, 32, 67, 82]⟩] y (WdQ ⟨#[65, 65, 32, 65, 69, 32, 65, 82, 32, 67, 65, 32, 67, 69, 32, 67, 82]⟩ y)) := fun y => words_any _ y (by decide)
  have HE : Hid (tabI 8 = some (wst (bl ⟨#[65, 65, 32, 65, 69, 32, 65, 82, 32, 67, 65, 32, 67, 69, 32, 67, 82]⟩) ((⟨#[65, 65, 32, 65, 69, 32, 65, 82, 32, 67, 65, 32, 67, 69, 32, 67, 82]⟩ : ByteArray).size + 1)).2 ∧ 0 < (wst (bl ⟨#[65, 65, 32, 65, 69, 32, 65, 82, 32, 67, 65, 32, 67, 69, 32, 67, 82]⟩) ((⟨#[65, 65, 32, 65, 69, 32, 65, 82, 32, 67, 65, 32, 67, 69, 32, 67, 82]⟩ : ByteArray).size + 1)).2.length ∧ (wst (bl ⟨#[65, 65, 32, 65, 69, 32, 65, 82, 32, 67, 65, 32, 67, 69, 32, 67, 82]⟩) ((⟨#[65, 65, 32, 65, 69, 32, 65, 82, 32, 67, 65, 32, 67, 69, 32, 67, 82]⟩ : ByteArray).size + 1)).2.length ≤ 20) := ⟨by kernel_rfl, by decide, by decide⟩
  go_enter Tryz.func7, Tryz.ntmps7
  go_wp2_with fail
  refine (HW.out _).mono ?_
  rintro _ w1 ⟨v, rfl, hs, hb⟩
  have HH : Hid (type_of% (And.intro (srow_of hs) hb)) := ⟨srow_of hs, hb⟩
  clear hs hb
  go_wp2_with fail
  go_ret
  exact ⟨Or.inl ⟨_, v, HE.out.1, HE.out.2.1, HE.out.2.2, rfl, HH.out.1⟩, HH.out.2⟩
set_option maxHeartbeats 1000000 in
theorem rTable_2 (w : World) : Calls Tryz.prog 7 #[.int .i64 61] w (RtaQ (tabI 61) w) := by
  have HW : Hid (∀ y, Calls Tryz.prog 21 #[.string ⟨#[68, 78, 83, 32, 73, 83, 79, 32, 77, 49, 48, 32, 77, 49, 49, 32, 85, 85, 73, 68]⟩] y (WdQ ⟨#[68, 78, 83, 32, 73, 83, 79, 32, 77, 49, 48, 32, 77, 49, 49, 32, 85, 85, 73, 68]⟩ y)) := fun y => words_any _ y (by decide)
  have HE : Hid (tabI 61 = some (wst (bl ⟨#[68, 78, 83, 32, 73, 83, 79, 32, 77, 49, 48, 32, 77, 49, 49, 32, 85, 85, 73, 68]⟩) ((⟨#[68, 78, 83, 32, 73, 83, 79, 32, 77, 49, 48, 32, 77, 49, 49, 32, 85, 85, 73, 68]⟩ : ByteArray).size + 1)).2 ∧ 0 < (wst (bl ⟨#[68, 78, 83, 32, 73, 83, 79, 32, 77, 49, 48, 32, 77, 49, 49, 32, 85, 85, 73, 68]⟩) ((⟨#[68, 78, 83, 32, 73, 83, 79, 32, 77, 49, 48, 32, 77, 49, 49, 32, 85, 85, 73, 68]⟩ : ByteArray).size + 1)).2.length ∧ (wst (bl ⟨#[68, 78, 83, 32, 73, 83, 79, 32, 77, 49, 48, 32, 77, 49, 49, 32, 85, 85, 73, 68]⟩) ((⟨#[68, 78, 83, 32, 73, 83, 79, 32, 77, 49, 48, 32, 77, 49, 49, 32, 85, 85, 73, 68]⟩ : ByteArray).size + 1)).2.length ≤ 20) := ⟨by kernel_rfl, by decide, by decide⟩
  go_enter Tryz.func7, Tryz.ntmps7
  go_wp2_with fail
  refine (HW.out _).mono ?_
  rintro _ w1 ⟨v, rfl, hs, hb⟩
  have HH : Hid (type_of% (And.intro (srow_of hs) hb)) := ⟨srow_of hs, hb⟩
  clear hs hb
  go_wp2_with fail
  go_ret
  exact ⟨Or.inl ⟨_, v, HE.out.1, HE.out.2.1, HE.out.2.2, rfl, HH.out.1⟩, HH.out.2⟩
set_option maxHeartbeats 1000000 in
theorem rTable_3 (w : World) : Calls Tryz.prog 7 #[.int .i64 76] w (RtaQ (tabI 76) w) := by
  have HW : Hid (∀ y, Calls Tryz.prog 21 #[.string ⟨#[65, 67, 75, 32, 65, 68, 84, 32, 66, 65, 82, 32, 79, 82, 77, 32, 79, 82, 85, 32, 81, 82, 89]⟩] y (WdQ ⟨#[65, 67, 75, 32, 65, 68, 84, 32, 66, 65, 82, 32, 79, 82, 77, 32, 79, 82, 85, 32, 81, 82, 89]⟩ y)) := fun y => words_any _ y (by decide)
  have HE : Hid (tabI 76 = some (wst (bl ⟨#[65, 67, 75, 32, 65, 68, 84, 32, 66, 65, 82, 32, 79, 82, 77, 32, 79, 82, 85, 32, 81, 82, 89]⟩) ((⟨#[65, 67, 75, 32, 65, 68, 84, 32, 66, 65, 82, 32, 79, 82, 77, 32, 79, 82, 85, 32, 81, 82, 89]⟩ : ByteArray).size + 1)).2 ∧ 0 < (wst (bl ⟨#[65, 67, 75, 32, 65, 68, 84, 32, 66, 65, 82, 32, 79, 82, 77, 32, 79, 82, 85, 32, 81, 82, 89]⟩) ((⟨#[65, 67, 75, 32, 65, 68, 84, 32, 66, 65, 82, 32, 79, 82, 77, 32, 79, 82, 85, 32, 81, 82, 89]⟩ : ByteArray).size + 1)).2.length ∧ (wst (bl ⟨#[65, 67, 75, 32, 65, 68, 84, 32, 66, 65, 82, 32, 79, 82, 77, 32, 79, 82, 85, 32, 81, 82, 89]⟩) ((⟨#[65, 67, 75, 32, 65, 68, 84, 32, 66, 65, 82, 32, 79, 82, 77, 32, 79, 82, 85, 32, 81, 82, 89]⟩ : ByteArray).size + 1)).2.length ≤ 20) := ⟨by kernel_rfl, by decide, by decide⟩
  go_enter Tryz.func7, Tryz.ntmps7
  go_wp2_with fail
  refine (HW.out _).mono ?_
  rintro _ w1 ⟨v, rfl, hs, hb⟩
  have HH : Hid (type_of% (And.intro (srow_of hs) hb)) := ⟨srow_of hs, hb⟩
  clear hs hb
  go_wp2_with fail
  go_ret
  exact ⟨Or.inl ⟨_, v, HE.out.1, HE.out.2.1, HE.out.2.2, rfl, HH.out.1⟩, HH.out.2⟩
set_option maxHeartbeats 1000000 in
theorem rTable_4 (w : World) : Calls Tryz.prog 7 #[.int .i64 103] w (RtaQ (tabI 103) w) := by
  have HW : Hid (∀ y, Calls Tryz.prog 21 #[.string ⟨#[68, 32, 80, 32, 84]⟩] y (WdQ ⟨#[68, 32, 80, 32, 84]⟩ y)) := fun y => words_any _ y (by decide)
  have HE : Hid (tabI 103 = some (wst (bl ⟨#[68, 32, 80, 32, 84]⟩) ((⟨#[68, 32, 80, 32, 84]⟩ : ByteArray).size + 1)).2 ∧ 0 < (wst (bl ⟨#[68, 32, 80, 32, 84]⟩) ((⟨#[68, 32, 80, 32, 84]⟩ : ByteArray).size + 1)).2.length ∧ (wst (bl ⟨#[68, 32, 80, 32, 84]⟩) ((⟨#[68, 32, 80, 32, 84]⟩ : ByteArray).size + 1)).2.length ≤ 20) := ⟨by kernel_rfl, by decide, by decide⟩
  go_enter Tryz.func7, Tryz.ntmps7
  go_wp2_with fail
  refine (HW.out _).mono ?_
  rintro _ w1 ⟨v, rfl, hs, hb⟩
  have HH : Hid (type_of% (And.intro (srow_of hs) hb)) := ⟨srow_of hs, hb⟩
  clear hs hb
  go_wp2_with fail
  go_ret
  exact ⟨Or.inl ⟨_, v, HE.out.1, HE.out.2.1, HE.out.2.2, rfl, HH.out.1⟩, HH.out.2⟩
set_option maxHeartbeats 1000000 in
theorem rTable_5 (w : World) : Calls Tryz.prog 7 #[.int .i64 104] w (RtaQ (tabI 104) w) := by
  have HW : Hid (∀ y, Calls Tryz.prog 21 #[.string ⟨#[50, 46, 49, 32, 50, 46, 50, 32, 50, 46, 51, 32, 50, 46, 51, 46, 49, 32, 50, 46, 52, 32, 50, 46, 53, 32, 50, 46, 53, 46, 49]⟩] y (WdQ ⟨#[50, 46, 49, 32, 50, 46, 50, 32, 50, 46, 51, 32, 50, 46, 51, 46, 49, 32, 50, 46, 52, 32, 50, 46, 53, 32, 50, 46, 53, 46, 49]⟩ y)) := fun y => words_any _ y (by decide)
  have HE : Hid (tabI 104 = some (wst (bl ⟨#[50, 46, 49, 32, 50, 46, 50, 32, 50, 46, 51, 32, 50, 46, 51, 46, 49, 32, 50, 46, 52, 32, 50, 46, 53, 32, 50, 46, 53, 46, 49]⟩) ((⟨#[50, 46, 49, 32, 50, 46, 50, 32, 50, 46, 51, 32, 50, 46, 51, 46, 49, 32, 50, 46, 52, 32, 50, 46, 53, 32, 50, 46, 53, 46, 49]⟩ : ByteArray).size + 1)).2 ∧ 0 < (wst (bl ⟨#[50, 46, 49, 32, 50, 46, 50, 32, 50, 46, 51, 32, 50, 46, 51, 46, 49, 32, 50, 46, 52, 32, 50, 46, 53, 32, 50, 46, 53, 46, 49]⟩) ((⟨#[50, 46, 49, 32, 50, 46, 50, 32, 50, 46, 51, 32, 50, 46, 51, 46, 49, 32, 50, 46, 52, 32, 50, 46, 53, 32, 50, 46, 53, 46, 49]⟩ : ByteArray).size + 1)).2.length ∧ (wst (bl ⟨#[50, 46, 49, 32, 50, 46, 50, 32, 50, 46, 51, 32, 50, 46, 51, 46, 49, 32, 50, 46, 52, 32, 50, 46, 53, 32, 50, 46, 53, 46, 49]⟩) ((⟨#[50, 46, 49, 32, 50, 46, 50, 32, 50, 46, 51, 32, 50, 46, 51, 46, 49, 32, 50, 46, 52, 32, 50, 46, 53, 32, 50, 46, 53, 46, 49]⟩ : ByteArray).size + 1)).2.length ≤ 20) := ⟨by kernel_rfl, by decide, by decide⟩
  go_enter Tryz.func7, Tryz.ntmps7
  go_wp2_with fail
  refine (HW.out _).mono ?_
  rintro _ w1 ⟨v, rfl, hs, hb⟩
  have HH : Hid (type_of% (And.intro (srow_of hs) hb)) := ⟨srow_of hs, hb⟩
  clear hs hb
  go_wp2_with fail
  go_ret
  exact ⟨Or.inl ⟨_, v, HE.out.1, HE.out.2.1, HE.out.2.2, rfl, HH.out.1⟩, HH.out.2⟩
set_option maxHeartbeats 1000000 in
theorem rTable_6 (w : World) : Calls Tryz.prog 7 #[.int .i64 155] w (RtaQ (tabI 155) w) := by
  have HW : Hid (∀ y, Calls Tryz.prog 21 #[.string ⟨#[65, 76, 32, 69, 82, 32, 78, 69, 32, 83, 85]⟩] y (WdQ ⟨#[65, 76, 32, 69, 82, 32, 78, 69, 32, 83, 85]⟩ y)) := fun y => words_any _ y (by decide)
  have HE : Hid (tabI 155 = some (wst (bl ⟨#[65, 76, 32, 69, 82, 32, 78, 69, 32, 83, 85]⟩) ((⟨#[65, 76, 32, 69, 82, 32, 78, 69, 32, 83, 85]⟩ : ByteArray).size + 1)).2 ∧ 0 < (wst (bl ⟨#[65, 76, 32, 69, 82, 32, 78, 69, 32, 83, 85]⟩) ((⟨#[65, 76, 32, 69, 82, 32, 78, 69, 32, 83, 85]⟩ : ByteArray).size + 1)).2.length ∧ (wst (bl ⟨#[65, 76, 32, 69, 82, 32, 78, 69, 32, 83, 85]⟩) ((⟨#[65, 76, 32, 69, 82, 32, 78, 69, 32, 83, 85]⟩ : ByteArray).size + 1)).2.length ≤ 20) := ⟨by kernel_rfl, by decide, by decide⟩
  go_enter Tryz.func7, Tryz.ntmps7
  go_wp2_with fail
  refine (HW.out _).mono ?_
  rintro _ w1 ⟨v, rfl, hs, hb⟩
  have HH : Hid (type_of% (And.intro (srow_of hs) hb)) := ⟨srow_of hs, hb⟩
  clear hs hb
  go_wp2_with fail
  go_ret
  exact ⟨Or.inl ⟨_, v, HE.out.1, HE.out.2.1, HE.out.2.2, rfl, HH.out.1⟩, HH.out.2⟩
set_option maxHeartbeats 1000000 in
theorem rTable_7 (w : World) : Calls Tryz.prog 7 #[.int .i64 357] w (RtaQ (tabI 357) w) := by
  have HW : Hid (∀ y, Calls Tryz.prog 21 #[.string ⟨#[48, 32, 49, 48, 48, 32, 49, 48, 49, 32, 49, 48, 50, 32, 49, 48, 51, 32, 50, 48, 48, 32, 50, 48, 49, 32, 50, 48, 50, 32, 50, 48, 51, 32, 50, 48, 52, 32, 50, 48, 53, 32, 50, 48, 54, 32, 50, 48, 55]⟩] y (WdQ ⟨#[48, 32, 49, 48, 48, 32, 49, 48, 49, 32, 49, 48, 50, 32, 49, 48, 51, 32, 50, 48, 48, 32, 50, 48, 49, 32, 50, 48, 50, 32, 50, 48, 51, 32, 50, 48, 52, 32, 50, 48, 53, 32, 50, 48, 54, 32, 50, 48, 55]⟩ y)) := fun y => words_any _ y (by decide)
  have HE : Hid (tabI 357 = some (wst (bl ⟨#[48, 32, 49, 48, 48, 32, 49, 48, 49, 32, 49, 48, 50, 32, 49, 48, 51, 32, 50, 48, 48, 32, 50, 48, 49, 32, 50, 48, 50, 32, 50, 48, 51, 32, 50, 48, 52, 32, 50, 48, 53, 32, 50, 48, 54, 32, 50, 48, 55]⟩) ((⟨#[48, 32, 49, 48, 48, 32, 49, 48, 49, 32, 49, 48, 50, 32, 49, 48, 51, 32, 50, 48, 48, 32, 50, 48, 49, 32, 50, 48, 50, 32, 50, 48, 51, 32, 50, 48, 52, 32, 50, 48, 53, 32, 50, 48, 54, 32, 50, 48, 55]⟩ : ByteArray).size + 1)).2 ∧ 0 < (wst (bl ⟨#[48, 32, 49, 48, 48, 32, 49, 48, 49, 32, 49, 48, 50, 32, 49, 48, 51, 32, 50, 48, 48, 32, 50, 48, 49, 32, 50, 48, 50, 32, 50, 48, 51, 32, 50, 48, 52, 32, 50, 48, 53, 32, 50, 48, 54, 32, 50, 48, 55]⟩) ((⟨#[48, 32, 49, 48, 48, 32, 49, 48, 49, 32, 49, 48, 50, 32, 49, 48, 51, 32, 50, 48, 48, 32, 50, 48, 49, 32, 50, 48, 50, 32, 50, 48, 51, 32, 50, 48, 52, 32, 50, 48, 53, 32, 50, 48, 54, 32, 50, 48, 55]⟩ : ByteArray).size + 1)).2.length ∧ (wst (bl ⟨#[48, 32, 49, 48, 48, 32, 49, 48, 49, 32, 49, 48, 50, 32, 49, 48, 51, 32, 50, 48, 48, 32, 50, 48, 49, 32, 50, 48, 50, 32, 50, 48, 51, 32, 50, 48, 52, 32, 50, 48, 53, 32, 50, 48, 54, 32, 50, 48, 55]⟩) ((⟨#[48, 32, 49, 48, 48, 32, 49, 48, 49, 32, 49, 48, 50, 32, 49, 48, 51, 32, 50, 48, 48, 32, 50, 48, 49, 32, 50, 48, 50, 32, 50, 48, 51, 32, 50, 48, 52, 32, 50, 48, 53, 32, 50, 48, 54, 32, 50, 48, 55]⟩ : ByteArray).size + 1)).2.length ≤ 20) := ⟨by kernel_rfl, by decide, by decide⟩
  go_enter Tryz.func7, Tryz.ntmps7
  go_wp2_with fail
  refine (HW.out _).mono ?_
  rintro _ w1 ⟨v, rfl, hs, hb⟩
  have HH : Hid (type_of% (And.intro (srow_of hs) hb)) := ⟨srow_of hs, hb⟩
  clear hs hb
  go_wp2_with fail
  go_ret
  exact ⟨Or.inl ⟨_, v, HE.out.1, HE.out.2.1, HE.out.2.2, rfl, HH.out.1⟩, HH.out.2⟩
set_option maxHeartbeats 1000000 in
theorem rTable_8 (w : World) : Calls Tryz.prog 7 #[.int .i64 516] w (RtaQ (tabI 516) w) := by
  have HW : Hid (∀ y, Calls Tryz.prog 21 #[.string ⟨#[69, 32, 70, 32, 73, 32, 87]⟩] y (WdQ ⟨#[69, 32, 70, 32, 73, 32, 87]⟩ y)) := fun y => words_any _ y (by decide)
  have HE : Hid (tabI 516 = some (wst (bl ⟨#[69, 32, 70, 32, 73, 32, 87]⟩) ((⟨#[69, 32, 70, 32, 73, 32, 87]⟩ : ByteArray).size + 1)).2 ∧ 0 < (wst (bl ⟨#[69, 32, 70, 32, 73, 32, 87]⟩) ((⟨#[69, 32, 70, 32, 73, 32, 87]⟩ : ByteArray).size + 1)).2.length ∧ (wst (bl ⟨#[69, 32, 70, 32, 73, 32, 87]⟩) ((⟨#[69, 32, 70, 32, 73, 32, 87]⟩ : ByteArray).size + 1)).2.length ≤ 20) := ⟨by kernel_rfl, by decide, by decide⟩
  go_enter Tryz.func7, Tryz.ntmps7
  go_wp2_with fail
  refine (HW.out _).mono ?_
  rintro _ w1 ⟨v, rfl, hs, hb⟩
  have HH : Hid (type_of% (And.intro (srow_of hs) hb)) := ⟨srow_of hs, hb⟩
  clear hs hb
  go_wp2_with fail
  go_ret
  exact ⟨Or.inl ⟨_, v, HE.out.1, HE.out.2.1, HE.out.2.2, rfl, HH.out.1⟩, HH.out.2⟩
set_option maxHeartbeats 1000000 in
theorem rTable_none (n : Int) (w : World) (q0 : (n == 3) = false) (q1 : (n == 8) = false) (q2 : (n == 61) = false) (q3 : (n == 76) = false) (q4 : (n == 103) = false) (q5 : (n == 104) = false) (q6 : (n == 155) = false) (q7 : (n == 357) = false) (q8 : (n == 516) = false) : Calls Tryz.prog 7 #[.int .i64 n] w fun e w' => e = .returned (.slice none 0 0) ∧ w' = w := by
  go_enter Tryz.func7, Tryz.ntmps7
  go_wp2_with fail
  go_ret
  exact ⟨rfl, rfl⟩
theorem rTable_any (n : Int) (w : World) : Calls Tryz.prog 7 #[.int .i64 n] w (RtaQ (tabI n) w) := by
  by_cases h0 : n = 3
  · subst h0; exact rTable_0 w
  by_cases h1 : n = 8
  · subst h1; exact rTable_1 w
  by_cases h2 : n = 61
  · subst h2; exact rTable_2 w
  by_cases h3 : n = 76
  · subst h3; exact rTable_3 w
  by_cases h4 : n = 103
  · subst h4; exact rTable_4 w
  by_cases h5 : n = 104
  · subst h5; exact rTable_5 w
  by_cases h6 : n = 155
  · subst h6; exact rTable_6 w
  by_cases h7 : n = 357
  · subst h7; exact rTable_7 w
  by_cases h8 : n = 516
  · subst h8; exact rTable_8 w
  have hE : tabI n = none := by
    unfold tabI
    split
    · unfold tabN
      rw [if_neg (by omega), if_neg (by omega), if_neg (by omega), if_neg (by omega), if_neg (by omega), if_neg (by omega), if_neg (by omega), if_neg (by omega), if_neg (by omega)]
    · rfl
  refine (rTable_none n w (by simpa using h0) (by simpa using h1) (by simpa using h2) (by simpa using h3) (by simpa using h4) (by simpa using h5) (by simpa using h6) (by simpa using h7) (by simpa using h8)).mono ?_
  rintro _ w1 ⟨rfl, rfl⟩
  exact ⟨Or.inr ⟨hE, rfl⟩, Below.refl _ _⟩
end Go.Proofs.YtjdpjielpbiedaaGreatDoor.Td
