/-
  Runes from 128 on in a text of ASCII: none is there.
-/
import Derived.Test.YtkpebmhokdckfaaDoorEsMk
import Derived.Test.YtkpebmhokdckfaaDoorEsEsc
import Derived.Laws.Runes
import Derived.WalkMore
namespace Go.Proofs.YtkpebmhokdckfaaDoor
open Go.RowKit

theorem quiet_plus {P : Program} {f : FuncId} {args : Array Value} {W : World} {a x : Nat} {v : Value} (h : Calls P f args (W.drewN (a + x)) fun e w' => e = .returned v ∧ w' = W.drewN (a + x)) :
    Calls P f args (W.drewN (a + x)) fun e w' => e = .returned v ∧ ∃ n, w' = W.drewN (a + n) := h.mono fun _ _ ⟨he, hw⟩ => ⟨he, x, hw⟩
set_option maxHeartbeats 400000 in
theorem ValidRune_any (r : Int) (w : World) : Calls Tryd.prog 44 #[.int .i32 r] w fun e w' => e = .returned (.bool (validRune r)) ∧ w' = w := by
  go_enter Tryd.func44, Tryd.ntmps44
  go_wp2
  all_goals (go_ret; exact ⟨ret_bool (by unfold validRune; rw [Bool.eq_iff_iff]; simp; omega), rfl⟩)
/-- A text of ASCII. -/
def Asc (s : ByteArray) : Prop := ∀ b ∈ s.data.toList, b.toNat < 128
theorem Asc.bt {s : ByteArray} (h : Asc s) (p : Nat) : bt s p < 128 := by
  unfold Go.Proofs.YtkpebmhokdckfaaDoor.bt
  rw [List.getD_eq_getElem?_getD]
  cases e : s.data.toList[p]? with
  | none => simp
  | some b => exact h b (List.mem_of_getElem? e)
set_option maxRecDepth 100000 in
set_option maxHeartbeats 2000000 in
theorem IndexRune_err (s : ByteArray) (w : World) (ha : Asc s) :
    Calls Tryd.prog 40 #[.string s, .int .i32 65533] w fun e w' => e = .returned (.int .i64 (-1)) ∧ Below w.heap.size w w' := by
  have HA : Hid (Asc s) := ha
  clear ha
  go_enter Tryd.func40, Tryd.ntmps40
  go_wp2_with fail
  go_loopw [] (fun wx => ∃ p : Nat, p ≤ s.size ∧ wx = w.iter s p) (fun wx => s.size - wx.iterPos w.heap.size)
  case atStart => exact ⟨0, Nat.zero_le _, rfl⟩
  case round =>
    obtain ⟨p, hp, rfl⟩ := hrel
    by_cases hlt : p < s.size
    · have hb : bt s p < 128 := HA.out.bt p
      obtain ⟨h1, h2⟩ := rn_low hlt hb
      have hnx : ∀ ty, (Instr.next (.pointer (some ⟨w.heap.size, 0, none⟩)) true ty).run Tryd.prog (w.iter s p) = .ok (.tuple #[.bool true, .int .i64 p, .int .i32 (bt s p)]) (w.iter s (p + 1)) := fun ty => by
        rw [run_next_any w s p ty hlt]; unfold rn at h1; unfold wd at h2; rw [h1, h2]
      have hne : ((bt s p : Int) == 65533) = false := by simp; omega
      clear h1 h2 hb
      go_wp2_with fail
      go_roundw
      case rel => exact ⟨p + 1, by omega, rfl⟩
      case measure => simp; omega
    · have hnx : ∀ ty, (Instr.next (.pointer (some ⟨w.heap.size, 0, none⟩)) true ty).run Tryd.prog (w.iter s p) = .ok (.tuple #[.bool false]) (w.iter s p) := fun ty => run_next_end w s p ty hlt
      go_wp2_with fail
      go_ret
      exact ⟨rfl, (Below.refl _ _).alloc (Nat.le_refl _) _⟩
set_option maxRecDepth 100000 in
set_option maxHeartbeats 2000000 in
theorem IndexRune_no (s : ByteArray) (r : Int) (w : World) (h1 : 128 ≤ r) (h2 : r ≠ 65533) (hv : validRune r = false) :
    Calls Tryd.prog 40 #[.string s, .int .i32 r] w fun e w' => e = .returned (.int .i64 (-1)) ∧ Below w.heap.size w w' := by
  have hr : (r == 65533) = false := by simpa using h2
  have hlt : decide (r < 128) = false := by simp; omega
  have h0 : decide (0 ≤ r) = true := by simp; omega
  have hc : ∀ w, Calls Tryd.prog 44 #[.int .i32 r] w fun e w' => e = .returned (.bool false) ∧ w' = w := fun w => by have := ValidRune_any r w; rw [hv] at this; exact this
  clear h1 h2 hv
  go_enter Tryd.func40, Tryd.ntmps40
  go_wp2_with (go_at_call 44; refine (hc _).mono ?_; rintro e w' ⟨rfl, rfl⟩)
  go_ret
  exact ⟨rfl, Below.refl _ _⟩
theorem indexByte_asc {s : ByteArray} (h : Asc s) (a e : Nat) {c : UInt8} (hc : 128 ≤ c.toNat) : Lib.indexByte (s.extract a e).data.toList c = -1 := by
  have h1 := Lib.contains_iff_indexByte (s.extract a e).data.toList c
  have h2 : (s.extract a e).data.toList.contains c = false := by
    rw [Bool.eq_false_iff]; intro g
    rw [List.contains_iff_mem] at g
    have := h c (mem_extract g); omega
  rw [h2] at h1
  have h3 := of_decide_eq_false h1.symm
  have h4 := Lib.indexByte_ge (s.extract a e).data.toList c
  omega
set_option maxRecDepth 100000 in
set_option maxHeartbeats 2000000 in
theorem IndexRune_yes (s : ByteArray) (r : Int) (w : World) (hs : s.size = 5) (ha : Asc s) (h1 : 128 ≤ r) (h2 : r ≠ 65533) (hv : validRune r = true) :
    Calls Tryd.prog 40 #[.string s, .int .i32 r] w fun e w' => e = .returned (.int .i64 (-1)) ∧ Below w.heap.size w w' := by
  have hr : (r == 65533) = false := by simpa using h2
  have hlt : decide (r < 128) = false := by simp; omega
  have h0 : decide (0 ≤ r) = true := by simp; omega
  have hc : ∀ w, Calls Tryd.prog 44 #[.int .i32 r] w fun e w' => e = .returned (.bool true) ∧ w' = w := fun w => by have := ValidRune_any r w; rw [hv] at this; exact this
  obtain ⟨f1, f2, f3⟩ := encode_facts r (by rw [validRune_eq]; exact hv) h1
  obtain ⟨RS, hRS⟩ : ∃ R, Utf8.encode r = R := ⟨_, rfl⟩
  have hcv : ∀ w, (convert 21 9 (.int .i32 r)).run Tryd.prog w = .ok (.string RS) w := fun w => by
    rw [← hRS]; exact run_convert_int_string w _ _ _ _ (by rw [Tryd.underlying21]; rfl) Tryd.underlying9
  rw [hRS] at f1 f2 f3
  have HF : Hid (Asc s) := ha
  clear h1 h2 hv hRS ha
  obtain ⟨L, hL⟩ : ∃ L, RS.size = L := ⟨_, rfl⟩
  rcases (by omega : L = 2 ∨ L = 3 ∨ L = 4) with rfl | rfl | rfl
  all_goals clear f1 f2
  · have hR : 1 < RS.size := by omega
    have hS : 1 < s.size := by omega
    have hg : 128 ≤ (RS[1]).toNat := by have := f3 (by omega); simp only [hL] at this; exact this
    have hq : (s[1]).toNat < 128 := HF.out _ (Array.getElem_mem_toList (xs := s.data) hS)
    have hne : (((s[1]).toNat : Int) != ((RS[1]).toNat : Int)) = true := by simp; omega
    have hI : ∀ a b w, Calls Tryd.prog 39 #[.string (s.extract a b), .int .u8 ((RS[1]).toNat : Int)] w fun e w' => e = .returned (.int .i64 (-1)) ∧ w' = w := fun a b w => by
      have := IndexByte_any (s.extract a b) ((RS[1]).toNat : Int) w
      rw [toU8, indexByte_asc HF.out a b hg] at this; exact this
    clear f3 hg hq
    go_enter Tryd.func40, Tryd.ntmps40
    go_wp2_with (go_at_call 44; refine (hc _).mono ?_; rintro e w' ⟨rfl, hw⟩; obtain rfl : w = w' := hw.symm)
    go_step3
    go_wp2_with fail
    go_loopw [9] (fun t9 wx => t9 = .int .i64 1 ∧ wx = w) (fun _ _ => 0)
    case atStart => exact ⟨by go_num, rfl⟩
    case round =>
      obtain ⟨rfl, hww⟩ := hrel
      obtain rfl : w = wr := hww.symm
      clear hww
      go_wp2_with fail
      go_step3
      go_wp2_with fail
      go_quiet (fail)
      go_wp2_with fail
      go_quiet ((go_at_call 39; exact quiet_plus (hI _ _ _)))
      go_wp2_with fail
      simp +zetaDelta only [Exit.inBlock, Exit.then, Exit.noGoto]
      refine bodyPost_ret (results_tmp rfl _ _ _) rfl ?_
      exact ⟨rfl, by first | exact below_drewN (below_drewN (Below.refl _ _) _) _ | exact below_drewN (Below.refl _ _) _⟩
  · have hR : 2 < RS.size := by omega
    have hS : 2 < s.size := by omega
    have hg : 128 ≤ (RS[2]).toNat := by have := f3 (by omega); simp only [hL] at this; exact this
    have hq : (s[2]).toNat < 128 := HF.out _ (Array.getElem_mem_toList (xs := s.data) hS)
    have hne : (((s[2]).toNat : Int) != ((RS[2]).toNat : Int)) = true := by simp; omega
    have hI : ∀ a b w, Calls Tryd.prog 39 #[.string (s.extract a b), .int .u8 ((RS[2]).toNat : Int)] w fun e w' => e = .returned (.int .i64 (-1)) ∧ w' = w := fun a b w => by
      have := IndexByte_any (s.extract a b) ((RS[2]).toNat : Int) w
      rw [toU8, indexByte_asc HF.out a b hg] at this; exact this
    clear f3 hg hq
    go_enter Tryd.func40, Tryd.ntmps40
    go_wp2_with (go_at_call 44; refine (hc _).mono ?_; rintro e w' ⟨rfl, hw⟩; obtain rfl : w = w' := hw.symm)
    go_step3
    go_wp2_with fail
    go_loopw [9] (fun t9 wx => t9 = .int .i64 2 ∧ wx = w) (fun _ _ => 0)
    case atStart => exact ⟨by go_num, rfl⟩
    case round =>
      obtain ⟨rfl, hww⟩ := hrel
      obtain rfl : w = wr := hww.symm
      clear hww
      go_wp2_with fail
      go_step3
      go_wp2_with fail
      go_quiet (fail)
      go_wp2_with fail
      go_quiet ((go_at_call 39; exact quiet_plus (hI _ _ _)))
      go_wp2_with fail
      simp +zetaDelta only [Exit.inBlock, Exit.then, Exit.noGoto]
      refine bodyPost_ret (results_tmp rfl _ _ _) rfl ?_
      exact ⟨rfl, by first | exact below_drewN (below_drewN (Below.refl _ _) _) _ | exact below_drewN (Below.refl _ _) _⟩
  · have hR : 3 < RS.size := by omega
    have hS : 3 < s.size := by omega
    have hg : 128 ≤ (RS[3]).toNat := by have := f3 (by omega); simp only [hL] at this; exact this
    have hq : (s[3]).toNat < 128 := HF.out _ (Array.getElem_mem_toList (xs := s.data) hS)
    have hne : (((s[3]).toNat : Int) != ((RS[3]).toNat : Int)) = true := by simp; omega
    have hI : ∀ a b w, Calls Tryd.prog 39 #[.string (s.extract a b), .int .u8 ((RS[3]).toNat : Int)] w fun e w' => e = .returned (.int .i64 (-1)) ∧ w' = w := fun a b w => by
      have := IndexByte_any (s.extract a b) ((RS[3]).toNat : Int) w
      rw [toU8, indexByte_asc HF.out a b hg] at this; exact this
    clear f3 hg hq
    go_enter Tryd.func40, Tryd.ntmps40
    go_wp2_with (go_at_call 44; refine (hc _).mono ?_; rintro e w' ⟨rfl, hw⟩; obtain rfl : w = w' := hw.symm)
    go_step3
    go_wp2_with fail
    go_loopw [9] (fun t9 wx => t9 = .int .i64 3 ∧ wx = w) (fun _ _ => 0)
    case atStart => exact ⟨by go_num, rfl⟩
    case round =>
      obtain ⟨rfl, hww⟩ := hrel
      obtain rfl : w = wr := hww.symm
      clear hww
      go_wp2_with fail
      go_step3
      go_wp2_with fail
      go_quiet (fail)
      go_wp2_with fail
      go_quiet ((go_at_call 39; exact quiet_plus (hI _ _ _)))
      go_wp2_with fail
      simp +zetaDelta only [Exit.inBlock, Exit.then, Exit.noGoto]
      refine bodyPost_ret (results_tmp rfl _ _ _) rfl ?_
      exact ⟨rfl, by first | exact below_drewN (below_drewN (Below.refl _ _) _) _ | exact below_drewN (Below.refl _ _) _⟩
theorem IndexRune_high (s : ByteArray) (r : Int) (w : World) (hs : s.size = 5) (ha : Asc s) (h1 : 128 ≤ r) :
    Calls Tryd.prog 40 #[.string s, .int .i32 r] w fun e w' => e = .returned (.int .i64 (-1)) ∧ Below w.heap.size w w' := by
  by_cases h2 : r = 65533
  · subst h2; exact IndexRune_err s w ha
  · cases hv : validRune r with
    | false => exact IndexRune_no s r w h1 h2 hv
    | true => exact IndexRune_yes s r w hs ha h1 h2 hv
set_option maxHeartbeats 1000000 in
theorem ContainsRune_high (s : ByteArray) (r : Int) (w : World) (hs : s.size = 5) (ha : Asc s) (h1 : 128 ≤ r) :
    Calls Tryd.prog 35 #[.string s, .int .i32 r] w fun e w' => e = .returned (.bool false) ∧ Below w.heap.size w w' := by
  go_enter Tryd.func35, Tryd.ntmps35
  go_wp2_with (go_at_call 40; refine (IndexRune_high _ _ _ hs ha h1).mono ?_; rintro e w' ⟨rfl, hb⟩)
  go_wp2_with fail
  go_ret
  exact ⟨rfl, hb⟩
set_option maxHeartbeats 1000000 in
theorem has_high (s : ByteArray) (r : Int) (w : World) (hs : s.size = 5) (ha : Asc s) (h1 : 128 ≤ r) :
    Calls Tryd.prog 28 #[.string s, .int .i32 r] w fun e w' => e = .returned (.bool false) ∧ Below w.heap.size w w' := by
  go_enter Tryd.func28, Tryd.ntmps28
  go_wp2_with (go_at_call 35; refine (ContainsRune_high _ _ _ hs ha h1).mono ?_; rintro e w' ⟨rfl, hb⟩)
  go_wp2_with fail
  go_ret
  exact ⟨rfl, hb⟩
/-- Marks that are right: ASCII, no two the same. -/
theorem Wrong.mark {m : Mk} (h : Wrong m.l 5 5) {b : UInt8} (hb : b ∈ m.l) : markI b.toNat = true := by
  obtain ⟨j, hj, e⟩ := List.getElem_of_mem hb
  have hj5 : j < 5 := hj
  have := h.ok j hj5
  unfold badAt at this
  rw [Bool.or_eq_false_iff] at this
  have h1 := this.1
  rw [List.getD_eq_getElem?_getD, List.getElem?_eq_getElem hj, Option.getD_some, e] at h1
  simpa using h1
theorem Wrong.asc {m : Mk} (h : Wrong m.l 5 5) : Asc m.str := fun b hb => by
  have := markI_low (h.mark (b := b) hb); omega
theorem kdB_in {m : Mk} {b : UInt8} (h : inB m.l b.toNat = true) : kdB m b = 2 := by
  rw [inB_toNat] at h; unfold kdB; rw [h]; rfl
theorem kdB_out {m : Mk} {b : UInt8} (h : inB m.l b.toNat = false) : kdB m b = if decide (32 ≤ b.toNat) && b.toNat != 127 then 1 else 3 := by
  rw [inB_toNat] at h; unfold kdB; rw [h]; rfl
theorem kdB_high {m : Mk} (h : Wrong m.l 5 5) {b : UInt8} (hb : 128 ≤ b.toNat) : kdB m b = 1 := by
  have : m.l.contains b = false := by
    rw [Bool.eq_false_iff]; intro g
    rw [List.contains_iff_mem] at g
    have := h.asc b g; omega
  unfold kdB
  rw [this]; simp; omega
end Go.Proofs.YtkpebmhokdckfaaDoor
