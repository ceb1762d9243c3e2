/-
  types.Text, out of what primitiveOf and judge answer; the document's Text, out of Primitive and flaw.
-/
import Derived.Test.YtphobcobpclioaaGreatDoorTtJudge
namespace Go.Proofs.YtphobcobpclioaaGreatDoor.Td
open Go.RowKit

/-- The number of a text that is asked of a primitive kind; j: what judge tells. -/
def cdS (s : ByteArray) (j : Int) : Int := if 8192 < s.size then 4 else if bl s = [34, 34] then 0 else j
theorem cd_long {s : ByteArray} {j : Int} (h : 8192 < s.size) : cdS s j = 4 := if_pos h
theorem cd_null {s : ByteArray} {j : Int} (h : ¬ 8192 < s.size) (h2 : bl s = [34, 34]) : cdS s j = 0 := by unfold cdS; rw [if_neg h, if_pos h2]
theorem cd_else {s : ByteArray} {j : Int} (h : ¬ 8192 < s.size) (h2 : bl s ≠ [34, 34]) : cdS s j = j := by unfold cdS; rw [if_neg h, if_neg h2]
def TtQ (c : Int) (w : World) (e : Ending) (w' : World) : Prop := ∃ v, e = .returned v ∧ TEv w' v 0 c ∧ Below w.heap.size w w'
def RtQ (c : Int) (w : World) (e : Ending) (w' : World) : Prop := ∃ v, e = .returned v ∧ TNo w' v 0 c ∧ Below w.heap.size w w'
/-- A primitive kind's rule, as primitiveOf tells it. -/
def RuQ (k s : ByteArray) (j : Int) (w : World) (e : Ending) (w' : World) : Prop :=
  ∃ (f1 f2 : FuncId) (x : Option Addr) (n c : Nat), e = .returned (.tuple #[.agg #[.string k, .func (.func f1) #[] #[], .func (.func f2) #[] #[], .slice x n c], .bool true]) ∧ Below w.heap.size w w' ∧
    (s.size ≤ 8192 → ∀ w2, Below w'.heap.size w' w2 → Calls Tryz.prog 11 #[.agg #[.string k, .func (.func f1) #[] #[], .func (.func f2) #[] #[], .slice x n c], .string s] w2 fun e w3 => e = .returned (.int .i64 j) ∧ Below w2.heap.size w2 w3)
set_option maxRecDepth 100000 in
set_option maxHeartbeats 2000000 in
theorem text_go (k s : ByteArray) (j : Int) (w : World) (hP : Calls Tryz.prog 9 #[.string k] w (RuQ k s j w)) : Calls Tryz.prog 5 #[.string k, .string s] w (TtQ (cdS s j) w) := by
  have HP : Hid (type_of% hP) := hP
  clear hP
  go_enter Tryz.func5, Tryz.ntmps5
  go_wp2_with fail
  refine HP.out.mono ?_
  rintro _ w1 ⟨f1, f2, x, n, c, rfl, hb, hJ⟩
  have H1 : Hid (Below w.heap.size w w1) := hb
  have HJ : Hid (type_of% hJ) := hJ
  clear hb hJ HP
  by_cases hl : 8192 < s.size
  · have hli : (8192 : Int) < s.size := by omega
    have HC : Hid (cdS s j = 4) := cd_long hl
    go_wp2_with fail
    refine (tfault_any 0 4 (by decide) _).mono ?_
    rintro _ w2 ⟨ev, rfl, hev, hb⟩
    have H2 : Hid (TEv w2 ev 0 4 ∧ Below w.heap.size w w2) := ⟨hev, below_then H1.out (below_then ((Below.refl _ _).alloc (Nat.le_refl _) _) hb)⟩
    clear hev hb
    go_wp2_with fail
    go_ret
    exact ⟨_, rfl, (by rw [HC.out]; exact H2.out.1), H2.out.2⟩
  · have hli : ¬ (8192 : Int) < s.size := by omega
    cases hn : (s.toList == [34, 34]) with
    | true =>
      have HC : Hid (cdS s j = 0) := cd_null hl (str_of hn)
      go_wp2_with fail
      go_ret
      exact ⟨_, rfl, (by rw [HC.out]; exact Or.inl ⟨rfl, rfl⟩), H1.out.alloc H1.out.size _⟩
    | false =>
      have HC : Hid (cdS s j = j) := cd_else hl (str_not hn)
      have HL : Hid (s.size ≤ 8192) := (by omega : s.size ≤ 8192)
      go_wp2_with fail
      refine (HJ.out HL.out _ ((Below.refl _ _).alloc (Nat.le_refl _) _)).mono ?_
      rintro _ w2 ⟨rfl, hb⟩
      have H2 : Hid (Below w.heap.size w w2) := below_then H1.out (below_then ((Below.refl _ _).alloc (Nat.le_refl _) _) hb)
      clear hb HJ
      by_cases h0 : j = 0
      · subst h0
        go_wp2_with fail
        go_ret
        exact ⟨_, rfl, (by rw [HC.out]; exact Or.inl ⟨rfl, rfl⟩), H2.out⟩
      · have q0 : (j == 0) = false := by simpa using h0
        have q0' : (j != 0) = true := by simpa using h0
        go_wp2_with fail
        refine (tfault_any 0 j h0 _).mono ?_
        rintro _ w3 ⟨ev, rfl, hev, hb⟩
        have H3 : Hid (TEv w3 ev 0 j ∧ Below w.heap.size w w3) := ⟨hev, below_then H2.out hb⟩
        clear hev hb
        go_wp2_with fail
        go_ret
        exact ⟨_, rfl, (by rw [HC.out]; exact H3.out.1), H3.out.2⟩
set_option maxHeartbeats 1000000 in
theorem text_none (k s : ByteArray) (w : World) (hP : Calls Tryz.prog 9 #[.string k] w fun e w' => e = .returned (.tuple #[.agg #[.string ⟨#[]⟩, .nilFunc, .nilFunc, .slice none 0 0], .bool false]) ∧ Below w.heap.size w w') : Calls Tryz.prog 5 #[.string k, .string s] w (TtQ 160 w) := by
  have HP : Hid (type_of% hP) := hP
  clear hP
  go_enter Tryz.func5, Tryz.ntmps5
  go_wp2_with fail
  refine HP.out.mono ?_
  rintro _ w1 ⟨rfl, hb⟩
  have H1 : Hid (Below w.heap.size w w1) := hb
  clear hb HP
  go_wp2_with fail
  refine (tfault_any 0 160 (by decide) _).mono ?_
  rintro _ w2 ⟨ev, rfl, hev, hb⟩
  have H2 : Hid (TEv w2 ev 0 160 ∧ Below w.heap.size w w2) := ⟨hev, below_then H1.out (below_then ((Below.refl _ _).alloc (Nat.le_refl _) _) hb)⟩
  clear hev hb
  go_wp2_with fail
  go_ret
  exact ⟨_, rfl, H2.out.1, H2.out.2⟩
set_option maxRecDepth 100000 in
set_option maxHeartbeats 2000000 in
theorem rtext_go (k s : ByteArray) (fl j : Int) (w : World) (hP : ∀ w, Calls Tryz.prog 12 #[.string k] w fun e w' => e = .returned (.bool true) ∧ Below w.heap.size w w')
    (hF : s.size ≤ 8192 → ∀ w, Calls Tryz.prog 14 #[.string k, .string s] w fun e w' => e = .returned (.int .i64 fl) ∧ Below w.heap.size w w') (hj : (fl = 0 ∧ j = 0) ∨ (fl = 102 ∧ j = 162) ∨ (fl = 103 ∧ j = 163)) :
    Calls Tryz.prog 6 #[.string k, .string s] w (RtQ (cdS s j) w) := by
  have HP : Hid (type_of% hP) := hP
  have HF : Hid (type_of% hF) := hF
  clear hP hF
  go_enter Tryz.func6, Tryz.ntmps6
  go_wp2_with fail
  refine (HP.out _).mono ?_
  rintro _ w1 ⟨rfl, hb⟩
  have H1 : Hid (Below w.heap.size w w1) := hb
  clear hb HP
  by_cases hl : 8192 < s.size
  · have hli : (8192 : Int) < s.size := by omega
    have HC : Hid (cdS s j = 4) := cd_long hl
    go_wp2_with fail
    refine (rNo_any 0 4 (by decide) _).mono ?_
    rintro _ w2 ⟨ev, rfl, hev, hb⟩
    have H2 : Hid (TNo w2 ev 0 4 ∧ Below w.heap.size w w2) := ⟨hev, below_then H1.out hb⟩
    clear hev hb
    go_wp2_with fail
    go_ret
    exact ⟨_, rfl, (by rw [HC.out]; exact H2.out.1), H2.out.2⟩
  · have hli : ¬ (8192 : Int) < s.size := by omega
    cases hn : (s.toList == [34, 34]) with
    | true =>
      have HC : Hid (cdS s j = 0) := cd_null hl (str_of hn)
      go_wp2_with fail
      go_ret
      exact ⟨_, rfl, (by rw [HC.out]; exact Or.inl ⟨rfl, rfl⟩), H1.out⟩
    | false =>
      have HC : Hid (cdS s j = j) := cd_else hl (str_not hn)
      have HL : Hid (s.size ≤ 8192) := (by omega : s.size ≤ 8192)
      go_wp2_with fail
      refine (HF.out HL.out _).mono ?_
      rintro _ w2 ⟨rfl, hb⟩
      have H2 : Hid (Below w.heap.size w w2) := below_then H1.out hb
      clear hb HF
      rcases hj with ⟨rfl, rfl⟩ | ⟨rfl, rfl⟩ | ⟨rfl, rfl⟩
      · go_wp2_with fail
        go_ret
        exact ⟨_, rfl, (by rw [HC.out]; exact Or.inl ⟨rfl, rfl⟩), H2.out⟩
      · go_wp2_with fail
        refine (rNo_any 0 162 (by decide) _).mono ?_
        rintro _ w3 ⟨ev, rfl, hev, hb⟩
        have H3 : Hid (TNo w3 ev 0 162 ∧ Below w.heap.size w w3) := ⟨hev, below_then H2.out hb⟩
        clear hev hb
        go_wp2_with fail
        go_ret
        exact ⟨_, rfl, (by rw [HC.out]; exact H3.out.1), H3.out.2⟩
      · go_wp2_with fail
        refine (rNo_any 0 163 (by decide) _).mono ?_
        rintro _ w3 ⟨ev, rfl, hev, hb⟩
        have H3 : Hid (TNo w3 ev 0 163 ∧ Below w.heap.size w w3) := ⟨hev, below_then H2.out hb⟩
        clear hev hb
        go_wp2_with fail
        go_ret
        exact ⟨_, rfl, (by rw [HC.out]; exact H3.out.1), H3.out.2⟩
set_option maxHeartbeats 1000000 in
theorem rtext_none (k s : ByteArray) (w : World) (hP : ∀ w, Calls Tryz.prog 12 #[.string k] w fun e w' => e = .returned (.bool false) ∧ Below w.heap.size w w') : Calls Tryz.prog 6 #[.string k, .string s] w (RtQ 160 w) := by
  have HP : Hid (type_of% hP) := hP
  clear hP
  go_enter Tryz.func6, Tryz.ntmps6
  go_wp2_with fail
  refine (HP.out _).mono ?_
  rintro _ w1 ⟨rfl, hb⟩
  have H1 : Hid (Below w.heap.size w w1) := hb
  clear hb HP
  go_wp2_with fail
  refine (rNo_any 0 160 (by decide) _).mono ?_
  rintro _ w2 ⟨ev, rfl, hev, hb⟩
  have H2 : Hid (TNo w2 ev 0 160 ∧ Below w.heap.size w w2) := ⟨hev, below_then H1.out hb⟩
  clear hev hb
  go_wp2_with fail
  go_ret
  exact ⟨_, rfl, H2.out.1, H2.out.2⟩
end Go.Proofs.YtphobcobpclioaaGreatDoor.Td
