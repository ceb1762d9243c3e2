/-
  types.Text of the kind "IS".
-/
import Derived.Test.YtgcdddkebehajaaDoorTdLeaf
import Derived.Laws.EntriesVeiled
import Derived.Deep.RegionHeld3
namespace Go.Proofs.YtgcdddkebehajaaDoor.Td
open Go.RowKit

theorem below_then {w a b : World} (h : Below w.heap.size w a) (g : Below a.heap.size a b) : Below w.heap.size w b := h.trans (g.mono h.size)
theorem str_of {k : ByteArray} {l : List UInt8} (h : (k.toList == l) = true) : bl k = l := by
  rw [Lib.toList_data] at h; exact beq_iff_eq.1 h
theorem str_not {k : ByteArray} {l : List UInt8} (h : (k.toList == l) = false) : bl k ≠ l := fun e => by
  rw [Lib.toList_data] at h; exact absurd e (beq_eq_false_iff_ne.1 h)
theorem cell_lt {w : World} {a : Addr} {v : Value} (h : w.cell? a = some v) : a.block < w.heap.size := by
  rcases Nat.lt_or_ge a.block w.heap.size with g | g
  · exact g
  · simp [World.cell?, Array.getElem?_eq_none g] at h
/-- A block of one's own. -/
structure Box (w : World) (b : Nat) (cs : Array Value) : Prop where
  lt : b < w.heap.size
  cell : ∀ o, w.cell? ⟨b, o, none⟩ = cs[o]?
  free : ∀ o, w.frozen? ⟨b, o, none⟩ = false
theorem cell_new (w : World) (cs : Array Value) (t : TypeId) (j : Nat) : (w.alloc (.cells cs t)).cell? ⟨w.heap.size, j, none⟩ = cs[j]? := by
  have hb : (w.alloc (.cells cs t)).heap[w.heap.size]? = some (.cells cs t) := by show (w.heap.push _)[w.heap.size]? = _; simp
  unfold World.cell?
  rw [hb]
  rfl
theorem Box.new (w : World) (cs : Array Value) (t : TypeId) : Box (w.alloc (.cells cs t)) w.heap.size cs :=
  ⟨by simp, cell_new w cs t, fun o => by simp⟩
theorem Box.below {w w' : World} {b : Nat} {cs : Array Value} (h : Box w b cs) (hb : Below w.heap.size w w') : Box w' b cs :=
  ⟨Nat.lt_of_lt_of_le h.lt hb.size, fun o => by rw [hb.cell (p := ⟨b, o, none⟩) h.lt]; exact h.cell o, fun o => by rw [hb.frozen (p := ⟨b, o, none⟩) h.lt]; exact h.free o⟩
theorem Box.alloc {w : World} {b : Nat} {cs : Array Value} (h : Box w b cs) (x : Obj) : Box (w.alloc x) b cs := h.below ((Below.refl _ _).alloc (Nat.le_refl _) _)
theorem Box.pPut {w : World} {b : Nat} {cs : Array Value} (h : Box w b cs) {j : Nat} (hj : j < cs.size) (v : Value) : Box (w.setCell ⟨b, j, none⟩ v) b (cs.set! j v) := by
  refine ⟨by have := h.lt; simpa [World.setCell] using this, fun o => ?_, fun o => (World.frozen?_setCell _ _ _ _).trans (h.free o)⟩
  by_cases ho : j = o
  · subst ho
    rw [World.cell?_setCell_same' _ _ _ (by rw [h.cell j]; simp [hj])]
    simp [hj]
  · rw [World.cell?_setCell_other _ _ _ _ (by simp), h.cell o, Array.set!_eq_setIfInBounds, Array.getElem?_setIfInBounds_ne (by omega)]
/-- The cells of a fault of layer "types". -/
def TFault (w : World) (b : Nat) (a code : Int) : Prop :=
  w.cell? ⟨b, 0, none⟩ = some (.string ⟨#[116, 121, 112, 101, 115]⟩) ∧ w.cell? ⟨b, 1, none⟩ = some (.int .i64 a) ∧ w.cell? ⟨b, 2, none⟩ = some (.int .i64 code) ∧ w.cell? ⟨b, 3, none⟩ = some .nilIface
theorem TFault.below {w w' : World} {b : Nat} {a c : Int} (h : TFault w b a c) (hb : Below w.heap.size w w') : TFault w' b a c := by
  have hl : b < w.heap.size := cell_lt h.1
  have hc : ∀ o, w'.cell? ⟨b, o, none⟩ = w.cell? ⟨b, o, none⟩ := fun o => hb.cell (p := ⟨b, o, none⟩) hl
  exact ⟨by rw [hc]; exact h.1, by rw [hc]; exact h.2.1, by rw [hc]; exact h.2.2.1, by rw [hc]; exact h.2.2.2⟩
/-- An error that is just that: none where the number is 0. -/
def TEv (w : World) (v : Value) (a code : Int) : Prop := (v = .nilIface ∧ code = 0) ∨ (code ≠ 0 ∧ ∃ b, v = .iface 44 (.pointer (some ⟨b, 0, none⟩)) ∧ TFault w b a code)
theorem TEv.below {w w' : World} {v : Value} {a c : Int} (h : TEv w v a c) (hb : Below w.heap.size w w') : TEv w' v a c := by
  rcases h with h | ⟨h0, b, h1, h2⟩
  · exact Or.inl h
  · exact Or.inr ⟨h0, b, h1, h2.below hb⟩
theorem TEv.ok {w : World} {v : Value} {a : Int} (h : TEv w v a 0) : v = .nilIface := by
  rcases h with h | h
  · exact h.1
  · exact absurd rfl h.1
theorem TEv.bad {w : World} {v : Value} {a c : Int} (h : TEv w v a c) (hc : c ≠ 0) : ∃ b, v = .iface 44 (.pointer (some ⟨b, 0, none⟩)) := by
  rcases h with h | ⟨_, b, h, _⟩
  · exact absurd h.2 hc
  · exact ⟨b, h⟩
set_option maxHeartbeats 400000 in
theorem tfault_any (a code : Int) (hc : code ≠ 0) (w : World) : Calls Tryd.prog 19 #[.int .i64 a, .int .i64 code] w fun e w' => ∃ v, e = .returned v ∧ TEv w' v a code ∧ Below w.heap.size w w' := by
  go_enter Tryd.func19, Tryd.ntmps19
  go_wp2
  go_ret
  exact ⟨_, rfl, Or.inr ⟨hc, _, rfl, by simp [TFault]⟩, (Below.refl _ _).alloc (Nat.le_refl _) _⟩
abbrev fv (f : FuncId) : Value := .func (.func f) #[] #[]
/-- The primitive kinds' rules. -/
abbrev prA : Array Value := #[.string ⟨#[83, 84]⟩, fv 25, fv 26, .slice none 0 0, .string ⟨#[84, 88]⟩, fv 27, fv 26, .slice none 0 0, .string ⟨#[70, 84]⟩, fv 27, fv 28, .slice none 0 0, .string ⟨#[78, 77]⟩, fv 29, fv 28, .slice none 0 0, .string ⟨#[83, 73]⟩, fv 30, fv 28, .slice none 0 0, .string ⟨#[73, 68]⟩, fv 31, fv 28, .slice none 0 0, .string ⟨#[73, 83]⟩, fv 31, fv 28, .slice none 0 0, .string ⟨#[68, 84]⟩, fv 32, fv 28, .slice none 0 0, .string ⟨#[84, 77]⟩, fv 33, fv 28, .slice none 0 0, .string ⟨#[84, 83]⟩, fv 34, fv 28, .slice none 0 0]
theorem pidx_0 (w : World) : (Instr.index 82 (.agg prA) (.int .i64 0)).run Tryd.prog w = .ok (.agg #[.string ⟨#[83, 84]⟩, fv 25, fv 26, .slice none 0 0]) w := by kernel_rfl
theorem pidx_1 (w : World) : (Instr.index 82 (.agg prA) (.int .i64 1)).run Tryd.prog w = .ok (.agg #[.string ⟨#[84, 88]⟩, fv 27, fv 26, .slice none 0 0]) w := by kernel_rfl
theorem pidx_2 (w : World) : (Instr.index 82 (.agg prA) (.int .i64 2)).run Tryd.prog w = .ok (.agg #[.string ⟨#[70, 84]⟩, fv 27, fv 28, .slice none 0 0]) w := by kernel_rfl
theorem pidx_3 (w : World) : (Instr.index 82 (.agg prA) (.int .i64 3)).run Tryd.prog w = .ok (.agg #[.string ⟨#[78, 77]⟩, fv 29, fv 28, .slice none 0 0]) w := by kernel_rfl
theorem pidx_4 (w : World) : (Instr.index 82 (.agg prA) (.int .i64 4)).run Tryd.prog w = .ok (.agg #[.string ⟨#[83, 73]⟩, fv 30, fv 28, .slice none 0 0]) w := by kernel_rfl
theorem pidx_5 (w : World) : (Instr.index 82 (.agg prA) (.int .i64 5)).run Tryd.prog w = .ok (.agg #[.string ⟨#[73, 68]⟩, fv 31, fv 28, .slice none 0 0]) w := by kernel_rfl
theorem pidx_6 (w : World) : (Instr.index 82 (.agg prA) (.int .i64 6)).run Tryd.prog w = .ok (.agg #[.string ⟨#[73, 83]⟩, fv 31, fv 28, .slice none 0 0]) w := by kernel_rfl
def cdB (b : UInt8) : Bool := dg b || (decide (65 ≤ b.toNat) && decide (b.toNat ≤ 90)) || (decide (97 ≤ b.toNat) && decide (b.toNat ≤ 122)) || decide (b.toNat = 95) || decide (b.toNat = 46) || decide (b.toNat = 45)
def cds (l : List UInt8) : Bool := !l.isEmpty && l.all cdB
def isCd (l : List UInt8) : Bool := decide (l.length ≤ 20) && cds l
theorem cds_from {l : List UInt8} {k : Nat} {b : UInt8} (hk : l[k]? = some b) : (l.drop k).all cdB = (cdB b && (l.drop (k + 1)).all cdB) := by
  obtain ⟨h1, h2⟩ := List.getElem?_eq_some_iff.1 hk
  rw [List.drop_eq_getElem_cons h1, List.all_cons, h2]
theorem cds_all0 (l : List UInt8) : cds l = (!l.isEmpty && (l.drop 0).all cdB) := by simp [cds]
theorem cds_end {s : ByteArray} (hk : ((bl s).drop 0).all cdB = ((bl s).drop s.size).all cdB) : cds (bl s) = !(bl s).isEmpty := by
  rw [cds_all0, hk, List.drop_of_length_le (by rw [bl_len]; exact Nat.le_refl _)]; simp
set_option maxHeartbeats 1000000 in
theorem isCodeByte_any (b : UInt8) (w : World) : Calls Tryd.prog 43 #[.int .u8 (b.toNat : Int)] w fun e w' => e = .returned (.bool (cdB b)) ∧ w' = w := by
  go_enter Tryd.func43, Tryd.ntmps43
  go_wp2_with (go_at_call 51; refine (isDigit_any _ _).mono ?_; rintro e w' ⟨rfl, rfl⟩)
  all_goals (go_ret; exact ⟨ret_bool (by unfold cdB; rw [Bool.eq_iff_iff]; simp_all; try omega), rfl⟩)
set_option maxHeartbeats 1000000 in
theorem areCodes_any (s : ByteArray) (w : World) (hs : s.size ≤ 140737488355328) : Calls Tryd.prog 42 #[.string s, .func (.func 43) #[] #[]] w fun e w' => e = .returned (.bool (cds (bl s))) ∧ Below w.heap.size w w' := by
  go_enter Tryd.func42, Tryd.ntmps42
  go_wp2_with fail
  go_loopw [8] (fun t8 wx => ∃ k : Nat, k ≤ s.size ∧ t8 = .int .i64 k ∧ Hid (((bl s).drop 0).all cdB = ((bl s).drop k).all cdB) ∧ Hid (Below w.heap.size w wx)) (fun t8 _ => s.size - (intOf t8).toNat)
  case atStart => exact ⟨0, Nat.zero_le _, rfl, rfl, Below.refl _ _⟩
  case round =>
    obtain ⟨k, hk, rfl, HK, HB⟩ := hrel
    by_cases hlt : k < s.size
    · have hlti : (k : Int) < s.size := by omega
      have HA : Hid (((bl s).drop k).all cdB = (cdB s[k] && ((bl s).drop (k + 1)).all cdB)) := cds_from (bl_at hlt)
      go_wp2_with fail
      refine (isCodeByte_any s[k] _).mono ?_
      rintro _ w1 ⟨rfl, hw⟩
      subst w1
      cases hd : cdB s[k] with
      | false =>
        go_wp2_with fail
        go_ret
        exact ⟨ret_bool (by rw [cds_all0, HK.out, HA.out, hd]; simp), HB.out⟩
      | true =>
        have HK2 : Hid (((bl s).drop 0).all cdB = ((bl s).drop (k + 1)).all cdB) := by unfold Hid; rw [HK.out, HA.out, hd]; rfl
        go_wp2_with fail
        go_roundw
        case rel => exact ⟨k + 1, hlt, by go_num, HK2, HB⟩
        case measure => simp [intOf]; omega
    · have hlti : ¬ (k : Int) < s.size := by omega
      obtain rfl : k = s.size := by omega
      go_wp2_with fail
      go_ret
      exact ⟨ret_bool (by rw [cds_end HK.out]; first | exact str_ne s | (rw [← str_ne]; simp)), HB.out⟩
set_option maxHeartbeats 1000000 in
theorem isCode_any (s : ByteArray) (w : World) (hs : s.size ≤ 140737488355328) : Calls Tryd.prog 31 #[.string s] w fun e w' => e = .returned (.bool (isCd (bl s))) ∧ Below w.heap.size w w' := by
  have HE : Hid (isCd (bl s) = (decide (s.size ≤ 20) && cds (bl s))) := by unfold Hid isCd; rw [bl_len]
  by_cases h : s.size ≤ 20
  · have hi : (s.size : Int) ≤ 20 := by omega
    rw [decide_eq_true h] at HE
    go_enter Tryd.func31, Tryd.ntmps31
    go_wp2_with fail
    refine (areCodes_any s _ hs).mono ?_
    rintro _ w1 ⟨rfl, hb⟩
    have HB : Hid (Below w.heap.size w w1) := hb
    clear hb
    go_wp2_with fail
    go_ret
    exact ⟨ret_bool (by rw [HE.out]; rfl), HB.out⟩
  · have hi : ¬ (s.size : Int) ≤ 20 := by omega
    rw [decide_eq_false h] at HE
    go_enter Tryd.func31, Tryd.ntmps31
    go_wp2_with fail
    go_ret
    exact ⟨ret_bool (by rw [HE.out]; rfl), Below.refl _ _⟩
set_option maxRecDepth 100000 in
set_option maxHeartbeats 8000000 in
theorem prim_is (w : World) : Calls Tryd.prog 18 #[.string ⟨#[73, 83]⟩] w fun e w' => e = .returned (.tuple #[.agg #[.string ⟨#[73, 83]⟩, .func (.func 31) #[] #[], .func (.func 28) #[] #[], .slice none 0 0], .bool true]) ∧ Below w.heap.size w w' := by
  have i0 := pidx_0
  have i1 := pidx_1
  have i2 := pidx_2
  have i3 := pidx_3
  have i4 := pidx_4
  have i5 := pidx_5
  have i6 := pidx_6
  go_enter Tryd.func18, Tryd.ntmps18
  go_wp2_with fail
  refine wp_loop_rounds 7 ?_
  rw [rounds_succ]
  go_wp2_with fail
  rw [rounds_succ]
  go_wp2_with fail
  rw [rounds_succ]
  go_wp2_with fail
  rw [rounds_succ]
  go_wp2_with fail
  rw [rounds_succ]
  go_wp2_with fail
  rw [rounds_succ]
  go_wp2_with fail
  rw [rounds_succ]
  go_wp2_with fail
  refine bodyPost_ret ?_ rfl ⟨rfl, ?_⟩
  · simp [results, Tryd.results18, go_sem]
  · repeat (first | exact Below.refl _ _ | refine Below.setCell ?_ (by simp) _ | refine Below.alloc ?_ (by simp <;> omega) _)
set_option maxHeartbeats 1000000 in
theorem judge_isCode (k : ByteArray) (a2 : Value) (s : ByteArray) (w : World) (q : Bool) (cN : ∀ w, Calls Tryd.prog 31 #[.string s] w fun e w' => e = .returned (.bool q) ∧ Below w.heap.size w w') :
    Calls Tryd.prog 20 #[.agg #[.string k, fv 31, a2, .slice none 0 0], .string s] w fun e w' => e = .returned (.int .i64 (if q then 0 else 162)) ∧ Below w.heap.size w w' := by
  have HU : Hid (Below w.heap.size w (w.alloc (.cells #[.string k, fv 31, a2, .slice none 0 0] 57))) := (Below.refl _ _).alloc (Nat.le_refl _) _
  have HC : Hid (type_of% cN) := cN
  clear cN
  go_enter Tryd.func20, Tryd.ntmps20
  go_wp2_with fail
  refine (HC.out _).mono ?_
  rintro _ w1 ⟨rfl, hb⟩
  have H1 : Hid (Below w.heap.size w w1) := below_then HU.out hb
  have k3 : w1.cell? ⟨w.heap.size, 3, none⟩ = some (.slice none 0 0) := by rw [hb.cell (p := ⟨w.heap.size, 3, none⟩) (by simp)]; simp
  clear hb HC
  cases q with
  | true =>
    go_wp2_with fail
    go_ret
    exact ⟨rfl, H1.out⟩
  | false =>
    go_wp2_with fail
    go_ret
    exact ⟨rfl, H1.out⟩
/-- The number of a text that is asked of a primitive kind; j: what judge tells. -/
def cdS (s : ByteArray) (j : Int) : Int := if 8192 < s.size then 4 else if bl s = [34, 34] then 0 else j
theorem cd_long {s : ByteArray} {j : Int} (h : 8192 < s.size) : cdS s j = 4 := if_pos h
theorem cd_null {s : ByteArray} {j : Int} (h : ¬ 8192 < s.size) (h2 : bl s = [34, 34]) : cdS s j = 0 := by unfold cdS; rw [if_neg h, if_pos h2]
theorem cd_else {s : ByteArray} {j : Int} (h : ¬ 8192 < s.size) (h2 : bl s ≠ [34, 34]) : cdS s j = j := by unfold cdS; rw [if_neg h, if_neg h2]
def TtQ (c : Int) (w : World) (e : Ending) (w' : World) : Prop := ∃ v, e = .returned v ∧ TEv w' v 0 c ∧ Below w.heap.size w w'
/-- A primitive kind's rule, as primitiveOf tells it. -/
def RuQ (k s : ByteArray) (j : Int) (w : World) (e : Ending) (w' : World) : Prop :=
  ∃ (f1 f2 : FuncId) (x : Option Addr) (n c : Nat), e = .returned (.tuple #[.agg #[.string k, .func (.func f1) #[] #[], .func (.func f2) #[] #[], .slice x n c], .bool true]) ∧ Below w.heap.size w w' ∧
    (s.size ≤ 8192 → ∀ w2, Below w'.heap.size w' w2 → Calls Tryd.prog 20 #[.agg #[.string k, .func (.func f1) #[] #[], .func (.func f2) #[] #[], .slice x n c], .string s] w2 fun e w3 => e = .returned (.int .i64 j) ∧ Below w2.heap.size w2 w3)
set_option maxRecDepth 100000 in
set_option maxHeartbeats 2000000 in
theorem text_go (k s : ByteArray) (j : Int) (w : World) (hP : Calls Tryd.prog 18 #[.string k] w (RuQ k s j w)) : Calls Tryd.prog 14 #[.string k, .string s] w (TtQ (cdS s j) w) := by
  have HP : Hid (type_of% hP) := hP
  clear hP
  go_enter Tryd.func14, Tryd.ntmps14
  go_wp2_with fail
  refine HP.out.mono ?_
  rintro _ w1 ⟨f1, f2, x, n, c, rfl, hb, hJ⟩
  have H1 : Hid (Below w.heap.size w w1) := hb
  have HJ : Hid (type_of% hJ) := hJ
  clear hb hJ HP
  by_cases hl : 8192 < s.size
  · have hli : (8192 : Int) < s.size := by omega
    have HC : Hid (cdS s j = 4) := cd_long hl
    go_wp2_with fail
    refine (tfault_any 0 4 (by decide) _).mono ?_
    rintro _ w2 ⟨ev, rfl, hev, hb⟩
    have H2 : Hid (TEv w2 ev 0 4 ∧ Below w.heap.size w w2) := ⟨hev, below_then H1.out (below_then ((Below.refl _ _).alloc (Nat.le_refl _) _) hb)⟩
    clear hev hb
    go_wp2_with fail
    go_ret
    exact ⟨_, rfl, (by rw [HC.out]; exact H2.out.1), H2.out.2⟩
  · have hli : ¬ (8192 : Int) < s.size := by omega
    cases hn : (s.toList == [34, 34]) with
    | true =>
      have HC : Hid (cdS s j = 0) := cd_null hl (str_of hn)
      go_wp2_with fail
      go_ret
      exact ⟨_, rfl, (by rw [HC.out]; exact Or.inl ⟨rfl, rfl⟩), H1.out.alloc H1.out.size _⟩
    | false =>
      have HC : Hid (cdS s j = j) := cd_else hl (str_not hn)
      have HL : Hid (s.size ≤ 8192) := (by omega : s.size ≤ 8192)
      go_wp2_with fail
      refine (HJ.out HL.out _ ((Below.refl _ _).alloc (Nat.le_refl _) _)).mono ?_
      rintro _ w2 ⟨rfl, hb⟩
      have H2 : Hid (Below w.heap.size w w2) := below_then H1.out (below_then ((Below.refl _ _).alloc (Nat.le_refl _) _) hb)
      clear hb HJ
      by_cases h0 : j = 0
      · subst h0
        go_wp2_with fail
        go_ret
        exact ⟨_, rfl, (by rw [HC.out]; exact Or.inl ⟨rfl, rfl⟩), H2.out⟩
      · have q0 : (j == 0) = false := by simpa using h0
        have q0' : (j != 0) = true := by simpa using h0
        go_wp2_with fail
        refine (tfault_any 0 j h0 _).mono ?_
        rintro _ w3 ⟨ev, rfl, hev, hb⟩
        have H3 : Hid (TEv w3 ev 0 j ∧ Below w.heap.size w w3) := ⟨hev, below_then H2.out hb⟩
        clear hev hb
        go_wp2_with fail
        go_ret
        exact ⟨_, rfl, (by rw [HC.out]; exact H3.out.1), H3.out.2⟩
/-- Text of "IS". -/
theorem text_is (s : ByteArray) (w : World) : Calls Tryd.prog 14 #[.string ⟨#[73, 83]⟩, .string s] w (TtQ (cdS s (if isCd (bl s) then 0 else 162)) w) :=
  text_go _ s _ w ((prim_is w).mono fun _ _ ⟨he, hb⟩ => ⟨31, 28, none, 0, 0, he, hb, fun hs w2 _ => judge_isCode _ _ s w2 _ (fun w => isCode_any s w (by omega))⟩)
end Go.Proofs.YtgcdddkebehajaaDoor.Td
