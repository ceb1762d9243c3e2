/-
  Numbers written: padded, out of the shelf's strconv.Itoa and strings.Repeat.
-/
import Derived.Test.YtpcdkafjogpdkaaDoorLawIs
import Derived.Test.YtpcdkafjogpdkaaDoorShelf
import Derived.WalkSmall
namespace Go.Proofs.YtpcdkafjogpdkaaDoor
open Go.RowKit

/-- The table that strconv reads. -/
def Pow (w : World) : Prop := Lib.TabIs Tryd.prog w "internal/strconv.uint64pow10" .u64 Lib.pow10Tab
theorem gPow : Tryd.prog.globalNamed "internal/strconv.uint64pow10" = some 2 := by kernel_rfl
theorem Pow.below {w w' : World} (h : Pow w) (hb : Below w.heap.size w w') : Pow w' :=
  var?_below hb gPow (by have := Lib.TabIs.cell h gPow 0 (by decide); exact cell_lt this) h
theorem below_grow (w : World) (k : Nat) (os : Array Obj) : Below w.heap.size w (Go.Sort.grow (w.drewN k) os) :=
  ⟨rfl, rfl, rfl, by simp [Go.Sort.grow], fun j hj => Go.Sort.heap_grow_old (w.drewN k) os hj⟩
/-- A number's last digits, as many as told. -/
def digs : Nat → Nat → List UInt8
  | 0, _ => []
  | k + 1, n => digs k (n / 10) ++ [UInt8.ofNat (48 + n % 10)]
theorem digs_length (k n : Nat) : (digs k n).length = k := by
  induction k generalizing n with
  | zero => rfl
  | succ k ih => simp [digs, ih]
theorem digs_zero (k : Nat) : digs k 0 = Lib.repeatL [48] k := by
  induction k with
  | zero => rfl
  | succ k ih =>
    have e : Lib.repeatL [48] (k + 1) = Lib.repeatL [48] k ++ Lib.repeatL [48] 1 := Lib.repeatL_add _ k 1
    rw [e, digs, Nat.zero_div, ih]
    rfl
theorem pad_digs (k n : Nat) (hk : 1 ≤ k) (hn : n < 10 ^ k) : (Lib.decDigits n).length ≤ k ∧ Lib.repeatL [48] (k - (Lib.decDigits n).length) ++ Lib.decDigits n = digs k n := by
  induction k generalizing n with
  | zero => omega
  | succ k ih =>
    by_cases h : n < 10
    · rw [Lib.decDigits, dif_pos h]
      refine ⟨by simp, ?_⟩
      rw [digs, show n / 10 = 0 by omega, digs_zero, show n % 10 = n by omega]
      rfl
    · have hk0 : 1 ≤ k := by
        rcases Nat.eq_zero_or_pos k with rfl | g
        · simp at hn; omega
        · exact g
      have hn' : n / 10 < 10 ^ k := by rw [Nat.pow_succ] at hn; omega
      obtain ⟨i1, i2⟩ := ih (n / 10) hk0 hn'
      rw [Lib.decDigits, dif_neg h]
      refine ⟨by simp; exact i1, ?_⟩
      rw [List.length_append, ← List.append_assoc, digs, ← i2]
      simp
theorem ret_str {a b : ByteArray} (h : a = b) : Ending.returned (.string a) = .returned (.string b) := by rw [h]
set_option maxRecDepth 100000 in
set_option maxHeartbeats 1000000 in
theorem padded_any (n wd : Nat) (h1 : 1 ≤ wd) (h4 : wd ≤ 4) (hn : n < 10 ^ wd) (w : World) (hP : Pow w) : Calls Tryd.prog 44 #[.int .i64 n, .int .i64 wd] w fun e w' => e = .returned (.string ⟨(digs wd n).toArray⟩) ∧ Below w.heap.size w w' := by
  obtain ⟨p1, p2⟩ := pad_digs wd n h1 hn
  have hn4 : n < 10000 := Nat.lt_of_lt_of_le hn (Nat.pow_le_pow_right (by decide) h4)
  obtain ⟨m, hm⟩ : ∃ m, (Lib.decDigits n).length = m := ⟨_, rfl⟩
  obtain ⟨D, hD⟩ : ∃ D : ByteArray, (⟨(Lib.decDigits n).toArray⟩ : ByteArray) = D := ⟨_, rfl⟩
  have hDs : D.size = m := by rw [← hD, ← hm]; rfl
  rw [hm] at p1 p2
  have HP : Hid (Pow w) := hP
  have H2 : Hid (∀ l : List UInt8, l = Lib.repeatL [48] (wd - m) → (⟨l.toArray⟩ : ByteArray) ++ D = ⟨(digs wd n).toArray⟩) := by
    intro l hl
    rw [← p2, hl, ← hD]
    apply ByteArray.ext
    simp
  have HI : Hid ((⟨(Lib.itoa n).toArray⟩ : ByteArray) = D) := by unfold Hid; rw [← hD, Lib.itoa_nonneg]
  obtain ⟨c, hc⟩ : ∃ c : Nat, wd - m = c := ⟨_, rfl⟩
  have hc2 : max ((wd : Int) - m) 0 = (c : Int) := by omega
  rw [hc] at H2
  clear hP p2 hD hm hn hc
  go_enter Tryd.func44, Tryd.ntmps44
  go_wp2_with fail
  refine (Tryd.strconv_Itoa (n : Int) (by omega) (by omega) _ HP.out).mono ?_
  rintro e w1 ⟨he, k, os, rfl⟩
  rw [HI.out] at he
  subst he
  obtain ⟨w1, hw1⟩ : ∃ w1, Go.Sort.grow (w.drewN k) os = w1 := ⟨_, rfl⟩
  have HB1 : Hid (Below w.heap.size w w1) := by unfold Hid; rw [← hw1]; exact below_grow w k os
  rw [hw1]
  clear hw1
  go_wp2_with fail
  refine (Tryd.strings_Repeat ⟨#[48]⟩ c _ (by omega) (by show 1 * c ≤ _; omega)).mono ?_
  rintro e w2 ⟨he, hb2⟩
  obtain ⟨R, hR⟩ : ∃ R : ByteArray, (⟨(Lib.repeatL (⟨#[48]⟩ : ByteArray).data.toList c).toArray⟩ : ByteArray) = R := ⟨_, rfl⟩
  rw [hR] at he
  subst he
  have HRD : Hid (R ++ D = ⟨(digs wd n).toArray⟩) := by unfold Hid; rw [← hR]; exact H2.out _ rfl
  have HB2 : Hid (Below w.heap.size w w2) := below_then HB1.out hb2
  have hRs : R.size = c := by rw [← hR]; show (Lib.repeatL _ c).length = c; rw [Lib.repeatL_length]; simp
  have hno : ¬ 9223372036854775807 < R.size + m := by omega
  clear hR hb2
  go_wp2_with fail
  go_ret
  exact ⟨ret_str HRD.out, HB2.out⟩
/-- A text of these bytes. -/
def Txt (T : ByteArray) (l : List UInt8) : Prop := T = ⟨l.toArray⟩
theorem Txt.size {T : ByteArray} {l : List UInt8} (h : Txt T l) : T.size = l.length := by rw [h]; rfl
theorem Txt.app {T S : ByteArray} {l m : List UInt8} (h : Txt T l) (g : Txt S m) : Txt (T ++ S) (l ++ m) := by
  rw [h, g]
  unfold Txt
  apply ByteArray.ext
  simp
theorem padded_is {x y : Int} {n wd : Nat} (hx : x = n) (hy : y = wd) (h1 : 1 ≤ wd) (h4 : wd ≤ 4) (hn : n < 10 ^ wd) (w : World) (hP : Pow w) : Calls Tryd.prog 44 #[.int .i64 x, .int .i64 y] w fun e w' => ∃ T, e = .returned (.string T) ∧ T.size = wd ∧ Hid (Txt T (digs wd n)) ∧ Below w.heap.size w w' := by
  subst hx hy
  refine (padded_any n wd h1 h4 hn w hP).mono ?_
  rintro e w' ⟨rfl, hb⟩
  exact ⟨_, rfl, by show (digs wd n).length = wd; rw [digs_length], rfl, hb⟩
/-- A zone's text. -/
def zoneL (z : Bool) (zn : Int) : List UInt8 := if z then (if zn < 0 then 45 else 43) :: (digs 2 (zn.natAbs / 60) ++ digs 2 (zn.natAbs % 60)) else []
theorem digs4 (a b : Nat) (hb : b < 100) : digs 4 (a * 100 + b) = digs 2 a ++ digs 2 b := by
  simp only [digs, List.nil_append, List.cons_append]
  rw [show (a * 100 + b) / 10 / 10 / 10 = a / 10 by omega, show (a * 100 + b) / 10 / 10 % 10 = a % 10 by omega, show (a * 100 + b) / 10 % 10 = b / 10 % 10 by omega, show (a * 100 + b) % 10 = b % 10 by omega]
theorem zq_neg (k : Nat) (h : k < 841) : wrap64 (wrap64 (wrap64 (-(-(k : Int)).tdiv 60) * 100) + -(-(k : Int)).tmod 60) = ((k / 60 * 100 + k % 60 : Nat) : Int) := by
  revert k
  decide +kernel
theorem zone_neg {zn : Int} (h1 : -840 ≤ zn) (h2 : zn < 0) : wrap64 (wrap64 (wrap64 (-zn.tdiv 60) * 100) + -zn.tmod 60) = ((zn.natAbs / 60 * 100 + zn.natAbs % 60 : Nat) : Int) := by
  obtain ⟨k, rfl⟩ : ∃ k : Nat, zn = -(k : Int) := ⟨zn.natAbs, by omega⟩
  rw [zq_neg k (by omega), Int.natAbs_neg, Int.natAbs_natCast]
theorem zone_pos {zn : Int} (h1 : zn ≤ 840) (h2 : ¬ zn < 0) : zn / 60 * 100 + zn % 60 = ((zn.natAbs / 60 * 100 + zn.natAbs % 60 : Nat) : Int) := by
  obtain ⟨k, rfl⟩ : ∃ k : Nat, zn = (k : Int) := ⟨zn.natAbs, by omega⟩
  rw [Int.natAbs_natCast]
  omega
theorem zoneL_neg {zn : Int} (h : zn < 0) : zoneL true zn = [45] ++ digs 4 (zn.natAbs / 60 * 100 + zn.natAbs % 60) := by
  rw [digs4 _ _ (by omega)]
  simp [zoneL, h]
theorem zoneL_pos {zn : Int} (h : ¬ zn < 0) : zoneL true zn = [43] ++ digs 4 (zn.natAbs / 60 * 100 + zn.natAbs % 60) := by
  rw [digs4 _ _ (by omega)]
  simp [zoneL, h]
set_option maxRecDepth 100000 in
set_option maxHeartbeats 1000000 in
theorem zoneText_any (lv y mo d h mi s p dg zn : Int) (z : Bool) (w : World) (hz : z = true → -840 ≤ zn ∧ zn ≤ 840) (hP : Pow w) : Calls Tryd.prog 43 #[.agg #[.int .i64 lv, .int .i64 y, .int .i64 mo, .int .i64 d, .int .i64 h, .int .i64 mi, .int .i64 s, .int .i64 p, .int .i64 dg, .bool z, .int .i64 zn]] w fun e w' => ∃ T, e = .returned (.string T) ∧ Hid (Txt T (zoneL z zn)) ∧ Below w.heap.size w w' := by
  have HP : Hid (Pow (w.alloc (.cells #[.int .i64 lv, .int .i64 y, .int .i64 mo, .int .i64 d, .int .i64 h, .int .i64 mi, .int .i64 s, .int .i64 p, .int .i64 dg, .bool z, .int .i64 zn] 23))) := hP.below ((Below.refl _ _).alloc (Nat.le_refl _) _)
  have HB : Hid (Below w.heap.size w (w.alloc (.cells #[.int .i64 lv, .int .i64 y, .int .i64 mo, .int .i64 d, .int .i64 h, .int .i64 mi, .int .i64 s, .int .i64 p, .int .i64 dg, .bool z, .int .i64 zn] 23))) := (Below.refl _ _).alloc (Nat.le_refl _) _
  clear hP
  cases z with
  | false =>
    go_enter Tryd.func43, Tryd.ntmps43
    go_wp2_with fail
    go_ret
    exact ⟨_, rfl, by unfold Hid Txt zoneL; simp, HB.out⟩
  | true =>
    obtain ⟨hz1, hz2⟩ := hz rfl
    clear hz
    by_cases hn : zn < 0
    · go_enter Tryd.func43, Tryd.ntmps43
      go_wp2_with fail
      go_region
      go_wp2_with fail
      refine (padded_is (zone_neg hz1 hn) rfl (by decide) (by decide) (show _ < 10000 by omega) _ (by exact HP.out)).mono ?_
      rintro e w1 ⟨T, rfl, hTs, HT, hb⟩
      have HB1 : Hid (Below w.heap.size w w1) := below_then HB.out.drew hb
      have HZ : Hid (Txt (⟨#[45]⟩ ++ T) (zoneL true zn)) := by unfold Hid; rw [zoneL_neg hn]; exact Txt.app (T := ⟨#[45]⟩) (l := [45]) rfl HT.out
      have hno : ¬ 9223372036854775807 < (⟨#[45]⟩ : ByteArray).size + T.size := by rw [hTs]; show ¬ _ < 1 + 4; decide
      have hno2 : ¬ 9223372036854775807 < 1 + T.size := by rw [hTs]; decide
      clear hb
      go_wp2_with fail
      go_ret
      exact ⟨_, rfl, HZ, HB1.out⟩
    · go_enter Tryd.func43, Tryd.ntmps43
      go_wp2_with fail
      go_region
      go_wp2_with fail
      refine (padded_is (zone_pos hz2 (by omega)) rfl (by decide) (by decide) (show _ < 10000 by omega) _ (by exact HP.out)).mono ?_
      rintro e w1 ⟨T, rfl, hTs, HT, hb⟩
      have HB1 : Hid (Below w.heap.size w w1) := below_then HB.out.drew hb
      have HZ : Hid (Txt (⟨#[43]⟩ ++ T) (zoneL true zn)) := by unfold Hid; rw [zoneL_pos (by omega)]; exact Txt.app (T := ⟨#[43]⟩) (l := [43]) rfl HT.out
      have hno : ¬ 9223372036854775807 < (⟨#[43]⟩ : ByteArray).size + T.size := by rw [hTs]; show ¬ _ < 1 + 4; decide
      have hno2 : ¬ 9223372036854775807 < 1 + T.size := by rw [hTs]; decide
      clear hb
      go_wp2_with fail
      go_ret
      exact ⟨_, rfl, HZ, HB1.out⟩
end Go.Proofs.YtpcdkafjogpdkaaDoor
