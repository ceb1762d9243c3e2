import Derived.Test.YtfkcnnjkflomkaaDoorDkOff
import Derived.ArgAppend
import Derived.Lib.SlBytesConst
/-
  The log's numbers: number (4 and 8 bytes), value.
-/
namespace Go.Proofs.YtfkcnnjkflomkaaDoor
open Go.RowKit

theorem run_push {w : World} {B : Nat} {v : Value} {xs : List Int} (h : Row w B v xs) (hB : B ≤ w.heap.size) (hl : xs.length + 1 ≤ 140737488355328) (z : Int) :
    ∃ a n c w', (Builtin.append_ #[28, 28] 28 #[v, .slice (some ⟨w.heap.size, 0, none⟩) 1 1]).run Tryd.prog (w.alloc (.cells #[.int .u8 z] 5)) = .ok (.slice a n c) w' ∧ Row w' B (.slice a n c) (xs ++ [z]) ∧ Off (fun k => v.ownBlock = some k) w w' ∧ ((Value.slice a n c).ownBlock = v.ownBlock ∨ ∃ g, (Value.slice a n c).ownBlock = some g ∧ w.heap.size ≤ g) := by
  have hrow : Row (w.alloc (.cells #[.int .u8 z] 5)) B v xs := h.keep (fun g e => ((Below.refl w.heap.size w).alloc (Nat.le_refl _) (.cells #[.int .u8 z] 5)).block g (h.lt e).2)
  have hone : Byts (w.alloc (.cells #[.int .u8 z] 5)) (some ⟨w.heap.size, 0, none⟩) 1 [z] := by
    refine ⟨rfl, fun q hq => ⟨w.heap.size, 0, rfl, by simp, ?_⟩⟩
    obtain rfl : q = 0 := by omega
    simp
  obtain ⟨v', w', hr, r, g, o⟩ := run_append_bytes (c := 1) hrow hone (fun e => by cases e) hl (by simp; omega) 28
  rcases r.form with ⟨rfl, e⟩ | ⟨g', cap, rfl, _⟩
  · simp at e
  · refine ⟨_, _, _, w', hr, r, ((Off.refl _ w).alloc _).trans (Off.of_grown g), ?_⟩
    rcases o with o | o
    · exact Or.inl o
    · exact Or.inr ⟨_, o, by simp⟩
/-- What a call that lays bytes behind a row leaves. -/
def Laid (w w' : World) (B : Nat) (v v' : Value) (xs : List Int) : Prop := Row w' B v' xs ∧ Off (fun k => v.ownBlock = some k) w w' ∧ (v'.ownBlock = v.ownBlock ∨ ∃ g, v'.ownBlock = some g ∧ w.heap.size ≤ g)
theorem Laid.trans {w w' w'' : World} {B : Nat} {v v' v'' : Value} {xs ys : List Int} (h : Laid w w' B v v' xs) (g : Laid w' w'' B v' v'' ys) : Laid w w'' B v v'' ys := by
  refine ⟨g.1, h.2.1.join g.2.1 (fun i hi e => ?_), ?_⟩
  · rcases h.2.2 with o | ⟨k, o, hk⟩
    · rw [o] at e; exact e
    · rw [o] at e; simp at e; omega
  · rcases g.2.2 with o | ⟨k, o, hk⟩
    · rw [o]; exact h.2.2
    · exact Or.inr ⟨k, o, Nat.le_trans h.2.1.size hk⟩
def be4 (x : Int) : List Int := [x / 16777216 % 256, x / 65536 % 256, x / 256 % 256, x % 256]
set_option maxRecDepth 100000 in
set_option maxHeartbeats 2000000 in
theorem number4_any {a : Option Addr} {n c B : Nat} {xs : List Int} {x : Int} (w : World) (hR : Row w B (.slice a n c) xs) (hB : B ≤ w.heap.size) (hl : xs.length + 4 ≤ 140737488355328) (hx : 0 ≤ x ∧ x ≤ 18446744073709551615) : Calls Tryd.prog 73 #[.slice a n c, .int .u64 x, .int .i64 4] w fun e w' => ∃ a' n' c', e = .returned (.slice a' n' c') ∧ Laid w w' B (.slice a n c) (.slice a' n' c') (xs ++ be4 x) := by
  obtain ⟨hx0, hx1⟩ := hx
  obtain ⟨a0, n0, c0, w0, e0, r0, f0, o0⟩ := run_push hR hB (by simp; omega) (x / 16777216 % 256)
  have hB0 : B ≤ w0.heap.size := Nat.le_trans hB f0.size
  obtain ⟨a1, n1, c1, w1, e1, r1, f1, o1⟩ := run_push r0 hB0 (by simp; omega) (x / 65536 % 256)
  have hB1 : B ≤ w1.heap.size := Nat.le_trans hB0 f1.size
  obtain ⟨a2, n2, c2, w2, e2, r2, f2, o2⟩ := run_push r1 hB1 (by simp; omega) (x / 256 % 256)
  have hB2 : B ≤ w2.heap.size := Nat.le_trans hB1 f2.size
  obtain ⟨a3, n3, c3, w3, e3, r3, f3, o3⟩ := run_push r2 hB2 (by simp; omega) (x % 256)
  have hB3 : B ≤ w3.heap.size := Nat.le_trans hB2 f3.size
  have HF : Hid (Laid w w3 B (.slice a n c) (.slice a3 n3 c3) (xs ++ be4 x)) := by
    have h := (Laid.trans (Laid.trans (Laid.trans (show Laid w w0 B (.slice a n c) (.slice a0 n0 c0) _ from ⟨r0, f0, o0⟩) ⟨r1, f1, o1⟩) ⟨r2, f2, o2⟩) ⟨r3, f3, o3⟩)
    have e : ((((xs ++ [x / 16777216 % 256]) ++ [x / 65536 % 256]) ++ [x / 256 % 256]) ++ [x % 256]) = xs ++ be4 x := by simp only [List.append_assoc]; rfl
    rw [e] at h
    exact h
  clear hR r0 f0 o0 r1 f1 o1 r2 f2 o2 r3 f3 o3
  go_enter Tryd.func73, Tryd.ntmps73
  go_wp2_with fail
  refine wp_loop_rounds 5 ?_
  rw [rounds_succ]
  go_wp2_with (at_builtin; refine wpList_append_run rfl (.tmp 14) (.tmp 20) 28 _ rfl e0 ?_)
  rw [rounds_succ]
  go_wp2_with (at_builtin; refine wpList_append_run rfl (.tmp 14) (.tmp 20) 28 _ rfl e1 ?_)
  rw [rounds_succ]
  go_wp2_with (at_builtin; refine wpList_append_run rfl (.tmp 14) (.tmp 20) 28 _ rfl e2 ?_)
  rw [rounds_succ]
  go_wp2_with (at_builtin; refine wpList_append_run rfl (.tmp 14) (.tmp 20) 28 _ rfl e3 ?_)
  rw [rounds_succ]
  go_wp2_with fail
  go_ret
  exact ⟨_, _, _, rfl, HF.out⟩
def be8 (x : Int) : List Int := [x / 72057594037927936, x / 281474976710656 % 256, x / 1099511627776 % 256, x / 4294967296 % 256, x / 16777216 % 256, x / 65536 % 256, x / 256 % 256, x % 256]
set_option maxRecDepth 100000 in
set_option maxHeartbeats 2000000 in
theorem number8_any {a : Option Addr} {n c B : Nat} {xs : List Int} {x : Int} (w : World) (hR : Row w B (.slice a n c) xs) (hB : B ≤ w.heap.size) (hl : xs.length + 8 ≤ 140737488355328) (hx : 0 ≤ x ∧ x ≤ 18446744073709551615) : Calls Tryd.prog 73 #[.slice a n c, .int .u64 x, .int .i64 8] w fun e w' => ∃ a' n' c', e = .returned (.slice a' n' c') ∧ Laid w w' B (.slice a n c) (.slice a' n' c') (xs ++ be8 x) := by
  obtain ⟨hx0, hx1⟩ := hx
  obtain ⟨a0, n0, c0, w0, e0, r0, f0, o0⟩ := run_push hR hB (by simp; omega) (x / 72057594037927936)
  have hB0 : B ≤ w0.heap.size := Nat.le_trans hB f0.size
  obtain ⟨a1, n1, c1, w1, e1, r1, f1, o1⟩ := run_push r0 hB0 (by simp; omega) (x / 281474976710656 % 256)
  have hB1 : B ≤ w1.heap.size := Nat.le_trans hB0 f1.size
  obtain ⟨a2, n2, c2, w2, e2, r2, f2, o2⟩ := run_push r1 hB1 (by simp; omega) (x / 1099511627776 % 256)
  have hB2 : B ≤ w2.heap.size := Nat.le_trans hB1 f2.size
  obtain ⟨a3, n3, c3, w3, e3, r3, f3, o3⟩ := run_push r2 hB2 (by simp; omega) (x / 4294967296 % 256)
  have hB3 : B ≤ w3.heap.size := Nat.le_trans hB2 f3.size
  obtain ⟨a4, n4, c4, w4, e4, r4, f4, o4⟩ := run_push r3 hB3 (by simp; omega) (x / 16777216 % 256)
  have hB4 : B ≤ w4.heap.size := Nat.le_trans hB3 f4.size
  obtain ⟨a5, n5, c5, w5, e5, r5, f5, o5⟩ := run_push r4 hB4 (by simp; omega) (x / 65536 % 256)
  have hB5 : B ≤ w5.heap.size := Nat.le_trans hB4 f5.size
  obtain ⟨a6, n6, c6, w6, e6, r6, f6, o6⟩ := run_push r5 hB5 (by simp; omega) (x / 256 % 256)
  have hB6 : B ≤ w6.heap.size := Nat.le_trans hB5 f6.size
  obtain ⟨a7, n7, c7, w7, e7, r7, f7, o7⟩ := run_push r6 hB6 (by simp; omega) (x % 256)
  have hB7 : B ≤ w7.heap.size := Nat.le_trans hB6 f7.size
  have HF : Hid (Laid w w7 B (.slice a n c) (.slice a7 n7 c7) (xs ++ be8 x)) := by
    have h := (Laid.trans (Laid.trans (Laid.trans (Laid.trans (Laid.trans (Laid.trans (Laid.trans (show Laid w w0 B (.slice a n c) (.slice a0 n0 c0) _ from ⟨r0, f0, o0⟩) ⟨r1, f1, o1⟩) ⟨r2, f2, o2⟩) ⟨r3, f3, o3⟩) ⟨r4, f4, o4⟩) ⟨r5, f5, o5⟩) ⟨r6, f6, o6⟩) ⟨r7, f7, o7⟩)
    have e : ((((((((xs ++ [x / 72057594037927936]) ++ [x / 281474976710656 % 256]) ++ [x / 1099511627776 % 256]) ++ [x / 4294967296 % 256]) ++ [x / 16777216 % 256]) ++ [x / 65536 % 256]) ++ [x / 256 % 256]) ++ [x % 256]) = xs ++ be8 x := by simp only [List.append_assoc]; rfl
    rw [e] at h
    exact h
  clear hR r0 f0 o0 r1 f1 o1 r2 f2 o2 r3 f3 o3 r4 f4 o4 r5 f5 o5 r6 f6 o6 r7 f7 o7
  go_enter Tryd.func73, Tryd.ntmps73
  go_wp2_with fail
  refine wp_loop_rounds 9 ?_
  rw [rounds_succ]
  go_wp2_with (at_builtin; refine wpList_append_run rfl (.tmp 14) (.tmp 20) 28 _ rfl e0 ?_)
  rw [rounds_succ]
  go_wp2_with (at_builtin; refine wpList_append_run rfl (.tmp 14) (.tmp 20) 28 _ rfl e1 ?_)
  rw [rounds_succ]
  go_wp2_with (at_builtin; refine wpList_append_run rfl (.tmp 14) (.tmp 20) 28 _ rfl e2 ?_)
  rw [rounds_succ]
  go_wp2_with (at_builtin; refine wpList_append_run rfl (.tmp 14) (.tmp 20) 28 _ rfl e3 ?_)
  rw [rounds_succ]
  go_wp2_with (at_builtin; refine wpList_append_run rfl (.tmp 14) (.tmp 20) 28 _ rfl e4 ?_)
  rw [rounds_succ]
  go_wp2_with (at_builtin; refine wpList_append_run rfl (.tmp 14) (.tmp 20) 28 _ rfl e5 ?_)
  rw [rounds_succ]
  go_wp2_with (at_builtin; refine wpList_append_run rfl (.tmp 14) (.tmp 20) 28 _ rfl e6 ?_)
  rw [rounds_succ]
  go_wp2_with (at_builtin; refine wpList_append_run rfl (.tmp 14) (.tmp 20) 28 _ rfl e7 ?_)
  rw [rounds_succ]
  go_wp2_with fail
  go_ret
  exact ⟨_, _, _, rfl, HF.out⟩
end Go.Proofs.YtfkcnnjkflomkaaDoor

/-
  The log's value: the number that up to eight bytes are.
-/
namespace Go.Proofs.YtfkcnnjkflomkaaDoor
open Go.RowKit

theorem u64_wrap {x : Nat} (h : x < 18446744073709551616) : IntKind.u64.wrap (x : Int) = x := by
  have : IntKind.u64.wrap (x : Int) = (x : Int) % 18446744073709551616 := by
    simp [IntKind.wrap, IntKind.bits, IntKind.signed]
  rw [this]
  omega
theorem u64_or {x z : Nat} (hx : x < 72057594037927936) (hz : z < 256) : bits BinOp.or IntKind.u64 (IntKind.u64.wrap ((x : Int) * 256)) (IntKind.u64.wrap (z : Int)) = ((x * 256 + z : Nat) : Int) := by
  have e1 : IntKind.u64.wrap ((x : Int) * 256) = ((x * 256 : Nat) : Int) := by
    rw [show (x : Int) * 256 = ((x * 256 : Nat) : Int) by omega]
    exact u64_wrap (by omega)
  rw [e1, u64_wrap (x := z) (by omega)]
  show IntKind.u64.wrap ((BitVec.ofInt 64 ((x * 256 : Nat) : Int) ||| BitVec.ofInt 64 (z : Int)).toNat : Nat) = _
  have k1 : (BitVec.ofInt 64 ((x * 256 : Nat) : Int)).toNat = x * 256 := by rw [BitVec.toNat_ofInt]; omega
  have k2 : (BitVec.ofInt 64 (z : Int)).toNat = z := by rw [BitVec.toNat_ofInt]; omega
  have k3 : x * 256 ||| z = x * 256 + z := by
    have := Nat.shiftLeft_add_eq_or_of_lt (i := 8) (b := z) hz x
    rw [Nat.shiftLeft_eq] at this
    exact this.symm
  rw [BitVec.toNat_or, k1, k2, k3, u64_wrap (by omega)]
/-- The number that bytes are, the highest first. -/
def valN (bs : List Int) : Nat := bs.foldl (fun x z => x * 256 + z.toNat) 0
theorem valN_next {bs : List Int} {i : Nat} (h : i < bs.length) : valN (bs.take (i + 1)) = valN (bs.take i) * 256 + (bs.getD i 0).toNat := by
  unfold valN
  rw [List.take_succ_eq_append_getElem h, List.foldl_append, List.getD_eq_getElem?_getD, List.getElem?_eq_getElem h]
  rfl
theorem valN_lt (bs : List Int) (hr : ∀ z ∈ bs, 0 ≤ z ∧ z ≤ 255) : ∀ i, i ≤ bs.length → valN (bs.take i) < 256 ^ i := by
  intro i
  induction i with
  | zero => intro _; simp [valN]
  | succ i ih =>
    intro h
    have h1 := ih (by omega)
    have h2 := hr (bs.getD i 0) (by rw [List.getD_eq_getElem?_getD, List.getElem?_eq_getElem (show i < bs.length by omega)]; exact List.getElem_mem _)
    rw [valN_next (by omega), Nat.pow_succ]
    omega
set_option maxRecDepth 100000 in
set_option maxHeartbeats 2000000 in
theorem value_any {po : Option Addr} {m c : Nat} {bs : List Int} (w : World) (hb : Byts w po m bs) (hm : m ≤ 8) (hr : ∀ z ∈ bs, 0 ≤ z ∧ z ≤ 255) : Calls Tryd.prog 88 #[.slice po m c] w fun e w' => e = .returned (.int .u64 (valN bs)) ∧ w' = w := by
  have HB : Hid (Byts w po m bs) := hb
  have HL : Hid (bs.length = m) := hb.len
  have HR : Hid (∀ z ∈ bs, 0 ≤ z ∧ z ≤ 255) := hr
  clear hb hr
  go_enter Tryd.func88, Tryd.ntmps88
  go_wp2_with fail
  go_loopw [3, 8] (fun tc ti wx => ∃ (i : Nat) (x : Int), i ≤ m ∧ ti = .int .i64 i ∧ tc = .int .u64 x ∧ Hid (x = (valN (bs.take i) : Int)) ∧ Hid (wx = w)) (fun _ ti _ => m - (intOf ti).toNat)
  case atStart => exact ⟨0, 0, by omega, rfl, rfl, rfl, rfl⟩
  case round =>
    obtain ⟨i, x, hi, rfl, rfl, HX, HW⟩ := hrel
    obtain rfl := HW.out
    by_cases hlt : i < m
    · have hlt1 : (i : Int) < m := by omega
      obtain ⟨b, o, hpo, _, hcell⟩ := HB.out.cell i (by have := HL.out; omega)
      subst hpo
      have hz := HR.out (bs.getD i 0) (by rw [List.getD_eq_getElem?_getD, List.getElem?_eq_getElem (show i < bs.length by have := HL.out; omega)]; exact List.getElem_mem _)
      obtain ⟨z, hzz⟩ : ∃ z, bs.getD i 0 = z := ⟨_, rfl⟩
      rw [hzz] at hcell hz
      obtain ⟨y, hy⟩ : ∃ y, bits BinOp.or IntKind.u64 (IntKind.u64.wrap (x * 256)) (IntKind.u64.wrap z) = y := ⟨_, rfl⟩
      have HN : Hid (y = (valN (bs.take (i + 1)) : Int)) := by
        unfold Hid
        have hv := valN_lt bs HR.out i (by have := HL.out; omega)
        have hv2 : valN (bs.take i) < 72057594037927936 := Nat.lt_of_lt_of_le hv (Nat.le_trans (Nat.pow_le_pow_right (by decide) (show i ≤ 7 by omega)) (by decide))
        rw [← hy, HX.out, valN_next (by have := HL.out; omega), hzz]
        obtain ⟨zn, rfl⟩ : ∃ zn : Nat, z = zn := ⟨z.toNat, by omega⟩
        exact u64_or hv2 (by omega)
      clear hzz hz
      go_wp2_with fail
      go_roundw
      case rel => exact ⟨i + 1, y, hlt, by go_num, rfl, HN, by unfold Hid; first | trivial | rfl⟩
      case measure => simp [intOf]; omega
    · have hlt1 : ¬ (i : Int) < m := by omega
      go_wp2_with fail
      go_ret
      refine ⟨?_, rfl⟩
      have e : bs.take i = bs := List.take_of_length_le (by have := HL.out; omega)
      have h := HX.out
      rw [e] at h
      rw [← h]
      rfl
end Go.Proofs.YtfkcnnjkflomkaaDoor

/-
  The log's sum: what the loop makes of the bytes, by its own steps.
-/
namespace Go.Proofs.YtfkcnnjkflomkaaDoor
open Go.RowKit

def halvesTab : List Int := [0, 498536548, 997073096, 651767980, 1994146192, 1802195444, 1303535960, 1342533948, 3988292384, 4027552580, 3604390888, 3412177804, 2607071920, 2262029012, 2685067896, 3183342108]
def Halves (w : World) : Prop := ∀ j, j < 16 → w.cell? ⟨1, j, none⟩ = some (.int .u32 (halvesTab.getD j 0))
theorem u32_and15 (n : Int) : bits .and .u32 n 15 = n % 16 := by
  have h1 : (BitVec.ofInt 32 15).toNat = 2 ^ 4 - 1 := by decide
  have key : (BitVec.ofInt 32 n &&& BitVec.ofInt 32 15).toNat = (n % ((2 ^ 32 : Nat) : Int)).toNat % 2 ^ 4 := by
    rw [BitVec.toNat_and, BitVec.toNat_ofInt, h1, Nat.and_two_pow_sub_one_eq_mod]
  show IntKind.u32.wrap ((BitVec.ofInt 32 n &&& BitVec.ofInt 32 15).toNat : Nat) = n % 16
  rw [key]
  have hw : ∀ k : Nat, k < 16 → IntKind.u32.wrap (k : Int) = k := by decide +kernel
  rw [hw _ (by omega)]
  omega
def half (y : Int) : Int := bits .xor .u32 (y / 16) (halvesTab.getD (y % 16).toNat 0)
def sumStep (x z : Int) : Int := half (half (bits .xor .u32 x (z % 4294967296)))
def sumFold (bs : List Int) : Int := bs.foldl sumStep 4294967295
def sumI (bs : List Int) : Int := bits .xor .u32 IntKind.u32.max (sumFold bs)
theorem Halves.below {w w' : World} (h : Halves w) (hb : Below w.heap.size w w') : Halves w' := fun j hj => by
  have hl : 1 < w.heap.size := cell_lt (h j hj)
  rw [hb.cell (p := ⟨1, j, none⟩) hl]
  exact h j hj
theorem sumFold_next {bs : List Int} {i : Nat} (h : i < bs.length) : sumFold (bs.take (i + 1)) = sumStep (sumFold (bs.take i)) (bs.getD i 0) := by
  unfold sumFold
  rw [List.take_succ_eq_append_getElem h, List.foldl_append, List.getD_eq_getElem?_getD, List.getElem?_eq_getElem h]
  rfl
set_option maxRecDepth 100000 in
set_option maxHeartbeats 2000000 in
theorem sum_any {po : Option Addr} {m c : Nat} {bs : List Int} (w : World) (hb : Byts w po m bs) (hm : m ≤ 140737488355328) (hH : Halves w) : Calls Tryd.prog 74 #[.slice po m c] w fun e w' => e = .returned (.int .u32 (sumI bs)) ∧ w' = w := by
  have HB : Hid (Byts w po m bs) := hb
  have HL : Hid (bs.length = m) := hb.len
  have HH : Hid (Halves w) := hH
  clear hb hH
  go_enter Tryd.func74, Tryd.ntmps74
  go_wp2_with fail
  go_loopw [3, 8] (fun tc ti wx => ∃ (i : Nat) (x : Int), i ≤ m ∧ ti = .int .i64 i ∧ tc = .int .u32 x ∧ Hid (sumFold (bs.take i) = x) ∧ Hid (wx = w)) (fun _ ti _ => m - (intOf ti).toNat)
  case atStart => exact ⟨0, 4294967295, by omega, rfl, rfl, rfl, rfl⟩
  case round =>
    obtain ⟨i, x, hi, rfl, rfl, HX, HW⟩ := hrel
    obtain rfl := HW.out
    by_cases hlt : i < m
    · have hlt1 : (i : Int) < m := by omega
      obtain ⟨b, o, hpo, _, hcell⟩ := HB.out.cell i (by have := HL.out; omega)
      subst hpo
      obtain ⟨z, hz⟩ : ∃ z, bs.getD i 0 = z := ⟨_, rfl⟩
      rw [hz] at hcell
      obtain ⟨x1, e1⟩ : ∃ x1, bits BinOp.xor IntKind.u32 x (z % 4294967296) = x1 := ⟨_, rfl⟩
      obtain ⟨j1, f1⟩ : ∃ j1 : Nat, bits BinOp.and IntKind.u32 x1 15 = (j1 : Int) ∧ j1 < 16 ∧ (x1 % 16).toNat = j1 := ⟨(x1 % 16).toNat, by rw [u32_and15]; omega, by omega, rfl⟩
      obtain ⟨g1, l1, k1⟩ := f1
      have c1 := HH.out j1 l1
      obtain ⟨h1, hh1⟩ : ∃ h1, halvesTab.getD j1 0 = h1 := ⟨_, rfl⟩
      rw [hh1] at c1
      obtain ⟨x2, e2⟩ : ∃ x2, bits BinOp.xor IntKind.u32 (x1 / 16) h1 = x2 := ⟨_, rfl⟩
      obtain ⟨j2, f2⟩ : ∃ j2 : Nat, bits BinOp.and IntKind.u32 x2 15 = (j2 : Int) ∧ j2 < 16 ∧ (x2 % 16).toNat = j2 := ⟨(x2 % 16).toNat, by rw [u32_and15]; omega, by omega, rfl⟩
      obtain ⟨g2, l2, k2⟩ := f2
      have c2 := HH.out j2 l2
      obtain ⟨h2, hh2⟩ : ∃ h2, halvesTab.getD j2 0 = h2 := ⟨_, rfl⟩
      rw [hh2] at c2
      obtain ⟨x3, e3⟩ : ∃ x3, bits BinOp.xor IntKind.u32 (x2 / 16) h2 = x3 := ⟨_, rfl⟩
      have HN : Hid (sumFold (bs.take (i + 1)) = x3) := by
        unfold Hid
        rw [sumFold_next (by have := HL.out; omega), HX.out, hz]
        unfold sumStep half
        rw [e1, k1, hh1, e2, k2, hh2, e3]
      clear hz k1 k2 hh1 hh2 HX
      go_wp2_with fail
      go_roundw
      case rel => exact ⟨i + 1, x3, hlt, by go_num, rfl, HN, by unfold Hid; first | trivial | rfl⟩
      case measure => simp [intOf]; omega
    · have hlt1 : ¬ (i : Int) < m := by omega
      go_wp2_with fail
      go_ret
      refine ⟨?_, rfl⟩
      have e : bs.take i = bs := List.take_of_length_le (by have := HL.out; omega)
      have h := HX.out
      rw [e] at h
      unfold sumI
      rw [h]
      rfl
end Go.Proofs.YtfkcnnjkflomkaaDoor

/-
  The log's record: its bytes.
-/
namespace Go.Proofs.YtfkcnnjkflomkaaDoor
open Go.RowKit

theorem byts_off {P : Nat → Prop} {w w' : World} {po : Option Addr} {m : Nat} {bs : List Int} (h : Byts w po m bs) (ho : Off P w w') (hP : ∀ b o, 0 < m → po = some ⟨b, o, none⟩ → ¬ P b) : Byts w' po m bs := by
  refine ⟨h.len, fun j hj => ?_⟩
  obtain ⟨b, o, e, hl, hc⟩ := h.cell j hj
  have hn := hP b o (by have := h.len; omega) e
  exact ⟨b, o, e, Nat.lt_of_lt_of_le hl ho.size, by rw [ho.cell (p := ⟨b, o + j, none⟩) hl hn]; exact hc⟩
theorem byts_in {w : World} {po : Option Addr} {m : Nat} {bs : List Int} (h : Byts w po m bs) (hm : 0 < m) {b o : Nat} (e : po = some ⟨b, o, none⟩) : b < w.heap.size := by
  obtain ⟨b', o', e', hl, _⟩ := h.cell 0 (by have := h.len; omega)
  rw [e] at e'
  simp at e'
  omega
theorem xor64 (a : Int) : 0 ≤ bits BinOp.xor IntKind.u64 a 4294967295 ∧ bits BinOp.xor IntKind.u64 a 4294967295 ≤ 18446744073709551615 := by
  show 0 ≤ IntKind.u64.wrap ((BitVec.ofInt 64 a ^^^ BitVec.ofInt 64 4294967295).toNat : Nat) ∧ IntKind.u64.wrap ((BitVec.ofInt 64 a ^^^ BitVec.ofInt 64 4294967295).toNat : Nat) ≤ 18446744073709551615
  have e : ∀ x : Int, IntKind.u64.wrap x = x % 18446744073709551616 := fun x => by simp [IntKind.wrap, IntKind.bits, IntKind.signed]
  rw [e]
  omega
theorem sumI_bd (bs : List Int) : 0 ≤ sumI bs ∧ sumI bs ≤ 4294967295 := by
  unfold sumI
  generalize sumFold bs = y
  show 0 ≤ IntKind.u32.wrap ((BitVec.ofInt 32 IntKind.u32.max ^^^ BitVec.ofInt 32 y).toNat : Nat) ∧ IntKind.u32.wrap ((BitVec.ofInt 32 IntKind.u32.max ^^^ BitVec.ofInt 32 y).toNat : Nat) ≤ 4294967295
  have e : ∀ x : Int, IntKind.u32.wrap x = x % 4294967296 := fun x => by simp [IntKind.wrap, IntKind.bits, IntKind.signed]
  rw [e]
  omega
/-- A record's bytes. -/
def recB (bs : List Int) : List Int := be4 bs.length ++ (be4 (bits BinOp.xor IntKind.u64 bs.length 4294967295) ++ (be4 (sumI bs) ++ (bs ++ [165])))
theorem be4_len (x : Int) : (be4 x).length = 4 := rfl
theorem recB_len (bs : List Int) : (recB bs).length = bs.length + 13 := by simp [recB, be4]
theorem Laid.far {w w' : World} {B : Nat} {v v' : Value} {xs : List Int} (h : Laid w w' B v v' xs) {b : Nat} (hb : b < w.heap.size) (hv : v.ownBlock ≠ some b) : v'.ownBlock ≠ some b := by
  rcases h.2.2 with o | ⟨g, o, hg⟩
  · rw [o]; exact hv
  · rw [o]; intro e; simp at e; omega
theorem Laid.bytes {w w' : World} {B : Nat} {v v' : Value} {xs : List Int} (h : Laid w w' B v v' xs) {po : Option Addr} {m : Nat} {bs : List Int} (hb : Byts w po m bs) (hv : ∀ b o, 0 < m → po = some ⟨b, o, none⟩ → v.ownBlock ≠ some b) : Byts w' po m bs ∧ (∀ b o, 0 < m → po = some ⟨b, o, none⟩ → v'.ownBlock ≠ some b) :=
  ⟨byts_off hb h.2.1 hv, fun b o hm e => h.far (byts_in hb hm e) (hv b o hm e)⟩
theorem Laid.halves {w w' : World} {B : Nat} {v v' : Value} {xs ys : List Int} (h : Laid w w' B v v' xs) (hr : Row w B v ys) (hH : Halves w) (hG : 1 < B) : Halves w' := fun j hj => by
  have hl : 1 < w.heap.size := cell_lt (hH j hj)
  rw [h.2.1.cell (p := ⟨1, j, none⟩) hl (fun e => by have := (hr.lt e).1; have h2 : B ≤ 1 := this; omega)]
  exact hH j hj
set_option maxRecDepth 100000 in
set_option maxHeartbeats 2000000 in
theorem record_any {a : Option Addr} {n c B : Nat} {xs : List Int} {po : Option Addr} {m k : Nat} {bs : List Int} (w : World) (hR : Row w B (.slice a n c) xs) (hB : B ≤ w.heap.size) (hb : Byts w po m bs) (hpo : po = none → k = 0) (hfar : ∀ b o, 0 < m → po = some ⟨b, o, none⟩ → (Value.slice a n c).ownBlock ≠ some b) (hm : m ≤ 4294967295) (hl : xs.length + m + 13 ≤ 140737488355328) (hH : Halves w) (hG : 1 < B) :
    Calls Tryd.prog 50 #[.slice a n c, .slice po m k] w fun e w' => ∃ a' n' c', e = .returned (.slice a' n' c') ∧ Laid w w' B (.slice a n c) (.slice a' n' c') (xs ++ recB bs) := by
  have HL : Hid (bs.length = m) := hb.len
  have HR : Hid (Row w B (.slice a n c) xs) := hR
  have HP : Hid (Byts w po m bs ∧ (∀ b o, 0 < m → po = some ⟨b, o, none⟩ → (Value.slice a n c).ownBlock ≠ some b)) := ⟨hb, hfar⟩
  have HH : Hid (Halves w) := hH
  have HPn : Hid (po = none → k = 0) := hpo
  clear hR hb hfar hH hpo
  go_enter Tryd.func50, Tryd.ntmps50
  go_wp2_with fail
  refine (number4_any w HR.out hB (by omega) (by omega)).mono ?_
  rintro e w1 ⟨a1, n1, c1, rfl, L1⟩
  have HL1 : Hid (Laid w w1 B (.slice a n c) (.slice a1 n1 c1) (xs ++ be4 m)) := L1
  have HP1 := L1.bytes HP.out.1 HP.out.2
  have HP1' : Hid (Byts w1 po m bs ∧ (∀ b o, 0 < m → po = some ⟨b, o, none⟩ → (Value.slice a1 n1 c1).ownBlock ≠ some b)) := HP1
  have HH1 : Hid (Halves w1) := L1.halves HR.out HH.out hG
  have hB1 : B ≤ w1.heap.size := Nat.le_trans hB L1.2.1.size
  clear L1 HP1
  obtain ⟨X, hX⟩ : ∃ X, bits BinOp.xor IntKind.u64 (m : Int) 4294967295 = X := ⟨_, rfl⟩
  have hXb := xor64 (m : Int)
  rw [hX] at hXb
  go_wp2_with fail
  refine (number4_any w1 HL1.out.1 hB1 (by simp [be4]; omega) hXb).mono ?_
  rintro e w2 ⟨a2, n2, c2, rfl, L2⟩
  have HL2 : Hid (Laid w w2 B (.slice a n c) (.slice a2 n2 c2) ((xs ++ be4 m) ++ be4 X)) := HL1.out.trans L2
  have HP2 : Hid (Byts w2 po m bs ∧ (∀ b o, 0 < m → po = some ⟨b, o, none⟩ → (Value.slice a2 n2 c2).ownBlock ≠ some b)) := L2.bytes HP1'.out.1 HP1'.out.2
  have HH2 : Hid (Halves w2) := L2.halves HL1.out.1 HH1.out hG
  have hB2 : B ≤ w2.heap.size := Nat.le_trans hB1 L2.2.1.size
  clear L2
  go_wp2_with fail
  refine (sum_any w2 HP2.out.1 (by omega) HH2.out).mono ?_
  rintro e w3 ⟨he, rfl⟩
  obtain ⟨S, hS⟩ : ∃ S, sumI bs = S := ⟨_, rfl⟩
  have hSb := sumI_bd bs
  rw [hS] at he hSb
  subst he
  obtain ⟨hS0, hS1⟩ := hSb
  go_wp2_with fail
  refine (number4_any w3 HL2.out.1 hB2 (by simp [be4]; omega) (by omega)).mono ?_
  rintro e w4 ⟨a4, n4, c4, rfl, L4⟩
  have HL4 : Hid (Laid w w4 B (.slice a n c) (.slice a4 n4 c4) (((xs ++ be4 m) ++ be4 X) ++ be4 S)) := HL2.out.trans L4
  have HP4 : Hid (Byts w4 po m bs ∧ (∀ b o, 0 < m → po = some ⟨b, o, none⟩ → (Value.slice a4 n4 c4).ownBlock ≠ some b)) := L4.bytes HP2.out.1 HP2.out.2
  have hB4 : B ≤ w4.heap.size := Nat.le_trans hB2 L4.2.1.size
  clear L4
  obtain ⟨v5, w5, e5, r5, g5, o5⟩ := run_append_bytes (c := k) HL4.out.1 HP4.out.1 HPn.out (by simp [be4]; omega) hB4 28
  obtain ⟨a5, c5, hv5⟩ : ∃ a5 c5, v5 = .slice a5 (((((xs ++ be4 m) ++ be4 X) ++ be4 S)) ++ bs).length c5 := by
    rcases r5.form with ⟨rfl, e⟩ | ⟨g', cap, rfl, _⟩
    · simp [be4] at e
    · exact ⟨_, _, rfl⟩
  obtain ⟨n5, hn5⟩ : ∃ n5, (((((xs ++ be4 m) ++ be4 X) ++ be4 S)) ++ bs).length = n5 := ⟨_, rfl⟩
  rw [hn5] at hv5
  subst hv5
  have L5 : Laid w4 w5 B (.slice a4 n4 c4) (.slice a5 n5 c5) (((((xs ++ be4 m) ++ be4 X) ++ be4 S)) ++ bs) := by
    refine ⟨r5, Off.of_grown g5, ?_⟩
    rcases o5 with o | o
    · exact Or.inl o
    · exact Or.inr ⟨_, o, Nat.le_refl _⟩
  have hB5 : B ≤ w5.heap.size := Nat.le_trans hB4 L5.2.1.size
  obtain ⟨a6, n6, c6, w6, e6, r6, f6, o6⟩ := run_push r5 hB5 (by simp [be4]; have := HL.out; omega) 165
  have HF : Hid (Laid w w6 B (.slice a n c) (.slice a6 n6 c6) (xs ++ recB bs)) := by
    have h := (HL4.out.trans L5).trans (show Laid w5 w6 B (.slice a5 n5 c5) (.slice a6 n6 c6) _ from ⟨r6, f6, o6⟩)
    have e : ((((((xs ++ be4 m) ++ be4 X) ++ be4 S)) ++ bs) ++ [165]) = xs ++ recB bs := by
      unfold recB
      rw [HL.out, hX, hS]
      simp only [List.append_assoc]
    rw [e] at h
    exact h
  clear r5 g5 o5 L5 r6 f6 o6 hX hS hn5
  go_wp2_with (first | (at_builtin; refine wpList_append_run rfl (.tmp 21) (.tmp 22) 28 _ rfl e5 ?_) | (at_builtin; refine wpList_append_run rfl (.tmp 24) (.tmp 25) 28 _ rfl e6 ?_))
  go_ret
  exact ⟨_, _, _, rfl, HF.out⟩
end Go.Proofs.YtfkcnnjkflomkaaDoor

/-
  The log's head: its bytes.
-/
namespace Go.Proofs.YtfkcnnjkflomkaaDoor
open Go.RowKit

theorem row_base {w : World} {B B' : Nat} {v : Value} {xs : List Int} (h : Row w B v xs) (hB : B' ≤ B) : Row w B' v xs := by
  rcases h.2 with h0 | ⟨g, cap, cur, e, hb, rest⟩
  · exact ⟨h.1, Or.inl h0⟩
  · exact ⟨h.1, Or.inr ⟨g, cap, cur, e, Nat.le_trans hB hb, rest⟩⟩
/-- A byte behind a row that is no one's own, and full: a row of the call's own. -/
theorem run_push_full {w : World} {g m : Nat} {xs : List Int} (hb : Byts w (some ⟨g, 0, none⟩) m xs) (hm : m ≤ 1000000) (z : Int) :
    ∃ a n c w', (Builtin.append_ #[28, 28] 28 #[.slice (some ⟨g, 0, none⟩) m m, .slice (some ⟨w.heap.size, 0, none⟩) 1 1]).run Tryd.prog (w.alloc (.cells #[.int .u8 z] 5)) = .ok (.slice a n c) w' ∧ Row w' w.heap.size (.slice a n c) (xs ++ [z]) ∧ Below w.heap.size w w' := by
  obtain ⟨i, hi, hz, hs, hby⟩ := u8info
  have hlen := hb.len
  have hal : Below w.heap.size w (w.alloc (.cells #[.int .u8 z] 5)) := (Below.refl _ _).alloc (Nat.le_refl _) _
  obtain ⟨v', w', hr, ho, hg⟩ := run_append_arg_grows (P := Tryd.prog) (w.alloc (.cells #[.int .u8 z] 5)) 28 28 5 i _ 1 1 Tryd.underlying28 hi hz hs hby rfl (by decide) ⟨g, 0, none⟩ m m (u8s xs) (by rw [u8s_length]; omega) (fun j u hu => by
      obtain ⟨hj, rfl⟩ := u8s_get hu
      obtain ⟨b, o, e, hl, hc⟩ := hb.cell j (by omega)
      obtain ⟨rfl, rfl⟩ : g = b ∧ 0 = o := by simpa using e
      rw [Addr.add_lit, hal.cell (p := ⟨g, 0 + j, none⟩) hl]
      exact hc) ⟨w.heap.size, 0, none⟩ 1 1 [.int .u8 z] rfl (fun j u hu => by
      cases j with
      | zero => simp at hu; subst hu; rw [Addr.add_lit]; simp
      | succ j => simp at hu) (by omega) (by unfold maxLen; omega) (by omega)
  have hrow : Row w' w.heap.size v' (xs ++ [z]) := by
    refine row_base (B := (w.alloc (.cells #[.int .u8 z] 5)).heap.size) ?_ (by simp)
    unfold Row
    rw [u8s_append, List.length_append, hlen]
    exact ho
  rcases hrow.form with ⟨_, e⟩ | ⟨g', cap, rfl, _⟩
  · simp at e
  · exact ⟨_, _, _, w', hr, hrow, hal.trans ((Off.of_grown hg).below (by simp) (fun k e => by cases e))⟩
set_option maxRecDepth 100000 in
set_option maxHeartbeats 2000000 in
theorem number8_full {g m : Nat} {xs : List Int} {x : Int} (w : World) (hb : Byts w (some ⟨g, 0, none⟩) m xs) (hm : m ≤ 1000000) (hx : 0 ≤ x ∧ x ≤ 18446744073709551615) : Calls Tryd.prog 73 #[.slice (some ⟨g, 0, none⟩) m m, .int .u64 x, .int .i64 8] w fun e w' => ∃ a' n' c', e = .returned (.slice a' n' c') ∧ Row w' w.heap.size (.slice a' n' c') (xs ++ be8 x) ∧ Below w.heap.size w w' := by
  obtain ⟨hx0, hx1⟩ := hx
  have hlen := hb.len
  obtain ⟨a0, n0, c0, w0, e0, r0, b0⟩ := run_push_full hb hm (x / 72057594037927936)
  have hB0 : w.heap.size ≤ w0.heap.size := b0.size
  obtain ⟨a1, n1, c1, w1, e1, r1, f1, o1⟩ := run_push r0 hB0 (by simp; omega) (x / 281474976710656 % 256)
  have hB1 : w.heap.size ≤ w1.heap.size := Nat.le_trans hB0 f1.size
  have b1 : Below w.heap.size w w1 := b0.trans (f1.below hB0 (fun q e => (r0.lt e).1))
  obtain ⟨a2, n2, c2, w2, e2, r2, f2, o2⟩ := run_push r1 hB1 (by simp; omega) (x / 1099511627776 % 256)
  have hB2 : w.heap.size ≤ w2.heap.size := Nat.le_trans hB1 f2.size
  have b2 : Below w.heap.size w w2 := b1.trans (f2.below hB1 (fun q e => (r1.lt e).1))
  obtain ⟨a3, n3, c3, w3, e3, r3, f3, o3⟩ := run_push r2 hB2 (by simp; omega) (x / 4294967296 % 256)
  have hB3 : w.heap.size ≤ w3.heap.size := Nat.le_trans hB2 f3.size
  have b3 : Below w.heap.size w w3 := b2.trans (f3.below hB2 (fun q e => (r2.lt e).1))
  obtain ⟨a4, n4, c4, w4, e4, r4, f4, o4⟩ := run_push r3 hB3 (by simp; omega) (x / 16777216 % 256)
  have hB4 : w.heap.size ≤ w4.heap.size := Nat.le_trans hB3 f4.size
  have b4 : Below w.heap.size w w4 := b3.trans (f4.below hB3 (fun q e => (r3.lt e).1))
  obtain ⟨a5, n5, c5, w5, e5, r5, f5, o5⟩ := run_push r4 hB4 (by simp; omega) (x / 65536 % 256)
  have hB5 : w.heap.size ≤ w5.heap.size := Nat.le_trans hB4 f5.size
  have b5 : Below w.heap.size w w5 := b4.trans (f5.below hB4 (fun q e => (r4.lt e).1))
  obtain ⟨a6, n6, c6, w6, e6, r6, f6, o6⟩ := run_push r5 hB5 (by simp; omega) (x / 256 % 256)
  have hB6 : w.heap.size ≤ w6.heap.size := Nat.le_trans hB5 f6.size
  have b6 : Below w.heap.size w w6 := b5.trans (f6.below hB5 (fun q e => (r5.lt e).1))
  obtain ⟨a7, n7, c7, w7, e7, r7, f7, o7⟩ := run_push r6 hB6 (by simp; omega) (x % 256)
  have hB7 : w.heap.size ≤ w7.heap.size := Nat.le_trans hB6 f7.size
  have b7 : Below w.heap.size w w7 := b6.trans (f7.below hB6 (fun q e => (r6.lt e).1))
  have HF : Hid (Row w7 w.heap.size (.slice a7 n7 c7) (xs ++ be8 x) ∧ Below w.heap.size w w7) := by
    have e : ((((((((xs ++ [x / 72057594037927936]) ++ [x / 281474976710656 % 256]) ++ [x / 1099511627776 % 256]) ++ [x / 4294967296 % 256]) ++ [x / 16777216 % 256]) ++ [x / 65536 % 256]) ++ [x / 256 % 256]) ++ [x % 256]) = xs ++ be8 x := by simp only [List.append_assoc]; rfl
    refine ⟨?_, b7⟩
    have h := r7
    rw [e] at h
    exact h
  clear hb b0 r0 r1 f1 o1 b1 r2 f2 o2 b2 r3 f3 o3 b3 r4 f4 o4 b4 r5 f5 o5 b5 r6 f6 o6 b6 r7 f7 o7 b7
  go_enter Tryd.func73, Tryd.ntmps73
  go_wp2_with fail
  refine wp_loop_rounds 9 ?_
  rw [rounds_succ]
  go_wp2_with (at_builtin; refine wpList_append_run rfl (.tmp 14) (.tmp 20) 28 _ rfl e0 ?_)
  rw [rounds_succ]
  go_wp2_with (at_builtin; refine wpList_append_run rfl (.tmp 14) (.tmp 20) 28 _ rfl e1 ?_)
  rw [rounds_succ]
  go_wp2_with (at_builtin; refine wpList_append_run rfl (.tmp 14) (.tmp 20) 28 _ rfl e2 ?_)
  rw [rounds_succ]
  go_wp2_with (at_builtin; refine wpList_append_run rfl (.tmp 14) (.tmp 20) 28 _ rfl e3 ?_)
  rw [rounds_succ]
  go_wp2_with (at_builtin; refine wpList_append_run rfl (.tmp 14) (.tmp 20) 28 _ rfl e4 ?_)
  rw [rounds_succ]
  go_wp2_with (at_builtin; refine wpList_append_run rfl (.tmp 14) (.tmp 20) 28 _ rfl e5 ?_)
  rw [rounds_succ]
  go_wp2_with (at_builtin; refine wpList_append_run rfl (.tmp 14) (.tmp 20) 28 _ rfl e6 ?_)
  rw [rounds_succ]
  go_wp2_with (at_builtin; refine wpList_append_run rfl (.tmp 14) (.tmp 20) 28 _ rfl e7 ?_)
  rw [rounds_succ]
  go_wp2_with fail
  go_ret
  exact ⟨_, _, _, rfl, HF.out.1, HF.out.2⟩
/-- The head's first twelve bytes, and all. -/
def head12 (x : Int) : List Int := [72, 87, 76, 49] ++ be8 x
def headB (x : Int) : List Int := head12 x ++ (be4 (sumI (head12 x)) ++ [165])
theorem headB_len (x : Int) : (headB x).length = 17 := by simp [headB, head12, be8, be4]
theorem lit_hwl {w : World} {n : Nat} (hn : w.heap.size = n) : Byts (w.alloc (.cells #[.int .u8 72, .int .u8 87, .int .u8 76, .int .u8 49] 5 (4, 5))) (some ⟨n, 0, none⟩) 4 [72, 87, 76, 49] := by
  subst hn
  have hb : (w.alloc (.cells #[.int .u8 72, .int .u8 87, .int .u8 76, .int .u8 49] 5 (4, 5))).heap[w.heap.size]? = some (.cells #[.int .u8 72, .int .u8 87, .int .u8 76, .int .u8 49] 5 (4, 5)) := by show (w.heap.push _)[w.heap.size]? = _; simp
  refine ⟨rfl, fun j hj => ⟨w.heap.size, 0, rfl, by simp, ?_⟩⟩
  unfold World.cell?
  rw [hb]
  match j, hj with
  | 0, _ => rfl
  | 1, _ => rfl
  | 2, _ => rfl
  | 3, _ => rfl
theorem row_byts {w : World} {B : Nat} {a : Option Addr} {n c : Nat} {xs : List Int} (h : Row w B (.slice a n c) xs) (hx : xs ≠ []) : ∃ g, a = some ⟨g, 0, none⟩ ∧ n = xs.length ∧ Byts w a n xs := by
  rcases h.form with ⟨_, e⟩ | ⟨g, cap, e, _, hl, _⟩
  · exact absurd e hx
  · simp only [Value.slice.injEq] at e
    obtain ⟨rfl, rfl, rfl⟩ := e
    refine ⟨g, rfl, rfl, rfl, fun j hj => ⟨g, 0, rfl, hl, ?_⟩⟩
    rw [Nat.zero_add]
    exact h.cell.2 j hj
set_option maxRecDepth 100000 in
set_option maxHeartbeats 2000000 in
theorem head_any {x : Int} (w : World) (hx : 0 ≤ x ∧ x ≤ 18446744073709551615) (hH : Halves w) : Calls Tryd.prog 68 #[.int .u64 x] w fun e w' => ∃ a' n' c', e = .returned (.slice a' n' c') ∧ Row w' w.heap.size (.slice a' n' c') (headB x) ∧ Below w.heap.size w w' := by
  have hcv := Go.Lib.run_convert_bytes_const (P := Tryd.prog) w 28 5 #[.int .u8 72, .int .u8 87, .int .u8 76, .int .u8 49] 4 4 Tryd.underlying28 Tryd.underlying5
  have HH : Hid (Halves w) := hH
  clear hH
  obtain ⟨W1, hW1⟩ : ∃ W1, w.alloc (.cells #[.int .u8 72, .int .u8 87, .int .u8 76, .int .u8 49] 5 (4, 5)) = W1 := ⟨_, rfl⟩
  have hcv2 : (convert 28 28 (.slice (some ⟨w.heap.size, 0, none⟩) 4 4)).run Tryd.prog (w.alloc (.cells #[.int .u8 72, .int .u8 87, .int .u8 76, .int .u8 49] 5)) = .ok (.slice (some ⟨w.heap.size, 0, none⟩) 4 4) W1 := by rw [← hW1]; exact hcv
  have HL : Hid (Byts W1 (some ⟨w.heap.size, 0, none⟩) 4 [72, 87, 76, 49]) := by unfold Hid; rw [← hW1]; exact lit_hwl rfl
  have HB1 : Hid (Below w.heap.size w W1) := by unfold Hid; rw [← hW1]; exact (Below.refl _ _).alloc (Nat.le_refl _) _
  clear hcv hW1
  go_enter Tryd.func68, Tryd.ntmps68
  go_wp2_with fail
  refine (number8_full W1 HL.out (by decide) hx).mono ?_
  rintro e w2 ⟨a2, n2, c2, rfl, r2, b2⟩
  have HR2 : Hid (Row w2 w.heap.size (.slice a2 n2 c2) (head12 x)) := row_base r2 HB1.out.size
  have HB2 : Hid (Below w.heap.size w w2) := HB1.out.trans (b2.mono HB1.out.size)
  clear r2 b2 hcv2
  obtain ⟨g2, ha2, hn2, hy2⟩ := row_byts HR2.out (by simp [head12])
  have hn12 : n2 = 12 := by rw [hn2]; simp [head12, be8]
  clear hn2
  subst ha2 hn12
  have HY2 : Hid (Byts w2 (some ⟨g2, 0, none⟩) 12 (head12 x)) := hy2
  clear hy2
  go_wp2_with fail
  refine (sum_any w2 HY2.out (by decide) (HH.out.below HB2.out)).mono ?_
  rintro e w3 ⟨he, rfl⟩
  obtain ⟨S, hS⟩ : ∃ S, sumI (head12 x) = S := ⟨_, rfl⟩
  have hSb := sumI_bd (head12 x)
  rw [hS] at he hSb
  subst he
  obtain ⟨hS0, hS1⟩ := hSb
  go_wp2_with fail
  refine (number4_any w3 HR2.out HB2.out.size (by simp [head12, be8]) (by omega)).mono ?_
  rintro e w4 ⟨a4, n4, c4, rfl, L4⟩
  have HR4 : Hid (Row w4 w.heap.size (.slice a4 n4 c4) (head12 x ++ be4 S)) := L4.1
  have HB4 : Hid (Below w.heap.size w w4) := HB2.out.trans (L4.2.1.below HB2.out.size (fun q e => (HR2.out.lt e).1))
  clear L4
  obtain ⟨a5, n5, c5, w5, e5, r5, f5, o5⟩ := run_push HR4.out HB4.out.size (by simp [head12, be8, be4]) 165
  have HF : Hid (Row w5 w.heap.size (.slice a5 n5 c5) (headB x) ∧ Below w.heap.size w w5) := by
    refine ⟨?_, HB4.out.trans (f5.below HB4.out.size (fun q e => (HR4.out.lt e).1))⟩
    have e : (head12 x ++ be4 S) ++ [165] = headB x := by unfold headB; rw [hS, List.append_assoc]
    rw [e] at r5
    exact r5
  clear r5 f5 o5 hS
  go_wp2_with (at_builtin; refine wpList_append_run rfl (.tmp 13) (.tmp 14) 28 _ rfl e5 ?_)
  go_ret
  exact ⟨_, _, _, rfl, HF.out.1, HF.out.2⟩
end Go.Proofs.YtfkcnnjkflomkaaDoor
