import Derived.Test.YthnpckmgnompiaaGreatDoorWNum
/-
  The log's value: the number that up to eight bytes are.
-/
namespace Go.Proofs.YthnpckmgnompiaaGreatDoor
open Go.RowKit

theorem u64_wrap {x : Nat} (h : x < 18446744073709551616) : IntKind.u64.wrap (x : Int) = x := by
  have : IntKind.u64.wrap (x : Int) = (x : Int) % 18446744073709551616 := by
    simp [IntKind.wrap, IntKind.bits, IntKind.signed]
  rw [this]
  omega
theorem u64_or {x z : Nat} (hx : x < 72057594037927936) (hz : z < 256) : bits BinOp.or IntKind.u64 (IntKind.u64.wrap ((x : Int) * 256)) (IntKind.u64.wrap (z : Int)) = ((x * 256 + z : Nat) : Int) := by
  have e1 : IntKind.u64.wrap ((x : Int) * 256) = ((x * 256 : Nat) : Int) := by
    rw [show (x : Int) * 256 = ((x * 256 : Nat) : Int) by omega]
    exact u64_wrap (by omega)
  rw [e1, u64_wrap (x := z) (by omega)]
  show IntKind.u64.wrap ((BitVec.ofInt 64 ((x * 256 : Nat) : Int) ||| BitVec.ofInt 64 (z : Int)).toNat : Nat) = _
  have k1 : (BitVec.ofInt 64 ((x * 256 : Nat) : Int)).toNat = x * 256 := by rw [BitVec.toNat_ofInt]; omega
  have k2 : (BitVec.ofInt 64 (z : Int)).toNat = z := by rw [BitVec.toNat_ofInt]; omega
  have k3 : x * 256 ||| z = x * 256 + z := by
    have := Nat.shiftLeft_add_eq_or_of_lt (i := 8) (b := z) hz x
    rw [Nat.shiftLeft_eq] at this
    exact this.symm
  rw [BitVec.toNat_or, k1, k2, k3, u64_wrap (by omega)]
/-- The number that bytes are, the highest first. -/
def valN (bs : List Int) : Nat := bs.foldl (fun x z => x * 256 + z.toNat) 0
theorem valN_next {bs : List Int} {i : Nat} (h : i < bs.length) : valN (bs.take (i + 1)) = valN (bs.take i) * 256 + (bs.getD i 0).toNat := by
  unfold valN
  rw [List.take_succ_eq_append_getElem h, List.foldl_append, List.getD_eq_getElem?_getD, List.getElem?_eq_getElem h]
  rfl
theorem valN_lt (bs : List Int) (hr : ∀ z ∈ bs, 0 ≤ z ∧ z ≤ 255) : ∀ i, i ≤ bs.length → valN (bs.take i) < 256 ^ i := by
  intro i
  induction i with
  | zero => intro _; simp [valN]
  | succ i ih =>
    intro h
    have h1 := ih (by omega)
    have h2 := hr (bs.getD i 0) (by rw [List.getD_eq_getElem?_getD, List.getElem?_eq_getElem (show i < bs.length by omega)]; exact List.getElem_mem _)
    rw [valN_next (by omega), Nat.pow_succ]
    omega
set_option maxRecDepth 100000 in
set_option maxHeartbeats 2000000 in
theorem value_any {po : Option Addr} {m c : Nat} {bs : List Int} (w : World) (hb : Byts w po m bs) (hm : m ≤ 8) (hr : ∀ z ∈ bs, 0 ≤ z ∧ z ≤ 255) : Calls Tryz.prog 95 #[.slice po m c] w fun e w' => e = .returned (.int .u64 (valN bs)) ∧ w' = w := by
  have HB : Hid (Byts w po m bs) := hb
  have HL : Hid (bs.length = m) := hb.len
  have HR : Hid (∀ z ∈ bs, 0 ≤ z ∧ z ≤ 255) := hr
  clear hb hr
  go_enter Tryz.func95, Tryz.ntmps95
  go_wp2_with fail
  go_loopw [3, 8] (fun tc ti wx => ∃ (i : Nat) (x : Int), i ≤ m ∧ ti = .int .i64 i ∧ tc = .int .u64 x ∧ Hid (x = (valN (bs.take i) : Int)) ∧ Hid (wx = w)) (fun _ ti _ => m - (intOf ti).toNat)
  case atStart => exact ⟨0, 0, by omega, rfl, rfl, rfl, rfl⟩
  case round =>
    obtain ⟨i, x, hi, rfl, rfl, HX, HW⟩ := hrel
    obtain rfl := HW.out
    by_cases hlt : i < m
    · have hlt1 : (i : Int) < m := by omega
      obtain ⟨b, o, hpo, _, hcell⟩ := HB.out.cell i (by have := HL.out; omega)
      subst hpo
      have hz := HR.out (bs.getD i 0) (by rw [List.getD_eq_getElem?_getD, List.getElem?_eq_getElem (show i < bs.length by have := HL.out; omega)]; exact List.getElem_mem _)
      obtain ⟨z, hzz⟩ : ∃ z, bs.getD i 0 = z := ⟨_, rfl⟩
      rw [hzz] at hcell hz
      obtain ⟨y, hy⟩ : ∃ y, bits BinOp.or IntKind.u64 (IntKind.u64.wrap (x * 256)) (IntKind.u64.wrap z) = y := ⟨_, rfl⟩
      have HN : Hid (y = (valN (bs.take (i + 1)) : Int)) := by
        unfold Hid
        have hv := valN_lt bs HR.out i (by have := HL.out; omega)
        have hv2 : valN (bs.take i) < 72057594037927936 := Nat.lt_of_lt_of_le hv (Nat.le_trans (Nat.pow_le_pow_right (by decide) (show i ≤ 7 by omega)) (by decide))
        rw [← hy, HX.out, valN_next (by have := HL.out; omega), hzz]
        obtain ⟨zn, rfl⟩ : ∃ zn : Nat, z = zn := ⟨z.toNat, by omega⟩
        exact u64_or hv2 (by omega)
      clear hzz hz
      go_wp2_with fail
      go_roundw
      case rel => exact ⟨i + 1, y, hlt, by go_num, rfl, HN, by unfold Hid; first | trivial | rfl⟩
      case measure => simp [intOf]; omega
    · have hlt1 : ¬ (i : Int) < m := by omega
      go_wp2_with fail
      go_ret
      refine ⟨?_, rfl⟩
      have e : bs.take i = bs := List.take_of_length_le (by have := HL.out; omega)
      have h := HX.out
      rw [e] at h
      rw [← h]
      rfl
end Go.Proofs.YthnpckmgnompiaaGreatDoor

/-
  The log's sum: what the loop makes of the bytes, by its own steps.
-/
namespace Go.Proofs.YthnpckmgnompiaaGreatDoor
open Go.RowKit

def halvesTab : List Int := [0, 498536548, 997073096, 651767980, 1994146192, 1802195444, 1303535960, 1342533948, 3988292384, 4027552580, 3604390888, 3412177804, 2607071920, 2262029012, 2685067896, 3183342108]
def Halves (w : World) : Prop := ∀ j, j < 16 → w.cell? ⟨1, j, none⟩ = some (.int .u32 (halvesTab.getD j 0))
theorem u32_and15 (n : Int) : bits .and .u32 n 15 = n % 16 := by
  have h1 : (BitVec.ofInt 32 15).toNat = 2 ^ 4 - 1 := by decide
  have key : (BitVec.ofInt 32 n &&& BitVec.ofInt 32 15).toNat = (n % ((2 ^ 32 : Nat) : Int)).toNat % 2 ^ 4 := by
    rw [BitVec.toNat_and, BitVec.toNat_ofInt, h1, Nat.and_two_pow_sub_one_eq_mod]
  show IntKind.u32.wrap ((BitVec.ofInt 32 n &&& BitVec.ofInt 32 15).toNat : Nat) = n % 16
  rw [key]
  have hw : ∀ k : Nat, k < 16 → IntKind.u32.wrap (k : Int) = k := by decide +kernel
  rw [hw _ (by omega)]
  omega
def half (y : Int) : Int := bits .xor .u32 (y / 16) (halvesTab.getD (y % 16).toNat 0)
def sumStep (x z : Int) : Int := half (half (bits .xor .u32 x (z % 4294967296)))
def sumFold (bs : List Int) : Int := bs.foldl sumStep 4294967295
def sumI (bs : List Int) : Int := bits .xor .u32 IntKind.u32.max (sumFold bs)
theorem Halves.below {w w' : World} (h : Halves w) (hb : Below w.heap.size w w') : Halves w' := fun j hj => by
  have hl : 1 < w.heap.size := cell_lt (h j hj)
  rw [hb.cell (p := ⟨1, j, none⟩) hl]
  exact h j hj
theorem sumFold_next {bs : List Int} {i : Nat} (h : i < bs.length) : sumFold (bs.take (i + 1)) = sumStep (sumFold (bs.take i)) (bs.getD i 0) := by
  unfold sumFold
  rw [List.take_succ_eq_append_getElem h, List.foldl_append, List.getD_eq_getElem?_getD, List.getElem?_eq_getElem h]
  rfl
set_option maxRecDepth 100000 in
set_option maxHeartbeats 2000000 in
theorem sum_any {po : Option Addr} {m c : Nat} {bs : List Int} (w : World) (hb : Byts w po m bs) (hm : m ≤ 140737488355328) (hH : Halves w) : Calls Tryz.prog 83 #[.slice po m c] w fun e w' => e = .returned (.int .u32 (sumI bs)) ∧ w' = w := by
  have HB : Hid (Byts w po m bs) := hb
  have HL : Hid (bs.length = m) := hb.len
  have HH : Hid (Halves w) := hH
  clear hb hH
  go_enter Tryz.func83, Tryz.ntmps83
  go_wp2_with fail
  go_loopw [3, 8] (fun tc ti wx => ∃ (i : Nat) (x : Int), i ≤ m ∧ ti = .int .i64 i ∧ tc = .int .u32 x ∧ Hid (sumFold (bs.take i) = x) ∧ Hid (wx = w)) (fun _ ti _ => m - (intOf ti).toNat)
  case atStart => exact ⟨0, 4294967295, by omega, rfl, rfl, rfl, rfl⟩
  case round =>
    obtain ⟨i, x, hi, rfl, rfl, HX, HW⟩ := hrel
    obtain rfl := HW.out
    by_cases hlt : i < m
    · have hlt1 : (i : Int) < m := by omega
      obtain ⟨b, o, hpo, _, hcell⟩ := HB.out.cell i (by have := HL.out; omega)
      subst hpo
      obtain ⟨z, hz⟩ : ∃ z, bs.getD i 0 = z := ⟨_, rfl⟩
      rw [hz] at hcell
      obtain ⟨x1, e1⟩ : ∃ x1, bits BinOp.xor IntKind.u32 x (z % 4294967296) = x1 := ⟨_, rfl⟩
      obtain ⟨j1, f1⟩ : ∃ j1 : Nat, bits BinOp.and IntKind.u32 x1 15 = (j1 : Int) ∧ j1 < 16 ∧ (x1 % 16).toNat = j1 := ⟨(x1 % 16).toNat, by rw [u32_and15]; omega, by omega, rfl⟩
      obtain ⟨g1, l1, k1⟩ := f1
      have c1 := HH.out j1 l1
      obtain ⟨h1, hh1⟩ : ∃ h1, halvesTab.getD j1 0 = h1 := ⟨_, rfl⟩
      rw [hh1] at c1
      obtain ⟨x2, e2⟩ : ∃ x2, bits BinOp.xor IntKind.u32 (x1 / 16) h1 = x2 := ⟨_, rfl⟩
      obtain ⟨j2, f2⟩ : ∃ j2 : Nat, bits BinOp.and IntKind.u32 x2 15 = (j2 : Int) ∧ j2 < 16 ∧ (x2 % 16).toNat = j2 := ⟨(x2 % 16).toNat, by rw [u32_and15]; omega, by omega, rfl⟩
      obtain ⟨g2, l2, k2⟩ := f2
      have c2 := HH.out j2 l2
      obtain ⟨h2, hh2⟩ : ∃ h2, halvesTab.getD j2 0 = h2 := ⟨_, rfl⟩
      rw [hh2] at c2
      obtain ⟨x3, e3⟩ : ∃ x3, bits BinOp.xor IntKind.u32 (x2 / 16) h2 = x3 := ⟨_, rfl⟩
      have HN : Hid (sumFold (bs.take (i + 1)) = x3) := by
        unfold Hid
        rw [sumFold_next (by have := HL.out; omega), HX.out, hz]
        unfold sumStep half
        rw [e1, k1, hh1, e2, k2, hh2, e3]
      clear hz k1 k2 hh1 hh2 HX
      go_wp2_with fail
      go_roundw
      case rel => exact ⟨i + 1, x3, hlt, by go_num, rfl, HN, by unfold Hid; first | trivial | rfl⟩
      case measure => simp [intOf]; omega
    · have hlt1 : ¬ (i : Int) < m := by omega
      go_wp2_with fail
      go_ret
      refine ⟨?_, rfl⟩
      have e : bs.take i = bs := List.take_of_length_le (by have := HL.out; omega)
      have h := HX.out
      rw [e] at h
      unfold sumI
      rw [h]
      rfl
end Go.Proofs.YthnpckmgnompiaaGreatDoor

/-
  The log's record: its bytes.
-/
namespace Go.Proofs.YthnpckmgnompiaaGreatDoor
open Go.RowKit

theorem byts_off {P : Nat → Prop} {w w' : World} {po : Option Addr} {m : Nat} {bs : List Int} (h : Byts w po m bs) (ho : Off P w w') (hP : ∀ b o, 0 < m → po = some ⟨b, o, none⟩ → ¬ P b) : Byts w' po m bs := by
  refine ⟨h.len, fun j hj => ?_⟩
  obtain ⟨b, o, e, hl, hc⟩ := h.cell j hj
  have hn := hP b o (by have := h.len; omega) e
  exact ⟨b, o, e, Nat.lt_of_lt_of_le hl ho.size, by rw [ho.cell (p := ⟨b, o + j, none⟩) hl hn]; exact hc⟩
theorem byts_in {w : World} {po : Option Addr} {m : Nat} {bs : List Int} (h : Byts w po m bs) (hm : 0 < m) {b o : Nat} (e : po = some ⟨b, o, none⟩) : b < w.heap.size := by
  obtain ⟨b', o', e', hl, _⟩ := h.cell 0 (by have := h.len; omega)
  rw [e] at e'
  simp at e'
  omega
theorem xor64 (a : Int) : 0 ≤ bits BinOp.xor IntKind.u64 a 4294967295 ∧ bits BinOp.xor IntKind.u64 a 4294967295 ≤ 18446744073709551615 := by
  show 0 ≤ IntKind.u64.wrap ((BitVec.ofInt 64 a ^^^ BitVec.ofInt 64 4294967295).toNat : Nat) ∧ IntKind.u64.wrap ((BitVec.ofInt 64 a ^^^ BitVec.ofInt 64 4294967295).toNat : Nat) ≤ 18446744073709551615
  have e : ∀ x : Int, IntKind.u64.wrap x = x % 18446744073709551616 := fun x => by simp [IntKind.wrap, IntKind.bits, IntKind.signed]
  rw [e]
  omega
theorem sumI_bd (bs : List Int) : 0 ≤ sumI bs ∧ sumI bs ≤ 4294967295 := by
  unfold sumI
  generalize sumFold bs = y
  show 0 ≤ IntKind.u32.wrap ((BitVec.ofInt 32 IntKind.u32.max ^^^ BitVec.ofInt 32 y).toNat : Nat) ∧ IntKind.u32.wrap ((BitVec.ofInt 32 IntKind.u32.max ^^^ BitVec.ofInt 32 y).toNat : Nat) ≤ 4294967295
  have e : ∀ x : Int, IntKind.u32.wrap x = x % 4294967296 := fun x => by simp [IntKind.wrap, IntKind.bits, IntKind.signed]
  rw [e]
  omega
/-- A record's bytes. -/
def recB (bs : List Int) : List Int := be4 bs.length ++ (be4 (bits BinOp.xor IntKind.u64 bs.length 4294967295) ++ (be4 (sumI bs) ++ (bs ++ [165])))
theorem be4_len (x : Int) : (be4 x).length = 4 := rfl
theorem recB_len (bs : List Int) : (recB bs).length = bs.length + 13 := by simp [recB, be4]
theorem Laid.far {w w' : World} {B : Nat} {v v' : Value} {xs : List Int} (h : Laid w w' B v v' xs) {b : Nat} (hb : b < w.heap.size) (hv : v.ownBlock ≠ some b) : v'.ownBlock ≠ some b := by
  rcases h.2.2 with o | ⟨g, o, hg⟩
  · rw [o]; exact hv
  · rw [o]; intro e; simp at e; omega
theorem Laid.bytes {w w' : World} {B : Nat} {v v' : Value} {xs : List Int} (h : Laid w w' B v v' xs) {po : Option Addr} {m : Nat} {bs : List Int} (hb : Byts w po m bs) (hv : ∀ b o, 0 < m → po = some ⟨b, o, none⟩ → v.ownBlock ≠ some b) : Byts w' po m bs ∧ (∀ b o, 0 < m → po = some ⟨b, o, none⟩ → v'.ownBlock ≠ some b) :=
  ⟨byts_off hb h.2.1 hv, fun b o hm e => h.far (byts_in hb hm e) (hv b o hm e)⟩
theorem Laid.halves {w w' : World} {B : Nat} {v v' : Value} {xs ys : List Int} (h : Laid w w' B v v' xs) (hr : Row w B v ys) (hH : Halves w) (hG : 1 < B) : Halves w' := fun j hj => by
  have hl : 1 < w.heap.size := cell_lt (hH j hj)
  rw [h.2.1.cell (p := ⟨1, j, none⟩) hl (fun e => by have := (hr.lt e).1; have h2 : B ≤ 1 := this; omega)]
  exact hH j hj
set_option maxRecDepth 100000 in
set_option maxHeartbeats 2000000 in
theorem record_any {a : Option Addr} {n c B : Nat} {xs : List Int} {po : Option Addr} {m k : Nat} {bs : List Int} (w : World) (hR : Row w B (.slice a n c) xs) (hB : B ≤ w.heap.size) (hb : Byts w po m bs) (hpo : po = none → k = 0) (hfar : ∀ b o, 0 < m → po = some ⟨b, o, none⟩ → (Value.slice a n c).ownBlock ≠ some b) (hm : m ≤ 4294967295) (hl : xs.length + m + 13 ≤ 140737488355328) (hH : Halves w) (hG : 1 < B) :
    Calls Tryz.prog 55 #[.slice a n c, .slice po m k] w fun e w' => ∃ a' n' c', e = .returned (.slice a' n' c') ∧ Laid w w' B (.slice a n c) (.slice a' n' c') (xs ++ recB bs) := by
  have HL : Hid (bs.length = m) := hb.len
  have HR : Hid (Row w B (.slice a n c) xs) := hR
  have HP : Hid (Byts w po m bs ∧ (∀ b o, 0 < m → po = some ⟨b, o, none⟩ → (Value.slice a n c).ownBlock ≠ some b)) := ⟨hb, hfar⟩
  have HH : Hid (Halves w) := hH
  have HPn : Hid (po = none → k = 0) := hpo
  clear hR hb hfar hH hpo
  go_enter Tryz.func55, Tryz.ntmps55
  go_wp2_with fail
  refine (number4_any w HR.out hB (by omega) (by omega)).mono ?_
  rintro e w1 ⟨a1, n1, c1, rfl, L1⟩
  have HL1 : Hid (Laid w w1 B (.slice a n c) (.slice a1 n1 c1) (xs ++ be4 m)) := L1
  have HP1 := L1.bytes HP.out.1 HP.out.2
  have HP1' : Hid (Byts w1 po m bs ∧ (∀ b o, 0 < m → po = some ⟨b, o, none⟩ → (Value.slice a1 n1 c1).ownBlock ≠ some b)) := HP1
  have HH1 : Hid (Halves w1) := L1.halves HR.out HH.out hG
  have hB1 : B ≤ w1.heap.size := Nat.le_trans hB L1.2.1.size
  clear L1 HP1
  obtain ⟨X, hX⟩ : ∃ X, bits BinOp.xor IntKind.u64 (m : Int) 4294967295 = X := ⟨_, rfl⟩
  have hXb := xor64 (m : Int)
  rw [hX] at hXb
  go_wp2_with fail
  refine (number4_any w1 HL1.out.1 hB1 (by simp [be4]; omega) hXb).mono ?_
  rintro e w2 ⟨a2, n2, c2, rfl, L2⟩
  have HL2 : Hid (Laid w w2 B (.slice a n c) (.slice a2 n2 c2) ((xs ++ be4 m) ++ be4 X)) := HL1.out.trans L2
  have HP2 : Hid (Byts w2 po m bs ∧ (∀ b o, 0 < m → po = some ⟨b, o, none⟩ → (Value.slice a2 n2 c2).ownBlock ≠ some b)) := L2.bytes HP1'.out.1 HP1'.out.2
  have HH2 : Hid (Halves w2) := L2.halves HL1.out.1 HH1.out hG
  have hB2 : B ≤ w2.heap.size := Nat.le_trans hB1 L2.2.1.size
  clear L2
  go_wp2_with fail
  refine (sum_any w2 HP2.out.1 (by omega) HH2.out).mono ?_
  rintro e w3 ⟨he, rfl⟩
  obtain ⟨S, hS⟩ : ∃ S, sumI bs = S := ⟨_, rfl⟩
  have hSb := sumI_bd bs
  rw [hS] at he hSb
  subst he
  obtain ⟨hS0, hS1⟩ := hSb
  go_wp2_with fail
  refine (number4_any w3 HL2.out.1 hB2 (by simp [be4]; omega) (by omega)).mono ?_
  rintro e w4 ⟨a4, n4, c4, rfl, L4⟩
  have HL4 : Hid (Laid w w4 B (.slice a n c) (.slice a4 n4 c4) (((xs ++ be4 m) ++ be4 X) ++ be4 S)) := HL2.out.trans L4
  have HP4 : Hid (Byts w4 po m bs ∧ (∀ b o, 0 < m → po = some ⟨b, o, none⟩ → (Value.slice a4 n4 c4).ownBlock ≠ some b)) := L4.bytes HP2.out.1 HP2.out.2
  have hB4 : B ≤ w4.heap.size := Nat.le_trans hB2 L4.2.1.size
  clear L4
  obtain ⟨v5, w5, e5, r5, g5, o5⟩ := run_append_bytes (c := k) HL4.out.1 HP4.out.1 HPn.out (by simp [be4]; omega) hB4 22
  obtain ⟨a5, c5, hv5⟩ : ∃ a5 c5, v5 = .slice a5 (((((xs ++ be4 m) ++ be4 X) ++ be4 S)) ++ bs).length c5 := by
    rcases r5.form with ⟨rfl, e⟩ | ⟨g', cap, rfl, _⟩
    · simp [be4] at e
    · exact ⟨_, _, rfl⟩
  obtain ⟨n5, hn5⟩ : ∃ n5, (((((xs ++ be4 m) ++ be4 X) ++ be4 S)) ++ bs).length = n5 := ⟨_, rfl⟩
  rw [hn5] at hv5
  subst hv5
  have L5 : Laid w4 w5 B (.slice a4 n4 c4) (.slice a5 n5 c5) (((((xs ++ be4 m) ++ be4 X) ++ be4 S)) ++ bs) := by
    refine ⟨r5, Off.of_grown g5, ?_⟩
    rcases o5 with o | o
    · exact Or.inl o
    · exact Or.inr ⟨_, o, Nat.le_refl _⟩
  have hB5 : B ≤ w5.heap.size := Nat.le_trans hB4 L5.2.1.size
  obtain ⟨a6, n6, c6, w6, e6, r6, f6, o6⟩ := run_push r5 hB5 (by simp [be4]; have := HL.out; omega) 165
  have HF : Hid (Laid w w6 B (.slice a n c) (.slice a6 n6 c6) (xs ++ recB bs)) := by
    have h := (HL4.out.trans L5).trans (show Laid w5 w6 B (.slice a5 n5 c5) (.slice a6 n6 c6) _ from ⟨r6, f6, o6⟩)
    have e : ((((((xs ++ be4 m) ++ be4 X) ++ be4 S)) ++ bs) ++ [165]) = xs ++ recB bs := by
      unfold recB
      rw [HL.out, hX, hS]
      simp only [List.append_assoc]
    rw [e] at h
    exact h
  clear r5 g5 o5 L5 r6 f6 o6 hX hS hn5
  go_wp2_with (first | (at_builtin; refine wpList_append_run rfl (.tmp 21) (.tmp 22) 22 _ rfl e5 ?_) | (at_builtin; refine wpList_append_run rfl (.tmp 24) (.tmp 25) 22 _ rfl e6 ?_))
  go_ret
  exact ⟨_, _, _, rfl, HF.out⟩
end Go.Proofs.YthnpckmgnompiaaGreatDoor
