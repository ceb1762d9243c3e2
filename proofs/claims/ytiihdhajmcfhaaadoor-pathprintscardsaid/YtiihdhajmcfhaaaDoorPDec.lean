/-
  Numbers written: strconv.Itoa off the shelf; bracketed; the document's decimal.
-/
import Derived.Test.YtiihdhajmcfhaaaDoorPLaw
import Derived.Test.YtiihdhajmcfhaaaDoorShelf
import Derived.WalkSmall
import Derived.Laws.BytesString
namespace Go.Proofs.YtiihdhajmcfhaaaDoor
open Go.RowKit

/-- The table that strconv reads. -/
def Pow (w : World) : Prop := Lib.TabIs Tryd.prog w "internal/strconv.uint64pow10" .u64 Lib.pow10Tab
theorem gPow : Tryd.prog.globalNamed "internal/strconv.uint64pow10" = some 1 := by kernel_rfl
theorem Pow.below {w w' : World} (h : Pow w) (hb : Below w.heap.size w w') : Pow w' :=
  var?_below hb gPow (by have := Lib.TabIs.cell h gPow 0 (by decide); exact cell_lt this) h
theorem below_grow (w : World) (k : Nat) (os : Array Obj) : Below w.heap.size w (Go.Sort.grow (w.drewN k) os) :=
  ⟨rfl, rfl, rfl, by simp [Go.Sort.grow], fun j hj => Go.Sort.heap_grow_old (w.drewN k) os hj⟩
def dec (n : Nat) : ByteArray := ⟨(Lib.decDigits n).toArray⟩
def brk (n : Nat) : ByteArray := if n = 1 then ⟨#[]⟩ else ((⟨#[91]⟩ : ByteArray) ++ dec n) ++ ⟨#[93]⟩
theorem itoa_ok (n : Nat) (w : World) (hn : n ≤ 128) (hP : Pow w) : Calls Tryd.prog 10 #[.int .i64 (n : Int)] w fun e w' => e = .returned (.string (dec n)) ∧ Below w.heap.size w w' := by
  refine (Tryd.strconv_Itoa (n : Int) (by omega) (by omega) _ hP).mono ?_
  rintro e w1 ⟨he, k, os, rfl⟩
  exact ⟨by rw [he, Lib.itoa_nonneg]; rfl, below_grow w k os⟩
theorem dec_size {n : Nat} (hn : n ≤ 128) : (dec n).size ≤ 3 := by
  show (Lib.decDigits n).length ≤ 3
  rw [Lib.decDigits]
  by_cases h : n < 10
  · rw [dif_pos h]; simp
  · rw [dif_neg h, Lib.decDigits]
    by_cases h2 : n / 10 < 10
    · rw [dif_pos h2]; simp
    · rw [dif_neg h2, Lib.decDigits, dif_pos (by omega)]; simp
theorem brk_size {n : Nat} (hn : n ≤ 128) : (brk n).size ≤ 5 := by
  unfold brk
  split
  · exact Nat.zero_le _
  · have := dec_size hn
    simp only [ByteArray.size_append]
    show 1 + (dec n).size + 1 ≤ 5
    omega
set_option maxHeartbeats 1000000 in
theorem bracketed_ok (n : Nat) (w : World) (hn : n ≤ 128) (hP : Pow w) : Calls Tryd.prog 9 #[.int .i64 (n : Int)] w fun e w' => e = .returned (.string (brk n)) ∧ Below w.heap.size w w' := by
  by_cases h1 : n = 1
  · subst h1
    go_enter Tryd.func9, Tryd.ntmps9
    go_wp2_with fail
    go_ret
    exact ⟨rfl, Below.refl _ _⟩
  · have hb : ((n : Int) == 1) = false := by simp; omega
    have HB : Hid (brk n = ((⟨#[91]⟩ : ByteArray) ++ dec n) ++ ⟨#[93]⟩) := by unfold Hid brk; rw [if_neg h1]
    have HI : Hid (∀ w, Pow w → Calls Tryd.prog 10 #[.int .i64 (n : Int)] w fun e w' => e = .returned (.string (dec n)) ∧ Below w.heap.size w w') := fun w hp => itoa_ok n w hn hp
    have HP : Hid (Pow w) := hP
    have hds := dec_size hn
    obtain ⟨D, hD⟩ : ∃ D, dec n = D := ⟨_, rfl⟩
    rw [hD] at HB HI hds
    clear hD hP h1
    go_enter Tryd.func9, Tryd.ntmps9
    go_wp2_with fail
    refine (HI.out _ HP.out).mono ?_
    rintro e w1 ⟨rfl, hb1⟩
    have HB1 : Hid (Below w.heap.size w w1) := hb1
    clear hb1
    go_wp2_with fail
    go_ret
    exact ⟨by rw [HB.out]; rfl, HB1.out⟩
theorem conv1 (w : World) (n : Nat) (hn : w.heap.size = n) (v : Nat) : (convert 46 9 (.slice (some ⟨n, 0, none⟩) 1 1)).run Tryd.prog (w.alloc (.cells #[.int .u8 (v : Int)] 5)) = .ok (.string ⟨#[UInt8.ofNat v]⟩) (w.alloc (.cells #[.int .u8 (v : Int)] 5)) := by
  subst hn
  rw [run_convert_bytes_string _ _ _ _ _ _ _ Tryd.underlying46 Tryd.underlying5 Tryd.underlying9]
  have hl := run_loadCells_list (P := Tryd.prog) (w := w.alloc (.cells #[.int .u8 (v : Int)] 5)) ⟨w.heap.size, 0, none⟩ ([(v : Int)].map (Value.int .u8)) (fun j u hu => by
    rw [Addr.add_lit, Nat.zero_add, World.cell?_alloc_new]
    rw [← hu]; simp)
  have := run_bytesToString (P := Tryd.prog) (w.alloc (.cells #[.int .u8 (v : Int)] 5)) ⟨w.heap.size, 0, none⟩ 1 1 [(v : Int)] hl
  rw [this]
  simp [ByteArray.empty, ByteArray.push, ByteArray.emptyWithCapacity]
  rfl
theorem conv1' (w : World) (n : Nat) (hn : w.heap.size = n) (r : Nat) : (convert 46 9 (.slice (some ⟨n, 0, none⟩) 1 1)).run Tryd.prog (w.alloc (.cells #[.int .u8 (48 + (r : Int))] 5)) = .ok (.string ⟨#[UInt8.ofNat (48 + r)]⟩) (w.alloc (.cells #[.int .u8 (48 + (r : Int))] 5)) := by
  have e : (48 + (r : Int)) = ((48 + r : Nat) : Int) := by omega
  rw [e]; exact conv1 w n hn (48 + r)
/-- The digits that are still to be written, and those that are. -/
def Dg (N m : Nat) (t : ByteArray) : Prop := (0 < m ∧ Lib.decDigits N = Lib.decDigits m ++ t.data.toList) ∨ (m = 0 ∧ t = dec N)
theorem Dg.step {N m : Nat} {t : ByteArray} (h : Dg N m t) (hm : 0 < m) : Dg N (m / 10) ((⟨#[UInt8.ofNat (48 + m % 10)]⟩ : ByteArray) ++ t) := by
  rcases h with ⟨_, h⟩ | ⟨h, _⟩
  · by_cases g : m < 10
    · right
      refine ⟨by omega, ?_⟩
      have e : Lib.decDigits m = [UInt8.ofNat (48 + m)] := by rw [Lib.decDigits, dif_pos g]
      rw [e] at h
      unfold dec; rw [h, show m % 10 = m by omega]
      apply ByteArray.ext
      simp
    · left
      refine ⟨by omega, ?_⟩
      rw [h]
      conv => lhs; rw [Lib.decDigits, dif_neg g]
      simp
  · omega
set_option maxRecDepth 100000 in
set_option maxHeartbeats 1000000 in
theorem decimal_ok (N : Nat) (w : World) (h1 : 1 ≤ N) (hN : N ≤ 128) : Calls Tryd.prog 13 #[.int .i64 (N : Int)] w fun e w' => e = .returned (.string (dec N)) ∧ Below w.heap.size w w' := by
  have H0 : Hid (Dg N N ⟨#[]⟩) := Or.inl ⟨by omega, by simp⟩
  have hNi : (N : Int) ≤ 128 := by omega
  clear h1 hN
  go_enter Tryd.func13, Tryd.ntmps13
  go_wp2_with fail
  go_loopw [0, 3] (fun t0 t3 wx => ∃ (m : Nat) (t : ByteArray), (m : Int) ≤ 128 ∧ t0 = .int .i64 (m : Int) ∧ t3 = .string t ∧ Hid (Dg N m t ∧ t.size + m ≤ 300 ∧ Below w.heap.size w wx)) (fun t0 _ _ => (intOf t0).toNat)
  case atStart => exact ⟨N, ⟨#[]⟩, hNi, rfl, rfl, H0.out, by show 0 + N ≤ 300; omega, Below.refl _ _⟩
  case round =>
    obtain ⟨m, t, hm, rfl, rfl, HK⟩ := hrel
    by_cases g : 0 < m
    · have gi : (0 : Int) < m := by omega
      have e1 : (m : Int).tmod 10 = ((m % 10 : Nat) : Int) := by rw [Int.tmod_eq_emod_of_nonneg (by omega)]; omega
      have e2 : (m : Int).tdiv 10 = ((m / 10 : Nat) : Int) := by rw [Int.tdiv_eq_ediv_of_nonneg (by omega)]; omega
      obtain ⟨r, hr⟩ : ∃ r, m % 10 = r := ⟨_, rfl⟩
      obtain ⟨d, hd⟩ : ∃ d, m / 10 = d := ⟨_, rfl⟩
      have HM : Hid (m % 10 = r ∧ m / 10 = d ∧ 0 < m) := ⟨hr, hd, g⟩
      rw [hr] at e1
      rw [hd] at e2
      have hr9 : r < 10 := by omega
      have hcv := fun (w : World) (n : Nat) (hn : w.heap.size = n) => conv1' w n hn r
      have hr9i : (r : Int) < 10 := by omega
      clear hr hd
      have hts : t.size ≤ 300 := by have := HK.out.2.1; omega
      have hdd : (d : Int) ≤ 128 := by have := HM.out; omega
      go_wp2_with fail
      go_roundw
      case rel =>
        have hm1 := HM.out
        refine ⟨d, _, hdd, rfl, rfl, ?_, ?_, HK.out.2.2.trans ((Below.refl _ _).alloc HK.out.2.2.size _)⟩
        · have := HK.out.1.step hm1.2.2
          rw [hm1.1, hm1.2.1, show UInt8.ofNat (48 + r) = 48 + UInt8.ofNat r by simp] at this
          exact this
        · have h2 := HK.out.2.1
          simp only [ByteArray.size_append]
          show 1 + t.size + d ≤ 300
          omega
      case measure => simp [intOf]; have := HM.out; omega
    · have gi : ¬ (0 : Int) < m := by omega
      have HM : Hid (t = dec N) := by
        rcases HK.out.1 with ⟨h, _⟩ | ⟨_, h⟩
        · omega
        · exact h
      go_wp2_with fail
      go_ret
      exact ⟨by rw [← HM.out]; rfl, HK.out.2.2⟩
end Go.Proofs.YtiihdhajmcfhaaaDoor
