/-
  The reader takes a number.
-/
import Derived.Test.YtdjjologpodnkaaGreatDoorLdTake
namespace Go.Proofs.YtdjjologpodnkaaGreatDoor
open Go.RowKit

theorem u64_wrap {x : Nat} (h : x < 18446744073709551616) : IntKind.u64.wrap (x : Int) = x := by
  have : IntKind.u64.wrap (x : Int) = (x : Int) % 18446744073709551616 := by
    simp [IntKind.wrap, IntKind.bits, IntKind.signed]
  rw [this]
  omega
theorem u64_or {x z : Nat} (hx : x < 72057594037927936) (hz : z < 256) : bits BinOp.or IntKind.u64 (IntKind.u64.wrap ((x : Int) * 256)) (IntKind.u64.wrap (z : Int)) = ((x * 256 + z : Nat) : Int) := by
  have e1 : IntKind.u64.wrap ((x : Int) * 256) = ((x * 256 : Nat) : Int) := by
    rw [show (x : Int) * 256 = ((x * 256 : Nat) : Int) by omega]
    exact u64_wrap (by omega)
  rw [e1, u64_wrap (x := z) (by omega)]
  show IntKind.u64.wrap ((BitVec.ofInt 64 ((x * 256 : Nat) : Int) ||| BitVec.ofInt 64 (z : Int)).toNat : Nat) = _
  have k1 : (BitVec.ofInt 64 ((x * 256 : Nat) : Int)).toNat = x * 256 := by rw [BitVec.toNat_ofInt]; omega
  have k2 : (BitVec.ofInt 64 (z : Int)).toNat = z := by rw [BitVec.toNat_ofInt]; omega
  have k3 : x * 256 ||| z = x * 256 + z := by
    have := Nat.shiftLeft_add_eq_or_of_lt (i := 8) (b := z) hz x
    rw [Nat.shiftLeft_eq] at this
    exact this.symm
  rw [BitVec.toNat_or, k1, k2, k3, u64_wrap (by omega)]
theorem u64_orI {x z : Int} (h0 : 0 ≤ x) (hx : x < 72057594037927936) (z0 : 0 ≤ z) (hz : z < 256) : bits BinOp.or IntKind.u64 (IntKind.u64.wrap (x * 256)) (IntKind.u64.wrap z) = x * 256 + z := by
  obtain ⟨a, rfl⟩ : ∃ a : Nat, x = a := ⟨x.toNat, by omega⟩
  obtain ⟨b, rfl⟩ : ∃ b : Nat, z = b := ⟨z.toNat, by omega⟩
  rw [u64_or (by omega) (by omega)]
  omega
theorem valB_take {l : List Int} {j : Nat} (hj : j < l.length) : valB (l.take (j + 1)) = valB (l.take j) * 256 + l.getD j 0 := by
  rw [List.take_succ_eq_append_getElem hj, valB_snoc, List.getD_eq_getElem?_getD, List.getElem?_eq_getElem hj]
  rfl
theorem getD_rng {l : List Int} (h : Rng l) {j : Nat} (hj : j < l.length) : 0 ≤ l.getD j 0 ∧ l.getD j 0 < 256 := by
  rw [List.getD_eq_getElem?_getD, List.getElem?_eq_getElem hj]
  exact h _ (List.getElem_mem hj)
theorem valB_takeB {l : List Int} (h : Rng l) {j : Nat} (hj : j ≤ l.length) : 0 ≤ valB (l.take j) ∧ valB (l.take j) < 256 ^ j :=
  valB_bound j (l.take j) (by rw [List.length_take]; omega) (fun x hx => h x (List.mem_of_mem_take hx))
theorem pow_small {j : Nat} (h : j ≤ 7) : (256 : Int) ^ j ≤ 72057594037927936 := by
  rcases (by omega : j = 0 ∨ j = 1 ∨ j = 2 ∨ j = 3 ∨ j = 4 ∨ j = 5 ∨ j = 6 ∨ j = 7) with rfl | rfl | rfl | rfl | rfl | rfl | rfl | rfl <;> decide
/-- The reader's world behind a piece of so many. -/
def RdW (w : World) (fb p m : Nat) (w' : World) : Prop := ∃ k, w' = (w.drewN k).setCell ⟨fb, 1, none⟩ (.int .i64 ((p : Int) + m))
def TnQ (bs : List Int) (w : World) (fb p sz : Nat) (lo hi : Int) (r : Ending) (w' : World) : Prop :=
  ((lo ≤ valB (piece bs p sz) ∧ valB (piece bs p sz) ≤ hi ∧ r = .returned (.int .i64 (valB (piece bs p sz)))) ∨ (¬ (lo ≤ valB (piece bs p sz) ∧ valB (piece bs p sz) ≤ hi) ∧ r = gaveUp p)) ∧ RdW w fb p sz w'
section
variable {w : World} {fb : Nat} {po : Option Addr} {n c p sz : Nat} {bs : List Int}
theorem rdW_byts {a : Option Addr} {m : Nat} {l : List Int} (hb : Byts w a m l) (hne : ∀ x, a = some x → x.block ≠ fb) {w' : World} (hw : RdW w fb p sz w') : Byts w' a m l := by
  obtain ⟨k, rfl⟩ := hw
  exact hb.off (P := fun q => q = fb) (Off.setCell (P := fun q => q = fb) (p := ⟨fb, 1, none⟩) ((Off.refl _ w).drewN k) rfl _) fun b o e _ g => hne _ e g
theorem winA_block {a : Option Addr} {g : Nat} (h : ∀ x, a = some x → x.block ≠ g) (c p : Nat) : ∀ x, winA a c p = some x → x.block ≠ g := fun x e => by
  unfold winA at e
  cases a with
  | none => cases e
  | some y =>
    simp only at e
    split at e
    · exact h x e
    · obtain rfl := Option.some.inj e
      have := h y rfl
      unfold Addr.add
      split <;> exact this
set_option maxRecDepth 100000 in
set_option maxHeartbeats 1000000 in
theorem tn_no (h : Box w fb #[.slice po n c, .int .i64 p]) (hm : n < p + sz) (hp : p ≤ n) (hn : n ≤ 9223372036854775807) (lo hi : Int) : Calls Tryz.prog 117 #[.pointer (some ⟨fb, 0, none⟩), .int .i64 sz, .int .i64 lo, .int .i64 hi] w fun r w' => r = gaveUp n ∧ ∃ k, w' = w.drewN k := by
  have cx := h.cell
  have ht := take_no h hm hp hn
  clear h hm hp hn
  go_enter Tryz.func117, Tryz.ntmps117
  go_wp2_with fail
  refine ht.mono ?_
  rintro _ w1 ⟨rfl, k, rfl⟩
  exact ⟨rfl, rfl, k, rfl⟩
set_option maxRecDepth 100000 in
set_option maxHeartbeats 1000000 in
theorem tn_any (h : Box w fb #[.slice po n c, .int .i64 p]) (hb : Byts w po n bs) (hne : ∀ x, po = some x → x.block ≠ fb) (hr : Rng bs) (hm : p + sz ≤ n) (hs : sz ≤ 8) (hnc : n ≤ c) (hpo : po = none → c = 0) (hn : n ≤ 9223372036854775807) (lo hi : Int) (hlo : 0 ≤ lo) (hhi : 0 ≤ hi) (hlo2 : lo ≤ 9223372036854775807) (hhi2 : hi ≤ 9223372036854775807) : Calls Tryz.prog 117 #[.pointer (some ⟨fb, 0, none⟩), .int .i64 sz, .int .i64 lo, .int .i64 hi] w (TnQ bs w fb p sz lo hi) := by
  have cx := h.cell
  have ht := take_ok h hm hnc hpo hn
  have HB : Hid (Byts w (winA po c p) sz (piece bs p sz)) := win_byts hb hm hnc
  have HX : Hid (Box w fb #[.slice po n c, .int .i64 p] ∧ (∀ x, winA po c p = some x → x.block ≠ fb)) := ⟨h, winA_block hne c p⟩
  have HR : Hid (Rng (piece bs p sz) ∧ (piece bs p sz).length = sz ∧ sz ≤ 8) := ⟨hr.piece p sz, piece_len (by rw [hb.len]; exact hm), hs⟩
  have wl : IntKind.u64.wrap lo = lo := by rw [IntKind.wrap_u64]; omega
  have wh : IntKind.u64.wrap hi = hi := by rw [IntKind.wrap_u64]; omega
  have HP : Hid (0 ≤ lo ∧ lo ≤ 9223372036854775807 ∧ 0 ≤ hi ∧ hi ≤ 9223372036854775807) := ⟨hlo, hlo2, hhi, hhi2⟩
  clear h hb hne hr hm hs hnc hpo hn hlo hhi hlo2 hhi2
  unfold TnQ
  obtain ⟨L, hL⟩ : ∃ L, piece bs p sz = L := ⟨_, rfl⟩
  rw [hL] at HB HR ⊢
  clear hL
  go_enter Tryz.func117, Tryz.ntmps117
  go_wp2_with fail
  refine ht.mono ?_
  rintro _ w1 ⟨rfl, hk⟩
  have HW : Hid (RdW w fb p sz w1) := hk
  have HB1 : Hid (Byts w1 (winA po c p) sz L) := rdW_byts HB.out HX.out.2 hk
  generalize winA po c p = a1 at HB1 ⊢
  clear cx ht hk HX HB
  go_wp2_with fail
  go_loopw [10, 21] (fun t10 t21 wx => ∃ (j : Nat) (v : Int), j ≤ sz ∧ t21 = .int .i64 j ∧ t10 = .int .u64 v ∧ wx = w1 ∧ Hid (v = valB (L.take j))) (fun _ t21 _ => sz - (intOf t21).toNat)
  case atStart => exact ⟨0, 0, Nat.zero_le _, rfl, rfl, rfl, rfl⟩
  case round =>
    obtain ⟨j, v, hj, rfl, rfl, rfl, HV⟩ := hrel
    by_cases hlt : j < sz
    · have hlt1 : (j : Int) < sz := by omega
      have hs8 := HR.out.2.2
      obtain ⟨b, o, rfl, hl, hc⟩ := HB1.out.cell j hlt
      have hxr := getD_rng HR.out.1 (show j < L.length by rw [HR.out.2.1]; exact hlt)
      have hvr := valB_takeB HR.out.1 (show j ≤ L.length by rw [HR.out.2.1]; exact hj)
      have hps := pow_small (show j ≤ 7 by have := HR.out.2.2; omega)
      have hor : bits BinOp.or IntKind.u64 (IntKind.u64.wrap (v * 256)) (IntKind.u64.wrap (L.getD j 0)) = v * 256 + L.getD j 0 := u64_orI (by rw [HV.out]; exact hvr.1) (by rw [HV.out]; omega) hxr.1 hxr.2
      have HV2 : Hid (v * 256 + L.getD j 0 = valB (L.take (j + 1))) := by
        unfold Hid
        rw [valB_take (by rw [HR.out.2.1]; exact hlt), HV.out]
      generalize L.getD j 0 = x at hc hor HV2
      clear hxr hvr hps hl HV
      go_wp2_with fail
      go_roundw
      case rel => exact ⟨j + 1, v * 256 + x, hlt, by go_num, by first | rw [hor] | rfl, by trivial, HV2⟩
      case measure => simp [intOf]; omega
    · have hlt1 : ¬ (j : Int) < sz := by omega
      obtain rfl : j = sz := by omega
      have HV2 : Hid (v = valB L) := by
        unfold Hid
        rw [HV.out, List.take_of_length_le (by rw [HR.out.2.1]; omega)]
      by_cases g1 : v < lo
      · have HE : Hid (¬ (lo ≤ valB L ∧ valB L ≤ hi)) := fun g => by rw [← HV2.out] at g; omega
        clear HV
        go_wp2_with fail
        refine (giveUp_any _ _).mono ?_
        rintro _ w9 ⟨rfl, h9⟩
        subst w9
        exact ⟨rfl, Or.inr ⟨HE.out, rfl⟩, HW.out⟩
      · by_cases g2 : v > hi
        · have HE : Hid (¬ (lo ≤ valB L ∧ valB L ≤ hi)) := fun g => by rw [← HV2.out] at g; omega
          clear HV
          go_wp2_with fail
          refine (giveUp_any _ _).mono ?_
          rintro _ w9 ⟨rfl, h9⟩
          subst w9
          exact ⟨rfl, Or.inr ⟨HE.out, rfl⟩, HW.out⟩
        · have HE : Hid (lo ≤ valB L ∧ valB L ≤ hi) := ⟨by rw [← HV2.out]; omega, by rw [← HV2.out]; omega⟩
          have wv : IntKind.i64.wrap v = v := by have := HP.out; rw [IntKind.wrap_i64]; omega
          clear HV
          go_wp2_with fail
          go_ret
          exact ⟨Or.inl ⟨HE.out.1, HE.out.2, ret_int HV2.out⟩, HW.out⟩
end
end Go.Proofs.YtdjjologpodnkaaGreatDoor
