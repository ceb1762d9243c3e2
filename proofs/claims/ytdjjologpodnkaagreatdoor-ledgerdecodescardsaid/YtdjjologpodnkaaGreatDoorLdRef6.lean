import Derived.Test.YtdjjologpodnkaaGreatDoorLdRef
import Derived.Test.YtdjjologpodnkaaGreatDoorLgTwin
import Derived.Test.YtdjjologpodnkaaGreatDoorLgRZero
/-
  The document's reader in memory; take, fault; Copied.
-/
namespace Go.Proofs.YtdjjologpodnkaaGreatDoor
open Go.RowKit

set_option maxRecDepth 100000 in
set_option maxHeartbeats 400000 in
theorem rtake_old {w : World} {db : Nat} {po : Option Addr} {n c p : Nat} {e : Int} (he : 0 ≤ e) (h : Box w db #[.slice po n c, .int .i64 p, .int .i64 e]) (m : Int) : Calls Tryz.prog 27 #[.pointer (some ⟨db, 0, none⟩), .int .i64 m] w fun r w' => r = .returned (.slice none 0 0) ∧ ∃ k, w' = w.drewN k := by
  have cx := h.cell
  have q1 : decide (e < 0) = false := decide_eq_false (by omega)
  have q2 : decide (e ≥ 0) = true := decide_eq_true (by omega)
  clear h he
  go_enter Tryz.func27, Tryz.ntmps27
  go_wp2_with fail
  go_quiet (fail)
  go_wp2_with fail
  go_ret
  exact ⟨rfl, _, rfl⟩
def badI : Option Nat → Int
  | none => -1
  | some e => (e : Int)
/-- The document's reader: block db, the bytes bs, the place p, the first fault's place x. -/
structure RRd (w : World) (db : Nat) (po : Option Addr) (c : Nat) (bs : List Int) (p : Nat) (x : Option Nat) : Prop where
  box : Box w db #[.slice po bs.length c, .int .i64 p, .int .i64 (badI x)]
  byts : Byts w po bs.length bs
  hp : p ≤ bs.length
  nc : bs.length ≤ c
  nil : po = none → c = 0
  ne : ∀ y, po = some y → y.block ≠ db
  hn : bs.length ≤ 9223372036854775807
  rng : Rng bs
  pl : ∀ y, po = some y → y.block < w.heap.size
section
variable {w w' : World} {db : Nat} {po : Option Addr} {c : Nat} {bs : List Int} {p : Nat} {x : Option Nat}
theorem RRd.below (h : RRd w db po c bs p x) (hb : Below w.heap.size w w') : RRd w' db po c bs p x :=
  ⟨h.box.below hb, h.byts.below hb, h.hp, h.nc, h.nil, h.ne, h.hn, h.rng, fun y hy => Nat.lt_of_lt_of_le (h.pl y hy) hb.size⟩
theorem RRd.off {P : Nat → Prop} (h : RRd w db po c bs p x) (ho : Off P w w') (h1 : ¬ P db) (h2 : ∀ y, po = some y → ¬ P y.block) : RRd w' db po c bs p x :=
  ⟨h.box.off ho h1, h.byts.off ho (fun _ _ e _ => h2 _ e), h.hp, h.nc, h.nil, h.ne, h.hn, h.rng, fun y hy => Nat.lt_of_lt_of_le (h.pl y hy) ho.size⟩
theorem RRd.drew (h : RRd w db po c bs p x) (k : Nat) : RRd (w.drewN k) db po c bs p x := h.below (below_drewN (Below.refl w.heap.size w) k)
theorem RRd.setAt (h : RRd w db po c bs p x) {m : Nat} (hm : p + m ≤ bs.length) : RRd (w.setCell ⟨db, 1, none⟩ (.int .i64 ((p : Int) + m))) db po c bs (p + m) x ∧ Off (fun q => q = db) w (w.setCell ⟨db, 1, none⟩ (.int .i64 ((p : Int) + m))) := by
  have o1 : Off (fun q => q = db) w (w.setCell ⟨db, 1, none⟩ (.int .i64 ((p : Int) + m))) := Off.setCell (P := fun q => q = db) (p := ⟨db, 1, none⟩) (Off.refl _ w) rfl _
  refine ⟨⟨?_, h.byts.off o1 (fun _ _ e _ => h.ne _ e), hm, h.nc, h.nil, h.ne, h.hn, h.rng, fun y hy => Nat.lt_of_lt_of_le (h.pl y hy) o1.size⟩, o1⟩
  rw [Int.natCast_add]
  exact h.box.pPut (j := 1) (by simp) (.int .i64 ((p : Int) + m))
theorem RRd.setBad (h : RRd w db po c bs p none) (e : Nat) : RRd (w.setCell ⟨db, 2, none⟩ (.int .i64 (e : Int))) db po c bs p (some e) ∧ Off (fun q => q = db) w (w.setCell ⟨db, 2, none⟩ (.int .i64 (e : Int))) := by
  have o1 : Off (fun q => q = db) w (w.setCell ⟨db, 2, none⟩ (.int .i64 (e : Int))) := Off.setCell (P := fun q => q = db) (p := ⟨db, 2, none⟩) (Off.refl _ w) rfl _
  exact ⟨⟨h.box.pPut (j := 2) (by simp) (.int .i64 (e : Int)), h.byts.off o1 (fun _ _ e _ => h.ne _ e), h.hp, h.nc, h.nil, h.ne, h.hn, h.rng, fun y hy => Nat.lt_of_lt_of_le (h.pl y hy) o1.size⟩, o1⟩
/-- The first fault stays. -/
def orX (x : Option Nat) (a : Nat) : Option Nat := match x with
  | none => some a
  | some e => some e
theorem rfault_any (h : RRd w db po c bs p x) (a : Nat) : Calls Tryz.prog 29 #[.pointer (some ⟨db, 0, none⟩), .int .i64 (a : Int)] w fun r z => r = .returned (.tuple #[]) ∧ Hid (RRd z db po c bs p (orX x a) ∧ Off (fun q => q = db) w z) := by
  cases x with
  | none => exact (rfault_new h.box (a : Int)).mono fun _ _ ⟨h1, h2⟩ => ⟨h1, by rw [h2]; exact h.setBad a⟩
  | some e => exact (rfault_old h.box (a : Int)).mono fun _ _ ⟨h1, h2⟩ => ⟨h1, by rw [h2]; exact ⟨h, Off.refl _ _⟩⟩
theorem rtake_n (h : RRd w db po c bs p none) {m : Nat} (hm : p + m ≤ bs.length) : Calls Tryz.prog 27 #[.pointer (some ⟨db, 0, none⟩), .int .i64 (m : Int)] w fun r z => r = .returned (.slice (winA po c p) m (c - p)) ∧ Hid (RRd z db po c bs (p + m) none ∧ Off (fun q => q = db) w z ∧ Byts z (winA po c p) m (piece bs p m)) := by
  refine (rtake_ok h.box hm h.nc h.nil h.hn).mono fun r z ⟨hr, k, hz⟩ => ⟨hr, ?_⟩
  obtain ⟨g1, g2⟩ := (h.drew k).setAt hm
  rw [← hz] at g1 g2
  exact ⟨g1, ((Off.refl _ w).drewN k).join g2 fun _ _ g => g, win_byts g1.byts (by omega) h.nc⟩
theorem rtake_s (h : RRd w db po c bs p none) {m : Nat} (hm : bs.length < p + m) : Calls Tryz.prog 27 #[.pointer (some ⟨db, 0, none⟩), .int .i64 (m : Int)] w fun r z => r = .returned (.slice none 0 0) ∧ Hid (RRd z db po c bs p (some bs.length) ∧ Off (fun q => q = db) w z) := by
  refine (rtake_no h.box hm h.hp h.hn).mono fun r z ⟨hr, k, hz⟩ => ⟨hr, ?_⟩
  obtain ⟨g1, g2⟩ := (h.drew k).setBad bs.length
  rw [← hz] at g1 g2
  exact ⟨g1, ((Off.refl _ w).drewN k).join g2 fun _ _ g => g⟩
theorem rtake_o {e : Nat} (h : RRd w db po c bs p (some e)) (m : Int) : Calls Tryz.prog 27 #[.pointer (some ⟨db, 0, none⟩), .int .i64 m] w fun r z => r = .returned (.slice none 0 0) ∧ Hid (RRd z db po c bs p (some e) ∧ Off (fun q => q = db) w z) := by
  refine (rtake_old (e := (e : Int)) (by omega) h.box m).mono fun r z ⟨hr, k, hz⟩ => ⟨hr, ?_⟩
  rw [hz]
  exact ⟨h.drew k, (Off.refl _ w).drewN k⟩
end
end Go.Proofs.YtdjjologpodnkaaGreatDoor

/-
  The document's reader: a number.
-/
namespace Go.Proofs.YtdjjologpodnkaaGreatDoor
open Go.RowKit

section
variable {w : World} {db : Nat} {po : Option Addr} {c : Nat} {bs : List Int} {p : Nat}
/-- What reading a number comes to. -/
def RnQ (w : World) (db : Nat) (po : Option Addr) (c : Nat) (bs : List Int) (p : Nat) (lo hi : Int) (r : Ending) (w' : World) : Prop :=
  ∃ (v : Int) (p' : Nat) (y : Option Nat), r = .returned (.int .i64 v) ∧ Hid (RRd w' db po c bs p' y ∧ Off (fun q => q = db) w w' ∧ ((rNum bs p 8 lo hi = .ok v ∧ p' = p + 8 ∧ y = none) ∨ (∃ e, rNum bs p 8 lo hi = .error e ∧ y = some e)))
set_option maxRecDepth 100000 in
set_option maxHeartbeats 1000000 in
theorem rnumber_short (h : RRd w db po c bs p none) (hm : bs.length < p + 8) (lo hi : Int) : Calls Tryz.prog 43 #[.pointer (some ⟨db, 0, none⟩), .int .i64 lo, .int .i64 hi] w (RnQ w db po c bs p lo hi) := by
  have cx := h.box.cell
  have ht := rtake_s h hm
  have HN : Hid (rNum bs p 8 lo hi = .error bs.length) := by unfold Hid rNum; rw [if_neg (by omega)]
  clear h hm
  go_enter Tryz.func43, Tryz.ntmps43
  go_wp2_with fail
  refine ht.mono ?_
  rintro _ w1 ⟨rfl, H1⟩
  clear ht cx
  go_wp2_with fail
  refine wp_loop_rounds 1 ?_
  rw [rounds_succ]
  go_wp2_with fail
  go_ret
  exact ⟨0, p, some bs.length, rfl, H1.out.1, H1.out.2, Or.inr ⟨_, HN.out, rfl⟩⟩
set_option maxRecDepth 100000 in
set_option maxHeartbeats 2000000 in
theorem rnumber_whole (h : RRd w db po c bs p none) (hm : p + 8 ≤ bs.length) (lo hi : Int) (hlo : 0 ≤ lo) (hhi : 0 ≤ hi) (hlo2 : lo ≤ 9223372036854775807) (hhi2 : hi ≤ 9223372036854775807) : Calls Tryz.prog 43 #[.pointer (some ⟨db, 0, none⟩), .int .i64 lo, .int .i64 hi] w (RnQ w db po c bs p lo hi) := by
  have cx := h.box.cell
  have ht := rtake_n (m := 8) h hm
  have HR : Hid (Rng (piece bs p 8) ∧ (piece bs p 8).length = 8) := ⟨h.rng.piece p 8, piece_len hm⟩
  have HN : Hid ((lo ≤ valB (piece bs p 8) ∧ valB (piece bs p 8) ≤ hi → rNum bs p 8 lo hi = .ok (valB (piece bs p 8))) ∧ (¬ (lo ≤ valB (piece bs p 8) ∧ valB (piece bs p 8) ≤ hi) → rNum bs p 8 lo hi = .error p)) := by
    unfold Hid rNum
    rw [if_pos hm]
    exact ⟨fun g => if_pos g, fun g => if_neg g⟩
  have wl : IntKind.u64.wrap lo = lo := by rw [IntKind.wrap_u64]; omega
  have wh : IntKind.u64.wrap hi = hi := by rw [IntKind.wrap_u64]; omega
  have HP : Hid (0 ≤ lo ∧ lo ≤ 9223372036854775807 ∧ 0 ≤ hi ∧ hi ≤ 9223372036854775807) := ⟨hlo, hlo2, hhi, hhi2⟩
  clear h hm hlo hhi hlo2 hhi2
  obtain ⟨L, hL⟩ : ∃ L, piece bs p 8 = L := ⟨_, rfl⟩
  rw [hL] at ht HR HN
  have HL : Hid (piece bs p 8 = L) := hL
  clear hL
  go_enter Tryz.func43, Tryz.ntmps43
  go_wp2_with fail
  refine ht.mono ?_
  rintro _ w1 ⟨rfl, H1⟩
  generalize winA po c p = a1 at H1 ⊢
  clear cx ht
  go_wp2_with fail
  go_loopw [9, 10] (fun t9 t10 wx => ∃ (j : Nat) (v : Int), j ≤ 8 ∧ t10 = .int .i64 j ∧ t9 = .int .u64 v ∧ wx = w1 ∧ Hid (v = valB (L.take j))) (fun _ t10 _ => 8 - (intOf t10).toNat)
  case atStart => exact ⟨0, 0, Nat.zero_le _, rfl, rfl, rfl, rfl⟩
  case round =>
    obtain ⟨j, v, hj, rfl, rfl, rfl, HV⟩ := hrel
    by_cases hlt : j < 8
    · have hlt1 : (j : Int) < 8 := by omega
      obtain ⟨b, o, rfl, hl, hc⟩ := H1.out.2.2.cell j hlt
      have hxr := getD_rng HR.out.1 (show j < L.length by rw [HR.out.2]; exact hlt)
      have hvr := valB_takeB HR.out.1 (show j ≤ L.length by rw [HR.out.2]; exact hj)
      have hps := pow_small (show j ≤ 7 by omega)
      have hor : bits BinOp.or IntKind.u64 (IntKind.u64.wrap (v * 256)) (IntKind.u64.wrap (L.getD j 0)) = v * 256 + L.getD j 0 := u64_orI (by rw [HV.out]; exact hvr.1) (by rw [HV.out]; omega) hxr.1 hxr.2
      have HV2 : Hid (v * 256 + L.getD j 0 = valB (L.take (j + 1))) := by
        unfold Hid
        rw [valB_take (by rw [HR.out.2]; exact hlt), HV.out]
      generalize L.getD j 0 = x at hc hor HV2
      clear hxr hvr hps hl HV
      go_wp2_with fail
      go_roundw
      case rel => exact ⟨j + 1, v * 256 + x, hlt, by go_num, by first | rw [hor] | rfl, by trivial, HV2⟩
      case measure => simp [intOf]; omega
    · have hlt1 : ¬ (j : Int) < 8 := by omega
      obtain rfl : j = 8 := by omega
      have HV2 : Hid (v = valB L) := by
        unfold Hid
        rw [HV.out, List.take_of_length_le (by rw [HR.out.2]; omega)]
      clear HV hj
      by_cases g1 : v < lo
      · have HE : Hid (rNum bs p 8 lo hi = .error p) := HN.out.2 fun g => by rw [← HV2.out] at g; omega
        have hf := rfault_any H1.out.1 p
        go_wp2_with fail
        refine hf.mono ?_
        rintro _ w2 ⟨rfl, H2⟩
        clear hf
        go_wp2_with fail
        go_ret
        exact ⟨0, p + 8, some p, rfl, H2.out.1, H1.out.2.1.join H2.out.2 fun _ _ g => g, Or.inr ⟨_, HE.out, rfl⟩⟩
      · by_cases g2 : v > hi
        · have HE : Hid (rNum bs p 8 lo hi = .error p) := HN.out.2 fun g => by rw [← HV2.out] at g; omega
          have hf := rfault_any H1.out.1 p
          go_wp2_with fail
          refine hf.mono ?_
          rintro _ w2 ⟨rfl, H2⟩
          clear hf
          go_wp2_with fail
          go_ret
          exact ⟨0, p + 8, some p, rfl, H2.out.1, H1.out.2.1.join H2.out.2 fun _ _ g => g, Or.inr ⟨_, HE.out, rfl⟩⟩
        · have HE : Hid (rNum bs p 8 lo hi = .ok v) := by
            unfold Hid
            rw [HV2.out]
            exact HN.out.1 ⟨by rw [← HV2.out]; omega, by rw [← HV2.out]; omega⟩
          have wv : IntKind.i64.wrap v = v := by have := HP.out; rw [IntKind.wrap_i64]; omega
          go_wp2_with fail
          go_ret
          exact ⟨v, p + 8, none, rfl, H1.out.1, H1.out.2.1, Or.inl ⟨HE.out, rfl, rfl⟩⟩
theorem rnumber_any (h : RRd w db po c bs p none) (lo hi : Int) (hlo : 0 ≤ lo) (hhi : 0 ≤ hi) (hlo2 : lo ≤ 9223372036854775807) (hhi2 : hi ≤ 9223372036854775807) : Calls Tryz.prog 43 #[.pointer (some ⟨db, 0, none⟩), .int .i64 lo, .int .i64 hi] w (RnQ w db po c bs p lo hi) := by
  by_cases hm : p + 8 ≤ bs.length
  · exact rnumber_whole h hm lo hi hlo hhi hlo2 hhi2
  · exact rnumber_short h (by omega) lo hi
end
end Go.Proofs.YtdjjologpodnkaaGreatDoor

/-
  The document's copy of a list of bytes.
-/
namespace Go.Proofs.YtdjjologpodnkaaGreatDoor
open Go.RowKit

set_option maxRecDepth 100000 in
set_option maxHeartbeats 1000000 in
theorem rCopied_any {po : Option Addr} {m c : Nat} {bs : List Int} (w : World) (hb : Byts w po m bs) (hm : m ≤ 140737488355328) :
    Calls Tryz.prog 63 #[.slice po m c] w fun e w' => ∃ a k, e = .returned (.slice a m k) ∧ Hid (BRow w' w.heap.size (.slice a m k) bs ∧ Below w.heap.size w w') := by
  obtain ⟨a1, c1, W1, hr, HE⟩ := copy_step (c := c) hb hm
  clear hb
  go_enter Tryz.func63, Tryz.ntmps63
  go_wp2_with (at_builtin; refine wpList_append_run rfl (.tmp 3) (.tmp 4) 22 _ rfl hr ?_)
  go_ret
  exact ⟨a1, c1, rfl, HE.out⟩
end Go.Proofs.YtdjjologpodnkaaGreatDoor

/-
  The document's reader: a text.
-/
namespace Go.Proofs.YtdjjologpodnkaaGreatDoor
open Go.RowKit

theorem i64_wrapN {x : Nat} (h : x < 9223372036854775808) : IntKind.i64.wrap (x : Int) = x := by rw [IntKind.wrap_i64]; omega
theorem i64_orI {x z : Int} (h0 : 0 ≤ x) (hx : x < 16777216) (z0 : 0 ≤ z) (hz : z < 256) : bits BinOp.or IntKind.i64 (IntKind.i64.wrap (x * 256)) (IntKind.i64.wrap z) = x * 256 + z := by
  obtain ⟨a, rfl⟩ : ∃ a : Nat, x = a := ⟨x.toNat, by omega⟩
  obtain ⟨b, rfl⟩ : ∃ b : Nat, z = b := ⟨z.toNat, by omega⟩
  have e1 : IntKind.i64.wrap ((a : Int) * 256) = ((a * 256 : Nat) : Int) := by
    rw [show (a : Int) * 256 = ((a * 256 : Nat) : Int) by omega]
    exact i64_wrapN (by omega)
  rw [e1, i64_wrapN (x := b) (by omega)]
  show IntKind.i64.wrap ((BitVec.ofInt 64 ((a * 256 : Nat) : Int) ||| BitVec.ofInt 64 (b : Int)).toNat : Nat) = _
  have k1 : (BitVec.ofInt 64 ((a * 256 : Nat) : Int)).toNat = a * 256 := by rw [BitVec.toNat_ofInt]; omega
  have k2 : (BitVec.ofInt 64 (b : Int)).toNat = b := by rw [BitVec.toNat_ofInt]; omega
  have k3 : a * 256 ||| b = a * 256 + b := by
    have := Nat.shiftLeft_add_eq_or_of_lt (i := 8) (b := b) (by omega) a
    rw [Nat.shiftLeft_eq] at this
    exact this.symm
  rw [BitVec.toNat_or, k1, k2, k3, i64_wrapN (by omega)]
  omega
theorem pow_small3 {j : Nat} (h : j ≤ 3) : (256 : Int) ^ j ≤ 16777216 := by
  rcases (by omega : j = 0 ∨ j = 1 ∨ j = 2 ∨ j = 3) with rfl | rfl | rfl | rfl <;> decide
section
variable {w : World} {db : Nat} {po : Option Addr} {c : Nat} {bs : List Int} {p : Nat}
/-- What reading a text comes to. -/
def RtxQ (w : World) (db : Nat) (po : Option Addr) (c : Nat) (bs : List Int) (p : Nat) (lo hi : Int) (r : Ending) (w' : World) : Prop :=
  ∃ (a : Option Addr) (m k : Nat) (l : List Int) (q p' : Nat) (y : Option Nat), r = .returned (.tuple #[.slice a m k, .int .i64 (q : Int)]) ∧ Hid (RRd w' db po c bs p' y ∧ BRow w' w.heap.size (.slice a m k) l ∧ l.length = m ∧ m ≤ 1000000 ∧ Off (fun g => g = db) w w' ∧
    ((rTxt bs p lo hi = .ok l ∧ q = p + 4 ∧ p' = p + 4 + m ∧ y = none) ∨ (∃ e, rTxt bs p lo hi = .error e ∧ y = some e ∧ l = [])))
set_option maxRecDepth 100000 in
set_option maxHeartbeats 1000000 in
theorem rtext_short (h : RRd w db po c bs p none) (hm : bs.length < p + 4) (lo hi : Int) : Calls Tryz.prog 41 #[.pointer (some ⟨db, 0, none⟩), .int .i64 lo, .int .i64 hi] w (RtxQ w db po c bs p lo hi) := by
  have cx := h.box.cell
  have ht := rtake_s (m := 4) h hm
  have HN : Hid (rTxt bs p lo hi = .error bs.length) := by unfold Hid rTxt rNum; rw [if_neg (by omega)]
  clear h hm
  go_enter Tryz.func41, Tryz.ntmps41
  go_wp2_with fail
  refine ht.mono ?_
  rintro _ w1 ⟨rfl, H1⟩
  have cx1 := H1.out.1.box.cell
  have ht2 := rtake_o H1.out.1 0
  clear ht cx
  go_wp2_with fail
  refine wp_loop_rounds 1 ?_
  rw [rounds_succ]
  go_wp2_with fail
  refine ht2.mono ?_
  rintro _ w2 ⟨rfl, H2⟩
  have hc := rCopied_any (c := 0) w2 (Byts.nil w2 none) (by omega)
  clear ht2 cx1
  go_wp2_with fail
  refine hc.mono ?_
  rintro _ w3 ⟨a, k, rfl, H3⟩
  clear hc
  go_wp2_with fail
  have o12 : Off (fun g => g = db) w w2 := H1.out.2.join H2.out.2 fun _ _ g => g
  refine bodyPost_ret (v := .tuple #[.slice a 0 k, .int .i64 (p : Int)]) ?_ rfl ⟨a, 0, k, [], p, p, some bs.length, rfl, H2.out.1.below H3.out.2, ERow.base H3.out.1 o12.size, rfl, by omega, o12.join (Off.of_below H3.out.2) fun _ _ g => g, Or.inr ⟨_, HN.out, rfl, rfl⟩⟩
  simp [results, Tryz.results41, go_sem]
set_option maxRecDepth 100000 in
set_option maxHeartbeats 2000000 in
theorem rtext_whole (h : RRd w db po c bs p none) (hm : p + 4 ≤ bs.length) (lo hi : Int) (hlo : 0 ≤ lo) (hhi2 : hi ≤ 1000000) : Calls Tryz.prog 41 #[.pointer (some ⟨db, 0, none⟩), .int .i64 lo, .int .i64 hi] w (RtxQ w db po c bs p lo hi) := by
  have cx := h.box.cell
  have ht := rtake_n (m := 4) h hm
  have HR : Hid (Rng (piece bs p 4) ∧ (piece bs p 4).length = 4) := ⟨h.rng.piece p 4, piece_len hm⟩
  have HN : Hid ((∀ m : Nat, valB (piece bs p 4) = m → lo ≤ (m : Int) ∧ (m : Int) ≤ hi → p + 4 + m ≤ bs.length → rTxt bs p lo hi = .ok (piece bs (p + 4) m)) ∧ (∀ m : Nat, valB (piece bs p 4) = m → lo ≤ (m : Int) ∧ (m : Int) ≤ hi → bs.length < p + 4 + m → rTxt bs p lo hi = .error bs.length) ∧ (¬ (lo ≤ valB (piece bs p 4) ∧ valB (piece bs p 4) ≤ hi) → rTxt bs p lo hi = .error p)) := by
    unfold Hid rTxt rNum
    rw [if_pos hm]
    refine ⟨fun m hv g g2 => ?_, fun m hv g g2 => ?_, fun g => ?_⟩
    · rw [hv, if_pos g]
      exact if_pos g2
    · rw [hv, if_pos g]
      exact if_neg (by simp only [Int.toNat_natCast]; omega)
    · rw [if_neg g]
  have HP : Hid (0 ≤ lo ∧ hi ≤ 1000000) := ⟨hlo, hhi2⟩
  clear h hm hlo hhi2
  obtain ⟨L, hL⟩ : ∃ L, piece bs p 4 = L := ⟨_, rfl⟩
  rw [hL] at ht HR HN
  clear hL
  go_enter Tryz.func41, Tryz.ntmps41
  go_wp2_with fail
  refine ht.mono ?_
  rintro _ w1 ⟨rfl, H1⟩
  generalize winA po c p = a1 at H1 ⊢
  clear cx ht
  go_wp2_with fail
  go_loopw [10, 11] (fun t10 t11 wx => ∃ (j : Nat) (v : Int), j ≤ 4 ∧ t11 = .int .i64 j ∧ t10 = .int .i64 v ∧ wx = w1 ∧ Hid (v = valB (L.take j))) (fun _ t11 _ => 4 - (intOf t11).toNat)
  case atStart => exact ⟨0, 0, Nat.zero_le _, rfl, rfl, rfl, rfl⟩
  case round =>
    obtain ⟨j, v, hj, rfl, rfl, rfl, HV⟩ := hrel
    by_cases hlt : j < 4
    · have hlt1 : (j : Int) < 4 := by omega
      obtain ⟨b, o, rfl, hl, hc⟩ := H1.out.2.2.cell j hlt
      have hxr := getD_rng HR.out.1 (show j < L.length by rw [HR.out.2]; exact hlt)
      have hvr := valB_takeB HR.out.1 (show j ≤ L.length by rw [HR.out.2]; exact hj)
      have hps := pow_small3 (show j ≤ 3 by omega)
      have hor : Hid (bits BinOp.or IntKind.i64 (wrap64 (v * 256)) (wrap64 (L.getD j 0)) = v * 256 + L.getD j 0) := by
        have := i64_orI (x := v) (z := L.getD j 0) (by rw [HV.out]; exact hvr.1) (by rw [HV.out]; omega) hxr.1 hxr.2
        rw [IntKind.wrap_i64, IntKind.wrap_i64] at this
        unfold Hid wrap64
        exact this
      have HV2 : Hid (v * 256 + L.getD j 0 = valB (L.take (j + 1))) := by
        unfold Hid
        rw [valB_take (by rw [HR.out.2]; exact hlt), HV.out]
      generalize L.getD j 0 = x at hc hor HV2
      clear hxr hvr hps hl HV
      go_wp2_with fail
      go_roundw
      case rel => exact ⟨j + 1, v * 256 + x, hlt, by go_num, congrArg (Value.int .i64) hor.out, by trivial, HV2⟩
      case measure => simp [intOf]; omega
    · have hlt1 : ¬ (j : Int) < 4 := by omega
      obtain rfl : j = 4 := by omega
      have hv0 : v = valB L := by
        rw [HV.out, List.take_of_length_le (by rw [HR.out.2]; omega)]
      have hv1 := valB_takeB HR.out.1 (show 4 ≤ L.length by rw [HR.out.2]; omega)
      rw [List.take_of_length_le (by rw [HR.out.2]; omega), ← hv0] at hv1
      obtain ⟨m, rfl⟩ : ∃ m : Nat, v = m := ⟨v.toNat, by omega⟩
      have HV2 : Hid (valB L = m) := hv0.symm
      have cx1 := H1.out.1.box.cell
      clear HV hj hv0 hv1
      have bad : ∀ (hn : ¬ (lo ≤ valB L ∧ valB L ≤ hi)), Hid (rTxt bs p lo hi = .error p) := fun hn => HN.out.2.2 hn
      by_cases g1 : (m : Int) < lo
      · have HE : Hid (rTxt bs p lo hi = .error p) := bad fun g => by rw [HV2.out] at g; omega
        have hf := rfault_any H1.out.1 p
        clear bad
        go_wp2_with fail
        refine hf.mono ?_
        rintro _ w2 ⟨rfl, H2⟩
        have cx2 := H2.out.1.box.cell
        have ht2 := rtake_o H2.out.1 (m : Int)
        clear hf cx1
        go_wp2_with fail
        refine ht2.mono ?_
        rintro _ w3 ⟨rfl, H3⟩
        have hc := rCopied_any (c := 0) w3 (Byts.nil w3 none) (by omega)
        clear ht2 cx2
        go_wp2_with fail
        refine hc.mono ?_
        rintro _ w4 ⟨a, k, rfl, H4⟩
        clear hc
        go_wp2_with fail
        have o12 : Off (fun g => g = db) w w3 := (H1.out.2.1.join H2.out.2 fun _ _ g => g).join H3.out.2 fun _ _ g => g
        refine bodyPost_ret (v := .tuple #[.slice a 0 k, .int .i64 ((p + 4 : Nat) : Int)]) ?_ rfl ⟨a, 0, k, [], p + 4, p + 4, some p, rfl, H3.out.1.below H4.out.2, ERow.base H4.out.1 o12.size, rfl, by omega, o12.join (Off.of_below H4.out.2) fun _ _ g => g, Or.inr ⟨_, HE.out, rfl, rfl⟩⟩
        simp [results, Tryz.results41, go_sem]
      · by_cases g2 : (m : Int) > hi
        · have HE : Hid (rTxt bs p lo hi = .error p) := bad fun g => by rw [HV2.out] at g; omega
          have hf := rfault_any H1.out.1 p
          clear bad
          go_wp2_with fail
          refine hf.mono ?_
          rintro _ w2 ⟨rfl, H2⟩
          have cx2 := H2.out.1.box.cell
          have ht2 := rtake_o H2.out.1 (m : Int)
          clear hf cx1
          go_wp2_with fail
          refine ht2.mono ?_
          rintro _ w3 ⟨rfl, H3⟩
          have hc := rCopied_any (c := 0) w3 (Byts.nil w3 none) (by omega)
          clear ht2 cx2
          go_wp2_with fail
          refine hc.mono ?_
          rintro _ w4 ⟨a, k, rfl, H4⟩
          clear hc
          go_wp2_with fail
          have o12 : Off (fun g => g = db) w w3 := (H1.out.2.1.join H2.out.2 fun _ _ g => g).join H3.out.2 fun _ _ g => g
          refine bodyPost_ret (v := .tuple #[.slice a 0 k, .int .i64 ((p + 4 : Nat) : Int)]) ?_ rfl ⟨a, 0, k, [], p + 4, p + 4, some p, rfl, H3.out.1.below H4.out.2, ERow.base H4.out.1 o12.size, rfl, by omega, o12.join (Off.of_below H4.out.2) fun _ _ g => g, Or.inr ⟨_, HE.out, rfl, rfl⟩⟩
          simp [results, Tryz.results41, go_sem]
        · have hgood : lo ≤ (m : Int) ∧ (m : Int) ≤ hi := ⟨by omega, by omega⟩
          have hm6 : m ≤ 1000000 := by have := HP.out.2; omega
          clear bad
          by_cases hs : p + 4 + m ≤ bs.length
          · have HE : Hid (rTxt bs p lo hi = .ok (piece bs (p + 4) m) ∧ (piece bs (p + 4) m).length = m ∧ m ≤ 1000000) := ⟨HN.out.1 m HV2.out hgood hs, piece_len hs, hm6⟩
            have ht2 := rtake_n (m := m) H1.out.1 hs
            clear hgood hm6 hs
            go_wp2_with fail
            refine ht2.mono ?_
            rintro _ w3 ⟨rfl, H3⟩
            have hc := rCopied_any (c := c - (p + 4)) w3 H3.out.2.2 (by have := HE.out.2.2; omega)
            generalize winA po c (p + 4) = a3 at hc ⊢
            generalize c - (p + 4) = c3 at hc ⊢
            clear ht2 cx1
            go_wp2_with fail
            refine hc.mono ?_
            rintro _ w4 ⟨a, k, rfl, H4⟩
            clear hc
            go_wp2_with fail
            have o12 : Off (fun g => g = db) w w3 := H1.out.2.1.join H3.out.2.1 fun _ _ g => g
            refine bodyPost_ret (v := .tuple #[.slice a m k, .int .i64 ((p + 4 : Nat) : Int)]) ?_ rfl ⟨a, m, k, piece bs (p + 4) m, p + 4, p + 4 + m, none, rfl, H3.out.1.below H4.out.2, ERow.base H4.out.1 o12.size, HE.out.2.1, HE.out.2.2, o12.join (Off.of_below H4.out.2) fun _ _ g => g, Or.inl ⟨HE.out.1, rfl, rfl, rfl⟩⟩
            simp [results, Tryz.results41, go_sem]
          · have HE : Hid (rTxt bs p lo hi = .error bs.length) := HN.out.2.1 m HV2.out hgood (by omega)
            have ht2 := rtake_s (m := m) H1.out.1 (by omega)
            clear hgood hm6 hs
            go_wp2_with fail
            refine ht2.mono ?_
            rintro _ w3 ⟨rfl, H3⟩
            have hc := rCopied_any (c := 0) w3 (Byts.nil w3 none) (by omega)
            clear ht2 cx1
            go_wp2_with fail
            refine hc.mono ?_
            rintro _ w4 ⟨a, k, rfl, H4⟩
            clear hc
            go_wp2_with fail
            have o12 : Off (fun g => g = db) w w3 := H1.out.2.1.join H3.out.2 fun _ _ g => g
            refine bodyPost_ret (v := .tuple #[.slice a 0 k, .int .i64 ((p + 4 : Nat) : Int)]) ?_ rfl ⟨a, 0, k, [], p + 4, p + 4, some bs.length, rfl, H3.out.1.below H4.out.2, ERow.base H4.out.1 o12.size, rfl, by omega, o12.join (Off.of_below H4.out.2) fun _ _ g => g, Or.inr ⟨_, HE.out, rfl, rfl⟩⟩
            simp [results, Tryz.results41, go_sem]
theorem rtext_any (h : RRd w db po c bs p none) (lo hi : Int) (hlo : 0 ≤ lo) (hhi2 : hi ≤ 1000000) : Calls Tryz.prog 41 #[.pointer (some ⟨db, 0, none⟩), .int .i64 lo, .int .i64 hi] w (RtxQ w db po c bs p lo hi) := by
  by_cases hm : p + 4 ≤ bs.length
  · exact rtext_whole h hm lo hi hlo hhi2
  · exact rtext_short h (by omega) lo hi
end
end Go.Proofs.YtdjjologpodnkaaGreatDoor

/-
  The document's reader: a control id, conditions.
-/
namespace Go.Proofs.YtdjjologpodnkaaGreatDoor
open Go.RowKit

section
variable {w : World} {db : Nat} {po : Option Addr} {c : Nat} {bs : List Int} {p : Nat}
/-- What reading a control id comes to. -/
def RctQ (w : World) (db : Nat) (po : Option Addr) (c : Nat) (bs : List Int) (p : Nat) (r : Ending) (w' : World) : Prop :=
  ∃ (s : ByteArray) (p' : Nat) (y : Option Nat), r = .returned (.string s) ∧ Hid (RRd w' db po c bs p' y ∧ Off (fun g => g = db) w w' ∧ ((rStr ctB bs p 1 18 = .ok s ∧ p' = p + 4 + s.size ∧ y = none) ∨ (∃ e, rStr ctB bs p 1 18 = .error e ∧ y = some e)))
set_option maxRecDepth 100000 in
set_option maxHeartbeats 1000000 in
theorem rcontrol_any (h : RRd w db po c bs p none) : Calls Tryz.prog 40 #[.pointer (some ⟨db, 0, none⟩)] w (RctQ w db po c bs p) := by
  have ht := rtext_any h 1 18 (by omega) (by omega)
  have HD : Hid (db < w.heap.size) := h.box.lt
  clear h
  go_enter Tryz.func40, Tryz.ntmps40
  go_wp2_with fail
  refine ht.mono ?_
  rintro _ w1 ⟨a, m, k, l, q, p', y, rfl, H1⟩
  have hcv := fun c => run_conv_bytes (c := c) H1.out.2.1.byts
  have hct := rControl_any (strOf l)
  clear ht
  go_wp2_with fail
  refine (hct _).mono ?_
  rintro _ w2 ⟨rfl, hw⟩
  subst w2
  have hz : (strOf l).size = m := by rw [strOf_size]; exact H1.out.2.2.1
  cases hb : ctB (strOf l) with
  | true =>
    have HE : Hid (RctQ w db po c bs p (.returned (.string (strOf l))) w1) := by
      refine ⟨strOf l, p', y, rfl, H1.out.1, H1.out.2.2.2.2.1, ?_⟩
      rcases H1.out.2.2.2.2.2 with ⟨h1, h2, h3, h4⟩ | ⟨e, h1, h2, h3⟩
      · exact Or.inl ⟨by unfold rStr; rw [h1]; exact if_pos hb, by rw [h3, hz], h4⟩
      · exact Or.inr ⟨e, by unfold rStr; rw [h1], h2⟩
    clear hct hz hb
    go_wp2_with fail
    go_ret
    exact HE.out
  | false =>
    have hf := rfault_any H1.out.1 q
    have HE : Hid (∀ z, RRd z db po c bs p' (orX y q) → Off (fun g => g = db) w1 z → RctQ w db po c bs p (.returned (.string (strOf l))) z) := fun z hz1 hz2 => by
      refine ⟨strOf l, p', _, rfl, hz1, H1.out.2.2.2.2.1.join hz2 fun _ _ g => g, ?_⟩
      rcases H1.out.2.2.2.2.2 with ⟨h1, h2, h3, h4⟩ | ⟨e, h1, h2, h3⟩
      · exact Or.inr ⟨p + 4, by unfold rStr; rw [h1]; exact if_neg (by rw [hb]; decide), by rw [h4, h2]; rfl⟩
      · exact Or.inr ⟨e, by unfold rStr; rw [h1], by rw [h2]; rfl⟩
    have HL : Hid (∀ z, Off (fun g => g = db) w1 z → Byts z a m l) := fun z hz => BRow.byts (ERow.off H1.out.2.1 hz fun g hg e => by have h1 := (ERow.lt H1.out.2.1 hg).1; have h2 := HD.out; omega)
    clear hct hz hb hcv
    go_wp2_with fail
    refine hf.mono ?_
    rintro _ w2 ⟨rfl, H2⟩
    have hcv := fun c => run_conv_bytes (c := c) (HL.out _ H2.out.2)
    clear hf
    go_wp2_with fail
    go_ret
    exact HE.out _ H2.out.1 H2.out.2
end
end Go.Proofs.YtdjjologpodnkaaGreatDoor

/-
  The document's reader: conditions.
-/
namespace Go.Proofs.YtdjjologpodnkaaGreatDoor
open Go.RowKit

section
variable {w : World} {db : Nat} {po : Option Addr} {c : Nat} {bs : List Int} {p : Nat}
/-- What reading conditions comes to. -/
def RcnQ (w : World) (db : Nat) (po : Option Addr) (c : Nat) (bs : List Int) (p : Nat) (r : Ending) (w' : World) : Prop :=
  ∃ (x : Bool) (u v : Int) (p' : Nat) (y : Option Nat), r = .returned (.agg #[.bool x, .int .i64 u, .int .i64 v]) ∧ Hid (RRd w' db po c bs p' y ∧ Off (fun g => g = db) w w' ∧ ((rCnd bs p = .ok (x, u, v) ∧ p' = p + 3 ∧ y = none) ∨ (∃ e, rCnd bs p = .error e ∧ y = some e)))
theorem cn_fin {X : World} {p' : Nat} {y : Option Nat} (hd : db < w.heap.size) (hpl : ∀ y, po = some y → y.block < w.heap.size) (hR : RRd X db po c bs p' y) (ho : Off (fun g => g = db) w X) (x : Bool) (u v : Int) (hq : (rCnd bs p = .ok (x, u, v) ∧ p' = p + 3 ∧ y = none) ∨ (∃ e, rCnd bs p = .error e ∧ y = some e)) :
    RcnQ w db po c bs p (.returned (.agg #[.bool x, .int .i64 u, .int .i64 v])) (((X.setCell ⟨w.heap.size, 0, none⟩ (.bool x)).setCell ⟨w.heap.size, 1, none⟩ (.int .i64 u)).setCell ⟨w.heap.size, 2, none⟩ (.int .i64 v)) := by
  have o1 : Off (fun g => g = w.heap.size) X (((X.setCell ⟨w.heap.size, 0, none⟩ (.bool x)).setCell ⟨w.heap.size, 1, none⟩ (.int .i64 u)).setCell ⟨w.heap.size, 2, none⟩ (.int .i64 v)) :=
    Off.setCell (P := fun g => g = w.heap.size) (p := ⟨w.heap.size, 2, none⟩) (Off.setCell (P := fun g => g = w.heap.size) (p := ⟨w.heap.size, 1, none⟩) (Off.setCell (P := fun g => g = w.heap.size) (p := ⟨w.heap.size, 0, none⟩) (Off.refl _ X) rfl _) rfl _) rfl _
  exact ⟨x, u, v, p', y, rfl, hR.off o1 (by omega) (fun y hy => by have := hpl y hy; omega), ho.join o1 (fun k hk g => by omega), hq⟩
set_option maxRecDepth 100000 in
set_option maxHeartbeats 1000000 in
theorem rcond_short (h : RRd w db po c bs p none) (hm : bs.length < p + 3) : Calls Tryz.prog 42 #[.pointer (some ⟨db, 0, none⟩)] w (RcnQ w db po c bs p) := by
  have bv := (Below.refl w.heap.size w).alloc (Nat.le_refl _) (.cells #[.bool false, .int .i64 0, .int .i64 0] 24)
  have bx := Box.new w #[.bool false, .int .i64 0, .int .i64 0] 24
  have HB : Hid (Below w.heap.size w (w.alloc (.cells #[.bool false, .int .i64 0, .int .i64 0] 24)) ∧ Box (w.alloc (.cells #[.bool false, .int .i64 0, .int .i64 0] 24)) w.heap.size #[.bool false, .int .i64 0, .int .i64 0] ∧ db < w.heap.size ∧ (∀ y, po = some y → y.block < w.heap.size)) := ⟨bv, bx, h.box.lt, h.pl⟩
  replace h := h.below bv
  have cx := h.box.cell
  have ht := rtake_s (m := 3) h hm
  have HN : Hid (rCnd bs p = .error bs.length) := by unfold Hid rCnd; rw [if_neg (by omega)]
  clear h hm bv bx
  go_enter Tryz.func42, Tryz.ntmps42
  go_wp2_with fail
  refine ht.mono ?_
  rintro _ w1 ⟨rfl, H1⟩
  have bx1 := HB.out.2.1.off H1.out.2 (by have := HB.out.2.2.1; omega)
  have kc := bx1.cell
  have kf := bx1.free
  have HO : Hid (Off (fun g => g = db) w w1) := (Off.of_below HB.out.1).join H1.out.2 fun _ _ g => g
  clear ht cx bx1
  go_wp2_with fail
  refine bodyPost_ret ?_ rfl (cn_fin HB.out.2.2.1 HB.out.2.2.2 H1.out.1 HO.out false 0 0 (Or.inr ⟨_, HN.out, rfl⟩))
  simp [results, Tryz.results42, go_sem, kc]
set_option maxRecDepth 100000 in
set_option maxHeartbeats 1000000 in
theorem rcond_whole (h : RRd w db po c bs p none) (hm : p + 3 ≤ bs.length) : Calls Tryz.prog 42 #[.pointer (some ⟨db, 0, none⟩)] w (RcnQ w db po c bs p) := by
  have bv := (Below.refl w.heap.size w).alloc (Nat.le_refl _) (.cells #[.bool false, .int .i64 0, .int .i64 0] 24)
  have bx := Box.new w #[.bool false, .int .i64 0, .int .i64 0] 24
  have HB : Hid (Below w.heap.size w (w.alloc (.cells #[.bool false, .int .i64 0, .int .i64 0] 24)) ∧ Box (w.alloc (.cells #[.bool false, .int .i64 0, .int .i64 0] 24)) w.heap.size #[.bool false, .int .i64 0, .int .i64 0] ∧ db < w.heap.size ∧ (∀ y, po = some y → y.block < w.heap.size)) := ⟨bv, bx, h.box.lt, h.pl⟩
  replace h := h.below bv
  have cx := h.box.cell
  have ht := rtake_n (m := 3) h hm
  have HN : Hid ((bs.getD p 0 ≤ 1 ∧ okB (bs.getD p 0 == 1) (bs.getD (p + 1) 0) (bs.getD (p + 2) 0) = true → rCnd bs p = .ok (bs.getD p 0 == 1, bs.getD (p + 1) 0, bs.getD (p + 2) 0)) ∧ (¬ (bs.getD p 0 ≤ 1 ∧ okB (bs.getD p 0 == 1) (bs.getD (p + 1) 0) (bs.getD (p + 2) 0) = true) → rCnd bs p = .error p)) := by
    unfold Hid rCnd
    rw [if_pos hm]
    exact ⟨fun g => if_pos g, fun g => if_neg g⟩
  have HRg : Hid ((0 ≤ bs.getD p 0 ∧ bs.getD p 0 < 256) ∧ (0 ≤ bs.getD (p + 1) 0 ∧ bs.getD (p + 1) 0 < 256) ∧ (0 ≤ bs.getD (p + 2) 0 ∧ bs.getD (p + 2) 0 < 256)) := ⟨getD_rng h.rng (by omega), getD_rng h.rng (by omega), getD_rng h.rng (by omega)⟩
  clear h hm bv bx
  go_enter Tryz.func42, Tryz.ntmps42
  go_wp2_with fail
  refine ht.mono ?_
  rintro _ w1 ⟨rfl, H1⟩
  obtain ⟨b0, o0, ha, hl0, hc0⟩ := H1.out.2.2.cell 0 (by omega)
  obtain ⟨b1, o1, ha1, hl1, hc1⟩ := H1.out.2.2.cell 1 (by omega)
  obtain ⟨b2, o2, ha2, hl2, hc2⟩ := H1.out.2.2.cell 2 (by omega)
  rw [ha] at ha1 ha2
  obtain ⟨rfl, rfl⟩ : b0 = b1 ∧ o0 = o1 := by cases ha1; exact ⟨rfl, rfl⟩
  obtain ⟨rfl, rfl⟩ : b0 = b2 ∧ o0 = o2 := by cases ha2; exact ⟨rfl, rfl⟩
  rw [ha]
  rw [piece_getD (by omega)] at hc0 hc1 hc2
  have bx1 := HB.out.2.1.off H1.out.2.1 (by have := HB.out.2.2.1; omega)
  have kc := bx1.cell
  have kf := bx1.free
  have HO : Hid (Off (fun g => g = db) w w1) := (Off.of_below HB.out.1).join H1.out.2.1 fun _ _ g => g
  clear ht cx bx1
  obtain ⟨x0, hx0⟩ : ∃ x, bs.getD p 0 = x := ⟨_, rfl⟩
  obtain ⟨x1, hx1⟩ : ∃ x, bs.getD (p + 1) 0 = x := ⟨_, rfl⟩
  obtain ⟨x2, hx2⟩ : ∃ x, bs.getD (p + 2) 0 = x := ⟨_, rfl⟩
  simp only [Nat.add_zero] at hc0
  rw [hx0] at hc0
  rw [hx1] at hc1
  rw [hx2] at hc2
  have hlw : b0 < w1.heap.size := hl0
  have gs : ∀ z, Below w1.heap.size w1 z → z.cell? ⟨b0, o0, none⟩ = some (.int .u8 x0) ∧ z.cell? ⟨b0, o0 + 1, none⟩ = some (.int .u8 x1) ∧ z.cell? ⟨b0, o0 + 2, none⟩ = some (.int .u8 x2) := fun z hz => ⟨(hz.cell (p := ⟨b0, o0, none⟩) hlw).trans hc0, (hz.cell (p := ⟨b0, o0 + 1, none⟩) hlw).trans hc1, (hz.cell (p := ⟨b0, o0 + 2, none⟩) hlw).trans hc2⟩
  rw [hx0, hx1, hx2] at HN HRg
  have wr1 : IntKind.i64.wrap x1 = x1 := by have := HRg.out.2.1; rw [IntKind.wrap_i64]; omega
  have wr2 : IntKind.i64.wrap x2 = x2 := by have := HRg.out.2.2; rw [IntKind.wrap_i64]; omega
  obtain ⟨e, he⟩ : ∃ e, (x0 == 1) = e := ⟨_, rfl⟩
  have HE : Hid ((x0 == 1) = e) := he
  rw [he] at HN
  generalize c - p = cp
  clear hx0 hx1 hx2 hl0 hl1 hl2 ha1 ha2 he
  go_wp2_with fail
  go_region_held3 (fun z => z.cell? ⟨b0, o0, none⟩ = some (.int .u8 x0) ∧ z.cell? ⟨b0, o0 + 1, none⟩ = some (.int .u8 x1) ∧ z.cell? ⟨b0, o0 + 2, none⟩ = some (.int .u8 x2)) (first | (refine gs _ ?_; (repeat' (first | (with_reducible exact Below.refl _ _) | (with_reducible refine bl_alloc ?_ _) | (with_reducible refine Below.drew ?_) | (refine Below.setCell ?_ (by simp) _))))) (first | fail)
  rw [HE.out]
  have bV : Below w1.heap.size w1 (w1.alloc (.cells #[.bool e, .int .i64 x1, .int .i64 x2] 24)).drew := Below.drew (bl_alloc (Below.refl _ _) _)
  have xV : Box (w1.alloc (.cells #[.bool e, .int .i64 x1, .int .i64 x2] 24)).drew w1.heap.size #[.bool e, .int .i64 x1, .int .i64 x2] := (Box.new w1 #[.bool e, .int .i64 x1, .int .i64 x2] 24).below (Below.drew (Below.refl _ _))
  have rV := H1.out.1.below bV
  have oV : Off (fun g => g = db) w (w1.alloc (.cells #[.bool e, .int .i64 x1, .int .i64 x2] 24)).drew := HO.out.join (Off.of_below bV) fun _ _ g => g
  have zV : ∀ z, Below w1.heap.size w1 z → Box z w.heap.size #[.bool false, .int .i64 0, .int .i64 0] := fun z hz => (HB.out.2.1.off H1.out.2.1 (by have := HB.out.2.2.1; omega)).below hz
  have HZ : Hid (type_of% zV) := zV
  have HG : Hid (type_of% gs) := gs
  clear zV gs kc kf hc0 hc1 hc2 wr1 wr2
  generalize (w1.alloc (.cells #[.bool e, .int .i64 x1, .int .i64 x2] 24)).drew = V2 at bV xV rV oV ⊢
  have kx := xV.cell
  have HV : Hid (Below w1.heap.size w1 V2 ∧ Box V2 w1.heap.size #[.bool e, .int .i64 x1, .int .i64 x2] ∧ RRd V2 db po c bs (p + 3) none ∧ Off (fun g => g = db) w V2) := ⟨bV, xV, rV, oV⟩
  clear bV xV rV oV hlw
  go_wp2_with fail
  refine (rRight_any e x1 x2 _).mono ?_
  rintro _ w3 ⟨rfl, hb⟩
  have HV3 : Hid (Below w1.heap.size w1 w3 ∧ Box w3 w1.heap.size #[.bool e, .int .i64 x1, .int .i64 x2] ∧ RRd w3 db po c bs (p + 3) none ∧ Off (fun g => g = db) w w3) := ⟨below_then HV.out.1 hb, HV.out.2.1.below hb, HV.out.2.2.1.below hb, HV.out.2.2.2.join (Off.of_below hb) fun _ _ g => g⟩
  have hc := (HG.out _ HV3.out.1).1
  have kx3 := HV3.out.2.1.cell
  have kc3 := (HZ.out _ HV3.out.1).cell
  have kf3 := (HZ.out _ HV3.out.1).free
  have HF : Hid (∀ z, Off (fun q => q = db) w3 z → Box z w1.heap.size #[.bool e, .int .i64 x1, .int .i64 x2] ∧ Box z w.heap.size #[.bool false, .int .i64 0, .int .i64 0]) := fun z hz => ⟨HV3.out.2.1.off hz (by have h1 := HB.out.2.2.1; have h2 := HO.out.size; omega), (HZ.out _ HV3.out.1).off hz (by have h1 := HB.out.2.2.1; omega)⟩
  have hf := rfault_any HV3.out.2.2.1 p
  obtain ⟨cb, hcb⟩ : ∃ n, w1.heap.size = n := ⟨_, rfl⟩
  rw [hcb] at kx3 HF ⊢
  obtain ⟨rb, hrb⟩ : ∃ n, w.heap.size = n := ⟨_, rfl⟩
  have HRB : Hid (w.heap.size = rb) := hrb
  rw [hrb] at kc3 kf3 HF ⊢
  clear kx hb HV HZ HG H1 hcb hrb
  by_cases g0 : x0 > 1
  · have HQ : Hid (rCnd bs p = .error p) := HN.out.2 fun g => by omega
    go_wp2_with fail
    refine hf.mono ?_
    rintro _ w4 ⟨rfl, H4⟩
    have kx4 := (HF.out _ H4.out.2).1.cell
    have kc4 := (HF.out _ H4.out.2).2.cell
    have kf4 := (HF.out _ H4.out.2).2.free
    clear hf hc kx3 kc3 kf3
    go_wp2_with fail
    rw [← HRB.out] at kc4 kf4 ⊢
    refine bodyPost_ret ?_ rfl (cn_fin HB.out.2.2.1 HB.out.2.2.2 H4.out.1 (HV3.out.2.2.2.join H4.out.2 fun _ _ g => g) e x1 x2 (Or.inr ⟨_, HQ.out, rfl⟩))
    simp [results, Tryz.results42, go_sem, kc4]
  · cases hk : okB e x1 x2 with
    | false =>
      have HQ : Hid (rCnd bs p = .error p) := HN.out.2 fun g => by rw [hk] at g; exact absurd g.2 (by decide)
      go_wp2_with fail
      refine hf.mono ?_
      rintro _ w4 ⟨rfl, H4⟩
      have kx4 := (HF.out _ H4.out.2).1.cell
      have kc4 := (HF.out _ H4.out.2).2.cell
      have kf4 := (HF.out _ H4.out.2).2.free
      clear hf hc kx3 kc3 kf3
      go_wp2_with fail
      rw [← HRB.out] at kc4 kf4 ⊢
      refine bodyPost_ret ?_ rfl (cn_fin HB.out.2.2.1 HB.out.2.2.2 H4.out.1 (HV3.out.2.2.2.join H4.out.2 fun _ _ g => g) e x1 x2 (Or.inr ⟨_, HQ.out, rfl⟩))
      simp [results, Tryz.results42, go_sem, kc4]
    | true =>
      have HQ : Hid (rCnd bs p = .ok (e, x1, x2)) := HN.out.1 ⟨by omega, hk⟩
      clear hf
      go_wp2_with fail
      rw [← HRB.out] at kc3 kf3 ⊢
      refine bodyPost_ret ?_ rfl (cn_fin HB.out.2.2.1 HB.out.2.2.2 HV3.out.2.2.1 HV3.out.2.2.2 e x1 x2 (Or.inl ⟨HQ.out, rfl, rfl⟩))
      simp [results, Tryz.results42, go_sem, kc3]
theorem rcond_any (h : RRd w db po c bs p none) : Calls Tryz.prog 42 #[.pointer (some ⟨db, 0, none⟩)] w (RcnQ w db po c bs p) := by
  by_cases hm : p + 3 ≤ bs.length
  · exact rcond_whole h hm
  · exact rcond_short h (by omega)
end
end Go.Proofs.YtdjjologpodnkaaGreatDoor
