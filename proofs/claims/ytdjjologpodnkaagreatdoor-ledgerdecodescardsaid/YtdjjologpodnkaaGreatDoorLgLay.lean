/-
  Fields laid as bytes.
-/
import Derived.Test.YtdjjologpodnkaaGreatDoorLgNum
import Derived.Test.YtdjjologpodnkaaGreatDoorLgLeaf
namespace Go.Proofs.YtdjjologpodnkaaGreatDoor
open Go.RowKit

/-- What laying leaves: the row with these bytes behind it. -/
def LayQ (w : World) (B : Nat) (v : Value) (bs ys : List Int) (e : Ending) (w' : World) : Prop := ∃ a c, e = .returned (.slice a (bs.length + ys.length) c) ∧ BRow w' B (.slice a (bs.length + ys.length) c) (bs ++ ys) ∧ Off (fun q => v.ownBlock = some q) w w'
theorem BRow.own {w : World} {B : Nat} {v : Value} {bs : List Int} (h : BRow w B v bs) {q : Nat} (hq : v.ownBlock = some q) : B ≤ q ∧ q < w.heap.size := ERow.lt h hq
/-- Bytes that lie below N. -/
structure Low (w : World) (N : Nat) (po : Option Addr) (n : Nat) (bs : List Int) : Prop where
  byts : Byts w po n bs
  low : 0 < n → ∀ b o, po = some ⟨b, o, none⟩ → b < N
theorem Low.off {P : Nat → Prop} {w w' : World} {N : Nat} {po : Option Addr} {n : Nat} {bs : List Int} (h : Low w N po n bs) (ho : Off P w w') (hP : ∀ q, P q → N ≤ q) : Low w' N po n bs :=
  ⟨⟨h.byts.len, fun j hj => by
    obtain ⟨b, o, e, hl, hc⟩ := h.byts.cell j hj
    have hb := h.low (by omega) b o e
    exact ⟨b, o, e, Nat.lt_of_lt_of_le hl ho.size, by rw [ho.cell (p := ⟨b, o + j, none⟩) hl (fun g => by have := hP b g; omega)]; exact hc⟩⟩, h.low⟩
theorem Low.below {w w' : World} {N : Nat} {po : Option Addr} {n : Nat} {bs : List Int} (h : Low w N po n bs) (hb : Below w.heap.size w w') : Low w' N po n bs := ⟨h.byts.below hb, h.low⟩
theorem Low.up {w : World} {N M : Nat} {po : Option Addr} {n : Nat} {bs : List Int} (h : Low w N po n bs) (hM : N ≤ M) : Low w M po n bs := ⟨h.byts, fun g b o e => Nat.lt_of_lt_of_le (h.low g b o e) hM⟩
/-- layNumber, from any world that keeps what lies in V. -/
theorem layNumber_from {V : World} {B : Nat} {v : Value} {bs : List Int} (n : Int) (k : Nat) (h : BRow V B v bs) (hk : k ≤ 8) (h0 : 0 ≤ n) (h1 : n < 9223372036854775808) (hl : bs.length ≤ 1000000) (hB : B ≤ V.heap.size) (z : World) (hz : Below V.heap.size V z) :
    Calls Tryz.prog 116 #[v, .int .i64 n, .int .i64 k] z fun e z' => ∃ a c, e = .returned (.slice a (bs.length + k) c) ∧ Hid (BRow z' B (.slice a (bs.length + k) c) (bs ++ numL n k) ∧ Off (fun q => v.ownBlock = some q) V z' ∧ OB v (.slice a (bs.length + k) c) V.heap.size) :=
  (layNumber_any n k (ERow.below h hz) hk h0 h1 hl (Nat.le_trans hB hz.size)).mono fun _ _ ⟨a, c, he, hr, ho, hob⟩ => ⟨a, c, he, hr, (Off.of_below hz).join ho fun _ _ g => g, fun q hq => (hob q hq).imp id fun g => Nat.le_trans hz.size g⟩
set_option maxRecDepth 100000 in
set_option maxHeartbeats 2000000 in
theorem num_lay {w : World} {B : Nat} {v : Value} {bs : List Int} (Bk o k : Nat) (n lo hi : Int) (h : BRow w B v bs) (hc : w.cell? ⟨Bk, o, none⟩ = some (.int .i64 n)) (hBk : Bk < B) (hk : k ≤ 8) (h0 : 0 ≤ n) (h1 : n < 9223372036854775808) (hl : bs.length ≤ 1000000) (hB : B ≤ w.heap.size) :
    Calls Tryz.prog 114 #[.agg #[.pointer (some ⟨Bk, o, none⟩), .int .i64 k, .int .i64 lo, .int .i64 hi], v] w (LayQ w B v bs (numL n k)) := by
  have hb : Bk < w.heap.size := cell_lt hc
  have bv := (Below.refl w.heap.size w).alloc (Nat.le_refl _) (.cells #[.pointer (some ⟨Bk, o, none⟩), .int .i64 k, .int .i64 lo, .int .i64 hi] 128)
  have bx := Box.new w #[.pointer (some ⟨Bk, o, none⟩), .int .i64 k, .int .i64 lo, .int .i64 hi] 128
  have c1 := (bv.cell (p := ⟨Bk, o, none⟩) hb).trans hc
  obtain ⟨a0, c0, rfl, _⟩ := ERow.isSlice h
  have HN : Hid _ := layNumber_from n k (ERow.below h bv) hk h0 h1 hl (Nat.le_trans hB bv.size)
  have hown : ∀ q, (Value.slice a0 bs.length c0).ownBlock = some q → B ≤ q ∧ q < w.heap.size := fun q hq => BRow.own h hq
  go_enter Tryz.func114, Tryz.ntmps114
  go_wp2_with fail
  generalize w.alloc (.cells #[.pointer (some ⟨Bk, o, none⟩), .int .i64 k, .int .i64 lo, .int .i64 hi] 128) = V at bv bx c1 HN ⊢
  obtain ⟨xb, hxb⟩ : ∃ xb, w.heap.size = xb := ⟨_, rfl⟩
  have HO : Hid (∀ V', Off (fun q => (Value.slice a0 bs.length c0).ownBlock = some q) V V' → Box V' xb #[.pointer (some ⟨Bk, o, none⟩), .int .i64 k, .int .i64 lo, .int .i64 hi] ∧ V'.cell? ⟨Bk, o, none⟩ = some (.int .i64 n) ∧ Off (fun q => (Value.slice a0 bs.length c0).ownBlock = some q) w V') := fun V' ho => by
    refine ⟨by rw [← hxb]; exact bx.off ho fun g => by have := hown _ g; omega, (ho.cell (p := ⟨Bk, o, none⟩) (cell_lt c1) (fun g => by have := (hown _ g).1; simp only at this; omega)).trans c1, (Off.of_below bv).join ho fun _ _ g => g⟩
  have k0 : V.cell? ⟨xb, 0, none⟩ = some (.pointer (some ⟨Bk, o, none⟩)) := by rw [← hxb]; exact bx.cell 0
  have k1 : V.cell? ⟨xb, 1, none⟩ = some (.int .i64 k) := by rw [← hxb]; exact bx.cell 1
  rw [hxb]
  clear bv bx hxb hc hb h hown hB hBk
  go_region_held3 (fun y => y.cell? ⟨xb, 0, none⟩ = some (.pointer (some ⟨Bk, o, none⟩)) ∧ y.cell? ⟨xb, 1, none⟩ = some (.int .i64 k) ∧ y.cell? ⟨Bk, o, none⟩ = some (.int .i64 n)) (simp [*]) (first | (go_at_call 116; refine (HN.out _ ?_).mono ?_; (first | exact Below.refl _ _ | exact Below.drew (Below.refl _ _)); rintro _ z1 ⟨a1, c1', rfl, H1⟩; have e0 : z1.cell? ⟨xb, 0, none⟩ = some (.pointer (some ⟨Bk, o, none⟩)) := ((HO.out _ H1.out.2.1).1.cell 0); have e1 : z1.cell? ⟨xb, 1, none⟩ = some (.int .i64 k) := ((HO.out _ H1.out.2.1).1.cell 1); have e2 : z1.cell? ⟨Bk, o, none⟩ = some (.int .i64 n) := ((HO.out _ H1.out.2.1).2.1); skip))
  have HE : Hid (LayQ w B (.slice a0 bs.length c0) bs (numL n k) (.returned (.slice a1 (bs.length + k) c1')) z1) := ⟨a1, c1', by rw [numL_len], by rw [numL_len]; exact H1.out.1, (HO.out _ H1.out.2.1).2.2⟩
  clear H1 HO HN e0 e1 e2
  go_wp2_with fail
  go_ret
  exact HE.out
end Go.Proofs.YtdjjologpodnkaaGreatDoor
