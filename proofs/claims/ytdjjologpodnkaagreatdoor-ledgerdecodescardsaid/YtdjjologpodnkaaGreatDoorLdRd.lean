/-
  The reader in memory; a number read into its place.
-/
import Derived.Test.YtdjjologpodnkaaGreatDoorLdNum
namespace Go.Proofs.YtdjjologpodnkaaGreatDoor
open Go.RowKit

def rNum (bs : List Int) (p sz : Nat) (lo hi : Int) : Except Nat Int :=
  if p + sz ≤ bs.length then (if lo ≤ valB (piece bs p sz) ∧ valB (piece bs p sz) ≤ hi then .ok (valB (piece bs p sz)) else .error p) else .error bs.length
/-- The reader: block fb, the bytes bs, the place p. -/
structure Rdr (w : World) (fb : Nat) (po : Option Addr) (c : Nat) (bs : List Int) (p : Nat) : Prop where
  box : Box w fb #[.slice po bs.length c, .int .i64 p]
  byts : Byts w po bs.length bs
  hp : p ≤ bs.length
  nc : bs.length ≤ c
  nil : po = none → c = 0
  ne : ∀ x, po = some x → x.block ≠ fb
  hn : bs.length ≤ 9223372036854775807
  rng : Rng bs
theorem Rdr.below {w w' : World} {fb : Nat} {po : Option Addr} {c : Nat} {bs : List Int} {p : Nat} (h : Rdr w fb po c bs p) (hb : Below w.heap.size w w') : Rdr w' fb po c bs p :=
  ⟨h.box.below hb, h.byts.below hb, h.hp, h.nc, h.nil, h.ne, h.hn, h.rng⟩
theorem Rdr.off {P : Nat → Prop} {w w' : World} {fb : Nat} {po : Option Addr} {c : Nat} {bs : List Int} {p : Nat} (h : Rdr w fb po c bs p) (ho : Off P w w') (h1 : ¬ P fb) (h2 : ∀ x, po = some x → ¬ P x.block) : Rdr w' fb po c bs p :=
  ⟨h.box.off ho h1, h.byts.off ho (fun _ _ e _ => h2 _ e), h.hp, h.nc, h.nil, h.ne, h.hn, h.rng⟩
theorem Rdr.put {w w' : World} {fb : Nat} {po : Option Addr} {c : Nat} {bs : List Int} {p m : Nat} (h : Rdr w fb po c bs p) (hm : p + m ≤ bs.length) (hw : RdW w fb p m w') : Rdr w' fb po c bs (p + m) ∧ Off (fun q => q = fb) w w' := by
  have hb := rdW_byts h.byts h.ne hw
  obtain ⟨k, rfl⟩ := hw
  refine ⟨⟨?_, hb, hm, h.nc, h.nil, h.ne, h.hn, h.rng⟩, Off.setCell (P := fun q => q = fb) (p := ⟨fb, 1, none⟩) ((Off.refl _ w).drewN k) rfl _⟩
  have h1 := (h.box.below (below_drewN (Below.refl w.heap.size w) k)).pPut (j := 1) (by simp) (.int .i64 ((p : Int) + m))
  rw [Int.natCast_add]
  exact h1
/-- What taking a number comes to. -/
def NumQ (w : World) (fb : Nat) (po : Option Addr) (c : Nat) (bs : List Int) (p sz : Nat) (lo hi : Int) (r : Ending) (w' : World) : Prop :=
  (∃ e, rNum bs p sz lo hi = .error e ∧ r = gaveUp e ∧ Hid (Off (fun q => q = fb) w w')) ∨ (∃ v, rNum bs p sz lo hi = .ok v ∧ r = .returned (.int .i64 v) ∧ Hid (Rdr w' fb po c bs (p + sz) ∧ Off (fun q => q = fb) w w'))
theorem takeNumber_any {w : World} {fb : Nat} {po : Option Addr} {c : Nat} {bs : List Int} {p : Nat} (h : Rdr w fb po c bs p) (sz : Nat) (hs : sz ≤ 8) (lo hi : Int) (hlo : 0 ≤ lo) (hhi : 0 ≤ hi) (hlo2 : lo ≤ 9223372036854775807) (hhi2 : hi ≤ 9223372036854775807) :
    Calls Tryz.prog 117 #[.pointer (some ⟨fb, 0, none⟩), .int .i64 sz, .int .i64 lo, .int .i64 hi] w (NumQ w fb po c bs p sz lo hi) := by
  by_cases hm : p + sz ≤ bs.length
  · refine (tn_any h.box h.byts h.ne h.rng hm hs h.nc h.nil h.hn lo hi hlo hhi hlo2 hhi2).mono fun r w' ⟨hq, hw⟩ => ?_
    obtain ⟨h1, h2⟩ := h.put hm hw
    rcases hq with ⟨g1, g2, rfl⟩ | ⟨g, rfl⟩
    · exact Or.inr ⟨_, by unfold rNum; rw [if_pos hm, if_pos ⟨g1, g2⟩], rfl, h1, h2⟩
    · exact Or.inl ⟨_, by unfold rNum; rw [if_pos hm, if_neg g], rfl, h2⟩
  · refine (tn_no h.box (by omega) h.hp h.hn lo hi).mono fun r w' ⟨hq, k, hw⟩ => ?_
    exact Or.inl ⟨_, by unfold rNum; rw [if_neg hm], hq, by rw [hw]; exact (Off.refl _ _).drewN k⟩
/-- The record's block, in which a field is laid: a place that may be written. -/
def Cel1 (w : World) (rb o : Nat) : Prop := (∃ u, w.cell? ⟨rb, o, none⟩ = some u) ∧ w.frozen? ⟨rb, o, none⟩ = false
end Go.Proofs.YtdjjologpodnkaaGreatDoor
