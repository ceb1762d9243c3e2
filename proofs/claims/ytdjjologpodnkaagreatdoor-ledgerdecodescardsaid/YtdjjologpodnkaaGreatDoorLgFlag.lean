/-
  Nothing, a flag, conditions laid as bytes.
-/
import Derived.Test.YtdjjologpodnkaaGreatDoorLgLay2
namespace Go.Proofs.YtdjjologpodnkaaGreatDoor
open Go.RowKit

theorem none_lay {w : World} {B : Nat} {v : Value} {bs : List Int} (b : Bool) (h : BRow w B v bs) : Calls Tryz.prog 120 #[.bool b, v] w (LayQ w B v bs []) := by
  obtain ⟨a0, c0, rfl, _⟩ := ERow.isSlice h
  have HE : Hid (LayQ w B (.slice a0 bs.length c0) bs [] (.returned (.slice a0 bs.length c0)) w) := ⟨a0, c0, rfl, by rw [List.append_nil]; exact h, Off.refl _ _⟩
  clear h
  go_enter Tryz.func120, Tryz.ntmps120
  go_wp2_with fail
  go_ret
  exact HE.out
def FlagQ (w : World) (B : Nat) (v : Value) (bs : List Int) (x : Int) (e : Ending) (w' : World) : Prop := ∃ a c, e = .returned (.slice a (bs.length + 1) c) ∧ Hid (BRow w' B (.slice a (bs.length + 1) c) (bs ++ [x]) ∧ Off (fun q => v.ownBlock = some q) w w' ∧ OB v (.slice a (bs.length + 1) c) w.heap.size)
set_option maxRecDepth 100000 in
set_option maxHeartbeats 2000000 in
theorem flag_lay {w : World} {B : Nat} {v : Value} {bs : List Int} (Bk o : Nat) (e : Bool) (h : BRow w B v bs) (hc : w.cell? ⟨Bk, o, none⟩ = some (.bool e)) (hl : bs.length ≤ 1000000) (hB : B ≤ w.heap.size) :
    Calls Tryz.prog 126 #[.agg #[.pointer (some ⟨Bk, o, none⟩)], v] w (FlagQ w B v bs (bitI e)) := by
  have hb : Bk < w.heap.size := cell_lt hc
  have bv := (Below.refl w.heap.size w).alloc (Nat.le_refl _) (.cells #[.pointer (some ⟨Bk, o, none⟩)] 178)
  have bx := (Box.new w #[.pointer (some ⟨Bk, o, none⟩)] 178).cell
  have c1 := (bv.cell (p := ⟨Bk, o, none⟩) hb).trans hc
  obtain ⟨a0, c0, rfl, _⟩ := ERow.isSlice h
  cases e with
  | true =>
    obtain ⟨a', c', w', hr, r1, o1, l1⟩ := run_epush (P := Tryz.prog) (t := 22) Tryz.underlying22 celB encB_len encB_one (ERow.below h bv) 1 #[.int .u8 1] rfl (by omega) (by omega) (Nat.le_trans hB bv.size)
    have HE : Hid (FlagQ w B (.slice a0 bs.length c0) bs 1 (.returned (.slice a' (bs.length + 1) c')) w') := ⟨a', c', rfl, r1, (Off.of_below bv).join o1 fun _ _ g => g, (OB.refl _ _).step l1 (by have := bv.size; omega)⟩
    simp only [World.size_alloc] at hr
    clear r1 o1 l1 h hc
    go_enter Tryz.func126, Tryz.ntmps126
    go_wp2_with (at_builtin; refine wpList_append_run rfl (.tmp 9) (.tmp 10) 22 _ rfl hr ?_)
    go_ret
    exact HE.out
  | false =>
    obtain ⟨a', c', w', hr, r1, o1, l1⟩ := run_epush (P := Tryz.prog) (t := 22) Tryz.underlying22 celB encB_len encB_one (ERow.below h bv) 0 #[.int .u8 0] rfl (by omega) (by omega) (Nat.le_trans hB bv.size)
    have HE : Hid (FlagQ w B (.slice a0 bs.length c0) bs 0 (.returned (.slice a' (bs.length + 1) c')) w') := ⟨a', c', rfl, r1, (Off.of_below bv).join o1 fun _ _ g => g, (OB.refl _ _).step l1 (by have := bv.size; omega)⟩
    simp only [World.size_alloc] at hr
    clear r1 o1 l1 h hc
    go_enter Tryz.func126, Tryz.ntmps126
    go_wp2_with (at_builtin; refine wpList_append_run rfl (.tmp 12) (.tmp 13) 22 _ rfl hr ?_)
    go_ret
    exact HE.out
end Go.Proofs.YtdjjologpodnkaaGreatDoor
