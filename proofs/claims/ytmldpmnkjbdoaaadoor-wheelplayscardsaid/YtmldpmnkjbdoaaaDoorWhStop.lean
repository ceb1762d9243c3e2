/-
  Wheel.Stop of a wheel that New made.
-/
import Derived.Test.YtmldpmnkjbdoaaaDoorWhAts
namespace Go.Proofs.YtmldpmnkjbdoaaaDoor
open Go.RowKit

/-- What Stop answers and leaves. -/
def StpQ (w : World) (B W now : Nat) (S : List Tm) (F : Nat → Prop) (k : Int) (e : Ending) (w' : World) : Prop := ∃ b : Bool, e = .returned (.bool b) ∧ (b = true ↔ ∃ x ∈ S, x.1 = k) ∧ Hid (WhQ w B W now (S.filter (keyNe k)) F w')
set_option maxRecDepth 100000 in
set_option maxHeartbeats 1000000 in
theorem stops_any {w : World} {B W now : Nat} {F : Nat → Prop} {S : List Tm} (h : Whl w B W now S F) {k : Int} (hky : KeyI k) :
    Calls Tryd.prog 20 #[.pointer (some ⟨W, 0, none⟩), .int .i64 k] w (StpQ w B W now S F k) := by
  obtain ⟨T, M, v, L, f, n, hW, hB, hT, hk, hh, hp, hl, hF⟩ := h
  have c := wcell hW
  have hWl := blk_lt hW
  have hWv : ¬ Ft T M v W := fun e => by
    rcases e with e | e | ⟨i, hi, e⟩
    · obtain ⟨cs, hc, _⟩ := hT.tb
      rw [e] at hW
      rw [hW] at hc
      simp only [Option.some.injEq, Obj.cells.injEq] at hc
      exact absurd hc.2.1 (by decide)
    · obtain ⟨es, cl, hm⟩ := hT.mp.isMap
      rw [e, hm] at hW; cases hW
    · rcases (hT.row i hi).2 with ⟨e0, _⟩ | ⟨g1, c1, u1, e1, _, b1, _⟩
      · rw [e0] at e; cases e
      · rw [e1] at e
        simp only [Value.ownBlock, Option.some.injEq] at e
        rw [e, hW] at b1
        simp only [Option.some.injEq, Obj.cells.injEq] at b1
        exact absurd b1.2.1 (by decide)
  have hm := made_yes c
  have HRm : Hid (Calls Tryd.prog 39 #[.pointer (some ⟨T, 0, none⟩), .int .i64 k] w (StpQ w B W now S F k)) := (rm_any hT hk hp hl hky hWv hWl).mono fun e w' ⟨b, he, hb, v2, L2, f2, n2, hT2, hk2, hp2, hf2, o2, hs2, hW2⟩ => by
    refine ⟨b, he, hb, ?_⟩
    have hF2 : Whl w' B W now (S.filter (keyNe k)) (fun q => q = W ∨ Ft T M v2 q) := ⟨T, M, v2, L2, f2, n2, hW2.trans hW, hB, hT2, hk2, ⟨hh.srt.filter _, hh.uq.filter _, fun x hx => hh.tk x (List.mem_filter.1 hx).1, hh.nw⟩, hp2, Nat.le_trans (List.length_filter_le _ _) hl, fun q => Iff.rfl⟩
    have o3 : Off F w w' := o2.mono fun q hq => (hF q).2 (Or.inr hq)
    exact ⟨_, hF2, o3, fun q hq => Or.inl (by
      rcases hq with hq | hq
      · exact (hF q).2 (Or.inl hq)
      · exact (hF q).2 (Or.inr (hs2 q hq)))⟩
  clear hT hk hh hp hl hF hW hWv hWl
  go_enter Tryd.func20, Tryd.ntmps20
  go_wp2_with (first | (go_at_call 27; refine hm.mono ?_; rintro _ w9 ⟨rfl, h9⟩; subst w9))
  refine HRm.out.mono ?_
  rintro _ w1 ⟨b, rfl, hb, HQ⟩
  have HB : Hid (b = true ↔ ∃ x ∈ S, x.1 = k) := hb
  clear hb
  go_wp2_with fail
  go_ret
  exact ⟨b, rfl, HB.out, HQ⟩
end Go.Proofs.YtmldpmnkjbdoaaaDoor
