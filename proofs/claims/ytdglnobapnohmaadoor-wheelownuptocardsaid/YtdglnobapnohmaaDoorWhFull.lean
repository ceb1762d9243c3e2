/-
  Set of a full wheel.
-/
import Derived.Test.YtdglnobapnohmaaDoorWhTop
namespace Go.Proofs.YtdglnobapnohmaaDoor
open Go.RowKit

/-- A fault of the wheel's, new. -/
def FltAt (w : World) (B b : Nat) (c : Int) : Prop := B ≤ b ∧ w.heap[b]? = some (.cells #[.string ⟨#[119, 104, 101, 101, 108]⟩, .int .i64 0, .int .i64 c, .nilIface] 60 (0, 0))
section
variable {w : World} {B W now : Nat} {S : List Tm} {F : Nat → Prop}
set_option maxHeartbeats 2000000 in
theorem set_full (h : Whl w B W now S F) {k : Int} {t : Nat} (hky : KeyI k) (h1 : now < t) (h2 : t ≤ MaxT) (hno : ∀ x ∈ S, x.1 ≠ k) (hfull : S.length = 4096) :
    Calls Tryd.prog 13 #[.pointer (some ⟨W, 0, none⟩), .int .i64 k, .int .i64 (t : Int)] w fun e w' => ∃ b, e = .returned (.iface 56 (.pointer (some ⟨b, 0, none⟩))) ∧ FltAt w' w.heap.size b 7 ∧ Below w.heap.size w w' := by
  obtain ⟨T, M, v, L, f, n, hW, hB, hT, hk, hh, hp, hl, hF⟩ := h
  have c := wcell hW
  have c0 := hT.tb.c0
  have hWl := blk_lt hW
  have hn : n = 4096 := by have := hk.nn; rw [List.append_nil, hp.length_eq, hfull] at this; exact this
  subst hn
  have hm := made_yes c
  have g1 : ¬ (t : Int) ≤ now := by omega
  have g2 : ¬ (t : Int) > 1099511627776 := by unfold MaxT at h2; omega
  have g3 : decide ((t : Int) ≤ now) = false := decide_eq_false g1
  have hat := at_no hT hky (hk.none_ fun x hx => hno x (hp.subset hx))
  have HA : Hid (Tms w B T M now v L f 4096 ∧ w.heap[W]? = some (.cells #[.pointer (some ⟨T, 0, none⟩)] 55 (0, 0))) := ⟨hT, hW⟩
  clear hT hk hp hF hW hh hl hno hfull
  go_enter Tryd.func13, Tryd.ntmps13
  go_wp2_with (first | (go_at_call 28; refine hm.mono ?_; rintro _ w9 ⟨rfl, h9⟩; subst w9))
  refine hat.mono ?_
  rintro _ w1 ⟨rfl, hb1⟩
  have HW1 : Hid (Tms w1 B T M now v L f 4096 ∧ w1.heap[W]? = some (.cells #[.pointer (some ⟨T, 0, none⟩)] 55 (0, 0)) ∧ Below w.heap.size w w1) := ⟨HA.out.1.below hb1, (hb1.block W hWl).trans HA.out.2, hb1⟩
  have c1 := wcell HW1.out.2.1
  have hc1 := count_any HW1.out.1
  clear hat hb1 c c0 hm
  go_wp2_with (first | (go_at_call 30; refine hc1.mono ?_; rintro _ w9 ⟨rfl, h9⟩; subst w9) | (go_at_call 10; refine (fault_any _ _).mono ?_; rintro _ w9 ⟨rfl, h9⟩; subst w9))
  go_ret
  exact ⟨w1.heap.size, rfl, ⟨HW1.out.2.2.size, by show (w1.heap.push _)[w1.heap.size]? = _; simp⟩, HW1.out.2.2.alloc HW1.out.2.2.size _⟩
end
end Go.Proofs.YtdglnobapnohmaaDoor
