/-
  The law's anchor.
-/
import Derived.Test.YtdglnobapnohmaaDoorWhNum
namespace Go.Proofs.YtdglnobapnohmaaDoor
open Go.RowKit

/-- A wheel of the call's own, beside nothing. -/
def WB (w : World) (W now : Nat) (S : List Tm) (wx : World) : Prop := ∃ F, Whl wx w.heap.size W now S F ∧ Below w.heap.size w wx
section
variable {w wx : World} {W now : Nat} {S : List Tm}
theorem WB.set (h : WB w W now S wx) {k : Int} {t : Nat} (hk : KeyI k) (h1 : now < t) (h2 : t ≤ MaxT) (hl : (S.filter (keyNe k)).length < 4096) :
    Calls Tryd.prog 13 #[.pointer (some ⟨W, 0, none⟩), .int .i64 k, .int .i64 (t : Int)] wx fun e w' => e = .returned .nilIface ∧ Hid (WB w W now (setS k t S) w') := by
  obtain ⟨F, hW, hb⟩ := h
  refine (set_ok hW hb.size hk h1 h2 hl).mono ?_
  rintro e w' ⟨he, F', hW', o, _⟩
  exact ⟨he, F', hW', hb.trans (o.below hb.size fun q hq => (hW.foot hq).1)⟩
theorem WB.adv (h : WB w W now S wx) {t : Nat} (h1 : now ≤ t) (h2 : t ≤ MaxT) :
    Calls Tryd.prog 14 #[.pointer (some ⟨W, 0, none⟩), .int .i64 (t : Int)] wx fun e w' => ∃ a n c, e = .returned (.tuple #[.slice a n c, .nilIface]) ∧ Hid (TRow w' w.heap.size (.slice a n c) (S.filter (upto t)) ∧ WB w W t (S.filter (past t)) w') := by
  obtain ⟨F, hW, hb⟩ := h
  refine (adv_ok hW hb.size h1 h2).mono ?_
  rintro e w' ⟨a, n, c, he, F', hW', hr, o, _, _⟩
  exact ⟨a, n, c, he, hr, F', hW', hb.trans (o.below hb.size fun q hq => (hW.foot hq).1)⟩
end
set_option maxRecDepth 100000 in
set_option maxHeartbeats 2000000 in
theorem anchor_true (w : World) : Calls Tryd.prog 7 #[] w fun e w' => e = .returned (.bool true) ∧ Below w.heap.size w w' := by
  have HN : Hid (Calls Tryd.prog 4 #[.int .i64 62] w fun e w' => e = .returned (.tuple #[.pointer (some ⟨w.heap.size + 1 + 1, 0, none⟩), .nilIface]) ∧ Hid (WB w (w.heap.size + 1 + 1) 62 [] w')) :=
    (new_whl (now := 62) w (by decide)).mono fun e w' ⟨he, F, hW, hb, _⟩ => ⟨he, F, hW, hb⟩
  go_enter Tryd.func7, Tryd.ntmps7
  go_wp2_with fail
  refine HN.out.mono ?_
  rintro _ w1 ⟨rfl, H1⟩
  obtain ⟨W, hW⟩ : ∃ q, w.heap.size + 1 + 1 = q := ⟨_, rfl⟩
  rw [hW] at H1 ⊢
  clear HN
  have HS1 : Hid (Calls Tryd.prog 13 #[.pointer (some ⟨W, 0, none⟩), .int .i64 2, .int .i64 64] w1 fun e w' => e = .returned .nilIface ∧ Hid (WB w W 62 [(2, 64)] w')) := H1.out.set (k := 2) (t := 64) ⟨by omega, by omega⟩ (by decide) (by decide) (by decide)
  go_wp2_with fail
  refine HS1.out.mono ?_
  rintro _ w2 ⟨rfl, H2⟩
  have HS2 : Hid (Calls Tryd.prog 13 #[.pointer (some ⟨W, 0, none⟩), .int .i64 1, .int .i64 64] w2 fun e w' => e = .returned .nilIface ∧ Hid (WB w W 62 [(1, 64), (2, 64)] w')) := H2.out.set (k := 1) (t := 64) ⟨by omega, by omega⟩ (by decide) (by decide) (by decide)
  clear HS1 H1
  go_wp2_with fail
  refine HS2.out.mono ?_
  rintro _ w3 ⟨rfl, H3⟩
  have HS3 : Hid (Calls Tryd.prog 13 #[.pointer (some ⟨W, 0, none⟩), .int .i64 3, .int .i64 4096] w3 fun e w' => e = .returned .nilIface ∧ Hid (WB w W 62 [(1, 64), (2, 64), (3, 4096)] w')) := H3.out.set (k := 3) (t := 4096) ⟨by omega, by omega⟩ (by decide) (by decide) (by decide)
  clear HS2 H2
  go_wp2_with fail
  refine HS3.out.mono ?_
  rintro _ w4 ⟨rfl, H4⟩
  have HS4 : Hid (Calls Tryd.prog 14 #[.pointer (some ⟨W, 0, none⟩), .int .i64 64] w4 fun e w' => ∃ a n c, e = .returned (.tuple #[.slice a n c, .nilIface]) ∧ Hid (TRow w' w.heap.size (.slice a n c) [(1, 64), (2, 64)] ∧ WB w W 64 [(3, 4096)] w')) := H4.out.adv (t := 64) (by decide) (by decide)
  clear HS3 H3
  go_wp2_with fail
  refine HS4.out.mono ?_
  rintro _ w5 ⟨a, n, c, rfl, H5⟩
  obtain ⟨hr5, F, hW5, hb5⟩ := H5.out
  obtain rfl : n = 2 := hr5.len
  have HX : Hid (Calls Tryd.prog 15 #[.pointer (some ⟨W, 0, none⟩)] w5 fun e w' => e = .returned (.tuple #[.int .i64 4096, .bool true]) ∧ Below w5.heap.size w5 w') := nexts_one hW5
  clear HS4 H4 hr5 hW5
  go_wp2_with fail
  refine HX.out.mono ?_
  rintro _ w6 ⟨rfl, hb6⟩
  have hr6 := H5.out.1.below hb6
  obtain ⟨g, rfl, _, hc0⟩ := hr6.at_ encT_len (j := 0) (x := (1, 64)) rfl
  obtain ⟨g', eg, _, hc1⟩ := hr6.at_ encT_len (j := 1) (x := (2, 64)) rfl
  obtain rfl : g = g' := by simpa using eg
  have q0 : w6.cell? ⟨g, 0, none⟩ = some (.int .i64 1) := hc0 0 (by omega)
  have q1 : w6.cell? ⟨g, 1, none⟩ = some (.int .i64 64) := hc0 1 (by omega)
  have q2 : w6.cell? ⟨g, 2, none⟩ = some (.int .i64 2) := hc1 0 (by omega)
  have q3 : w6.cell? ⟨g, 3, none⟩ = some (.int .i64 64) := hc1 1 (by omega)
  have HB : Hid (Below w.heap.size w w6) := hb5.trans (hb6.mono hb5.size)
  clear hc0 hc1 hr6 eg hb5 hb6 HX H5
  go_wp2_with fail
  go_ret
  exact ⟨rfl, HB.out⟩
end Go.Proofs.YtdglnobapnohmaaDoor
