import Derived.Test.YtoijhecphgdfnaaDoorOxHeard2
import Derived.Test.YtoijhecphgdfnaaDoorOxCopy
import Derived.LoopTactic
/-
  Load of nothing; a box of the law's own, from call to call.
-/
namespace Go.Proofs.YtoijhecphgdfnaaDoor
open Go.RowKit

set_option maxRecDepth 100000 in
set_option maxHeartbeats 1000000 in
theorem load_nil (sq : Bool) (tr : Int) (w : World) (h0 : 0 ≤ tr) (h1 : tr ≤ 16) : Calls Tryd.prog 8 #[.slice none 0 0, .bool sq, .int .i64 tr] w fun e w' => e = .returned (.tuple #[.pointer (some ⟨w.heap.size + 1, 0, none⟩), .nilIface]) ∧ w' = (w.alloc (.cells #[.func (.func 23) #[] #[], .slice none 0 0] 80)).alloc (.cells #[.pointer (some ⟨w.heap.size, 0, none⟩), .bool sq, .int .i64 tr] 82) := by
  have g0 : ¬ tr < 0 := by omega
  have g1 : ¬ tr > 16 := by omega
  go_enter Tryd.func8, Tryd.ntmps8
  go_wp2_with fail
  go_loopw [33] (fun t wx => t = .int .i64 0 ∧ wx = (w.alloc (.cells #[.func (.func 23) #[] #[], .slice none 0 0] 80)).alloc (.cells #[.pointer (some ⟨w.heap.size, 0, none⟩), .bool sq, .int .i64 tr] 82)) (fun _ _ => 0)
  case atStart => exact ⟨rfl, rfl⟩
  case round =>
    obtain ⟨rfl, hw⟩ := hrel
    go_wp2_with fail
    go_ret2
    exact ⟨rfl, rfl⟩
/-- A box of the law's own: nothing of it lay in W. -/
structure Li (W w : World) (b kb : Nat) (v : Value) (sq : Bool) (tr : Int) (ms : List Msg) : Prop where
  bx : Bx w b kb v sq tr ms
  bel : Below W.heap.size W w
  kb : W.heap.size ≤ kb
  v : ∀ q, v.ownBlock = some q → W.heap.size ≤ q
theorem load_li (W : World) (sq : Bool) (tr : Int) (w : World) (h0 : 0 ≤ tr) (h1 : tr ≤ 16) (hb : Below W.heap.size W w) : Calls Tryd.prog 8 #[.slice none 0 0, .bool sq, .int .i64 tr] w fun e w' => ∃ b kb v, e = .returned (.tuple #[.pointer (some ⟨b, 0, none⟩), .nilIface]) ∧ Hid (Li W w' b kb v sq tr [] ∧ Below w.heap.size w w') :=
  (load_nil sq tr w h0 h1).mono fun e w' ⟨he, hw⟩ => by
    subst hw
    have b2 : Below w.heap.size w ((w.alloc (.cells #[.func (.func 23) #[] #[], .slice none 0 0] 80)).alloc (.cells #[.pointer (some ⟨w.heap.size, 0, none⟩), .bool sq, .int .i64 tr] 82)) := ((Below.refl _ _).alloc (Nat.le_refl _) _).alloc (by simp) _
    refine ⟨w.heap.size + 1, w.heap.size, .slice none 0 0, he, ⟨⟨?_, ⟨?_, ERow.nil _ _ _ _ _, by simp⟩, fun m hm => by cases hm⟩, below_then hb b2, hb.size, fun q e => by cases e⟩, b2⟩
    · show ((w.heap.push _).push _)[w.heap.size + 1]? = _
      rw [Array.getElem?_push, if_pos (by simp)]
    · show ((w.heap.push _).push _)[w.heap.size]? = _
      rw [Array.getElem?_push, if_neg (by simp), Array.getElem?_push, if_pos rfl]
theorem Li.step {W w w' : World} {b kb : Nat} {v : Value} {sq : Bool} {tr : Int} {ms ms' : List Msg} (h : Li W w b kb v sq tr ms) (hq : BxQ w b kb v sq tr ms' w') : ∃ v', Li W w' b kb v' sq tr ms' := by
  obtain ⟨v', q1, q2, q3⟩ := hq
  refine ⟨v', q1, h.bel.trans (q2.below h.bel.size (fun k hk => ?_)), h.kb, fun q e => ?_⟩
  · rcases hk with rfl | e
    · exact h.kb
    · exact h.v k e
  · rcases q3 q e with g | g
    · exact h.v q g
    · exact Nat.le_trans h.bel.size g
theorem Li.below {W w w' : World} {b kb : Nat} {v : Value} {sq : Bool} {tr : Int} {ms : List Msg} (h : Li W w b kb v sq tr ms) (hb : Below w.heap.size w w') : Li W w' b kb v sq tr ms := ⟨h.bx.below hb, below_then h.bel hb, h.kb, h.v⟩
/-- What lies neither in the box's list nor in its row stays. -/
theorem Li.keep {W w w' : World} {b kb : Nat} {v : Value} {sq : Bool} {tr : Int} {ms ms' : List Msg} (_h : Li W w b kb v sq tr ms) (hq : BxQ w b kb v sq tr ms' w') : Off (fun q => q = kb ∨ v.ownBlock = some q) w w' := by
  obtain ⟨_, _, q2, _⟩ := hq
  exact q2
end Go.Proofs.YtoijhecphgdfnaaDoor

/-
  The law's looks: refused, Same, sameOut, sameSent.
-/
namespace Go.Proofs.YtoijhecphgdfnaaDoor
open Go.RowKit

set_option maxRecDepth 100000 in
set_option maxHeartbeats 1000000 in
theorem refused_fault {w : World} {b : Nat} {a c : Int} (hc0 : c ≠ 0) (h : OFault w b a c) : Calls Tryd.prog 10 #[.iface 91 (.pointer (some ⟨b, 0, none⟩)), .int .i64 a, .int .i64 c] w fun e w' => e = .returned (.bool true) ∧ w' = w := by
  obtain ⟨f0, f1, f2, f3⟩ := h
  have hc : (c == 0) = false := by simpa using hc0
  clear hc0
  have hta := asFault
  go_enter Tryd.func10, Tryd.ntmps10
  go_wp2
  go_ret
  exact ⟨rfl, rfl⟩
set_option maxRecDepth 100000 in
set_option maxHeartbeats 2000000 in
theorem memSame_true {w : World} {ao bo : Option Addr} {n ac bc : Nat} {xs : List Int} (ha : Byts w ao n xs) (hb : Byts w bo n xs) (hn : n ≤ 9223372036854775807) :
    Calls Tryd.prog 31 #[.slice ao n ac, .slice bo n bc] w fun e w' => e = .returned (.bool true) ∧ ∃ m, w' = w.drewN m := by
  have HA : Hid (Byts w ao n xs) := ha
  have HB : Hid (Byts w bo n xs) := hb
  clear ha hb
  go_enter Tryd.func31, Tryd.ntmps31
  go_wp2_with fail
  go_loopw [5] (fun ti wx => ∃ j m : Nat, j ≤ n ∧ ti = .int .i64 j ∧ wx = w.drewN m) (fun ti _ => n - (intOf ti).toNat)
  case atStart => exact ⟨0, 0, Nat.zero_le _, rfl, rfl⟩
  case round =>
    obtain ⟨j, m, hj, rfl, rfl⟩ := hrel
    by_cases hlt : j < n
    · obtain ⟨ab, aof, rfl, hal, hac⟩ := HA.out.cell j hlt
      obtain ⟨bb, bof, rfl, hbl, hbc⟩ := HB.out.cell j hlt
      have hlt1 : (j : Int) < n := by omega
      go_wp2_with fail
      go_quiet (fail)
      go_wp2_with fail
      go_roundw
      case rel => exact ⟨j + 1, _, hlt, by go_num, rfl⟩
      case measure => simp [intOf]; omega
    · have hlt1 : ¬ ((j : Int) < n) := by omega
      go_wp2_with fail
      go_ret
      exact ⟨rfl, _, rfl⟩
set_option maxRecDepth 100000 in
set_option maxHeartbeats 2000000 in
theorem sameOut_true (m : Msg) {w : World} {a a2 : Option Addr} {c c2 : Nat} (ha : Byts w a m.tn m.tx) (hb : Byts w a2 m.tn m.tx) (hn : m.tn ≤ 1000000) : Calls Tryd.prog 12 #[.agg #[.string m.ct, .slice a m.tn c, .bool m.e, .int .i64 m.a, .int .i64 m.p, .int .i64 m.nu, .bool m.nt], .agg #[.string m.ct, .slice a2 m.tn c2, .bool m.e, .int .i64 m.a, .int .i64 m.p, .int .i64 m.nu, .bool m.nt]] w fun e w' => e = .returned (.bool true) ∧ Below w.heap.size w w' := by
  have bv : Below w.heap.size w ((w.alloc (.cells #[.string m.ct, .slice a m.tn c, .bool m.e, .int .i64 m.a, .int .i64 m.p, .int .i64 m.nu, .bool m.nt] 48)).alloc (.cells #[.string m.ct, .slice a2 m.tn c2, .bool m.e, .int .i64 m.a, .int .i64 m.p, .int .i64 m.nu, .bool m.nt] 48)) := ((Below.refl _ _).alloc (Nat.le_refl _) _).alloc (by simp) _
  have hs := memSame_true (ac := c) (bc := c2) (ha.below bv) (hb.below bv) (by omega)
  have HB : Hid (Below w.heap.size w ((w.alloc (.cells #[.string m.ct, .slice a m.tn c, .bool m.e, .int .i64 m.a, .int .i64 m.p, .int .i64 m.nu, .bool m.nt] 48)).alloc (.cells #[.string m.ct, .slice a2 m.tn c2, .bool m.e, .int .i64 m.a, .int .i64 m.p, .int .i64 m.nu, .bool m.nt] 48))) := bv
  clear bv ha hb
  go_enter Tryd.func12, Tryd.ntmps12
  go_wp2_with fail
  refine hs.mono ?_
  rintro _ w1 ⟨rfl, k, rfl⟩
  clear hs
  go_wp2_with fail
  go_ret
  exact ⟨rfl, below_drewN HB.out k⟩
set_option maxRecDepth 100000 in
set_option maxHeartbeats 2000000 in
theorem sameSent_true (m : Msg) {w : World} {a a2 : Option Addr} {c c2 : Nat} (ha : Byts w a m.tn m.tx) (hb : Byts w a2 m.tn m.tx) (hn : m.tn ≤ 1000000) : Calls Tryd.prog 37 #[.agg #[.string m.ct, .slice a m.tn c, .bool m.e, .int .i64 m.a, .int .i64 m.p, .int .i64 m.nu, .bool m.nt, .int .i64 m.st, .int .i64 m.lf, .bool m.un], .agg #[.string m.ct, .slice a2 m.tn c2, .bool m.e, .int .i64 m.a, .int .i64 m.p, .int .i64 m.nu, .bool m.nt, .int .i64 m.st, .int .i64 m.lf, .bool m.un]] w fun e w' => e = .returned (.bool true) ∧ Below w.heap.size w w' := by
  have bv : Below w.heap.size w ((w.alloc (.cells #[.string m.ct, .slice a m.tn c, .bool m.e, .int .i64 m.a, .int .i64 m.p, .int .i64 m.nu, .bool m.nt, .int .i64 m.st, .int .i64 m.lf, .bool m.un] 74)).alloc (.cells #[.string m.ct, .slice a2 m.tn c2, .bool m.e, .int .i64 m.a, .int .i64 m.p, .int .i64 m.nu, .bool m.nt, .int .i64 m.st, .int .i64 m.lf, .bool m.un] 74)) := ((Below.refl _ _).alloc (Nat.le_refl _) _).alloc (by simp) _
  have hs := sameOut_true m (c := c) (c2 := c2) (ha.below bv) (hb.below bv) hn
  have bx := (Box.new w #[.string m.ct, .slice a m.tn c, .bool m.e, .int .i64 m.a, .int .i64 m.p, .int .i64 m.nu, .bool m.nt, .int .i64 m.st, .int .i64 m.lf, .bool m.un] 74).alloc (.cells #[.string m.ct, .slice a2 m.tn c2, .bool m.e, .int .i64 m.a, .int .i64 m.p, .int .i64 m.nu, .bool m.nt, .int .i64 m.st, .int .i64 m.lf, .bool m.un] 74)
  have by_ := Box.new (w.alloc (.cells #[.string m.ct, .slice a m.tn c, .bool m.e, .int .i64 m.a, .int .i64 m.p, .int .i64 m.nu, .bool m.nt, .int .i64 m.st, .int .i64 m.lf, .bool m.un] 74)) #[.string m.ct, .slice a2 m.tn c2, .bool m.e, .int .i64 m.a, .int .i64 m.p, .int .i64 m.nu, .bool m.nt, .int .i64 m.st, .int .i64 m.lf, .bool m.un] 74
  rw [World.size_alloc] at by_
  have HB : Hid (Below w.heap.size w ((w.alloc (.cells #[.string m.ct, .slice a m.tn c, .bool m.e, .int .i64 m.a, .int .i64 m.p, .int .i64 m.nu, .bool m.nt, .int .i64 m.st, .int .i64 m.lf, .bool m.un] 74)).alloc (.cells #[.string m.ct, .slice a2 m.tn c2, .bool m.e, .int .i64 m.a, .int .i64 m.p, .int .i64 m.nu, .bool m.nt, .int .i64 m.st, .int .i64 m.lf, .bool m.un] 74))) := bv
  clear bv ha hb
  go_enter Tryd.func37, Tryd.ntmps37
  go_wp2_with fail
  refine hs.mono ?_
  rintro _ w1 ⟨rfl, hb1⟩
  have cx := (bx.below hb1).cell
  have cy := (by_.below hb1).cell
  have HB1 : Hid (Below w.heap.size w w1) := below_then HB.out hb1
  clear hs bx by_ hb1
  go_wp2_with fail
  go_ret
  exact ⟨rfl, HB1.out⟩
end Go.Proofs.YtoijhecphgdfnaaDoor
