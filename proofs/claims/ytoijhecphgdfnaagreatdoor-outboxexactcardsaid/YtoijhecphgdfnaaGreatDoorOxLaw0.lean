import Derived.Test.YtoijhecphgdfnaaGreatDoorOxGive
import Derived.Test.YtoijhecphgdfnaaGreatDoorOxDo3
import Derived.Test.YtoijhecphgdfnaaGreatDoorOxHeardG
import Derived.Test.YtoijhecphgdfnaaGreatDoorOxRef
import Derived.LoopTactic
/-
  Heard: what is refused; an acknowledgement that tells the message's own number.
-/
namespace Go.Proofs.YtoijhecphgdfnaaGreatDoor
open Go.RowKit

section
variable {w w' : World} {b kb : Nat} {v : Value} {sq : Bool} {tr : Int} {ms : List Msg}
set_option maxRecDepth 100000 in
set_option maxHeartbeats 2000000 in
theorem heard_un {t s : ByteArray} {x cd : Int} (h : Calls Tryz.prog 63 #[.pointer (some ⟨b, 0, none⟩), .string t] w (ZFl w cd)) : Calls Tryz.prog 27 #[.pointer (some ⟨b, 0, none⟩), .string t, .string s, .int .i64 x] w (DFl w cd) := by
  go_enter Tryz.func27, Tryz.ntmps27
  go_wp2_with fail
  refine h.mono ?_
  rintro _ w1 ⟨z, rfl, hz, hf, hb⟩
  have HE : Hid (w.heap.size ≤ z ∧ (∀ o, OFault (w1.alloc o) z 0 cd) ∧ ∀ o, Below w.heap.size w (w1.alloc o)) := ⟨hz, fun o => hf.below ((Below.refl _ _).alloc (Nat.le_refl _) _), fun o => hb.alloc hb.size o⟩
  clear h hz hf hb
  go_wp2_with fail
  go_ret2
  exact ⟨z, rfl, HE.out.1, HE.out.2.1 _, HE.out.2.2 _⟩
set_option maxRecDepth 100000 in
set_option maxHeartbeats 2000000 in
theorem heard_given {t s : ByteArray} {i : Nat} {m : Msg} {x : Int} (h : Bx w b kb v sq tr ms) (hf : fi t ms = some i) (hm : ms[i]? = some m) (hu : m.un = true) (h0 : x ≠ 0) (hg : nmB x = false) : Calls Tryz.prog 27 #[.pointer (some ⟨b, 0, none⟩), .string t, .string s, .int .i64 x] w (DFl w 282) := by
  have hun := under_yes h t hf hm hu
  have hnb : ∀ z, Calls Tryz.prog 57 #[.int .i64 x] z fun e w' => e = .returned (.bool false) ∧ w' = z := fun z => by have := isNumber_any x z; rw [hg] at this; exact this
  have g0 : (x != 0) = true := by simpa using h0
  clear h hf hm hu hg h0
  go_enter Tryz.func27, Tryz.ntmps27
  go_wp2_with fail
  refine hun.mono ?_
  rintro _ w1 ⟨rfl, hb1⟩
  have HB1 : Hid (∀ o, Below w.heap.size w (w1.alloc o)) := fun o => hb1.alloc hb1.size o
  have HS : Hid (w.heap.size ≤ w1.heap.size) := hb1.size
  clear hun hb1
  go_wp2_with (first | (go_at_call 57; refine (hnb _).mono ?_; rintro _ w9 ⟨rfl, h9⟩; subst w9))
  refine (fault_any _ _ _).mono ?_
  rintro _ w2 ⟨rfl, hf2, hb2⟩
  have HE : Hid (OFault w2 (w1.heap.size + 1) 0 282 ∧ Below w.heap.size w w2) := ⟨by simpa using hf2, below_then (HB1.out _) hb2⟩
  clear hf2 hb2
  go_wp2_with fail
  go_ret2
  exact ⟨w1.heap.size + 1, rfl, by have := HS.out; omega, HE.out.1, HE.out.2⟩
set_option maxRecDepth 100000 in
set_option maxHeartbeats 4000000 in
theorem heard_strange {t s : ByteArray} {i : Nat} {m : Msg} {x : Int} (h : Bx w b kb v true tr ms) (hf : fi t ms = some i) (hm : ms[i]? = some m) (hu : m.un = true) (h0 : x ≠ 0) (hg : nmB x = true) (hx : x = m.nu) (hs : (s.toList == [67, 69] || s.toList == [65, 69]) = true) :
    Calls Tryz.prog 27 #[.pointer (some ⟨b, 0, none⟩), .string t, .string s, .int .i64 x] w (DoQ w b kb v true tr (deedsS m.ct [(6, nT)]) (doS ms { m with un := true } 0 [(6, nT)])) := by
  have hun := under_yes h t hf hm hu
  have hnb : ∀ z, Calls Tryz.prog 57 #[.int .i64 x] z fun e w' => e = .returned (.bool true) ∧ w' = z := fun z => by have := isNumber_any x z; rw [hg] at this; exact this
  have g0 : (x != 0) = true := by simpa using h0
  have g1 : (x == m.nu) = true := by simpa using hx
  obtain ⟨m0, hm0, he0, _⟩ := fi_some hf
  obtain rfl : m0 = m := by rw [hm] at hm0; exact (Option.some.inj hm0).symm
  have hfm : fi m0.ct ms = some i := by rw [str_of he0]; exact hf
  have HH : Hid (Bx w b kb v true tr ms ∧ fi m0.ct ms = some i ∧ Tx w m0) := ⟨h, hfm, h.2.2 m0 (List.mem_of_getElem? hm)⟩
  rw [hu] at hun
  obtain ⟨p, hp⟩ : ∃ p, (s.toList == [67, 69]) = p := ⟨_, rfl⟩
  obtain ⟨q, hq⟩ : ∃ q, (s.toList == [65, 69]) = q := ⟨_, rfl⟩
  rw [hp, hq] at hs
  clear h hf hm hu hg h0 hx hm0 he0 hfm
  go_enter Tryz.func27, Tryz.ntmps27
  go_wp2_with fail
  refine hun.mono ?_
  rintro _ w1 ⟨rfl, hb1⟩
  have x2 := Box.new w1 #[.string m0.ct, .slice m0.tp m0.tn m0.tc, .bool m0.e, .int .i64 m0.a, .int .i64 m0.p, .int .i64 m0.nu, .bool m0.nt, .int .i64 m0.st, .int .i64 m0.lf, .bool true] 91
  have HB2 : Hid (Below w.heap.size w (w1.alloc (.cells #[.string m0.ct, .slice m0.tp m0.tn m0.tc, .bool m0.e, .int .i64 m0.a, .int .i64 m0.p, .int .i64 m0.nu, .bool m0.nt, .int .i64 m0.st, .int .i64 m0.lf, .bool true] 91))) := hb1.alloc hb1.size _
  obtain ⟨W2, hW2⟩ : ∃ W, w1.alloc (.cells #[.string m0.ct, .slice m0.tp m0.tn m0.tc, .bool m0.e, .int .i64 m0.a, .int .i64 m0.p, .int .i64 m0.nu, .bool m0.nt, .int .i64 m0.st, .int .i64 m0.lf, .bool true] 91) = W := ⟨_, rfl⟩
  rw [hW2] at x2 HB2
  have s1 := hcell (HH.out.1.below HB2.out).1 1
  have lb := (HH.out.1.below HB2.out).lt
  have cx2 := x2.cell
  have HB3 : Hid (Below w.heap.size w (W2.alloc (.cells #[.int .i64 6, .string ⟨#[]⟩] 103)) ∧ Acts (W2.alloc (.cells #[.int .i64 6, .string ⟨#[]⟩] 103)) W2.heap.size (.slice (some ⟨W2.heap.size, 0, none⟩) 1 1) [(6, nT)]) := by
    refine ⟨HB2.out.alloc HB2.out.size _, ActRow.acts (ActRow.lit' _ _ [(6, nT)] W2.heap.size 1 _ rfl (by simp) rfl rfl (by simp) (Nat.le_refl _))⟩
  clear hb1 hun
  cases p with
  | true =>
    clear hs hq
    go_wp2_with (first | (go_at_call 57; refine (hnb _).mono ?_; rintro _ w9 ⟨rfl, h9⟩; subst w9))
    clear hW2 s1 lb cx2 hnb g0 g1 hp
    refine (do_ok (m := { m0 with un := true }) (x := 0) (i0 := i) (l := [(6, nT)]) (N := W2.heap.size) (HH.out.1.below HB3.out.1) HH.out.2.1 ((HH.out.2.2.below HB3.out.1).same rfl rfl rfl rfl) HB3.out.2 (by simp)).mono ?_
    rintro _ w6 ⟨a6, c6, rfl, r6, q6⟩
    have HZ : Hid (DRow w6 w.heap.size (.slice a6 (deedsS m0.ct [(6, nT)]).length c6) (deedsS m0.ct [(6, nT)]) ∧ BxQ w b kb v true tr (doS ms { m0 with un := true } 0 [(6, nT)]) w6) := ⟨ERow.base r6 HB3.out.1.size, q6.of_below HB3.out.1⟩
    clear r6 q6
    go_wp2_with fail
    go_ret2
    exact ⟨a6, c6, rfl, HZ.out.1, HZ.out.2⟩
  | false =>
    obtain rfl : q = true := by simpa using hs
    clear hs
    go_wp2_with (first | (go_at_call 57; refine (hnb _).mono ?_; rintro _ w9 ⟨rfl, h9⟩; subst w9))
    clear hW2 s1 lb cx2 hnb g0 g1 hp hq
    refine (do_ok (m := { m0 with un := true }) (x := 0) (i0 := i) (l := [(6, nT)]) (N := W2.heap.size) (HH.out.1.below HB3.out.1) HH.out.2.1 ((HH.out.2.2.below HB3.out.1).same rfl rfl rfl rfl) HB3.out.2 (by simp)).mono ?_
    rintro _ w6 ⟨a6, c6, rfl, r6, q6⟩
    have HZ : Hid (DRow w6 w.heap.size (.slice a6 (deedsS m0.ct [(6, nT)]).length c6) (deedsS m0.ct [(6, nT)]) ∧ BxQ w b kb v true tr (doS ms { m0 with un := true } 0 [(6, nT)]) w6) := ⟨ERow.base r6 HB3.out.1.size, q6.of_below HB3.out.1⟩
    clear r6 q6
    go_wp2_with fail
    go_ret2
    exact ⟨a6, c6, rfl, HZ.out.1, HZ.out.2⟩
end
end Go.Proofs.YtoijhecphgdfnaaGreatDoor

/-
  Load of nothing; a box of the law's own, from call to call.
-/
namespace Go.Proofs.YtoijhecphgdfnaaGreatDoor
open Go.RowKit

/-- A box of the law's own: nothing of it lay in W. -/
structure Li (W w : World) (b kb : Nat) (v : Value) (sq : Bool) (tr : Int) (ms : List Msg) : Prop where
  bx : Bx w b kb v sq tr ms
  bel : Below W.heap.size W w
  kb : W.heap.size ≤ kb
  v : ∀ q, v.ownBlock = some q → W.heap.size ≤ q
theorem Li.step {W w w' : World} {b kb : Nat} {v : Value} {sq : Bool} {tr : Int} {ms ms' : List Msg} (h : Li W w b kb v sq tr ms) (hq : BxQ w b kb v sq tr ms' w') : ∃ v', Li W w' b kb v' sq tr ms' := by
  obtain ⟨v', q1, q2, q3⟩ := hq
  refine ⟨v', q1, h.bel.trans (q2.below h.bel.size (fun k hk => ?_)), h.kb, fun q e => ?_⟩
  · rcases hk with rfl | e
    · exact h.kb
    · exact h.v k e
  · rcases q3 q e with g | g
    · exact h.v q g
    · exact Nat.le_trans h.bel.size g
theorem Li.below {W w w' : World} {b kb : Nat} {v : Value} {sq : Bool} {tr : Int} {ms : List Msg} (h : Li W w b kb v sq tr ms) (hb : Below w.heap.size w w') : Li W w' b kb v sq tr ms := ⟨h.bx.below hb, below_then h.bel hb, h.kb, h.v⟩
/-- What lies neither in the box's list nor in its row stays. -/
theorem Li.keep {W w w' : World} {b kb : Nat} {v : Value} {sq : Bool} {tr : Int} {ms ms' : List Msg} (_h : Li W w b kb v sq tr ms) (hq : BxQ w b kb v sq tr ms' w') : Off (fun q => q = kb ∨ v.ownBlock = some q) w w' := by
  obtain ⟨_, _, q2, _⟩ := hq
  exact q2
end Go.Proofs.YtoijhecphgdfnaaGreatDoor

/-
  The law's looks: refused, Same, sameOut, sameSent.
-/
namespace Go.Proofs.YtoijhecphgdfnaaGreatDoor
open Go.RowKit

set_option maxRecDepth 100000 in
set_option maxHeartbeats 1000000 in
theorem refused_fault {w : World} {b : Nat} {a c : Int} (hc0 : c ≠ 0) (h : OFault w b a c) : Calls Tryz.prog 13 #[.iface 122 (.pointer (some ⟨b, 0, none⟩)), .int .i64 a, .int .i64 c] w fun e w' => e = .returned (.bool true) ∧ w' = w := by
  obtain ⟨f0, f1, f2, f3⟩ := h
  have hc : (c == 0) = false := by simpa using hc0
  clear hc0
  have hta := asFault
  go_enter Tryz.func13, Tryz.ntmps13
  go_wp2
  go_ret
  exact ⟨rfl, rfl⟩
set_option maxRecDepth 100000 in
set_option maxHeartbeats 2000000 in
theorem memSame_true {w : World} {ao bo : Option Addr} {n ac bc : Nat} {xs : List Int} (ha : Byts w ao n xs) (hb : Byts w bo n xs) (hn : n ≤ 9223372036854775807) :
    Calls Tryz.prog 51 #[.slice ao n ac, .slice bo n bc] w fun e w' => e = .returned (.bool true) ∧ ∃ m, w' = w.drewN m := by
  have HA : Hid (Byts w ao n xs) := ha
  have HB : Hid (Byts w bo n xs) := hb
  clear ha hb
  go_enter Tryz.func51, Tryz.ntmps51
  go_wp2_with fail
  go_loopw [5] (fun ti wx => ∃ j m : Nat, j ≤ n ∧ ti = .int .i64 j ∧ wx = w.drewN m) (fun ti _ => n - (intOf ti).toNat)
  case atStart => exact ⟨0, 0, Nat.zero_le _, rfl, rfl⟩
  case round =>
    obtain ⟨j, m, hj, rfl, rfl⟩ := hrel
    by_cases hlt : j < n
    · obtain ⟨ab, aof, rfl, hal, hac⟩ := HA.out.cell j hlt
      obtain ⟨bb, bof, rfl, hbl, hbc⟩ := HB.out.cell j hlt
      have hlt1 : (j : Int) < n := by omega
      go_wp2_with fail
      go_quiet (fail)
      go_wp2_with fail
      go_roundw
      case rel => exact ⟨j + 1, _, hlt, by go_num, rfl⟩
      case measure => simp [intOf]; omega
    · have hlt1 : ¬ ((j : Int) < n) := by omega
      go_wp2_with fail
      go_ret
      exact ⟨rfl, _, rfl⟩
set_option maxRecDepth 100000 in
set_option maxHeartbeats 2000000 in
theorem sameOut_true (m : Msg) {w : World} {a a2 : Option Addr} {c c2 : Nat} (ha : Byts w a m.tn m.tx) (hb : Byts w a2 m.tn m.tx) (hn : m.tn ≤ 1000000) : Calls Tryz.prog 15 #[.agg #[.string m.ct, .slice a m.tn c, .bool m.e, .int .i64 m.a, .int .i64 m.p, .int .i64 m.nu, .bool m.nt], .agg #[.string m.ct, .slice a2 m.tn c2, .bool m.e, .int .i64 m.a, .int .i64 m.p, .int .i64 m.nu, .bool m.nt]] w fun e w' => e = .returned (.bool true) ∧ Below w.heap.size w w' := by
  have bv : Below w.heap.size w ((w.alloc (.cells #[.string m.ct, .slice a m.tn c, .bool m.e, .int .i64 m.a, .int .i64 m.p, .int .i64 m.nu, .bool m.nt] 58)).alloc (.cells #[.string m.ct, .slice a2 m.tn c2, .bool m.e, .int .i64 m.a, .int .i64 m.p, .int .i64 m.nu, .bool m.nt] 58)) := ((Below.refl _ _).alloc (Nat.le_refl _) _).alloc (by simp) _
  have hs := memSame_true (ac := c) (bc := c2) (ha.below bv) (hb.below bv) (by omega)
  have HB : Hid (Below w.heap.size w ((w.alloc (.cells #[.string m.ct, .slice a m.tn c, .bool m.e, .int .i64 m.a, .int .i64 m.p, .int .i64 m.nu, .bool m.nt] 58)).alloc (.cells #[.string m.ct, .slice a2 m.tn c2, .bool m.e, .int .i64 m.a, .int .i64 m.p, .int .i64 m.nu, .bool m.nt] 58))) := bv
  clear bv ha hb
  go_enter Tryz.func15, Tryz.ntmps15
  go_wp2_with fail
  refine hs.mono ?_
  rintro _ w1 ⟨rfl, k, rfl⟩
  clear hs
  go_wp2_with fail
  go_ret
  exact ⟨rfl, below_drewN HB.out k⟩
set_option maxRecDepth 100000 in
set_option maxHeartbeats 2000000 in
theorem sameSent_true (m : Msg) {w : World} {a a2 : Option Addr} {c c2 : Nat} (ha : Byts w a m.tn m.tx) (hb : Byts w a2 m.tn m.tx) (hn : m.tn ≤ 1000000) : Calls Tryz.prog 33 #[.agg #[.string m.ct, .slice a m.tn c, .bool m.e, .int .i64 m.a, .int .i64 m.p, .int .i64 m.nu, .bool m.nt, .int .i64 m.st, .int .i64 m.lf, .bool m.un], .agg #[.string m.ct, .slice a2 m.tn c2, .bool m.e, .int .i64 m.a, .int .i64 m.p, .int .i64 m.nu, .bool m.nt, .int .i64 m.st, .int .i64 m.lf, .bool m.un]] w fun e w' => e = .returned (.bool true) ∧ Below w.heap.size w w' := by
  have bv : Below w.heap.size w ((w.alloc (.cells #[.string m.ct, .slice a m.tn c, .bool m.e, .int .i64 m.a, .int .i64 m.p, .int .i64 m.nu, .bool m.nt, .int .i64 m.st, .int .i64 m.lf, .bool m.un] 91)).alloc (.cells #[.string m.ct, .slice a2 m.tn c2, .bool m.e, .int .i64 m.a, .int .i64 m.p, .int .i64 m.nu, .bool m.nt, .int .i64 m.st, .int .i64 m.lf, .bool m.un] 91)) := ((Below.refl _ _).alloc (Nat.le_refl _) _).alloc (by simp) _
  have hs := sameOut_true m (c := c) (c2 := c2) (ha.below bv) (hb.below bv) hn
  have bx := (Box.new w #[.string m.ct, .slice a m.tn c, .bool m.e, .int .i64 m.a, .int .i64 m.p, .int .i64 m.nu, .bool m.nt, .int .i64 m.st, .int .i64 m.lf, .bool m.un] 91).alloc (.cells #[.string m.ct, .slice a2 m.tn c2, .bool m.e, .int .i64 m.a, .int .i64 m.p, .int .i64 m.nu, .bool m.nt, .int .i64 m.st, .int .i64 m.lf, .bool m.un] 91)
  have by_ := Box.new (w.alloc (.cells #[.string m.ct, .slice a m.tn c, .bool m.e, .int .i64 m.a, .int .i64 m.p, .int .i64 m.nu, .bool m.nt, .int .i64 m.st, .int .i64 m.lf, .bool m.un] 91)) #[.string m.ct, .slice a2 m.tn c2, .bool m.e, .int .i64 m.a, .int .i64 m.p, .int .i64 m.nu, .bool m.nt, .int .i64 m.st, .int .i64 m.lf, .bool m.un] 91
  rw [World.size_alloc] at by_
  have HB : Hid (Below w.heap.size w ((w.alloc (.cells #[.string m.ct, .slice a m.tn c, .bool m.e, .int .i64 m.a, .int .i64 m.p, .int .i64 m.nu, .bool m.nt, .int .i64 m.st, .int .i64 m.lf, .bool m.un] 91)).alloc (.cells #[.string m.ct, .slice a2 m.tn c2, .bool m.e, .int .i64 m.a, .int .i64 m.p, .int .i64 m.nu, .bool m.nt, .int .i64 m.st, .int .i64 m.lf, .bool m.un] 91))) := bv
  clear bv ha hb
  go_enter Tryz.func33, Tryz.ntmps33
  go_wp2_with fail
  refine hs.mono ?_
  rintro _ w1 ⟨rfl, hb1⟩
  have cx := (bx.below hb1).cell
  have cy := (by_.below hb1).cell
  have HB1 : Hid (Below w.heap.size w w1) := below_then HB.out hb1
  clear hs bx by_ hb1
  go_wp2_with fail
  go_ret
  exact ⟨rfl, HB1.out⟩
end Go.Proofs.YtoijhecphgdfnaaGreatDoor
