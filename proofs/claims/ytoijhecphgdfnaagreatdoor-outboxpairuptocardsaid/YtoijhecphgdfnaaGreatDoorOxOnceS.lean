import Derived.Test.YtoijhecphgdfnaaGreatDoorOxGive
import Derived.Test.YtoijhecphgdfnaaGreatDoorOxDo3
import Derived.Test.YtoijhecphgdfnaaGreatDoorOxHeardG
import Derived.Test.YtoijhecphgdfnaaGreatDoorOxRef
import Derived.LoopTactic
import Derived.Test.YtoijhecphgdfnaaGreatDoorDcPa
import Derived.SizedLaws
import Derived.Lib.SlBytesConst
/-
  Heard: what is refused; an acknowledgement that tells the message's own number.
-/
namespace Go.Proofs.YtoijhecphgdfnaaGreatDoor
open Go.RowKit

section
variable {w w' : World} {b kb : Nat} {v : Value} {sq : Bool} {tr : Int} {ms : List Msg}
set_option maxRecDepth 100000 in
set_option maxHeartbeats 2000000 in
theorem heard_un {t s : ByteArray} {x cd : Int} (h : Calls Tryz.prog 63 #[.pointer (some ⟨b, 0, none⟩), .string t] w (ZFl w cd)) : Calls Tryz.prog 27 #[.pointer (some ⟨b, 0, none⟩), .string t, .string s, .int .i64 x] w (DFl w cd) := by
  go_enter Tryz.func27, Tryz.ntmps27
  go_wp2_with fail
  refine h.mono ?_
  rintro _ w1 ⟨z, rfl, hz, hf, hb⟩
  have HE : Hid (w.heap.size ≤ z ∧ (∀ o, OFault (w1.alloc o) z 0 cd) ∧ ∀ o, Below w.heap.size w (w1.alloc o)) := ⟨hz, fun o => hf.below ((Below.refl _ _).alloc (Nat.le_refl _) _), fun o => hb.alloc hb.size o⟩
  clear h hz hf hb
  go_wp2_with fail
  go_ret2
  exact ⟨z, rfl, HE.out.1, HE.out.2.1 _, HE.out.2.2 _⟩
set_option maxRecDepth 100000 in
set_option maxHeartbeats 2000000 in
theorem heard_given {t s : ByteArray} {i : Nat} {m : Msg} {x : Int} (h : Bx w b kb v sq tr ms) (hf : fi t ms = some i) (hm : ms[i]? = some m) (hu : m.un = true) (h0 : x ≠ 0) (hg : nmB x = false) : Calls Tryz.prog 27 #[.pointer (some ⟨b, 0, none⟩), .string t, .string s, .int .i64 x] w (DFl w 282) := by
  have hun := under_yes h t hf hm hu
  have hnb : ∀ z, Calls Tryz.prog 57 #[.int .i64 x] z fun e w' => e = .returned (.bool false) ∧ w' = z := fun z => by have := isNumber_any x z; rw [hg] at this; exact this
  have g0 : (x != 0) = true := by simpa using h0
  clear h hf hm hu hg h0
  go_enter Tryz.func27, Tryz.ntmps27
  go_wp2_with fail
  refine hun.mono ?_
  rintro _ w1 ⟨rfl, hb1⟩
  have HB1 : Hid (∀ o, Below w.heap.size w (w1.alloc o)) := fun o => hb1.alloc hb1.size o
  have HS : Hid (w.heap.size ≤ w1.heap.size) := hb1.size
  clear hun hb1
  go_wp2_with (first | (go_at_call 57; refine (hnb _).mono ?_; rintro _ w9 ⟨rfl, h9⟩; subst w9))
  refine (fault_any _ _ _).mono ?_
  rintro _ w2 ⟨rfl, hf2, hb2⟩
  have HE : Hid (OFault w2 (w1.heap.size + 1) 0 282 ∧ Below w.heap.size w w2) := ⟨by simpa using hf2, below_then (HB1.out _) hb2⟩
  clear hf2 hb2
  go_wp2_with fail
  go_ret2
  exact ⟨w1.heap.size + 1, rfl, by have := HS.out; omega, HE.out.1, HE.out.2⟩
set_option maxRecDepth 100000 in
set_option maxHeartbeats 4000000 in
theorem heard_strange {t s : ByteArray} {i : Nat} {m : Msg} {x : Int} (h : Bx w b kb v true tr ms) (hf : fi t ms = some i) (hm : ms[i]? = some m) (hu : m.un = true) (h0 : x ≠ 0) (hg : nmB x = true) (hx : x = m.nu) (hs : (s.toList == [67, 69] || s.toList == [65, 69]) = true) :
    Calls Tryz.prog 27 #[.pointer (some ⟨b, 0, none⟩), .string t, .string s, .int .i64 x] w (DoQ w b kb v true tr (deedsS m.ct [(6, nT)]) (doS ms { m with un := true } 0 [(6, nT)])) := by
  have hun := under_yes h t hf hm hu
  have hnb : ∀ z, Calls Tryz.prog 57 #[.int .i64 x] z fun e w' => e = .returned (.bool true) ∧ w' = z := fun z => by have := isNumber_any x z; rw [hg] at this; exact this
  have g0 : (x != 0) = true := by simpa using h0
  have g1 : (x == m.nu) = true := by simpa using hx
  obtain ⟨m0, hm0, he0, _⟩ := fi_some hf
  obtain rfl : m0 = m := by rw [hm] at hm0; exact (Option.some.inj hm0).symm
  have hfm : fi m0.ct ms = some i := by rw [str_of he0]; exact hf
  have HH : Hid (Bx w b kb v true tr ms ∧ fi m0.ct ms = some i ∧ Tx w m0) := ⟨h, hfm, h.2.2 m0 (List.mem_of_getElem? hm)⟩
  rw [hu] at hun
  obtain ⟨p, hp⟩ : ∃ p, (s.toList == [67, 69]) = p := ⟨_, rfl⟩
  obtain ⟨q, hq⟩ : ∃ q, (s.toList == [65, 69]) = q := ⟨_, rfl⟩
  rw [hp, hq] at hs
  clear h hf hm hu hg h0 hx hm0 he0 hfm
  go_enter Tryz.func27, Tryz.ntmps27
  go_wp2_with fail
  refine hun.mono ?_
  rintro _ w1 ⟨rfl, hb1⟩
  have x2 := Box.new w1 #[.string m0.ct, .slice m0.tp m0.tn m0.tc, .bool m0.e, .int .i64 m0.a, .int .i64 m0.p, .int .i64 m0.nu, .bool m0.nt, .int .i64 m0.st, .int .i64 m0.lf, .bool true] 91
  have HB2 : Hid (Below w.heap.size w (w1.alloc (.cells #[.string m0.ct, .slice m0.tp m0.tn m0.tc, .bool m0.e, .int .i64 m0.a, .int .i64 m0.p, .int .i64 m0.nu, .bool m0.nt, .int .i64 m0.st, .int .i64 m0.lf, .bool true] 91))) := hb1.alloc hb1.size _
  obtain ⟨W2, hW2⟩ : ∃ W, w1.alloc (.cells #[.string m0.ct, .slice m0.tp m0.tn m0.tc, .bool m0.e, .int .i64 m0.a, .int .i64 m0.p, .int .i64 m0.nu, .bool m0.nt, .int .i64 m0.st, .int .i64 m0.lf, .bool true] 91) = W := ⟨_, rfl⟩
  rw [hW2] at x2 HB2
  have s1 := hcell (HH.out.1.below HB2.out).1 1
  have lb := (HH.out.1.below HB2.out).lt
  have cx2 := x2.cell
  have HB3 : Hid (Below w.heap.size w (W2.alloc (.cells #[.int .i64 6, .string ⟨#[]⟩] 103)) ∧ Acts (W2.alloc (.cells #[.int .i64 6, .string ⟨#[]⟩] 103)) W2.heap.size (.slice (some ⟨W2.heap.size, 0, none⟩) 1 1) [(6, nT)]) := by
    refine ⟨HB2.out.alloc HB2.out.size _, ActRow.acts (ActRow.lit' _ _ [(6, nT)] W2.heap.size 1 _ rfl (by simp) rfl rfl (by simp) (Nat.le_refl _))⟩
  clear hb1 hun
  cases p with
  | true =>
    clear hs hq
    go_wp2_with (first | (go_at_call 57; refine (hnb _).mono ?_; rintro _ w9 ⟨rfl, h9⟩; subst w9))
    clear hW2 s1 lb cx2 hnb g0 g1 hp
    refine (do_ok (m := { m0 with un := true }) (x := 0) (i0 := i) (l := [(6, nT)]) (N := W2.heap.size) (HH.out.1.below HB3.out.1) HH.out.2.1 ((HH.out.2.2.below HB3.out.1).same rfl rfl rfl rfl) HB3.out.2 (by simp)).mono ?_
    rintro _ w6 ⟨a6, c6, rfl, r6, q6⟩
    have HZ : Hid (DRow w6 w.heap.size (.slice a6 (deedsS m0.ct [(6, nT)]).length c6) (deedsS m0.ct [(6, nT)]) ∧ BxQ w b kb v true tr (doS ms { m0 with un := true } 0 [(6, nT)]) w6) := ⟨ERow.base r6 HB3.out.1.size, q6.of_below HB3.out.1⟩
    clear r6 q6
    go_wp2_with fail
    go_ret2
    exact ⟨a6, c6, rfl, HZ.out.1, HZ.out.2⟩
  | false =>
    obtain rfl : q = true := by simpa using hs
    clear hs
    go_wp2_with (first | (go_at_call 57; refine (hnb _).mono ?_; rintro _ w9 ⟨rfl, h9⟩; subst w9))
    clear hW2 s1 lb cx2 hnb g0 g1 hp hq
    refine (do_ok (m := { m0 with un := true }) (x := 0) (i0 := i) (l := [(6, nT)]) (N := W2.heap.size) (HH.out.1.below HB3.out.1) HH.out.2.1 ((HH.out.2.2.below HB3.out.1).same rfl rfl rfl rfl) HB3.out.2 (by simp)).mono ?_
    rintro _ w6 ⟨a6, c6, rfl, r6, q6⟩
    have HZ : Hid (DRow w6 w.heap.size (.slice a6 (deedsS m0.ct [(6, nT)]).length c6) (deedsS m0.ct [(6, nT)]) ∧ BxQ w b kb v true tr (doS ms { m0 with un := true } 0 [(6, nT)]) w6) := ⟨ERow.base r6 HB3.out.1.size, q6.of_below HB3.out.1⟩
    clear r6 q6
    go_wp2_with fail
    go_ret2
    exact ⟨a6, c6, rfl, HZ.out.1, HZ.out.2⟩
end
end Go.Proofs.YtoijhecphgdfnaaGreatDoor

/-
  Load of nothing; a box of the law's own, from call to call.
-/
namespace Go.Proofs.YtoijhecphgdfnaaGreatDoor
open Go.RowKit

/-- A box of the law's own: nothing of it lay in W. -/
structure Li (W w : World) (b kb : Nat) (v : Value) (sq : Bool) (tr : Int) (ms : List Msg) : Prop where
  bx : Bx w b kb v sq tr ms
  bel : Below W.heap.size W w
  kb : W.heap.size ≤ kb
  v : ∀ q, v.ownBlock = some q → W.heap.size ≤ q
theorem Li.step {W w w' : World} {b kb : Nat} {v : Value} {sq : Bool} {tr : Int} {ms ms' : List Msg} (h : Li W w b kb v sq tr ms) (hq : BxQ w b kb v sq tr ms' w') : ∃ v', Li W w' b kb v' sq tr ms' := by
  obtain ⟨v', q1, q2, q3⟩ := hq
  refine ⟨v', q1, h.bel.trans (q2.below h.bel.size (fun k hk => ?_)), h.kb, fun q e => ?_⟩
  · rcases hk with rfl | e
    · exact h.kb
    · exact h.v k e
  · rcases q3 q e with g | g
    · exact h.v q g
    · exact Nat.le_trans h.bel.size g
theorem Li.below {W w w' : World} {b kb : Nat} {v : Value} {sq : Bool} {tr : Int} {ms : List Msg} (h : Li W w b kb v sq tr ms) (hb : Below w.heap.size w w') : Li W w' b kb v sq tr ms := ⟨h.bx.below hb, below_then h.bel hb, h.kb, h.v⟩
/-- What lies neither in the box's list nor in its row stays. -/
theorem Li.keep {W w w' : World} {b kb : Nat} {v : Value} {sq : Bool} {tr : Int} {ms ms' : List Msg} (_h : Li W w b kb v sq tr ms) (hq : BxQ w b kb v sq tr ms' w') : Off (fun q => q = kb ∨ v.ownBlock = some q) w w' := by
  obtain ⟨_, _, q2, _⟩ := hq
  exact q2
end Go.Proofs.YtoijhecphgdfnaaGreatDoor

/-
  The law's looks: refused, Same, sameOut, sameSent.
-/
namespace Go.Proofs.YtoijhecphgdfnaaGreatDoor
open Go.RowKit

set_option maxRecDepth 100000 in
set_option maxHeartbeats 1000000 in
theorem refused_fault {w : World} {b : Nat} {a c : Int} (hc0 : c ≠ 0) (h : OFault w b a c) : Calls Tryz.prog 13 #[.iface 122 (.pointer (some ⟨b, 0, none⟩)), .int .i64 a, .int .i64 c] w fun e w' => e = .returned (.bool true) ∧ w' = w := by
  obtain ⟨f0, f1, f2, f3⟩ := h
  have hc : (c == 0) = false := by simpa using hc0
  clear hc0
  have hta := asFault
  go_enter Tryz.func13, Tryz.ntmps13
  go_wp2
  go_ret
  exact ⟨rfl, rfl⟩
set_option maxRecDepth 100000 in
set_option maxHeartbeats 2000000 in
theorem memSame_true {w : World} {ao bo : Option Addr} {n ac bc : Nat} {xs : List Int} (ha : Byts w ao n xs) (hb : Byts w bo n xs) (hn : n ≤ 9223372036854775807) :
    Calls Tryz.prog 51 #[.slice ao n ac, .slice bo n bc] w fun e w' => e = .returned (.bool true) ∧ ∃ m, w' = w.drewN m := by
  have HA : Hid (Byts w ao n xs) := ha
  have HB : Hid (Byts w bo n xs) := hb
  clear ha hb
  go_enter Tryz.func51, Tryz.ntmps51
  go_wp2_with fail
  go_loopw [5] (fun ti wx => ∃ j m : Nat, j ≤ n ∧ ti = .int .i64 j ∧ wx = w.drewN m) (fun ti _ => n - (intOf ti).toNat)
  case atStart => exact ⟨0, 0, Nat.zero_le _, rfl, rfl⟩
  case round =>
    obtain ⟨j, m, hj, rfl, rfl⟩ := hrel
    by_cases hlt : j < n
    · obtain ⟨ab, aof, rfl, hal, hac⟩ := HA.out.cell j hlt
      obtain ⟨bb, bof, rfl, hbl, hbc⟩ := HB.out.cell j hlt
      have hlt1 : (j : Int) < n := by omega
      go_wp2_with fail
      go_quiet (fail)
      go_wp2_with fail
      go_roundw
      case rel => exact ⟨j + 1, _, hlt, by go_num, rfl⟩
      case measure => simp [intOf]; omega
    · have hlt1 : ¬ ((j : Int) < n) := by omega
      go_wp2_with fail
      go_ret
      exact ⟨rfl, _, rfl⟩
set_option maxRecDepth 100000 in
set_option maxHeartbeats 2000000 in
theorem sameOut_true (m : Msg) {w : World} {a a2 : Option Addr} {c c2 : Nat} (ha : Byts w a m.tn m.tx) (hb : Byts w a2 m.tn m.tx) (hn : m.tn ≤ 1000000) : Calls Tryz.prog 15 #[.agg #[.string m.ct, .slice a m.tn c, .bool m.e, .int .i64 m.a, .int .i64 m.p, .int .i64 m.nu, .bool m.nt], .agg #[.string m.ct, .slice a2 m.tn c2, .bool m.e, .int .i64 m.a, .int .i64 m.p, .int .i64 m.nu, .bool m.nt]] w fun e w' => e = .returned (.bool true) ∧ Below w.heap.size w w' := by
  have bv : Below w.heap.size w ((w.alloc (.cells #[.string m.ct, .slice a m.tn c, .bool m.e, .int .i64 m.a, .int .i64 m.p, .int .i64 m.nu, .bool m.nt] 58)).alloc (.cells #[.string m.ct, .slice a2 m.tn c2, .bool m.e, .int .i64 m.a, .int .i64 m.p, .int .i64 m.nu, .bool m.nt] 58)) := ((Below.refl _ _).alloc (Nat.le_refl _) _).alloc (by simp) _
  have hs := memSame_true (ac := c) (bc := c2) (ha.below bv) (hb.below bv) (by omega)
  have HB : Hid (Below w.heap.size w ((w.alloc (.cells #[.string m.ct, .slice a m.tn c, .bool m.e, .int .i64 m.a, .int .i64 m.p, .int .i64 m.nu, .bool m.nt] 58)).alloc (.cells #[.string m.ct, .slice a2 m.tn c2, .bool m.e, .int .i64 m.a, .int .i64 m.p, .int .i64 m.nu, .bool m.nt] 58))) := bv
  clear bv ha hb
  go_enter Tryz.func15, Tryz.ntmps15
  go_wp2_with fail
  refine hs.mono ?_
  rintro _ w1 ⟨rfl, k, rfl⟩
  clear hs
  go_wp2_with fail
  go_ret
  exact ⟨rfl, below_drewN HB.out k⟩
set_option maxRecDepth 100000 in
set_option maxHeartbeats 2000000 in
theorem sameSent_true (m : Msg) {w : World} {a a2 : Option Addr} {c c2 : Nat} (ha : Byts w a m.tn m.tx) (hb : Byts w a2 m.tn m.tx) (hn : m.tn ≤ 1000000) : Calls Tryz.prog 33 #[.agg #[.string m.ct, .slice a m.tn c, .bool m.e, .int .i64 m.a, .int .i64 m.p, .int .i64 m.nu, .bool m.nt, .int .i64 m.st, .int .i64 m.lf, .bool m.un], .agg #[.string m.ct, .slice a2 m.tn c2, .bool m.e, .int .i64 m.a, .int .i64 m.p, .int .i64 m.nu, .bool m.nt, .int .i64 m.st, .int .i64 m.lf, .bool m.un]] w fun e w' => e = .returned (.bool true) ∧ Below w.heap.size w w' := by
  have bv : Below w.heap.size w ((w.alloc (.cells #[.string m.ct, .slice a m.tn c, .bool m.e, .int .i64 m.a, .int .i64 m.p, .int .i64 m.nu, .bool m.nt, .int .i64 m.st, .int .i64 m.lf, .bool m.un] 91)).alloc (.cells #[.string m.ct, .slice a2 m.tn c2, .bool m.e, .int .i64 m.a, .int .i64 m.p, .int .i64 m.nu, .bool m.nt, .int .i64 m.st, .int .i64 m.lf, .bool m.un] 91)) := ((Below.refl _ _).alloc (Nat.le_refl _) _).alloc (by simp) _
  have hs := sameOut_true m (c := c) (c2 := c2) (ha.below bv) (hb.below bv) hn
  have bx := (Box.new w #[.string m.ct, .slice a m.tn c, .bool m.e, .int .i64 m.a, .int .i64 m.p, .int .i64 m.nu, .bool m.nt, .int .i64 m.st, .int .i64 m.lf, .bool m.un] 91).alloc (.cells #[.string m.ct, .slice a2 m.tn c2, .bool m.e, .int .i64 m.a, .int .i64 m.p, .int .i64 m.nu, .bool m.nt, .int .i64 m.st, .int .i64 m.lf, .bool m.un] 91)
  have by_ := Box.new (w.alloc (.cells #[.string m.ct, .slice a m.tn c, .bool m.e, .int .i64 m.a, .int .i64 m.p, .int .i64 m.nu, .bool m.nt, .int .i64 m.st, .int .i64 m.lf, .bool m.un] 91)) #[.string m.ct, .slice a2 m.tn c2, .bool m.e, .int .i64 m.a, .int .i64 m.p, .int .i64 m.nu, .bool m.nt, .int .i64 m.st, .int .i64 m.lf, .bool m.un] 91
  rw [World.size_alloc] at by_
  have HB : Hid (Below w.heap.size w ((w.alloc (.cells #[.string m.ct, .slice a m.tn c, .bool m.e, .int .i64 m.a, .int .i64 m.p, .int .i64 m.nu, .bool m.nt, .int .i64 m.st, .int .i64 m.lf, .bool m.un] 91)).alloc (.cells #[.string m.ct, .slice a2 m.tn c2, .bool m.e, .int .i64 m.a, .int .i64 m.p, .int .i64 m.nu, .bool m.nt, .int .i64 m.st, .int .i64 m.lf, .bool m.un] 91))) := bv
  clear bv ha hb
  go_enter Tryz.func33, Tryz.ntmps33
  go_wp2_with fail
  refine hs.mono ?_
  rintro _ w1 ⟨rfl, hb1⟩
  have cx := (bx.below hb1).cell
  have cy := (by_.below hb1).cell
  have HB1 : Hid (Below w.heap.size w w1) := below_then HB.out hb1
  clear hs bx by_ hb1
  go_wp2_with fail
  go_ret
  exact ⟨rfl, HB1.out⟩
end Go.Proofs.YtoijhecphgdfnaaGreatDoor

/-
  The calls of a box that nobody made.
-/
namespace Go.Proofs.YtoijhecphgdfnaaGreatDoor
open Go.RowKit

section
variable {w w' : World} {x : Value}
end
end Go.Proofs.YtoijhecphgdfnaaGreatDoor

/-
  The calls of a box that nobody made: underWay, Due, Heard, Get.
-/
namespace Go.Proofs.YtoijhecphgdfnaaGreatDoor
open Go.RowKit

section
variable {w w' : World} {x : Value}
end
end Go.Proofs.YtoijhecphgdfnaaGreatDoor

/-
  The law OutboxZero, walked.
-/
namespace Go.Proofs.YtoijhecphgdfnaaGreatDoor
open Go.RowKit

/-- An Op that came in: its eight cells. -/
structure Opv where
  kd : Int
  ct : ByteArray
  tp : Option Addr
  tn : Nat
  tc : Nat
  tx : List Int
  e : Bool
  a : Int
  p : Int
  cd : ByteArray
  n : Int
structure OpAt (w : World) (b o : Nat) (x : Opv) : Prop where
  lt : b < w.heap.size
  c0 : w.cell? ⟨b, o, none⟩ = some (.int .i64 x.kd)
  c1 : w.cell? ⟨b, o + 1, none⟩ = some (.string x.ct)
  c2 : w.cell? ⟨b, o + 2, none⟩ = some (.slice x.tp x.tn x.tc)
  c3 : w.cell? ⟨b, o + 3, none⟩ = some (.bool x.e)
  c4 : w.cell? ⟨b, o + 4, none⟩ = some (.int .i64 x.a)
  c5 : w.cell? ⟨b, o + 5, none⟩ = some (.int .i64 x.p)
  c6 : w.cell? ⟨b, o + 6, none⟩ = some (.string x.cd)
  c7 : w.cell? ⟨b, o + 7, none⟩ = some (.int .i64 x.n)
  p : Byts w x.tp x.tn x.tx
  q : x.tp = none → x.tc = 0
theorem OpAt.below {w w' : World} {b o : Nat} {x : Opv} (h : OpAt w b o x) (hb : Below w.heap.size w w') : OpAt w' b o x := by
  have e : ∀ q, w'.cell? ⟨b, q, none⟩ = w.cell? ⟨b, q, none⟩ := fun q => hb.cell (p := ⟨b, q, none⟩) h.lt
  exact ⟨Nat.lt_of_lt_of_le h.lt hb.size, by rw [e]; exact h.c0, by rw [e]; exact h.c1, by rw [e]; exact h.c2, by rw [e]; exact h.c3, by rw [e]; exact h.c4, by rw [e]; exact h.c5, by rw [e]; exact h.c6, by rw [e]; exact h.c7, h.p.below hb, h.q⟩
/-- Ops that came in, so many cells apart. -/
def Ops (k : Nat) (w : World) (ao : Option Addr) (xs : List Opv) : Prop := ∀ (j : Nat) (x : Opv), xs[j]? = some x → ∃ b off, ao = some ⟨b, off, none⟩ ∧ OpAt w b (off + j * k) x
theorem Ops.below {k : Nat} {w w' : World} {ao : Option Addr} {xs : List Opv} (h : Ops k w ao xs) (hb : Below w.heap.size w w') : Ops k w' ao xs := fun j x hx => by
  obtain ⟨b, off, e, ho⟩ := h j x hx
  exact ⟨b, off, e, ho.below hb⟩
/-- What stands below: the faults as they came, the box. -/
structure Zf (W w : World) (x : Value) (F : List Nat) : Prop where
  bel : Below W.heap.size W w
  un : Un w x
  fl : ∀ z ∈ F, OFault w z 0 3
theorem Zf.below {W w w' : World} {x : Value} {F : List Nat} (h : Zf W w x F) (hb : Below w.heap.size w w') : Zf W w' x F := ⟨below_then h.bel hb, h.un.below hb, fun z hz => (h.fl z hz).below hb⟩
theorem Zf.cons {W w : World} {x : Value} {F : List Nat} {z : Nat} (h : Zf W w x F) (hf : OFault w z 0 3) : Zf W w x (z :: F) := ⟨h.bel, h.un, fun y hy => by
  rcases List.mem_cons.1 hy with rfl | g
  · exact hf
  · exact h.fl y g⟩
theorem Zf.alloc {W w : World} {x : Value} {F : List Nat} (h : Zf W w x F) (o : Obj) : Zf W (w.alloc o) x F := h.below ((Below.refl _ _).alloc (Nat.le_refl _) _)
end Go.Proofs.YtoijhecphgdfnaaGreatDoor

/-
  Arguments opened: Ops, Picks.
-/
namespace Go.Proofs.YtoijhecphgdfnaaGreatDoor
open Go.ChangeShapes Go.WideShapes Go.ChangeAt Go.RowKit Go.Deep

theorem cellsU8 : Tryz.prog.cellsOf 5 = 1 := by kernel_rfl
theorem cellsBytes : Tryz.prog.cellsOf 43 = 1 := by kernel_rfl
theorem cellsOp : Tryz.prog.cellsOf 47 = 8 := by kernel_rfl
theorem six {α : Type} {l : List α} (h : l.length = 6) : ∃ c0 c1 c2 c3 c4 c5, l = [c0, c1, c2, c3, c4, c5] := by
  match l, h with
  | [c0, c1, c2, c3, c4, c5], _ => exact ⟨c0, c1, c2, c3, c4, c5, rfl⟩
theorem eight {α : Type} {l : List α} (h : l.length = 8) : ∃ c0 c1 c2 c3 c4 c5 c6 c7, l = [c0, c1, c2, c3, c4, c5, c6, c7] := by
  match l, h with
  | [c0, c1, c2, c3, c4, c5, c6, c7], _ => exact ⟨c0, c1, c2, c3, c4, c5, c6, c7, rfl⟩
theorem nine {α : Type} {l : List α} (h : l.length = 9) : ∃ c0 c1 c2 c3 c4 c5 c6 c7 c8, l = [c0, c1, c2, c3, c4, c5, c6, c7, c8] := by
  match l, h with
  | [c0, c1, c2, c3, c4, c5, c6, c7, c8], _ => exact ⟨c0, c1, c2, c3, c4, c5, c6, c7, c8, rfl⟩
section
variable {H : Type} {enc : TypeId × Value → H} {W : World} {base : Nat} {spare : Nat → Bool} {held : Bool}
theorem cells_at {a : Addr} {n : Nat} {cs : List Value} (h : W.cells? base a n = some cs) (hn : 0 < n) : ∃ b o, a = ⟨b, o, none⟩ ∧ ∀ j v, cs[j]? = some v → W.cell? ⟨b, o + j, none⟩ = some v := by
  obtain ⟨_, hlen, hc⟩ := World.cells?_some h
  obtain ⟨b, o, sp⟩ := a
  have h0 := hc 0 hn
  rw [List.getElem?_eq_getElem (by omega)] at h0
  have hs : sp = none := by simpa [Addr.add] using World.cell?_spot h0
  subst hs
  refine ⟨b, o, rfl, fun j v hv => ?_⟩
  have hj : j < n := by rw [← hlen]; exact (List.getElem?_eq_some_iff.1 hv).1
  have := hc j hj
  rw [Addr.add_lit] at this
  rw [this, hv]
theorem open_bytes {n : Nat} {cs : List Value} {x : DataW H × List MemPlace} (h : DataW.trod enc Tryz.prog W base spare held n 43 cs = some x) :
    ∃ po pl pc bs, cs = [.slice po pl pc] ∧ Byts W po pl bs ∧ (po = none → pc = 0) ∧ (pl = 0 ∨ ∃ el sp, x.1 = .slice el sp ∧ el.length = pl) := by
  rcases open_ints Tryz.underlying43 Tryz.underlying5 cellsU8 h with ⟨rfl, _⟩ | ⟨a, len, cap, zs, rfl, _, hl, hm, hz, hxx, hc, _⟩
  · exact ⟨none, 0, 0, [], rfl, ⟨rfl, fun j hj => (by omega)⟩, fun _ => rfl, Or.inl rfl⟩
  · have hzl : len ≤ zs.length := by rw [hz]; split <;> omega
    refine ⟨some a, len, cap, zs.take len, rfl, ⟨by simp; omega, fun j hj => ?_⟩, fun e => (by cases e), Or.inr ⟨_, _, by rw [hxx], by simp [lits]; omega⟩⟩
    · obtain ⟨b, o, sp⟩ := a
      have h0 := hc 0 (by omega)
      have hs : sp = none := by simpa [Addr.add] using World.cell?_spot h0
      subst hs
      have hj' := hc j (by omega)
      rw [Addr.add_lit] at hj'
      refine ⟨b, o, rfl, cell_lt hj', ?_⟩
      rw [hj']
      simp [List.getD_eq_getElem?_getD, hj]
end
end Go.Proofs.YtoijhecphgdfnaaGreatDoor

/-
  Picks that came in.
-/
namespace Go.Proofs.YtoijhecphgdfnaaGreatDoor
open Go.RowKit

/-- A Pick that came in. -/
def PickAt (w : World) (b o : Nat) (x : Opv × Int) : Prop := OpAt w b o x.1 ∧ w.cell? ⟨b, o + 8, none⟩ = some (.int .i64 x.2)
def Picks (w : World) (ao : Option Addr) (xs : List (Opv × Int)) : Prop := ∀ (j : Nat) (x : Opv × Int), xs[j]? = some x → ∃ b off, ao = some ⟨b, off, none⟩ ∧ PickAt w b (off + j * 9) x
theorem PickAt.below {w w' : World} {b o : Nat} {x : Opv × Int} (h : PickAt w b o x) (hb : Below w.heap.size w w') : PickAt w' b o x := ⟨h.1.below hb, by rw [hb.cell (p := ⟨b, o + 8, none⟩) h.1.lt]; exact h.2⟩
end Go.Proofs.YtoijhecphgdfnaaGreatDoor

/-
  Arguments opened: Picks.
-/
namespace Go.Proofs.YtoijhecphgdfnaaGreatDoor
open Go.ChangeShapes Go.WideShapes Go.ChangeAt Go.RowKit Go.Deep

section
variable {H : Type} {enc : TypeId × Value → H} {W : World} {base : Nat} {spare : Nat → Bool} {held : Bool}
end
end Go.Proofs.YtoijhecphgdfnaaGreatDoor

/-
  The document's second example as plain data. Of no program.
-/
namespace Go.Proofs.YtoijhecphgdfnaaGreatDoor
open Go.RowKit

abbrev cA1 : ByteArray := ⟨#[65, 49]⟩
def M1 (a : Option Addr) (c : Nat) (nu st lf : Int) (un : Bool) : Msg := ⟨cA1, a, 1, c, [116], true, 1, 1, nu, false, st, lf, un⟩
variable (a a2 : Option Addr) (c c2 : Nat)
theorem ctA1 : ctB cA1 = true := by decide
theorem hd1 : addC true [] (M1 a c 0 0 0 false) = 0 := by
  unfold addC refS
  rw [show ctB (M1 a c 0 0 0 false).ct = true from ctA1]
  rfl
end Go.Proofs.YtoijhecphgdfnaaGreatDoor

/-
  The document's second example, walked: the law's 'heads'.
-/
namespace Go.Proofs.YtoijhecphgdfnaaGreatDoor
open Go.RowKit

section
variable {W w : World} {b kb : Nat} {v : Value}
theorem DRow.first {w : World} {B : Nat} {a : Option Addr} {n c : Nat} {d : Deed} {ds : List Deed} (h : DRow w B (.slice a n c) (d :: ds)) : ∃ g, a = some ⟨g, 0, none⟩ := by
  obtain ⟨g, e, _⟩ := ERow.at_ encD_len h (j := 0) (x := d) rfl
  exact ⟨g, e⟩
theorem DRow.cells {w : World} {B g : Nat} {n c : Nat} {d : Deed} {ds : List Deed} (h : DRow w B (.slice (some ⟨g, 0, none⟩) n c) (d :: ds)) : w.cell? ⟨g, 0, none⟩ = some (.string d.1) ∧ w.cell? ⟨g, 1, none⟩ = some (.int .i64 d.2.1) ∧ w.cell? ⟨g, 2, none⟩ = some (.string d.2.2) := by
  obtain ⟨g', e, _, hc⟩ := ERow.at_ encD_len h (j := 0) (x := d) rfl
  simp only [Option.some.injEq, Addr.mk.injEq] at e
  obtain ⟨rfl, _⟩ := e
  exact ⟨hc 0 (by decide), hc 1 (by decide), hc 2 (by decide)⟩
end
end Go.Proofs.YtoijhecphgdfnaaGreatDoor

/-
  One call of the box, whatever it answers.
-/
namespace Go.Proofs.YtoijhecphgdfnaaGreatDoor
open Go.RowKit

/-- What a call that is done tells and leaves. -/
inductive StepR (sq : Bool) (ms : List Msg) (kd : Int) (ct : ByteArray) : List Deed → List Msg → Prop
  | idle (h : kd ≠ 1) : StepR sq ms kd ct [] ms
  | add (m : Msg) (h : kd = 1) (he : m.ct = ct) (hc : addC sq ms m = 0) (hnu : m.nu = 0) (hun : m.un = false) : StepR sq ms kd ct [] (ms ++ [m])
  | give (m : Msg) (n : Int) (h : kd ≠ 1) (hs : sq = true) (hn : nextS sq ms = some m) (hg : nmB n = true) : StepR sq ms kd ct [] (putS { m with nu := n } ms)
  | go (m : Msg) (st lf : Int) (l : ActL) (h : kd ≠ 1) (hn : nextS sq ms = some m) (hq : (sq && (m.nu == 0)) = false) (h5 : ∀ y ∈ l, y.1 ≠ 5 ∧ y.1 ≠ 3) : StepR sq ms kd ct (deedsS m.ct l) (doS ms { m with st := st, lf := lf, un := true } 0 l)
  | ans (m : Msg) (i : Nat) (st lf x : Int) (l : ActL) (h : kd ≠ 1) (hf : fi m.ct ms = some i) (hm : ms[i]? = some m) (hu : m.un = true) (h5 : ∀ y ∈ l, (y.1 = 5 → sq = true ∧ nmB x = true) ∧ (y.1 = 3 → caB m.e m.a = true)) : StepR sq ms kd ct (deedsS m.ct l) (doS ms { m with st := st, lf := lf, un := true } x l)
theorem start_no5 (e : Bool) (a p t : Int) (nt : Bool) : ∀ y ∈ (startS e a p t nt).l, y.1 ≠ 5 ∧ y.1 ≠ 3 := by
  unfold startS
  repeat' split
  all_goals simp
theorem due_no5 (e : Bool) (a p st lf : Int) : ∀ y ∈ (dueS e a p st lf).l, y.1 ≠ 5 ∧ y.1 ≠ 3 := by
  unfold dueS
  repeat' split
  all_goals simp
theorem heard_5 (e : Bool) (a p st lf : Int) (s : ByteArray) (T : Bool) : ∀ y ∈ (heardS e a p st lf s T).l, y.1 = 5 → T = true := by
  cases T with
  | true => exact fun _ _ _ => rfl
  | false =>
    unfold heardS
    simp only [Bool.false_and]
    repeat' split
    all_goals simp_all
theorem heard_3 (e : Bool) (a p st lf : Int) (s : ByteArray) (T : Bool) : ∀ y ∈ (heardS e a p st lf s T).l, y.1 = 3 → caB e a = true := by
  unfold heardS
  split
  · simp
  split
  · simp
  rename_i _ hf
  split
  · simp
  split
  · split
    · rename_i hst
      have hc : caB e a = true := by
        rw [Bool.not_eq_false] at hf
        unfold fitB at hf
        rw [hst] at hf
        simp only [if_pos] at hf
        exact (Bool.and_eq_true_iff.1 hf).2
      exact fun _ _ _ => hc
    · simp
  · repeat' split
    all_goals simp
/-- A call's answer: the deeds d, the error ev. -/
def StQ (W : World) (b kb : Nat) (v0 : Value) (w0 : World) (sq : Bool) (tr : Int) (ms : List Msg) (kd : Int) (ct : ByteArray) (d ev : Value) (w' : World) : Prop :=
  Off (fun q => q = kb ∨ v0.ownBlock = some q) w0 w' ∧ ∃ a c ds v ms', d = .slice a (List.length ds) c ∧ DRow w' W.heap.size (.slice a (List.length ds) c) ds ∧ Li W w' b kb v sq tr ms' ∧ ((ev = .nilIface ∧ StepR sq ms kd ct ds ms') ∨ ((∃ z, ev = .iface 122 (.pointer (some ⟨z, 0, none⟩))) ∧ ds = [] ∧ ms' = ms))
section
variable {W w w' : World} {b kb : Nat} {v : Value} {sq : Bool} {tr : Int} {ms : List Msg} {kd : Int} {ct : ByteArray}
theorem StQ.back {w0 : World} {d ev : Value} (h : StQ W b kb v w sq tr ms kd ct d ev w') (hb : Below w0.heap.size w0 w) : StQ W b kb v w0 sq tr ms kd ct d ev w' := ⟨(Off.of_below hb).trans h.1, h.2⟩
end
end Go.Proofs.YtoijhecphgdfnaaGreatDoor

/-
  A sequenced box: none but the head is under way or has a number. Of no program.
-/
namespace Go.Proofs.YtoijhecphgdfnaaGreatDoor
open Go.RowKit

structure Inv (ms : List Msg) : Prop where
  tail : ∀ (k : Nat) (m : Msg), 1 ≤ k → ms[k]? = some m → m.un = false ∧ m.nu = 0
  head : ∀ m : Msg, ms[0]? = some m → m.un = true → m.nu ≠ 0
theorem Inv.nil : Inv [] := ⟨fun k m _ h => by simp at h, fun m h => by simp at h⟩
theorem Inv.rest {m : Msg} {r : List Msg} (h : Inv (m :: r)) : Inv r :=
  ⟨fun k x _ hx => h.tail (k + 1) x (by omega) (by simpa using hx), fun x hx hu => by
    have := (h.tail 1 x (Nat.le_refl _) (by simpa using hx)).1
    rw [hu] at this; cases this⟩
theorem Inv.new {m m' : Msg} {r : List Msg} (h : Inv (m :: r)) (hm : m'.un = true → m'.nu ≠ 0) : Inv (m' :: r) :=
  ⟨fun k x hk hx => by
    obtain ⟨j, rfl⟩ : ∃ j, k = j + 1 := ⟨k - 1, by omega⟩
    exact h.tail (j + 1) x hk (by simpa using hx), fun x hx => by
    obtain rfl : m' = x := by simpa using hx
    exact hm⟩
theorem fi_head (m : Msg) (r : List Msg) : fi m.ct (m :: r) = some 0 := by
  unfold fi
  rw [List.findIdx?_cons]
  simp
theorem nextS_true {ms : List Msg} {m : Msg} (h : nextS true ms = some m) : ∃ r, ms = m :: r := by
  cases ms with
  | nil => cases h
  | cons x r =>
    unfold nextS at h
    split at h
    · simp at h
    · exact ⟨r, by simp only [Option.some.injEq] at h; rw [h]⟩
end Go.Proofs.YtoijhecphgdfnaaGreatDoor

/-
  The law's 'final' and 'has'.
-/
namespace Go.Proofs.YtoijhecphgdfnaaGreatDoor
open Go.RowKit

end Go.Proofs.YtoijhecphgdfnaaGreatDoor

/-
  A box whose control ids stand apart: what a call leaves of it. Of no program.
-/
namespace Go.Proofs.YtoijhecphgdfnaaGreatDoor
open Go.RowKit

/-- The control ids, in their order. -/
def ids (ms : List Msg) : List (List UInt8) := ms.map fun m => m.ct.toList
theorem map_erase {α β : Type} (f : α → β) : ∀ (l : List α) (i : Nat), (l.eraseIdx i).map f = (l.map f).eraseIdx i
  | [], i => by simp
  | y :: r, 0 => rfl
  | y :: r, i + 1 => by
    show f y :: (r.eraseIdx i).map f = f y :: (r.map f).eraseIdx i
    rw [map_erase f r i]
theorem fi_ids {s : ByteArray} {ms : List Msg} {i : Nat} (h : fi s ms = some i) : (ids ms)[i]? = some s.toList := by
  obtain ⟨m, hm, he, _⟩ := fi_some h
  unfold ids
  rw [List.getElem?_map, hm]
  simpa using he
end Go.Proofs.YtoijhecphgdfnaaGreatDoor
