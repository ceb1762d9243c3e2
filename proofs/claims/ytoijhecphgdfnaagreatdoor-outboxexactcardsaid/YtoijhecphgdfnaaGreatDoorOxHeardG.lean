import Derived.Test.YtoijhecphgdfnaaGreatDoorOxGive
/-
  Go.
-/
namespace Go.Proofs.YtoijhecphgdfnaaGreatDoor
open Go.RowKit

theorem Acts.mono {w : World} {N M : Nat} {v : Value} {l : ActL} (h : Acts w N v l) (hM : M ≤ N) : Acts w M v l := by
  obtain ⟨po, cap, h1, h2, h3⟩ := h
  refine ⟨po, cap, h1, h2, fun j y hj => ?_⟩
  obtain ⟨b, of, e, hn, r⟩ := h3 j y hj
  exact ⟨b, of, e, Nat.le_trans hM hn, r⟩
/-- Behind Start: the want at wb, the acts. -/
structure GoR (V : World) (st lf : Int) (l : ActL) (wb : Nat) (lv : Value) (wx : World) : Prop where
  bel : Below V.heap.size V wx
  box : Box wx wb #[.int .i64 st, .int .i64 lf]
  ge : V.heap.size ≤ wb
  acts : Acts wx V.heap.size lv l
theorem gor_a {V w5 : World} {st lf : Int} {l : ActL} {N : Nat} {lv : Value} (h : Acts w5 N lv l) (hb : Below V.heap.size V w5) (hN : V.heap.size ≤ N) : GoR V st lf l w5.heap.size lv (w5.alloc (.cells #[.int .i64 st, .int .i64 lf] 89)) :=
  ⟨bl_alloc hb _, Box.new _ _ _, hb.size, (h.below ((Below.refl _ _).alloc (Nat.le_refl _) _)).mono hN⟩
theorem gor_b {V w5 z : World} {st lf : Int} {l : ActL} {lv : Value} (h : Acts w5 z.heap.size lv l) (hb : Below V.heap.size V w5) (hz : Below z.heap.size z w5) (hx : Box z V.heap.size #[.int .i64 0, .int .i64 0]) : GoR V st lf l V.heap.size lv ((w5.setCell ⟨V.heap.size, 0, none⟩ (.int .i64 st)).setCell ⟨V.heap.size, 1, none⟩ (.int .i64 lf)) := by
  have o1 : Off (fun q => q = V.heap.size) w5 ((w5.setCell ⟨V.heap.size, 0, none⟩ (.int .i64 st)).setCell ⟨V.heap.size, 1, none⟩ (.int .i64 lf)) := Off.setCell (P := fun q => q = V.heap.size) (Off.setCell (P := fun q => q = V.heap.size) (Off.refl _ _) (p := ⟨V.heap.size, 0, none⟩) rfl _) (p := ⟨V.heap.size, 1, none⟩) rfl _
  have hl := hx.lt
  exact ⟨hb.trans (o1.below hb.size (fun k hk => by omega)), (hx.below hz).pPut2 _ _, Nat.le_refl _, (h.off o1 (fun q hq => by omega)).mono (by omega)⟩
section
variable {w w' : World} {b kb : Nat} {v : Value} {sq : Bool} {tr : Int} {ms : List Msg}
set_option maxRecDepth 100000 in
set_option maxHeartbeats 1000000 in
theorem go_go {m : Msg} (h : Bx w b kb v sq tr ms) (hV : PVc w) (hnx : nextS sq ms = some m) (hq : (sq && (m.nu == 0)) = false) (hn : (startS m.e m.a m.p tr m.nt).n = 0) :
    Calls Tryz.prog 23 #[.pointer (some ⟨b, 0, none⟩)] w (DoQ w b kb v sq tr (deedsS m.ct (startS m.e m.a m.p tr m.nt).l) (doS ms { m with st := (startS m.e m.a m.p tr m.nt).st, lf := (startS m.e m.a m.p tr m.nt).lf, un := true } 0 (startS m.e m.a m.p tr m.nt).l)) := by
  have hmem := (nextS_mem hnx).1
  obtain ⟨i, hi⟩ := fi_mem hmem
  have hmk := made_yes h
  have hne := next_yes h hnx
  have hst := fun z hz => ans_yes (start_ok m.e m.a m.p tr m.nt z hz) hn
  have hlen := startS_len m.e m.a m.p tr m.nt
  obtain ⟨X, hX⟩ : ∃ X, startS m.e m.a m.p tr m.nt = X := ⟨_, rfl⟩
  rw [hX] at hst hlen ⊢
  have HH : Hid (Bx w b kb v sq tr ms ∧ PVc w ∧ fi m.ct ms = some i ∧ Tx w m) := ⟨h, hV, hi, h.2.2 m hmem⟩
  have HD : Hid (∀ z, PVc z → Calls Tryz.prog 59 #[.agg #[.bool m.e, .int .i64 m.a, .int .i64 m.p], .int .i64 tr, .bool m.nt] z fun r w' => ∃ a c, r = .returned (.tuple #[.agg #[.int .i64 X.st, .int .i64 X.lf], .slice a X.l.length c, .nilIface]) ∧ Hid (Acts w' z.heap.size (.slice a X.l.length c) X.l ∧ Below z.heap.size z w')) := hst
  have HLn : Hid (X.l.length ≤ 3) := hlen
  have HQ : Hid ((sq && (m.nu == 0)) = false) := hq
  clear h hV hn hst hX hmem hi hlen hnx hq
  go_enter Tryz.func23, Tryz.ntmps23
  go_wp2_with fail
  refine hmk.mono ?_
  rintro _ w9 ⟨rfl, h9⟩
  subst w9
  clear hmk
  go_wp2_with fail
  refine hne.mono ?_
  rintro _ w1 ⟨rfl, hb1⟩
  have x2 := Box.new w1 #[.string m.ct, .slice m.tp m.tn m.tc, .bool m.e, .int .i64 m.a, .int .i64 m.p, .int .i64 m.nu, .bool m.nt, .int .i64 m.st, .int .i64 m.lf, .bool true] 91
  have HB2 : Hid (Below w.heap.size w (w1.alloc (.cells #[.string m.ct, .slice m.tp m.tn m.tc, .bool m.e, .int .i64 m.a, .int .i64 m.p, .int .i64 m.nu, .bool m.nt, .int .i64 m.st, .int .i64 m.lf, .bool true] 91))) := hb1.alloc hb1.size _
  have s1 : w1.cell? ⟨b, 1, none⟩ = some (.bool sq) := hcell (HH.out.1.below hb1).1 1
  have lb1 := (HH.out.1.below hb1).lt
  have HS1 : Hid (w.heap.size ≤ w1.heap.size) := hb1.size
  have g0 : sq = false ∨ (sq = true ∧ (m.nu == 0) = false) := by
    have := HQ.out
    cases sq with
    | false => exact Or.inl rfl
    | true => exact Or.inr ⟨rfl, by simpa using this⟩
  clear hb1 hne HQ
  rcases g0 with rfl | ⟨rfl, g1⟩
  all_goals
    go_upto_region 7 with fail
    obtain ⟨V, hVV⟩ : ∃ W, w1.alloc (.cells #[.string m.ct, .slice m.tp m.tn m.tc, .bool m.e, .int .i64 m.a, .int .i64 m.p, .int .i64 m.nu, .bool m.nt, .int .i64 m.st, .int .i64 m.lf, .bool true] 91) = W := ⟨_, rfl⟩
    rw [hVV] at x2 HB2 ⊢
    have HSV : Hid (V.heap.size = w1.heap.size + 1) := by unfold Hid; rw [← hVV]; simp
    clear hVV s1 lb1
    have s2 : V.cell? ⟨b, 2, none⟩ = some (.int .i64 tr) := hcell (HH.out.1.below HB2.out).1 2
    have lb := (HH.out.1.below HB2.out).lt
    have cx := x2.cell
    have lx := x2.lt
    have HX2 : Hid (Box V w1.heap.size #[.string m.ct, .slice m.tp m.tn m.tc, .bool m.e, .int .i64 m.a, .int .i64 m.p, .int .i64 m.nu, .bool m.nt, .int .i64 m.st, .int .i64 m.lf, .bool true]) := x2
    have HDz : Hid (∀ z, Below V.heap.size V z → Calls Tryz.prog 59 #[.agg #[.bool m.e, .int .i64 m.a, .int .i64 m.p], .int .i64 tr, .bool m.nt] z fun r w' => ∃ a c, r = .returned (.tuple #[.agg #[.int .i64 X.st, .int .i64 X.lf], .slice a X.l.length c, .nilIface]) ∧ Hid (Acts w' z.heap.size (.slice a X.l.length c) X.l ∧ Below V.heap.size V w' ∧ Below z.heap.size z w')) := fun z hz => (HD.out z ((HH.out.2.1.below HB2.out).below hz)).mono fun r z' ⟨a, c, h1, h2⟩ => ⟨a, c, h1, h2.out.1, below_then hz h2.out.2, h2.out.2⟩
    go_cut [6, 7, 8] from 6 to 48 (fun t6 t7 t8 wx => ∃ (wb : Nat) (a : Option Addr) (c : Nat), t6 = .pointer (some ⟨wb, 0, none⟩) ∧ t7 = .slice a X.l.length c ∧ t8 = .nilIface ∧ Hid (GoR V X.st X.lf X.l wb (.slice a X.l.length c) wx))
    case first =>
      have gs : ∀ {x : World}, Below V.heap.size V x → Hid (Below V.heap.size V x) ∧ (∀ o, x.cell? ⟨w1.heap.size, o, none⟩ = (#[.string m.ct, .slice m.tp m.tn m.tc, .bool m.e, .int .i64 m.a, .int .i64 m.p, .int .i64 m.nu, .bool m.nt, .int .i64 m.st, .int .i64 m.lf, .bool true] : Array Value)[o]?) ∧ x.cell? ⟨b, 2, none⟩ = some (.int .i64 tr) := fun {x} hx => ⟨hx, fun o => (hx.cell (p := ⟨w1.heap.size, o, none⟩) lx).trans (cx o), (hx.cell (p := ⟨b, 2, none⟩) lb).trans s2⟩
      go_region_held3 (fun x => Hid (Below V.heap.size V x) ∧ (∀ o, x.cell? ⟨w1.heap.size, o, none⟩ = (#[.string m.ct, .slice m.tp m.tn m.tc, .bool m.e, .int .i64 m.a, .int .i64 m.p, .int .i64 m.nu, .bool m.nt, .int .i64 m.st, .int .i64 m.lf, .bool true] : Array Value)[o]?) ∧ x.cell? ⟨b, 2, none⟩ = some (.int .i64 tr)) (first | (refine gs ?_; (repeat' (first | (with_reducible exact Below.refl _ _) | (with_reducible exact Hid.out (by assumption)) | (with_reducible refine bl_alloc ?_ _) | (with_reducible refine Below.drew ?_) | (refine Below.setCell ?_ (by exact Nat.le_refl _) _))))) (first | (go_at_call 59; refine (HDz.out _ ?_).mono ?_; (repeat' (first | (with_reducible exact Below.refl _ _) | (with_reducible exact Hid.out (by assumption)) | (with_reducible refine bl_alloc ?_ _) | (with_reducible refine Below.drew ?_) | (refine Below.setCell ?_ (by exact Nat.le_refl _) _))); rintro _ w5 ⟨a5, c5, rfl, hh5⟩; have hb5 : Hid (Below V.heap.size V w5) := (show Hid (Below V.heap.size V w5) from hh5.out.2.1); have hc5 := (held_of hh5.out.2.2).cell; have hf5 := (held_of hh5.out.2.2).froz; have hz5 := (held_of hh5.out.2.2).size))
      all_goals
        go_wp2_with fail
        go_meet
        refine ⟨_, a5, c5, rfl, rfl, rfl, ?_⟩
        unfold Hid
        first
          | ((with_reducible refine gor_a hh5.out.1 hh5.out.2.1 ?_); exact Nat.le_refl _)
          | (with_reducible refine gor_b hh5.out.1 hh5.out.2.1 hh5.out.2.2 ?_; exact (Box.new V _ _).drew)
    case rest =>
      obtain ⟨wb, a, c, rfl, rfl, rfl, HG⟩ := hcut
      clear s2 lb cx x2 HDz HD
      have hnb : ¬ wb = w1.heap.size := by have := HG.out.ge; omega
      have hnb' : ¬ w1.heap.size = wb := fun e => hnb e.symm
      have x3 := HX2.out.below HG.out.bel
      have c3 := x3.cell
      have f3 := x3.free
      have l3 := x3.lt
      have cw := HG.out.box.cell
      have HB3 : Hid (Below w.heap.size w ((wc.setCell ⟨w1.heap.size, 7, none⟩ (.int .i64 X.st)).setCell ⟨w1.heap.size, 8, none⟩ (.int .i64 X.lf)) ∧ Acts ((wc.setCell ⟨w1.heap.size, 7, none⟩ (.int .i64 X.st)).setCell ⟨w1.heap.size, 8, none⟩ (.int .i64 X.lf)) V.heap.size (.slice a X.l.length c) X.l) := by
        have hs := HS1.out
        have o1 : Off (fun q => q = w1.heap.size) wc ((wc.setCell ⟨w1.heap.size, 7, none⟩ (.int .i64 X.st)).setCell ⟨w1.heap.size, 8, none⟩ (.int .i64 X.lf)) := Off.setCell (P := fun q => q = w1.heap.size) (Off.setCell (P := fun q => q = w1.heap.size) (Off.refl _ _) (p := ⟨w1.heap.size, 7, none⟩) rfl _) (p := ⟨w1.heap.size, 8, none⟩) rfl _
        exact ⟨(below_then HB2.out HG.out.bel).trans (o1.below (Nat.le_trans HB2.out.size HG.out.bel.size) (fun k hk => by omega)), HG.out.acts.off o1 (fun q hq => by omega)⟩
      clear x3
      go_wp2_with fail
      refine (do_ok (m := { m with st := X.st, lf := X.lf, un := true }) (x := 0) (i0 := i) (l := X.l) (N := V.heap.size) (HH.out.1.below HB3.out.1) HH.out.2.2.1 ((HH.out.2.2.2.below HB3.out.1).same rfl rfl rfl rfl) HB3.out.2 HLn.out).mono ?_
      rintro _ w6 ⟨a6, c6, rfl, r6, q6⟩
      have HZ : Hid (DRow w6 w.heap.size (.slice a6 (deedsS m.ct X.l).length c6) (deedsS m.ct X.l) ∧ BxQ w b kb v _ tr (doS ms { m with st := X.st, lf := X.lf, un := true } 0 X.l) w6) := ⟨ERow.base r6 HB3.out.1.size, q6.of_below HB3.out.1⟩
      clear r6 q6 c3 f3
      go_wp2_with fail
      go_ret2
      exact ⟨a6, c6, rfl, HZ.out.1, HZ.out.2⟩
end
end Go.Proofs.YtoijhecphgdfnaaGreatDoor

/-
  Go: what is refused.
-/
namespace Go.Proofs.YtoijhecphgdfnaaGreatDoor
open Go.RowKit

section
variable {w w' : World} {b kb : Nat} {v : Value} {sq : Bool} {tr : Int} {ms : List Msg}
set_option maxRecDepth 100000 in
set_option maxHeartbeats 2000000 in
theorem go_none (h : Bx w b kb v sq tr ms) (hn : nextS sq ms = none) : Calls Tryz.prog 23 #[.pointer (some ⟨b, 0, none⟩)] w (DFl w 281) := by
  have hmk := made_yes h
  have hnx := next_no h hn
  clear h hn
  go_enter Tryz.func23, Tryz.ntmps23
  go_wp2_with fail
  refine hmk.mono ?_
  rintro _ w9 ⟨rfl, h9⟩
  subst w9
  clear hmk
  go_wp2_with fail
  refine hnx.mono ?_
  rintro _ w1 ⟨rfl, hb1⟩
  have HB2 : Hid (∀ o, Below w.heap.size w (w1.alloc o)) := fun o => hb1.alloc hb1.size o
  have HS : Hid (w.heap.size ≤ w1.heap.size) := hb1.size
  clear hb1 hnx
  go_wp2_with fail
  refine (fault_any _ _ _).mono ?_
  rintro _ w2 ⟨rfl, hf2, hb2⟩
  have HE : Hid (OFault w2 (w1.heap.size + 1) 0 281 ∧ Below w.heap.size w w2) := ⟨by simpa using hf2, below_then (HB2.out _) hb2⟩
  clear hf2 hb2
  go_wp2_with fail
  go_ret2
  exact ⟨w1.heap.size + 1, rfl, by have := HS.out; omega, HE.out.1, HE.out.2⟩
set_option maxRecDepth 100000 in
set_option maxHeartbeats 2000000 in
theorem go_unnumbered {m : Msg} (h : Bx w b kb v true tr ms) (hn : nextS true ms = some m) (h0 : m.nu = 0) : Calls Tryz.prog 23 #[.pointer (some ⟨b, 0, none⟩)] w (DFl w 281) := by
  have hmk := made_yes h
  have hnx := next_yes h hn
  rw [h0] at hnx
  have HH : Hid (Bx w b kb v true tr ms) := h
  clear h hn h0
  go_enter Tryz.func23, Tryz.ntmps23
  go_wp2_with fail
  refine hmk.mono ?_
  rintro _ w9 ⟨rfl, h9⟩
  subst w9
  clear hmk
  go_wp2_with fail
  refine hnx.mono ?_
  rintro _ w1 ⟨rfl, hb1⟩
  have HB2 : Hid (∀ o, Below w.heap.size w (w1.alloc o)) := fun o => hb1.alloc hb1.size o
  have HS : Hid (w.heap.size ≤ w1.heap.size) := hb1.size
  have s1 : w1.cell? ⟨b, 1, none⟩ = some (.bool true) := hcell (HH.out.below hb1).1 1
  have lb := (HH.out.below hb1).lt
  clear hb1 hnx
  go_wp2_with fail
  refine (fault_any _ _ _).mono ?_
  rintro _ w2 ⟨rfl, hf2, hb2⟩
  have HE : Hid (OFault w2 (w1.heap.size + 1) 0 281 ∧ Below w.heap.size w w2) := ⟨by simpa using hf2, below_then (HB2.out _) hb2⟩
  clear hf2 hb2
  go_wp2_with fail
  go_ret2
  exact ⟨w1.heap.size + 1, rfl, by have := HS.out; omega, HE.out.1, HE.out.2⟩
end
end Go.Proofs.YtoijhecphgdfnaaGreatDoor

/-
  Heard: what layer 11 tells is done.
-/
namespace Go.Proofs.YtoijhecphgdfnaaGreatDoor
open Go.RowKit

section
variable {w w' : World} {b kb : Nat} {v : Value} {sq : Bool} {tr : Int} {ms : List Msg}
end
end Go.Proofs.YtoijhecphgdfnaaGreatDoor

/-
  Heard: what layer 11 tells is done.
-/
namespace Go.Proofs.YtoijhecphgdfnaaGreatDoor
open Go.RowKit

section
variable {w w' : World} {b kb : Nat} {v : Value} {sq : Bool} {tr : Int} {ms : List Msg}
set_option maxRecDepth 100000 in
set_option maxHeartbeats 4000000 in
theorem heard_go {t s : ByteArray} {i : Nat} {m : Msg} {x : Int} {T : Bool} (h : Bx w b kb v sq tr ms) (hV : PVc w) (hf : fi t ms = some i) (hm : ms[i]? = some m) (hu : m.un = true) (hg : x = 0 ∨ nmB x = true) (hT : T = (sq && (x != 0))) (hs : (T && (x == m.nu) && (s.toList == [67, 69] || s.toList == [65, 69])) = false) (hn : (heardS m.e m.a m.p m.st m.lf s T).n = 0) :
    Calls Tryz.prog 27 #[.pointer (some ⟨b, 0, none⟩), .string t, .string s, .int .i64 x] w (DoQ w b kb v sq tr (deedsS m.ct (heardS m.e m.a m.p m.st m.lf s T).l) (doS ms { m with st := (heardS m.e m.a m.p m.st m.lf s T).st, lf := (heardS m.e m.a m.p m.st m.lf s T).lf, un := true } x (heardS m.e m.a m.p m.st m.lf s T).l)) := by
  have HTT : Hid (T = (sq && (x != 0))) := hT
  have HGG : Hid (x = 0 ∨ nmB x = true) := hg
  have hbx := h
  have hun := under_yes h t hf hm hu
  have hdu := fun z hz => ans_yes (heard_ok m.e m.a m.p m.st m.lf s T z hz) hn
  obtain ⟨m0, hm0, he0, _⟩ := fi_some hf
  obtain rfl : m0 = m := by rw [hm] at hm0; exact (Option.some.inj hm0).symm
  have hfm : fi m0.ct ms = some i := by rw [str_of he0]; exact hf
  have hlen := heardS_len m0.e m0.a m0.p m0.st m0.lf s T
  have HSS : Hid ((T && (x == m0.nu) && (s.toList == [67, 69] || s.toList == [65, 69])) = false) := hs
  obtain ⟨X, hX⟩ : ∃ X, heardS m0.e m0.a m0.p m0.st m0.lf s T = X := ⟨_, rfl⟩
  rw [hX] at hdu hlen ⊢
  have HH : Hid (Bx w b kb v sq tr ms ∧ PVc w ∧ fi m0.ct ms = some i ∧ Tx w m0) := ⟨h, hV, hfm, h.2.2 m0 (List.mem_of_getElem? hm)⟩
  have HD : Hid (∀ z, PVc z → Calls Tryz.prog 64 #[.agg #[.bool m0.e, .int .i64 m0.a, .int .i64 m0.p], .agg #[.int .i64 m0.st, .int .i64 m0.lf], .string s, .bool T] z fun r w' => ∃ a c, r = .returned (.tuple #[.agg #[.int .i64 X.st, .int .i64 X.lf], .slice a X.l.length c, .nilIface]) ∧ Hid (Acts w' z.heap.size (.slice a X.l.length c) X.l ∧ Below z.heap.size z w')) := hdu
  rw [hu] at hun
  have HLn : Hid (X.l.length ≤ 3) := hlen
  clear hT hs hg h hV hf hm hn hdu hX hm0 he0 hfm hu hlen
  have HSQ : Hid (Bx w b kb v sq tr ms) := hbx
  clear hbx
  have HCASE : Hid ((x = 0 ∧ T = false) ∨ (x ≠ 0 ∧ nmB x = true ∧ sq = false ∧ T = false) ∨ (x ≠ 0 ∧ nmB x = true ∧ sq = true ∧ T = true ∧ x ≠ m0.nu) ∨ (x ≠ 0 ∧ nmB x = true ∧ sq = true ∧ T = true ∧ x = m0.nu ∧ (s.toList == [67, 69]) = false ∧ (s.toList == [65, 69]) = false)) := by
    have hT := HTT.out
    have hs := HSS.out
    by_cases h0 : x = 0
    · left; refine ⟨h0, ?_⟩; rw [hT, h0]; simp
    right
    have hx : nmB x = true := by rcases HGG.out with g | g
                                 · exact absurd g h0
                                 · exact g
    have hx0 : (x != 0) = true := by simpa using h0
    rw [hx0, Bool.and_true] at hT
    cases sq with
    | false => left; exact ⟨h0, hx, rfl, hT⟩
    | true =>
      right
      by_cases hnu : x = m0.nu
      · right
        rw [hT, show (x == m0.nu) = true by simpa using hnu] at hs
        simp only [Bool.true_and, Bool.or_eq_false_iff] at hs
        exact ⟨h0, hx, rfl, hT, hnu, hs.1, hs.2⟩
      · left; exact ⟨h0, hx, rfl, hT, hnu⟩
  clear HTT HSS HGG
  go_enter Tryz.func27, Tryz.ntmps27
  go_wp2_with fail
  refine hun.mono ?_
  rintro _ w1 ⟨rfl, hb1⟩
  have x2 := Box.new w1 #[.string m0.ct, .slice m0.tp m0.tn m0.tc, .bool m0.e, .int .i64 m0.a, .int .i64 m0.p, .int .i64 m0.nu, .bool m0.nt, .int .i64 m0.st, .int .i64 m0.lf, .bool true] 91
  have HB2 : Hid (Below w.heap.size w (w1.alloc (.cells #[.string m0.ct, .slice m0.tp m0.tn m0.tc, .bool m0.e, .int .i64 m0.a, .int .i64 m0.p, .int .i64 m0.nu, .bool m0.nt, .int .i64 m0.st, .int .i64 m0.lf, .bool true] 91))) := hb1.alloc hb1.size _
  obtain ⟨W2, hW2⟩ : ∃ W, w1.alloc (.cells #[.string m0.ct, .slice m0.tp m0.tn m0.tc, .bool m0.e, .int .i64 m0.a, .int .i64 m0.p, .int .i64 m0.nu, .bool m0.nt, .int .i64 m0.st, .int .i64 m0.lf, .bool true] 91) = W := ⟨_, rfl⟩
  rw [hW2] at x2 HB2
  have HS2 : Hid (W2.heap.size = w1.heap.size + 1 ∧ w.heap.size ≤ w1.heap.size) := ⟨by rw [← hW2]; simp, hb1.size⟩
  have s1 := hcell (HSQ.out.below HB2.out).1 1
  have lb := (HSQ.out.below HB2.out).lt
  have cx2 := x2.cell
  clear hb1
  clear hun
  rcases HCASE.out with ⟨h0, rfl⟩ | ⟨h0, hx, rfl, rfl⟩ | ⟨h0, hx, rfl, rfl, hnu⟩ | ⟨h0, hx, rfl, rfl, hnu, hs1, hs2⟩
  · have g0 : (x != 0) = false := by rw [h0]; rfl
    clear HCASE h0
    cases sq
    all_goals
      go_wp2_with fail
      clear hW2 s1 lb cx2 g0
      refine (HD.out W2 (HH.out.2.1.below HB2.out)).mono ?_
      rintro _ w3 ⟨a, c, rfl, h3⟩
      have x3 := x2.below h3.out.2
      have c3 := x3.cell
      have f3 := x3.free
      have l3 := x3.lt
      have HB3 : Hid (∀ o, Below w.heap.size w (((w3.setCell ⟨w1.heap.size, 7, none⟩ (.int .i64 X.st)).setCell ⟨w1.heap.size, 8, none⟩ (.int .i64 X.lf)).alloc o) ∧ Acts (((w3.setCell ⟨w1.heap.size, 7, none⟩ (.int .i64 X.st)).setCell ⟨w1.heap.size, 8, none⟩ (.int .i64 X.lf)).alloc o) W2.heap.size (.slice a X.l.length c) X.l) := fun o => by
        have hs := HS2.out
        have o1 : Off (fun q => q = w1.heap.size) w3 (((w3.setCell ⟨w1.heap.size, 7, none⟩ (.int .i64 X.st)).setCell ⟨w1.heap.size, 8, none⟩ (.int .i64 X.lf)).alloc o) := Off.alloc (Off.setCell (P := fun q => q = w1.heap.size) (Off.setCell (P := fun q => q = w1.heap.size) (Off.refl _ _) (p := ⟨w1.heap.size, 7, none⟩) rfl _) (p := ⟨w1.heap.size, 8, none⟩) rfl _) o
        exact ⟨(below_then HB2.out h3.out.2).trans (o1.below (Nat.le_trans HB2.out.size h3.out.2.size) (fun k hk => by omega)), h3.out.1.off o1 (fun q hq => by omega)⟩
      clear x3 x2
      go_wp2_with fail
      refine (do_ok (m := { m0 with st := X.st, lf := X.lf, un := true }) (x := x) (i0 := i) (l := X.l) (N := W2.heap.size) (HH.out.1.below (HB3.out _).1) HH.out.2.2.1 ((HH.out.2.2.2.below (HB3.out _).1).same rfl rfl rfl rfl) (HB3.out _).2 HLn.out).mono ?_
      rintro _ w6 ⟨a6, c6, rfl, r6, q6⟩
      have HZ : Hid (DRow w6 w.heap.size (.slice a6 (deedsS m0.ct X.l).length c6) (deedsS m0.ct X.l) ∧ BxQ w b kb v _ tr (doS ms { m0 with st := X.st, lf := X.lf, un := true } x X.l) w6) := ⟨ERow.base r6 (HB3.out _).1.size, q6.of_below (HB3.out _).1⟩
      clear r6 q6 c3 f3
      go_wp2_with fail
      go_ret2
      exact ⟨a6, c6, rfl, HZ.out.1, HZ.out.2⟩
  · have g0 : (x != 0) = true := by simpa using h0
    have hnb : ∀ z, Calls Tryz.prog 57 #[.int .i64 x] z fun e w' => e = .returned (.bool true) ∧ w' = z := fun z => by have := isNumber_any x z; rw [hx] at this; exact this
    clear hx h0 HCASE
    go_wp2_with (first | (go_at_call 57; refine (hnb _).mono ?_; rintro _ w9 ⟨rfl, h9⟩; subst w9))
    clear hW2 s1 lb cx2 hnb g0
    refine (HD.out W2 (HH.out.2.1.below HB2.out)).mono ?_
    rintro _ w3 ⟨a, c, rfl, h3⟩
    have x3 := x2.below h3.out.2
    have c3 := x3.cell
    have f3 := x3.free
    have l3 := x3.lt
    have HB3 : Hid (∀ o, Below w.heap.size w (((w3.setCell ⟨w1.heap.size, 7, none⟩ (.int .i64 X.st)).setCell ⟨w1.heap.size, 8, none⟩ (.int .i64 X.lf)).alloc o) ∧ Acts (((w3.setCell ⟨w1.heap.size, 7, none⟩ (.int .i64 X.st)).setCell ⟨w1.heap.size, 8, none⟩ (.int .i64 X.lf)).alloc o) W2.heap.size (.slice a X.l.length c) X.l) := fun o => by
      have hs := HS2.out
      have o1 : Off (fun q => q = w1.heap.size) w3 (((w3.setCell ⟨w1.heap.size, 7, none⟩ (.int .i64 X.st)).setCell ⟨w1.heap.size, 8, none⟩ (.int .i64 X.lf)).alloc o) := Off.alloc (Off.setCell (P := fun q => q = w1.heap.size) (Off.setCell (P := fun q => q = w1.heap.size) (Off.refl _ _) (p := ⟨w1.heap.size, 7, none⟩) rfl _) (p := ⟨w1.heap.size, 8, none⟩) rfl _) o
      exact ⟨(below_then HB2.out h3.out.2).trans (o1.below (Nat.le_trans HB2.out.size h3.out.2.size) (fun k hk => by omega)), h3.out.1.off o1 (fun q hq => by omega)⟩
    clear x3 x2
    go_wp2_with fail
    refine (do_ok (m := { m0 with st := X.st, lf := X.lf, un := true }) (x := x) (i0 := i) (l := X.l) (N := W2.heap.size) (HH.out.1.below (HB3.out _).1) HH.out.2.2.1 ((HH.out.2.2.2.below (HB3.out _).1).same rfl rfl rfl rfl) (HB3.out _).2 HLn.out).mono ?_
    rintro _ w6 ⟨a6, c6, rfl, r6, q6⟩
    have HZ : Hid (DRow w6 w.heap.size (.slice a6 (deedsS m0.ct X.l).length c6) (deedsS m0.ct X.l) ∧ BxQ w b kb v _ tr (doS ms { m0 with st := X.st, lf := X.lf, un := true } x X.l) w6) := ⟨ERow.base r6 (HB3.out _).1.size, q6.of_below (HB3.out _).1⟩
    clear r6 q6 c3 f3
    go_wp2_with fail
    go_ret2
    exact ⟨a6, c6, rfl, HZ.out.1, HZ.out.2⟩
  · have g0 : (x != 0) = true := by simpa using h0
    have g1 : (x == m0.nu) = false := by simpa using hnu
    have hnb : ∀ z, Calls Tryz.prog 57 #[.int .i64 x] z fun e w' => e = .returned (.bool true) ∧ w' = z := fun z => by have := isNumber_any x z; rw [hx] at this; exact this
    clear hx h0 hnu HCASE
    go_wp2_with (first | (go_at_call 57; refine (hnb _).mono ?_; rintro _ w9 ⟨rfl, h9⟩; subst w9))
    clear hW2 s1 lb cx2 hnb g0 g1
    refine (HD.out W2 (HH.out.2.1.below HB2.out)).mono ?_
    rintro _ w3 ⟨a, c, rfl, h3⟩
    have x3 := x2.below h3.out.2
    have c3 := x3.cell
    have f3 := x3.free
    have l3 := x3.lt
    have HB3 : Hid (∀ o, Below w.heap.size w (((w3.setCell ⟨w1.heap.size, 7, none⟩ (.int .i64 X.st)).setCell ⟨w1.heap.size, 8, none⟩ (.int .i64 X.lf)).alloc o) ∧ Acts (((w3.setCell ⟨w1.heap.size, 7, none⟩ (.int .i64 X.st)).setCell ⟨w1.heap.size, 8, none⟩ (.int .i64 X.lf)).alloc o) W2.heap.size (.slice a X.l.length c) X.l) := fun o => by
      have hs := HS2.out
      have o1 : Off (fun q => q = w1.heap.size) w3 (((w3.setCell ⟨w1.heap.size, 7, none⟩ (.int .i64 X.st)).setCell ⟨w1.heap.size, 8, none⟩ (.int .i64 X.lf)).alloc o) := Off.alloc (Off.setCell (P := fun q => q = w1.heap.size) (Off.setCell (P := fun q => q = w1.heap.size) (Off.refl _ _) (p := ⟨w1.heap.size, 7, none⟩) rfl _) (p := ⟨w1.heap.size, 8, none⟩) rfl _) o
      exact ⟨(below_then HB2.out h3.out.2).trans (o1.below (Nat.le_trans HB2.out.size h3.out.2.size) (fun k hk => by omega)), h3.out.1.off o1 (fun q hq => by omega)⟩
    clear x3 x2
    go_wp2_with fail
    refine (do_ok (m := { m0 with st := X.st, lf := X.lf, un := true }) (x := x) (i0 := i) (l := X.l) (N := W2.heap.size) (HH.out.1.below (HB3.out _).1) HH.out.2.2.1 ((HH.out.2.2.2.below (HB3.out _).1).same rfl rfl rfl rfl) (HB3.out _).2 HLn.out).mono ?_
    rintro _ w6 ⟨a6, c6, rfl, r6, q6⟩
    have HZ : Hid (DRow w6 w.heap.size (.slice a6 (deedsS m0.ct X.l).length c6) (deedsS m0.ct X.l) ∧ BxQ w b kb v _ tr (doS ms { m0 with st := X.st, lf := X.lf, un := true } x X.l) w6) := ⟨ERow.base r6 (HB3.out _).1.size, q6.of_below (HB3.out _).1⟩
    clear r6 q6 c3 f3
    go_wp2_with fail
    go_ret2
    exact ⟨a6, c6, rfl, HZ.out.1, HZ.out.2⟩
  · have g0 : (x != 0) = true := by simpa using h0
    have g1 : (x == m0.nu) = true := by simpa using hnu
    have hnb : ∀ z, Calls Tryz.prog 57 #[.int .i64 x] z fun e w' => e = .returned (.bool true) ∧ w' = z := fun z => by have := isNumber_any x z; rw [hx] at this; exact this
    clear hx h0 hnu HCASE
    go_wp2_with (first | (go_at_call 57; refine (hnb _).mono ?_; rintro _ w9 ⟨rfl, h9⟩; subst w9))
    clear hW2 s1 lb cx2 hnb g0 g1 hs1 hs2
    refine (HD.out W2 (HH.out.2.1.below HB2.out)).mono ?_
    rintro _ w3 ⟨a, c, rfl, h3⟩
    have x3 := x2.below h3.out.2
    have c3 := x3.cell
    have f3 := x3.free
    have l3 := x3.lt
    have HB3 : Hid (∀ o, Below w.heap.size w (((w3.setCell ⟨w1.heap.size, 7, none⟩ (.int .i64 X.st)).setCell ⟨w1.heap.size, 8, none⟩ (.int .i64 X.lf)).alloc o) ∧ Acts (((w3.setCell ⟨w1.heap.size, 7, none⟩ (.int .i64 X.st)).setCell ⟨w1.heap.size, 8, none⟩ (.int .i64 X.lf)).alloc o) W2.heap.size (.slice a X.l.length c) X.l) := fun o => by
      have hs := HS2.out
      have o1 : Off (fun q => q = w1.heap.size) w3 (((w3.setCell ⟨w1.heap.size, 7, none⟩ (.int .i64 X.st)).setCell ⟨w1.heap.size, 8, none⟩ (.int .i64 X.lf)).alloc o) := Off.alloc (Off.setCell (P := fun q => q = w1.heap.size) (Off.setCell (P := fun q => q = w1.heap.size) (Off.refl _ _) (p := ⟨w1.heap.size, 7, none⟩) rfl _) (p := ⟨w1.heap.size, 8, none⟩) rfl _) o
      exact ⟨(below_then HB2.out h3.out.2).trans (o1.below (Nat.le_trans HB2.out.size h3.out.2.size) (fun k hk => by omega)), h3.out.1.off o1 (fun q hq => by omega)⟩
    clear x3 x2
    go_wp2_with fail
    refine (do_ok (m := { m0 with st := X.st, lf := X.lf, un := true }) (x := x) (i0 := i) (l := X.l) (N := W2.heap.size) (HH.out.1.below (HB3.out _).1) HH.out.2.2.1 ((HH.out.2.2.2.below (HB3.out _).1).same rfl rfl rfl rfl) (HB3.out _).2 HLn.out).mono ?_
    rintro _ w6 ⟨a6, c6, rfl, r6, q6⟩
    have HZ : Hid (DRow w6 w.heap.size (.slice a6 (deedsS m0.ct X.l).length c6) (deedsS m0.ct X.l) ∧ BxQ w b kb v _ tr (doS ms { m0 with st := X.st, lf := X.lf, un := true } x X.l) w6) := ⟨ERow.base r6 (HB3.out _).1.size, q6.of_below (HB3.out _).1⟩
    clear r6 q6 c3 f3
    go_wp2_with fail
    go_ret2
    exact ⟨a6, c6, rfl, HZ.out.1, HZ.out.2⟩
end
end Go.Proofs.YtoijhecphgdfnaaGreatDoor
