import Derived.Test.YtoijhecphgdfnaaGreatDoorOxDue
/-
  Give.
-/
namespace Go.Proofs.YtoijhecphgdfnaaGreatDoor
open Go.RowKit

theorem fi_mem {m : Msg} {ms : List Msg} (h : m ∈ ms) : ∃ i, fi m.ct ms = some i := by
  cases hf : fi m.ct ms with
  | some i => exact ⟨i, rfl⟩
  | none =>
    obtain ⟨j, hj, e⟩ := List.getElem_of_mem h
    have := fi_none hf j m (by rw [List.getElem?_eq_getElem hj, e])
    simp at this
section
variable {w w' : World} {b kb : Nat} {v : Value} {sq : Bool} {tr : Int} {ms : List Msg}
set_option maxRecDepth 100000 in
set_option maxHeartbeats 4000000 in
theorem give_yes {m : Msg} {n : Int} (h : Bx w b kb v true tr ms) (hn : nextS true ms = some m) (hg : nmB n = true) : Calls Tryz.prog 21 #[.pointer (some ⟨b, 0, none⟩), .int .i64 n] w fun e w' => e = .returned .nilIface ∧ BxQ w b kb v true tr (putS { m with nu := n } ms) w' := by
  have hmem := (nextS_mem hn).1
  obtain ⟨i, hi⟩ := fi_mem hmem
  have hmk := made_yes h
  have hnx := next_yes h hn
  have hnb : ∀ z, Calls Tryz.prog 57 #[.int .i64 n] z fun e w' => e = .returned (.bool true) ∧ w' = z := fun z => by have := isNumber_any n z; rw [hg] at this; exact this
  have HH : Hid (Bx w b kb v true tr ms ∧ fi m.ct ms = some i ∧ Tx w m) := ⟨h, hi, h.2.2 m hmem⟩
  clear h hn hg hmem hi
  go_enter Tryz.func21, Tryz.ntmps21
  go_wp2_with fail
  refine hmk.mono ?_
  rintro _ w9 ⟨rfl, h9⟩
  subst w9
  clear hmk
  go_wp2_with fail
  refine hnx.mono ?_
  rintro _ w1 ⟨rfl, hb1⟩
  have x2 := Box.new w1 #[.string m.ct, .slice m.tp m.tn m.tc, .bool m.e, .int .i64 m.a, .int .i64 m.p, .int .i64 m.nu, .bool m.nt, .int .i64 m.st, .int .i64 m.lf, .bool m.un] 91
  have HB2 : Hid (Below w.heap.size w (w1.alloc (.cells #[.string m.ct, .slice m.tp m.tn m.tc, .bool m.e, .int .i64 m.a, .int .i64 m.p, .int .i64 m.nu, .bool m.nt, .int .i64 m.st, .int .i64 m.lf, .bool m.un] 91))) := hb1.alloc hb1.size _
  have HS : Hid (w.heap.size ≤ w1.heap.size) := hb1.size
  obtain ⟨W2, hW2⟩ : ∃ W, w1.alloc (.cells #[.string m.ct, .slice m.tp m.tn m.tc, .bool m.e, .int .i64 m.a, .int .i64 m.p, .int .i64 m.nu, .bool m.nt, .int .i64 m.st, .int .i64 m.lf, .bool m.un] 91) = W := ⟨_, rfl⟩
  rw [hW2] at x2 HB2
  have s1 := hcell (HH.out.1.below HB2.out).1 1
  have lb := (HH.out.1.below HB2.out).lt
  have cx2 := x2.cell
  have fx2 := x2.free
  have HX3 : Hid (Box (W2.setCell ⟨w1.heap.size, 5, none⟩ (.int .i64 n)) w1.heap.size #[.string m.ct, .slice m.tp m.tn m.tc, .bool m.e, .int .i64 m.a, .int .i64 m.p, .int .i64 n, .bool m.nt, .int .i64 m.st, .int .i64 m.lf, .bool m.un] ∧ Below w.heap.size w (W2.setCell ⟨w1.heap.size, 5, none⟩ (.int .i64 n))) := by
    refine ⟨?_, HB2.out.setCell (p := ⟨w1.heap.size, 5, none⟩) HS.out _⟩
    have := x2.pPut (j := 5) (by simp) (.int .i64 n)
    simpa using this
  clear hb1 hnx
  go_wp2_with (first | (go_at_call 57; refine (hnb _).mono ?_; rintro _ w9 ⟨rfl, h9⟩; subst w9))
  obtain ⟨W3, hW3⟩ : ∃ W, W2.setCell ⟨w1.heap.size, 5, none⟩ (.int .i64 n) = W := ⟨_, rfl⟩
  rw [hW3] at HX3 ⊢
  clear hW2 hW3 s1 lb cx2 fx2 hnb
  have c0 := hcell (HH.out.1.below HX3.out.2).1 0
  have lb := (HH.out.1.below HX3.out.2).lt
  have cx := HX3.out.1.cell
  have lx := HX3.out.1.lt
  have HPT : Hid (∀ z, Below W3.heap.size W3 z → Calls Tryz.prog 58 #[.pointer (some ⟨kb, 0, none⟩), .agg #[.string m.ct, .slice m.tp m.tn m.tc, .bool m.e, .int .i64 m.a, .int .i64 m.p, .int .i64 n, .bool m.nt, .int .i64 m.st, .int .i64 m.lf, .bool m.un]] z fun e z' => e = .returned (.tuple #[]) ∧ Hid (KdQ W3 kb v (putS { m with nu := n } ms) z')) := fun z hz => (put_at ((HH.out.1.below HX3.out.2).2.1.below hz) { m with nu := n } HH.out.2.1).mono fun _ _ ⟨h1, h2⟩ => ⟨h1, KdQ.of_below hz h2⟩
  go_region_law (go_simp; go_at_call 58; refine (HPT.out _ ?_).mono ?_; (repeat' (first | exact Below.refl _ _ | refine Below.drew ?_)); rintro _ w5 ⟨rfl, hh5⟩; go_wp2_with fail)
  all_goals
    go_wp2_with fail
    go_ret
    refine ⟨rfl, bxq_of (HH.out.1.below HX3.out.2) HX3.out.2 hh5.out (fun y hy => ?_)⟩
    rcases putS_mem hy with g | rfl
    · exact (HH.out.1.below HX3.out.2).2.2 y g
    · exact (HH.out.2.2.below HX3.out.2).same rfl rfl rfl rfl
set_option maxRecDepth 100000 in
set_option maxHeartbeats 2000000 in
theorem give_given {m : Msg} {n : Int} (h : Bx w b kb v true tr ms) (hn : nextS true ms = some m) (hg : nmB n = false) : Calls Tryz.prog 21 #[.pointer (some ⟨b, 0, none⟩), .int .i64 n] w (Fl w 0 282) := by
  have hmk := made_yes h
  have hnx := next_yes h hn
  have hnb : ∀ z, Calls Tryz.prog 57 #[.int .i64 n] z fun e w' => e = .returned (.bool false) ∧ w' = z := fun z => by have := isNumber_any n z; rw [hg] at this; exact this
  have HH : Hid (Bx w b kb v true tr ms) := h
  clear h hn hg
  go_enter Tryz.func21, Tryz.ntmps21
  go_wp2_with fail
  refine hmk.mono ?_
  rintro _ w9 ⟨rfl, h9⟩
  subst w9
  clear hmk
  go_wp2_with fail
  refine hnx.mono ?_
  rintro _ w1 ⟨rfl, hb1⟩
  have HB2 : Hid (∀ o, Below w.heap.size w (w1.alloc o)) := fun o => hb1.alloc hb1.size o
  have HS : Hid (w.heap.size ≤ w1.heap.size) := hb1.size
  have s1 := hcell (HH.out.below hb1).1 1
  have lb := (HH.out.below hb1).lt
  clear hb1 hnx
  go_wp2_with (first | (go_at_call 57; refine (hnb _).mono ?_; rintro _ w9 ⟨rfl, h9⟩; subst w9))
  refine (fault_any _ _ _).mono ?_
  rintro _ w2 ⟨rfl, hf2, hb2⟩
  have HE : Hid (OFault w2 (w1.heap.size + 1) 0 282 ∧ Below w.heap.size w w2) := ⟨by simpa using hf2, below_then (HB2.out _) hb2⟩
  clear hf2 hb2
  go_wp2_with fail
  go_ret
  exact ⟨w1.heap.size + 1, rfl, by have := HS.out; omega, HE.out.1, HE.out.2⟩
set_option maxRecDepth 100000 in
set_option maxHeartbeats 2000000 in
theorem give_state {M : Msg} {o : Bool} {n : Int} (h : Bx w b kb v sq tr ms) (hnx : Calls Tryz.prog 54 #[.pointer (some ⟨b, 0, none⟩)] w fun e w' => e = .returned (.tuple #[.agg #[.string M.ct, .slice M.tp M.tn M.tc, .bool M.e, .int .i64 M.a, .int .i64 M.p, .int .i64 M.nu, .bool M.nt, .int .i64 M.st, .int .i64 M.lf, .bool M.un], .bool o]) ∧ Below w.heap.size w w') (hso : (sq && o) = false) : Calls Tryz.prog 21 #[.pointer (some ⟨b, 0, none⟩), .int .i64 n] w (Fl w 0 281) := by
  have hmk := made_yes h
  have HH : Hid (Bx w b kb v sq tr ms) := h
  clear h
  cases sq with
  | false =>
    go_enter Tryz.func21, Tryz.ntmps21
    go_wp2_with fail
    refine hmk.mono ?_
    rintro _ w9 ⟨rfl, h9⟩
    subst w9
    clear hmk
    go_wp2_with fail
    refine hnx.mono ?_
    rintro _ w1 ⟨rfl, hb1⟩
    have HB2 : Hid (∀ o, Below w.heap.size w (w1.alloc o)) := fun o => hb1.alloc hb1.size o
    have HS : Hid (w.heap.size ≤ w1.heap.size) := hb1.size
    have s1 := hcell (HH.out.below hb1).1 1
    have lb := (HH.out.below hb1).lt
    clear hb1 hnx
    go_wp2_with fail
    refine (fault_any _ _ _).mono ?_
    rintro _ w2 ⟨rfl, hf2, hb2⟩
    have HE : Hid (OFault w2 (w1.heap.size + 1) 0 281 ∧ Below w.heap.size w w2) := ⟨by simpa using hf2, below_then (HB2.out _) hb2⟩
    clear hf2 hb2
    go_wp2_with fail
    go_ret
    exact ⟨w1.heap.size + 1, rfl, by have := HS.out; omega, HE.out.1, HE.out.2⟩
  | true =>
    obtain rfl : o = false := by simpa using hso
    go_enter Tryz.func21, Tryz.ntmps21
    go_wp2_with fail
    refine hmk.mono ?_
    rintro _ w9 ⟨rfl, h9⟩
    subst w9
    clear hmk
    go_wp2_with fail
    refine hnx.mono ?_
    rintro _ w1 ⟨rfl, hb1⟩
    have HB2 : Hid (∀ o, Below w.heap.size w (w1.alloc o)) := fun o => hb1.alloc hb1.size o
    have HS : Hid (w.heap.size ≤ w1.heap.size) := hb1.size
    have s1 := hcell (HH.out.below hb1).1 1
    have lb := (HH.out.below hb1).lt
    clear hb1 hnx
    go_wp2_with fail
    refine (fault_any _ _ _).mono ?_
    rintro _ w2 ⟨rfl, hf2, hb2⟩
    have HE : Hid (OFault w2 (w1.heap.size + 1) 0 281 ∧ Below w.heap.size w w2) := ⟨by simpa using hf2, below_then (HB2.out _) hb2⟩
    clear hf2 hb2
    go_wp2_with fail
    go_ret
    exact ⟨w1.heap.size + 1, rfl, by have := HS.out; omega, HE.out.1, HE.out.2⟩
end
end Go.Proofs.YtoijhecphgdfnaaGreatDoor

/-
  Go.
-/
namespace Go.Proofs.YtoijhecphgdfnaaGreatDoor
open Go.RowKit

theorem Acts.mono {w : World} {N M : Nat} {v : Value} {l : ActL} (h : Acts w N v l) (hM : M ≤ N) : Acts w M v l := by
  obtain ⟨po, cap, h1, h2, h3⟩ := h
  refine ⟨po, cap, h1, h2, fun j y hj => ?_⟩
  obtain ⟨b, of, e, hn, r⟩ := h3 j y hj
  exact ⟨b, of, e, Nat.le_trans hM hn, r⟩
/-- Behind Start: the want at wb, the acts. -/
structure GoR (V : World) (st lf : Int) (l : ActL) (wb : Nat) (lv : Value) (wx : World) : Prop where
  bel : Below V.heap.size V wx
  box : Box wx wb #[.int .i64 st, .int .i64 lf]
  ge : V.heap.size ≤ wb
  acts : Acts wx V.heap.size lv l
theorem gor_a {V w5 : World} {st lf : Int} {l : ActL} {N : Nat} {lv : Value} (h : Acts w5 N lv l) (hb : Below V.heap.size V w5) (hN : V.heap.size ≤ N) : GoR V st lf l w5.heap.size lv (w5.alloc (.cells #[.int .i64 st, .int .i64 lf] 89)) :=
  ⟨bl_alloc hb _, Box.new _ _ _, hb.size, (h.below ((Below.refl _ _).alloc (Nat.le_refl _) _)).mono hN⟩
theorem gor_b {V w5 z : World} {st lf : Int} {l : ActL} {lv : Value} (h : Acts w5 z.heap.size lv l) (hb : Below V.heap.size V w5) (hz : Below z.heap.size z w5) (hx : Box z V.heap.size #[.int .i64 0, .int .i64 0]) : GoR V st lf l V.heap.size lv ((w5.setCell ⟨V.heap.size, 0, none⟩ (.int .i64 st)).setCell ⟨V.heap.size, 1, none⟩ (.int .i64 lf)) := by
  have o1 : Off (fun q => q = V.heap.size) w5 ((w5.setCell ⟨V.heap.size, 0, none⟩ (.int .i64 st)).setCell ⟨V.heap.size, 1, none⟩ (.int .i64 lf)) := Off.setCell (P := fun q => q = V.heap.size) (Off.setCell (P := fun q => q = V.heap.size) (Off.refl _ _) (p := ⟨V.heap.size, 0, none⟩) rfl _) (p := ⟨V.heap.size, 1, none⟩) rfl _
  have hl := hx.lt
  exact ⟨hb.trans (o1.below hb.size (fun k hk => by omega)), (hx.below hz).pPut2 _ _, Nat.le_refl _, (h.off o1 (fun q hq => by omega)).mono (by omega)⟩
section
variable {w w' : World} {b kb : Nat} {v : Value} {sq : Bool} {tr : Int} {ms : List Msg}
set_option maxRecDepth 100000 in
set_option maxHeartbeats 1000000 in
theorem go_go {m : Msg} (h : Bx w b kb v sq tr ms) (hV : PVc w) (hnx : nextS sq ms = some m) (hq : (sq && (m.nu == 0)) = false) (hn : (startS m.e m.a m.p tr m.nt).n = 0) :
    Calls Tryz.prog 23 #[.pointer (some ⟨b, 0, none⟩)] w (DoQ w b kb v sq tr (deedsS m.ct (startS m.e m.a m.p tr m.nt).l) (doS ms { m with st := (startS m.e m.a m.p tr m.nt).st, lf := (startS m.e m.a m.p tr m.nt).lf, un := true } 0 (startS m.e m.a m.p tr m.nt).l)) := by
  have hmem := (nextS_mem hnx).1
  obtain ⟨i, hi⟩ := fi_mem hmem
  have hmk := made_yes h
  have hne := next_yes h hnx
  have hst := fun z hz => ans_yes (start_ok m.e m.a m.p tr m.nt z hz) hn
  have hlen := startS_len m.e m.a m.p tr m.nt
  obtain ⟨X, hX⟩ : ∃ X, startS m.e m.a m.p tr m.nt = X := ⟨_, rfl⟩
  rw [hX] at hst hlen ⊢
  have HH : Hid (Bx w b kb v sq tr ms ∧ PVc w ∧ fi m.ct ms = some i ∧ Tx w m) := ⟨h, hV, hi, h.2.2 m hmem⟩
  have HD : Hid (∀ z, PVc z → Calls Tryz.prog 59 #[.agg #[.bool m.e, .int .i64 m.a, .int .i64 m.p], .int .i64 tr, .bool m.nt] z fun r w' => ∃ a c, r = .returned (.tuple #[.agg #[.int .i64 X.st, .int .i64 X.lf], .slice a X.l.length c, .nilIface]) ∧ Hid (Acts w' z.heap.size (.slice a X.l.length c) X.l ∧ Below z.heap.size z w')) := hst
  have HLn : Hid (X.l.length ≤ 3) := hlen
  have HQ : Hid ((sq && (m.nu == 0)) = false) := hq
  clear h hV hn hst hX hmem hi hlen hnx hq
  go_enter Tryz.func23, Tryz.ntmps23
  go_wp2_with fail
  refine hmk.mono ?_
  rintro _ w9 ⟨rfl, h9⟩
  subst w9
  clear hmk
  go_wp2_with fail
  refine hne.mono ?_
  rintro _ w1 ⟨rfl, hb1⟩
  have x2 := Box.new w1 #[.string m.ct, .slice m.tp m.tn m.tc, .bool m.e, .int .i64 m.a, .int .i64 m.p, .int .i64 m.nu, .bool m.nt, .int .i64 m.st, .int .i64 m.lf, .bool true] 91
  have HB2 : Hid (Below w.heap.size w (w1.alloc (.cells #[.string m.ct, .slice m.tp m.tn m.tc, .bool m.e, .int .i64 m.a, .int .i64 m.p, .int .i64 m.nu, .bool m.nt, .int .i64 m.st, .int .i64 m.lf, .bool true] 91))) := hb1.alloc hb1.size _
  have s1 : w1.cell? ⟨b, 1, none⟩ = some (.bool sq) := hcell (HH.out.1.below hb1).1 1
  have lb1 := (HH.out.1.below hb1).lt
  have HS1 : Hid (w.heap.size ≤ w1.heap.size) := hb1.size
  have g0 : sq = false ∨ (sq = true ∧ (m.nu == 0) = false) := by
    have := HQ.out
    cases sq with
    | false => exact Or.inl rfl
    | true => exact Or.inr ⟨rfl, by simpa using this⟩
  clear hb1 hne HQ
  rcases g0 with rfl | ⟨rfl, g1⟩
  all_goals
    go_upto_region 7 with fail
    obtain ⟨V, hVV⟩ : ∃ W, w1.alloc (.cells #[.string m.ct, .slice m.tp m.tn m.tc, .bool m.e, .int .i64 m.a, .int .i64 m.p, .int .i64 m.nu, .bool m.nt, .int .i64 m.st, .int .i64 m.lf, .bool true] 91) = W := ⟨_, rfl⟩
    rw [hVV] at x2 HB2 ⊢
    have HSV : Hid (V.heap.size = w1.heap.size + 1) := by unfold Hid; rw [← hVV]; simp
    clear hVV s1 lb1
    have s2 : V.cell? ⟨b, 2, none⟩ = some (.int .i64 tr) := hcell (HH.out.1.below HB2.out).1 2
    have lb := (HH.out.1.below HB2.out).lt
    have cx := x2.cell
    have lx := x2.lt
    have HX2 : Hid (Box V w1.heap.size #[.string m.ct, .slice m.tp m.tn m.tc, .bool m.e, .int .i64 m.a, .int .i64 m.p, .int .i64 m.nu, .bool m.nt, .int .i64 m.st, .int .i64 m.lf, .bool true]) := x2
    have HDz : Hid (∀ z, Below V.heap.size V z → Calls Tryz.prog 59 #[.agg #[.bool m.e, .int .i64 m.a, .int .i64 m.p], .int .i64 tr, .bool m.nt] z fun r w' => ∃ a c, r = .returned (.tuple #[.agg #[.int .i64 X.st, .int .i64 X.lf], .slice a X.l.length c, .nilIface]) ∧ Hid (Acts w' z.heap.size (.slice a X.l.length c) X.l ∧ Below V.heap.size V w' ∧ Below z.heap.size z w')) := fun z hz => (HD.out z ((HH.out.2.1.below HB2.out).below hz)).mono fun r z' ⟨a, c, h1, h2⟩ => ⟨a, c, h1, h2.out.1, below_then hz h2.out.2, h2.out.2⟩
    go_cut [6, 7, 8] from 6 to 48 (fun t6 t7 t8 wx => ∃ (wb : Nat) (a : Option Addr) (c : Nat), t6 = .pointer (some ⟨wb, 0, none⟩) ∧ t7 = .slice a X.l.length c ∧ t8 = .nilIface ∧ Hid (GoR V X.st X.lf X.l wb (.slice a X.l.length c) wx))
    case first =>
      have gs : ∀ {x : World}, Below V.heap.size V x → Hid (Below V.heap.size V x) ∧ (∀ o, x.cell? ⟨w1.heap.size, o, none⟩ = (#[.string m.ct, .slice m.tp m.tn m.tc, .bool m.e, .int .i64 m.a, .int .i64 m.p, .int .i64 m.nu, .bool m.nt, .int .i64 m.st, .int .i64 m.lf, .bool true] : Array Value)[o]?) ∧ x.cell? ⟨b, 2, none⟩ = some (.int .i64 tr) := fun {x} hx => ⟨hx, fun o => (hx.cell (p := ⟨w1.heap.size, o, none⟩) lx).trans (cx o), (hx.cell (p := ⟨b, 2, none⟩) lb).trans s2⟩
      go_region_held3 (fun x => Hid (Below V.heap.size V x) ∧ (∀ o, x.cell? ⟨w1.heap.size, o, none⟩ = (#[.string m.ct, .slice m.tp m.tn m.tc, .bool m.e, .int .i64 m.a, .int .i64 m.p, .int .i64 m.nu, .bool m.nt, .int .i64 m.st, .int .i64 m.lf, .bool true] : Array Value)[o]?) ∧ x.cell? ⟨b, 2, none⟩ = some (.int .i64 tr)) (first | (refine gs ?_; (repeat' (first | (with_reducible exact Below.refl _ _) | (with_reducible exact Hid.out (by assumption)) | (with_reducible refine bl_alloc ?_ _) | (with_reducible refine Below.drew ?_) | (refine Below.setCell ?_ (by exact Nat.le_refl _) _))))) (first | (go_at_call 59; refine (HDz.out _ ?_).mono ?_; (repeat' (first | (with_reducible exact Below.refl _ _) | (with_reducible exact Hid.out (by assumption)) | (with_reducible refine bl_alloc ?_ _) | (with_reducible refine Below.drew ?_) | (refine Below.setCell ?_ (by exact Nat.le_refl _) _))); rintro _ w5 ⟨a5, c5, rfl, hh5⟩; have hb5 : Hid (Below V.heap.size V w5) := (show Hid (Below V.heap.size V w5) from hh5.out.2.1); have hc5 := (held_of hh5.out.2.2).cell; have hf5 := (held_of hh5.out.2.2).froz; have hz5 := (held_of hh5.out.2.2).size))
      all_goals
        go_wp2_with fail
        go_meet
        refine ⟨_, a5, c5, rfl, rfl, rfl, ?_⟩
        unfold Hid
        first
          | ((with_reducible refine gor_a hh5.out.1 hh5.out.2.1 ?_); exact Nat.le_refl _)
          | (with_reducible refine gor_b hh5.out.1 hh5.out.2.1 hh5.out.2.2 ?_; exact (Box.new V _ _).drew)
    case rest =>
      obtain ⟨wb, a, c, rfl, rfl, rfl, HG⟩ := hcut
      clear s2 lb cx x2 HDz HD
      have hnb : ¬ wb = w1.heap.size := by have := HG.out.ge; omega
      have hnb' : ¬ w1.heap.size = wb := fun e => hnb e.symm
      have x3 := HX2.out.below HG.out.bel
      have c3 := x3.cell
      have f3 := x3.free
      have l3 := x3.lt
      have cw := HG.out.box.cell
      have HB3 : Hid (Below w.heap.size w ((wc.setCell ⟨w1.heap.size, 7, none⟩ (.int .i64 X.st)).setCell ⟨w1.heap.size, 8, none⟩ (.int .i64 X.lf)) ∧ Acts ((wc.setCell ⟨w1.heap.size, 7, none⟩ (.int .i64 X.st)).setCell ⟨w1.heap.size, 8, none⟩ (.int .i64 X.lf)) V.heap.size (.slice a X.l.length c) X.l) := by
        have hs := HS1.out
        have o1 : Off (fun q => q = w1.heap.size) wc ((wc.setCell ⟨w1.heap.size, 7, none⟩ (.int .i64 X.st)).setCell ⟨w1.heap.size, 8, none⟩ (.int .i64 X.lf)) := Off.setCell (P := fun q => q = w1.heap.size) (Off.setCell (P := fun q => q = w1.heap.size) (Off.refl _ _) (p := ⟨w1.heap.size, 7, none⟩) rfl _) (p := ⟨w1.heap.size, 8, none⟩) rfl _
        exact ⟨(below_then HB2.out HG.out.bel).trans (o1.below (Nat.le_trans HB2.out.size HG.out.bel.size) (fun k hk => by omega)), HG.out.acts.off o1 (fun q hq => by omega)⟩
      clear x3
      go_wp2_with fail
      refine (do_ok (m := { m with st := X.st, lf := X.lf, un := true }) (x := 0) (i0 := i) (l := X.l) (N := V.heap.size) (HH.out.1.below HB3.out.1) HH.out.2.2.1 ((HH.out.2.2.2.below HB3.out.1).same rfl rfl rfl rfl) HB3.out.2 HLn.out).mono ?_
      rintro _ w6 ⟨a6, c6, rfl, r6, q6⟩
      have HZ : Hid (DRow w6 w.heap.size (.slice a6 (deedsS m.ct X.l).length c6) (deedsS m.ct X.l) ∧ BxQ w b kb v _ tr (doS ms { m with st := X.st, lf := X.lf, un := true } 0 X.l) w6) := ⟨ERow.base r6 HB3.out.1.size, q6.of_below HB3.out.1⟩
      clear r6 q6 c3 f3
      go_wp2_with fail
      go_ret2
      exact ⟨a6, c6, rfl, HZ.out.1, HZ.out.2⟩
end
end Go.Proofs.YtoijhecphgdfnaaGreatDoor
