import Derived.Test.YtoijhecphgdfnaaGreatDoorOxDo3
import Derived.Test.YtoijhecphgdfnaaGreatDoorOxGet
/-
  put and Add of a box.
-/
namespace Go.Proofs.YtoijhecphgdfnaaGreatDoor
open Go.RowKit

section
variable {w w' : World} {b kb : Nat} {v : Value} {sq : Bool} {tr : Int} {ms : List Msg}
end
end Go.Proofs.YtoijhecphgdfnaaGreatDoor

/-
  Add; Give.
-/
namespace Go.Proofs.YtoijhecphgdfnaaGreatDoor
open Go.RowKit

/-- Why Add refuses. -/
def addC (sq : Bool) (ms : List Msg) (m : Msg) : Int := if ms.length = 32 then 7 else refS sq ms m
/-- A fault told. -/
def Fl (w : World) (at_ code : Int) (e : Ending) (w' : World) : Prop := ∃ z, e = .returned (.iface 122 (.pointer (some ⟨z, 0, none⟩))) ∧ w.heap.size ≤ z ∧ OFault w' z at_ code ∧ Below w.heap.size w w'
theorem refS_zero {sq : Bool} {ms : List Msg} {m : Msg} (h : refS sq ms m = 0) : fi m.ct ms = none ∧ m.tn ≤ 8192 := by
  unfold refS at h
  split at h
  · omega
  split at h
  · omega
  rename_i h1 h2
  split at h
  · omega
  rename_i h3
  refine ⟨by simpa using h2, ?_⟩
  simp only [Bool.or_eq_true, decide_eq_true_eq] at h3
  omega
section
variable {w w' : World} {b kb : Nat} {v : Value} {sq : Bool} {tr : Int} {ms : List Msg}
set_option maxRecDepth 100000 in
set_option maxHeartbeats 4000000 in
theorem add_no {m : Msg} (h : Bx w b kb v sq tr ms) (hV : PVc w) (hnu : m.nu = 0) (hnt : m.nt = false) (hc : addC sq ms m ≠ 0) :
    Calls Tryz.prog 16 #[.pointer (some ⟨b, 0, none⟩), .string m.ct, .slice m.tp m.tn m.tc, .agg #[.bool m.e, .int .i64 m.a, .int .i64 m.p]] w (Fl w 0 (addC sq ms m)) := by
  have hb1 : Below w.heap.size w (w.alloc (.cells #[.bool m.e, .int .i64 m.a, .int .i64 m.p] 45)) := (Below.refl _ _).alloc (Nat.le_refl _) _
  have hmk := made_yes (h.below hb1)
  have hct := count_any (h.below hb1).2.1
  have c0 := hcell (h.below hb1).1 0
  have c0' := hcell h.1 0
  have lb := h.lt
  have HB1 : Hid (Below w.heap.size w (w.alloc (.cells #[.bool m.e, .int .i64 m.a, .int .i64 m.p] 45))) := hb1
  obtain ⟨n, hn⟩ : ∃ n, ms.length = n := ⟨_, rfl⟩
  rw [hn] at hct
  by_cases h32 : n = 32
  · have e : addC sq ms m = 7 := by unfold addC; rw [hn, if_pos h32]
    rw [e]
    subst h32
    clear h hV hnu hnt hc hb1 hn e
    go_enter Tryz.func16, Tryz.ntmps16
    go_wp2_with fail
    refine hmk.mono ?_
    rintro _ w9 ⟨rfl, h9⟩
    subst w9
    clear hmk
    go_wp2_with fail
    refine hct.mono ?_
    rintro _ w9 ⟨rfl, h9⟩
    subst w9
    clear hct
    go_wp2_with fail
    refine (fault_any _ _ _).mono ?_
    rintro _ w2 ⟨rfl, hf2, hb2⟩
    have HE : Hid (OFault w2 (w.heap.size + 1) 0 7 ∧ Below w.heap.size w w2) := ⟨by simpa using hf2, below_then HB1.out hb2⟩
    clear hf2 hb2
    go_wp2_with fail
    go_ret
    exact ⟨w.heap.size + 1, rfl, by omega, HE.out.1, HE.out.2⟩
  · have e : addC sq ms m = refS sq ms m := by unfold addC; rw [hn, if_neg h32]
    rw [e] at hc ⊢
    have hb2 : Below w.heap.size w ((w.alloc (.cells #[.bool m.e, .int .i64 m.a, .int .i64 m.p] 45)).alloc (.cells #[.string m.ct, .slice m.tp m.tn m.tc, .bool m.e, .int .i64 m.a, .int .i64 m.p, .int .i64 0, .bool false] 58)) := hb1.alloc (by simp) _
    have hrf := refuse_any (h.below hb2) m (hV.below hb2)
    rw [hnu, hnt] at hrf
    have HB2 : Hid (Below w.heap.size w ((w.alloc (.cells #[.bool m.e, .int .i64 m.a, .int .i64 m.p] 45)).alloc (.cells #[.string m.ct, .slice m.tp m.tn m.tc, .bool m.e, .int .i64 m.a, .int .i64 m.p, .int .i64 0, .bool false] 58))) := hb2
    obtain ⟨cd, hcd⟩ : ∃ cd, refS sq ms m = cd := ⟨_, rfl⟩
    rw [hcd] at hc hrf ⊢
    have g32 : ((n : Int) == 32) = false := by rw [beq_eq_false_iff_ne]; omega
    have gc : (cd != 0) = true := by simpa using hc
    clear h hV hnu hnt hc hb1 hb2 hn e h32 hcd
    go_enter Tryz.func16, Tryz.ntmps16
    go_wp2_with fail
    refine hmk.mono ?_
    rintro _ w9 ⟨rfl, h9⟩
    subst w9
    clear hmk
    go_wp2_with fail
    refine hct.mono ?_
    rintro _ w9 ⟨rfl, h9⟩
    subst w9
    clear hct
    go_wp2_with fail
    refine hrf.mono ?_
    rintro _ w3 ⟨rfl, hb3⟩
    have HB3 : Hid (Below w.heap.size w w3) := below_then HB2.out hb3
    clear hrf hb3 c0 c0' lb
    go_wp2_with fail
    refine (fault_any _ _ _).mono ?_
    rintro _ w4 ⟨rfl, hf2, hb2⟩
    have HE : Hid (OFault w4 w3.heap.size 0 cd ∧ Below w.heap.size w w4) := ⟨hf2, below_then HB3.out hb2⟩
    clear hf2 hb2
    go_wp2_with fail
    go_ret
    exact ⟨w3.heap.size, rfl, HB3.out.size, HE.out.1, HE.out.2⟩
end
end Go.Proofs.YtoijhecphgdfnaaGreatDoor

/-
  Due.
-/
namespace Go.Proofs.YtoijhecphgdfnaaGreatDoor
open Go.RowKit

/-- A fault told with no deeds. -/
def DFl (w : World) (code : Int) (e : Ending) (w' : World) : Prop := ∃ z, e = .returned (.tuple #[.slice none 0 0, .iface 122 (.pointer (some ⟨z, 0, none⟩))]) ∧ w.heap.size ≤ z ∧ OFault w' z 0 code ∧ Below w.heap.size w w'
theorem Acts.off {P : Nat → Prop} {w w' : World} {N : Nat} {v : Value} {l : ActL} (h : Acts w N v l) (o : Off P w w') (hP : ∀ q, N ≤ q → ¬ P q) : Acts w' N v l := by
  obtain ⟨po, cap, h1, h2, h3⟩ := h
  refine ⟨po, cap, h1, h2, fun j y hj => ?_⟩
  obtain ⟨b, of, e, hn, hl, c1, c2⟩ := h3 j y hj
  exact ⟨b, of, e, hn, Nat.lt_of_lt_of_le hl o.size, by rw [o.cell (p := ⟨b, of + j * 2, none⟩) hl (hP b hn)]; exact c1, by rw [o.cell (p := ⟨b, of + j * 2 + 1, none⟩) hl (hP b hn)]; exact c2⟩
theorem BxQ.of_below {w w1 w' : World} {b kb : Nat} {v : Value} {sq : Bool} {tr : Int} {ms' : List Msg} (hb : Below w.heap.size w w1) (h : BxQ w1 b kb v sq tr ms' w') : BxQ w b kb v sq tr ms' w' := by
  obtain ⟨v', q1, q2, q3⟩ := h
  exact ⟨v', q1, (Off.of_below hb).trans q2, fun q e => (q3 q e).imp id fun g => Nat.le_trans hb.size g⟩
theorem DoQ.of_below {w w1 w' : World} {b kb : Nat} {v : Value} {sq : Bool} {tr : Int} {ds : List Deed} {ms' : List Msg} {e : Ending} (hb : Below w.heap.size w w1) (h : DoQ w1 b kb v sq tr ds ms' e w') : DoQ w b kb v sq tr ds ms' e w' := by
  obtain ⟨a, c, h1, h2, h3⟩ := h
  exact ⟨a, c, h1, ERow.base h2 hb.size, h3.of_below hb⟩
theorem ans_yes {f : FuncId} {args : Array Value} {x : Ans} {w : World} (h : Calls Tryz.prog f args w (PAnsQ x w)) (hn : x.n = 0) : Calls Tryz.prog f args w fun r w' => ∃ a c, r = .returned (.tuple #[.agg #[.int .i64 x.st, .int .i64 x.lf], .slice a x.l.length c, .nilIface]) ∧ Hid (Acts w' w.heap.size (.slice a x.l.length c) x.l ∧ Below w.heap.size w w') :=
  h.mono fun r w' ⟨lv, ev, h1, h2, h3, h4⟩ => by
    obtain ⟨a, c, rfl, _⟩ := h2.isSlice
    rcases h3 with ⟨rfl, _⟩ | ⟨g, _⟩
    · exact ⟨a, c, h1, h2.acts, h4⟩
    · exact absurd hn g
section
variable {w w' : World} {b kb : Nat} {v : Value} {sq : Bool} {tr : Int} {ms : List Msg}
set_option maxRecDepth 100000 in
set_option maxHeartbeats 2000000 in
theorem due_un {s : ByteArray} {cd : Int} (h : Calls Tryz.prog 63 #[.pointer (some ⟨b, 0, none⟩), .string s] w (ZFl w cd)) : Calls Tryz.prog 29 #[.pointer (some ⟨b, 0, none⟩), .string s] w (DFl w cd) := by
  go_enter Tryz.func29, Tryz.ntmps29
  go_wp2_with fail
  refine h.mono ?_
  rintro _ w1 ⟨z, rfl, hz, hf, hb⟩
  have HE : Hid (w.heap.size ≤ z ∧ (∀ o, OFault (w1.alloc o) z 0 cd) ∧ ∀ o, Below w.heap.size w (w1.alloc o)) := ⟨hz, fun o => hf.below ((Below.refl _ _).alloc (Nat.le_refl _) _), fun o => hb.alloc hb.size o⟩
  clear h hz hf hb
  go_wp2_with fail
  go_ret2
  exact ⟨z, rfl, HE.out.1, HE.out.2.1 _, HE.out.2.2 _⟩
set_option maxRecDepth 100000 in
set_option maxHeartbeats 1000000 in
theorem due_go {s : ByteArray} {i : Nat} {m : Msg} (h : Bx w b kb v sq tr ms) (hV : PVc w) (hf : fi s ms = some i) (hm : ms[i]? = some m) (hu : m.un = true) (hn : (dueS m.e m.a m.p m.st m.lf).n = 0) :
    Calls Tryz.prog 29 #[.pointer (some ⟨b, 0, none⟩), .string s] w (DoQ w b kb v sq tr (deedsS m.ct (dueS m.e m.a m.p m.st m.lf).l) (doS ms { m with st := (dueS m.e m.a m.p m.st m.lf).st, lf := (dueS m.e m.a m.p m.st m.lf).lf, un := true } 0 (dueS m.e m.a m.p m.st m.lf).l)) := by
  have hun := under_yes h s hf hm hu
  have hdu := fun z hz => ans_yes (due_ok m.e m.a m.p m.st m.lf z hz) hn
  obtain ⟨m0, hm0, he0, _⟩ := fi_some hf
  obtain rfl : m0 = m := by rw [hm] at hm0; exact (Option.some.inj hm0).symm
  have hfm : fi m0.ct ms = some i := by rw [str_of he0]; exact hf
  have hlen := dueS_len m0.e m0.a m0.p m0.st m0.lf
  obtain ⟨X, hX⟩ : ∃ X, dueS m0.e m0.a m0.p m0.st m0.lf = X := ⟨_, rfl⟩
  rw [hX] at hdu hlen ⊢
  have HH : Hid (Bx w b kb v sq tr ms ∧ PVc w ∧ fi m0.ct ms = some i ∧ Tx w m0) := ⟨h, hV, hfm, h.2.2 m0 (List.mem_of_getElem? hm)⟩
  have HD : Hid (∀ z, PVc z → Calls Tryz.prog 66 #[.agg #[.bool m0.e, .int .i64 m0.a, .int .i64 m0.p], .agg #[.int .i64 m0.st, .int .i64 m0.lf]] z fun r w' => ∃ a c, r = .returned (.tuple #[.agg #[.int .i64 X.st, .int .i64 X.lf], .slice a X.l.length c, .nilIface]) ∧ Hid (Acts w' z.heap.size (.slice a X.l.length c) X.l ∧ Below z.heap.size z w')) := hdu
  rw [hu] at hun
  have HLn : Hid (X.l.length ≤ 3) := hlen
  clear h hV hf hm hn hdu hX hm0 he0 hfm hu hlen
  go_enter Tryz.func29, Tryz.ntmps29
  go_wp2_with fail
  refine hun.mono ?_
  rintro _ w1 ⟨rfl, hb1⟩
  have x2 := Box.new w1 #[.string m0.ct, .slice m0.tp m0.tn m0.tc, .bool m0.e, .int .i64 m0.a, .int .i64 m0.p, .int .i64 m0.nu, .bool m0.nt, .int .i64 m0.st, .int .i64 m0.lf, .bool true] 91
  have HB2 : Hid (Below w.heap.size w (w1.alloc (.cells #[.string m0.ct, .slice m0.tp m0.tn m0.tc, .bool m0.e, .int .i64 m0.a, .int .i64 m0.p, .int .i64 m0.nu, .bool m0.nt, .int .i64 m0.st, .int .i64 m0.lf, .bool true] 91))) := hb1.alloc hb1.size _
  clear hun
  go_wp2_with fail
  obtain ⟨W2, hW2⟩ : ∃ W, w1.alloc (.cells #[.string m0.ct, .slice m0.tp m0.tn m0.tc, .bool m0.e, .int .i64 m0.a, .int .i64 m0.p, .int .i64 m0.nu, .bool m0.nt, .int .i64 m0.st, .int .i64 m0.lf, .bool true] 91) = W := ⟨_, rfl⟩
  rw [hW2] at x2 HB2 ⊢
  have HS2 : Hid (W2.heap.size = w1.heap.size + 1 ∧ w.heap.size ≤ w1.heap.size) := ⟨by rw [← hW2]; simp, hb1.size⟩
  clear hW2 hb1
  refine (HD.out W2 (HH.out.2.1.below HB2.out)).mono ?_
  rintro _ w3 ⟨a, c, rfl, h3⟩
  have x3 := x2.below h3.out.2
  have c3 := x3.cell
  have f3 := x3.free
  have l3 := x3.lt
  have HB3 : Hid (∀ o, Below w.heap.size w (((w3.setCell ⟨w1.heap.size, 7, none⟩ (.int .i64 X.st)).setCell ⟨w1.heap.size, 8, none⟩ (.int .i64 X.lf)).alloc o) ∧ Acts (((w3.setCell ⟨w1.heap.size, 7, none⟩ (.int .i64 X.st)).setCell ⟨w1.heap.size, 8, none⟩ (.int .i64 X.lf)).alloc o) W2.heap.size (.slice a X.l.length c) X.l) := fun o => by
    have hs := HS2.out
    have o1 : Off (fun q => q = w1.heap.size) w3 (((w3.setCell ⟨w1.heap.size, 7, none⟩ (.int .i64 X.st)).setCell ⟨w1.heap.size, 8, none⟩ (.int .i64 X.lf)).alloc o) := Off.alloc (Off.setCell (P := fun q => q = w1.heap.size) (Off.setCell (P := fun q => q = w1.heap.size) (Off.refl _ _) (p := ⟨w1.heap.size, 7, none⟩) rfl _) (p := ⟨w1.heap.size, 8, none⟩) rfl _) o
    exact ⟨(below_then HB2.out h3.out.2).trans (o1.below (Nat.le_trans HB2.out.size h3.out.2.size) (fun k hk => by omega)), h3.out.1.off o1 (fun q hq => by omega)⟩
  clear x3 x2
  go_wp2_with fail
  refine (do_ok (m := { m0 with st := X.st, lf := X.lf, un := true }) (x := 0) (i0 := i) (l := X.l) (N := W2.heap.size) (HH.out.1.below (HB3.out _).1) HH.out.2.2.1 ((HH.out.2.2.2.below (HB3.out _).1).same rfl rfl rfl rfl) (HB3.out _).2 HLn.out).mono ?_
  rintro _ w6 ⟨a6, c6, rfl, r6, q6⟩
  have HZ : Hid (DRow w6 w.heap.size (.slice a6 (deedsS m0.ct X.l).length c6) (deedsS m0.ct X.l) ∧ BxQ w b kb v sq tr (doS ms { m0 with st := X.st, lf := X.lf, un := true } 0 X.l) w6) := ⟨ERow.base r6 (HB3.out _).1.size, q6.of_below (HB3.out _).1⟩
  clear r6 q6 c3 f3
  go_wp2_with fail
  go_ret2
  exact ⟨a6, c6, rfl, HZ.out.1, HZ.out.2⟩
end
end Go.Proofs.YtoijhecphgdfnaaGreatDoor

/-
  Give.
-/
namespace Go.Proofs.YtoijhecphgdfnaaGreatDoor
open Go.RowKit

theorem fi_mem {m : Msg} {ms : List Msg} (h : m ∈ ms) : ∃ i, fi m.ct ms = some i := by
  cases hf : fi m.ct ms with
  | some i => exact ⟨i, rfl⟩
  | none =>
    obtain ⟨j, hj, e⟩ := List.getElem_of_mem h
    have := fi_none hf j m (by rw [List.getElem?_eq_getElem hj, e])
    simp at this
section
variable {w w' : World} {b kb : Nat} {v : Value} {sq : Bool} {tr : Int} {ms : List Msg}
set_option maxRecDepth 100000 in
set_option maxHeartbeats 4000000 in
theorem give_yes {m : Msg} {n : Int} (h : Bx w b kb v true tr ms) (hn : nextS true ms = some m) (hg : nmB n = true) : Calls Tryz.prog 21 #[.pointer (some ⟨b, 0, none⟩), .int .i64 n] w fun e w' => e = .returned .nilIface ∧ BxQ w b kb v true tr (putS { m with nu := n } ms) w' := by
  have hmem := (nextS_mem hn).1
  obtain ⟨i, hi⟩ := fi_mem hmem
  have hmk := made_yes h
  have hnx := next_yes h hn
  have hnb : ∀ z, Calls Tryz.prog 57 #[.int .i64 n] z fun e w' => e = .returned (.bool true) ∧ w' = z := fun z => by have := isNumber_any n z; rw [hg] at this; exact this
  have HH : Hid (Bx w b kb v true tr ms ∧ fi m.ct ms = some i ∧ Tx w m) := ⟨h, hi, h.2.2 m hmem⟩
  clear h hn hg hmem hi
  go_enter Tryz.func21, Tryz.ntmps21
  go_wp2_with fail
  refine hmk.mono ?_
  rintro _ w9 ⟨rfl, h9⟩
  subst w9
  clear hmk
  go_wp2_with fail
  refine hnx.mono ?_
  rintro _ w1 ⟨rfl, hb1⟩
  have x2 := Box.new w1 #[.string m.ct, .slice m.tp m.tn m.tc, .bool m.e, .int .i64 m.a, .int .i64 m.p, .int .i64 m.nu, .bool m.nt, .int .i64 m.st, .int .i64 m.lf, .bool m.un] 91
  have HB2 : Hid (Below w.heap.size w (w1.alloc (.cells #[.string m.ct, .slice m.tp m.tn m.tc, .bool m.e, .int .i64 m.a, .int .i64 m.p, .int .i64 m.nu, .bool m.nt, .int .i64 m.st, .int .i64 m.lf, .bool m.un] 91))) := hb1.alloc hb1.size _
  have HS : Hid (w.heap.size ≤ w1.heap.size) := hb1.size
  obtain ⟨W2, hW2⟩ : ∃ W, w1.alloc (.cells #[.string m.ct, .slice m.tp m.tn m.tc, .bool m.e, .int .i64 m.a, .int .i64 m.p, .int .i64 m.nu, .bool m.nt, .int .i64 m.st, .int .i64 m.lf, .bool m.un] 91) = W := ⟨_, rfl⟩
  rw [hW2] at x2 HB2
  have s1 := hcell (HH.out.1.below HB2.out).1 1
  have lb := (HH.out.1.below HB2.out).lt
  have cx2 := x2.cell
  have fx2 := x2.free
  have HX3 : Hid (Box (W2.setCell ⟨w1.heap.size, 5, none⟩ (.int .i64 n)) w1.heap.size #[.string m.ct, .slice m.tp m.tn m.tc, .bool m.e, .int .i64 m.a, .int .i64 m.p, .int .i64 n, .bool m.nt, .int .i64 m.st, .int .i64 m.lf, .bool m.un] ∧ Below w.heap.size w (W2.setCell ⟨w1.heap.size, 5, none⟩ (.int .i64 n))) := by
    refine ⟨?_, HB2.out.setCell (p := ⟨w1.heap.size, 5, none⟩) HS.out _⟩
    have := x2.pPut (j := 5) (by simp) (.int .i64 n)
    simpa using this
  clear hb1 hnx
  go_wp2_with (first | (go_at_call 57; refine (hnb _).mono ?_; rintro _ w9 ⟨rfl, h9⟩; subst w9))
  obtain ⟨W3, hW3⟩ : ∃ W, W2.setCell ⟨w1.heap.size, 5, none⟩ (.int .i64 n) = W := ⟨_, rfl⟩
  rw [hW3] at HX3 ⊢
  clear hW2 hW3 s1 lb cx2 fx2 hnb
  have c0 := hcell (HH.out.1.below HX3.out.2).1 0
  have lb := (HH.out.1.below HX3.out.2).lt
  have cx := HX3.out.1.cell
  have lx := HX3.out.1.lt
  have HPT : Hid (∀ z, Below W3.heap.size W3 z → Calls Tryz.prog 58 #[.pointer (some ⟨kb, 0, none⟩), .agg #[.string m.ct, .slice m.tp m.tn m.tc, .bool m.e, .int .i64 m.a, .int .i64 m.p, .int .i64 n, .bool m.nt, .int .i64 m.st, .int .i64 m.lf, .bool m.un]] z fun e z' => e = .returned (.tuple #[]) ∧ Hid (KdQ W3 kb v (putS { m with nu := n } ms) z')) := fun z hz => (put_at ((HH.out.1.below HX3.out.2).2.1.below hz) { m with nu := n } HH.out.2.1).mono fun _ _ ⟨h1, h2⟩ => ⟨h1, KdQ.of_below hz h2⟩
  go_region_law (go_simp; go_at_call 58; refine (HPT.out _ ?_).mono ?_; (repeat' (first | exact Below.refl _ _ | refine Below.drew ?_)); rintro _ w5 ⟨rfl, hh5⟩; go_wp2_with fail)
  all_goals
    go_wp2_with fail
    go_ret
    refine ⟨rfl, bxq_of (HH.out.1.below HX3.out.2) HX3.out.2 hh5.out (fun y hy => ?_)⟩
    rcases putS_mem hy with g | rfl
    · exact (HH.out.1.below HX3.out.2).2.2 y g
    · exact (HH.out.2.2.below HX3.out.2).same rfl rfl rfl rfl
set_option maxRecDepth 100000 in
set_option maxHeartbeats 2000000 in
theorem give_given {m : Msg} {n : Int} (h : Bx w b kb v true tr ms) (hn : nextS true ms = some m) (hg : nmB n = false) : Calls Tryz.prog 21 #[.pointer (some ⟨b, 0, none⟩), .int .i64 n] w (Fl w 0 282) := by
  have hmk := made_yes h
  have hnx := next_yes h hn
  have hnb : ∀ z, Calls Tryz.prog 57 #[.int .i64 n] z fun e w' => e = .returned (.bool false) ∧ w' = z := fun z => by have := isNumber_any n z; rw [hg] at this; exact this
  have HH : Hid (Bx w b kb v true tr ms) := h
  clear h hn hg
  go_enter Tryz.func21, Tryz.ntmps21
  go_wp2_with fail
  refine hmk.mono ?_
  rintro _ w9 ⟨rfl, h9⟩
  subst w9
  clear hmk
  go_wp2_with fail
  refine hnx.mono ?_
  rintro _ w1 ⟨rfl, hb1⟩
  have HB2 : Hid (∀ o, Below w.heap.size w (w1.alloc o)) := fun o => hb1.alloc hb1.size o
  have HS : Hid (w.heap.size ≤ w1.heap.size) := hb1.size
  have s1 := hcell (HH.out.below hb1).1 1
  have lb := (HH.out.below hb1).lt
  clear hb1 hnx
  go_wp2_with (first | (go_at_call 57; refine (hnb _).mono ?_; rintro _ w9 ⟨rfl, h9⟩; subst w9))
  refine (fault_any _ _ _).mono ?_
  rintro _ w2 ⟨rfl, hf2, hb2⟩
  have HE : Hid (OFault w2 (w1.heap.size + 1) 0 282 ∧ Below w.heap.size w w2) := ⟨by simpa using hf2, below_then (HB2.out _) hb2⟩
  clear hf2 hb2
  go_wp2_with fail
  go_ret
  exact ⟨w1.heap.size + 1, rfl, by have := HS.out; omega, HE.out.1, HE.out.2⟩
set_option maxRecDepth 100000 in
set_option maxHeartbeats 2000000 in
theorem give_state {M : Msg} {o : Bool} {n : Int} (h : Bx w b kb v sq tr ms) (hnx : Calls Tryz.prog 54 #[.pointer (some ⟨b, 0, none⟩)] w fun e w' => e = .returned (.tuple #[.agg #[.string M.ct, .slice M.tp M.tn M.tc, .bool M.e, .int .i64 M.a, .int .i64 M.p, .int .i64 M.nu, .bool M.nt, .int .i64 M.st, .int .i64 M.lf, .bool M.un], .bool o]) ∧ Below w.heap.size w w') (hso : (sq && o) = false) : Calls Tryz.prog 21 #[.pointer (some ⟨b, 0, none⟩), .int .i64 n] w (Fl w 0 281) := by
  have hmk := made_yes h
  have HH : Hid (Bx w b kb v sq tr ms) := h
  clear h
  cases sq with
  | false =>
    go_enter Tryz.func21, Tryz.ntmps21
    go_wp2_with fail
    refine hmk.mono ?_
    rintro _ w9 ⟨rfl, h9⟩
    subst w9
    clear hmk
    go_wp2_with fail
    refine hnx.mono ?_
    rintro _ w1 ⟨rfl, hb1⟩
    have HB2 : Hid (∀ o, Below w.heap.size w (w1.alloc o)) := fun o => hb1.alloc hb1.size o
    have HS : Hid (w.heap.size ≤ w1.heap.size) := hb1.size
    have s1 := hcell (HH.out.below hb1).1 1
    have lb := (HH.out.below hb1).lt
    clear hb1 hnx
    go_wp2_with fail
    refine (fault_any _ _ _).mono ?_
    rintro _ w2 ⟨rfl, hf2, hb2⟩
    have HE : Hid (OFault w2 (w1.heap.size + 1) 0 281 ∧ Below w.heap.size w w2) := ⟨by simpa using hf2, below_then (HB2.out _) hb2⟩
    clear hf2 hb2
    go_wp2_with fail
    go_ret
    exact ⟨w1.heap.size + 1, rfl, by have := HS.out; omega, HE.out.1, HE.out.2⟩
  | true =>
    obtain rfl : o = false := by simpa using hso
    go_enter Tryz.func21, Tryz.ntmps21
    go_wp2_with fail
    refine hmk.mono ?_
    rintro _ w9 ⟨rfl, h9⟩
    subst w9
    clear hmk
    go_wp2_with fail
    refine hnx.mono ?_
    rintro _ w1 ⟨rfl, hb1⟩
    have HB2 : Hid (∀ o, Below w.heap.size w (w1.alloc o)) := fun o => hb1.alloc hb1.size o
    have HS : Hid (w.heap.size ≤ w1.heap.size) := hb1.size
    have s1 := hcell (HH.out.below hb1).1 1
    have lb := (HH.out.below hb1).lt
    clear hb1 hnx
    go_wp2_with fail
    refine (fault_any _ _ _).mono ?_
    rintro _ w2 ⟨rfl, hf2, hb2⟩
    have HE : Hid (OFault w2 (w1.heap.size + 1) 0 281 ∧ Below w.heap.size w w2) := ⟨by simpa using hf2, below_then (HB2.out _) hb2⟩
    clear hf2 hb2
    go_wp2_with fail
    go_ret
    exact ⟨w1.heap.size + 1, rfl, by have := HS.out; omega, HE.out.1, HE.out.2⟩
end
end Go.Proofs.YtoijhecphgdfnaaGreatDoor
