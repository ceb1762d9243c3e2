/-
  Due.
-/
import Derived.Test.YtigmgbnfiiobeaaDoorOxAdd2
namespace Go.Proofs.YtigmgbnfiiobeaaDoor
open Go.RowKit

/-- A fault told with no deeds. -/
def DFl (w : World) (code : Int) (e : Ending) (w' : World) : Prop := ∃ z, e = .returned (.tuple #[.slice none 0 0, .iface 91 (.pointer (some ⟨z, 0, none⟩))]) ∧ w.heap.size ≤ z ∧ OFault w' z 0 code ∧ Below w.heap.size w w'
theorem Acts.off {P : Nat → Prop} {w w' : World} {N : Nat} {v : Value} {l : ActL} (h : Acts w N v l) (o : Off P w w') (hP : ∀ q, N ≤ q → ¬ P q) : Acts w' N v l := by
  obtain ⟨po, cap, h1, h2, h3⟩ := h
  refine ⟨po, cap, h1, h2, fun j y hj => ?_⟩
  obtain ⟨b, of, e, hn, hl, c1, c2⟩ := h3 j y hj
  exact ⟨b, of, e, hn, Nat.lt_of_lt_of_le hl o.size, by rw [o.cell (p := ⟨b, of + j * 2, none⟩) hl (hP b hn)]; exact c1, by rw [o.cell (p := ⟨b, of + j * 2 + 1, none⟩) hl (hP b hn)]; exact c2⟩
theorem BxQ.of_below {w w1 w' : World} {b kb : Nat} {v : Value} {sq : Bool} {tr : Int} {ms' : List Msg} (hb : Below w.heap.size w w1) (h : BxQ w1 b kb v sq tr ms' w') : BxQ w b kb v sq tr ms' w' := by
  obtain ⟨v', q1, q2, q3⟩ := h
  exact ⟨v', q1, (Off.of_below hb).trans q2, fun q e => (q3 q e).imp id fun g => Nat.le_trans hb.size g⟩
theorem DoQ.of_below {w w1 w' : World} {b kb : Nat} {v : Value} {sq : Bool} {tr : Int} {ds : List Deed} {ms' : List Msg} {e : Ending} (hb : Below w.heap.size w w1) (h : DoQ w1 b kb v sq tr ds ms' e w') : DoQ w b kb v sq tr ds ms' e w' := by
  obtain ⟨a, c, h1, h2, h3⟩ := h
  exact ⟨a, c, h1, ERow.base h2 hb.size, h3.of_below hb⟩
theorem ans_yes {f : FuncId} {args : Array Value} {x : Ans} {w : World} (h : Calls Tryd.prog f args w (PAnsQ x w)) (hn : x.n = 0) : Calls Tryd.prog f args w fun r w' => ∃ a c, r = .returned (.tuple #[.agg #[.int .i64 x.st, .int .i64 x.lf], .slice a x.l.length c, .nilIface]) ∧ Hid (Acts w' w.heap.size (.slice a x.l.length c) x.l ∧ Below w.heap.size w w') :=
  h.mono fun r w' ⟨lv, ev, h1, h2, h3, h4⟩ => by
    obtain ⟨a, c, rfl, _⟩ := h2.isSlice
    rcases h3 with ⟨rfl, _⟩ | ⟨g, _⟩
    · exact ⟨a, c, h1, h2.acts, h4⟩
    · exact absurd hn g
theorem ans_no {f : FuncId} {args : Array Value} {x : Ans} {w : World} (h : Calls Tryd.prog f args w (PAnsQ x w)) (hn : x.n ≠ 0) : Calls Tryd.prog f args w fun r w' => ∃ a c z, r = .returned (.tuple #[.agg #[.int .i64 x.st, .int .i64 x.lf], .slice a x.l.length c, .iface 91 (.pointer (some ⟨z, 0, none⟩))]) ∧ Below w.heap.size w w' :=
  h.mono fun r w' ⟨lv, ev, h1, h2, h3, h4⟩ => by
    obtain ⟨a, c, rfl, _⟩ := h2.isSlice
    rcases h3 with ⟨_, g⟩ | ⟨_, z, rfl, _⟩
    · exact absurd g hn
    · exact ⟨a, c, z, h1, h4⟩
section
variable {w w' : World} {b kb : Nat} {v : Value} {sq : Bool} {tr : Int} {ms : List Msg}
set_option maxRecDepth 100000 in
set_option maxHeartbeats 2000000 in
theorem due_un {s : ByteArray} {cd : Int} (h : Calls Tryd.prog 30 #[.pointer (some ⟨b, 0, none⟩), .string s] w (ZFl w cd)) : Calls Tryd.prog 20 #[.pointer (some ⟨b, 0, none⟩), .string s] w (DFl w cd) := by
  go_enter Tryd.func20, Tryd.ntmps20
  go_wp2_with fail
  refine h.mono ?_
  rintro _ w1 ⟨z, rfl, hz, hf, hb⟩
  have HE : Hid (w.heap.size ≤ z ∧ (∀ o, OFault (w1.alloc o) z 0 cd) ∧ ∀ o, Below w.heap.size w (w1.alloc o)) := ⟨hz, fun o => hf.below ((Below.refl _ _).alloc (Nat.le_refl _) _), fun o => hb.alloc hb.size o⟩
  clear h hz hf hb
  go_wp2_with fail
  go_ret2
  exact ⟨z, rfl, HE.out.1, HE.out.2.1 _, HE.out.2.2 _⟩
set_option maxRecDepth 100000 in
set_option maxHeartbeats 1000000 in
theorem due_go {s : ByteArray} {i : Nat} {m : Msg} (h : Bx w b kb v sq tr ms) (hV : PVc w) (hf : fi s ms = some i) (hm : ms[i]? = some m) (hu : m.un = true) (hn : (dueS m.e m.a m.p m.st m.lf).n = 0) :
    Calls Tryd.prog 20 #[.pointer (some ⟨b, 0, none⟩), .string s] w (DoQ w b kb v sq tr (deedsS m.ct (dueS m.e m.a m.p m.st m.lf).l) (doS ms { m with st := (dueS m.e m.a m.p m.st m.lf).st, lf := (dueS m.e m.a m.p m.st m.lf).lf, un := true } 0 (dueS m.e m.a m.p m.st m.lf).l)) := by
  have hun := under_yes h s hf hm hu
  have hdu := fun z hz => ans_yes (due_ok m.e m.a m.p m.st m.lf z hz) hn
  obtain ⟨m0, hm0, he0, _⟩ := fi_some hf
  obtain rfl : m0 = m := by rw [hm] at hm0; exact (Option.some.inj hm0).symm
  have hfm : fi m0.ct ms = some i := by rw [str_of he0]; exact hf
  have hlen := dueS_len m0.e m0.a m0.p m0.st m0.lf
  obtain ⟨X, hX⟩ : ∃ X, dueS m0.e m0.a m0.p m0.st m0.lf = X := ⟨_, rfl⟩
  rw [hX] at hdu hlen ⊢
  have HH : Hid (Bx w b kb v sq tr ms ∧ PVc w ∧ fi m0.ct ms = some i ∧ Tx w m0) := ⟨h, hV, hfm, h.2.2 m0 (List.mem_of_getElem? hm)⟩
  have HD : Hid (∀ z, PVc z → Calls Tryd.prog 37 #[.agg #[.bool m0.e, .int .i64 m0.a, .int .i64 m0.p], .agg #[.int .i64 m0.st, .int .i64 m0.lf]] z fun r w' => ∃ a c, r = .returned (.tuple #[.agg #[.int .i64 X.st, .int .i64 X.lf], .slice a X.l.length c, .nilIface]) ∧ Hid (Acts w' z.heap.size (.slice a X.l.length c) X.l ∧ Below z.heap.size z w')) := hdu
  rw [hu] at hun
  have HLn : Hid (X.l.length ≤ 3) := hlen
  clear h hV hf hm hn hdu hX hm0 he0 hfm hu hlen
  go_enter Tryd.func20, Tryd.ntmps20
  go_wp2_with fail
  refine hun.mono ?_
  rintro _ w1 ⟨rfl, hb1⟩
  have x2 := Box.new w1 #[.string m0.ct, .slice m0.tp m0.tn m0.tc, .bool m0.e, .int .i64 m0.a, .int .i64 m0.p, .int .i64 m0.nu, .bool m0.nt, .int .i64 m0.st, .int .i64 m0.lf, .bool true] 49
  have HB2 : Hid (Below w.heap.size w (w1.alloc (.cells #[.string m0.ct, .slice m0.tp m0.tn m0.tc, .bool m0.e, .int .i64 m0.a, .int .i64 m0.p, .int .i64 m0.nu, .bool m0.nt, .int .i64 m0.st, .int .i64 m0.lf, .bool true] 49))) := hb1.alloc hb1.size _
  clear hun
  go_wp2_with fail
  obtain ⟨W2, hW2⟩ : ∃ W, w1.alloc (.cells #[.string m0.ct, .slice m0.tp m0.tn m0.tc, .bool m0.e, .int .i64 m0.a, .int .i64 m0.p, .int .i64 m0.nu, .bool m0.nt, .int .i64 m0.st, .int .i64 m0.lf, .bool true] 49) = W := ⟨_, rfl⟩
  rw [hW2] at x2 HB2 ⊢
  have HS2 : Hid (W2.heap.size = w1.heap.size + 1 ∧ w.heap.size ≤ w1.heap.size) := ⟨by rw [← hW2]; simp, hb1.size⟩
  clear hW2 hb1
  refine (HD.out W2 (HH.out.2.1.below HB2.out)).mono ?_
  rintro _ w3 ⟨a, c, rfl, h3⟩
  have x3 := x2.below h3.out.2
  have c3 := x3.cell
  have f3 := x3.free
  have l3 := x3.lt
  have HB3 : Hid (∀ o, Below w.heap.size w (((w3.setCell ⟨w1.heap.size, 7, none⟩ (.int .i64 X.st)).setCell ⟨w1.heap.size, 8, none⟩ (.int .i64 X.lf)).alloc o) ∧ Acts (((w3.setCell ⟨w1.heap.size, 7, none⟩ (.int .i64 X.st)).setCell ⟨w1.heap.size, 8, none⟩ (.int .i64 X.lf)).alloc o) W2.heap.size (.slice a X.l.length c) X.l) := fun o => by
    have hs := HS2.out
    have o1 : Off (fun q => q = w1.heap.size) w3 (((w3.setCell ⟨w1.heap.size, 7, none⟩ (.int .i64 X.st)).setCell ⟨w1.heap.size, 8, none⟩ (.int .i64 X.lf)).alloc o) := Off.alloc (Off.setCell (P := fun q => q = w1.heap.size) (Off.setCell (P := fun q => q = w1.heap.size) (Off.refl _ _) (p := ⟨w1.heap.size, 7, none⟩) rfl _) (p := ⟨w1.heap.size, 8, none⟩) rfl _) o
    exact ⟨(below_then HB2.out h3.out.2).trans (o1.below (Nat.le_trans HB2.out.size h3.out.2.size) (fun k hk => by omega)), h3.out.1.off o1 (fun q hq => by omega)⟩
  clear x3 x2
  go_wp2_with fail
  refine (do_ok (m := { m0 with st := X.st, lf := X.lf, un := true }) (x := 0) (i0 := i) (l := X.l) (N := W2.heap.size) (HH.out.1.below (HB3.out _).1) HH.out.2.2.1 ((HH.out.2.2.2.below (HB3.out _).1).same rfl rfl rfl rfl) (HB3.out _).2 HLn.out).mono ?_
  rintro _ w6 ⟨a6, c6, rfl, r6, q6⟩
  have HZ : Hid (DRow w6 w.heap.size (.slice a6 (deedsS m0.ct X.l).length c6) (deedsS m0.ct X.l) ∧ BxQ w b kb v sq tr (doS ms { m0 with st := X.st, lf := X.lf, un := true } 0 X.l) w6) := ⟨ERow.base r6 (HB3.out _).1.size, q6.of_below (HB3.out _).1⟩
  clear r6 q6 c3 f3
  go_wp2_with fail
  go_ret2
  exact ⟨a6, c6, rfl, HZ.out.1, HZ.out.2⟩
set_option maxRecDepth 100000 in
set_option maxHeartbeats 1000000 in
theorem due_bad {s : ByteArray} {i : Nat} {m : Msg} (h : Bx w b kb v sq tr ms) (hV : PVc w) (hf : fi s ms = some i) (hm : ms[i]? = some m) (hu : m.un = true) (hn : (dueS m.e m.a m.p m.st m.lf).n ≠ 0) :
    Calls Tryd.prog 20 #[.pointer (some ⟨b, 0, none⟩), .string s] w (DFl w 281) := by
  have hun := under_yes h s hf hm hu
  have hdu := fun z hz => ans_no (due_ok m.e m.a m.p m.st m.lf z hz) hn
  obtain ⟨m0, hm0, he0, _⟩ := fi_some hf
  obtain rfl : m0 = m := by rw [hm] at hm0; exact (Option.some.inj hm0).symm
  obtain ⟨X, hX⟩ : ∃ X, dueS m0.e m0.a m0.p m0.st m0.lf = X := ⟨_, rfl⟩
  rw [hX] at hdu
  have HH : Hid (PVc w) := hV
  have HD : Hid (∀ z, PVc z → Calls Tryd.prog 37 #[.agg #[.bool m0.e, .int .i64 m0.a, .int .i64 m0.p], .agg #[.int .i64 m0.st, .int .i64 m0.lf]] z fun r w' => ∃ a c z', r = .returned (.tuple #[.agg #[.int .i64 X.st, .int .i64 X.lf], .slice a X.l.length c, .iface 91 (.pointer (some ⟨z', 0, none⟩))]) ∧ Below z.heap.size z w') := hdu
  rw [hu] at hun
  clear h hV hf hm hn hdu hX hm0 he0 hu
  go_enter Tryd.func20, Tryd.ntmps20
  go_wp2_with fail
  refine hun.mono ?_
  rintro _ w1 ⟨rfl, hb1⟩
  have x2 := Box.new w1 #[.string m0.ct, .slice m0.tp m0.tn m0.tc, .bool m0.e, .int .i64 m0.a, .int .i64 m0.p, .int .i64 m0.nu, .bool m0.nt, .int .i64 m0.st, .int .i64 m0.lf, .bool true] 49
  have HB2 : Hid (Below w.heap.size w (w1.alloc (.cells #[.string m0.ct, .slice m0.tp m0.tn m0.tc, .bool m0.e, .int .i64 m0.a, .int .i64 m0.p, .int .i64 m0.nu, .bool m0.nt, .int .i64 m0.st, .int .i64 m0.lf, .bool true] 49))) := hb1.alloc hb1.size _
  clear hun
  go_wp2_with fail
  obtain ⟨W2, hW2⟩ : ∃ W, w1.alloc (.cells #[.string m0.ct, .slice m0.tp m0.tn m0.tc, .bool m0.e, .int .i64 m0.a, .int .i64 m0.p, .int .i64 m0.nu, .bool m0.nt, .int .i64 m0.st, .int .i64 m0.lf, .bool true] 49) = W := ⟨_, rfl⟩
  rw [hW2] at x2 HB2 ⊢
  have HS2 : Hid (W2.heap.size = w1.heap.size + 1 ∧ w.heap.size ≤ w1.heap.size) := ⟨by rw [← hW2]; simp, hb1.size⟩
  clear hW2 hb1
  refine (HD.out W2 (HH.out.below HB2.out)).mono ?_
  rintro _ w3 ⟨a, c, z3, rfl, h3⟩
  have x3 := x2.below h3
  have c3 := x3.cell
  have f3 := x3.free
  have l3 := x3.lt
  have HB3 : Hid (∀ o, Below w.heap.size w (((w3.setCell ⟨w1.heap.size, 7, none⟩ (.int .i64 X.st)).setCell ⟨w1.heap.size, 8, none⟩ (.int .i64 X.lf)).alloc o)) := fun o => by
    have hs := HS2.out
    have o1 : Off (fun q => q = w1.heap.size) w3 (((w3.setCell ⟨w1.heap.size, 7, none⟩ (.int .i64 X.st)).setCell ⟨w1.heap.size, 8, none⟩ (.int .i64 X.lf)).alloc o) := Off.alloc (Off.setCell (P := fun q => q = w1.heap.size) (Off.setCell (P := fun q => q = w1.heap.size) (Off.refl _ _) (p := ⟨w1.heap.size, 7, none⟩) rfl _) (p := ⟨w1.heap.size, 8, none⟩) rfl _) o
    exact (below_then HB2.out h3).trans (o1.below (Nat.le_trans HB2.out.size h3.size) (fun k hk => by omega))
  clear x3 x2
  go_wp2_with fail
  refine (do_err (b := b) { m0 with st := X.st, lf := X.lf, un := true } 0 (.slice a X.l.length c) z3 _ ⟨_, _, _, rfl⟩).mono ?_
  rintro _ w6 ⟨z6, rfl, hz6, hf6, hb6⟩
  have HZ : Hid (w.heap.size ≤ z6 ∧ OFault w6 z6 0 281 ∧ Below w.heap.size w w6) := ⟨Nat.le_trans (HB3.out _).size hz6, hf6, below_then (HB3.out _) hb6⟩
  clear hz6 hf6 hb6 c3 f3
  go_wp2_with fail
  go_ret2
  exact ⟨z6, rfl, HZ.out.1, HZ.out.2.1, HZ.out.2.2⟩
end
end Go.Proofs.YtigmgbnfiiobeaaDoor
