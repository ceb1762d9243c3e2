/-
  Give.
-/
import Derived.Test.YtigmgbnfiiobeaaDoorOxDue
namespace Go.Proofs.YtigmgbnfiiobeaaDoor
open Go.RowKit

theorem fi_mem {m : Msg} {ms : List Msg} (h : m ∈ ms) : ∃ i, fi m.ct ms = some i := by
  cases hf : fi m.ct ms with
  | some i => exact ⟨i, rfl⟩
  | none =>
    obtain ⟨j, hj, e⟩ := List.getElem_of_mem h
    have := fi_none hf j m (by rw [List.getElem?_eq_getElem hj, e])
    simp at this
section
variable {w w' : World} {b kb : Nat} {v : Value} {sq : Bool} {tr : Int} {ms : List Msg}
set_option maxRecDepth 100000 in
set_option maxHeartbeats 4000000 in
theorem give_yes {m : Msg} {n : Int} (h : Bx w b kb v true tr ms) (hn : nextS true ms = some m) (hg : nmB n = true) : Calls Tryd.prog 10 #[.pointer (some ⟨b, 0, none⟩), .int .i64 n] w fun e w' => e = .returned .nilIface ∧ BxQ w b kb v true tr (putS { m with nu := n } ms) w' := by
  have hmem := (nextS_mem hn).1
  obtain ⟨i, hi⟩ := fi_mem hmem
  have hmk := made_yes h
  have hnx := next_yes h hn
  have hnb : ∀ z, Calls Tryd.prog 26 #[.int .i64 n] z fun e w' => e = .returned (.bool true) ∧ w' = z := fun z => by have := isNumber_any n z; rw [hg] at this; exact this
  have HH : Hid (Bx w b kb v true tr ms ∧ fi m.ct ms = some i ∧ Tx w m) := ⟨h, hi, h.2.2 m hmem⟩
  clear h hn hg hmem hi
  go_enter Tryd.func10, Tryd.ntmps10
  go_wp2_with fail
  refine hmk.mono ?_
  rintro _ w9 ⟨rfl, h9⟩
  subst w9
  clear hmk
  go_wp2_with fail
  refine hnx.mono ?_
  rintro _ w1 ⟨rfl, hb1⟩
  have x2 := Box.new w1 #[.string m.ct, .slice m.tp m.tn m.tc, .bool m.e, .int .i64 m.a, .int .i64 m.p, .int .i64 m.nu, .bool m.nt, .int .i64 m.st, .int .i64 m.lf, .bool m.un] 49
  have HB2 : Hid (Below w.heap.size w (w1.alloc (.cells #[.string m.ct, .slice m.tp m.tn m.tc, .bool m.e, .int .i64 m.a, .int .i64 m.p, .int .i64 m.nu, .bool m.nt, .int .i64 m.st, .int .i64 m.lf, .bool m.un] 49))) := hb1.alloc hb1.size _
  have HS : Hid (w.heap.size ≤ w1.heap.size) := hb1.size
  obtain ⟨W2, hW2⟩ : ∃ W, w1.alloc (.cells #[.string m.ct, .slice m.tp m.tn m.tc, .bool m.e, .int .i64 m.a, .int .i64 m.p, .int .i64 m.nu, .bool m.nt, .int .i64 m.st, .int .i64 m.lf, .bool m.un] 49) = W := ⟨_, rfl⟩
  rw [hW2] at x2 HB2
  have s1 := hcell (HH.out.1.below HB2.out).1 1
  have lb := (HH.out.1.below HB2.out).lt
  have cx2 := x2.cell
  have fx2 := x2.free
  have HX3 : Hid (Box (W2.setCell ⟨w1.heap.size, 5, none⟩ (.int .i64 n)) w1.heap.size #[.string m.ct, .slice m.tp m.tn m.tc, .bool m.e, .int .i64 m.a, .int .i64 m.p, .int .i64 n, .bool m.nt, .int .i64 m.st, .int .i64 m.lf, .bool m.un] ∧ Below w.heap.size w (W2.setCell ⟨w1.heap.size, 5, none⟩ (.int .i64 n))) := by
    refine ⟨?_, HB2.out.setCell (p := ⟨w1.heap.size, 5, none⟩) HS.out _⟩
    have := x2.pPut (j := 5) (by simp) (.int .i64 n)
    simpa using this
  clear hb1 hnx
  go_wp2_with (first | (go_at_call 26; refine (hnb _).mono ?_; rintro _ w9 ⟨rfl, h9⟩; subst w9))
  obtain ⟨W3, hW3⟩ : ∃ W, W2.setCell ⟨w1.heap.size, 5, none⟩ (.int .i64 n) = W := ⟨_, rfl⟩
  rw [hW3] at HX3 ⊢
  clear hW2 hW3 s1 lb cx2 fx2 hnb
  have c0 := hcell (HH.out.1.below HX3.out.2).1 0
  have lb := (HH.out.1.below HX3.out.2).lt
  have cx := HX3.out.1.cell
  have lx := HX3.out.1.lt
  have HPT : Hid (∀ z, Below W3.heap.size W3 z → Calls Tryd.prog 27 #[.pointer (some ⟨kb, 0, none⟩), .agg #[.string m.ct, .slice m.tp m.tn m.tc, .bool m.e, .int .i64 m.a, .int .i64 m.p, .int .i64 n, .bool m.nt, .int .i64 m.st, .int .i64 m.lf, .bool m.un]] z fun e z' => e = .returned (.tuple #[]) ∧ Hid (KdQ W3 kb v (putS { m with nu := n } ms) z')) := fun z hz => (put_at ((HH.out.1.below HX3.out.2).2.1.below hz) { m with nu := n } HH.out.2.1).mono fun _ _ ⟨h1, h2⟩ => ⟨h1, KdQ.of_below hz h2⟩
  go_region_law (go_simp; go_at_call 27; refine (HPT.out _ ?_).mono ?_; (repeat' (first | exact Below.refl _ _ | refine Below.drew ?_)); rintro _ w5 ⟨rfl, hh5⟩; go_wp2_with fail)
  all_goals
    go_wp2_with fail
    go_ret
    refine ⟨rfl, bxq_of (HH.out.1.below HX3.out.2) HX3.out.2 hh5.out (fun y hy => ?_)⟩
    rcases putS_mem hy with g | rfl
    · exact (HH.out.1.below HX3.out.2).2.2 y g
    · exact (HH.out.2.2.below HX3.out.2).same rfl rfl rfl rfl
set_option maxRecDepth 100000 in
set_option maxHeartbeats 2000000 in
theorem give_given {m : Msg} {n : Int} (h : Bx w b kb v true tr ms) (hn : nextS true ms = some m) (hg : nmB n = false) : Calls Tryd.prog 10 #[.pointer (some ⟨b, 0, none⟩), .int .i64 n] w (Fl w 0 282) := by
  have hmk := made_yes h
  have hnx := next_yes h hn
  have hnb : ∀ z, Calls Tryd.prog 26 #[.int .i64 n] z fun e w' => e = .returned (.bool false) ∧ w' = z := fun z => by have := isNumber_any n z; rw [hg] at this; exact this
  have HH : Hid (Bx w b kb v true tr ms) := h
  clear h hn hg
  go_enter Tryd.func10, Tryd.ntmps10
  go_wp2_with fail
  refine hmk.mono ?_
  rintro _ w9 ⟨rfl, h9⟩
  subst w9
  clear hmk
  go_wp2_with fail
  refine hnx.mono ?_
  rintro _ w1 ⟨rfl, hb1⟩
  have HB2 : Hid (∀ o, Below w.heap.size w (w1.alloc o)) := fun o => hb1.alloc hb1.size o
  have HS : Hid (w.heap.size ≤ w1.heap.size) := hb1.size
  have s1 := hcell (HH.out.below hb1).1 1
  have lb := (HH.out.below hb1).lt
  clear hb1 hnx
  go_wp2_with (first | (go_at_call 26; refine (hnb _).mono ?_; rintro _ w9 ⟨rfl, h9⟩; subst w9))
  refine (fault_any _ _ _).mono ?_
  rintro _ w2 ⟨rfl, hf2, hb2⟩
  have HE : Hid (OFault w2 (w1.heap.size + 1) 0 282 ∧ Below w.heap.size w w2) := ⟨by simpa using hf2, below_then (HB2.out _) hb2⟩
  clear hf2 hb2
  go_wp2_with fail
  go_ret
  exact ⟨w1.heap.size + 1, rfl, by have := HS.out; omega, HE.out.1, HE.out.2⟩
set_option maxRecDepth 100000 in
set_option maxHeartbeats 2000000 in
theorem give_state {M : Msg} {o : Bool} {n : Int} (h : Bx w b kb v sq tr ms) (hnx : Calls Tryd.prog 25 #[.pointer (some ⟨b, 0, none⟩)] w fun e w' => e = .returned (.tuple #[.agg #[.string M.ct, .slice M.tp M.tn M.tc, .bool M.e, .int .i64 M.a, .int .i64 M.p, .int .i64 M.nu, .bool M.nt, .int .i64 M.st, .int .i64 M.lf, .bool M.un], .bool o]) ∧ Below w.heap.size w w') (hso : (sq && o) = false) : Calls Tryd.prog 10 #[.pointer (some ⟨b, 0, none⟩), .int .i64 n] w (Fl w 0 281) := by
  have hmk := made_yes h
  have HH : Hid (Bx w b kb v sq tr ms) := h
  clear h
  cases sq with
  | false =>
    go_enter Tryd.func10, Tryd.ntmps10
    go_wp2_with fail
    refine hmk.mono ?_
    rintro _ w9 ⟨rfl, h9⟩
    subst w9
    clear hmk
    go_wp2_with fail
    refine hnx.mono ?_
    rintro _ w1 ⟨rfl, hb1⟩
    have HB2 : Hid (∀ o, Below w.heap.size w (w1.alloc o)) := fun o => hb1.alloc hb1.size o
    have HS : Hid (w.heap.size ≤ w1.heap.size) := hb1.size
    have s1 := hcell (HH.out.below hb1).1 1
    have lb := (HH.out.below hb1).lt
    clear hb1 hnx
    go_wp2_with fail
    refine (fault_any _ _ _).mono ?_
    rintro _ w2 ⟨rfl, hf2, hb2⟩
    have HE : Hid (OFault w2 (w1.heap.size + 1) 0 281 ∧ Below w.heap.size w w2) := ⟨by simpa using hf2, below_then (HB2.out _) hb2⟩
    clear hf2 hb2
    go_wp2_with fail
    go_ret
    exact ⟨w1.heap.size + 1, rfl, by have := HS.out; omega, HE.out.1, HE.out.2⟩
  | true =>
    obtain rfl : o = false := by simpa using hso
    go_enter Tryd.func10, Tryd.ntmps10
    go_wp2_with fail
    refine hmk.mono ?_
    rintro _ w9 ⟨rfl, h9⟩
    subst w9
    clear hmk
    go_wp2_with fail
    refine hnx.mono ?_
    rintro _ w1 ⟨rfl, hb1⟩
    have HB2 : Hid (∀ o, Below w.heap.size w (w1.alloc o)) := fun o => hb1.alloc hb1.size o
    have HS : Hid (w.heap.size ≤ w1.heap.size) := hb1.size
    have s1 := hcell (HH.out.below hb1).1 1
    have lb := (HH.out.below hb1).lt
    clear hb1 hnx
    go_wp2_with fail
    refine (fault_any _ _ _).mono ?_
    rintro _ w2 ⟨rfl, hf2, hb2⟩
    have HE : Hid (OFault w2 (w1.heap.size + 1) 0 281 ∧ Below w.heap.size w w2) := ⟨by simpa using hf2, below_then (HB2.out _) hb2⟩
    clear hf2 hb2
    go_wp2_with fail
    go_ret
    exact ⟨w1.heap.size + 1, rfl, by have := HS.out; omega, HE.out.1, HE.out.2⟩
end
end Go.Proofs.YtigmgbnfiiobeaaDoor
