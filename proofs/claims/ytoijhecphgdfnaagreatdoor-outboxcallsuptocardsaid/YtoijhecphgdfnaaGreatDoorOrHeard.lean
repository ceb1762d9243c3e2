import Derived.Test.YtoijhecphgdfnaaGreatDoorOrGo
/-
  The document's box: Due.
-/
namespace Go.Proofs.YtoijhecphgdfnaaGreatDoor
open Go.RowKit

section
variable {w w' : World} {B r : Nat} {L : Value} {sq : Bool} {tr : Int} {ms : List Msg}
set_option maxRecDepth 100000 in
set_option maxHeartbeats 4000000 in
theorem rDue_no (h : RB w B r L sq tr ms) (s : ByteArray) (hn : fi s ms = none) : Calls Tryz.prog 30 #[.pointer (some ⟨r, 0, none⟩), .string s] w (RCaQ w B r L sq tr ms [] 11) := by
  have hx := rfind_any h s
  have HZ : Hid (RCaQ w B r L sq tr ms [] 11 (.returned (.tuple #[.slice none 0 0, .int .i64 11])) w) := rca_no h 11
  rw [show fiI s ms = -1 by unfold fiI; rw [hn]] at hx
  clear h hn
  go_enter Tryz.func30, Tryz.ntmps30
  go_wp2_with (go_at_call 47; refine hx.mono ?_; rintro _ w9 ⟨rfl, h9⟩; subst w9)
  go_ret2
  exact HZ.out
set_option maxRecDepth 100000 in
set_option maxHeartbeats 4000000 in
theorem rDue_not (h : RB w B r L sq tr ms) (s : ByteArray) {i : Nat} {m : Msg} (hn : fi s ms = some i) (hm : ms[i]? = some m) (hu : m.un = false) : Calls Tryz.prog 30 #[.pointer (some ⟨r, 0, none⟩), .string s] w (RCaQ w B r L sq tr ms [] 281) := by
  have hx := rfind_any h s
  have HZ : Hid (RCaQ w B r L sq tr ms [] 281 (.returned (.tuple #[.slice none 0 0, .int .i64 281])) w) := rca_no h 281
  rw [show fiI s ms = (i : Int) by unfold fiI; rw [hn]] at hx
  obtain ⟨a, c, e1, _⟩ := ERow.isSlice h.row
  subst e1
  obtain ⟨n, hnn⟩ : ∃ n, ms.length = n := ⟨_, rfl⟩
  have c0 := hcell h.blk 0
  have hi : i < n := by rw [← hnn]; exact (List.getElem?_eq_some_iff.1 hm).1
  rw [hnn] at c0 HZ ⊢
  have hi1 : (i : Int) < n := by omega
  obtain ⟨g, rfl, hg, hc⟩ := erow_cells h.row hm
  have d9 := hc.c9
  rw [hu] at d9
  clear h hn hm hnn hc
  go_enter Tryz.func30, Tryz.ntmps30
  go_wp2_with (go_at_call 47; refine hx.mono ?_; rintro _ w9 ⟨rfl, h9⟩; subst w9)
  go_ret2
  exact HZ.out
set_option maxRecDepth 100000 in
set_option maxHeartbeats 8000000 in
theorem rDue_yes (h : RB w B r L sq tr ms) (s : ByteArray) {i : Nat} {m : Msg} (hn : fi s ms = some i) (hm : ms[i]? = some m) (hu : m.un = true) : Calls Tryz.prog 30 #[.pointer (some ⟨r, 0, none⟩), .string s] w (RCaQ w B r L sq tr (donS ms i { m with st := (dueS m.e m.a m.p m.st m.lf).st, lf := (dueS m.e m.a m.p m.st m.lf).lf } 0 (dueS m.e m.a m.p m.st m.lf).l) (deedsS m.ct (dueS m.e m.a m.p m.st m.lf).l) 0) := by
  have hx := rfind_any h s
  rw [show fiI s ms = (i : Int) by unfold fiI; rw [hn]] at hx
  have hS : ∀ z, Below w.heap.size w z → Calls Tryz.prog 67 #[.agg #[.bool m.e, .int .i64 m.a, .int .i64 m.p], .agg #[.int .i64 m.st, .int .i64 m.lf]] z (AnsQ (dueS m.e m.a m.p m.st m.lf) z) := fun z _ => rDue_any m.e m.a m.p m.st m.lf z
  obtain ⟨x, hxx⟩ : ∃ x, dueS m.e m.a m.p m.st m.lf = x := ⟨_, rfl⟩
  have HLx : Hid (x.l.length ≤ 1000) := by
    unfold Hid
    rw [← hxx]
    unfold dueS
    repeat' split
    all_goals (show List.length _ ≤ 1000; simp)
  rw [hxx] at hS ⊢
  obtain ⟨st, lf, l, at_, cn⟩ := x
  obtain ⟨a, c, e1, _⟩ := ERow.isSlice h.row
  subst e1
  obtain ⟨n, hnn⟩ : ∃ n, ms.length = n := ⟨_, rfl⟩
  have c0 := hcell h.blk 0
  have c1 := hcell h.blk 1
  have c2 := hcell h.blk 2
  have hi : i < n := by rw [← hnn]; exact (List.getElem?_eq_some_iff.1 hm).1
  have HH : Hid (RB w B r (.slice a n c) sq tr ms ∧ ms[i]? = some m) := ⟨by have := h; rw [hnn] at this; exact this, hm⟩
  rw [hnn] at c0 ⊢
  have hi1 : (i : Int) < n := by omega
  have hn32 : (n : Int) ≤ 1000 := by have := h.len; omega
  obtain ⟨g, rfl, hg, hc⟩ := erow_cells h.row hm
  obtain ⟨d0, d1, d2, d3, d4, d5, d6, d7, d8, d9⟩ := hc
  have lr := h.lt
  have HS : Hid (∀ z, Below w.heap.size w z → Calls Tryz.prog 67 #[.agg #[.bool m.e, .int .i64 m.a, .int .i64 m.p], .agg #[.int .i64 m.st, .int .i64 m.lf]] z fun e z' => ∃ aa ca, e = .returned (.tuple #[.agg #[.int .i64 st, .int .i64 lf], .slice aa l.length ca, .int .i64 cn]) ∧ Hid (ActRow z' z.heap.size (.slice aa l.length ca) l ∧ Below z.heap.size z z') ∧ Hid (Below w.heap.size w z')) := fun z hz => (hS z hz).mono fun e z' ⟨lv, q1, q2, q3⟩ => by
    obtain ⟨aa, ca, e2, _⟩ := ActRow.isSlice q2
    subst e2
    exact ⟨aa, ca, q1, ⟨q2, q3⟩, below_then hz q3⟩
  clear h hn hm hnn hxx hS
  rw [hu] at d9
  go_enter Tryz.func30, Tryz.ntmps30
  go_upto_region 8 with (go_at_call 47; refine hx.mono ?_; rintro _ w9 ⟨rfl, h9⟩; subst w9)
  clear hx
  go_cut [7, 8] (fun t5 t6 wx => ∃ wb aa ca, t5 = .pointer (some ⟨wb, 0, none⟩) ∧ t6 = .slice aa l.length ca ∧ Hid (Box wx wb #[.int .i64 st, .int .i64 lf] ∧ w.heap.size ≤ wb ∧ ActRow wx w.heap.size (.slice aa l.length ca) l ∧ Below w.heap.size w wx))
  case first =>
    clear HH HLx
    have HX : Hid (∀ w1 aa ca, ActRow w1 (w.alloc (.cells #[.int .i64 0, .int .i64 0] 89)).drew.heap.size (.slice aa l.length ca) l → Below (w.alloc (.cells #[.int .i64 0, .int .i64 0] 89)).drew.heap.size (w.alloc (.cells #[.int .i64 0, .int .i64 0] 89)).drew w1 → (w1.cell? ⟨w.heap.size, 0, none⟩ = some (.int .i64 0) ∧ w1.cell? ⟨w.heap.size, 1, none⟩ = some (.int .i64 0) ∧ w1.frozen? ⟨w.heap.size, 0, none⟩ = false ∧ w1.frozen? ⟨w.heap.size, 1, none⟩ = false) ∧ Hid (Box ((w1.setCell ⟨w.heap.size, 0, none⟩ (.int .i64 st)).setCell ⟨w.heap.size, 1, none⟩ (.int .i64 lf)) w.heap.size #[.int .i64 st, .int .i64 lf] ∧ w.heap.size ≤ w.heap.size ∧ ActRow ((w1.setCell ⟨w.heap.size, 0, none⟩ (.int .i64 st)).setCell ⟨w.heap.size, 1, none⟩ (.int .i64 lf)) w.heap.size (.slice aa l.length ca) l ∧ Below w.heap.size w ((w1.setCell ⟨w.heap.size, 0, none⟩ (.int .i64 st)).setCell ⟨w.heap.size, 1, none⟩ (.int .i64 lf)))) := fun w1 aa ca q2 q3 => by
      have bx := ((Box.new w #[.int .i64 0, .int .i64 0] 89).drew).below q3
      have b0 : Below w.heap.size w (w.alloc (.cells #[.int .i64 0, .int .i64 0] 89)).drew := ((Below.refl _ _).alloc (Nat.le_refl _) _).drew
      have hb := below_then b0 q3
      refine ⟨⟨bx.cell 0, bx.cell 1, bx.free 0, bx.free 1⟩, ?_, Nat.le_refl _, ?_, ?_⟩
      · have := (bx.pPut (j := 0) (by simp) (.int .i64 st)).pPut (j := 1) (by simp) (.int .i64 lf)
        simpa using this
      · have hne : ∀ g, (Value.slice aa l.length ca).ownBlock = some g → g ≠ w.heap.size := fun g hg => by
          have h1 := q2.ne hg
          simp at h1
          omega
        exact ((q2.set (p := ⟨w.heap.size, 0, none⟩) hne).set (p := ⟨w.heap.size, 1, none⟩) hne).mono b0.size
      · exact (hb.setCell (p := ⟨w.heap.size, 0, none⟩) (Nat.le_refl _) _).setCell (p := ⟨w.heap.size, 1, none⟩) (Nat.le_refl _) _
    have gs : ∀ {z : World}, Below w.heap.size w z → z.cell? ⟨r, 0, none⟩ = some (.slice (some ⟨g, 0, none⟩) n c) ∧ z.cell? ⟨g, i * 10 + 2, none⟩ = some (.bool m.e) ∧ z.cell? ⟨g, i * 10 + 3, none⟩ = some (.int .i64 m.a) ∧ z.cell? ⟨g, i * 10 + 4, none⟩ = some (.int .i64 m.p) ∧ z.cell? ⟨g, i * 10 + 7, none⟩ = some (.int .i64 m.st) ∧ z.cell? ⟨g, i * 10 + 8, none⟩ = some (.int .i64 m.lf) := fun {z} hz => ⟨(hz.cell (p := ⟨r, 0, none⟩) lr).trans c0, (hz.cell (p := ⟨g, i * 10 + 2, none⟩) hg).trans d2, (hz.cell (p := ⟨g, i * 10 + 3, none⟩) hg).trans d3, (hz.cell (p := ⟨g, i * 10 + 4, none⟩) hg).trans d4, (hz.cell (p := ⟨g, i * 10 + 7, none⟩) hg).trans d7, (hz.cell (p := ⟨g, i * 10 + 8, none⟩) hg).trans d8⟩
    clear d0 d1 d5 d6 d9 c1 c2
    go_region_held3 (fun z => z.cell? ⟨r, 0, none⟩ = some (.slice (some ⟨g, 0, none⟩) n c) ∧ z.cell? ⟨g, i * 10 + 2, none⟩ = some (.bool m.e) ∧ z.cell? ⟨g, i * 10 + 3, none⟩ = some (.int .i64 m.a) ∧ z.cell? ⟨g, i * 10 + 4, none⟩ = some (.int .i64 m.p) ∧ z.cell? ⟨g, i * 10 + 7, none⟩ = some (.int .i64 m.st) ∧ z.cell? ⟨g, i * 10 + 8, none⟩ = some (.int .i64 m.lf)) ((refine gs ?_; (repeat' (first | (with_reducible exact Below.refl _ _) | (with_reducible exact Hid.out (by assumption)) | (with_reducible refine Below.drew ?_) | (refine Below.alloc ?_ (by first | exact Nat.le_refl _ | exact (Hid.out (by assumption : Hid (Below w.heap.size w _))).size) _) | (refine Below.setCell ?_ (by first | exact Nat.le_refl _ | exact (Hid.out (by assumption : Hid (Below w.heap.size w _))).size) _))))) ((go_at_call 67; refine (HS.out _ ?_).mono ?_; (repeat' (first | (with_reducible exact Below.refl _ _) | (with_reducible refine Below.drew ?_) | (with_reducible refine Below.alloc ?_ (Nat.le_refl _) _))); rintro _ w1 ⟨aa, ca, rfl, H1, H1b⟩; (first | (obtain ⟨⟨z0, z1, z2, z3⟩, HX2⟩ := HX.out _ _ _ H1.out.1 H1.out.2) | skip)))
    all_goals
      go_wp2_with fail
      go_meet
      first | exact ⟨_, _, _, rfl, rfl, HX2⟩ | exact ⟨_, _, _, rfl, rfl, Box.new _ _ _, H1b.out.size, ActRow.below (H1.out.1.mono (Nat.le_refl _)) ((Below.refl _ _).alloc (Nat.le_refl _) _), H1b.out.alloc H1b.out.size _⟩
  case rest =>
    obtain ⟨W1, rfl⟩ : ∃ U, U = wc := ⟨_, rfl⟩
    obtain ⟨wb, aa, ca, rfl, rfl, HW⟩ := hcut
    clear c0 c1 c2 d0 d1 d2 d3 d4 d5 d6 d7 d8 d9 lr HS hg
    have h1 := HH.out.1.below HW.out.2.2.2
    have k0 := HW.out.1.cell 0
    have k1 := HW.out.1.cell 1
    have hdn := rdone_any h1 HH.out.2 st lf 0 HW.out.2.2.1 HLx.out
    have HO : Hid (Below w.heap.size w W1) := HW.out.2.2.2
    clear h1 HH HW
    go_wp2_with fail
    refine hdn.mono ?_
    rintro _ w3 ⟨a3, c3, rfl, H3⟩
    have HZ : Hid (RCaQ w B r (.slice (some ⟨g, 0, none⟩) n c) sq tr (donS ms i { m with st := st, lf := lf } 0 l) (deedsS m.ct l) 0 (.returned (.tuple #[.slice a3 (deedsS m.ct l).length c3, .int .i64 0])) w3) := ⟨a3, c3, rfl, ERow.base H3.out.1 HO.out.size, RBQ.back HO.out H3.out.2⟩
    clear hdn H3 HO k0 k1
    go_wp2_with fail
    go_ret2
    exact HZ.out
end
end Go.Proofs.YtoijhecphgdfnaaGreatDoor

/-
  The document's box: Heard, what it refuses, and what is nothing new.
-/
namespace Go.Proofs.YtoijhecphgdfnaaGreatDoor
open Go.RowKit

/-- Whether what was heard is nothing new. -/
def strB (sq : Bool) (nu : Int) (cd : ByteArray) (x : Int) : Bool := (sq && (cd.toList == [67, 69] || cd.toList == [65, 69]) && decide (0 < x)) && (x == nu)
section
variable {w w' : World} {B r : Nat} {L : Value} {sq : Bool} {tr : Int} {ms : List Msg}
set_option maxRecDepth 100000 in
set_option maxHeartbeats 4000000 in
theorem rHeard_no (h : RB w B r L sq tr ms) (s cd : ByteArray) (x : Int) (hn : fi s ms = none) : Calls Tryz.prog 28 #[.pointer (some ⟨r, 0, none⟩), .string s, .string cd, .int .i64 x] w (RCaQ w B r L sq tr ms [] 11) := by
  have hx := rfind_any h s
  have HZ : Hid (RCaQ w B r L sq tr ms [] 11 (.returned (.tuple #[.slice none 0 0, .int .i64 11])) w) := rca_no h 11
  rw [show fiI s ms = -1 by unfold fiI; rw [hn]] at hx
  clear h hn
  go_enter Tryz.func28, Tryz.ntmps28
  go_wp2_with (go_at_call 47; refine hx.mono ?_; rintro _ w9 ⟨rfl, h9⟩; subst w9)
  go_ret2
  exact HZ.out
set_option maxRecDepth 100000 in
set_option maxHeartbeats 4000000 in
theorem rHeard_not (h : RB w B r L sq tr ms) (s cd : ByteArray) (x : Int) {i : Nat} {m : Msg} (hn : fi s ms = some i) (hm : ms[i]? = some m) (hu : m.un = false) : Calls Tryz.prog 28 #[.pointer (some ⟨r, 0, none⟩), .string s, .string cd, .int .i64 x] w (RCaQ w B r L sq tr ms [] 281) := by
  have hx := rfind_any h s
  have HZ : Hid (RCaQ w B r L sq tr ms [] 281 (.returned (.tuple #[.slice none 0 0, .int .i64 281])) w) := rca_no h 281
  rw [show fiI s ms = (i : Int) by unfold fiI; rw [hn]] at hx
  obtain ⟨a, c, e1, _⟩ := ERow.isSlice h.row
  subst e1
  obtain ⟨n, hnn⟩ : ∃ n, ms.length = n := ⟨_, rfl⟩
  have c0 := hcell h.blk 0
  have hi : i < n := by rw [← hnn]; exact (List.getElem?_eq_some_iff.1 hm).1
  rw [hnn] at c0 HZ ⊢
  have hi1 : (i : Int) < n := by omega
  obtain ⟨g, rfl, hg, hc⟩ := erow_cells h.row hm
  have d9 := hc.c9
  rw [hu] at d9
  clear h hn hm hnn hc
  go_enter Tryz.func28, Tryz.ntmps28
  go_wp2_with (go_at_call 47; refine hx.mono ?_; rintro _ w9 ⟨rfl, h9⟩; subst w9)
  go_ret2
  exact HZ.out
set_option maxRecDepth 100000 in
set_option maxHeartbeats 4000000 in
theorem rHeard_given (h : RB w B r L sq tr ms) (s cd : ByteArray) (x : Int) {i : Nat} {m : Msg} (hn : fi s ms = some i) (hm : ms[i]? = some m) (hu : m.un = true) (hg : x < 0 ∨ 2147483647 < x) : Calls Tryz.prog 28 #[.pointer (some ⟨r, 0, none⟩), .string s, .string cd, .int .i64 x] w (RCaQ w B r L sq tr ms [] 282) := by
  have hx := rfind_any h s
  have HZ : Hid (RCaQ w B r L sq tr ms [] 282 (.returned (.tuple #[.slice none 0 0, .int .i64 282])) w) := rca_no h 282
  rw [show fiI s ms = (i : Int) by unfold fiI; rw [hn]] at hx
  obtain ⟨a, c, e1, _⟩ := ERow.isSlice h.row
  subst e1
  obtain ⟨n, hnn⟩ : ∃ n, ms.length = n := ⟨_, rfl⟩
  have c0 := hcell h.blk 0
  have hi : i < n := by rw [← hnn]; exact (List.getElem?_eq_some_iff.1 hm).1
  rw [hnn] at c0 HZ ⊢
  have hi1 : (i : Int) < n := by omega
  obtain ⟨g, rfl, _, hc⟩ := erow_cells h.row hm
  have d9 := hc.c9
  rw [hu] at d9
  clear h hn hm hnn hc
  rcases Int.lt_or_le x 0 with hlt | hge
  · clear hg
    go_enter Tryz.func28, Tryz.ntmps28
    go_wp2_with (go_at_call 47; refine hx.mono ?_; rintro _ w9 ⟨rfl, h9⟩; subst w9)
    go_ret2
    exact HZ.out
  · have h1 : ¬ x < 0 := by omega
    have h2 : x > 2147483647 := by omega
    clear hg hge
    go_enter Tryz.func28, Tryz.ntmps28
    go_wp2_with (go_at_call 47; refine hx.mono ?_; rintro _ w9 ⟨rfl, h9⟩; subst w9)
    go_ret2
    exact HZ.out
theorem deed_lit (w : World) (c : ByteArray) (k : Int) (cd : ByteArray) : DRow (w.alloc (.cells #[.string c, .int .i64 k, .string cd] 105)) w.heap.size (.slice (some ⟨w.heap.size, 0, none⟩) 1 1) [(c, k, cd)] :=
  ⟨rfl, Or.inr ⟨w.heap.size, 1, _, rfl, Nat.le_refl _, heap_alloc_new _ _, Nat.le_refl _, by decide, rfl, rfl⟩⟩
set_option maxRecDepth 100000 in
set_option maxHeartbeats 8000000 in
theorem rHeard_strange (h : RB w B r L sq tr ms) (s cd : ByteArray) (x : Int) {i : Nat} {m : Msg} (hn : fi s ms = some i) (hm : ms[i]? = some m) (hu : m.un = true) (h0 : 0 ≤ x) (hq : strB sq m.nu cd x = true) (h9 : x ≤ 2147483647) : Calls Tryz.prog 28 #[.pointer (some ⟨r, 0, none⟩), .string s, .string cd, .int .i64 x] w (RCaQ w B r L sq tr ms (deedsS s [(6, nT)]) 0) := by
  have hx := rfind_any h s
  rw [show fiI s ms = (i : Int) by unfold fiI; rw [hn]] at hx
  obtain ⟨a, c, e1, _⟩ := ERow.isSlice h.row
  subst e1
  obtain ⟨n, hnn⟩ : ∃ n, ms.length = n := ⟨_, rfl⟩
  have HH : Hid (RB w B r (.slice a n c) sq tr ms) := by have := h; rw [hnn] at this; exact this
  have c0 := hcell h.blk 0
  have c1 := hcell h.blk 1
  have hi : i < n := by rw [← hnn]; exact (List.getElem?_eq_some_iff.1 hm).1
  rw [hnn] at c0 ⊢
  have hi1 : (i : Int) < n := by omega
  obtain ⟨g, rfl, hg, hc⟩ := erow_cells h.row hm
  obtain ⟨d0, d1, d2, d3, d4, d5, d6, d7, d8, d9⟩ := hc
  have lr := h.lt
  rw [hu] at d9
  unfold strB at hq
  simp only [Bool.and_eq_true, decide_eq_true_eq, beq_iff_eq] at hq
  obtain ⟨⟨⟨rfl, q1⟩, q2⟩, q3⟩ := hq
  have y1 : ¬ x < 0 := by omega
  have y2 : ¬ x > 2147483647 := by omega
  have y3 : x > 0 := q2
  subst q3
  clear h hn hm hnn q2
  have HZ : Hid (∀ V, Below w.heap.size w V → RCaQ w B r (.slice (some ⟨g, 0, none⟩) n c) true tr ms (deedsS s [(6, nT)]) 0 (.returned (.tuple #[.slice (some ⟨V.heap.size, 0, none⟩) 1 1, .int .i64 0])) (V.alloc (.cells #[.string s, .int .i64 6, .string ⟨#[]⟩] 105))) := fun V hV => ⟨some ⟨V.heap.size, 0, none⟩, 1, rfl, ERow.base (deed_lit V s 6 nT) hV.size, RBQ.back (hV.alloc hV.size _) (RBQ.refl (HH.out.below (hV.alloc hV.size _)))⟩
  have HB : Hid (Below w.heap.size w (w.alloc (.cells #[.string m.ct, .slice m.tp m.tn m.tc, .bool m.e, .int .i64 m.a, .int .i64 m.p, .int .i64 m.nu, .bool m.nt, .int .i64 m.st, .int .i64 m.lf, .bool true] 91))) := (Below.refl _ _).alloc (Nat.le_refl _) _
  clear HH
  cases hb1 : (cd.toList == [67, 69])
  · rw [hb1] at q1
    simp only [Bool.false_or] at q1
    go_enter Tryz.func28, Tryz.ntmps28
    go_wp2_with (go_at_call 47; refine hx.mono ?_; rintro _ w9 ⟨rfl, h9⟩; subst w9)
    go_ret2
    have hz := HZ.out _ HB.out
    rw [World.size_alloc] at hz
    exact hz
  · clear q1
    go_enter Tryz.func28, Tryz.ntmps28
    go_wp2_with (go_at_call 47; refine hx.mono ?_; rintro _ w9 ⟨rfl, h9⟩; subst w9)
    go_ret2
    have hz := HZ.out _ HB.out
    rw [World.size_alloc] at hz
    exact hz
end
end Go.Proofs.YtoijhecphgdfnaaGreatDoor
