/-
  The document's box: Heard, what is done.
-/
import Derived.Test.YtoijhecphgdfnaaGreatDoorOrHeard
namespace Go.Proofs.YtoijhecphgdfnaaGreatDoor
open Go.RowKit

section
variable {w w' : World} {B r : Nat} {L : Value} {sq : Bool} {tr : Int} {ms : List Msg}
set_option maxRecDepth 100000 in
set_option maxHeartbeats 8000000 in
theorem rHeard_yes (h : RB w B r L sq tr ms) (s cd : ByteArray) (x : Int) {i : Nat} {m : Msg} (hn : fi s ms = some i) (hm : ms[i]? = some m) (hu : m.un = true) (h0 : 0 ≤ x) (h9 : x ≤ 2147483647) (hq : strB sq m.nu cd x = false) : Calls Tryz.prog 28 #[.pointer (some ⟨r, 0, none⟩), .string s, .string cd, .int .i64 x] w (RCaQ w B r L sq tr (donS ms i { m with st := (heardS m.e m.a m.p m.st m.lf cd (sq && decide (0 < x))).st, lf := (heardS m.e m.a m.p m.st m.lf cd (sq && decide (0 < x))).lf } x (heardS m.e m.a m.p m.st m.lf cd (sq && decide (0 < x))).l) (deedsS m.ct (heardS m.e m.a m.p m.st m.lf cd (sq && decide (0 < x))).l) 0) := by
  have hx := rfind_any h s
  rw [show fiI s ms = (i : Int) by unfold fiI; rw [hn]] at hx
  have hS : ∀ z, Below w.heap.size w z → Calls Tryz.prog 65 #[.agg #[.bool m.e, .int .i64 m.a, .int .i64 m.p], .agg #[.int .i64 m.st, .int .i64 m.lf], .string cd, .bool (sq && decide (0 < x))] z (AnsQ (heardS m.e m.a m.p m.st m.lf cd (sq && decide (0 < x))) z) := fun z _ => rHeard_any m.e m.a m.p m.st m.lf cd (sq && decide (0 < x)) z
  obtain ⟨T, hT⟩ : ∃ T, (sq && decide (0 < x)) = T := ⟨_, rfl⟩
  rw [hT] at hS ⊢
  obtain ⟨x', hxx⟩ : ∃ x, heardS m.e m.a m.p m.st m.lf cd T = x := ⟨_, rfl⟩
  have HLx : Hid (x'.l.length ≤ 1000) := by
    unfold Hid
    rw [← hxx]
    unfold heardS
    repeat' split
    all_goals (show List.length _ ≤ 1000; simp)
  rw [hxx] at hS ⊢
  obtain ⟨st, lf, l, at_, cn⟩ := x'
  obtain ⟨a, c, e1, _⟩ := ERow.isSlice h.row
  subst e1
  obtain ⟨n, hnn⟩ : ∃ n, ms.length = n := ⟨_, rfl⟩
  have c0 := hcell h.blk 0
  have c1 := hcell h.blk 1
  have c2 := hcell h.blk 2
  have hi : i < n := by rw [← hnn]; exact (List.getElem?_eq_some_iff.1 hm).1
  have HH : Hid (RB w B r (.slice a n c) sq tr ms ∧ ms[i]? = some m) := ⟨by have := h; rw [hnn] at this; exact this, hm⟩
  rw [hnn] at c0 ⊢
  have hi1 : (i : Int) < n := by omega
  have hn32 : (n : Int) ≤ 1000 := by have := h.len; omega
  obtain ⟨g, rfl, hg, hc⟩ := erow_cells h.row hm
  obtain ⟨d0, d1, d2, d3, d4, d5, d6, d7, d8, d9⟩ := hc
  have lr := h.lt
  have HS : Hid (∀ z, Below w.heap.size w z → Calls Tryz.prog 65 #[.agg #[.bool m.e, .int .i64 m.a, .int .i64 m.p], .agg #[.int .i64 m.st, .int .i64 m.lf], .string cd, .bool T] z fun e z' => ∃ aa ca, e = .returned (.tuple #[.agg #[.int .i64 st, .int .i64 lf], .slice aa l.length ca, .int .i64 cn]) ∧ Hid (ActRow z' z.heap.size (.slice aa l.length ca) l ∧ Below z.heap.size z z') ∧ Hid (Below w.heap.size w z')) := fun z hz => (hS z hz).mono fun e z' ⟨lv, q1, q2, q3⟩ => by
    obtain ⟨aa, ca, e2, _⟩ := ActRow.isSlice q2
    subst e2
    exact ⟨aa, ca, q1, ⟨q2, q3⟩, below_then hz q3⟩
  clear h hn hm hnn hxx hS
  rw [hu] at d9
  have y1 : ¬ x < 0 := by omega
  have y2 : ¬ x > 2147483647 := by omega
  have HBV : Hid (Below w.heap.size w (w.alloc (.cells #[.string m.ct, .slice m.tp m.tn m.tc, .bool m.e, .int .i64 m.a, .int .i64 m.p, .int .i64 m.nu, .bool m.nt, .int .i64 m.st, .int .i64 m.lf, .bool true] 91))) := (Below.refl _ _).alloc (Nat.le_refl _) _
  have bv := Box.new w #[.string m.ct, .slice m.tp m.tn m.tc, .bool m.e, .int .i64 m.a, .int .i64 m.p, .int .i64 m.nu, .bool m.nt, .int .i64 m.st, .int .i64 m.lf, .bool true] 91
  obtain ⟨b1, hb1⟩ : ∃ b, (cd.toList == [67, 69]) = b := ⟨_, rfl⟩
  obtain ⟨b2, hb2⟩ : ∃ b, (cd.toList == [65, 69]) = b := ⟨_, rfl⟩
  obtain ⟨b4, hb4⟩ : ∃ b, (x == m.nu) = b := ⟨_, rfl⟩
  unfold strB at hq
  rw [hb1, hb2, hb4] at hq
  go_enter Tryz.func28, Tryz.ntmps28
  go_upto_region 11 with (go_at_call 47; refine hx.mono ?_; rintro _ w9 ⟨rfl, h9⟩; subst w9)
  obtain ⟨V, hV⟩ : ∃ V, w.alloc (.cells #[.string m.ct, .slice m.tp m.tn m.tc, .bool m.e, .int .i64 m.a, .int .i64 m.p, .int .i64 m.nu, .bool m.nt, .int .i64 m.st, .int .i64 m.lf, .bool true] 91) = V := ⟨_, rfl⟩
  rw [hV] at HBV bv ⊢
  clear hV
  obtain ⟨sb, hsb⟩ : ∃ b, w.heap.size = b := ⟨_, rfl⟩
  have v1 : V.cell? ⟨r, 1, none⟩ = some (.bool sq) := by rw [HBV.out.cell (p := ⟨r, 1, none⟩) lr]; exact c1
  have vr : r < V.heap.size := Nat.lt_of_lt_of_le lr HBV.out.size
  rw [hsb] at bv ⊢
  have s2 : V.cell? ⟨sb, 2, none⟩ = some (.bool m.e) := bv.cell 2
  have s3 : V.cell? ⟨sb, 3, none⟩ = some (.int .i64 m.a) := bv.cell 3
  have s4 : V.cell? ⟨sb, 4, none⟩ = some (.int .i64 m.p) := bv.cell 4
  have s5 : V.cell? ⟨sb, 5, none⟩ = some (.int .i64 m.nu) := bv.cell 5
  have s7 : V.cell? ⟨sb, 7, none⟩ = some (.int .i64 m.st) := bv.cell 7
  have s8 : V.cell? ⟨sb, 8, none⟩ = some (.int .i64 m.lf) := bv.cell 8
  have sl := bv.lt
  clear hx c0 c1 c2 d0 d1 d2 d3 d4 d5 d6 d7 d8 d9 lr hg hsb bv
  go_cut [69] (fun t69 wx => t69 = .bool false ∧ wx = V)
  case first =>
    clear HS HH HLx HBV s2 s3 s4 s7 s8 hT
    by_cases y3 : x > 0
    · rw [decide_eq_true (show 0 < x from y3)] at hq
      cases sq <;> cases b1 <;> cases b2 <;> cases b4
      all_goals first
        | (exfalso; revert hq; decide)
        | (go_wp2_with fail
           go_meet
           exact ⟨rfl, rfl⟩)
    · clear hq
      cases sq <;> cases b1 <;> cases b2
      all_goals
        go_wp2_with fail
        go_meet
        exact ⟨rfl, rfl⟩
  case rest =>
  obtain ⟨rfl, hw⟩ := hcut
  rw [hw]
  clear hw hb1 hb2 hb4 hq
  have HS : Hid (∀ z, Below V.heap.size V z → Calls Tryz.prog 65 #[.agg #[.bool m.e, .int .i64 m.a, .int .i64 m.p], .agg #[.int .i64 m.st, .int .i64 m.lf], .string cd, .bool T] z fun e z' => ∃ aa ca, e = .returned (.tuple #[.agg #[.int .i64 st, .int .i64 lf], .slice aa l.length ca, .int .i64 cn]) ∧ Hid (ActRow z' z.heap.size (.slice aa l.length ca) l ∧ Below z.heap.size z z') ∧ Hid (Below V.heap.size V z')) := fun z hz => (HS.out z (below_then HBV.out hz)).mono fun e z' ⟨aa, ca, q1, q2, _⟩ => ⟨aa, ca, q1, q2, below_then hz q2.out.2⟩
  go_upto_region 13 with fail
  go_cut [12, 13] (fun t5 t6 wx => ∃ wb aa ca, t5 = .pointer (some ⟨wb, 0, none⟩) ∧ t6 = .slice aa l.length ca ∧ Hid (Box wx wb #[.int .i64 st, .int .i64 lf] ∧ V.heap.size ≤ wb ∧ ActRow wx V.heap.size (.slice aa l.length ca) l ∧ Below V.heap.size V wx))
  case first =>
    clear HH HLx HBV
    have HX : Hid (∀ w1 aa ca, ActRow w1 (V.alloc (.cells #[.int .i64 0, .int .i64 0] 89)).drew.heap.size (.slice aa l.length ca) l → Below (V.alloc (.cells #[.int .i64 0, .int .i64 0] 89)).drew.heap.size (V.alloc (.cells #[.int .i64 0, .int .i64 0] 89)).drew w1 → (w1.cell? ⟨V.heap.size, 0, none⟩ = some (.int .i64 0) ∧ w1.cell? ⟨V.heap.size, 1, none⟩ = some (.int .i64 0) ∧ w1.frozen? ⟨V.heap.size, 0, none⟩ = false ∧ w1.frozen? ⟨V.heap.size, 1, none⟩ = false) ∧ Hid (Box ((w1.setCell ⟨V.heap.size, 0, none⟩ (.int .i64 st)).setCell ⟨V.heap.size, 1, none⟩ (.int .i64 lf)) V.heap.size #[.int .i64 st, .int .i64 lf] ∧ V.heap.size ≤ V.heap.size ∧ ActRow ((w1.setCell ⟨V.heap.size, 0, none⟩ (.int .i64 st)).setCell ⟨V.heap.size, 1, none⟩ (.int .i64 lf)) V.heap.size (.slice aa l.length ca) l ∧ Below V.heap.size V ((w1.setCell ⟨V.heap.size, 0, none⟩ (.int .i64 st)).setCell ⟨V.heap.size, 1, none⟩ (.int .i64 lf)))) := fun w1 aa ca q2 q3 => by
      have bx := ((Box.new V #[.int .i64 0, .int .i64 0] 89).drew).below q3
      have b0 : Below V.heap.size V (V.alloc (.cells #[.int .i64 0, .int .i64 0] 89)).drew := ((Below.refl _ _).alloc (Nat.le_refl _) _).drew
      have hb := below_then b0 q3
      refine ⟨⟨bx.cell 0, bx.cell 1, bx.free 0, bx.free 1⟩, ?_, Nat.le_refl _, ?_, ?_⟩
      · have := (bx.pPut (j := 0) (by simp) (.int .i64 st)).pPut (j := 1) (by simp) (.int .i64 lf)
        simpa using this
      · have hne : ∀ g, (Value.slice aa l.length ca).ownBlock = some g → g ≠ V.heap.size := fun g hg => by
          have h1 := q2.ne hg
          simp at h1
          omega
        exact ((q2.set (p := ⟨V.heap.size, 0, none⟩) hne).set (p := ⟨V.heap.size, 1, none⟩) hne).mono b0.size
      · exact (hb.setCell (p := ⟨V.heap.size, 0, none⟩) (Nat.le_refl _) _).setCell (p := ⟨V.heap.size, 1, none⟩) (Nat.le_refl _) _
    have gs : ∀ {z : World}, Below V.heap.size V z → z.cell? ⟨r, 1, none⟩ = some (.bool sq) ∧ z.cell? ⟨sb, 2, none⟩ = some (.bool m.e) ∧ z.cell? ⟨sb, 3, none⟩ = some (.int .i64 m.a) ∧ z.cell? ⟨sb, 4, none⟩ = some (.int .i64 m.p) ∧ z.cell? ⟨sb, 7, none⟩ = some (.int .i64 m.st) ∧ z.cell? ⟨sb, 8, none⟩ = some (.int .i64 m.lf) := fun {z} hz => ⟨(hz.cell (p := ⟨r, 1, none⟩) vr).trans v1, (hz.cell (p := ⟨sb, 2, none⟩) sl).trans s2, (hz.cell (p := ⟨sb, 3, none⟩) sl).trans s3, (hz.cell (p := ⟨sb, 4, none⟩) sl).trans s4, (hz.cell (p := ⟨sb, 7, none⟩) sl).trans s7, (hz.cell (p := ⟨sb, 8, none⟩) sl).trans s8⟩
    cases sq with
    | false =>
      obtain rfl : T = false := by rw [← hT]; rfl
      refine wp_region_held_drew (S := (fun z => z.cell? ⟨r, 1, none⟩ = some (.bool false) ∧ z.cell? ⟨sb, 2, none⟩ = some (.bool m.e) ∧ z.cell? ⟨sb, 3, none⟩ = some (.int .i64 m.a) ∧ z.cell? ⟨sb, 4, none⟩ = some (.int .i64 m.p) ∧ z.cell? ⟨sb, 7, none⟩ = some (.int .i64 m.st) ∧ z.cell? ⟨sb, 8, none⟩ = some (.int .i64 m.lf))) (by kernel_rfl) ?_ (fun hHeld => ?_)
      · refine gs ?_; (repeat' (first | (with_reducible exact Below.refl _ _) | (with_reducible exact Hid.out (by assumption)) | (with_reducible refine Below.drew ?_) | (refine Below.alloc ?_ (by first | exact Nat.le_refl _ | exact (Hid.out (by assumption : Hid (Below V.heap.size V _))).size) _) | (refine Below.setCell ?_ (by first | exact Nat.le_refl _ | exact (Hid.out (by assumption : Hid (Below V.heap.size V _))).size) _)))
      refine wpAnyH_take (i := 0) (oi := { dst := some 75, op := Op.fieldAddr 91 (Operand.tmp 11) 0, type := 0, pos := "ref.go:225", after := #[], guard := none }) (v := ?_) rfl (by kernel_rfl) (by kernel_rfl) (by kernel_rfl) (fun _ _ _ h => h) (Or.inl ⟨by rfl, ?_⟩) (by assumption) ?_
      rotate_left
      · intro w hSw
        try dsimp only at hSw
        go_simp
        try with_reducible rfl
      try simp only [Act.put, List.setIfInBounds_toArray, List.set_cons_zero, List.set_cons_succ]
      refine wpAnyH_take (i := 1) (oi := { dst := some 76, op := Op.fieldAddr 58 (Operand.tmp 75) 2, type := 0, pos := "ref.go:225", after := #[{ on := 0, ground := Ground.data }], guard := none }) (v := ?_) rfl (by kernel_rfl) (by kernel_rfl) (by kernel_rfl) (fun _ _ _ h => h) (Or.inl ⟨by rfl, ?_⟩) (by assumption) ?_
      rotate_left
      · intro w hSw
        try dsimp only at hSw
        go_simp
        try with_reducible rfl
      try simp only [Act.put, List.setIfInBounds_toArray, List.set_cons_zero, List.set_cons_succ]
      refine wpAnyH_take (i := 2) (oi := { dst := some 77, op := Op.load 45 (Operand.tmp 76), type := 45, pos := "ref.go:225", after := #[{ on := 1, ground := Ground.data }], guard := none }) (v := ?_) rfl (by kernel_rfl) (by kernel_rfl) (by kernel_rfl) (fun _ _ _ h => h) (Or.inl ⟨by rfl, ?_⟩) (by assumption) ?_
      rotate_left
      · intro w hSw
        try dsimp only at hSw
        go_simp
        try with_reducible rfl
      try simp only [Act.put, List.setIfInBounds_toArray, List.set_cons_zero, List.set_cons_succ]
      refine wpAnyH_take (i := 3) (oi := { dst := some 78, op := Op.fieldAddr 91 (Operand.tmp 11) 1, type := 0, pos := "ref.go:225", after := #[], guard := none }) (v := ?_) rfl (by kernel_rfl) (by kernel_rfl) (by kernel_rfl) (fun _ _ _ h => h) (Or.inl ⟨by rfl, ?_⟩) (by assumption) ?_
      rotate_left
      · intro w hSw
        try dsimp only at hSw
        go_simp
        try with_reducible rfl
      try simp only [Act.put, List.setIfInBounds_toArray, List.set_cons_zero, List.set_cons_succ]
      refine wpAnyH_take (i := 4) (oi := { dst := some 79, op := Op.load 89 (Operand.tmp 78), type := 89, pos := "ref.go:225", after := #[{ on := 3, ground := Ground.data }], guard := none }) (v := ?_) rfl (by kernel_rfl) (by kernel_rfl) (by kernel_rfl) (fun _ _ _ h => h) (Or.inl ⟨by rfl, ?_⟩) (by assumption) ?_
      rotate_left
      · intro w hSw
        try dsimp only at hSw
        go_simp
        try with_reducible rfl
      try simp only [Act.put, List.setIfInBounds_toArray, List.set_cons_zero, List.set_cons_succ]
      refine wpAnyH_take (i := 5) (oi := { dst := some 80, op := Op.move (Operand.tmp 2), type := 9, pos := "ref.go:225", after := #[], guard := none }) (v := ?_) rfl (by kernel_rfl) (by kernel_rfl) (by kernel_rfl) (fun _ _ _ h => h) (Or.inl ⟨by rfl, ?_⟩) (by assumption) ?_
      rotate_left
      · intro w hSw
        try dsimp only at hSw
        go_simp
        try with_reducible rfl
      try simp only [Act.put, List.setIfInBounds_toArray, List.set_cons_zero, List.set_cons_succ]
      refine wpAnyH_take (i := 6) (oi := { dst := some 81, op := Op.move (Operand.tmp 0), type := 27, pos := "ref.go:225", after := #[], guard := none }) (v := ?_) rfl (by kernel_rfl) (by kernel_rfl) (by kernel_rfl) (fun _ _ _ h => h) (Or.inl ⟨by rfl, ?_⟩) (by assumption) ?_
      rotate_left
      · intro w hSw
        try dsimp only at hSw
        go_simp
        try with_reducible rfl
      try simp only [Act.put, List.setIfInBounds_toArray, List.set_cons_zero, List.set_cons_succ]
      refine wpAnyH_take (i := 7) (oi := { dst := some 82, op := Op.nilCheck (Operand.tmp 81), type := 0, pos := "ref.go:225", after := #[{ on := 6, ground := Ground.data }], guard := none }) (v := ?_) rfl (by kernel_rfl) (by kernel_rfl) (by kernel_rfl) (fun _ _ _ h => h) (Or.inl ⟨by rfl, ?_⟩) (by assumption) ?_
      rotate_left
      · intro w hSw
        try dsimp only at hSw
        go_simp
        try with_reducible rfl
      try simp only [Act.put, List.setIfInBounds_toArray, List.set_cons_zero, List.set_cons_succ]
      refine wpAnyH_take (i := 8) (oi := { dst := some 83, op := Op.fieldAddr 117 (Operand.tmp 82) 1, type := 0, pos := "ref.go:225", after := #[{ on := 7, ground := Ground.data }], guard := none }) (v := ?_) rfl (by kernel_rfl) (by kernel_rfl) (by kernel_rfl) (fun _ _ _ h => h) (Or.inl ⟨by rfl, ?_⟩) (by assumption) ?_
      rotate_left
      · intro w hSw
        try dsimp only at hSw
        go_simp
        try with_reducible rfl
      try simp only [Act.put, List.setIfInBounds_toArray, List.set_cons_zero, List.set_cons_succ]
      refine wpAnyH_take (i := 9) (oi := { dst := some 84, op := Op.load 4 (Operand.tmp 83), type := 4, pos := "ref.go:225", after := #[{ on := 8, ground := Ground.data }], guard := none }) (v := ?_) rfl (by kernel_rfl) (by kernel_rfl) (by kernel_rfl) (fun _ _ _ h => h) (Or.inl ⟨by rfl, ?_⟩) (by assumption) ?_
      rotate_left
      · intro w hSw
        try dsimp only at hSw
        go_simp
        try with_reducible rfl
      try simp only [Act.put, List.setIfInBounds_toArray, List.set_cons_zero, List.set_cons_succ]
      refine wpAnyH_take (i := 10) (oi := { dst := some 85, op := Op.move (Operand.tmp 84), type := 4, pos := "ref.go:225", after := #[{ on := 9, ground := Ground.data }], guard := none }) (v := ?_) rfl (by kernel_rfl) (by kernel_rfl) (by kernel_rfl) (fun _ _ _ h => h) (Or.inl ⟨by rfl, ?_⟩) (by assumption) ?_
      rotate_left
      · intro w hSw
        try dsimp only at hSw
        go_simp
        try with_reducible rfl
      try simp only [Act.put, List.setIfInBounds_toArray, List.set_cons_zero, List.set_cons_succ]
      refine wpAnyH_take (i := 11) (oi := { dst := some 86, op := Op.move (Operand.tmp 3), type := 3, pos := "ref.go:225", after := #[{ on := 10, ground := Ground.guard }], guard := some (10, true) }) (v := undef) rfl (by kernel_rfl) (by kernel_rfl) (by kernel_rfl) (fun _ _ _ h => h) (Or.inr ⟨by rfl, rfl⟩) (by assumption) ?_
      try simp only [Act.put, List.setIfInBounds_toArray, List.set_cons_zero, List.set_cons_succ]
      refine wpAnyH_take (i := 12) (oi := { dst := some 87, op := Op.binOp BinOp.gtr 3 (Operand.tmp 86) (Operand.const (Value.int IntKind.i64 0)) 3, type := 4, pos := "ref.go:225", after := #[{ on := 11, ground := Ground.data }, { on := 10, ground := Ground.guard }], guard := some (10, true) }) (v := undef) rfl (by kernel_rfl) (by kernel_rfl) (by kernel_rfl) (fun _ _ _ h => h) (Or.inr ⟨by rfl, rfl⟩) (by assumption) ?_
      try simp only [Act.put, List.setIfInBounds_toArray, List.set_cons_zero, List.set_cons_succ]
      refine wpAnyH_take (i := 13) (oi := { dst := some 88, op := Op.pick (Operand.tmp 85) (Operand.tmp 87) (Operand.const (Value.bool false)), type := 4, pos := "ref.go:225", after := #[{ on := 10, ground := Ground.data }, { on := 12, ground := Ground.data }], guard := none }) (v := ?_) rfl (by kernel_rfl) (by kernel_rfl) (by kernel_rfl) (fun _ _ _ h => h) (Or.inl ⟨by rfl, ?_⟩) (by assumption) ?_
      rotate_left
      · intro w hSw
        try dsimp only at hSw
        go_simp
        try with_reducible rfl
      try simp only [Act.put, List.setIfInBounds_toArray, List.set_cons_zero, List.set_cons_succ]
      refine wpAnyH_ready (rs := [14, 19]) (by kernel_rfl) (by simp) ?_
      refine AllReadyH.cons (o := { dst := some 89, op := Op.call { callee := Callee.value (Operand.func 65), args := #[Operand.tmp 77, Operand.tmp 79, Operand.tmp 80, Operand.tmp 88], argTypes := #[45, 89, 9, 4] }, type := 142, pos := "ref.go:225", after := #[{ on := 2, ground := Ground.data }, { on := 4, ground := Ground.data }, { on := 5, ground := Ground.data }, { on := 13, ground := Ground.data }, { on := 10, ground := Ground.chain }], guard := none }) rfl (fun K hK => ?_) ?_
      · go_simp
        go_at_call 65
        refine (HS.out _ ?_).mono ?_
        · (repeat' (first | (with_reducible exact Below.refl _ _) | (with_reducible refine Below.drew ?_) | (with_reducible refine Below.alloc ?_ (Nat.le_refl _) _)))
        rintro _ w1 ⟨aa, ca, rfl, H1, H1b⟩
        try go_wp2_with fail
        refine hK.out _ _ ?_ (fun hHeld => ?_)
        · try dsimp only
          refine gs ?_; (repeat' (first | (with_reducible exact Below.refl _ _) | (with_reducible exact Hid.out (by assumption)) | (with_reducible refine Below.drew ?_) | (refine Below.alloc ?_ (by first | exact Nat.le_refl _ | exact (Hid.out (by assumption : Hid (Below V.heap.size V _))).size) _) | (refine Below.setCell ?_ (by first | exact Nat.le_refl _ | exact (Hid.out (by assumption : Hid (Below V.heap.size V _))).size) _)))
        clear hK K
        try simp only [Act.put, List.setIfInBounds_toArray, List.set_cons_zero, List.set_cons_succ]
        refine wpAnyH_take (i := 15) (oi := { dst := some 74, op := Op.move (Operand.tmp 89), type := 142, pos := "ref.go:225", after := #[{ on := 14, ground := Ground.data }], guard := none }) (v := ?_) rfl (by kernel_rfl) (by kernel_rfl) (by kernel_rfl) (fun _ _ _ h => h) (Or.inl ⟨by rfl, ?_⟩) (by assumption) ?_
        rotate_left
        · intro w hSw
          try dsimp only at hSw
          go_simp
          try with_reducible rfl
        try simp only [Act.put, List.setIfInBounds_toArray, List.set_cons_zero, List.set_cons_succ]
        refine wpAnyH_take (i := 16) (oi := { dst := some 90, op := Op.extract (Operand.tmp 74) 0, type := 89, pos := "ref.go:225", after := #[{ on := 15, ground := Ground.data }], guard := none }) (v := ?_) rfl (by kernel_rfl) (by kernel_rfl) (by kernel_rfl) (fun _ _ _ h => h) (Or.inl ⟨by rfl, ?_⟩) (by assumption) ?_
        rotate_left
        · intro w hSw
          try dsimp only at hSw
          go_simp
          try with_reducible rfl
        try simp only [Act.put, List.setIfInBounds_toArray, List.set_cons_zero, List.set_cons_succ]
        refine wpAnyH_take (i := 17) (oi := { dst := some 91, op := Op.extract (Operand.tmp 74) 1, type := 132, pos := "ref.go:225", after := #[{ on := 15, ground := Ground.data }, { on := 20, ground := Ground.gcOnly Departure.lateStores }], guard := none }) (v := ?_) rfl (by kernel_rfl) (by kernel_rfl) (by kernel_rfl) (fun _ _ _ h => h) (Or.inl ⟨by rfl, ?_⟩) (by assumption) ?_
        rotate_left
        · intro w hSw
          try dsimp only at hSw
          go_simp
          try with_reducible rfl
        try simp only [Act.put, List.setIfInBounds_toArray, List.set_cons_zero, List.set_cons_succ]
        refine wpAnyH_take (i := 18) (oi := { dst := some 92, op := Op.extract (Operand.tmp 74) 2, type := 3, pos := "ref.go:225", after := #[{ on := 15, ground := Ground.data }, { on := 21, ground := Ground.gcOnly Departure.lateStores }], guard := none }) (v := ?_) rfl (by kernel_rfl) (by kernel_rfl) (by kernel_rfl) (fun _ _ _ h => h) (Or.inl ⟨by rfl, ?_⟩) (by assumption) ?_
        rotate_left
        · intro w hSw
          try dsimp only at hSw
          go_simp
          try with_reducible rfl
        try simp only [Act.put, List.setIfInBounds_toArray, List.set_cons_zero, List.set_cons_succ]
        refine wpAnyH_ready (rs := [19]) (by kernel_rfl) (by simp) ?_
        refine AllReadyH.cons (o := { dst := some 12, op := Op.alloc 89, type := 0, pos := "ref.go:225", after := #[], guard := none }) rfl (fun K hK => ?_) ?_
        · go_simp
          try go_wp2_with fail
          refine hK.out _ _ ?_ (fun hHeld => ?_)
          · try dsimp only
            refine gs ?_; (repeat' (first | (with_reducible exact Below.refl _ _) | (with_reducible exact Hid.out (by assumption)) | (with_reducible refine Below.drew ?_) | (refine Below.alloc ?_ (by first | exact Nat.le_refl _ | exact (Hid.out (by assumption : Hid (Below V.heap.size V _))).size) _) | (refine Below.setCell ?_ (by first | exact Nat.le_refl _ | exact (Hid.out (by assumption : Hid (Below V.heap.size V _))).size) _)))
          clear hK K
          try simp only [Act.put, List.setIfInBounds_toArray, List.set_cons_zero, List.set_cons_succ]
          refine wpAnyH_ready (rs := [20]) (by kernel_rfl) (by simp) ?_
          refine AllReadyH.cons (o := { dst := none, op := Op.store 89 (Operand.tmp 12) (Operand.tmp 90), type := 0, pos := "ref.go:225", after := #[{ on := 19, ground := Ground.data }, { on := 16, ground := Ground.data }, { on := 14, ground := Ground.chain }, { on := 0, ground := Ground.phase }, { on := 1, ground := Ground.phase }, { on := 2, ground := Ground.phase }, { on := 3, ground := Ground.phase }, { on := 4, ground := Ground.phase }, { on := 5, ground := Ground.phase }, { on := 6, ground := Ground.phase }, { on := 7, ground := Ground.phase }, { on := 8, ground := Ground.phase }, { on := 9, ground := Ground.phase }, { on := 10, ground := Ground.phase }, { on := 11, ground := Ground.phase }, { on := 12, ground := Ground.phase }, { on := 13, ground := Ground.phase }, { on := 14, ground := Ground.phase }, { on := 15, ground := Ground.phase }, { on := 16, ground := Ground.phase }, { on := 17, ground := Ground.textOnly Departure.lateStores }, { on := 18, ground := Ground.textOnly Departure.lateStores }, { on := 19, ground := Ground.phase }], guard := none }) rfl (fun K hK => ?_) ?_
          · go_simp
            try go_wp2_with fail
            refine hK.out _ _ ?_ (fun hHeld => ?_)
            · try dsimp only
              refine gs ?_; (repeat' (first | (with_reducible exact Below.refl _ _) | (with_reducible exact Hid.out (by assumption)) | (with_reducible refine Below.drew ?_) | (refine Below.alloc ?_ (by first | exact Nat.le_refl _ | exact (Hid.out (by assumption : Hid (Below V.heap.size V _))).size) _) | (refine Below.setCell ?_ (by first | exact Nat.le_refl _ | exact (Hid.out (by assumption : Hid (Below V.heap.size V _))).size) _)))
            clear hK K
            try simp only [Act.put, List.setIfInBounds_toArray, List.set_cons_zero, List.set_cons_succ]
            refine wpAnyH_take (i := 21) (oi := { dst := some 13, op := Op.assign (Operand.tmp 91), type := 132, pos := "ref.go:225", after := #[{ on := 17, ground := Ground.data }, { on := 20, ground := Ground.chain }, { on := 0, ground := Ground.phase }, { on := 1, ground := Ground.phase }, { on := 2, ground := Ground.phase }, { on := 3, ground := Ground.phase }, { on := 4, ground := Ground.phase }, { on := 5, ground := Ground.phase }, { on := 6, ground := Ground.phase }, { on := 7, ground := Ground.phase }, { on := 8, ground := Ground.phase }, { on := 9, ground := Ground.phase }, { on := 10, ground := Ground.phase }, { on := 11, ground := Ground.phase }, { on := 12, ground := Ground.phase }, { on := 13, ground := Ground.phase }, { on := 14, ground := Ground.phase }, { on := 15, ground := Ground.phase }, { on := 16, ground := Ground.phase }, { on := 17, ground := Ground.phase }, { on := 18, ground := Ground.textOnly Departure.lateStores }, { on := 19, ground := Ground.phase }, { on := 20, ground := Ground.phase }], guard := none }) (v := ?_) rfl (by kernel_rfl) (by kernel_rfl) (by kernel_rfl) (fun _ _ _ h => h) (Or.inl ⟨by rfl, ?_⟩) (by assumption) ?_
            rotate_left
            · intro w hSw
              try dsimp only at hSw
              go_simp
              try with_reducible rfl
            try simp only [Act.put, List.setIfInBounds_toArray, List.set_cons_zero, List.set_cons_succ]
            refine wpAnyH_take (i := 22) (oi := { dst := some 14, op := Op.assign (Operand.tmp 92), type := 3, pos := "ref.go:225", after := #[{ on := 18, ground := Ground.data }, { on := 21, ground := Ground.chain }, { on := 0, ground := Ground.phase }, { on := 1, ground := Ground.phase }, { on := 2, ground := Ground.phase }, { on := 3, ground := Ground.phase }, { on := 4, ground := Ground.phase }, { on := 5, ground := Ground.phase }, { on := 6, ground := Ground.phase }, { on := 7, ground := Ground.phase }, { on := 8, ground := Ground.phase }, { on := 9, ground := Ground.phase }, { on := 10, ground := Ground.phase }, { on := 11, ground := Ground.phase }, { on := 12, ground := Ground.phase }, { on := 13, ground := Ground.phase }, { on := 14, ground := Ground.phase }, { on := 15, ground := Ground.phase }, { on := 16, ground := Ground.phase }, { on := 17, ground := Ground.phase }, { on := 18, ground := Ground.phase }, { on := 19, ground := Ground.phase }, { on := 20, ground := Ground.phase }, { on := 21, ground := Ground.phase }], guard := none }) (v := ?_) rfl (by kernel_rfl) (by kernel_rfl) (by kernel_rfl) (fun _ _ _ h => h) (Or.inl ⟨by rfl, ?_⟩) (by assumption) ?_
            rotate_left
            · intro w hSw
              try dsimp only at hSw
              go_simp
              try with_reducible rfl
            try simp only [Act.put, List.setIfInBounds_toArray, List.set_cons_zero, List.set_cons_succ]
            refine wpAnyH_done (by kernel_rfl) ?_ _
            go_wp2_with fail
            go_meet
            first | exact ⟨_, _, _, rfl, rfl, HX2⟩ | exact ⟨_, _, _, rfl, rfl, Box.new _ _ _, H1b.out.size, ActRow.below (H1.out.1.mono (Nat.le_refl _)) ((Below.refl _ _).alloc (Nat.le_refl _) _), H1b.out.alloc H1b.out.size _⟩
          exact AllReadyH.nil
        exact AllReadyH.nil
      refine AllReadyH.cons (o := { dst := some 12, op := Op.alloc 89, type := 0, pos := "ref.go:225", after := #[], guard := none }) rfl (fun K hK => ?_) ?_
      · go_simp
        try go_wp2_with fail
        refine hK.out _ _ ?_ (fun hHeld => ?_)
        · try dsimp only
          refine gs ?_; (repeat' (first | (with_reducible exact Below.refl _ _) | (with_reducible exact Hid.out (by assumption)) | (with_reducible refine Below.drew ?_) | (refine Below.alloc ?_ (by first | exact Nat.le_refl _ | exact (Hid.out (by assumption : Hid (Below V.heap.size V _))).size) _) | (refine Below.setCell ?_ (by first | exact Nat.le_refl _ | exact (Hid.out (by assumption : Hid (Below V.heap.size V _))).size) _)))
        clear hK K
        try simp only [Act.put, List.setIfInBounds_toArray, List.set_cons_zero, List.set_cons_succ]
        refine wpAnyH_ready (rs := [14]) (by kernel_rfl) (by simp) ?_
        refine AllReadyH.cons (o := { dst := some 89, op := Op.call { callee := Callee.value (Operand.func 65), args := #[Operand.tmp 77, Operand.tmp 79, Operand.tmp 80, Operand.tmp 88], argTypes := #[45, 89, 9, 4] }, type := 142, pos := "ref.go:225", after := #[{ on := 2, ground := Ground.data }, { on := 4, ground := Ground.data }, { on := 5, ground := Ground.data }, { on := 13, ground := Ground.data }, { on := 10, ground := Ground.chain }], guard := none }) rfl (fun K hK => ?_) ?_
        · go_simp
          go_at_call 65
          refine (HS.out _ ?_).mono ?_
          · (repeat' (first | (with_reducible exact Below.refl _ _) | (with_reducible refine Below.drew ?_) | (with_reducible refine Below.alloc ?_ (Nat.le_refl _) _)))
          rintro _ w1 ⟨aa, ca, rfl, H1, H1b⟩
          obtain ⟨⟨z0, z1, z2, z3⟩, HX2⟩ := HX.out _ _ _ H1.out.1 H1.out.2
          try go_wp2_with fail
          refine hK.out _ _ ?_ (fun hHeld => ?_)
          · try dsimp only
            refine gs ?_; (repeat' (first | (with_reducible exact Below.refl _ _) | (with_reducible exact Hid.out (by assumption)) | (with_reducible refine Below.drew ?_) | (refine Below.alloc ?_ (by first | exact Nat.le_refl _ | exact (Hid.out (by assumption : Hid (Below V.heap.size V _))).size) _) | (refine Below.setCell ?_ (by first | exact Nat.le_refl _ | exact (Hid.out (by assumption : Hid (Below V.heap.size V _))).size) _)))
          clear hK K
          try simp only [Act.put, List.setIfInBounds_toArray, List.set_cons_zero, List.set_cons_succ]
          refine wpAnyH_take (i := 15) (oi := { dst := some 74, op := Op.move (Operand.tmp 89), type := 142, pos := "ref.go:225", after := #[{ on := 14, ground := Ground.data }], guard := none }) (v := ?_) rfl (by kernel_rfl) (by kernel_rfl) (by kernel_rfl) (fun _ _ _ h => h) (Or.inl ⟨by rfl, ?_⟩) (by assumption) ?_
          rotate_left
          · intro w hSw
            try dsimp only at hSw
            go_simp
            try with_reducible rfl
          try simp only [Act.put, List.setIfInBounds_toArray, List.set_cons_zero, List.set_cons_succ]
          refine wpAnyH_take (i := 16) (oi := { dst := some 90, op := Op.extract (Operand.tmp 74) 0, type := 89, pos := "ref.go:225", after := #[{ on := 15, ground := Ground.data }], guard := none }) (v := ?_) rfl (by kernel_rfl) (by kernel_rfl) (by kernel_rfl) (fun _ _ _ h => h) (Or.inl ⟨by rfl, ?_⟩) (by assumption) ?_
          rotate_left
          · intro w hSw
            try dsimp only at hSw
            go_simp
            try with_reducible rfl
          try simp only [Act.put, List.setIfInBounds_toArray, List.set_cons_zero, List.set_cons_succ]
          refine wpAnyH_take (i := 17) (oi := { dst := some 91, op := Op.extract (Operand.tmp 74) 1, type := 132, pos := "ref.go:225", after := #[{ on := 15, ground := Ground.data }, { on := 20, ground := Ground.gcOnly Departure.lateStores }], guard := none }) (v := ?_) rfl (by kernel_rfl) (by kernel_rfl) (by kernel_rfl) (fun _ _ _ h => h) (Or.inl ⟨by rfl, ?_⟩) (by assumption) ?_
          rotate_left
          · intro w hSw
            try dsimp only at hSw
            go_simp
            try with_reducible rfl
          try simp only [Act.put, List.setIfInBounds_toArray, List.set_cons_zero, List.set_cons_succ]
          refine wpAnyH_take (i := 18) (oi := { dst := some 92, op := Op.extract (Operand.tmp 74) 2, type := 3, pos := "ref.go:225", after := #[{ on := 15, ground := Ground.data }, { on := 21, ground := Ground.gcOnly Departure.lateStores }], guard := none }) (v := ?_) rfl (by kernel_rfl) (by kernel_rfl) (by kernel_rfl) (fun _ _ _ h => h) (Or.inl ⟨by rfl, ?_⟩) (by assumption) ?_
          rotate_left
          · intro w hSw
            try dsimp only at hSw
            go_simp
            try with_reducible rfl
          try simp only [Act.put, List.setIfInBounds_toArray, List.set_cons_zero, List.set_cons_succ]
          refine wpAnyH_ready (rs := [20]) (by kernel_rfl) (by simp) ?_
          refine AllReadyH.cons (o := { dst := none, op := Op.store 89 (Operand.tmp 12) (Operand.tmp 90), type := 0, pos := "ref.go:225", after := #[{ on := 19, ground := Ground.data }, { on := 16, ground := Ground.data }, { on := 14, ground := Ground.chain }, { on := 0, ground := Ground.phase }, { on := 1, ground := Ground.phase }, { on := 2, ground := Ground.phase }, { on := 3, ground := Ground.phase }, { on := 4, ground := Ground.phase }, { on := 5, ground := Ground.phase }, { on := 6, ground := Ground.phase }, { on := 7, ground := Ground.phase }, { on := 8, ground := Ground.phase }, { on := 9, ground := Ground.phase }, { on := 10, ground := Ground.phase }, { on := 11, ground := Ground.phase }, { on := 12, ground := Ground.phase }, { on := 13, ground := Ground.phase }, { on := 14, ground := Ground.phase }, { on := 15, ground := Ground.phase }, { on := 16, ground := Ground.phase }, { on := 17, ground := Ground.textOnly Departure.lateStores }, { on := 18, ground := Ground.textOnly Departure.lateStores }, { on := 19, ground := Ground.phase }], guard := none }) rfl (fun K hK => ?_) ?_
          · go_simp
            try go_wp2_with fail
            refine hK.out _ _ ?_ (fun hHeld => ?_)
            · try dsimp only
              refine gs ?_; (repeat' (first | (with_reducible exact Below.refl _ _) | (with_reducible exact Hid.out (by assumption)) | (with_reducible refine Below.drew ?_) | (refine Below.alloc ?_ (by first | exact Nat.le_refl _ | exact (Hid.out (by assumption : Hid (Below V.heap.size V _))).size) _) | (refine Below.setCell ?_ (by first | exact Nat.le_refl _ | exact (Hid.out (by assumption : Hid (Below V.heap.size V _))).size) _)))
            clear hK K
            try simp only [Act.put, List.setIfInBounds_toArray, List.set_cons_zero, List.set_cons_succ]
            refine wpAnyH_take (i := 21) (oi := { dst := some 13, op := Op.assign (Operand.tmp 91), type := 132, pos := "ref.go:225", after := #[{ on := 17, ground := Ground.data }, { on := 20, ground := Ground.chain }, { on := 0, ground := Ground.phase }, { on := 1, ground := Ground.phase }, { on := 2, ground := Ground.phase }, { on := 3, ground := Ground.phase }, { on := 4, ground := Ground.phase }, { on := 5, ground := Ground.phase }, { on := 6, ground := Ground.phase }, { on := 7, ground := Ground.phase }, { on := 8, ground := Ground.phase }, { on := 9, ground := Ground.phase }, { on := 10, ground := Ground.phase }, { on := 11, ground := Ground.phase }, { on := 12, ground := Ground.phase }, { on := 13, ground := Ground.phase }, { on := 14, ground := Ground.phase }, { on := 15, ground := Ground.phase }, { on := 16, ground := Ground.phase }, { on := 17, ground := Ground.phase }, { on := 18, ground := Ground.textOnly Departure.lateStores }, { on := 19, ground := Ground.phase }, { on := 20, ground := Ground.phase }], guard := none }) (v := ?_) rfl (by kernel_rfl) (by kernel_rfl) (by kernel_rfl) (fun _ _ _ h => h) (Or.inl ⟨by rfl, ?_⟩) (by assumption) ?_
            rotate_left
            · intro w hSw
              try dsimp only at hSw
              go_simp
              try with_reducible rfl
            try simp only [Act.put, List.setIfInBounds_toArray, List.set_cons_zero, List.set_cons_succ]
            refine wpAnyH_take (i := 22) (oi := { dst := some 14, op := Op.assign (Operand.tmp 92), type := 3, pos := "ref.go:225", after := #[{ on := 18, ground := Ground.data }, { on := 21, ground := Ground.chain }, { on := 0, ground := Ground.phase }, { on := 1, ground := Ground.phase }, { on := 2, ground := Ground.phase }, { on := 3, ground := Ground.phase }, { on := 4, ground := Ground.phase }, { on := 5, ground := Ground.phase }, { on := 6, ground := Ground.phase }, { on := 7, ground := Ground.phase }, { on := 8, ground := Ground.phase }, { on := 9, ground := Ground.phase }, { on := 10, ground := Ground.phase }, { on := 11, ground := Ground.phase }, { on := 12, ground := Ground.phase }, { on := 13, ground := Ground.phase }, { on := 14, ground := Ground.phase }, { on := 15, ground := Ground.phase }, { on := 16, ground := Ground.phase }, { on := 17, ground := Ground.phase }, { on := 18, ground := Ground.phase }, { on := 19, ground := Ground.phase }, { on := 20, ground := Ground.phase }, { on := 21, ground := Ground.phase }], guard := none }) (v := ?_) rfl (by kernel_rfl) (by kernel_rfl) (by kernel_rfl) (fun _ _ _ h => h) (Or.inl ⟨by rfl, ?_⟩) (by assumption) ?_
            rotate_left
            · intro w hSw
              try dsimp only at hSw
              go_simp
              try with_reducible rfl
            try simp only [Act.put, List.setIfInBounds_toArray, List.set_cons_zero, List.set_cons_succ]
            refine wpAnyH_done (by kernel_rfl) ?_ _
            go_wp2_with fail
            go_meet
            first | exact ⟨_, _, _, rfl, rfl, HX2⟩ | exact ⟨_, _, _, rfl, rfl, Box.new _ _ _, H1b.out.size, ActRow.below (H1.out.1.mono (Nat.le_refl _)) ((Below.refl _ _).alloc (Nat.le_refl _) _), H1b.out.alloc H1b.out.size _⟩
          exact AllReadyH.nil
        exact AllReadyH.nil
      exact AllReadyH.nil
    | true =>
      by_cases y3 : x > 0
      · obtain rfl : T = true := by rw [← hT, decide_eq_true (show 0 < x from y3)]; rfl
        go_region_held3 (fun z => z.cell? ⟨r, 1, none⟩ = some (.bool true) ∧ z.cell? ⟨sb, 2, none⟩ = some (.bool m.e) ∧ z.cell? ⟨sb, 3, none⟩ = some (.int .i64 m.a) ∧ z.cell? ⟨sb, 4, none⟩ = some (.int .i64 m.p) ∧ z.cell? ⟨sb, 7, none⟩ = some (.int .i64 m.st) ∧ z.cell? ⟨sb, 8, none⟩ = some (.int .i64 m.lf)) ((refine gs ?_; (repeat' (first | (with_reducible exact Below.refl _ _) | (with_reducible exact Hid.out (by assumption)) | (with_reducible refine Below.drew ?_) | (refine Below.alloc ?_ (by first | exact Nat.le_refl _ | exact (Hid.out (by assumption : Hid (Below V.heap.size V _))).size) _) | (refine Below.setCell ?_ (by first | exact Nat.le_refl _ | exact (Hid.out (by assumption : Hid (Below V.heap.size V _))).size) _))))) ((go_at_call 65; refine (HS.out _ ?_).mono ?_; (repeat' (first | (with_reducible exact Below.refl _ _) | (with_reducible refine Below.drew ?_) | (with_reducible refine Below.alloc ?_ (Nat.le_refl _) _))); rintro _ w1 ⟨aa, ca, rfl, H1, H1b⟩; (first | (obtain ⟨⟨z0, z1, z2, z3⟩, HX2⟩ := HX.out _ _ _ H1.out.1 H1.out.2) | skip)))
        all_goals
          go_wp2_with fail
          go_meet
          first | exact ⟨_, _, _, rfl, rfl, HX2⟩ | exact ⟨_, _, _, rfl, rfl, Box.new _ _ _, H1b.out.size, ActRow.below (H1.out.1.mono (Nat.le_refl _)) ((Below.refl _ _).alloc (Nat.le_refl _) _), H1b.out.alloc H1b.out.size _⟩
      · obtain rfl : T = false := by rw [← hT, decide_eq_false (show ¬ 0 < x from y3)]; rfl
        go_region_held3 (fun z => z.cell? ⟨r, 1, none⟩ = some (.bool true) ∧ z.cell? ⟨sb, 2, none⟩ = some (.bool m.e) ∧ z.cell? ⟨sb, 3, none⟩ = some (.int .i64 m.a) ∧ z.cell? ⟨sb, 4, none⟩ = some (.int .i64 m.p) ∧ z.cell? ⟨sb, 7, none⟩ = some (.int .i64 m.st) ∧ z.cell? ⟨sb, 8, none⟩ = some (.int .i64 m.lf)) ((refine gs ?_; (repeat' (first | (with_reducible exact Below.refl _ _) | (with_reducible exact Hid.out (by assumption)) | (with_reducible refine Below.drew ?_) | (refine Below.alloc ?_ (by first | exact Nat.le_refl _ | exact (Hid.out (by assumption : Hid (Below V.heap.size V _))).size) _) | (refine Below.setCell ?_ (by first | exact Nat.le_refl _ | exact (Hid.out (by assumption : Hid (Below V.heap.size V _))).size) _))))) ((go_at_call 65; refine (HS.out _ ?_).mono ?_; (repeat' (first | (with_reducible exact Below.refl _ _) | (with_reducible refine Below.drew ?_) | (with_reducible refine Below.alloc ?_ (Nat.le_refl _) _))); rintro _ w1 ⟨aa, ca, rfl, H1, H1b⟩; (first | (obtain ⟨⟨z0, z1, z2, z3⟩, HX2⟩ := HX.out _ _ _ H1.out.1 H1.out.2) | skip)))
        all_goals
          go_wp2_with fail
          go_meet
          first | exact ⟨_, _, _, rfl, rfl, HX2⟩ | exact ⟨_, _, _, rfl, rfl, Box.new _ _ _, H1b.out.size, ActRow.below (H1.out.1.mono (Nat.le_refl _)) ((Below.refl _ _).alloc (Nat.le_refl _) _), H1b.out.alloc H1b.out.size _⟩
  case rest =>
    obtain ⟨W1, rfl⟩ : ∃ U, U = wc := ⟨_, rfl⟩
    obtain ⟨wb, aa, ca, rfl, rfl, HW⟩ := hcut
    have HB1 : Hid (Below w.heap.size w W1) := below_then HBV.out HW.out.2.2.2
    clear HS v1 s2 s3 s4 s5 s7 s8 sl vr
    have h1 := HH.out.1.below HB1.out
    have k0 := HW.out.1.cell 0
    have k1 := HW.out.1.cell 1
    have hdn := rdone_any h1 HH.out.2 st lf x HW.out.2.2.1 HLx.out
    have HO : Hid (Below w.heap.size w W1) := HB1.out
    clear h1 HH HW
    go_wp2_with fail
    refine hdn.mono ?_
    rintro _ w3 ⟨a3, c3, rfl, H3⟩
    have HZ : Hid (RCaQ w B r (.slice (some ⟨g, 0, none⟩) n c) sq tr (donS ms i { m with st := st, lf := lf } x l) (deedsS m.ct l) 0 (.returned (.tuple #[.slice a3 (deedsS m.ct l).length c3, .int .i64 0])) w3) := ⟨a3, c3, rfl, ERow.base H3.out.1 HO.out.size, RBQ.back HO.out H3.out.2⟩
    clear hdn H3 HO k0 k1
    go_wp2_with fail
    go_ret2
    exact HZ.out
end
end Go.Proofs.YtoijhecphgdfnaaGreatDoor
