import Derived.Test.YtoijhecphgdfnaaGreatDoorDcRefHa
import Derived.Test.YtoijhecphgdfnaaGreatDoorOxLaw0
import Derived.Test.YtoijhecphgdfnaaGreatDoorOxList
/-
  The document's ownSent.
-/
namespace Go.Proofs.YtoijhecphgdfnaaGreatDoor
open Go.RowKit

set_option maxRecDepth 100000 in
set_option maxHeartbeats 4000000 in
theorem rownSent_any (m : Msg) (w : World) (hb : Byts w m.tp m.tn m.tx) (hm : m.tn ≤ 140737488355328) :
    Calls Tryz.prog 69 #[.agg #[.string m.ct, .slice m.tp m.tn m.tc, .bool m.e, .int .i64 m.a, .int .i64 m.p, .int .i64 m.nu, .bool m.nt, .int .i64 m.st, .int .i64 m.lf, .bool m.un]] w fun r w' => ∃ a c, r = .returned (.agg #[.string m.ct, .slice a m.tn c, .bool m.e, .int .i64 m.a, .int .i64 m.p, .int .i64 m.nu, .bool m.nt, .int .i64 m.st, .int .i64 m.lf, .bool m.un]) ∧ BRow w' w.heap.size (.slice a m.tn c) m.tx ∧ Below w.heap.size w w' := by
  have bv : Below w.heap.size w ((w.alloc (.cells #[.string m.ct, .slice m.tp m.tn m.tc, .bool m.e, .int .i64 m.a, .int .i64 m.p, .int .i64 m.nu, .bool m.nt, .int .i64 m.st, .int .i64 m.lf, .bool m.un] 91)).alloc (.cells #[.string ⟨#[]⟩, .slice none 0 0, .bool false, .int .i64 0, .int .i64 0, .int .i64 0, .bool false, .int .i64 0, .int .i64 0, .bool false] 91)) := ((Below.refl _ _).alloc (Nat.le_refl _) _).alloc (by simp) _
  have bx := (Box.new w #[.string m.ct, .slice m.tp m.tn m.tc, .bool m.e, .int .i64 m.a, .int .i64 m.p, .int .i64 m.nu, .bool m.nt, .int .i64 m.st, .int .i64 m.lf, .bool m.un] 91).alloc (.cells #[.string ⟨#[]⟩, .slice none 0 0, .bool false, .int .i64 0, .int .i64 0, .int .i64 0, .bool false, .int .i64 0, .int .i64 0, .bool false] 91)
  have by_ := Box.new (w.alloc (.cells #[.string m.ct, .slice m.tp m.tn m.tc, .bool m.e, .int .i64 m.a, .int .i64 m.p, .int .i64 m.nu, .bool m.nt, .int .i64 m.st, .int .i64 m.lf, .bool m.un] 91)) #[.string ⟨#[]⟩, .slice none 0 0, .bool false, .int .i64 0, .int .i64 0, .int .i64 0, .bool false, .int .i64 0, .int .i64 0, .bool false] 91
  rw [World.size_alloc] at by_
  obtain ⟨V, hV⟩ : ∃ V, ((w.alloc (.cells #[.string m.ct, .slice m.tp m.tn m.tc, .bool m.e, .int .i64 m.a, .int .i64 m.p, .int .i64 m.nu, .bool m.nt, .int .i64 m.st, .int .i64 m.lf, .bool m.un] 91)).alloc (.cells #[.string ⟨#[]⟩, .slice none 0 0, .bool false, .int .i64 0, .int .i64 0, .int .i64 0, .bool false, .int .i64 0, .int .i64 0, .bool false] 91)) = V := ⟨_, rfl⟩
  have HZ : Hid (V.heap.size = w.heap.size + 1 + 1) := by unfold Hid; rw [← hV]; simp
  rw [hV] at bx by_ bv
  obtain ⟨xb, hxb⟩ : ∃ xb, w.heap.size = xb := ⟨_, rfl⟩
  have HXB : Hid (w.heap.size = xb) := hxb
  have HB0 : Hid (Below w.heap.size w V) := bv
  have HX : Hid (Box V xb #[.string m.ct, .slice m.tp m.tn m.tc, .bool m.e, .int .i64 m.a, .int .i64 m.p, .int .i64 m.nu, .bool m.nt, .int .i64 m.st, .int .i64 m.lf, .bool m.un] ∧ Box V (xb + 1) #[.string ⟨#[]⟩, .slice none 0 0, .bool false, .int .i64 0, .int .i64 0, .int .i64 0, .bool false, .int .i64 0, .int .i64 0, .bool false]) := by rw [← hxb]; exact ⟨bx, by_⟩
  have hd := rown_any m V (hb.below bv) hm
  have cx := HX.out.1.cell
  clear bv bx by_ hb hm
  go_enter Tryz.func69, Tryz.ntmps69
  go_wp2_with fail
  clear hV
  refine hd.mono ?_
  rintro _ w1 ⟨a1, c1, rfl, r1, b1⟩
  have HE : Hid (∀ W', Off (fun q => q = xb ∨ q = xb + 1) w1 W' → BRow W' w.heap.size (.slice a1 m.tn c1) m.tx ∧ Below w.heap.size w W') := fun W' ho => by
    have hz := HZ.out
    have hxx := HXB.out
    exact ⟨ERow.base (ERow.off r1 ho fun g hg h => by have := (ERow.lt r1 hg).1; omega) (by omega), (below_then HB0.out b1).trans (ho.below (Nat.le_trans HB0.out.size b1.size) fun k hk => by omega)⟩
  have kx := (HX.out.1.below b1).cell
  have fx := (HX.out.1.below b1).free
  have ky := (HX.out.2.below b1).cell
  have fy := (HX.out.2.below b1).free
  clear hd r1 b1 cx HX HB0
  go_wp2_with fail
  refine bodyPost_ret ?_ rfl ⟨a1, c1, rfl, HE.out _ ?_⟩
  · simp [results, Tryz.results69, go_sem, ky]
  · (repeat' (first | (with_reducible exact Off.refl _ _) | refine Off.setCell ?_ (by first | exact Or.inl rfl | exact Or.inr rfl) _))
end Go.Proofs.YtoijhecphgdfnaaGreatDoor

/-
  The document's box: Next, Get, All, Give.
-/
namespace Go.Proofs.YtoijhecphgdfnaaGreatDoor
open Go.RowKit

section
variable {w w' : World} {B r : Nat} {L : Value} {sq : Bool} {tr : Int} {ms : List Msg}
/-- A message told: an Out. -/
def OtQ (w : World) (m : Msg) (is : Bool) (e : Ending) (w' : World) : Prop := ∃ a c, e = .returned (.tuple #[.agg #[.string m.ct, .slice a m.tn c, .bool m.e, .int .i64 m.a, .int .i64 m.p, .int .i64 m.nu, .bool m.nt], .bool is]) ∧ Hid (BRow w' w.heap.size (.slice a m.tn c) m.tx ∧ Below w.heap.size w w')
/-- A message told: a Sent, and a number. -/
def StQ2 (w : World) (m : Msg) (cd : Int) (e : Ending) (w' : World) : Prop := ∃ a c, e = .returned (.tuple #[.agg #[.string m.ct, .slice a m.tn c, .bool m.e, .int .i64 m.a, .int .i64 m.p, .int .i64 m.nu, .bool m.nt, .int .i64 m.st, .int .i64 m.lf, .bool m.un], .int .i64 cd]) ∧ Hid (BRow w' w.heap.size (.slice a m.tn c) m.tx ∧ Below w.heap.size w w')
set_option maxRecDepth 100000 in
set_option maxHeartbeats 4000000 in
theorem rNext_none (h : RB w B r L sq tr ms) (hn : nxI sq ms = none) : Calls Tryz.prog 19 #[.pointer (some ⟨r, 0, none⟩)] w (OtQ w zM false) := by
  have bv : Below w.heap.size w (w.alloc (.cells #[.string ⟨#[]⟩, .slice none 0 0, .bool false, .int .i64 0, .int .i64 0, .int .i64 0, .bool false] 58)) := (Below.refl _ _).alloc (Nat.le_refl _) _
  have bx := Box.new w #[.string ⟨#[]⟩, .slice none 0 0, .bool false, .int .i64 0, .int .i64 0, .int .i64 0, .bool false] 58
  have hx := rnext_any (h.below bv)
  have e1 : nxZ sq ms = -1 := by unfold nxZ; rw [hn]
  rw [e1] at hx
  have HB : Hid (Below w.heap.size w (w.alloc (.cells #[.string ⟨#[]⟩, .slice none 0 0, .bool false, .int .i64 0, .int .i64 0, .int .i64 0, .bool false] 58))) := bv
  have cx := bx.cell
  have fx := bx.free
  clear h hn bv e1
  go_enter Tryz.func19, Tryz.ntmps19
  go_wp2_with (go_at_call 56; refine hx.mono ?_; rintro _ w9 ⟨rfl, h9⟩; subst w9)
  refine bodyPost_ret ?_ rfl ⟨none, 0, rfl, ERow.nil _ _ _ _ _, ?_⟩
  · simp [results, Tryz.results19, go_sem, cx, zM]
  · repeat' (first | (with_reducible exact HB.out) | (with_reducible refine Below.setCell ?_ (by exact Nat.le_refl _) _) | (with_reducible refine Below.alloc ?_ (by simp; omega) _))
set_option maxRecDepth 100000 in
set_option maxHeartbeats 4000000 in
theorem rNext_some (h : RB w B r L sq tr ms) {i : Nat} {m : Msg} (hn : nxI sq ms = some i) (hm : ms[i]? = some m) : Calls Tryz.prog 19 #[.pointer (some ⟨r, 0, none⟩)] w (OtQ w m true) := by
  have bv : Below w.heap.size w (w.alloc (.cells #[.string ⟨#[]⟩, .slice none 0 0, .bool false, .int .i64 0, .int .i64 0, .int .i64 0, .bool false] 58)) := (Below.refl _ _).alloc (Nat.le_refl _) _
  have bx := Box.new w #[.string ⟨#[]⟩, .slice none 0 0, .bool false, .int .i64 0, .int .i64 0, .int .i64 0, .bool false] 58
  obtain ⟨V, hV⟩ : ∃ V, w.alloc (.cells #[.string ⟨#[]⟩, .slice none 0 0, .bool false, .int .i64 0, .int .i64 0, .int .i64 0, .bool false] 58) = V := ⟨_, rfl⟩
  rw [hV] at bv bx
  have h1 := h.below bv
  have hx : ∀ z, Below V.heap.size V z → Calls Tryz.prog 56 #[.pointer (some ⟨r, 0, none⟩)] z fun e w' => e = .returned (.int .i64 (i : Int)) ∧ w' = z := fun z hz => by
    have := rnext_any (h1.below hz)
    rw [show nxZ sq ms = (i : Int) by unfold nxZ; rw [hn]] at this
    exact this
  have HX : Hid (∀ z, Below V.heap.size V z → Calls Tryz.prog 56 #[.pointer (some ⟨r, 0, none⟩)] z fun e w' => e = .returned (.int .i64 (i : Int)) ∧ w' = z) := hx
  have hx0 := hx V (Below.refl _ _)
  obtain ⟨a, c, e1, _⟩ := ERow.isSlice h1.row
  subst e1
  obtain ⟨n, hnn⟩ : ∃ n, ms.length = n := ⟨_, rfl⟩
  have c0 := hcell h1.blk 0
  have hi : i < n := by rw [← hnn]; exact (List.getElem?_eq_some_iff.1 hm).1
  rw [hnn] at c0
  have hi1 : (i : Int) < n := by omega
  have hn32 : (n : Int) ≤ 1000 := by have := h.len; omega
  obtain ⟨g, rfl, hg, hc⟩ := erow_cells h1.row hm
  obtain ⟨d0, d1, d2, d3, d4, d5, d6, _, _, _⟩ := hc
  obtain ⟨xb, hxb⟩ : ∃ xb, w.heap.size = xb := ⟨_, rfl⟩
  have HB : Hid (Below w.heap.size w V ∧ w.heap.size = xb ∧ xb < V.heap.size) := ⟨bv, hxb, by rw [← hxb]; exact bx.lt⟩
  rw [hxb] at bx
  have lr := h1.lt
  have HTW : Hid (∀ z, Below V.heap.size V z → Calls Tryz.prog 50 #[.agg #[.string m.ct, .slice m.tp m.tn m.tc, .bool m.e, .int .i64 m.a, .int .i64 m.p, .int .i64 m.nu, .bool m.nt]] z fun e z' => ∃ a c, e = .returned (.agg #[.string m.ct, .slice a m.tn c, .bool m.e, .int .i64 m.a, .int .i64 m.p, .int .i64 m.nu, .bool m.nt]) ∧ Hid (BRow z' V.heap.size (.slice a m.tn c) m.tx) ∧ Hid (Below V.heap.size V z') ∧ Box z' xb #[.string ⟨#[]⟩, .slice none 0 0, .bool false, .int .i64 0, .int .i64 0, .int .i64 0, .bool false]) := fun z hz =>
    (rown_any m z ((h1.own m (List.mem_of_getElem? hm)).1.byts.below hz) (by have := (h1.own m (List.mem_of_getElem? hm)).2; omega)).mono fun e z' ⟨a, c, e1, e2, e3⟩ => ⟨a, c, e1, ERow.base e2 hz.size, below_then hz e3, bx.below (below_then hz e3)⟩
  have HE : Hid (∀ w1 W' a1 c1, Below V.heap.size V w1 → BRow w1 V.heap.size (.slice a1 m.tn c1) m.tx → Off (fun q => q = xb) w1 W' → BRow W' w.heap.size (.slice a1 m.tn c1) m.tx ∧ Below w.heap.size w W') := fun w1 W' a1 c1 hb ho ho' => by
    obtain ⟨q1, q2, q3⟩ := HB.out
    exact ⟨ERow.base (ERow.off ho ho' fun q hq e => by have := (ERow.lt ho hq).1; omega) q1.size, (below_then q1 hb).trans (ho'.below (Nat.le_trans q1.size hb.size) fun k hk => by omega)⟩
  clear bv h h1 hn hm hnn bx HB hx
  go_enter Tryz.func19, Tryz.ntmps19
  go_wp2_with (go_at_call 56; refine hx0.mono ?_; rintro _ w9 ⟨rfl, h9⟩; subst w9)
  clear hV hx0
  go_region_law (first | (go_simp; go_at_call 56; refine (HX.out _ ?_).mono ?_; (repeat' (first | exact Below.refl _ _ | refine Below.drew ?_)); rintro _ w9 ⟨rfl, h9⟩; subst w9) | (go_simp; go_at_call 50; refine (HTW.out _ ?_).mono ?_; (repeat' (first | exact Below.refl _ _ | refine Below.drew ?_)); rintro _ w1 ⟨a1, c1, rfl, ho1, hb1, bx1⟩; have s0 : w1.cell? ⟨xb, 0, none⟩ = some (.string ⟨#[]⟩) := bx1.cell 0; have f0 : w1.frozen? ⟨xb, 0, none⟩ = false := bx1.free 0; have s1 : w1.cell? ⟨xb, 1, none⟩ = some (.slice none 0 0) := bx1.cell 1; have f1 : w1.frozen? ⟨xb, 1, none⟩ = false := bx1.free 1; have s2 : w1.cell? ⟨xb, 2, none⟩ = some (.bool false) := bx1.cell 2; have f2 : w1.frozen? ⟨xb, 2, none⟩ = false := bx1.free 2; have s3 : w1.cell? ⟨xb, 3, none⟩ = some (.int .i64 0) := bx1.cell 3; have f3 : w1.frozen? ⟨xb, 3, none⟩ = false := bx1.free 3; have s4 : w1.cell? ⟨xb, 4, none⟩ = some (.int .i64 0) := bx1.cell 4; have f4 : w1.frozen? ⟨xb, 4, none⟩ = false := bx1.free 4; have s5 : w1.cell? ⟨xb, 5, none⟩ = some (.int .i64 0) := bx1.cell 5; have f5 : w1.frozen? ⟨xb, 5, none⟩ = false := bx1.free 5; have s6 : w1.cell? ⟨xb, 6, none⟩ = some (.bool false) := bx1.cell 6; have f6 : w1.frozen? ⟨xb, 6, none⟩ = false := bx1.free 6))
  all_goals
    go_wp2_with fail
    refine bodyPost_ret ?_ rfl ⟨a1, c1, rfl, HE.out _ _ _ _ hb1.out ho1.out ?_⟩
    · simp [results, Tryz.results19, go_sem, s0, s1, s2, s3, s4, s5, s6]
    · (repeat' (first | (with_reducible exact Off.refl _ _) | (with_reducible exact Hid.out (by assumption)) | (with_reducible refine Off.drew ?_) | refine Off.setCell (P := fun q => q = xb) ?_ (by exact rfl) _))
end
end Go.Proofs.YtoijhecphgdfnaaGreatDoor

/-
  The document's box: Get, Give.
-/
namespace Go.Proofs.YtoijhecphgdfnaaGreatDoor
open Go.RowKit

section
variable {w w' : World} {B r : Nat} {L : Value} {sq : Bool} {tr : Int} {ms : List Msg}
set_option maxRecDepth 100000 in
set_option maxHeartbeats 4000000 in
theorem rGet_none (h : RB w B r L sq tr ms) (s : ByteArray) (hn : fi s ms = none) : Calls Tryz.prog 32 #[.pointer (some ⟨r, 0, none⟩), .string s] w (StQ2 w zM 11) := by
  have bv : Below w.heap.size w (w.alloc (.cells #[.string ⟨#[]⟩, .slice none 0 0, .bool false, .int .i64 0, .int .i64 0, .int .i64 0, .bool false, .int .i64 0, .int .i64 0, .bool false] 91)) := (Below.refl _ _).alloc (Nat.le_refl _) _
  have bx := Box.new w #[.string ⟨#[]⟩, .slice none 0 0, .bool false, .int .i64 0, .int .i64 0, .int .i64 0, .bool false, .int .i64 0, .int .i64 0, .bool false] 91
  have hx := rfind_any (h.below bv) s
  have e1 : fiI s ms = -1 := by unfold fiI; rw [hn]
  rw [e1] at hx
  have HB : Hid (Below w.heap.size w (w.alloc (.cells #[.string ⟨#[]⟩, .slice none 0 0, .bool false, .int .i64 0, .int .i64 0, .int .i64 0, .bool false, .int .i64 0, .int .i64 0, .bool false] 91))) := bv
  have cx := bx.cell
  have fx := bx.free
  clear h hn bv e1
  go_enter Tryz.func32, Tryz.ntmps32
  go_wp2_with (go_at_call 47; refine hx.mono ?_; rintro _ w9 ⟨rfl, h9⟩; subst w9)
  refine bodyPost_ret ?_ rfl ⟨none, 0, rfl, ERow.nil _ _ _ _ _, ?_⟩
  · simp [results, Tryz.results32, go_sem, cx, zM]
  · repeat' (first | (with_reducible exact HB.out) | (with_reducible refine Below.setCell ?_ (by exact Nat.le_refl _) _) | (with_reducible refine Below.alloc ?_ (by simp; omega) _))
set_option maxRecDepth 100000 in
set_option maxHeartbeats 4000000 in
theorem rGet_some (h : RB w B r L sq tr ms) (s : ByteArray) {i : Nat} {m : Msg} (hn : fi s ms = some i) (hm : ms[i]? = some m) : Calls Tryz.prog 32 #[.pointer (some ⟨r, 0, none⟩), .string s] w (StQ2 w m 0) := by
  have bv : Below w.heap.size w (w.alloc (.cells #[.string ⟨#[]⟩, .slice none 0 0, .bool false, .int .i64 0, .int .i64 0, .int .i64 0, .bool false, .int .i64 0, .int .i64 0, .bool false] 91)) := (Below.refl _ _).alloc (Nat.le_refl _) _
  have bx := Box.new w #[.string ⟨#[]⟩, .slice none 0 0, .bool false, .int .i64 0, .int .i64 0, .int .i64 0, .bool false, .int .i64 0, .int .i64 0, .bool false] 91
  obtain ⟨V, hV⟩ : ∃ V, w.alloc (.cells #[.string ⟨#[]⟩, .slice none 0 0, .bool false, .int .i64 0, .int .i64 0, .int .i64 0, .bool false, .int .i64 0, .int .i64 0, .bool false] 91) = V := ⟨_, rfl⟩
  rw [hV] at bv bx
  have h1 := h.below bv
  have hx := rfind_any h1 s
  rw [show fiI s ms = (i : Int) by unfold fiI; rw [hn]] at hx
  obtain ⟨a, c, e1, _⟩ := ERow.isSlice h1.row
  subst e1
  obtain ⟨n, hnn⟩ : ∃ n, ms.length = n := ⟨_, rfl⟩
  have c0 := hcell h1.blk 0
  have hi : i < n := by rw [← hnn]; exact (List.getElem?_eq_some_iff.1 hm).1
  rw [hnn] at c0
  have hi1 : (i : Int) < n := by omega
  have hn32 : (n : Int) ≤ 1000 := by have := h.len; omega
  obtain ⟨g, rfl, hg, hc⟩ := erow_cells h1.row hm
  obtain ⟨d0, d1, d2, d3, d4, d5, d6, d7, d8, d9⟩ := hc
  obtain ⟨xb, hxb⟩ : ∃ xb, w.heap.size = xb := ⟨_, rfl⟩
  have HB : Hid (Below w.heap.size w V ∧ w.heap.size = xb ∧ xb < V.heap.size) := ⟨bv, hxb, by rw [← hxb]; exact bx.lt⟩
  rw [hxb] at bx
  have HX : Hid (Box V xb #[.string ⟨#[]⟩, .slice none 0 0, .bool false, .int .i64 0, .int .i64 0, .int .i64 0, .bool false, .int .i64 0, .int .i64 0, .bool false]) := bx
  have lr := h1.lt
  have hd := rownSent_any m V (h1.own m (List.mem_of_getElem? hm)).1.byts (by have := (h1.own m (List.mem_of_getElem? hm)).2; omega)
  clear bv h h1 hn hm hnn bx
  go_enter Tryz.func32, Tryz.ntmps32
  go_wp2_with (go_at_call 47; refine hx.mono ?_; rintro _ w9 ⟨rfl, h9⟩; subst w9)
  clear hV hx
  refine hd.mono ?_
  rintro _ w1 ⟨a1, c1, rfl, ho, hb⟩
  have hx1 := HX.out.below hb
  have cx1 := hx1.cell
  have fx1 := hx1.free
  have HE : Hid (∀ W', Off (fun q => q = xb) w1 W' → BRow W' w.heap.size (.slice a1 m.tn c1) m.tx ∧ Below w.heap.size w W') := fun W' ho' => by
    obtain ⟨q1, q2, q3⟩ := HB.out
    exact ⟨ERow.base (ERow.off ho ho' fun q hq e => by have := (ERow.lt ho hq).1; omega) q1.size, (below_then q1 hb).trans (ho'.below (Nat.le_trans q1.size hb.size) fun k hk => by omega)⟩
  clear hd ho hb hx1 d0 d1 d2 d3 d4 d5 d6 d7 d8 d9 c0 HX
  go_wp2_with fail
  refine bodyPost_ret ?_ rfl ⟨a1, c1, rfl, HE.out _ ?_⟩
  · simp [results, Tryz.results32, go_sem, cx1]
  · (repeat' (first | (with_reducible exact Off.refl _ _) | refine Off.setCell (P := fun q => q = xb) ?_ (by exact rfl) _))
/-- Why Give refuses. -/
def givC (sq : Bool) (ms : List Msg) (n : Int) : Int := if sq = false ∨ nxI sq ms = none then 281 else if nmB n = false then 282 else 0
def GvQ (w : World) (B r : Nat) (L : Value) (sq : Bool) (tr : Int) (ms : List Msg) (x : Int) (e : Ending) (w' : World) : Prop := e = .returned (.int .i64 (givC sq ms x)) ∧ Hid ((givC sq ms x ≠ 0 ∧ w' = w) ∨ (givC sq ms x = 0 ∧ ∃ m, ms[0]? = some m ∧ nxI sq ms = some 0 ∧ RBQ w B r L sq tr (ms.set 0 { m with nu := x }) w'))
set_option maxRecDepth 100000 in
set_option maxHeartbeats 4000000 in
theorem rGive_any (h : RB w B r L sq tr ms) (x : Int) : Calls Tryz.prog 22 #[.pointer (some ⟨r, 0, none⟩), .int .i64 x] w (GvQ w B r L sq tr ms x) := by
  obtain ⟨a, c, e1, _⟩ := ERow.isSlice h.row
  subst e1
  have c0 := hcell h.blk 0
  have c1 := hcell h.blk 1
  have lr := h.lt
  cases sq with
  | false =>
    have E0 : Hid (givC false ms x = 281) := by unfold Hid; unfold givC; rw [if_pos (Or.inl rfl)]
    clear h
    go_enter Tryz.func22, Tryz.ntmps22
    go_wp2_with fail
    go_ret
    exact ⟨by rw [E0.out]; rfl, Or.inl ⟨by rw [E0.out]; decide, rfl⟩⟩
  | true =>
    cases ms with
    | nil =>
      have E0 : Hid (givC true [] x = 281) := by unfold Hid; unfold givC; exact if_pos (Or.inr rfl)
      clear h
      go_enter Tryz.func22, Tryz.ntmps22
      go_wp2_with fail
      go_ret
      exact ⟨by rw [E0.out]; rfl, Or.inl ⟨by rw [E0.out]; decide, rfl⟩⟩
    | cons m l =>
      obtain ⟨n, hn⟩ : ∃ n, (m :: l).length = n + 1 := ⟨l.length, rfl⟩
      rw [hn] at c0
      have hn0 : (((n + 1 : Nat) : Int) == 0) = false := by rw [beq_eq_false_iff_ne]; omega
      have hp : (0 : Int) < ((n + 1 : Nat) : Int) := by omega
      obtain ⟨k, hk⟩ : ∃ k, n + 1 = k := ⟨_, rfl⟩
      have hrow := h.row
      rw [hn] at hrow
      rw [hk] at c0 hn0 hp hrow
      obtain ⟨g, rfl, hg, hc⟩ := erow_cells hrow (j := 0) (m := m) rfl
      have d9 := hc.c9
      have d5 := hc.c5
      simp only [Nat.zero_mul, Nat.zero_add] at d9 d5
      obtain ⟨cs, hgc⟩ := msrow_type hrow (g := g) rfl
      have f5 := hfroz hgc 5
      have HH : Hid (RB w B r (.slice (some ⟨g, 0, none⟩) k c) true tr (m :: l)) := by have := h; rw [hn, hk] at this; exact this
      rw [hn, hk]
      clear h hn hk hrow hc hgc
      cases hu : m.un with
      | true =>
        have E0 : Hid (givC true (m :: l) x = 281) := by unfold Hid; unfold givC; rw [if_pos (Or.inr (by unfold nxI; rw [hu]; rfl))]
        rw [hu] at d9
        clear HH
        go_enter Tryz.func22, Tryz.ntmps22
        go_wp2_with fail
        go_ret
        exact ⟨by rw [E0.out]; rfl, Or.inl ⟨by rw [E0.out]; decide, rfl⟩⟩
      | false =>
        rw [hu] at d9
        have hx : nxI true (m :: l) = some 0 := by unfold nxI; rw [hu]; rfl
        by_cases h1 : x < 1
        · have E0 : Hid (givC true (m :: l) x = 282) := by unfold Hid; unfold givC nmB; rw [hx, if_neg (by simp), if_pos (by rw [decide_eq_false (by omega)]; rfl)]
          clear HH hx
          go_enter Tryz.func22, Tryz.ntmps22
          go_wp2_with fail
          go_ret
          exact ⟨by rw [E0.out]; rfl, Or.inl ⟨by rw [E0.out]; decide, rfl⟩⟩
        by_cases h2 : x > 2147483647
        · have E0 : Hid (givC true (m :: l) x = 282) := by unfold Hid; unfold givC nmB; rw [hx, if_neg (by simp), if_pos (by rw [decide_eq_false (show ¬ x ≤ 2147483647 by omega)]; simp)]
          clear HH hx
          go_enter Tryz.func22, Tryz.ntmps22
          go_wp2_with fail
          go_ret
          exact ⟨by rw [E0.out]; rfl, Or.inl ⟨by rw [E0.out]; decide, rfl⟩⟩
        have E0 : Hid (givC true (m :: l) x = 0) := by unfold Hid; unfold givC nmB; rw [hx, if_neg (by simp), if_neg (by rw [decide_eq_true (show 1 ≤ x by omega), decide_eq_true (show x ≤ 2147483647 by omega)]; decide)]
        have HZ : Hid (∃ m', (m :: l)[0]? = some m' ∧ nxI true (m :: l) = some 0 ∧ RBQ w B r (.slice (some ⟨g, 0, none⟩) k c) true tr ((m :: l).set 0 { m' with nu := x }) (w.setCell ⟨g, 5, none⟩ (.int .i64 x))) := by
          refine ⟨m, rfl, hx, _, ?_, Off.setCell (P := fun q => q = r ∨ (Value.slice (some ⟨g, 0, none⟩) k c).ownBlock = some q) (Off.refl _ _) (p := ⟨g, 5, none⟩) (Or.inr rfl) _, fun q e => Or.inl e⟩
          have := HH.out.set (i := 0) (q := 5) (u := .int .i64 x) (m := m) (m' := { m with nu := x }) rfl (by decide) rfl ⟨rfl, rfl, rfl, rfl⟩
          simpa using this
        clear HH hx
        go_enter Tryz.func22, Tryz.ntmps22
        go_wp2_with fail
        go_ret
        exact ⟨by rw [E0.out]; rfl, Or.inr ⟨E0.out, HZ.out⟩⟩
end
end Go.Proofs.YtoijhecphgdfnaaGreatDoor

/-
  The law's 'sameList': two lists of copies of the same messages.
-/
namespace Go.Proofs.YtoijhecphgdfnaaGreatDoor
open Go.RowKit

set_option maxRecDepth 100000 in
set_option maxHeartbeats 4000000 in
theorem sameList_true {w : World} {B B' n c c' : Nat} {a a' : Option Addr} {ls ls' ms : List Msg} (h1 : ERow w B 91 10 encM (.slice a n c) ls) (h2 : ERow w B' 91 10 encM (.slice a' n c') ls') (k1 : Cps w ls ms) (k2 : Cps w ls' ms) (hm : ∀ m ∈ ms, m.tn ≤ 8192) :
    Calls Tryz.prog 37 #[.slice a n c, .slice a' n c'] w fun e w' => e = .returned (.bool true) ∧ Below w.heap.size w w' := by
  have hn : n = ms.length := by rw [ERow.len h1, k1.1]
  have hx : n ≤ 9223372036854775807 := by
    rcases ERow.form h1 with ⟨_, e⟩ | ⟨g, cap, _, _, _, h3, h4⟩
    · have := k1.1; rw [e] at this; simp at this; omega
    · have := k1.1; unfold maxLen at h4; omega
  have HN : Hid (ms.length = n) := hn.symm
  have HH : Hid (ERow w B 91 10 encM (.slice a n c) ls ∧ ERow w B' 91 10 encM (.slice a' n c') ls' ∧ Cps w ls ms ∧ Cps w ls' ms ∧ ∀ m ∈ ms, m.tn ≤ 8192) := ⟨h1, h2, k1, k2, hm⟩
  clear hn h1 h2 k1 k2 hm
  go_enter Tryz.func37, Tryz.ntmps37
  go_wp2_with fail
  go_loopw [5] (fun ti wx => ∃ j : Nat, j ≤ n ∧ ti = .int .i64 j ∧ Hid (Below w.heap.size w wx)) (fun ti _ => n - (intOf ti).toNat)
  case atStart => exact ⟨0, Nat.zero_le _, rfl, Below.refl _ _⟩
  case round =>
    obtain ⟨j, hj, rfl, HB⟩ := hrel
    by_cases hlt : j < n
    · have hlt1 : (j : Int) < n := by omega
      obtain ⟨m, hm⟩ : ∃ m, ms[j]? = some m := ⟨_, List.getElem?_eq_getElem (by rw [HN.out]; exact hlt)⟩
      obtain ⟨l, hl⟩ : ∃ l, ls[j]? = some l := ⟨_, List.getElem?_eq_getElem (by rw [HH.out.2.2.1.1, HN.out]; exact hlt)⟩
      obtain ⟨l', hl'⟩ : ∃ l, ls'[j]? = some l := ⟨_, List.getElem?_eq_getElem (by rw [HH.out.2.2.2.1.1, HN.out]; exact hlt)⟩
      obtain ⟨⟨a1, c1, rfl⟩, t1⟩ := HH.out.2.2.1.2 j l m hl hm
      obtain ⟨⟨a2, c2, rfl⟩, t2⟩ := HH.out.2.2.2.1.2 j l' m hl' hm
      have hmt := HH.out.2.2.2.2 m (List.mem_of_getElem? hm)
      obtain ⟨g, rfl, _, hc⟩ := ERow.at_ encM_len (ERow.below HH.out.1 HB.out) hl
      obtain ⟨g', rfl, _, hc'⟩ := ERow.at_ encM_len (ERow.below HH.out.2.1 HB.out) hl'
      have p0 := hc 0 (by decide)
      have p1 := hc 1 (by decide)
      have p2 := hc 2 (by decide)
      have p3 := hc 3 (by decide)
      have p4 := hc 4 (by decide)
      have p5 := hc 5 (by decide)
      have p6 := hc 6 (by decide)
      have p7 := hc 7 (by decide)
      have p8 := hc 8 (by decide)
      have p9 := hc 9 (by decide)
      have q0 := hc' 0 (by decide)
      have q1 := hc' 1 (by decide)
      have q2 := hc' 2 (by decide)
      have q3 := hc' 3 (by decide)
      have q4 := hc' 4 (by decide)
      have q5 := hc' 5 (by decide)
      have q6 := hc' 6 (by decide)
      have q7 := hc' 7 (by decide)
      have q8 := hc' 8 (by decide)
      have q9 := hc' 9 (by decide)
      simp [encM] at p0 p1 p2 p3 p4 p5 p6 p7 p8 p9 q0 q1 q2 q3 q4 q5 q6 q7 q8 q9
      have HS : Hid (∀ z, Below wr.heap.size wr z → Calls Tryz.prog 33 #[.agg #[.string m.ct, .slice a1 m.tn c1, .bool m.e, .int .i64 m.a, .int .i64 m.p, .int .i64 m.nu, .bool m.nt, .int .i64 m.st, .int .i64 m.lf, .bool m.un], .agg #[.string m.ct, .slice a2 m.tn c2, .bool m.e, .int .i64 m.a, .int .i64 m.p, .int .i64 m.nu, .bool m.nt, .int .i64 m.st, .int .i64 m.lf, .bool m.un]] z fun e w' => e = .returned (.bool true) ∧ Hid (Below w.heap.size w w')) := fun z hz =>
        (sameSent_true m (BRow.byts (ERow.below (ERow.below t1 HB.out) hz)) (BRow.byts (ERow.below (ERow.below t2 HB.out) hz)) (by omega)).mono fun e w' ⟨he, hb⟩ => ⟨he, below_then (below_then HB.out hz) hb⟩
      clear hc hc' t1 t2 hl hl' hm hmt HH HB
      go_upto_region 6 with fail
      go_cut [26] from 11 to 26 (fun t26 wx => t26 = .bool false ∧ Hid (Below w.heap.size w wx))
      case first =>
        go_region_law (go_simp; go_at_call 33; refine (HS.out _ ?_).mono ?_; (first | exact Below.refl _ _ | exact Below.drew (Below.refl _ _)); rintro _ w2 ⟨rfl, hb2⟩)
        all_goals
          go_wp2_with fail
          go_meet
          exact ⟨rfl, hb2⟩
      case rest =>
        obtain ⟨rfl, HX⟩ := hcut
        clear HS
        go_wp2_with fail
        go_roundw
        case rel => exact ⟨j + 1, hlt, by go_num, HX⟩
        case measure => simp [intOf]; omega
    · have hlt1 : ¬ (j : Int) < n := by omega
      go_wp2_with fail
      go_ret
      exact ⟨rfl, HB.out⟩
end Go.Proofs.YtoijhecphgdfnaaGreatDoor
