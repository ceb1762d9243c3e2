/-
  Find, Last, List, Count, Open.
-/
import Derived.Test.YtplhdgijjckjcaaGreatDoorIbBx
namespace Go.Proofs.YtplhdgijjckjcaaGreatDoor
open Go.RowKit

/-- An entry handed out: a copy of m. -/
def EnQ (w : World) (m : Ent) (t : Bool) (r : Ending) (w' : World) : Prop := ∃ a c a' c' a'' c'', r = .returned (.tuple #[.agg #[.string m.ct, .slice a m.tn c, .int .i64 m.nu, .int .i64 m.tk, .slice a' m.cn c', .string m.cd, .slice a'' m.an c''], .bool t]) ∧ Own w' w.heap.size (m.wi a c a' c' a'' c'') ∧ Below w.heap.size w w'
theorem zE_own (w : World) (B : Nat) : Own w B zE := ⟨ERow.nil _ _ _ _ _, ERow.nil _ _ _ _ _, ERow.nil _ _ _ _ _⟩
theorem lie_zero (w : World) : Lie w zE := ⟨Lies.zero w, by decide, by decide, by decide⟩
section
variable {w w' : World} {B b sb M : Nat} {v : Value} {K R : Int} {es : List Ent}
set_option maxRecDepth 100000 in
set_option maxHeartbeats 2000000 in
theorem find_no (h : Bx w B b sb M v K R es) {s : ByteArray} (hk : KeyS s) (hf : fi s es = none) : Calls Tryz.prog 32 #[.pointer (some ⟨b, 0, none⟩), .string s] w (EnQ w zE false) := by
  have bv : Below w.heap.size w (w.alloc (.cells #[.string ⟨#[]⟩, .slice none 0 0, .int .i64 0, .int .i64 0, .slice none 0 0, .string ⟨#[]⟩, .slice none 0 0] 29)) := (Below.refl _ _).alloc (Nat.le_refl _) _
  have bx := Box.new w #[.string ⟨#[]⟩, .slice none 0 0, .int .i64 0, .int .i64 0, .slice none 0 0, .string ⟨#[]⟩, .slice none 0 0] 29
  obtain ⟨V, hV⟩ : ∃ V, w.alloc (.cells #[.string ⟨#[]⟩, .slice none 0 0, .int .i64 0, .int .i64 0, .slice none 0 0, .string ⟨#[]⟩, .slice none 0 0] 29) = V := ⟨_, rfl⟩
  rw [hV] at bv bx
  have h1 := h.below bv
  have hmk := made_yes h1
  have c0 := hcell h1.blk 0
  have k3 := h1.sh.cells.2.2.2.1
  have hlk := h1.sh.map.look_no hk hf
  have cx := bx.cell
  have fx := bx.free
  have HB : Hid (Below w.heap.size w V) := bv
  clear bv h h1 hf hk bx
  go_enter Tryz.func32, Tryz.ntmps32
  go_wp2_with (go_at_call 51; refine hmk.mono ?_; rintro _ w9 ⟨rfl, h9⟩; subst w9)
  clear hV
  refine bodyPost_ret ?_ rfl ⟨none, 0, none, 0, none, 0, rfl, zE_own _ _, ?_⟩
  · simp [results, Tryz.results32, go_sem, cx, zE]
  · repeat' (first | (with_reducible exact HB.out) | (with_reducible refine Below.setCell ?_ (by exact Nat.le_refl _) _) | (with_reducible refine Below.alloc ?_ (by simp; omega) _))
set_option maxRecDepth 100000 in
set_option maxHeartbeats 2000000 in
theorem find_yes (h : Bx w B b sb M v K R es) {s : ByteArray} {i : Nat} {m : Ent} (hk : KeyS s) (hf : fi s es = some i) (hm : es[i]? = some m) : Calls Tryz.prog 32 #[.pointer (some ⟨b, 0, none⟩), .string s] w (EnQ w m true) := by
  have bv : Below w.heap.size w (w.alloc (.cells #[.string ⟨#[]⟩, .slice none 0 0, .int .i64 0, .int .i64 0, .slice none 0 0, .string ⟨#[]⟩, .slice none 0 0] 29)) := (Below.refl _ _).alloc (Nat.le_refl _) _
  have bx := Box.new w #[.string ⟨#[]⟩, .slice none 0 0, .int .i64 0, .int .i64 0, .slice none 0 0, .string ⟨#[]⟩, .slice none 0 0] 29
  obtain ⟨V, hV⟩ : ∃ V, w.alloc (.cells #[.string ⟨#[]⟩, .slice none 0 0, .int .i64 0, .int .i64 0, .slice none 0 0, .string ⟨#[]⟩, .slice none 0 0] 29) = V := ⟨_, rfl⟩
  rw [hV] at bv bx
  have h1 := h.below bv
  have hmk := made_yes h1
  have c0 := hcell h1.blk 0
  have k3 := h1.sh.cells.2.2.2.1
  have k2 := h1.sh.cells.2.2.1
  have hlk := h1.sh.map.look_yes hk hf
  obtain ⟨a, c, hv, _⟩ := h1.sh.row.isSlice
  have hil := (List.getElem?_eq_some_iff.1 hm).1
  obtain ⟨n, hn⟩ : ∃ n, es.length = n := ⟨_, rfl⟩
  have hrow := h1.sh.row
  rw [hv, hn] at hrow k2
  rw [hn] at hil
  obtain ⟨g, rfl, hg, hc⟩ := nrow_cells hrow hm
  obtain ⟨d0, d1, d2, d3, d4, d5, d6⟩ := hc
  have hl := h1.lie m (List.mem_of_getElem? hm)
  have hcp := copied_any m V hl.1 hl.2.1 hl.2.2.1 hl.2.2.2
  have q1 : (i : Int) < n := by omega
  have cx := bx.cell
  have fx := bx.free
  have lx := bx.lt
  have HX : Hid (Box V w.heap.size #[.string ⟨#[]⟩, .slice none 0 0, .int .i64 0, .int .i64 0, .slice none 0 0, .string ⟨#[]⟩, .slice none 0 0]) := bx
  have HB : Hid (Below w.heap.size w V) := bv
  clear bv h h1 hf hk bx hv hrow hn hm hl
  go_enter Tryz.func32, Tryz.ntmps32
  go_wp2_with (go_at_call 51; refine hmk.mono ?_; rintro _ w9 ⟨rfl, h9⟩; subst w9)
  clear hV
  refine hcp.mono ?_
  rintro _ w1 ⟨a1, c1, a2, c2, a3, c3, rfl, ho, hb⟩
  have hx1 := HX.out.below hb
  have cx1 := hx1.cell
  have fx1 := hx1.free
  have HE : Hid (∀ W', Off (fun q => q = w.heap.size) w1 W' → Own W' w.heap.size (m.wi a1 c1 a2 c2 a3 c3) ∧ Below w.heap.size w W') := fun W' ho' => by
    refine ⟨(ho.off ho' fun q hq e => by omega).base HB.out.size, (below_then HB.out hb).trans (ho'.below (Nat.le_trans HB.out.size hb.size) fun k hk => by omega)⟩
  clear hcp ho hb hx1 cx fx d0 d1 d2 d3 d4 d5 d6 c0 k2 k3 hlk hmk
  go_wp2_with fail
  refine bodyPost_ret ?_ rfl ⟨a1, c1, a2, c2, a3, c3, rfl, HE.out _ ?_⟩
  · simp [results, Tryz.results32, go_sem, cx1]
  · iterate 7 (refine Off.setCell ?_ (by exact rfl) _)
    exact Off.refl _ _
set_option maxRecDepth 100000 in
set_option maxHeartbeats 2000000 in
theorem blast_any (h : Bx w B b sb M v K R es) {l : Ent} (hl : lasE es = l) {t : Bool} (ht : decide (0 < es.length) = t) : Calls Tryz.prog 36 #[.pointer (some ⟨b, 0, none⟩)] w (EnQ w l t) := by
  have bv : Below w.heap.size w (w.alloc (.cells #[.string ⟨#[]⟩, .slice none 0 0, .int .i64 0, .int .i64 0, .slice none 0 0, .string ⟨#[]⟩, .slice none 0 0] 29)) := (Below.refl _ _).alloc (Nat.le_refl _) _
  have bx := Box.new w #[.string ⟨#[]⟩, .slice none 0 0, .int .i64 0, .int .i64 0, .slice none 0 0, .string ⟨#[]⟩, .slice none 0 0] 29
  obtain ⟨V, hV⟩ : ∃ V, w.alloc (.cells #[.string ⟨#[]⟩, .slice none 0 0, .int .i64 0, .int .i64 0, .slice none 0 0, .string ⟨#[]⟩, .slice none 0 0] 29) = V := ⟨_, rfl⟩
  rw [hV] at bv bx
  have h1 := h.below bv
  have hmk := made_yes h1
  have c0 := hcell h1.blk 0
  have hls := last_any h1.sh hl
  rw [ht] at hls
  have HL : Hid (Lie V l) := by
    unfold Hid
    rcases Nat.eq_zero_or_pos es.length with h0 | h0
    · obtain rfl : es = [] := List.eq_nil_of_length_eq_zero h0
      rw [← hl]
      exact lie_zero V
    · have := lasE_at (es := es) (n := es.length - 1) (by omega)
      rw [hl] at this
      exact h1.lie l (List.mem_of_getElem? this)
  have HX : Hid (Box V w.heap.size #[.string ⟨#[]⟩, .slice none 0 0, .int .i64 0, .int .i64 0, .slice none 0 0, .string ⟨#[]⟩, .slice none 0 0]) := bx
  have HB : Hid (Below w.heap.size w V) := bv
  obtain ⟨xb, hxb⟩ : ∃ xb, w.heap.size = xb := ⟨_, rfl⟩
  clear bv h h1 bx hl ht
  go_enter Tryz.func36, Tryz.ntmps36
  go_wp2_with (go_at_call 51; refine hmk.mono ?_; rintro _ w9 ⟨rfl, h9⟩; subst w9)
  clear hV
  refine hls.mono ?_
  rintro _ w1 ⟨rfl, hb1⟩
  have HB1 : Hid (Below w.heap.size w w1) := below_then HB.out hb1
  have HX1 : Hid (Box w1 w.heap.size #[.string ⟨#[]⟩, .slice none 0 0, .int .i64 0, .int .i64 0, .slice none 0 0, .string ⟨#[]⟩, .slice none 0 0]) := HX.out.below hb1
  have HL1 : Hid (Lie w1 l) := HL.out.below hb1
  clear hls hb1 HB HX HL c0 hmk
  go_wp2_with fail
  have bv2 : Below w1.heap.size w1 (w1.alloc (.cells #[.string l.ct, .slice l.tp l.tn l.tc, .int .i64 l.nu, .int .i64 l.tk, .slice l.cp l.cn l.cc, .string l.cd, .slice l.ap l.an l.ac] 29)) := (Below.refl _ _).alloc (Nat.le_refl _) _
  have by2 := Box.new w1 #[.string l.ct, .slice l.tp l.tn l.tc, .int .i64 l.nu, .int .i64 l.tk, .slice l.cp l.cn l.cc, .string l.cd, .slice l.ap l.an l.ac] 29
  generalize w1.alloc (.cells #[.string l.ct, .slice l.tp l.tn l.tc, .int .i64 l.nu, .int .i64 l.tk, .slice l.cp l.cn l.cc, .string l.cd, .slice l.ap l.an l.ac] 29) = V2 at bv2 by2 ⊢
  have HB2 : Hid (Below w.heap.size w V2) := below_then HB1.out bv2
  have HX2 : Hid (Box V2 w.heap.size #[.string ⟨#[]⟩, .slice none 0 0, .int .i64 0, .int .i64 0, .slice none 0 0, .string ⟨#[]⟩, .slice none 0 0]) := HX1.out.below bv2
  have hl2 := HL1.out.below bv2
  have hcp := copied_any l V2 hl2.1 hl2.2.1 hl2.2.2.1 hl2.2.2.2
  have cy := by2.cell
  clear bv2 HB1 HX1 HL1 hl2 by2
  go_wp2_with fail
  refine hcp.mono ?_
  rintro _ w3 ⟨a1, c1, a2, c2, a3, c3, rfl, ho, hb⟩
  have hx3 := HX2.out.below hb
  rw [hxb] at hx3
  have cx3 := hx3.cell
  have fx3 := hx3.free
  have HE : Hid (∀ W', Off (fun q => q = xb) w3 W' → Own W' w.heap.size (l.wi a1 c1 a2 c2 a3 c3) ∧ Below w.heap.size w W') := fun W' ho' => by
    have hlt := HX2.out.lt
    refine ⟨(ho.off ho' fun q hq e => by omega).base HB2.out.size, (below_then HB2.out hb).trans (ho'.below (Nat.le_trans HB2.out.size hb.size) fun k hk => by omega)⟩
  clear hcp ho hb hx3 cy
  go_wp2_with fail
  refine bodyPost_ret ?_ rfl ⟨a1, c1, a2, c2, a3, c3, rfl, HE.out _ ?_⟩
  · simp [results, Tryz.results36, go_sem, cx3]
  · iterate 7 (refine Off.setCell ?_ (by exact rfl) _)
    exact Off.refl _ _
set_option maxRecDepth 100000 in
set_option maxHeartbeats 2000000 in
theorem list_any (h : Bx w B b sb M v K R es) : Calls Tryz.prog 38 #[.pointer (some ⟨b, 0, none⟩)] w (LsQ w es) := by
  have hmk := made_yes h
  have c0 := hcell h.blk 0
  have k2 := h.sh.cells.2.2.1
  obtain ⟨a, c, hv, _⟩ := h.sh.row.isSlice
  have hrow := h.sh.row
  rw [hv] at hrow k2
  have hal := allCopied_any hrow h.lie h.sh.len
  clear h hv hrow
  go_enter Tryz.func38, Tryz.ntmps38
  go_wp2_with (go_at_call 51; refine hmk.mono ?_; rintro _ w9 ⟨rfl, h9⟩; subst w9)
  refine hal.mono ?_
  rintro _ w1 ⟨ls, a1, c1, rfl, h1, h2, h3⟩
  have HE : Hid (NRow w1 w.heap.size (.slice a1 es.length c1) ls ∧ Cps w1 w.heap.size ls es ∧ Below w.heap.size w w1) := ⟨h1, h2, h3⟩
  clear hal hmk c0 k2 h1 h2 h3
  go_wp2_with fail
  go_ret
  exact ⟨ls, a1, c1, rfl, HE.out.1, HE.out.2.1, HE.out.2.2⟩
set_option maxRecDepth 100000 in
set_option maxHeartbeats 2000000 in
theorem count_any (h : Bx w B b sb M v K R es) : Calls Tryz.prog 41 #[.pointer (some ⟨b, 0, none⟩)] w fun r w' => r = .returned (.tuple #[.int .i64 (es.length : Int), .int .i64 (nOp es : Int)]) ∧ ∃ m, w' = w.drewN m := by
  have hmk := made_yes h
  have c0 := hcell h.blk 0
  have k2 := h.sh.cells.2.2.1
  have k4 := h.sh.cells.2.2.2.2
  obtain ⟨a, c, hv, _⟩ := h.sh.row.isSlice
  rw [hv] at k2
  obtain ⟨n, hn⟩ : ∃ n, es.length = n := ⟨_, rfl⟩
  obtain ⟨o, ho⟩ : ∃ o, (nOp es : Int) = o := ⟨_, rfl⟩
  rw [hn] at k2 ⊢
  rw [ho] at k4 ⊢
  clear h hv hn ho
  go_enter Tryz.func41, Tryz.ntmps41
  go_wp2_with (go_at_call 51; refine hmk.mono ?_; rintro _ w9 ⟨rfl, h9⟩; subst w9)
  go_quiet (fail)
  go_wp2_with fail
  go_ret2
  exact ⟨rfl, _, rfl⟩
end
end Go.Proofs.YtplhdgijjckjcaaGreatDoor
