/-
  Find, Last, List, Count, Open.
-/
import Derived.Test.YtnpndbehbcaghaaIbBx
namespace Go.Proofs.Ytnpndbehbcaghaa
open Go.RowKit

/-- An entry handed out: a copy of m. -/
def EnQ (w : World) (m : Ent) (t : Bool) (r : Ending) (w' : World) : Prop := ∃ a c a' c' a'' c'', r = .returned (.tuple #[.agg #[.string m.ct, .slice a m.tn c, .int .i64 m.nu, .int .i64 m.tk, .slice a' m.cn c', .string m.cd, .slice a'' m.an c''], .bool t]) ∧ Own w' w.heap.size (m.wi a c a' c' a'' c'') ∧ Below w.heap.size w w'
theorem zE_own (w : World) (B : Nat) : Own w B zE := ⟨ERow.nil _ _ _ _ _, ERow.nil _ _ _ _ _, ERow.nil _ _ _ _ _⟩
theorem lie_zero (w : World) : Lie w zE := ⟨Lies.zero w, by decide, by decide, by decide⟩
section
variable {w w' : World} {B b sb M : Nat} {v : Value} {K R : Int} {es : List Ent}
set_option maxRecDepth 100000 in
set_option maxHeartbeats 2000000 in
theorem find_no (h : Bx w B b sb M v K R es) {s : ByteArray} (hk : KeyS s) (hf : fi s es = none) : Calls Try.prog 17 #[.pointer (some ⟨b, 0, none⟩), .string s] w (EnQ w zE false) := by
  have bv : Below w.heap.size w (w.alloc (.cells #[.string ⟨#[]⟩, .slice none 0 0, .int .i64 0, .int .i64 0, .slice none 0 0, .string ⟨#[]⟩, .slice none 0 0] 31)) := (Below.refl _ _).alloc (Nat.le_refl _) _
  have bx := Box.new w #[.string ⟨#[]⟩, .slice none 0 0, .int .i64 0, .int .i64 0, .slice none 0 0, .string ⟨#[]⟩, .slice none 0 0] 31
  obtain ⟨V, hV⟩ : ∃ V, w.alloc (.cells #[.string ⟨#[]⟩, .slice none 0 0, .int .i64 0, .int .i64 0, .slice none 0 0, .string ⟨#[]⟩, .slice none 0 0] 31) = V := ⟨_, rfl⟩
  rw [hV] at bv bx
  have h1 := h.below bv
  have hmk := made_yes h1
  have c0 := hcell h1.blk 0
  have k3 := h1.sh.cells.2.2.2.1
  have hlk := h1.sh.map.look_no hk hf
  have cx := bx.cell
  have fx := bx.free
  have HB : Hid (Below w.heap.size w V) := bv
  clear bv h h1 hf hk bx
  go_enter Try.func17, Try.ntmps17
  go_wp2_with (go_at_call 19; refine hmk.mono ?_; rintro _ w9 ⟨rfl, h9⟩; subst w9)
  clear hV
  refine bodyPost_ret ?_ rfl ⟨none, 0, none, 0, none, 0, rfl, zE_own _ _, ?_⟩
  · simp [results, Try.results17, go_sem, cx, zE]
  · repeat' (first | (with_reducible exact HB.out) | (with_reducible refine Below.setCell ?_ (by exact Nat.le_refl _) _) | (with_reducible refine Below.alloc ?_ (by simp; omega) _))
set_option maxRecDepth 100000 in
set_option maxHeartbeats 2000000 in
theorem find_yes (h : Bx w B b sb M v K R es) {s : ByteArray} {i : Nat} {m : Ent} (hk : KeyS s) (hf : fi s es = some i) (hm : es[i]? = some m) : Calls Try.prog 17 #[.pointer (some ⟨b, 0, none⟩), .string s] w (EnQ w m true) := by
  have bv : Below w.heap.size w (w.alloc (.cells #[.string ⟨#[]⟩, .slice none 0 0, .int .i64 0, .int .i64 0, .slice none 0 0, .string ⟨#[]⟩, .slice none 0 0] 31)) := (Below.refl _ _).alloc (Nat.le_refl _) _
  have bx := Box.new w #[.string ⟨#[]⟩, .slice none 0 0, .int .i64 0, .int .i64 0, .slice none 0 0, .string ⟨#[]⟩, .slice none 0 0] 31
  obtain ⟨V, hV⟩ : ∃ V, w.alloc (.cells #[.string ⟨#[]⟩, .slice none 0 0, .int .i64 0, .int .i64 0, .slice none 0 0, .string ⟨#[]⟩, .slice none 0 0] 31) = V := ⟨_, rfl⟩
  rw [hV] at bv bx
  have h1 := h.below bv
  have hmk := made_yes h1
  have c0 := hcell h1.blk 0
  have k3 := h1.sh.cells.2.2.2.1
  have k2 := h1.sh.cells.2.2.1
  have hlk := h1.sh.map.look_yes hk hf
  obtain ⟨a, c, hv, _⟩ := h1.sh.row.isSlice
  have hil := (List.getElem?_eq_some_iff.1 hm).1
  obtain ⟨n, hn⟩ : ∃ n, es.length = n := ⟨_, rfl⟩
  have hrow := h1.sh.row
  rw [hv, hn] at hrow k2
  rw [hn] at hil
  obtain ⟨g, rfl, hg, hc⟩ := nrow_cells hrow hm
  obtain ⟨d0, d1, d2, d3, d4, d5, d6⟩ := hc
  have hl := h1.lie m (List.mem_of_getElem? hm)
  have hcp := copied_any m V hl.1 hl.2.1 hl.2.2.1 hl.2.2.2
  have q1 : (i : Int) < n := by omega
  have cx := bx.cell
  have fx := bx.free
  have lx := bx.lt
  have HX : Hid (Box V w.heap.size #[.string ⟨#[]⟩, .slice none 0 0, .int .i64 0, .int .i64 0, .slice none 0 0, .string ⟨#[]⟩, .slice none 0 0]) := bx
  have HB : Hid (Below w.heap.size w V) := bv
  clear bv h h1 hf hk bx hv hrow hn hm hl
  go_enter Try.func17, Try.ntmps17
  go_wp2_with (go_at_call 19; refine hmk.mono ?_; rintro _ w9 ⟨rfl, h9⟩; subst w9)
  clear hV
  refine hcp.mono ?_
  rintro _ w1 ⟨a1, c1, a2, c2, a3, c3, rfl, ho, hb⟩
  have hx1 := HX.out.below hb
  have cx1 := hx1.cell
  have fx1 := hx1.free
  have HE : Hid (∀ W', Off (fun q => q = w.heap.size) w1 W' → Own W' w.heap.size (m.wi a1 c1 a2 c2 a3 c3) ∧ Below w.heap.size w W') := fun W' ho' => by
    refine ⟨(ho.off ho' fun q hq e => by omega).base HB.out.size, (below_then HB.out hb).trans (ho'.below (Nat.le_trans HB.out.size hb.size) fun k hk => by omega)⟩
  clear hcp ho hb hx1 cx fx d0 d1 d2 d3 d4 d5 d6 c0 k2 k3 hlk hmk
  go_wp2_with fail
  refine bodyPost_ret ?_ rfl ⟨a1, c1, a2, c2, a3, c3, rfl, HE.out _ ?_⟩
  · simp [results, Try.results17, go_sem, cx1]
  · iterate 7 (refine Off.setCell ?_ (by exact rfl) _)
    exact Off.refl _ _
set_option maxRecDepth 100000 in
set_option maxHeartbeats 2000000 in
theorem list_any (h : Bx w B b sb M v K R es) : Calls Try.prog 6 #[.pointer (some ⟨b, 0, none⟩)] w (LsQ w es) := by
  have hmk := made_yes h
  have c0 := hcell h.blk 0
  have k2 := h.sh.cells.2.2.1
  obtain ⟨a, c, hv, _⟩ := h.sh.row.isSlice
  have hrow := h.sh.row
  rw [hv] at hrow k2
  have hal := allCopied_any hrow h.lie h.sh.len
  clear h hv hrow
  go_enter Try.func6, Try.ntmps6
  go_wp2_with (go_at_call 19; refine hmk.mono ?_; rintro _ w9 ⟨rfl, h9⟩; subst w9)
  refine hal.mono ?_
  rintro _ w1 ⟨ls, a1, c1, rfl, h1, h2, h3⟩
  have HE : Hid (NRow w1 w.heap.size (.slice a1 es.length c1) ls ∧ Cps w1 w.heap.size ls es ∧ Below w.heap.size w w1) := ⟨h1, h2, h3⟩
  clear hal hmk c0 k2 h1 h2 h3
  go_wp2_with fail
  go_ret
  exact ⟨ls, a1, c1, rfl, HE.out.1, HE.out.2.1, HE.out.2.2⟩
end
end Go.Proofs.Ytnpndbehbcaghaa
