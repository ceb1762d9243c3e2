import Derived.Test.YtigmgbnfiiobeaaDoorOxCopy
import Derived.Deep.CutRange
/-
  find of the box's list; a box in memory; made, mayBring, refuse.
-/
namespace Go.Proofs.YtigmgbnfiiobeaaDoor
open Go.RowKit

set_option maxRecDepth 100000 in
set_option maxHeartbeats 1000000 in
theorem kfind_yes {w : World} {kb i : Nat} {v : Value} {ms : List Msg} {m : Msg} (h : Kd w kb v ms) (s : ByteArray) (hf : fi s ms = some i) (hm : ms[i]? = some m) : Calls Tryd.prog 33 #[.pointer (some ⟨kb, 0, none⟩), .string s] w fun e w' => e = .returned (.tuple #[.agg #[.string m.ct, .slice m.tp m.tn m.tc, .bool m.e, .int .i64 m.a, .int .i64 m.p, .int .i64 m.nu, .bool m.nt, .int .i64 m.st, .int .i64 m.lf, .bool m.un], .bool true]) ∧ Below w.heap.size w w' := by
  have bv : Below w.heap.size w (w.alloc (.cells #[.string ⟨#[]⟩, .slice none 0 0, .bool false, .int .i64 0, .int .i64 0, .int .i64 0, .bool false, .int .i64 0, .int .i64 0, .bool false] 49)) := (Below.refl _ _).alloc (Nat.le_refl _) _
  have bx := Box.new w #[.string ⟨#[]⟩, .slice none 0 0, .bool false, .int .i64 0, .int .i64 0, .int .i64 0, .bool false, .int .i64 0, .int .i64 0, .bool false] 49
  obtain ⟨a, c, rfl, _⟩ := h.2.1.isSlice
  have hi := (List.getElem?_eq_some_iff.1 hm).1
  obtain ⟨n, hn⟩ : ∃ n, ms.length = n := ⟨_, rfl⟩
  have hfI : fiI s ms = i := by unfold fiI; rw [hf]
  have hpl := place_any (h.below bv) s
  rw [hfI] at hpl
  rw [hn] at hi
  have q0 : (i : Int) < n := by omega
  have q1 : ¬ (i : Int) < 0 := by omega
  have q2 : n ≤ 32 := by rw [← hn]; exact h.2.2
  have HK : Hid (Kd w kb (.slice a n c) ms) := by rw [hn] at h; exact h
  have HM : Hid (ms[i]? = some m) := hm
  have HB0 : Hid (Below w.heap.size w (w.alloc (.cells #[.string ⟨#[]⟩, .slice none 0 0, .bool false, .int .i64 0, .int .i64 0, .int .i64 0, .bool false, .int .i64 0, .int .i64 0, .bool false] 49))) := bv
  clear hn hfI hf h hm bv
  go_enter Tryd.func33, Tryd.ntmps33
  go_wp2_with fail
  obtain ⟨V, hV⟩ : ∃ V, w.alloc (.cells #[.string ⟨#[]⟩, .slice none 0 0, .bool false, .int .i64 0, .int .i64 0, .int .i64 0, .bool false, .int .i64 0, .int .i64 0, .bool false] 49) = V := ⟨_, rfl⟩
  rw [hV] at bx hpl HB0 ⊢
  clear hV
  refine hpl.mono ?_
  rintro _ w1 ⟨rfl, hb1⟩
  have HB1 : Hid (Below w.heap.size w w1) := below_then HB0.out hb1
  have HK1 : Hid (Kd w1 kb (.slice a n c) ms) := HK.out.below HB1.out
  have x1 := bx.below hb1
  have cx := x1.cell
  have fx := x1.free
  have k1 := hcell HK1.out.1 1
  obtain ⟨g, rfl, hg, hc⟩ := erow_cells HK1.out.2.1 HM.out
  obtain ⟨c0, c1, c2, c3, c4, c5, c6, c7, c8, c9⟩ := hc
  clear hpl hb1 bx x1
  go_wp2_with fail
  refine bodyPost_ret ?_ rfl ⟨rfl, ?_⟩
  · simp [results, Tryd.results33, go_sem, cx]
  · iterate 10 (refine Below.setCell ?_ (by exact Nat.le_refl _) _)
    exact HB1.out
set_option maxRecDepth 100000 in
set_option maxHeartbeats 1000000 in
theorem kfind_no {w : World} {kb : Nat} {v : Value} {ms : List Msg} (h : Kd w kb v ms) (s : ByteArray) (hf : fi s ms = none) : Calls Tryd.prog 33 #[.pointer (some ⟨kb, 0, none⟩), .string s] w fun e w' => e = .returned (.tuple #[.agg #[.string ⟨#[]⟩, .slice none 0 0, .bool false, .int .i64 0, .int .i64 0, .int .i64 0, .bool false, .int .i64 0, .int .i64 0, .bool false], .bool false]) ∧ Below w.heap.size w w' := by
  have bv : Below w.heap.size w (w.alloc (.cells #[.string ⟨#[]⟩, .slice none 0 0, .bool false, .int .i64 0, .int .i64 0, .int .i64 0, .bool false, .int .i64 0, .int .i64 0, .bool false] 49)) := (Below.refl _ _).alloc (Nat.le_refl _) _
  have bx := Box.new w #[.string ⟨#[]⟩, .slice none 0 0, .bool false, .int .i64 0, .int .i64 0, .int .i64 0, .bool false, .int .i64 0, .int .i64 0, .bool false] 49
  have hfI : fiI s ms = -1 := by unfold fiI; rw [hf]
  have hpl := place_any (h.below bv) s
  rw [hfI] at hpl
  have HB0 : Hid (Below w.heap.size w (w.alloc (.cells #[.string ⟨#[]⟩, .slice none 0 0, .bool false, .int .i64 0, .int .i64 0, .int .i64 0, .bool false, .int .i64 0, .int .i64 0, .bool false] 49))) := bv
  clear hfI hf h bv
  go_enter Tryd.func33, Tryd.ntmps33
  go_wp2_with fail
  obtain ⟨V, hV⟩ : ∃ V, w.alloc (.cells #[.string ⟨#[]⟩, .slice none 0 0, .bool false, .int .i64 0, .int .i64 0, .int .i64 0, .bool false, .int .i64 0, .int .i64 0, .bool false] 49) = V := ⟨_, rfl⟩
  rw [hV] at bx hpl HB0 ⊢
  clear hV
  refine hpl.mono ?_
  rintro _ w1 ⟨rfl, hb1⟩
  have HB1 : Hid (Below w.heap.size w w1) := below_then HB0.out hb1
  have x1 := bx.below hb1
  have hlt : w.heap.size < w1.heap.size := (bx.below hb1).lt
  have cx := x1.cell
  have fx := x1.free
  clear hpl hb1 bx x1
  go_wp2_with fail
  refine bodyPost_ret ?_ rfl ⟨rfl, ?_⟩
  · simp [results, Tryd.results33, go_sem, cx, hlt]
  · refine Below.alloc ?_ (by simp; omega) _
    iterate 10 (refine Below.setCell ?_ (by exact Nat.le_refl _) _)
    exact HB1.out
end Go.Proofs.YtigmgbnfiiobeaaDoor

/-
  A box in memory; made, mayBring, refuse.
-/
namespace Go.Proofs.YtigmgbnfiiobeaaDoor
open Go.RowKit

/-- A text in memory: its own row, no longer than may be. -/
def Tx (w : World) (m : Msg) : Prop := BRow w 0 (.slice m.tp m.tn m.tc) m.tx ∧ m.tn ≤ 8192
/-- A box: its block b, its list's block kb, the list's slice v. -/
def Bx (w : World) (b kb : Nat) (v : Value) (sq : Bool) (tr : Int) (ms : List Msg) : Prop :=
  w.heap[b]? = some (.cells #[.pointer (some ⟨kb, 0, none⟩), .bool sq, .int .i64 tr] 73 (0, 0)) ∧ Kd w kb v ms ∧ ∀ m ∈ ms, Tx w m
theorem Tx.below {w w' : World} {m : Msg} (h : Tx w m) (hb : Below w.heap.size w w') : Tx w' m := ⟨ERow.below h.1 hb, h.2⟩
section
variable {w w' : World} {b kb : Nat} {v : Value} {sq : Bool} {tr : Int} {ms : List Msg}
theorem Bx.below (h : Bx w b kb v sq tr ms) (hb : Below w.heap.size w w') : Bx w' b kb v sq tr ms := ⟨(hb.block b (blk_lt h.1)).trans h.1, h.2.1.below hb, fun m hm => (h.2.2 m hm).below hb⟩
theorem Bx.lt (h : Bx w b kb v sq tr ms) : b < w.heap.size := blk_lt h.1
set_option maxHeartbeats 400000 in
theorem made_yes (h : Bx w b kb v sq tr ms) : Calls Tryd.prog 21 #[.pointer (some ⟨b, 0, none⟩)] w fun e w' => e = .returned (.bool true) ∧ w' = w := by
  have c0 := hcell h.1 0
  clear h
  go_enter Tryd.func21, Tryd.ntmps21
  go_wp2
  go_ret
  exact ⟨rfl, rfl⟩
/-- A box that nobody made. -/
def Un (w : World) (x : Value) : Prop := x = .pointer none ∨ ∃ b, x = .pointer (some ⟨b, 0, none⟩) ∧ w.cell? ⟨b, 0, none⟩ = some (.pointer none)
theorem Un.below {x : Value} (h : Un w x) (hb : Below w.heap.size w w') : Un w' x := by
  rcases h with h | ⟨b, h, hc⟩
  · exact Or.inl h
  · exact Or.inr ⟨b, h, by rw [hb.cell (p := ⟨b, 0, none⟩) (cell_lt hc)]; exact hc⟩
theorem Un.alloc {x : Value} (h : Un w x) (o : Obj) : Un (w.alloc o) x := h.below ((Below.refl _ _).alloc (Nat.le_refl _) _)
set_option maxHeartbeats 400000 in
theorem made_no {x : Value} (h : Un w x) : Calls Tryd.prog 21 #[x] w fun e w' => e = .returned (.bool false) ∧ w' = w := by
  rcases h with rfl | ⟨b, rfl, hc⟩
  · go_enter Tryd.func21, Tryd.ntmps21
    go_wp2
    go_ret
    exact ⟨rfl, rfl⟩
  · go_enter Tryd.func21, Tryd.ntmps21
    go_wp2
    go_ret
    exact ⟨rfl, rfl⟩
set_option maxHeartbeats 1000000 in
theorem mayBring_any (h : Bx w b kb v sq tr ms) (n : Int) : Calls Tryd.prog 36 #[.pointer (some ⟨b, 0, none⟩), .int .i64 n] w fun e w' => e = .returned (.bool (sq && decide (ms.length = 0) && nmB n)) ∧ w' = w := by
  have c0 := hcell h.1 0
  have c1 := hcell h.1 1
  have hc := count_any h.2.1
  have hn := isNumber_any n w
  obtain ⟨l, hl⟩ : ∃ l, ms.length = l := ⟨_, rfl⟩
  rw [hl] at hc ⊢
  clear h hl
  obtain ⟨q, hq⟩ : ∃ q, nmB n = q := ⟨_, rfl⟩
  rw [hq] at hn ⊢
  clear hq
  cases sq with
  | false =>
    go_enter Tryd.func36, Tryd.ntmps36
    go_wp2_with fail
    go_ret
    exact ⟨rfl, rfl⟩
  | true =>
    by_cases h0 : l = 0
    · subst h0
      cases q
      all_goals
        go_enter Tryd.func36, Tryd.ntmps36
        go_wp2_with (first | (go_at_call 22; refine hc.mono ?_; rintro _ w9 ⟨rfl, h9⟩; subst w9) | (go_at_call 26; refine hn.mono ?_; rintro _ w9 ⟨rfl, h9⟩; subst w9))
        go_ret
        exact ⟨rfl, rfl⟩
    · have h1 : ((l : Int) == 0) = false := by rw [beq_eq_false_iff_ne]; omega
      rw [decide_eq_false h0]
      clear h0
      go_enter Tryd.func36, Tryd.ntmps36
      go_wp2_with (first | (go_at_call 22; refine hc.mono ?_; rintro _ w9 ⟨rfl, h9⟩; subst w9))
      go_ret
      exact ⟨rfl, rfl⟩
end
end Go.Proofs.YtigmgbnfiiobeaaDoor
