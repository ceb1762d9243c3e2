import Derived.Test.YtoijhecphgdfnaaDoorOxList
/-
  Next, Get.
-/
namespace Go.Proofs.YtoijhecphgdfnaaDoor
open Go.RowKit

theorem field_out (c0 c1 c2 c3 c4 c5 c6 c7 c8 c9 : Value) (w : World) : (Instr.field 74 (.agg #[c0, c1, c2, c3, c4, c5, c6, c7, c8, c9]) 0).run Tryd.prog w = .ok (.agg #[c0, c1, c2, c3, c4, c5, c6]) w := by kernel_rfl
section
variable {w w' : World} {b kb : Nat} {v : Value} {sq : Bool} {tr : Int} {ms : List Msg}
end
end Go.Proofs.YtoijhecphgdfnaaDoor

/-
  do, walked.
-/
namespace Go.Proofs.YtoijhecphgdfnaaDoor
open Go.RowKit

section
variable {w w' : World} {b kb : Nat} {v : Value} {sq : Bool} {tr : Int} {ms : List Msg}
/-- do's answer. -/
def DoQ (w : World) (b kb : Nat) (v : Value) (sq : Bool) (tr : Int) (ds : List Deed) (ms' : List Msg) (e : Ending) (w' : World) : Prop :=
  ∃ a c, e = .returned (.tuple #[.slice a ds.length c, .nilIface]) ∧ DRow w' w.heap.size (.slice a ds.length c) ds ∧ BxQ w b kb v sq tr ms' w'
end
end Go.Proofs.YtoijhecphgdfnaaDoor

/-
  put and Add of a box.
-/
namespace Go.Proofs.YtoijhecphgdfnaaDoor
open Go.RowKit

section
variable {w w' : World} {b kb : Nat} {v : Value} {sq : Bool} {tr : Int} {ms : List Msg}
set_option maxRecDepth 100000 in
set_option maxHeartbeats 4000000 in
theorem bput_any {m : Msg} (h : Bx w b kb v sq tr ms) (hf : fi m.ct ms = none) (h32 : ms.length < 32) (hst : m.st = 0) (hlf : m.lf = 0) (hun : m.un = false) (hb : Byts w m.tp m.tn m.tx) (hpo : m.tp = none → m.tc = 0) (hm : m.tn ≤ 8192) :
    Calls Tryd.prog 25 #[.pointer (some ⟨b, 0, none⟩), .agg #[.string m.ct, .slice m.tp m.tn m.tc, .bool m.e, .int .i64 m.a, .int .i64 m.p, .int .i64 m.nu, .bool m.nt]] w fun e w' => e = .returned (.tuple #[]) ∧ ∃ a c, BxQ w b kb v sq tr (ms ++ [m.wi a c]) w' := by
  have hb0 : Below w.heap.size w (w.alloc (.cells #[.string m.ct, .slice m.tp m.tn m.tc, .bool m.e, .int .i64 m.a, .int .i64 m.p, .int .i64 m.nu, .bool m.nt] 48)) := (Below.refl _ _).alloc (Nat.le_refl _) _
  have hx0 := Box.new w #[.string m.ct, .slice m.tp m.tn m.tc, .bool m.e, .int .i64 m.a, .int .i64 m.p, .int .i64 m.nu, .bool m.nt] 48
  have HH : Hid (Bx (w.alloc (.cells #[.string m.ct, .slice m.tp m.tn m.tc, .bool m.e, .int .i64 m.a, .int .i64 m.p, .int .i64 m.nu, .bool m.nt] 48)) b kb v sq tr ms ∧ Below w.heap.size w (w.alloc (.cells #[.string m.ct, .slice m.tp m.tn m.tc, .bool m.e, .int .i64 m.a, .int .i64 m.p, .int .i64 m.nu, .bool m.nt] 48))) := ⟨h.below hb0, hb0⟩
  have hcp : Hid (∀ z, Below (w.alloc (.cells #[.string m.ct, .slice m.tp m.tn m.tc, .bool m.e, .int .i64 m.a, .int .i64 m.p, .int .i64 m.nu, .bool m.nt] 48)).heap.size (w.alloc (.cells #[.string m.ct, .slice m.tp m.tn m.tc, .bool m.e, .int .i64 m.a, .int .i64 m.p, .int .i64 m.nu, .bool m.nt] 48)) z → Calls Tryd.prog 34 #[.agg #[.string m.ct, .slice m.tp m.tn m.tc, .bool m.e, .int .i64 m.a, .int .i64 m.p, .int .i64 m.nu, .bool m.nt, .int .i64 0, .int .i64 0, .bool false]] z fun e z' => ∃ a c, e = .returned (.agg #[.string m.ct, .slice a m.tn c, .bool m.e, .int .i64 m.a, .int .i64 m.p, .int .i64 m.nu, .bool m.nt, .int .i64 0, .int .i64 0, .bool false]) ∧ Hid (BRow z' 0 (.slice a m.tn c) m.tx ∧ Below (w.alloc (.cells #[.string m.ct, .slice m.tp m.tn m.tc, .bool m.e, .int .i64 m.a, .int .i64 m.p, .int .i64 m.nu, .bool m.nt] 48)).heap.size (w.alloc (.cells #[.string m.ct, .slice m.tp m.tn m.tc, .bool m.e, .int .i64 m.a, .int .i64 m.p, .int .i64 m.nu, .bool m.nt] 48)) z' ∧ Below z.heap.size z z')) := fun z hz => by
    have := copied_any m z ((hb.below hb0).below hz) hpo (by omega)
    rw [hst, hlf, hun] at this
    exact this.mono fun e z' ⟨a, c, h1, h2, h3⟩ => ⟨a, c, h1, ERow.base h2 (Nat.zero_le _), below_then hz h3, h3⟩
  obtain ⟨V, hV⟩ : ∃ V, w.alloc (.cells #[.string m.ct, .slice m.tp m.tn m.tc, .bool m.e, .int .i64 m.a, .int .i64 m.p, .int .i64 m.nu, .bool m.nt] 48) = V := ⟨_, rfl⟩
  have hpt : Hid (∀ a c z, Below V.heap.size V z → Calls Tryd.prog 48 #[.pointer (some ⟨kb, 0, none⟩), .agg #[.string m.ct, .slice a m.tn c, .bool m.e, .int .i64 m.a, .int .i64 m.p, .int .i64 m.nu, .bool m.nt, .int .i64 0, .int .i64 0, .bool false]] z fun e z' => e = .returned (.tuple #[]) ∧ Hid (KdQ z kb v (ms ++ [m.wi a c]) z')) := fun a c z hz => by
    have hk : Kd z kb v ms := (by have := HH.out.1; rw [hV] at this; exact this.2.1 : Kd V kb v ms).below hz
    have := put_new hk (m.wi a c) hf h32
    rw [show putS (m.wi a c) ms = ms ++ [m.wi a c] by unfold putS; rw [show fi (m.wi a c).ct ms = none from hf]] at this
    have e2 : Value.agg #[.string (m.wi a c).ct, .slice (m.wi a c).tp (m.wi a c).tn (m.wi a c).tc, .bool (m.wi a c).e, .int .i64 (m.wi a c).a, .int .i64 (m.wi a c).p, .int .i64 (m.wi a c).nu, .bool (m.wi a c).nt, .int .i64 (m.wi a c).st, .int .i64 (m.wi a c).lf, .bool (m.wi a c).un] = .agg #[.string m.ct, .slice a m.tn c, .bool m.e, .int .i64 m.a, .int .i64 m.p, .int .i64 m.nu, .bool m.nt, .int .i64 0, .int .i64 0, .bool false] := by
      show Value.agg #[.string m.ct, .slice a m.tn c, .bool m.e, .int .i64 m.a, .int .i64 m.p, .int .i64 m.nu, .bool m.nt, .int .i64 m.st, .int .i64 m.lf, .bool m.un] = _
      rw [hst, hlf, hun]
    rw [e2] at this
    exact this
  have HM : Hid (m.tn ≤ 8192) := hm
  rw [hV] at HH hcp hx0
  have c0 := hcell HH.out.1.1 0
  have cx := hx0.cell
  have lb := HH.out.1.lt
  have lx := hx0.lt
  clear h hf h32 hst hlf hun hb hpo hm hb0
  go_enter Tryd.func25, Tryd.ntmps25
  go_wp2_with fail
  clear hV
  go_region_law (first | (go_simp; go_at_call 34; refine (hcp.out _ ?_).mono ?_; (repeat' (first | exact Below.refl _ _ | refine Below.drew ?_)); rintro _ w5 ⟨a5, c5, rfl, hh5⟩; have hc5 := (held_of hh5.out.2.1).cell; go_wp2_with fail) | (go_simp; go_at_call 48; refine (hpt.out _ _ _ ?_).mono ?_; (exact (Hid.out (by assumption : Hid (BRow _ _ _ _ ∧ _ ∧ _))).2.1); rintro _ w6 ⟨rfl, hh6⟩; go_wp2_with fail))
  all_goals
    go_wp2_with fail
    go_end0
    refine ⟨rfl, a5, c5, ?_⟩
    refine bxq_of (HH.out.1.below hh5.out.2.1) (below_then HH.out.2 hh5.out.2.1) hh6.out (fun y hy => ?_)
    rcases List.mem_append.1 hy with g | g
    · exact (HH.out.1.below hh5.out.2.1).2.2 y g
    · obtain rfl : y = m.wi a5 c5 := by simpa using g
      exact ⟨hh5.out.1, HM.out⟩
end
end Go.Proofs.YtoijhecphgdfnaaDoor

/-
  Add; Give.
-/
namespace Go.Proofs.YtoijhecphgdfnaaDoor
open Go.RowKit

/-- Why Add refuses. -/
def addC (sq : Bool) (ms : List Msg) (m : Msg) : Int := if ms.length = 32 then 7 else refS sq ms m
/-- A fault told. -/
def Fl (w : World) (at_ code : Int) (e : Ending) (w' : World) : Prop := ∃ z, e = .returned (.iface 91 (.pointer (some ⟨z, 0, none⟩))) ∧ w.heap.size ≤ z ∧ OFault w' z at_ code ∧ Below w.heap.size w w'
theorem refS_zero {sq : Bool} {ms : List Msg} {m : Msg} (h : refS sq ms m = 0) : fi m.ct ms = none ∧ m.tn ≤ 8192 := by
  unfold refS at h
  split at h
  · omega
  split at h
  · omega
  rename_i h1 h2
  split at h
  · omega
  rename_i h3
  refine ⟨by simpa using h2, ?_⟩
  simp only [Bool.or_eq_true, decide_eq_true_eq] at h3
  omega
section
variable {w w' : World} {b kb : Nat} {v : Value} {sq : Bool} {tr : Int} {ms : List Msg}
end
end Go.Proofs.YtoijhecphgdfnaaDoor

/-
  Due.
-/
namespace Go.Proofs.YtoijhecphgdfnaaDoor
open Go.RowKit

/-- A fault told with no deeds. -/
def DFl (w : World) (code : Int) (e : Ending) (w' : World) : Prop := ∃ z, e = .returned (.tuple #[.slice none 0 0, .iface 91 (.pointer (some ⟨z, 0, none⟩))]) ∧ w.heap.size ≤ z ∧ OFault w' z 0 code ∧ Below w.heap.size w w'
theorem Acts.off {P : Nat → Prop} {w w' : World} {N : Nat} {v : Value} {l : ActL} (h : Acts w N v l) (o : Off P w w') (hP : ∀ q, N ≤ q → ¬ P q) : Acts w' N v l := by
  obtain ⟨po, cap, h1, h2, h3⟩ := h
  refine ⟨po, cap, h1, h2, fun j y hj => ?_⟩
  obtain ⟨b, of, e, hn, hl, c1, c2⟩ := h3 j y hj
  exact ⟨b, of, e, hn, Nat.lt_of_lt_of_le hl o.size, by rw [o.cell (p := ⟨b, of + j * 2, none⟩) hl (hP b hn)]; exact c1, by rw [o.cell (p := ⟨b, of + j * 2 + 1, none⟩) hl (hP b hn)]; exact c2⟩
theorem BxQ.of_below {w w1 w' : World} {b kb : Nat} {v : Value} {sq : Bool} {tr : Int} {ms' : List Msg} (hb : Below w.heap.size w w1) (h : BxQ w1 b kb v sq tr ms' w') : BxQ w b kb v sq tr ms' w' := by
  obtain ⟨v', q1, q2, q3⟩ := h
  exact ⟨v', q1, (Off.of_below hb).trans q2, fun q e => (q3 q e).imp id fun g => Nat.le_trans hb.size g⟩
theorem DoQ.of_below {w w1 w' : World} {b kb : Nat} {v : Value} {sq : Bool} {tr : Int} {ds : List Deed} {ms' : List Msg} {e : Ending} (hb : Below w.heap.size w w1) (h : DoQ w1 b kb v sq tr ds ms' e w') : DoQ w b kb v sq tr ds ms' e w' := by
  obtain ⟨a, c, h1, h2, h3⟩ := h
  exact ⟨a, c, h1, ERow.base h2 hb.size, h3.of_below hb⟩
theorem ans_yes {f : FuncId} {args : Array Value} {x : Ans} {w : World} (h : Calls Tryd.prog f args w (PAnsQ x w)) (hn : x.n = 0) : Calls Tryd.prog f args w fun r w' => ∃ a c, r = .returned (.tuple #[.agg #[.int .i64 x.st, .int .i64 x.lf], .slice a x.l.length c, .nilIface]) ∧ Hid (Acts w' w.heap.size (.slice a x.l.length c) x.l ∧ Below w.heap.size w w') :=
  h.mono fun r w' ⟨lv, ev, h1, h2, h3, h4⟩ => by
    obtain ⟨a, c, rfl, _⟩ := h2.isSlice
    rcases h3 with ⟨rfl, _⟩ | ⟨g, _⟩
    · exact ⟨a, c, h1, h2.acts, h4⟩
    · exact absurd hn g
theorem ans_no {f : FuncId} {args : Array Value} {x : Ans} {w : World} (h : Calls Tryd.prog f args w (PAnsQ x w)) (hn : x.n ≠ 0) : Calls Tryd.prog f args w fun r w' => ∃ a c z, r = .returned (.tuple #[.agg #[.int .i64 x.st, .int .i64 x.lf], .slice a x.l.length c, .iface 91 (.pointer (some ⟨z, 0, none⟩))]) ∧ Below w.heap.size w w' :=
  h.mono fun r w' ⟨lv, ev, h1, h2, h3, h4⟩ => by
    obtain ⟨a, c, rfl, _⟩ := h2.isSlice
    rcases h3 with ⟨_, g⟩ | ⟨_, z, rfl, _⟩
    · exact absurd g hn
    · exact ⟨a, c, z, h1, h4⟩
section
variable {w w' : World} {b kb : Nat} {v : Value} {sq : Bool} {tr : Int} {ms : List Msg}
end
end Go.Proofs.YtoijhecphgdfnaaDoor

/-
  Give.
-/
namespace Go.Proofs.YtoijhecphgdfnaaDoor
open Go.RowKit

theorem fi_mem {m : Msg} {ms : List Msg} (h : m ∈ ms) : ∃ i, fi m.ct ms = some i := by
  cases hf : fi m.ct ms with
  | some i => exact ⟨i, rfl⟩
  | none =>
    obtain ⟨j, hj, e⟩ := List.getElem_of_mem h
    have := fi_none hf j m (by rw [List.getElem?_eq_getElem hj, e])
    simp at this
section
variable {w w' : World} {b kb : Nat} {v : Value} {sq : Bool} {tr : Int} {ms : List Msg}
end
end Go.Proofs.YtoijhecphgdfnaaDoor

/-
  Go.
-/
namespace Go.Proofs.YtoijhecphgdfnaaDoor
open Go.RowKit

theorem Acts.mono {w : World} {N M : Nat} {v : Value} {l : ActL} (h : Acts w N v l) (hM : M ≤ N) : Acts w M v l := by
  obtain ⟨po, cap, h1, h2, h3⟩ := h
  refine ⟨po, cap, h1, h2, fun j y hj => ?_⟩
  obtain ⟨b, of, e, hn, r⟩ := h3 j y hj
  exact ⟨b, of, e, Nat.le_trans hM hn, r⟩
/-- Behind Start: the want at wb, the acts. -/
structure GoR (V : World) (st lf : Int) (l : ActL) (wb : Nat) (lv : Value) (wx : World) : Prop where
  bel : Below V.heap.size V wx
  box : Box wx wb #[.int .i64 st, .int .i64 lf]
  ge : V.heap.size ≤ wb
  acts : Acts wx V.heap.size lv l
theorem gor_a {V w5 : World} {st lf : Int} {l : ActL} {N : Nat} {lv : Value} (h : Acts w5 N lv l) (hb : Below V.heap.size V w5) (hN : V.heap.size ≤ N) : GoR V st lf l w5.heap.size lv (w5.alloc (.cells #[.int .i64 st, .int .i64 lf] 72)) :=
  ⟨bl_alloc hb _, Box.new _ _ _, hb.size, (h.below ((Below.refl _ _).alloc (Nat.le_refl _) _)).mono hN⟩
theorem gor_b {V w5 z : World} {st lf : Int} {l : ActL} {lv : Value} (h : Acts w5 z.heap.size lv l) (hb : Below V.heap.size V w5) (hz : Below z.heap.size z w5) (hx : Box z V.heap.size #[.int .i64 0, .int .i64 0]) : GoR V st lf l V.heap.size lv ((w5.setCell ⟨V.heap.size, 0, none⟩ (.int .i64 st)).setCell ⟨V.heap.size, 1, none⟩ (.int .i64 lf)) := by
  have o1 : Off (fun q => q = V.heap.size) w5 ((w5.setCell ⟨V.heap.size, 0, none⟩ (.int .i64 st)).setCell ⟨V.heap.size, 1, none⟩ (.int .i64 lf)) := Off.setCell (P := fun q => q = V.heap.size) (Off.setCell (P := fun q => q = V.heap.size) (Off.refl _ _) (p := ⟨V.heap.size, 0, none⟩) rfl _) (p := ⟨V.heap.size, 1, none⟩) rfl _
  have hl := hx.lt
  exact ⟨hb.trans (o1.below hb.size (fun k hk => by omega)), (hx.below hz).pPut2 _ _, Nat.le_refl _, (h.off o1 (fun q hq => by omega)).mono (by omega)⟩
section
variable {w w' : World} {b kb : Nat} {v : Value} {sq : Bool} {tr : Int} {ms : List Msg}
end
end Go.Proofs.YtoijhecphgdfnaaDoor

/-
  Go: what is refused.
-/
namespace Go.Proofs.YtoijhecphgdfnaaDoor
open Go.RowKit

section
variable {w w' : World} {b kb : Nat} {v : Value} {sq : Bool} {tr : Int} {ms : List Msg}
end
end Go.Proofs.YtoijhecphgdfnaaDoor

/-
  Heard: what layer 11 tells is done.
-/
namespace Go.Proofs.YtoijhecphgdfnaaDoor
open Go.RowKit

section
variable {w w' : World} {b kb : Nat} {v : Value} {sq : Bool} {tr : Int} {ms : List Msg}
end
end Go.Proofs.YtoijhecphgdfnaaDoor

/-
  Heard: what layer 11 tells is done.
-/
namespace Go.Proofs.YtoijhecphgdfnaaDoor
open Go.RowKit

section
variable {w w' : World} {b kb : Nat} {v : Value} {sq : Bool} {tr : Int} {ms : List Msg}
end
end Go.Proofs.YtoijhecphgdfnaaDoor

/-
  Heard: what is refused; an acknowledgement that tells the message's own number.
-/
namespace Go.Proofs.YtoijhecphgdfnaaDoor
open Go.RowKit

section
variable {w w' : World} {b kb : Nat} {v : Value} {sq : Bool} {tr : Int} {ms : List Msg}
end
end Go.Proofs.YtoijhecphgdfnaaDoor
