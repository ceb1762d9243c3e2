import Derived.Test.YtlgjjemfckmidaaPrPlay1
import Derived.Test.YtlgjjemfckmidaaDkFrom
import Derived.Test.YtlgjjemfckmidaaRfNew
import Derived.BigRegion
import Derived.Test.YtlgjjemfckmidaaDkBeyond
/-
  The law's 'made': a disk of these bytes, and the document's.
-/
namespace Go.Proofs.Ytlgjjemfckmidaa
open Go.RowKit Go.BigFrame

theorem Dsk.low {w : World} {B B' K : Nat} {v0 v1 : Value} {x0 x1 : List Int} {s0 s1 : Nat} {st fu na ns nc : Int} (h : Dsk w B K v0 v1 x0 x1 s0 s1 st fu na ns nc) (hB : B' ≤ B) : Dsk w B' K v0 v1 x0 x1 s0 s1 st fu na ns nc :=
  { h with a0 := { h.a0 with row := h.a0.row.base hB }, a1 := { h.a1 with row := h.a1.row.base hB }, hB := Nat.le_trans hB h.hB }
theorem Rk.low {w : World} {B B' R : Nat} {v : Nat → Value} {x : Nat → List Int} {dead : Bool} {left na ns nc : Int} (h : Rk w B R v x dead left na ns nc) (hB : B' ≤ B) : Rk w B' R v x dead left na ns nc :=
  { h with row := fun q hq => (h.row q hq).base hB, hB := Nat.le_trans hB h.hB }
theorem frozen_new (w : World) (cs : Array Value) (t : TypeId) (j : Nat) : (w.alloc (.cells cs t)).frozen? ⟨w.heap.size, j, none⟩ = false := by simp
/-- The state of a disk that was made of these bytes. -/
def sg0 (b0 b1 : List Int) : Sg := ⟨b0, b1, b0.length, b1.length, false, -1, 0, 0, 0⟩
theorem sg0_rx (b0 b1 : List Int) : ∀ q, q < 4 → upd (upd (fun _ => []) 0 b0) 2 b1 q = rx (sg0 b0 b1) q := fun q hq => by
  match q, hq with
  | 0, _ => simp [upd, rx, sg0]
  | 1, _ => simp [upd, rx, sg0]
  | 2, _ => simp [upd, rx, sg0]
  | 3, _ => simp [upd, rx, sg0]
theorem Byts.left {w : World} {po : Option Addr} {n m : Nat} {bs ys : List Int} (h : Byts w po n (bs ++ ys)) (hb : bs.length = m) : Byts w po m bs := by
  have hl := h.len
  simp at hl
  refine ⟨hb, fun j hj => ?_⟩
  obtain ⟨b, o, e, l, c⟩ := h.cell j (by omega)
  refine ⟨b, o, e, l, ?_⟩
  rw [c]
  simp only [List.getD_eq_getElem?_getD]
  rw [List.getElem?_append_left (by omega)]
set_option maxRecDepth 100000 in
set_option maxHeartbeats 8000000 in
theorem made_ok2 {w : World} {p0 p1 : Option Addr} {m0 m1 c0 c1 : Nat} {bs0 bs1 : List Int} (hb0 : Byts w p0 m0 bs0) (hb1 : Byts w p1 m1 bs1) (z0 : p0 = none → c0 = 0) (z1 : p1 = none → c1 = 0) (l0 : m0 ≤ 16777216) (l1 : m1 ≤ 16777216) :
    Calls Try.prog 16 #[.agg #[.slice p0 m0 c0, .slice p1 m1 c1]] w fun e w' => ∃ K R u0 u1 v, e = .returned (.tuple #[.agg #[.pointer (some ⟨K, 0, none⟩), .pointer (some ⟨R, 0, none⟩)], .bool true]) ∧ Pr w' w.heap.size K R u0 u1 v (sg0 bs0 bs1) ∧ Below w.heap.size w w' := by
  obtain ⟨T, hT⟩ : ∃ y, (((w.alloc (.cells #[.slice p0 m0 c0, .slice p1 m1 c1] 26)).alloc (.cells #[.pointer none, .pointer none] 45)).alloc (.cells #[.slice none 0 0, .slice none 0 0] 26)) = y := ⟨_, rfl⟩
  have HW : Hid ((((w.alloc (.cells #[.slice p0 m0 c0, .slice p1 m1 c1] 26)).alloc (.cells #[.pointer none, .pointer none] 45)).alloc (.cells #[.slice none 0 0, .slice none 0 0] 26)) = T) := hT
  have bT : Below w.heap.size w T := by rw [← hT]; exact (((Below.refl _ _).alloc (Nat.le_refl _) _).alloc (by simp) _).alloc (by simp; omega) _
  have sT : T.heap.size = w.heap.size + 3 := by rw [← hT]; simp
  have ca : ∀ o, T.cell? ⟨w.heap.size, o, none⟩ = (#[.slice p0 m0 c0, .slice p1 m1 c1] : Array Value)[o]? := fun o => by
    rw [← hT, World.cell?_alloc_lt _ _ ⟨w.heap.size, o, none⟩ (by simp; omega), World.cell?_alloc_lt _ _ ⟨w.heap.size, o, none⟩ (by simp)]; exact cell_new _ _ _ _ _
  have cr : ∀ o, T.cell? ⟨w.heap.size + 1, o, none⟩ = (#[.pointer none, .pointer none] : Array Value)[o]? := fun o => by
    rw [← hT, World.cell?_alloc_lt _ _ ⟨w.heap.size + 1, o, none⟩ (by simp)]
    simp
  have ch : ∀ o, T.cell? ⟨w.heap.size + 2, o, none⟩ = (#[.slice none 0 0, .slice none 0 0] : Array Value)[o]? := fun o => by
    rw [← hT]
    have := cell_new ((w.alloc (.cells #[.slice p0 m0 c0, .slice p1 m1 c1] 26)).alloc (.cells #[.pointer none, .pointer none] 45)) #[.slice none 0 0, .slice none 0 0] 26 (0, 0) o
    simpa using this
  have fz1' : ∀ o, T.frozen? ⟨w.heap.size + 1, o, none⟩ = false := fun o => by
    have h := frozen_new (w.alloc (.cells #[.slice p0 m0 c0, .slice p1 m1 c1] 26)) #[.pointer none, .pointer none] 45 o
    rw [show (w.alloc (.cells #[.slice p0 m0 c0, .slice p1 m1 c1] 26)).heap.size = w.heap.size + 1 by simp] at h
    rw [← hT, World.frozen?_of_block (a := ⟨w.heap.size + 1, o, none⟩) (Below.heap_alloc ((w.alloc (.cells #[.slice p0 m0 c0, .slice p1 m1 c1] 26)).alloc (.cells #[.pointer none, .pointer none] 45)) (.cells #[.slice none 0 0, .slice none 0 0] 26) (w.heap.size + 1) (by simp))]
    exact h
  have fz2' : ∀ o, T.frozen? ⟨w.heap.size + 2, o, none⟩ = false := fun o => by
    have h := frozen_new ((w.alloc (.cells #[.slice p0 m0 c0, .slice p1 m1 c1] 26)).alloc (.cells #[.pointer none, .pointer none] 45)) #[.slice none 0 0, .slice none 0 0] 26 o
    rw [show ((w.alloc (.cells #[.slice p0 m0 c0, .slice p1 m1 c1] 26)).alloc (.cells #[.pointer none, .pointer none] 45)).heap.size = w.heap.size + 2 by simp] at h
    rw [← hT]; exact h
  have fz : ∀ k o, k = w.heap.size + 1 ∨ k = w.heap.size + 2 → T.frozen? ⟨k, o, none⟩ = false := fun k o hk => by
    rcases hk with e | e
    · rw [e]; exact fz1' o
    · rw [e]; exact fz2' o
  have HT : Hid (Below w.heap.size w T ∧ T.heap.size = w.heap.size + 3 ∧ (∀ o, T.cell? ⟨w.heap.size, o, none⟩ = (#[.slice p0 m0 c0, .slice p1 m1 c1] : Array Value)[o]?) ∧ (∀ o, T.cell? ⟨w.heap.size + 1, o, none⟩ = (#[.pointer none, .pointer none] : Array Value)[o]?) ∧ (∀ o, T.cell? ⟨w.heap.size + 2, o, none⟩ = (#[.slice none 0 0, .slice none 0 0] : Array Value)[o]?) ∧ (∀ k o, k = w.heap.size + 1 ∨ k = w.heap.size + 2 → T.frozen? ⟨k, o, none⟩ = false)) := ⟨bT, sT, ca, cr, ch, fz⟩
  have HY : Hid (Byts T p0 m0 bs0 ∧ Byts T p1 m1 bs1) := ⟨hb0.below bT, hb1.below bT⟩
  have HZ : Hid ((p0 = none → c0 = 0) ∧ (p1 = none → c1 = 0)) := ⟨z0, z1⟩
  have HLn : Hid (bs0.length = m0 ∧ bs1.length = m1) := ⟨hb0.len, hb1.len⟩
  have HLw : Hid (∀ b o, (p0 = some ⟨b, o, none⟩ ∧ 0 < m0) ∨ (p1 = some ⟨b, o, none⟩ ∧ 0 < m1) → b < w.heap.size) := fun b o hp => by
    rcases hp with ⟨e, hm⟩ | ⟨e, hm⟩
    · obtain ⟨b', o', e', hl, _⟩ := hb0.cell 0 hm; rw [e] at e'; simp at e'; omega
    · obtain ⟨b', o', e', hl, _⟩ := hb1.cell 0 hm; rw [e] at e'; simp at e'; omega
  clear hb0 hb1 z0 z1 hT bT sT ca cr ch fz fz1' fz2'
  go_enter Try.func16, Try.ntmps16
  go_wp2_with fail
  rw [HW.out]
  have ca0 : T.cell? ⟨w.heap.size, 0, none⟩ = some (.slice p0 m0 c0) := HT.out.2.2.1 0
  refine wp_loop_rounds 3 ?_
  rw [rounds_succ]
  go_wp2_with fail
  refine (Hand_any T HY.out.1 (by omega)).mono ?_
  rintro e w1 ⟨rfl, r1, b1⟩
  obtain ⟨g0, hg0⟩ : ∃ g, T.heap.size = g := ⟨_, rfl⟩
  rw [hg0] at r1 ⊢
  have H1 : Hid (Row w1 g0 (.slice (some ⟨g0, 0, none⟩) (m0 + 90) (m0 + 90)) (bs0 ++ marks) ∧ Below T.heap.size T w1 ∧ g0 = T.heap.size ∧ g0 < w1.heap.size) := ⟨r1, b1, hg0.symm, (r1.lt rfl).2⟩
  have k1 : w1.cell? ⟨w.heap.size + 2, 0, none⟩ = some (.slice none 0 0) := (b1.cell (p := ⟨w.heap.size + 2, 0, none⟩) (by have := HT.out.2.1; simp only; omega)).trans (HT.out.2.2.2.2.1 0)
  have k2 : w1.frozen? ⟨w.heap.size + 2, 0, none⟩ = false := (b1.frozen (p := ⟨w.heap.size + 2, 0, none⟩) (by have := HT.out.2.1; simp only; omega)).trans (HT.out.2.2.2.2.2 _ 0 (Or.inr rfl))
  clear r1 b1 hg0 ca0
  go_wp2_with fail
  obtain ⟨U, hU⟩ : ∃ y, w1.setCell ⟨w.heap.size + 2, 0, none⟩ (.slice (some ⟨g0, 0, none⟩) m0 (m0 + 90)) = y := ⟨_, rfl⟩
  have oU : Off (fun k => k = w.heap.size + 2) w1 U := by rw [← hU]; exact (Off.refl _ _).setCell (P := fun k => k = w.heap.size + 2) (p := ⟨w.heap.size + 2, 0, none⟩) rfl _
  have kU : U.cell? ⟨w.heap.size + 2, 0, none⟩ = some (.slice (some ⟨g0, 0, none⟩) m0 (m0 + 90)) := by rw [← hU]; exact World.cell?_setCell_same _ _ _ k1
  have kU1 : U.cell? ⟨w.heap.size + 2, 1, none⟩ = some (.slice none 0 0) := by rw [← hU, World.cell?_setCell_other _ _ _ _ (by simp)]; exact (H1.out.2.1.cell (p := ⟨w.heap.size + 2, 1, none⟩) (by have := HT.out.2.1; simp only; omega)).trans (HT.out.2.2.2.2.1 1)
  have fU1 : U.frozen? ⟨w.heap.size + 2, 1, none⟩ = false := by rw [← hU, World.frozen?_setCell]; exact (H1.out.2.1.frozen (p := ⟨w.heap.size + 2, 1, none⟩) (by have := HT.out.2.1; simp only; omega)).trans (HT.out.2.2.2.2.2 _ 1 (Or.inr rfl))
  rw [hU]
  clear hU k1 k2
  have HU : Hid (Off (fun k => k = w.heap.size + 2) w1 U ∧ Off (fun k => k = w.heap.size + 2) T U ∧ U.cell? ⟨w.heap.size + 2, 0, none⟩ = some (.slice (some ⟨g0, 0, none⟩) m0 (m0 + 90)) ∧ U.cell? ⟨w.heap.size + 2, 1, none⟩ = some (.slice none 0 0) ∧ U.frozen? ⟨w.heap.size + 2, 1, none⟩ = false) := ⟨oU, (Off.of_below H1.out.2.1).trans oU, kU, kU1, fU1⟩
  have ca1 : U.cell? ⟨w.heap.size, 1, none⟩ = some (.slice p1 m1 c1) := (HU.out.2.1.cell (p := ⟨w.heap.size, 1, none⟩) (by have := HT.out.2.1; simp only; omega) (by simp)).trans (HT.out.2.2.1 1)
  clear oU kU kU1 fU1
  have HD : Hid (∀ b o, (p0 = some ⟨b, o, none⟩ ∧ 0 < m0) ∨ (p1 = some ⟨b, o, none⟩ ∧ 0 < m1) → ¬ (b = w.heap.size + 2)) := fun b o e h => by have := HLw.out b o e; omega
  have y1 : Byts U p1 m1 bs1 := HY.out.2.off' HU.out.2.1 (fun hm b o e => HD.out b o (Or.inr ⟨e, hm⟩))
  go_wp2_with fail
  rw [rounds_succ]
  go_wp2_with fail
  refine (Hand_any U y1 (by omega)).mono ?_
  rintro e w2 ⟨rfl, r2, b2⟩
  obtain ⟨g1, hg1⟩ : ∃ g, U.heap.size = g := ⟨_, rfl⟩
  rw [hg1] at r2 ⊢
  have H2 : Hid (Row w2 g1 (.slice (some ⟨g1, 0, none⟩) (m1 + 90) (m1 + 90)) (bs1 ++ marks) ∧ Below U.heap.size U w2 ∧ g1 = U.heap.size ∧ g1 < w2.heap.size) := ⟨r2, b2, hg1.symm, (r2.lt rfl).2⟩
  have hUs : w.heap.size + 3 < U.heap.size := by have h1 := HU.out.1.size; have h2 := H1.out.2.2.2; have h3 := H1.out.2.2.1; have h4 := HT.out.2.1; omega
  have k1 : w2.cell? ⟨w.heap.size + 2, 1, none⟩ = some (.slice none 0 0) := (b2.cell (p := ⟨w.heap.size + 2, 1, none⟩) (by simp only; omega)).trans HU.out.2.2.2.1
  have k2 : w2.frozen? ⟨w.heap.size + 2, 1, none⟩ = false := (b2.frozen (p := ⟨w.heap.size + 2, 1, none⟩) (by simp only; omega)).trans HU.out.2.2.2.2
  have k3 : w2.cell? ⟨w.heap.size + 2, 0, none⟩ = some (.slice (some ⟨g0, 0, none⟩) m0 (m0 + 90)) := (b2.cell (p := ⟨w.heap.size + 2, 0, none⟩) (by simp only; omega)).trans HU.out.2.2.1
  clear r2 b2 hg1 ca1 y1
  go_wp2_with fail
  obtain ⟨U2, hU2⟩ : ∃ y, w2.setCell ⟨w.heap.size + 2, 1, none⟩ (.slice (some ⟨g1, 0, none⟩) m1 (m1 + 90)) = y := ⟨_, rfl⟩
  have oU2 : Off (fun k => k = w.heap.size + 2) w2 U2 := by rw [← hU2]; exact (Off.refl _ _).setCell (P := fun k => k = w.heap.size + 2) (p := ⟨w.heap.size + 2, 1, none⟩) rfl _
  have q0 : U2.cell? ⟨w.heap.size + 2, 0, none⟩ = some (.slice (some ⟨g0, 0, none⟩) m0 (m0 + 90)) := by rw [← hU2, World.cell?_setCell_other _ _ _ _ (by simp)]; exact k3
  have q1 : U2.cell? ⟨w.heap.size + 2, 1, none⟩ = some (.slice (some ⟨g1, 0, none⟩) m1 (m1 + 90)) := by rw [← hU2]; exact World.cell?_setCell_same _ _ _ k1
  rw [hU2]
  clear hU2 k1 k2 k3
  have oTU2 : Off (fun k => k = w.heap.size + 2) T U2 := HU.out.2.1.trans ((Off.of_below H2.out.2.1).trans oU2)
  have HU2 : Hid (Off (fun k => k = w.heap.size + 2) T U2 ∧ U2.cell? ⟨w.heap.size + 2, 0, none⟩ = some (.slice (some ⟨g0, 0, none⟩) m0 (m0 + 90)) ∧ U2.cell? ⟨w.heap.size + 2, 1, none⟩ = some (.slice (some ⟨g1, 0, none⟩) m1 (m1 + 90)) ∧ Row U2 g0 (.slice (some ⟨g0, 0, none⟩) (m0 + 90) (m0 + 90)) (bs0 ++ marks) ∧ Row U2 g1 (.slice (some ⟨g1, 0, none⟩) (m1 + 90) (m1 + 90)) (bs1 ++ marks) ∧ g0 = w.heap.size + 3 ∧ g0 < g1 ∧ g1 < U2.heap.size) := by
    have h1 := HU.out.1.size
    have h2 := H1.out.2.2.2
    have h3 := H1.out.2.2.1
    have h4 := HT.out.2.1
    have h5 := H2.out.2.2.1
    have h6 := H2.out.2.2.2
    have h7 := oU2.size
    refine ⟨oTU2, q0, q1, ?_, H2.out.1.off oU2 (fun g e => by simp only [Value.ownBlock, Option.some.injEq] at e; omega), by omega, by omega, by omega⟩
    have r' : Row U g0 (.slice (some ⟨g0, 0, none⟩) (m0 + 90) (m0 + 90)) (bs0 ++ marks) := H1.out.1.off HU.out.1 (fun g e => by simp only [Value.ownBlock, Option.some.injEq] at e; omega)
    exact (r'.below H2.out.2.1).off oU2 (fun g e => by simp only [Value.ownBlock, Option.some.injEq] at e; omega)
  clear oU2 oTU2 hUs HU H1 H2
  go_wp2_with fail
  rw [rounds_succ]
  go_wp2_with fail
  refine (From_ok (HU2.out.2.2.2.1.asByts0.left HLn.out.1) (fun e => by cases e) l0 (HU2.out.2.2.2.2.1.asByts0.left HLn.out.2) (fun e => by cases e) l1 (fun b o e => by simp only [Option.some.injEq, Addr.mk.injEq] at e; have := HU2.out.2.2.2.2.2; omega) (fun b o e => by simp only [Option.some.injEq, Addr.mk.injEq] at e; have := HU2.out.2.2.2.2.2; omega)).mono ?_
  rintro e w3 ⟨K, u0, u1, rfl, d3, b3⟩
  have H3 : Hid (Dsk w3 (U2.heap.size + 1) K u0 u1 bs0 bs1 bs0.length bs1.length 1 (-1) 0 0 0 ∧ Below U2.heap.size U2 w3) := ⟨d3, b3⟩
  have oT3 : Off (fun k => k = w.heap.size + 2) T w3 := HU2.out.1.trans (Off.of_below b3)
  have ca0 : w3.cell? ⟨w.heap.size, 0, none⟩ = some (.slice p0 m0 c0) := (oT3.cell (p := ⟨w.heap.size, 0, none⟩) (by have := HT.out.2.1; simp only; omega) (by simp)).trans (HT.out.2.2.1 0)
  have ca1 : w3.cell? ⟨w.heap.size, 1, none⟩ = some (.slice p1 m1 c1) := (oT3.cell (p := ⟨w.heap.size, 1, none⟩) (by have := HT.out.2.1; simp only; omega) (by simp)).trans (HT.out.2.2.1 1)
  have HY3 : Hid (Byts w3 p0 m0 bs0 ∧ Byts w3 p1 m1 bs1 ∧ Off (fun k => k = w.heap.size + 2) T w3) := ⟨HY.out.1.off' oT3 (fun hm b o e => HD.out b o (Or.inl ⟨e, hm⟩)), HY.out.2.off' oT3 (fun hm b o e => HD.out b o (Or.inr ⟨e, hm⟩)), oT3⟩
  clear d3 b3 oT3 q0 q1
  go_wp2_with fail
  refine (rFrom_ok HY3.out.1 HY3.out.2.1 HZ.out.1 HZ.out.2 l0 l1).mono ?_
  rintro e V ⟨rfl, v, r4, b4⟩
  obtain ⟨R, hR⟩ : ∃ R, w3.heap.size + 1 = R := ⟨_, rfl⟩
  rw [hR] at r4 ⊢
  have HV : Hid (Pr V w.heap.size K R u0 u1 v (sg0 bs0 bs1) ∧ Off (fun k => k = w.heap.size + 2) T V ∧ V.cell? ⟨w.heap.size + 2, 0, none⟩ = some (.slice (some ⟨g0, 0, none⟩) m0 (m0 + 90)) ∧ V.cell? ⟨w.heap.size + 2, 1, none⟩ = some (.slice (some ⟨g1, 0, none⟩) m1 (m1 + 90)) ∧ Row V g0 (.slice (some ⟨g0, 0, none⟩) (m0 + 90) (m0 + 90)) (bs0 ++ marks) ∧ Row V g1 (.slice (some ⟨g1, 0, none⟩) (m1 + 90) (m1 + 90)) (bs1 ++ marks) ∧ Byts V p0 m0 bs0 ∧ Byts V p1 m1 bs1 ∧ (∀ k, (Foot K u0 u1 k ∨ RFoot R v k) → U2.heap.size < k) ∧ g0 = w.heap.size + 3 ∧ g0 < g1 ∧ g1 < U2.heap.size ∧ U2.heap.size ≤ V.heap.size) := by
    obtain ⟨o1, c1', c2', r1, r2, e1, e2, e3⟩ := HU2.out
    obtain ⟨d3, b3⟩ := H3.out
    have b3V : Below U2.heap.size U2 V := b3.trans (b4.mono b3.size)
    have hs3 := b3.size
    have hf1 : ∀ k, Foot K u0 u1 k → U2.heap.size + 1 ≤ k ∧ k < w3.heap.size := fun k hk => d3.foot_lt hk
    have hf2 : ∀ k, RFoot R v k → w3.heap.size + 1 ≤ k := fun k hk => by have := (r4.foot_lt hk).1; omega
    have hd := (d3.below b4).low (B' := w.heap.size) (by omega)
    have hr := (r4.congr (sg0_rx bs0 bs1)).low (B' := w.heap.size) (by omega)
    refine ⟨⟨by simpa [sg0, stOf] using hd, by simpa [sg0] using hr, fun k h1 h2 => by have := hf1 k h1; have := hf2 k h2; omega⟩, HY3.out.2.2.trans (Off.of_below b4), (b3V.cell (p := ⟨w.heap.size + 2, 0, none⟩) (by simp only; omega)).trans c1', (b3V.cell (p := ⟨w.heap.size + 2, 1, none⟩) (by simp only; omega)).trans c2', r1.below b3V, r2.below b3V, HY3.out.1.below b4, HY3.out.2.1.below b4, fun k hk => ?_, e1, e2, e3, b3V.size⟩
    rcases hk with hk | hk
    · have := hf1 k hk; omega
    · have := hf2 k hk; omega
  clear r4 b4 hR H3 HU2 HY3 ca0 ca1
  go_wp2_with fail
  refine (refused_ok 0 V).mono ?_
  rintro e x ⟨rfl, hx⟩
  rw [hx]
  clear hx x
  have hv0 : V.cell? ⟨w.heap.size + 2, 0, none⟩ = some (.slice (some ⟨g0, 0, none⟩) m0 (m0 + 90)) := HV.out.2.2.1
  have ha0 : V.cell? ⟨w.heap.size, 0, none⟩ = some (.slice p0 m0 c0) := (HV.out.2.1.cell (p := ⟨w.heap.size, 0, none⟩) (by have := HT.out.2.1; simp only; omega) (by simp)).trans (HT.out.2.2.1 0)
  have hK0 : ∀ x, Calls Try.prog 34 #[(.slice (some ⟨g0, 0, none⟩) m0 (m0 + 90)), .slice p0 m0 c0] (V.drewN x) fun e w' => e = .returned (.bool true) ∧ ∃ m, w' = V.drewN m := fun x => (Kept_true (V.drewN x) (HV.out.2.2.2.2.1.below (drewB V x)) (HV.out.2.2.2.2.2.2.1.below (drewB V x)) (by omega)).mono fun e w' ⟨he, m, hw⟩ => ⟨he, x + m, by rw [hw, drew2]⟩
  go_wp2_with fail
  refine wp_loop_rounds 3 ?_
  rw [rounds_succ]
  go_wp2_with fail
  refine wp_region_quiet_lit (by kernel_rfl) (by kernel_rfl) ?_
  iterate 11 (go_big_quiet_step ((exact hK0 _)))
  refine wpQuiet_nil ?_
  rintro _ ⟨nq, rfl⟩
  obtain ⟨V1, hV1⟩ : ∃ y, V.drewN nq = y := ⟨_, rfl⟩
  have HV1 : Hid (Off (fun k => k = g0) V V1) := by unfold Hid; rw [← hV1]; exact (Off.refl _ _).drewN nq
  have HBS0 : Hid ((bs0 ++ marks).length = m0 + 90 ∧ Row V1 g0 (.slice (some ⟨g0, 0, none⟩) (m0 + 90) (m0 + 90)) (bs0 ++ marks)) := by refine ⟨by have := HLn.out.1; simp [marks]; omega, ?_⟩; rw [← hV1]; exact HV.out.2.2.2.2.1.below (drewB V nq)
  have HLT0 : Hid (w.heap.size + 2 < V1.heap.size ∧ ¬ (w.heap.size + 2 = g0) ∧ V1.cell? ⟨w.heap.size + 2, 0, none⟩ = some (.slice (some ⟨g0, 0, none⟩) m0 (m0 + 90))) := by
    obtain ⟨_, _, _, _, _, _, _, _, _, e1, e2, e3, e4⟩ := HV.out
    rw [← hV1]; exact ⟨by show _ < V.heap.size; omega, by omega, hv0⟩
  rw [hV1]
  clear hV1 hK0 hv0 ha0
  go_wp2_with fail
  go_loopw [13] (fun t13 wx => ∃ i : Nat, i ≤ m0 ∧ t13 = .int .i64 i ∧ Hid (∃ ys : List Int, ys.length = m0 + 90 ∧ Row wx g0 (.slice (some ⟨g0, 0, none⟩) (m0 + 90) (m0 + 90)) ys ∧ Off (fun k => k = g0) V1 wx)) (fun t13 _ => m0 - (intOf t13).toNat)
  case atStart => exact ⟨0, Nat.zero_le _, rfl, _, HBS0.out.1, HBS0.out.2, Off.refl _ _⟩
  case round =>
    obtain ⟨i, hi, rfl, HI⟩ := hrel
    have hcw : wr.cell? ⟨w.heap.size + 2, 0, none⟩ = some (.slice (some ⟨g0, 0, none⟩) m0 (m0 + 90)) := by
      obtain ⟨ys, hy, hrow, hoff⟩ := HI.out
      exact (hoff.cell (p := ⟨w.heap.size + 2, 0, none⟩) HLT0.out.1 HLT0.out.2.1).trans HLT0.out.2.2
    by_cases hlt : i < m0
    · have hlt1 : (i : Int) < m0 := by omega
      obtain ⟨ys, hy, hrow, hoff⟩ := HI.out
      have k1 := hrow.slot (j := i) (by omega)
      have k2 := hrow.thaw i
      obtain ⟨z, hz⟩ : ∃ z, ys.getD i 0 = z := ⟨_, rfl⟩
      rw [hz] at k1
      have HJ : Hid (∀ q : Int, ∃ ys : List Int, ys.length = m0 + 90 ∧ Row (wr.setCell ⟨g0, i, none⟩ (.int .u8 q)).drew g0 (.slice (some ⟨g0, 0, none⟩) (m0 + 90) (m0 + 90)) ys ∧ Off (fun k => k = g0) V1 (wr.setCell ⟨g0, i, none⟩ (.int .u8 q)).drew) := fun q => ⟨_, by rw [List.length_set]; exact hy, (hrow.stored i q).below (Below.drew (Below.refl _ _)), (hoff.setCell (P := fun k => k = g0) (p := ⟨g0, i, none⟩) rfl _).drew⟩
      clear hrow hoff HI hy hz
      go_wp2_with fail
      go_region
      go_wp2_with fail
      go_roundw
      case rel => exact ⟨i + 1, hlt, by go_num, HJ.out _⟩
      case measure => simp [intOf]; omega
    · have hlt1 : ¬ (i : Int) < m0 := by omega
      have HX1 : Hid (Off (fun k => k = g0) V1 wr) := by
        obtain ⟨ys, hy, hrow, hoff⟩ := HI.out
        exact hoff
      obtain ⟨X, hX⟩ : ∃ y, wr = y := ⟨_, rfl⟩
      rw [hX] at HX1 hcw ⊢
      clear HI hX
      have HXV : Hid (Off (fun k => k = g0) V X) := HV1.out.trans HX1.out
      obtain ⟨_, hoT, _, hc1, _, hrw1, _, hby1, _, e1, e2, e3, e4⟩ := HV.out
      have hTs := HT.out.2.1
      have hxo := HXV.out
      have hv1 : X.cell? ⟨w.heap.size + 2, 1, none⟩ = some (.slice (some ⟨g1, 0, none⟩) m1 (m1 + 90)) := (hxo.cell (p := ⟨w.heap.size + 2, 1, none⟩) (by simp only; omega) (by simp only; omega)).trans hc1
      have ha1 : X.cell? ⟨w.heap.size, 1, none⟩ = some (.slice p1 m1 c1) := (hxo.cell (p := ⟨w.heap.size, 1, none⟩) (by simp only; omega) (by simp only; omega)).trans ((hoT.cell (p := ⟨w.heap.size, 1, none⟩) (by simp only; omega) (by simp)).trans (HT.out.2.2.1 1))
      have hrx : Row X g1 (.slice (some ⟨g1, 0, none⟩) (m1 + 90) (m1 + 90)) (bs1 ++ marks) := hrw1.off hxo (fun g e => by simp only [Value.ownBlock, Option.some.injEq] at e; omega)
      have hyx : Byts X p1 m1 bs1 := hby1.off' hxo (fun hm b o e h => by have := HLw.out b o (Or.inr ⟨e, hm⟩); omega)
      have hK1 : ∀ x, Calls Try.prog 34 #[(.slice (some ⟨g1, 0, none⟩) m1 (m1 + 90)), .slice p1 m1 c1] (X.drewN x) fun e w' => e = .returned (.bool true) ∧ ∃ m, w' = X.drewN m := fun x => (Kept_true (X.drewN x) (hrx.below (drewB X x)) (hyx.below (drewB X x)) (by omega)).mono fun e w' ⟨he, m, hw⟩ => ⟨he, x + m, by rw [hw, drew2]⟩
      have HRX : Hid (Row X g1 (.slice (some ⟨g1, 0, none⟩) (m1 + 90) (m1 + 90)) (bs1 ++ marks) ∧ X.cell? ⟨w.heap.size + 2, 1, none⟩ = some (.slice (some ⟨g1, 0, none⟩) m1 (m1 + 90)) ∧ w.heap.size + 2 < X.heap.size ∧ ¬ (w.heap.size + 2 = g1)) := ⟨hrx, hv1, by have := hxo.size; omega, by omega⟩
      clear hoT hc1 hrw1 hby1 e1 e2 e3 e4 hTs hxo hrx hyx
      go_wp2_with fail
      rw [rounds_succ]
      go_wp2_with fail
      refine wp_region_quiet_lit (by kernel_rfl) (by kernel_rfl) ?_
      iterate 11 (go_big_quiet_step ((exact hK1 _)))
      refine wpQuiet_nil ?_
      rintro _ ⟨nr, rfl⟩
      obtain ⟨V2, hV2⟩ : ∃ y, X.drewN nr = y := ⟨_, rfl⟩
      have HO2 : Hid (Off (fun k => k = g0) V V2) := by unfold Hid; rw [← hV2]; exact HXV.out.drewN nr
      have HBS1 : Hid ((bs1 ++ marks).length = m1 + 90 ∧ Row V2 g1 (.slice (some ⟨g1, 0, none⟩) (m1 + 90) (m1 + 90)) (bs1 ++ marks)) := by refine ⟨by have := HLn.out.2; simp [marks]; omega, ?_⟩; rw [← hV2]; exact HRX.out.1.below (drewB X nr)
      have HLT1 : Hid (w.heap.size + 2 < V2.heap.size ∧ ¬ (w.heap.size + 2 = g1) ∧ V2.cell? ⟨w.heap.size + 2, 1, none⟩ = some (.slice (some ⟨g1, 0, none⟩) m1 (m1 + 90))) := by rw [← hV2]; exact ⟨HRX.out.2.2.1, HRX.out.2.2.2, HRX.out.2.1⟩
      rw [hV2]
      clear hV2 hK1 hv1 ha1
      go_wp2_with fail
      go_loopw [13] (fun t13 wx => ∃ i : Nat, i ≤ m1 ∧ t13 = .int .i64 i ∧ Hid (∃ ys : List Int, ys.length = m1 + 90 ∧ Row wx g1 (.slice (some ⟨g1, 0, none⟩) (m1 + 90) (m1 + 90)) ys ∧ Off (fun k => k = g1) V2 wx)) (fun t13 _ => m1 - (intOf t13).toNat)
      case atStart => exact ⟨0, Nat.zero_le _, rfl, _, HBS1.out.1, HBS1.out.2, Off.refl _ _⟩
      case round =>
        obtain ⟨i, hi, rfl, HI⟩ := hrel
        have hcw : wr.cell? ⟨w.heap.size + 2, 1, none⟩ = some (.slice (some ⟨g1, 0, none⟩) m1 (m1 + 90)) := by
          obtain ⟨ys, hy, hrow, hoff⟩ := HI.out
          exact (hoff.cell (p := ⟨w.heap.size + 2, 1, none⟩) HLT1.out.1 HLT1.out.2.1).trans HLT1.out.2.2
        by_cases hlt : i < m1
        · have hlt1 : (i : Int) < m1 := by omega
          obtain ⟨ys, hy, hrow, hoff⟩ := HI.out
          have k1 := hrow.slot (j := i) (by omega)
          have k2 := hrow.thaw i
          obtain ⟨z, hz⟩ : ∃ z, ys.getD i 0 = z := ⟨_, rfl⟩
          rw [hz] at k1
          have HJ : Hid (∀ q : Int, ∃ ys : List Int, ys.length = m1 + 90 ∧ Row (wr.setCell ⟨g1, i, none⟩ (.int .u8 q)).drew g1 (.slice (some ⟨g1, 0, none⟩) (m1 + 90) (m1 + 90)) ys ∧ Off (fun k => k = g1) V2 (wr.setCell ⟨g1, i, none⟩ (.int .u8 q)).drew) := fun q => ⟨_, by rw [List.length_set]; exact hy, (hrow.stored i q).below (Below.drew (Below.refl _ _)), (hoff.setCell (P := fun k => k = g1) (p := ⟨g1, i, none⟩) rfl _).drew⟩
          clear hrow hoff HI hy hz
          go_wp2_with fail
          go_region
          go_wp2_with fail
          go_roundw
          case rel => exact ⟨i + 1, hlt, by go_num, HJ.out _⟩
          case measure => simp [intOf]; omega
        · have hlt1 : ¬ (i : Int) < m1 := by omega
          have HX2 : Hid (Off (fun k => k = g0 ∨ k = g1) V wr) := by
            obtain ⟨ys, hy, hrow, hoff⟩ := HI.out
            exact (HO2.out.mono (fun k e => Or.inl e)).trans (hoff.mono (fun k e => Or.inr e))
          obtain ⟨hPr, hoT, _, _, _, _, _, _, hft, e1, e2, e3, e4⟩ := HV.out
          have hTs := HT.out.2.1
          have hoff2 := HX2.out
          have hr0 : wr.cell? ⟨w.heap.size + 1, 0, none⟩ = some (.pointer none) := (hoff2.cell (p := ⟨w.heap.size + 1, 0, none⟩) (by simp only; omega) (by simp only; omega)).trans ((hoT.cell (p := ⟨w.heap.size + 1, 0, none⟩) (by simp only; omega) (by simp)).trans (HT.out.2.2.2.1 0))
          have hr1 : wr.cell? ⟨w.heap.size + 1, 1, none⟩ = some (.pointer none) := (hoff2.cell (p := ⟨w.heap.size + 1, 1, none⟩) (by simp only; omega) (by simp only; omega)).trans ((hoT.cell (p := ⟨w.heap.size + 1, 1, none⟩) (by simp only; omega) (by simp)).trans (HT.out.2.2.2.1 1))
          have hfz : ∀ o, wr.frozen? ⟨w.heap.size + 1, o, none⟩ = false := fun o => (hoff2.frozen (p := ⟨w.heap.size + 1, o, none⟩) (by simp only; omega) (by simp only; omega)).trans ((hoT.frozen (p := ⟨w.heap.size + 1, o, none⟩) (by simp only; omega) (by simp)).trans (HT.out.2.2.2.2.2 _ o (Or.inl rfl)))
          have HF : Hid (∀ a b : Value, Pr ((wr.setCell ⟨w.heap.size + 1, 0, none⟩ a).setCell ⟨w.heap.size + 1, 0 + 1, none⟩ b) w.heap.size K R u0 u1 v (sg0 bs0 bs1) ∧ Below w.heap.size w ((wr.setCell ⟨w.heap.size + 1, 0, none⟩ a).setCell ⟨w.heap.size + 1, 0 + 1, none⟩ b)) := fun a b => by
            have o1 : Off (fun k => k = g0 ∨ k = g1 ∨ k = w.heap.size + 1) V ((wr.setCell ⟨w.heap.size + 1, 0, none⟩ a).setCell ⟨w.heap.size + 1, 0 + 1, none⟩ b) := ((hoff2.mono (fun k e => by rcases e with e | e <;> omega)).setCell (P := fun k => k = g0 ∨ k = g1 ∨ k = w.heap.size + 1) (p := ⟨w.heap.size + 1, 0, none⟩) (Or.inr (Or.inr rfl)) _).setCell (P := fun k => k = g0 ∨ k = g1 ∨ k = w.heap.size + 1) (p := ⟨w.heap.size + 1, 0 + 1, none⟩) (Or.inr (Or.inr rfl)) _
            refine ⟨hPr.off o1 (fun k hk e => by have := hft k hk; omega), (HT.out.1).trans ?_⟩
            exact (hoT.below (by omega) (fun k e => by omega)).trans (o1.below (by omega) (fun k e => by omega))
          have z1 : ∀ a b : Value, ((wr.setCell ⟨w.heap.size + 1, 0, none⟩ a).setCell ⟨w.heap.size + 1, 0 + 1, none⟩ b).cell? ⟨w.heap.size + 1, 0, none⟩ = some a := fun a b => by rw [World.cell?_setCell_other _ _ _ _ (by simp)]; exact World.cell?_setCell_same _ _ _ hr0
          have z2 : ∀ a b : Value, ((wr.setCell ⟨w.heap.size + 1, 0, none⟩ a).setCell ⟨w.heap.size + 1, 0 + 1, none⟩ b).cell? ⟨w.heap.size + 1, 0 + 1, none⟩ = some b := fun a b => World.cell?_setCell_same _ _ _ (u := .pointer none) (by rw [World.cell?_setCell_other _ _ _ _ (by simp)]; exact hr1)
          clear hPr hoT hft e1 e2 e3 e4 hTs hoff2 HX2 HI
          go_wp2_with fail
          rw [rounds_succ]
          go_wp2_with fail
          refine bodyPost_ret (v := .tuple #[.agg #[.pointer (some ⟨K, 0, none⟩), .pointer (some ⟨R, 0, none⟩)], .bool true]) (by simp [results, Try.results16, go_sem, z1, z2]) rfl ⟨K, R, u0, u1, v, rfl, HF.out _ _⟩
end Go.Proofs.Ytlgjjemfckmidaa

/-
  The law's 'beyond', of areas and calls.
-/
namespace Go.Proofs.Ytlgjjemfckmidaa
open Go.RowKit

def BAny (e : Ending) : Prop := ∃ b, e = .returned (.bool b)
set_option maxRecDepth 100000 in
set_option maxHeartbeats 4000000 in
theorem beyond_areas {p0 p1 : Option Addr} {m0 m1 c0 c1 : Nat} {ao : Option Addr} {xs : List Opv} {cap : Nat} (w : World) (hO : Ops w ao xs) (hl : xs.length ≤ maxLen) (hp : ∀ y ∈ xs, y.pl ≤ 140737488355328) (l0 : m0 ≤ 16777216) (l1 : m1 ≤ 16777216) :
    Calls Try.prog 8 #[.agg #[.slice p0 m0 c0, .slice p1 m1 c1], .slice ao xs.length cap] w fun e w' => BAny e ∧ Below w.heap.size w w' := by
  have HO : Hid (Ops (w.alloc (.cells #[.slice p0 m0 c0, .slice p1 m1 c1] 26)) ao xs) := hO.below ((Below.refl _ _).alloc (Nat.le_refl _) _)
  have HP : Hid (∀ y ∈ xs, y.pl ≤ 140737488355328) := hp
  unfold maxLen at hl
  clear hO hp
  go_enter Try.func8, Try.ntmps8
  go_wp2_with fail
  refine wp_loop_rounds 3 ?_
  rw [rounds_succ]
  go_wp2_with fail
  rw [rounds_succ]
  go_wp2_with fail
  rw [rounds_succ]
  go_wp2_with fail
  obtain ⟨W0, hW0⟩ : ∃ W0, (w.alloc (.cells #[.slice p0 m0 c0, .slice p1 m1 c1] 26)) = W0 := ⟨_, rfl⟩
  have HW : Hid (Below w.heap.size w W0) := by unfold Hid; rw [← hW0]; exact (Below.refl _ _).alloc (Nat.le_refl _) _
  rw [hW0] at HO ⊢
  clear hW0
  go_loopw [5, 7] (fun tn ti wx => ∃ k m : Nat, k ≤ xs.length ∧ ti = .int .i64 k ∧ tn = .int .i64 m ∧ m ≤ 2147483647 ∧ Hid (Below W0.heap.size W0 wx)) (fun _ ti _ => xs.length - (intOf ti).toNat)
  case atStart => exact ⟨0, m0 + m1, Nat.zero_le _, rfl, by go_num, by omega, Below.refl _ _⟩
  case round =>
    obtain ⟨k, m, hk, rfl, rfl, hm, HB⟩ := hrel
    by_cases hlt : k < xs.length
    · obtain ⟨x, hx⟩ : ∃ x, xs[k]? = some x := ⟨_, List.getElem?_eq_getElem hlt⟩
      obtain ⟨b, off, rfl, hat⟩ := HO.out k x hx
      have hat := hat.below HB.out
      have hpl := HP.out x (List.mem_of_getElem? hx)
      have cl0 := hat.c0
      have cl3 := hat.c3
      have cl4 := hat.c4
      clear hx hat
      have hlt1 : (k : Int) < xs.length := by omega
      by_cases g1 : x.kd = 9
      · have g1b : (x.kd == 9) = true := by simpa using g1
        go_wp2_with fail
        refine (fill_any _ _).mono ?_
        rintro e w1 ⟨⟨fa, fm, fc, rfl, hfm⟩, b1⟩
        have HB1 : Hid (Below W0.heap.size W0 w1) := below_then HB.out b1
        clear b1
        by_cases g2 : 2147483647 < (m : Int) + x.pl + fm
        · go_wp2_with fail
          go_ret
          exact ⟨⟨true, rfl⟩, HW.out.trans (HB1.out.mono HW.out.size)⟩
        · go_wp2_with fail
          go_roundw
          case rel =>
            exact ⟨k + 1, m + x.pl + fm, hlt, by go_num, by go_num, by omega, HB1.out⟩
          case measure => simp [intOf]; omega
      · have g1b : (x.kd == 9) = false := by simpa using g1
        by_cases g2 : 2147483647 < (m : Int) + x.pl
        · go_wp2_with fail
          go_ret
          exact ⟨⟨true, rfl⟩, HW.out.trans (HB.out.mono HW.out.size)⟩
        · go_wp2_with fail
          go_roundw
          case rel =>
            exact ⟨k + 1, m + x.pl, hlt, by go_num, by go_num, by omega, HB.out⟩
          case measure => simp [intOf]; omega
    · have hlt1 : ¬ ((k : Int) < xs.length) := by omega
      have hm2 : ¬ (2147483647 < (m : Int)) := by omega
      go_wp2_with fail
      go_ret
      exact ⟨⟨false, rfl⟩, HW.out.trans (HB.out.mono HW.out.size)⟩
end Go.Proofs.Ytlgjjemfckmidaa
