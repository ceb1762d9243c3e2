import Derived.Test.YtkngafnfenmfeaaDoorDcSpec
import Derived.BigQuiet
import Derived.Deep.QuietTactic
import Derived.Deep.RegionWith
import Derived.LoopTactic
import Derived.Laws.Cells
/-
  The document's leaves: Right, sent, commit, app, ear, fits, verdict, kept.
-/
namespace Go.Proofs.YtkngafnfenmfeaaDoor
open Go.RowKit

theorem ret_bool {a b : Bool} (h : a = b) : Ending.returned (.bool a) = .returned (.bool b) := by rw [h]
theorem ret_int {k : IntKind} {a b : Int} (h : a = b) : Ending.returned (.int k a) = .returned (.int k b) := by rw [h]
theorem below_then {w a b : World} (h : Below w.heap.size w a) (g : Below a.heap.size a b) : Below w.heap.size w b := h.trans (g.mono h.size)
theorem ok_of {e : Bool} {a p : Int} (h : okB e a p = true) : 0 ≤ a ∧ a ≤ 3 ∧ 0 ≤ p ∧ p ≤ 3 ∧ (e = true ∨ (a = 0 ∧ p = 0)) := by
  unfold okB at h
  simp at h
  obtain ⟨⟨h1, h2, h3, h4⟩, h5⟩ := h
  exact ⟨h1, h2, h3, h4, h5⟩
/-- A block of one's own. -/
structure Box (w : World) (b : Nat) (cs : Array Value) : Prop where
  lt : b < w.heap.size
  cell : ∀ o, w.cell? ⟨b, o, none⟩ = cs[o]?
  free : ∀ o, w.frozen? ⟨b, o, none⟩ = false
theorem cell_new (w : World) (cs : Array Value) (t : TypeId) (j : Nat) : (w.alloc (.cells cs t)).cell? ⟨w.heap.size, j, none⟩ = cs[j]? := by
  have hb : (w.alloc (.cells cs t)).heap[w.heap.size]? = some (.cells cs t) := by show (w.heap.push _)[w.heap.size]? = _; simp
  unfold World.cell?
  rw [hb]
  rfl
theorem Box.new (w : World) (cs : Array Value) (t : TypeId) : Box (w.alloc (.cells cs t)) w.heap.size cs :=
  ⟨by simp, cell_new w cs t, fun o => by simp⟩
theorem Box.below {w w' : World} {b : Nat} {cs : Array Value} (h : Box w b cs) (hb : Below w.heap.size w w') : Box w' b cs :=
  ⟨Nat.lt_of_lt_of_le h.lt hb.size, fun o => by rw [hb.cell (p := ⟨b, o, none⟩) h.lt]; exact h.cell o, fun o => by rw [hb.frozen (p := ⟨b, o, none⟩) h.lt]; exact h.free o⟩
theorem Box.alloc {w : World} {b : Nat} {cs : Array Value} (h : Box w b cs) (x : Obj) : Box (w.alloc x) b cs := h.below ((Below.refl _ _).alloc (Nat.le_refl _) _)
set_option maxHeartbeats 1000000 in
theorem rRight_any (e : Bool) (a p : Int) (w : World) : Calls Tryd.prog 74 #[.agg #[.bool e, .int .i64 a, .int .i64 p]] w fun r w' => r = .returned (.bool (okB e a p)) ∧ Below w.heap.size w w' := by
  cases e
  all_goals
    go_enter Tryd.func74, Tryd.ntmps74
    go_wp2
    all_goals (go_ret; exact ⟨ret_bool (by unfold okB; rw [Bool.eq_iff_iff]; simp; try (first | omega | (intros; omega))), (Below.refl _ _).alloc (Nat.le_refl _) _⟩)
theorem sent_1 (e : Bool) (a p : Int) : sentB e a p ⟨#[67, 65]⟩ = caB e a := by unfold sentB; rw [show codeN ⟨#[67, 65]⟩ = 1 by decide]; rfl
set_option maxHeartbeats 1000000 in
theorem rSent_1 (e : Bool) (a p : Int) (w : World) : Calls Tryd.prog 111 #[.agg #[.bool e, .int .i64 a, .int .i64 p], .string ⟨#[67, 65]⟩] w fun r w' => r = .returned (.bool (caB e a)) ∧ Below w.heap.size w w' := by
  cases e
  all_goals
    go_enter Tryd.func111, Tryd.ntmps111
    go_wp2
    all_goals (go_ret; exact ⟨ret_bool (by unfold caB; rw [Bool.eq_iff_iff]; simp; try (first | omega | (intros; omega))), (Below.refl _ _).alloc (Nat.le_refl _) _⟩)
theorem sent_2 (e : Bool) (a p : Int) : sentB e a p ⟨#[67, 69]⟩ = ceB e a := by unfold sentB; rw [show codeN ⟨#[67, 69]⟩ = 2 by decide]; rfl
set_option maxHeartbeats 1000000 in
theorem rSent_2 (e : Bool) (a p : Int) (w : World) : Calls Tryd.prog 111 #[.agg #[.bool e, .int .i64 a, .int .i64 p], .string ⟨#[67, 69]⟩] w fun r w' => r = .returned (.bool (ceB e a)) ∧ Below w.heap.size w w' := by
  cases e
  all_goals
    go_enter Tryd.func111, Tryd.ntmps111
    go_wp2
    all_goals (go_ret; exact ⟨ret_bool (by unfold ceB; rw [Bool.eq_iff_iff]; simp; try (first | omega | (intros; omega))), (Below.refl _ _).alloc (Nat.le_refl _) _⟩)
theorem sent_3 (e : Bool) (a p : Int) : sentB e a p ⟨#[67, 82]⟩ = ceB e a := by unfold sentB; rw [show codeN ⟨#[67, 82]⟩ = 3 by decide]; rfl
set_option maxHeartbeats 1000000 in
theorem rSent_3 (e : Bool) (a p : Int) (w : World) : Calls Tryd.prog 111 #[.agg #[.bool e, .int .i64 a, .int .i64 p], .string ⟨#[67, 82]⟩] w fun r w' => r = .returned (.bool (ceB e a)) ∧ Below w.heap.size w w' := by
  cases e
  all_goals
    go_enter Tryd.func111, Tryd.ntmps111
    go_wp2
    all_goals (go_ret; exact ⟨ret_bool (by unfold ceB; rw [Bool.eq_iff_iff]; simp; try (first | omega | (intros; omega))), (Below.refl _ _).alloc (Nat.le_refl _) _⟩)
theorem sent_4 (e : Bool) (a p : Int) : sentB e a p ⟨#[65, 65]⟩ = aaB e p := by unfold sentB; rw [show codeN ⟨#[65, 65]⟩ = 4 by decide]; rfl
set_option maxHeartbeats 1000000 in
theorem rSent_4 (e : Bool) (a p : Int) (w : World) : Calls Tryd.prog 111 #[.agg #[.bool e, .int .i64 a, .int .i64 p], .string ⟨#[65, 65]⟩] w fun r w' => r = .returned (.bool (aaB e p)) ∧ Below w.heap.size w w' := by
  cases e
  all_goals
    go_enter Tryd.func111, Tryd.ntmps111
    go_wp2
    all_goals (go_ret; exact ⟨ret_bool (by unfold aaB; rw [Bool.eq_iff_iff]; simp; try (first | omega | (intros; omega))), (Below.refl _ _).alloc (Nat.le_refl _) _⟩)
theorem sent_5 (e : Bool) (a p : Int) : sentB e a p ⟨#[65, 69]⟩ = aeB e p := by unfold sentB; rw [show codeN ⟨#[65, 69]⟩ = 5 by decide]; rfl
set_option maxHeartbeats 1000000 in
theorem rSent_5 (e : Bool) (a p : Int) (w : World) : Calls Tryd.prog 111 #[.agg #[.bool e, .int .i64 a, .int .i64 p], .string ⟨#[65, 69]⟩] w fun r w' => r = .returned (.bool (aeB e p)) ∧ Below w.heap.size w w' := by
  cases e
  all_goals
    go_enter Tryd.func111, Tryd.ntmps111
    go_wp2
    all_goals (go_ret; exact ⟨ret_bool (by unfold aeB; rw [Bool.eq_iff_iff]; simp; try (first | omega | (intros; omega))), (Below.refl _ _).alloc (Nat.le_refl _) _⟩)
theorem sent_6 (e : Bool) (a p : Int) : sentB e a p ⟨#[65, 82]⟩ = aeB e p := by unfold sentB; rw [show codeN ⟨#[65, 82]⟩ = 6 by decide]; rfl
set_option maxHeartbeats 1000000 in
theorem rSent_6 (e : Bool) (a p : Int) (w : World) : Calls Tryd.prog 111 #[.agg #[.bool e, .int .i64 a, .int .i64 p], .string ⟨#[65, 82]⟩] w fun r w' => r = .returned (.bool (aeB e p)) ∧ Below w.heap.size w w' := by
  cases e
  all_goals
    go_enter Tryd.func111, Tryd.ntmps111
    go_wp2
    all_goals (go_ret; exact ⟨ret_bool (by unfold aeB; rw [Bool.eq_iff_iff]; simp; try (first | omega | (intros; omega))), (Below.refl _ _).alloc (Nat.le_refl _) _⟩)
set_option maxHeartbeats 1000000 in
theorem rSent_0 (e : Bool) (a p : Int) (s : ByteArray) (w : World) (h : Oth s) : Calls Tryd.prog 111 #[.agg #[.bool e, .int .i64 a, .int .i64 p], .string s] w fun r w' => r = .returned (.bool false) ∧ Below w.heap.size w w' := by
  obtain ⟨h1, h2, h3, h4, h5, h6⟩ := h
  go_enter Tryd.func111, Tryd.ntmps111
  go_wp2
  all_goals (go_ret; exact ⟨rfl, (Below.refl _ _).alloc (Nat.le_refl _) _⟩)
theorem rSent_any (e : Bool) (a p : Int) (s : ByteArray) (w : World) : Calls Tryd.prog 111 #[.agg #[.bool e, .int .i64 a, .int .i64 p], .string s] w fun r w' => r = .returned (.bool (sentB e a p s)) ∧ Below w.heap.size w w' := by
  rcases code_cases s with rfl | rfl | rfl | rfl | rfl | rfl | ⟨h, h0⟩
  · exact rSent_1 e a p w
  · rw [sent_2]; exact rSent_2 e a p w
  · rw [sent_3]; exact rSent_3 e a p w
  · rw [sent_4]; exact rSent_4 e a p w
  · rw [sent_5]; exact rSent_5 e a p w
  · rw [sent_6]; exact rSent_6 e a p w
  · unfold sentB; rw [h0]; exact rSent_0 e a p s w h
end Go.Proofs.YtkngafnfenmfeaaDoor

/-
  Errors of layer "decide", lists of acts in memory; the law's refused, same.
-/
namespace Go.Proofs.YtkngafnfenmfeaaDoor
open Go.RowKit

theorem cell_lt {w : World} {a : Addr} {v : Value} (h : w.cell? a = some v) : a.block < w.heap.size := by
  rcases Nat.lt_or_ge a.block w.heap.size with g | g
  · exact g
  · simp [World.cell?, Array.getElem?_eq_none g] at h
/-- The cells of a fault of layer "decide". -/
def DFault (w : World) (b : Nat) (a code : Int) : Prop :=
  w.cell? ⟨b, 0, none⟩ = some (.string ⟨#[100, 101, 99, 105, 100, 101]⟩) ∧ w.cell? ⟨b, 1, none⟩ = some (.int .i64 a) ∧ w.cell? ⟨b, 2, none⟩ = some (.int .i64 code) ∧ w.cell? ⟨b, 3, none⟩ = some .nilIface
theorem DFault.below {w w' : World} {b : Nat} {a c : Int} (h : DFault w b a c) (hb : Below w.heap.size w w') : DFault w' b a c := by
  have hl : b < w.heap.size := cell_lt h.1
  have hc : ∀ o, w'.cell? ⟨b, o, none⟩ = w.cell? ⟨b, o, none⟩ := fun o => hb.cell (p := ⟨b, o, none⟩) hl
  exact ⟨by rw [hc]; exact h.1, by rw [hc]; exact h.2.1, by rw [hc]; exact h.2.2.1, by rw [hc]; exact h.2.2.2⟩
/-- An error that is just that: none where the number is 0. -/
def Ev (w : World) (v : Value) (a code : Int) : Prop := (v = .nilIface ∧ code = 0) ∨ (code ≠ 0 ∧ ∃ b, v = .iface 116 (.pointer (some ⟨b, 0, none⟩)) ∧ DFault w b a code)
theorem Ev.below {w w' : World} {v : Value} {a c : Int} (h : Ev w v a c) (hb : Below w.heap.size w w') : Ev w' v a c := by
  rcases h with h | ⟨h0, b, h1, h2⟩
  · exact Or.inl h
  · exact Or.inr ⟨h0, b, h1, h2.below hb⟩
theorem Ev.drewN {w : World} {v : Value} {a c : Int} (h : Ev w v a c) (n : Nat) : Ev (w.drewN n) v a c := h
theorem asFault (v : Value) (xT : TypeId) (w : World) : (Instr.typeAssert (.iface 116 v) xT 116 true).run Tryd.prog w = .ok (.tuple #[v, .bool true]) w := by
  simp [Instr.typeAssert, run_underlying Tryd.underlying116, go_sem, Result.andThen]
/-- A list of acts in memory, from block N on. -/
def Acts (w : World) (N : Nat) (v : Value) (l : ActL) : Prop :=
  ∃ po cap, v = .slice po l.length cap ∧ l.length ≤ cap ∧ ∀ j y, l[j]? = some y → ∃ b o, po = some ⟨b, o, none⟩ ∧ N ≤ b ∧ b < w.heap.size ∧ w.cell? ⟨b, o + j * 2, none⟩ = some (.int .i64 y.1) ∧ w.cell? ⟨b, o + j * 2 + 1, none⟩ = some (.string y.2)
theorem Acts.below {w w' : World} {N : Nat} {v : Value} {l : ActL} (h : Acts w N v l) (hb : Below w.heap.size w w') : Acts w' N v l := by
  obtain ⟨po, cap, h1, h2, h3⟩ := h
  refine ⟨po, cap, h1, h2, fun j y hj => ?_⟩
  obtain ⟨b, o, e, hn, hl, c1, c2⟩ := h3 j y hj
  exact ⟨b, o, e, hn, Nat.lt_of_lt_of_le hl hb.size, by rw [hb.cell (p := ⟨b, o + j * 2, none⟩) hl]; exact c1, by rw [hb.cell (p := ⟨b, o + j * 2 + 1, none⟩) hl]; exact c2⟩
theorem Acts.nil (w : World) (N : Nat) : Acts w N (.slice none 0 0) [] := ⟨none, 0, rfl, Nat.le_refl _, fun j y h => by simp at h⟩
end Go.Proofs.YtkngafnfenmfeaaDoor
