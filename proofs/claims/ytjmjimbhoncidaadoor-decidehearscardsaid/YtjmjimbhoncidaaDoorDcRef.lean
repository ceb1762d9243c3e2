/-
  The document's leaves: Right, sent, commit, app, ear, fits, verdict, kept.
-/
import Derived.Test.YtjmjimbhoncidaaDoorDcSpec
import Derived.BigQuiet
import Derived.Deep.QuietTactic
import Derived.Deep.RegionWith
namespace Go.Proofs.YtjmjimbhoncidaaDoor
open Go.RowKit

theorem ret_bool {a b : Bool} (h : a = b) : Ending.returned (.bool a) = .returned (.bool b) := by rw [h]
theorem ret_int {k : IntKind} {a b : Int} (h : a = b) : Ending.returned (.int k a) = .returned (.int k b) := by rw [h]
theorem below_then {w a b : World} (h : Below w.heap.size w a) (g : Below a.heap.size a b) : Below w.heap.size w b := h.trans (g.mono h.size)
theorem ok_of {e : Bool} {a p : Int} (h : okB e a p = true) : 0 ≤ a ∧ a ≤ 3 ∧ 0 ≤ p ∧ p ≤ 3 ∧ (e = true ∨ (a = 0 ∧ p = 0)) := by
  unfold okB at h
  simp at h
  obtain ⟨⟨h1, h2, h3, h4⟩, h5⟩ := h
  exact ⟨h1, h2, h3, h4, h5⟩
/-- A block of one's own. -/
structure Box (w : World) (b : Nat) (cs : Array Value) : Prop where
  lt : b < w.heap.size
  cell : ∀ o, w.cell? ⟨b, o, none⟩ = cs[o]?
  free : ∀ o, w.frozen? ⟨b, o, none⟩ = false
theorem cell_new (w : World) (cs : Array Value) (t : TypeId) (j : Nat) : (w.alloc (.cells cs t)).cell? ⟨w.heap.size, j, none⟩ = cs[j]? := by
  have hb : (w.alloc (.cells cs t)).heap[w.heap.size]? = some (.cells cs t) := by show (w.heap.push _)[w.heap.size]? = _; simp
  unfold World.cell?
  rw [hb]
  rfl
theorem Box.new (w : World) (cs : Array Value) (t : TypeId) : Box (w.alloc (.cells cs t)) w.heap.size cs :=
  ⟨by simp, cell_new w cs t, fun o => by simp⟩
theorem Box.below {w w' : World} {b : Nat} {cs : Array Value} (h : Box w b cs) (hb : Below w.heap.size w w') : Box w' b cs :=
  ⟨Nat.lt_of_lt_of_le h.lt hb.size, fun o => by rw [hb.cell (p := ⟨b, o, none⟩) h.lt]; exact h.cell o, fun o => by rw [hb.frozen (p := ⟨b, o, none⟩) h.lt]; exact h.free o⟩
theorem Box.alloc {w : World} {b : Nat} {cs : Array Value} (h : Box w b cs) (x : Obj) : Box (w.alloc x) b cs := h.below ((Below.refl _ _).alloc (Nat.le_refl _) _)
set_option maxHeartbeats 1000000 in
theorem rRight_any (e : Bool) (a p : Int) (w : World) : Calls Tryd.prog 45 #[.agg #[.bool e, .int .i64 a, .int .i64 p]] w fun r w' => r = .returned (.bool (okB e a p)) ∧ Below w.heap.size w w' := by
  cases e
  all_goals
    go_enter Tryd.func45, Tryd.ntmps45
    go_wp2
    all_goals (go_ret; exact ⟨ret_bool (by unfold okB; rw [Bool.eq_iff_iff]; simp; try (first | omega | (intros; omega))), (Below.refl _ _).alloc (Nat.le_refl _) _⟩)
set_option maxHeartbeats 1000000 in
theorem rCommit_any (e : Bool) (a p : Int) (w : World) : Calls Tryd.prog 50 #[.agg #[.bool e, .int .i64 a, .int .i64 p]] w fun r w' => r = .returned (.bool (caB e a)) ∧ Below w.heap.size w w' := by
  cases e
  all_goals
    go_enter Tryd.func50, Tryd.ntmps50
    go_wp2
    all_goals (go_ret; exact ⟨ret_bool (by unfold caB; rw [Bool.eq_iff_iff]; simp; try (first | omega | (intros; omega))), (Below.refl _ _).alloc (Nat.le_refl _) _⟩)
set_option maxHeartbeats 1000000 in
theorem rApp_any (e : Bool) (a p : Int) (w : World) : Calls Tryd.prog 51 #[.agg #[.bool e, .int .i64 a, .int .i64 p]] w fun r w' => r = .returned (.bool (aaB e p)) ∧ Below w.heap.size w w' := by
  cases e
  all_goals
    go_enter Tryd.func51, Tryd.ntmps51
    go_wp2
    all_goals (go_ret; exact ⟨ret_bool (by unfold aaB; rw [Bool.eq_iff_iff]; simp; try (first | omega | (intros; omega))), (Below.refl _ _).alloc (Nat.le_refl _) _⟩)
theorem sent_1 (e : Bool) (a p : Int) : sentB e a p ⟨#[67, 65]⟩ = caB e a := by unfold sentB; rw [show codeN ⟨#[67, 65]⟩ = 1 by decide]; rfl
set_option maxHeartbeats 1000000 in
theorem rSent_1 (e : Bool) (a p : Int) (w : World) : Calls Tryd.prog 48 #[.agg #[.bool e, .int .i64 a, .int .i64 p], .string ⟨#[67, 65]⟩] w fun r w' => r = .returned (.bool (caB e a)) ∧ Below w.heap.size w w' := by
  cases e
  all_goals
    go_enter Tryd.func48, Tryd.ntmps48
    go_wp2
    all_goals (go_ret; exact ⟨ret_bool (by unfold caB; rw [Bool.eq_iff_iff]; simp; try (first | omega | (intros; omega))), (Below.refl _ _).alloc (Nat.le_refl _) _⟩)
theorem sent_2 (e : Bool) (a p : Int) : sentB e a p ⟨#[67, 69]⟩ = ceB e a := by unfold sentB; rw [show codeN ⟨#[67, 69]⟩ = 2 by decide]; rfl
set_option maxHeartbeats 1000000 in
theorem rSent_2 (e : Bool) (a p : Int) (w : World) : Calls Tryd.prog 48 #[.agg #[.bool e, .int .i64 a, .int .i64 p], .string ⟨#[67, 69]⟩] w fun r w' => r = .returned (.bool (ceB e a)) ∧ Below w.heap.size w w' := by
  cases e
  all_goals
    go_enter Tryd.func48, Tryd.ntmps48
    go_wp2
    all_goals (go_ret; exact ⟨ret_bool (by unfold ceB; rw [Bool.eq_iff_iff]; simp; try (first | omega | (intros; omega))), (Below.refl _ _).alloc (Nat.le_refl _) _⟩)
theorem sent_3 (e : Bool) (a p : Int) : sentB e a p ⟨#[67, 82]⟩ = ceB e a := by unfold sentB; rw [show codeN ⟨#[67, 82]⟩ = 3 by decide]; rfl
set_option maxHeartbeats 1000000 in
theorem rSent_3 (e : Bool) (a p : Int) (w : World) : Calls Tryd.prog 48 #[.agg #[.bool e, .int .i64 a, .int .i64 p], .string ⟨#[67, 82]⟩] w fun r w' => r = .returned (.bool (ceB e a)) ∧ Below w.heap.size w w' := by
  cases e
  all_goals
    go_enter Tryd.func48, Tryd.ntmps48
    go_wp2
    all_goals (go_ret; exact ⟨ret_bool (by unfold ceB; rw [Bool.eq_iff_iff]; simp; try (first | omega | (intros; omega))), (Below.refl _ _).alloc (Nat.le_refl _) _⟩)
theorem sent_4 (e : Bool) (a p : Int) : sentB e a p ⟨#[65, 65]⟩ = aaB e p := by unfold sentB; rw [show codeN ⟨#[65, 65]⟩ = 4 by decide]; rfl
set_option maxHeartbeats 1000000 in
theorem rSent_4 (e : Bool) (a p : Int) (w : World) : Calls Tryd.prog 48 #[.agg #[.bool e, .int .i64 a, .int .i64 p], .string ⟨#[65, 65]⟩] w fun r w' => r = .returned (.bool (aaB e p)) ∧ Below w.heap.size w w' := by
  cases e
  all_goals
    go_enter Tryd.func48, Tryd.ntmps48
    go_wp2
    all_goals (go_ret; exact ⟨ret_bool (by unfold aaB; rw [Bool.eq_iff_iff]; simp; try (first | omega | (intros; omega))), (Below.refl _ _).alloc (Nat.le_refl _) _⟩)
theorem sent_5 (e : Bool) (a p : Int) : sentB e a p ⟨#[65, 69]⟩ = aeB e p := by unfold sentB; rw [show codeN ⟨#[65, 69]⟩ = 5 by decide]; rfl
set_option maxHeartbeats 1000000 in
theorem rSent_5 (e : Bool) (a p : Int) (w : World) : Calls Tryd.prog 48 #[.agg #[.bool e, .int .i64 a, .int .i64 p], .string ⟨#[65, 69]⟩] w fun r w' => r = .returned (.bool (aeB e p)) ∧ Below w.heap.size w w' := by
  cases e
  all_goals
    go_enter Tryd.func48, Tryd.ntmps48
    go_wp2
    all_goals (go_ret; exact ⟨ret_bool (by unfold aeB; rw [Bool.eq_iff_iff]; simp; try (first | omega | (intros; omega))), (Below.refl _ _).alloc (Nat.le_refl _) _⟩)
theorem sent_6 (e : Bool) (a p : Int) : sentB e a p ⟨#[65, 82]⟩ = aeB e p := by unfold sentB; rw [show codeN ⟨#[65, 82]⟩ = 6 by decide]; rfl
set_option maxHeartbeats 1000000 in
theorem rSent_6 (e : Bool) (a p : Int) (w : World) : Calls Tryd.prog 48 #[.agg #[.bool e, .int .i64 a, .int .i64 p], .string ⟨#[65, 82]⟩] w fun r w' => r = .returned (.bool (aeB e p)) ∧ Below w.heap.size w w' := by
  cases e
  all_goals
    go_enter Tryd.func48, Tryd.ntmps48
    go_wp2
    all_goals (go_ret; exact ⟨ret_bool (by unfold aeB; rw [Bool.eq_iff_iff]; simp; try (first | omega | (intros; omega))), (Below.refl _ _).alloc (Nat.le_refl _) _⟩)
set_option maxHeartbeats 1000000 in
theorem rSent_0 (e : Bool) (a p : Int) (s : ByteArray) (w : World) (h : Oth s) : Calls Tryd.prog 48 #[.agg #[.bool e, .int .i64 a, .int .i64 p], .string s] w fun r w' => r = .returned (.bool false) ∧ Below w.heap.size w w' := by
  obtain ⟨h1, h2, h3, h4, h5, h6⟩ := h
  go_enter Tryd.func48, Tryd.ntmps48
  go_wp2
  all_goals (go_ret; exact ⟨rfl, (Below.refl _ _).alloc (Nat.le_refl _) _⟩)
theorem rSent_any (e : Bool) (a p : Int) (s : ByteArray) (w : World) : Calls Tryd.prog 48 #[.agg #[.bool e, .int .i64 a, .int .i64 p], .string s] w fun r w' => r = .returned (.bool (sentB e a p s)) ∧ Below w.heap.size w w' := by
  rcases code_cases s with rfl | rfl | rfl | rfl | rfl | rfl | ⟨h, h0⟩
  · exact rSent_1 e a p w
  · rw [sent_2]; exact rSent_2 e a p w
  · rw [sent_3]; exact rSent_3 e a p w
  · rw [sent_4]; exact rSent_4 e a p w
  · rw [sent_5]; exact rSent_5 e a p w
  · rw [sent_6]; exact rSent_6 e a p w
  · unfold sentB; rw [h0]; exact rSent_0 e a p s w h
set_option maxHeartbeats 2000000 in
theorem rEar_any (e : Bool) (a p : Int) (came : Bool) (w : World) : Calls Tryd.prog 52 #[.agg #[.bool e, .int .i64 a, .int .i64 p], .bool came] w fun r w' => r = .returned (.bool (earB e a p came)) ∧ Below w.heap.size w w' := by
  cases e with
  | false =>
    go_enter Tryd.func52, Tryd.ntmps52
    go_wp2
    all_goals (go_ret; exact ⟨rfl, (Below.refl _ _).alloc (Nat.le_refl _) _⟩)
  | true =>
    obtain ⟨q1, hq1⟩ : ∃ q, aaB true p = q := ⟨_, rfl⟩
    obtain ⟨q2, hq2⟩ : ∃ q, caB true a = q := ⟨_, rfl⟩
    have c1 : ∀ w, Calls Tryd.prog 51 #[.agg #[.bool true, .int .i64 a, .int .i64 p]] w fun r w' => r = .returned (.bool q1) ∧ Below w.heap.size w w' := fun w => by have := rApp_any true a p w; rw [hq1] at this; exact this
    have c2 : ∀ w, Calls Tryd.prog 50 #[.agg #[.bool true, .int .i64 a, .int .i64 p]] w fun r w' => r = .returned (.bool q2) ∧ Below w.heap.size w w' := fun w => by have := rCommit_any true a p w; rw [hq2] at this; exact this
    unfold earB
    rw [hq1, hq2]
    clear hq1 hq2
    go_enter Tryd.func52, Tryd.ntmps52
    go_wp2_with fail
    refine (c1 _).mono ?_
    rintro _ w1 ⟨rfl, b1⟩
    have HB1 : Hid (Below w.heap.size w w1) := below_then ((Below.refl _ _).alloc (Nat.le_refl _) _) b1
    obtain ⟨l1, k1, f1⟩ := (Box.new w #[.bool true, .int .i64 a, .int .i64 p] 23).below b1
    clear b1 c1 f1
    cases q1 with
    | true =>
      go_wp2_with fail
      all_goals (go_ret; exact ⟨rfl, HB1.out⟩)
    | false =>
      go_wp2_with fail
      refine (c2 _).mono ?_
      rintro _ w2 ⟨rfl, b2⟩
      have HB2 : Hid (Below w.heap.size w w2) := below_then HB1.out b2
      have k2 : ∀ o, w2.cell? ⟨w.heap.size, o, none⟩ = ((#[.bool true, .int .i64 a, .int .i64 p] : Array Value))[o]? := fun o => (b2.cell (p := ⟨w.heap.size, o, none⟩) l1).trans (k1 o)
      clear b2 c2 k1 l1 HB1
      cases q2 <;> cases came <;>
      (go_wp2_with fail
       all_goals (go_ret; exact ⟨ret_bool (by first | rfl | (rw [Bool.eq_iff_iff]; simp; done) | (rw [Bool.eq_iff_iff]; simp; omega)), HB2.out⟩))
set_option maxHeartbeats 1000000 in
theorem rVerdict_any (s : ByteArray) (w : World) : Calls Tryd.prog 59 #[.string s] w fun r w' => r = .returned (.bool (verB s)) ∧ Below w.heap.size w w' := by
  go_enter Tryd.func59, Tryd.ntmps59
  go_wp2
  all_goals (go_ret; exact ⟨ret_bool (by unfold verB; simp [*]), Below.refl _ _⟩)
set_option maxHeartbeats 1000000 in
theorem rKept_any (d : Bool) (s : ByteArray) (w : World) : Calls Tryd.prog 58 #[.agg #[.bool d, .string s]] w fun r w' => r = .returned (.bool (keptB d s)) ∧ Below w.heap.size w w' := by
  cases d with
  | true =>
    show Calls _ _ _ w fun r w' => r = .returned (.bool (verB s)) ∧ Below w.heap.size w w'
    obtain ⟨q, hq⟩ : ∃ q, verB s = q := ⟨_, rfl⟩
    have c1 : ∀ w, Calls Tryd.prog 59 #[.string s] w fun r w' => r = .returned (.bool q) ∧ Below w.heap.size w w' := fun w => by have := rVerdict_any s w; rw [hq] at this; exact this
    rw [hq]
    clear hq
    go_enter Tryd.func58, Tryd.ntmps58
    go_wp2_with fail
    refine (c1 _).mono ?_
    rintro _ w1 ⟨rfl, b1⟩
    have HB1 : Hid (Below w.heap.size w w1) := below_then ((Below.refl _ _).alloc (Nat.le_refl _) _) b1
    clear b1 c1
    go_wp2_with fail
    go_ret
    exact ⟨rfl, HB1.out⟩
  | false =>
    show Calls _ _ _ w fun r w' => r = .returned (.bool s.toList.isEmpty) ∧ Below w.heap.size w w'
    go_enter Tryd.func58, Tryd.ntmps58
    go_wp2
    all_goals (go_ret; exact ⟨rfl, (Below.refl _ _).alloc (Nat.le_refl _) _⟩)
end Go.Proofs.YtjmjimbhoncidaaDoor
