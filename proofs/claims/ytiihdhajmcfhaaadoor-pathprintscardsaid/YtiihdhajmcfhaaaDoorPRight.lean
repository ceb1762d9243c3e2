/-
  Right places: the program's right and the document's Right.
-/
import Derived.Test.YtiihdhajmcfhaaaDoorPLeaf
import Derived.Lib.Strings
namespace Go.Proofs.YtiihdhajmcfhaaaDoor
open Go.RowKit

/-- An api.Place. -/
def plc (seg : ByteArray) (o f r c b : Int) : Value := .agg #[.string seg, .int .i64 o, .int .i64 f, .int .i64 r, .int .i64 c, .int .i64 b]
theorem eq_msh {seg : ByteArray} : (seg.toList == [77, 83, 72]) = decide (seg = MSHb) := by
  rw [Lib.toList_data]
  by_cases h : seg = MSHb
  · subst h; rfl
  · rw [decide_eq_false h]
    refine beq_eq_false_iff_ne.2 fun e => h ?_
    obtain ⟨⟨l⟩⟩ := seg
    simp at e
    subst e; rfl
set_option maxHeartbeats 1000000 in
theorem fixed_any (seg : ByteArray) (o f r c b : Int) (w : World) : Calls Tryd.prog 16 #[.agg #[.string seg, .int .i64 o, .int .i64 f, .int .i64 r, .int .i64 c, .int .i64 b]] w fun e w' => e = .returned (.bool (decide (seg = MSHb) && decide (f ≤ 2))) ∧ Below w.heap.size w w' := by
  obtain ⟨m, hm⟩ : ∃ m, decide (seg = MSHb) = m := ⟨_, rfl⟩
  have h1 : (seg.toList == [77, 83, 72]) = m := eq_msh.trans hm
  rw [hm]
  clear hm
  cases m with
  | true =>
    go_enter Tryd.func16, Tryd.ntmps16
    go_wp2_with fail
    go_ret
    exact ⟨ret_bool (by simp), (Below.refl _ _).alloc (Nat.le_refl _) _⟩
  | false =>
    go_enter Tryd.func16, Tryd.ntmps16
    go_wp2_with fail
    go_ret
    exact ⟨ret_bool (by simp), (Below.refl _ _).alloc (Nat.le_refl _) _⟩
theorem rgt_of {seg : ByteArray} {o f r c b : Int} {m q1 q2 q3 q4 q5 q6 e1 e2 e3 e4 e5 : Bool} (hm : decide (seg = MSHb) = m) (h1 : isN seg = q1) (h2 : inR o 128 = q2) (h3 : inR f (if m then 66 else 64) = q3) (h4 : inR r 32 = q4) (h5 : inR c 32 = q5) (h6 : inR b 16 = q6) (k1 : decide (o = 1) = e1) (k2 : decide (f ≤ 2) = e2) (k3 : decide (r = 1) = e3) (k4 : decide (c = 1) = e4) (k5 : decide (b = 1) = e5) :
    rgt seg o f r c b = (!(m && !e1) && !(m && e2 && !(e3 && e4 && e5)) && (q1 && q2 && q3 && q4 && q5 && q6)) := by
  have h3' : inR f (if seg = MSHb then 66 else 64) = q3 := by rw [← h3, ← hm]; simp
  unfold rgt; rw [hm, h1, h2, h3', h4, h5, h6, k1, k2, k3, k4, k5]
set_option maxHeartbeats 8000000 in
theorem right_any (seg : ByteArray) (o f r c b : Int) (w : World) : Calls Tryd.prog 7 #[.agg #[.string seg, .int .i64 o, .int .i64 f, .int .i64 r, .int .i64 c, .int .i64 b]] w fun e w' => e = .returned (.bool (rgt seg o f r c b)) ∧ Below w.heap.size w w' := by
  obtain ⟨m, hm⟩ : ∃ m, decide (seg = MSHb) = m := ⟨_, rfl⟩
  have hm1 : (seg.toList == [77, 83, 72]) = m := eq_msh.trans hm
  obtain ⟨q1, h1⟩ : ∃ q, isN seg = q := ⟨_, rfl⟩
  obtain ⟨q2, h2⟩ : ∃ q, inR o 128 = q := ⟨_, rfl⟩
  obtain ⟨q3, h3⟩ : ∃ q, inR f (if m then 66 else 64) = q := ⟨_, rfl⟩
  obtain ⟨q4, h4⟩ : ∃ q, inR r 32 = q := ⟨_, rfl⟩
  obtain ⟨q5, h5⟩ : ∃ q, inR c 32 = q := ⟨_, rfl⟩
  obtain ⟨q6, h6⟩ : ∃ q, inR b 16 = q := ⟨_, rfl⟩
  obtain ⟨e1, k1⟩ : ∃ q, decide (o = 1) = q := ⟨_, rfl⟩
  obtain ⟨e2, k2⟩ : ∃ q, decide (f ≤ 2) = q := ⟨_, rfl⟩
  obtain ⟨e3, k3⟩ : ∃ q, decide (r = 1) = q := ⟨_, rfl⟩
  obtain ⟨e4, k4⟩ : ∃ q, decide (c = 1) = q := ⟨_, rfl⟩
  obtain ⟨e5, k5⟩ : ∃ q, decide (b = 1) = q := ⟨_, rfl⟩
  rw [rgt_of hm h1 h2 h3 h4 h5 h6 k1 k2 k3 k4 k5]
  have l1 : (o == 1) = e1 := by rw [← k1]; rfl
  have l3 : (r == 1) = e3 := by rw [← k3]; rfl
  have l4 : (c == 1) = e4 := by rw [← k4]; rfl
  have l5 : (b == 1) = e5 := by rw [← k5]; rfl
  have c1 : ∀ w, Calls Tryd.prog 17 #[.string seg] w fun e w' => e = .returned (.bool q1) ∧ w' = w := fun w => by have := isName_any seg w; rw [h1] at this; exact this
  have c2 : ∀ w, Calls Tryd.prog 18 #[.int .i64 o, .int .i64 128] w fun e w' => e = .returned (.bool q2) ∧ w' = w := fun w => by have := within_any o 128 w; rw [h2] at this; exact this
  have c4 : ∀ w, Calls Tryd.prog 18 #[.int .i64 r, .int .i64 32] w fun e w' => e = .returned (.bool q4) ∧ w' = w := fun w => by have := within_any r 32 w; rw [h4] at this; exact this
  have c5 : ∀ w, Calls Tryd.prog 18 #[.int .i64 c, .int .i64 32] w fun e w' => e = .returned (.bool q5) ∧ w' = w := fun w => by have := within_any c 32 w; rw [h5] at this; exact this
  have c6 : ∀ w, Calls Tryd.prog 18 #[.int .i64 b, .int .i64 16] w fun e w' => e = .returned (.bool q6) ∧ w' = w := fun w => by have := within_any b 16 w; rw [h6] at this; exact this
  have c0 : ∀ w, Calls Tryd.prog 16 #[.agg #[.string seg, .int .i64 o, .int .i64 f, .int .i64 r, .int .i64 c, .int .i64 b]] w fun e w' => e = .returned (.bool (m && e2)) ∧ Below w.heap.size w w' := fun w => by have := fixed_any seg o f r c b w; rw [hm, k2] at this; exact this
  clear h1 h2 h4 h5 h6 hm k1 k3 k4 k5 k2
  go_enter Tryd.func7, Tryd.ntmps7
  cases m with
  | false =>
    simp only [Bool.false_and] at c0
    have c3 : ∀ w, Calls Tryd.prog 18 #[.int .i64 f, .int .i64 64] w fun e w' => e = .returned (.bool q3) ∧ w' = w := fun w => by have := within_any f 64 w; rw [show inR f 64 = q3 from h3] at this; exact this
    clear h3
    go_wp2_with fail
    refine (c0 _).mono ?_
    rintro e x1 ⟨rfl, hb⟩
    have HB : Hid (Below w.heap.size w x1) := below_then ((Below.refl _ _).alloc (Nat.le_refl _) _) hb
    have z0 : x1.cell? ⟨w.heap.size, 0, none⟩ = some (.string seg) := by rw [hb.cell (p := ⟨w.heap.size, 0, none⟩) (by simp)]; simp
    have z1 : x1.cell? ⟨w.heap.size, 1, none⟩ = some (.int .i64 o) := by rw [hb.cell (p := ⟨w.heap.size, 1, none⟩) (by simp)]; simp
    have z2 : x1.cell? ⟨w.heap.size, 2, none⟩ = some (.int .i64 f) := by rw [hb.cell (p := ⟨w.heap.size, 2, none⟩) (by simp)]; simp
    have z3 : x1.cell? ⟨w.heap.size, 3, none⟩ = some (.int .i64 r) := by rw [hb.cell (p := ⟨w.heap.size, 3, none⟩) (by simp)]; simp
    have z4 : x1.cell? ⟨w.heap.size, 4, none⟩ = some (.int .i64 c) := by rw [hb.cell (p := ⟨w.heap.size, 4, none⟩) (by simp)]; simp
    have z5 : x1.cell? ⟨w.heap.size, 5, none⟩ = some (.int .i64 b) := by rw [hb.cell (p := ⟨w.heap.size, 5, none⟩) (by simp)]; simp
    clear hb c0
    go_wp2_with fail
    refine (c1 _).mono ?_
    rintro e w1 ⟨rfl, rfl⟩
    cases q1 with
    | false =>
      go_wp2_with fail
      go_ret
      exact ⟨ret_bool (by simp), HB.out⟩
    | true =>
      go_wp2_with fail
      refine (c2 _).mono ?_
      rintro e w2 ⟨rfl, rfl⟩
      cases q2 with
      | false =>
        go_wp2_with fail
        go_ret
        exact ⟨ret_bool (by simp), HB.out⟩
      | true =>
        go_wp2_with fail
        refine (c3 _).mono ?_
        rintro e w3 ⟨rfl, rfl⟩
        cases q3 with
        | false =>
          go_wp2_with fail
          go_ret
          exact ⟨ret_bool (by simp), HB.out⟩
        | true =>
          go_wp2_with fail
          refine (c4 _).mono ?_
          rintro e w4 ⟨rfl, rfl⟩
          cases q4 with
          | false =>
            go_wp2_with fail
            go_ret
            exact ⟨ret_bool (by simp), HB.out⟩
          | true =>
            go_wp2_with fail
            refine (c5 _).mono ?_
            rintro e w5 ⟨rfl, rfl⟩
            cases q5 with
            | false =>
              go_wp2_with fail
              go_ret
              exact ⟨ret_bool (by simp), HB.out⟩
            | true =>
              go_wp2_with fail
              refine (c6 _).mono ?_
              rintro e w6 ⟨rfl, rfl⟩
              cases q6 with
              | false =>
                go_wp2_with fail
                go_ret
                exact ⟨ret_bool (by simp), HB.out⟩
              | true =>
                go_wp2_with fail
                go_ret
                exact ⟨ret_bool (by simp), HB.out⟩
  | true =>
    simp only [Bool.true_and] at c0
    have c3 : ∀ w, Calls Tryd.prog 18 #[.int .i64 f, .int .i64 66] w fun e w' => e = .returned (.bool q3) ∧ w' = w := fun w => by have := within_any f 66 w; rw [show inR f 66 = q3 from h3] at this; exact this
    clear h3
    cases e1 with
    | false =>
      have n1 : (o != 1) = true := by rw [bne, l1]; rfl
      go_wp2_with fail
      go_ret
      exact ⟨ret_bool (by simp), (Below.refl _ _).alloc (Nat.le_refl _) _⟩
    | true =>
      have n1 : (o != 1) = false := by rw [bne, l1]; rfl
      cases e2 with
      | false =>
        go_wp2_with fail
        refine (c0 _).mono ?_
        rintro e x1 ⟨rfl, hb⟩
        have HB : Hid (Below w.heap.size w x1) := below_then ((Below.refl _ _).alloc (Nat.le_refl _) _) hb
        have z0 : x1.cell? ⟨w.heap.size, 0, none⟩ = some (.string seg) := by rw [hb.cell (p := ⟨w.heap.size, 0, none⟩) (by simp)]; simp
        have z1 : x1.cell? ⟨w.heap.size, 1, none⟩ = some (.int .i64 o) := by rw [hb.cell (p := ⟨w.heap.size, 1, none⟩) (by simp)]; simp
        have z2 : x1.cell? ⟨w.heap.size, 2, none⟩ = some (.int .i64 f) := by rw [hb.cell (p := ⟨w.heap.size, 2, none⟩) (by simp)]; simp
        have z3 : x1.cell? ⟨w.heap.size, 3, none⟩ = some (.int .i64 r) := by rw [hb.cell (p := ⟨w.heap.size, 3, none⟩) (by simp)]; simp
        have z4 : x1.cell? ⟨w.heap.size, 4, none⟩ = some (.int .i64 c) := by rw [hb.cell (p := ⟨w.heap.size, 4, none⟩) (by simp)]; simp
        have z5 : x1.cell? ⟨w.heap.size, 5, none⟩ = some (.int .i64 b) := by rw [hb.cell (p := ⟨w.heap.size, 5, none⟩) (by simp)]; simp
        clear hb c0
        go_wp2_with fail
        refine (c1 _).mono ?_
        rintro e w1 ⟨rfl, rfl⟩
        cases q1 with
        | false =>
          go_wp2_with fail
          go_ret
          exact ⟨ret_bool (by simp), HB.out⟩
        | true =>
          go_wp2_with fail
          refine (c2 _).mono ?_
          rintro e w2 ⟨rfl, rfl⟩
          cases q2 with
          | false =>
            go_wp2_with fail
            go_ret
            exact ⟨ret_bool (by simp), HB.out⟩
          | true =>
            go_wp2_with fail
            refine (c3 _).mono ?_
            rintro e w3 ⟨rfl, rfl⟩
            cases q3 with
            | false =>
              go_wp2_with fail
              go_ret
              exact ⟨ret_bool (by simp), HB.out⟩
            | true =>
              go_wp2_with fail
              refine (c4 _).mono ?_
              rintro e w4 ⟨rfl, rfl⟩
              cases q4 with
              | false =>
                go_wp2_with fail
                go_ret
                exact ⟨ret_bool (by simp), HB.out⟩
              | true =>
                go_wp2_with fail
                refine (c5 _).mono ?_
                rintro e w5 ⟨rfl, rfl⟩
                cases q5 with
                | false =>
                  go_wp2_with fail
                  go_ret
                  exact ⟨ret_bool (by simp), HB.out⟩
                | true =>
                  go_wp2_with fail
                  refine (c6 _).mono ?_
                  rintro e w6 ⟨rfl, rfl⟩
                  cases q6 with
                  | false =>
                    go_wp2_with fail
                    go_ret
                    exact ⟨ret_bool (by simp), HB.out⟩
                  | true =>
                    go_wp2_with fail
                    go_ret
                    exact ⟨ret_bool (by simp), HB.out⟩
      | true =>
        go_wp2_with fail
        refine (c0 _).mono ?_
        rintro e x1 ⟨rfl, hb⟩
        have HB : Hid (Below w.heap.size w x1) := below_then ((Below.refl _ _).alloc (Nat.le_refl _) _) hb
        have z0 : x1.cell? ⟨w.heap.size, 0, none⟩ = some (.string seg) := by rw [hb.cell (p := ⟨w.heap.size, 0, none⟩) (by simp)]; simp
        have z1 : x1.cell? ⟨w.heap.size, 1, none⟩ = some (.int .i64 o) := by rw [hb.cell (p := ⟨w.heap.size, 1, none⟩) (by simp)]; simp
        have z2 : x1.cell? ⟨w.heap.size, 2, none⟩ = some (.int .i64 f) := by rw [hb.cell (p := ⟨w.heap.size, 2, none⟩) (by simp)]; simp
        have z3 : x1.cell? ⟨w.heap.size, 3, none⟩ = some (.int .i64 r) := by rw [hb.cell (p := ⟨w.heap.size, 3, none⟩) (by simp)]; simp
        have z4 : x1.cell? ⟨w.heap.size, 4, none⟩ = some (.int .i64 c) := by rw [hb.cell (p := ⟨w.heap.size, 4, none⟩) (by simp)]; simp
        have z5 : x1.cell? ⟨w.heap.size, 5, none⟩ = some (.int .i64 b) := by rw [hb.cell (p := ⟨w.heap.size, 5, none⟩) (by simp)]; simp
        clear hb c0
        cases e3 with
        | false =>
          have n3 : (r != 1) = true := by rw [bne, l3]; rfl
          go_wp2_with fail
          go_ret
          exact ⟨ret_bool (by simp), HB.out⟩
        | true =>
          have n3 : (r != 1) = false := by rw [bne, l3]; rfl
          cases e4 with
          | false =>
            have n4 : (c != 1) = true := by rw [bne, l4]; rfl
            go_wp2_with fail
            go_ret
            exact ⟨ret_bool (by simp), HB.out⟩
          | true =>
            have n4 : (c != 1) = false := by rw [bne, l4]; rfl
            cases e5 with
            | false =>
              have n5 : (b != 1) = true := by rw [bne, l5]; rfl
              go_wp2_with fail
              go_ret
              exact ⟨ret_bool (by simp), HB.out⟩
            | true =>
              have n5 : (b != 1) = false := by rw [bne, l5]; rfl
              go_wp2_with fail
              refine (c1 _).mono ?_
              rintro e w1 ⟨rfl, rfl⟩
              cases q1 with
              | false =>
                go_wp2_with fail
                go_ret
                exact ⟨ret_bool (by simp), HB.out⟩
              | true =>
                go_wp2_with fail
                refine (c2 _).mono ?_
                rintro e w2 ⟨rfl, rfl⟩
                cases q2 with
                | false =>
                  go_wp2_with fail
                  go_ret
                  exact ⟨ret_bool (by simp), HB.out⟩
                | true =>
                  go_wp2_with fail
                  refine (c3 _).mono ?_
                  rintro e w3 ⟨rfl, rfl⟩
                  cases q3 with
                  | false =>
                    go_wp2_with fail
                    go_ret
                    exact ⟨ret_bool (by simp), HB.out⟩
                  | true =>
                    go_wp2_with fail
                    refine (c4 _).mono ?_
                    rintro e w4 ⟨rfl, rfl⟩
                    cases q4 with
                    | false =>
                      go_wp2_with fail
                      go_ret
                      exact ⟨ret_bool (by simp), HB.out⟩
                    | true =>
                      go_wp2_with fail
                      refine (c5 _).mono ?_
                      rintro e w5 ⟨rfl, rfl⟩
                      cases q5 with
                      | false =>
                        go_wp2_with fail
                        go_ret
                        exact ⟨ret_bool (by simp), HB.out⟩
                      | true =>
                        go_wp2_with fail
                        refine (c6 _).mono ?_
                        rintro e w6 ⟨rfl, rfl⟩
                        cases q6 with
                        | false =>
                          go_wp2_with fail
                          go_ret
                          exact ⟨ret_bool (by simp), HB.out⟩
                        | true =>
                          go_wp2_with fail
                          go_ret
                          exact ⟨ret_bool (by simp), HB.out⟩
set_option maxHeartbeats 8000000 in
theorem Right_any (seg : ByteArray) (o f r c b : Int) (w : World) : Calls Tryd.prog 11 #[.agg #[.string seg, .int .i64 o, .int .i64 f, .int .i64 r, .int .i64 c, .int .i64 b]] w fun e w' => e = .returned (.bool (rgt seg o f r c b)) ∧ Below w.heap.size w w' := by
  obtain ⟨m, hm⟩ : ∃ m, decide (seg = MSHb) = m := ⟨_, rfl⟩
  have hm1 : (seg.toList == [77, 83, 72]) = m := eq_msh.trans hm
  obtain ⟨q1, h1⟩ : ∃ q, isN seg = q := ⟨_, rfl⟩
  obtain ⟨q2, h2⟩ : ∃ q, inR o 128 = q := ⟨_, rfl⟩
  obtain ⟨q3, h3⟩ : ∃ q, inR f (if m then 66 else 64) = q := ⟨_, rfl⟩
  obtain ⟨q4, h4⟩ : ∃ q, inR r 32 = q := ⟨_, rfl⟩
  obtain ⟨q5, h5⟩ : ∃ q, inR c 32 = q := ⟨_, rfl⟩
  obtain ⟨q6, h6⟩ : ∃ q, inR b 16 = q := ⟨_, rfl⟩
  obtain ⟨e1, k1⟩ : ∃ q, decide (o = 1) = q := ⟨_, rfl⟩
  obtain ⟨e2, k2⟩ : ∃ q, decide (f ≤ 2) = q := ⟨_, rfl⟩
  obtain ⟨e3, k3⟩ : ∃ q, decide (r = 1) = q := ⟨_, rfl⟩
  obtain ⟨e4, k4⟩ : ∃ q, decide (c = 1) = q := ⟨_, rfl⟩
  obtain ⟨e5, k5⟩ : ∃ q, decide (b = 1) = q := ⟨_, rfl⟩
  rw [rgt_of hm h1 h2 h3 h4 h5 h6 k1 k2 k3 k4 k5]
  have l1 : (o == 1) = e1 := by rw [← k1]; rfl
  have l3 : (r == 1) = e3 := by rw [← k3]; rfl
  have l4 : (c == 1) = e4 := by rw [← k4]; rfl
  have l5 : (b == 1) = e5 := by rw [← k5]; rfl
  have c1 : ∀ w, Calls Tryd.prog 20 #[.string seg] w fun e w' => e = .returned (.bool q1) ∧ w' = w := fun w => by have := Name_any seg w; rw [h1] at this; exact this
  have c2 : ∀ w, Calls Tryd.prog 21 #[.int .i64 o, .int .i64 128] w fun e w' => e = .returned (.bool q2) ∧ w' = w := fun w => by have := between_any o 128 w; rw [h2] at this; exact this
  have c4 : ∀ w, Calls Tryd.prog 21 #[.int .i64 r, .int .i64 32] w fun e w' => e = .returned (.bool q4) ∧ w' = w := fun w => by have := between_any r 32 w; rw [h4] at this; exact this
  have c5 : ∀ w, Calls Tryd.prog 21 #[.int .i64 c, .int .i64 32] w fun e w' => e = .returned (.bool q5) ∧ w' = w := fun w => by have := between_any c 32 w; rw [h5] at this; exact this
  have c6 : ∀ w, Calls Tryd.prog 21 #[.int .i64 b, .int .i64 16] w fun e w' => e = .returned (.bool q6) ∧ w' = w := fun w => by have := between_any b 16 w; rw [h6] at this; exact this
  have l2 : decide (2 < f) = !e2 := by rw [← k2, Bool.eq_iff_iff]; simp
  clear h1 h2 h4 h5 h6 hm k1 k3 k4 k5 k2
  go_enter Tryd.func11, Tryd.ntmps11
  cases m with
  | false =>
    have c3 : ∀ w, Calls Tryd.prog 21 #[.int .i64 f, .int .i64 64] w fun e w' => e = .returned (.bool q3) ∧ w' = w := fun w => by have := between_any f 64 w; rw [show inR f 64 = q3 from h3] at this; exact this
    clear h3
    go_wp2_with fail
    refine (c1 _).mono ?_
    rintro e w1 ⟨rfl, rfl⟩
    cases q1 with
    | false =>
      go_wp2_with fail
      go_ret
      exact ⟨ret_bool (by simp), (Below.refl _ _).alloc (Nat.le_refl _) _⟩
    | true =>
      go_wp2_with fail
      refine (c2 _).mono ?_
      rintro e w2 ⟨rfl, rfl⟩
      cases q2 with
      | false =>
        go_wp2_with fail
        go_ret
        exact ⟨ret_bool (by simp), (Below.refl _ _).alloc (Nat.le_refl _) _⟩
      | true =>
        go_wp2_with fail
        refine (c3 _).mono ?_
        rintro e w3 ⟨rfl, rfl⟩
        cases q3 with
        | false =>
          go_wp2_with fail
          go_ret
          exact ⟨ret_bool (by simp), (Below.refl _ _).alloc (Nat.le_refl _) _⟩
        | true =>
          go_wp2_with fail
          refine (c4 _).mono ?_
          rintro e w4 ⟨rfl, rfl⟩
          cases q4 with
          | false =>
            go_wp2_with fail
            go_ret
            exact ⟨ret_bool (by simp), (Below.refl _ _).alloc (Nat.le_refl _) _⟩
          | true =>
            go_wp2_with fail
            refine (c5 _).mono ?_
            rintro e w5 ⟨rfl, rfl⟩
            cases q5 with
            | false =>
              go_wp2_with fail
              go_ret
              exact ⟨ret_bool (by simp), (Below.refl _ _).alloc (Nat.le_refl _) _⟩
            | true =>
              go_wp2_with fail
              refine (c6 _).mono ?_
              rintro e w6 ⟨rfl, rfl⟩
              cases q6 with
              | false =>
                go_wp2_with fail
                go_ret
                exact ⟨ret_bool (by simp), (Below.refl _ _).alloc (Nat.le_refl _) _⟩
              | true =>
                go_wp2_with fail
                go_ret
                exact ⟨ret_bool (by simp), (Below.refl _ _).alloc (Nat.le_refl _) _⟩
  | true =>
    have c3 : ∀ w, Calls Tryd.prog 21 #[.int .i64 f, .int .i64 66] w fun e w' => e = .returned (.bool q3) ∧ w' = w := fun w => by have := between_any f 66 w; rw [show inR f 66 = q3 from h3] at this; exact this
    clear h3
    go_wp2_with fail
    refine (c1 _).mono ?_
    rintro e w1 ⟨rfl, rfl⟩
    cases q1 with
    | false =>
      go_wp2_with fail
      go_ret
      exact ⟨ret_bool (by simp), (Below.refl _ _).alloc (Nat.le_refl _) _⟩
    | true =>
      go_wp2_with fail
      refine (c2 _).mono ?_
      rintro e w2 ⟨rfl, rfl⟩
      cases q2 with
      | false =>
        go_wp2_with fail
        go_ret
        exact ⟨ret_bool (by simp), (Below.refl _ _).alloc (Nat.le_refl _) _⟩
      | true =>
        go_wp2_with fail
        refine (c3 _).mono ?_
        rintro e w3 ⟨rfl, rfl⟩
        cases q3 with
        | false =>
          go_wp2_with fail
          go_ret
          exact ⟨ret_bool (by simp), (Below.refl _ _).alloc (Nat.le_refl _) _⟩
        | true =>
          go_wp2_with fail
          refine (c4 _).mono ?_
          rintro e w4 ⟨rfl, rfl⟩
          cases q4 with
          | false =>
            go_wp2_with fail
            go_ret
            exact ⟨ret_bool (by simp), (Below.refl _ _).alloc (Nat.le_refl _) _⟩
          | true =>
            go_wp2_with fail
            refine (c5 _).mono ?_
            rintro e w5 ⟨rfl, rfl⟩
            cases q5 with
            | false =>
              go_wp2_with fail
              go_ret
              exact ⟨ret_bool (by simp), (Below.refl _ _).alloc (Nat.le_refl _) _⟩
            | true =>
              go_wp2_with fail
              refine (c6 _).mono ?_
              rintro e w6 ⟨rfl, rfl⟩
              cases q6 with
              | false =>
                go_wp2_with fail
                go_ret
                exact ⟨ret_bool (by simp), (Below.refl _ _).alloc (Nat.le_refl _) _⟩
              | true =>
                cases e1 with
                | false =>
                  go_wp2_with fail
                  go_ret
                  exact ⟨ret_bool (by simp), (Below.refl _ _).alloc (Nat.le_refl _) _⟩
                | true =>
                  cases e2 with
                  | false =>
                    go_wp2_with fail
                    go_ret
                    exact ⟨ret_bool (by simp), (Below.refl _ _).alloc (Nat.le_refl _) _⟩
                  | true =>
                    cases e3 with
                    | false =>
                      go_wp2_with fail
                      go_ret
                      exact ⟨ret_bool (by simp), (Below.refl _ _).alloc (Nat.le_refl _) _⟩
                    | true =>
                      cases e4 with
                      | false =>
                        go_wp2_with fail
                        go_ret
                        exact ⟨ret_bool (by simp), (Below.refl _ _).alloc (Nat.le_refl _) _⟩
                      | true =>
                        cases e5 with
                        | false =>
                          go_wp2_with fail
                          go_ret
                          exact ⟨ret_bool (by simp), (Below.refl _ _).alloc (Nat.le_refl _) _⟩
                        | true =>
                          go_wp2_with fail
                          go_ret
                          exact ⟨ret_bool (by simp), (Below.refl _ _).alloc (Nat.le_refl _) _⟩
end Go.Proofs.YtiihdhajmcfhaaaDoor
