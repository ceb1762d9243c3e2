/-
  The document's Mode, Texts, Refuse, Owes, May.
-/
import Derived.Test.YtjmjimbhoncidaaDoorDcRefF
namespace Go.Proofs.YtjmjimbhoncidaaDoor
open Go.RowKit

theorem ret_two {a b : Value} {c d : Value} (h : a = c) (g : b = d) : Ending.returned (.tuple #[a, b]) = .returned (.tuple #[c, d]) := by rw [h, g]
theorem excl {s : ByteArray} {l m : List UInt8} (h : (s.toList == l) = true) (hn : l ≠ m) : (s.toList == m) = false := by
  rw [beq_iff_eq] at h; rw [h]; exact beq_eq_false_iff_ne.2 hn
theorem empt {s : ByteArray} {l : List UInt8} (h : (s.toList == l) = true) (hn : l.isEmpty = false) : s.toList.isEmpty = false := by
  rw [beq_iff_eq] at h; rw [h]; exact hn
theorem emp0 {s : ByteArray} {l : List UInt8} (h : s.toList.isEmpty = true) (hn : l.isEmpty = false) : (s.toList == l) = false := by
  rw [List.isEmpty_iff] at h; rw [h]; cases l <;> first | rfl | cases hn
set_option maxHeartbeats 1000000 in
theorem rWord_any (s : ByteArray) (w : World) : Calls Tryd.prog 43 #[.string s] w fun r w' => r = .returned (.tuple #[.int .i64 (wordI s), .bool (wordK s)]) ∧ w' = w := by
  unfold wordI wordK
  cases h0 : s.toList.isEmpty with
  | true =>
    rw [emp0 (l := [65, 76]) h0 rfl, emp0 (l := [69, 82]) h0 rfl, emp0 (l := [83, 85]) h0 rfl, emp0 (l := [78, 69]) h0 rfl]
    go_enter Tryd.func43, Tryd.ntmps43
    go_wp2
    go_ret2
    exact ⟨rfl, rfl⟩
  | false =>
  cases h1 : s.toList == [78, 69] with
  | true =>
    rw [excl (m := [65, 76]) h1 (by decide), excl (m := [69, 82]) h1 (by decide), excl (m := [83, 85]) h1 (by decide)]
    go_enter Tryd.func43, Tryd.ntmps43
    go_wp2
    go_ret2
    exact ⟨rfl, rfl⟩
  | false =>
  cases h2 : s.toList == [65, 76] with
  | true =>
    rw [excl (m := [69, 82]) h2 (by decide), excl (m := [83, 85]) h2 (by decide)]
    go_enter Tryd.func43, Tryd.ntmps43
    go_wp2
    go_ret2
    exact ⟨rfl, rfl⟩
  | false =>
  cases h3 : s.toList == [69, 82] with
  | true =>
    rw [excl (m := [83, 85]) h3 (by decide)]
    go_enter Tryd.func43, Tryd.ntmps43
    go_wp2
    go_ret2
    exact ⟨rfl, rfl⟩
  | false =>
  cases h4 : s.toList == [83, 85]
  all_goals
    go_enter Tryd.func43, Tryd.ntmps43
    go_wp2
    go_ret2
    exact ⟨rfl, rfl⟩
set_option maxHeartbeats 2000000 in
theorem rMode_any (s t : ByteArray) (w : World) : Calls Tryd.prog 13 #[.string s, .string t] w fun r w' => r = .returned (.tuple #[.agg #[.bool (modeS s t).e, .int .i64 (modeS s t).a, .int .i64 (modeS s t).p], .int .i64 (modeS s t).at_, .int .i64 (modeS s t).n]) ∧ Below w.heap.size w w' := by
  unfold modeS
  obtain ⟨i, hi⟩ : ∃ i, wordI s = i := ⟨_, rfl⟩
  obtain ⟨k, hk⟩ : ∃ k, wordI t = k := ⟨_, rfl⟩
  obtain ⟨q1, hq1⟩ : ∃ q, wordK s = q := ⟨_, rfl⟩
  obtain ⟨q2, hq2⟩ : ∃ q, wordK t = q := ⟨_, rfl⟩
  have c1 : ∀ w, Calls Tryd.prog 43 #[.string s] w fun r w' => r = .returned (.tuple #[.int .i64 i, .bool q1]) ∧ w' = w := fun w => by have := rWord_any s w; rw [hi, hq1] at this; exact this
  have c2 : ∀ w, Calls Tryd.prog 43 #[.string t] w fun r w' => r = .returned (.tuple #[.int .i64 k, .bool q2]) ∧ w' = w := fun w => by have := rWord_any t w; rw [hk, hq2] at this; exact this
  rw [hi, hk, hq1, hq2]
  clear hi hk hq1 hq2
  cases h0 : s.toList.isEmpty <;> cases h1 : t.toList.isEmpty <;> cases q1 <;> cases q2
  all_goals
    go_enter Tryd.func13, Tryd.ntmps13
    go_wp2_with fail
    refine (c1 _).mono ?_
    rintro _ _ ⟨rfl, rfl⟩
    go_wp2_with fail
    refine (c2 _).mono ?_
    rintro _ _ ⟨rfl, rfl⟩
    go_wp2_with fail
    refine bodyPost_ret ?_ rfl ⟨rfl, ?_⟩
    · simp [results, Tryd.results13, go_sem]
    · repeat (first | exact Below.refl _ _ | refine Below.setCell ?_ (by simp) _ | refine Below.alloc ?_ (by simp) _)
set_option maxHeartbeats 2000000 in
theorem rTexts_any (e : Bool) (a p : Int) (w : World) : Calls Tryd.prog 15 #[.agg #[.bool e, .int .i64 a, .int .i64 p]] w fun r w' => r = .returned (.tuple #[.string (if okB e a p = true then textB e a else ⟨#[]⟩), .string (if okB e a p = true then textB e p else ⟨#[]⟩), .int .i64 (errN e a p)]) ∧ Below w.heap.size w w' := by
  unfold errN
  cases hq : okB e a p with
  | false =>
    have c1 : ∀ w, Calls Tryd.prog 45 #[.agg #[.bool e, .int .i64 a, .int .i64 p]] w fun r w' => r = .returned (.bool false) ∧ Below w.heap.size w w' := fun w => by have := rRight_any e a p w; rw [hq] at this; exact this
    clear hq
    go_enter Tryd.func15, Tryd.ntmps15
    go_wp2_with fail
    refine (c1 _).mono ?_
    rintro _ w1 ⟨rfl, b1⟩
    have HB1 : Hid (Below w.heap.size w w1) := below_then ((Below.refl _ _).alloc (Nat.le_refl _) _) b1
    clear b1 c1
    go_wp2_with fail
    refine bodyPost_ret ?_ rfl ⟨rfl, HB1.out⟩
    simp [results, Tryd.results15, go_sem]
  | true =>
    have c1 : ∀ w, Calls Tryd.prog 45 #[.agg #[.bool e, .int .i64 a, .int .i64 p]] w fun r w' => r = .returned (.bool true) ∧ Below w.heap.size w w' := fun w => by have := rRight_any e a p w; rw [hq] at this; exact this
    obtain ⟨ha0, ha3, hp0, hp3, he⟩ := ok_of hq
    clear hq
    cases e with
    | false =>
      go_enter Tryd.func15, Tryd.ntmps15
      go_wp2_with fail
      refine (c1 _).mono ?_
      rintro _ w1 ⟨rfl, b1⟩
      have HB1 : Hid (Below w.heap.size w w1) := below_then ((Below.refl _ _).alloc (Nat.le_refl _) _) b1
      obtain ⟨l1, k1, _⟩ := (Box.new w #[.bool false, .int .i64 a, .int .i64 p] 23).below b1
      clear b1 c1
      go_wp2_with fail
      refine bodyPost_ret ?_ rfl ⟨rfl, HB1.out⟩
      simp [results, Tryd.results15, go_sem, textB]
    | true =>
      clear he
      rcases (by omega : a = 0 ∨ a = 1 ∨ a = 2 ∨ a = 3) with rfl | rfl | rfl | rfl <;> rcases (by omega : p = 0 ∨ p = 1 ∨ p = 2 ∨ p = 3) with rfl | rfl | rfl | rfl
      all_goals
        clear ha0 ha3 hp0 hp3
        go_enter Tryd.func15, Tryd.ntmps15
        go_wp2_with fail
        refine (c1 _).mono ?_
        rintro _ w1 ⟨rfl, b1⟩
        have HB1 : Hid (Below w.heap.size w w1) := below_then ((Below.refl _ _).alloc (Nat.le_refl _) _) b1
        have bx := (Box.new w #[.bool true, .int .i64 _, .int .i64 _] 23).below b1
        obtain ⟨l1, k1, _⟩ := bx
        clear b1 c1
        go_wp2_with fail
        go_quiet (fail)
        go_wp2_with fail
        refine bodyPost_ret ?_ rfl ⟨rfl, ?_⟩
        · simp [results, Tryd.results15, go_sem, textB]
        · have hs1 := HB1.out.size
          repeat (first | exact HB1.out | refine below_drewN ?_ _ | refine Below.setCell ?_ (by simp; omega) _ | refine Below.alloc ?_ (by first | omega | (simp; omega)) _)
theorem ret_three {a b c d x y : Value} (h : a = d) (g : b = x) (k : c = y) : Ending.returned (.tuple #[a, b, c]) = .returned (.tuple #[d, x, y]) := by rw [h, g, k]
set_option maxHeartbeats 2000000 in
theorem rMay_any (e : Bool) (a p : Int) (s : ByteArray) (w : World) : Calls Tryd.prog 22 #[.agg #[.bool e, .int .i64 a, .int .i64 p], .string s] w fun r w' => r = .returned (.tuple #[.bool (okB e a p && sentB e a p s), .int .i64 (errN e a p)]) ∧ Below w.heap.size w w' := by
  unfold errN
  cases q1 : okB e a p with
  | false =>
    have c1 : ∀ w, Calls Tryd.prog 45 #[.agg #[.bool e, .int .i64 a, .int .i64 p]] w fun r w' => r = .returned (.bool false) ∧ Below w.heap.size w w' := fun w => by have := rRight_any e a p w; rw [q1] at this; exact this
    clear q1
    go_enter Tryd.func22, Tryd.ntmps22
    go_wp2_with fail
    refine (c1 _).mono ?_
    rintro _ w1 ⟨rfl, b1⟩
    have HB1 : Hid (Below w.heap.size w w1) := below_then ((Below.refl _ _).alloc (Nat.le_refl _) _) b1
    clear b1 c1
    go_wp2_with fail
    go_ret2
    exact ⟨rfl, HB1.out⟩
  | true =>
    have c1 : ∀ w, Calls Tryd.prog 45 #[.agg #[.bool e, .int .i64 a, .int .i64 p]] w fun r w' => r = .returned (.bool true) ∧ Below w.heap.size w w' := fun w => by have := rRight_any e a p w; rw [q1] at this; exact this
    obtain ⟨q, hq⟩ : ∃ q, sentB e a p s = q := ⟨_, rfl⟩
    have c2 : ∀ w, Calls Tryd.prog 48 #[.agg #[.bool e, .int .i64 a, .int .i64 p], .string s] w fun r w' => r = .returned (.bool q) ∧ Below w.heap.size w w' := fun w => by have := rSent_any e a p s w; rw [hq] at this; exact this
    rw [hq]
    clear q1 hq
    go_enter Tryd.func22, Tryd.ntmps22
    go_wp2_with fail
    refine (c1 _).mono ?_
    rintro _ w1 ⟨rfl, b1⟩
    have HB1 : Hid (Below w.heap.size w w1) := below_then ((Below.refl _ _).alloc (Nat.le_refl _) _) b1
    obtain ⟨l1, k1, _⟩ := (Box.new w #[.bool e, .int .i64 a, .int .i64 p] 23).below b1
    clear b1 c1
    go_wp2_with fail
    refine (c2 _).mono ?_
    rintro _ w2 ⟨rfl, b2⟩
    have HB2 : Hid (Below w.heap.size w w2) := below_then HB1.out b2
    clear b2 c2 HB1 k1 l1
    go_wp2_with fail
    go_ret2
    exact ⟨rfl, HB2.out⟩
set_option maxHeartbeats 2000000 in
theorem rRefuse_any (e : Bool) (a p : Int) (h : Bool) (w : World) : Calls Tryd.prog 18 #[.agg #[.bool e, .int .i64 a, .int .i64 p], .bool h] w fun r w' => r = .returned (.tuple #[.string (if okB e a p = true then refC e h else ⟨#[]⟩), .bool (okB e a p && sentB e a p (refC e h)), .int .i64 (errN e a p)]) ∧ Below w.heap.size w w' := by
  unfold errN
  cases q1 : okB e a p with
  | false =>
    have c1 : ∀ w, Calls Tryd.prog 45 #[.agg #[.bool e, .int .i64 a, .int .i64 p]] w fun r w' => r = .returned (.bool false) ∧ Below w.heap.size w w' := fun w => by have := rRight_any e a p w; rw [q1] at this; exact this
    clear q1
    go_enter Tryd.func18, Tryd.ntmps18
    go_wp2_with fail
    refine (c1 _).mono ?_
    rintro _ w1 ⟨rfl, b1⟩
    have HB1 : Hid (Below w.heap.size w w1) := below_then ((Below.refl _ _).alloc (Nat.le_refl _) _) b1
    clear b1 c1
    go_wp2_with fail
    refine bodyPost_ret ?_ rfl ⟨rfl, HB1.out⟩
    simp [results, Tryd.results18, go_sem]
  | true =>
    have c1 : ∀ w, Calls Tryd.prog 45 #[.agg #[.bool e, .int .i64 a, .int .i64 p]] w fun r w' => r = .returned (.bool true) ∧ Below w.heap.size w w' := fun w => by have := rRight_any e a p w; rw [q1] at this; exact this
    clear q1
    cases e <;> cases h
    · obtain ⟨q, hq⟩ : ∃ q, sentB false a p ⟨#[65, 69]⟩ = q := ⟨_, rfl⟩
      have c2 : ∀ w, Calls Tryd.prog 48 #[.agg #[.bool false, .int .i64 a, .int .i64 p], .string ⟨#[65, 69]⟩] w fun r w' => r = .returned (.bool q) ∧ Below w.heap.size w w' := fun w => by have := rSent_any false a p ⟨#[65, 69]⟩ w; rw [hq] at this; exact this
      show Calls _ _ _ w fun r w' => r = .returned (.tuple #[.string ⟨#[65, 69]⟩, .bool (true && sentB false a p ⟨#[65, 69]⟩), .int .i64 0]) ∧ Below w.heap.size w w'
      rw [hq, Bool.true_and]
      clear hq
      go_enter Tryd.func18, Tryd.ntmps18
      go_wp2_with fail
      refine (c1 _).mono ?_
      rintro _ w1 ⟨rfl, b1⟩
      have HB1 : Hid (Below w.heap.size w w1) := below_then ((Below.refl _ _).alloc (Nat.le_refl _) _) b1
      obtain ⟨l1, k1, _⟩ := (Box.new w #[.bool false, .int .i64 a, .int .i64 p] 23).below b1
      clear b1 c1
      go_wp2_with fail
      refine (c2 _).mono ?_
      rintro _ w2 ⟨rfl, b2⟩
      have HB2 : Hid (Below w.heap.size w w2) := below_then HB1.out b2
      clear b2 c2 HB1 k1 l1
      go_wp2_with fail
      refine bodyPost_ret ?_ rfl ⟨rfl, HB2.out⟩
      simp [results, Tryd.results18, go_sem]
    · obtain ⟨q, hq⟩ : ∃ q, sentB false a p ⟨#[65, 82]⟩ = q := ⟨_, rfl⟩
      have c2 : ∀ w, Calls Tryd.prog 48 #[.agg #[.bool false, .int .i64 a, .int .i64 p], .string ⟨#[65, 82]⟩] w fun r w' => r = .returned (.bool q) ∧ Below w.heap.size w w' := fun w => by have := rSent_any false a p ⟨#[65, 82]⟩ w; rw [hq] at this; exact this
      show Calls _ _ _ w fun r w' => r = .returned (.tuple #[.string ⟨#[65, 82]⟩, .bool (true && sentB false a p ⟨#[65, 82]⟩), .int .i64 0]) ∧ Below w.heap.size w w'
      rw [hq, Bool.true_and]
      clear hq
      go_enter Tryd.func18, Tryd.ntmps18
      go_wp2_with fail
      refine (c1 _).mono ?_
      rintro _ w1 ⟨rfl, b1⟩
      have HB1 : Hid (Below w.heap.size w w1) := below_then ((Below.refl _ _).alloc (Nat.le_refl _) _) b1
      obtain ⟨l1, k1, _⟩ := (Box.new w #[.bool false, .int .i64 a, .int .i64 p] 23).below b1
      clear b1 c1
      go_wp2_with fail
      refine (c2 _).mono ?_
      rintro _ w2 ⟨rfl, b2⟩
      have HB2 : Hid (Below w.heap.size w w2) := below_then HB1.out b2
      clear b2 c2 HB1 k1 l1
      go_wp2_with fail
      refine bodyPost_ret ?_ rfl ⟨rfl, HB2.out⟩
      simp [results, Tryd.results18, go_sem]
    · obtain ⟨q, hq⟩ : ∃ q, sentB true a p ⟨#[67, 69]⟩ = q := ⟨_, rfl⟩
      have c2 : ∀ w, Calls Tryd.prog 48 #[.agg #[.bool true, .int .i64 a, .int .i64 p], .string ⟨#[67, 69]⟩] w fun r w' => r = .returned (.bool q) ∧ Below w.heap.size w w' := fun w => by have := rSent_any true a p ⟨#[67, 69]⟩ w; rw [hq] at this; exact this
      show Calls _ _ _ w fun r w' => r = .returned (.tuple #[.string ⟨#[67, 69]⟩, .bool (true && sentB true a p ⟨#[67, 69]⟩), .int .i64 0]) ∧ Below w.heap.size w w'
      rw [hq, Bool.true_and]
      clear hq
      go_enter Tryd.func18, Tryd.ntmps18
      go_wp2_with fail
      refine (c1 _).mono ?_
      rintro _ w1 ⟨rfl, b1⟩
      have HB1 : Hid (Below w.heap.size w w1) := below_then ((Below.refl _ _).alloc (Nat.le_refl _) _) b1
      obtain ⟨l1, k1, _⟩ := (Box.new w #[.bool true, .int .i64 a, .int .i64 p] 23).below b1
      clear b1 c1
      go_wp2_with fail
      refine (c2 _).mono ?_
      rintro _ w2 ⟨rfl, b2⟩
      have HB2 : Hid (Below w.heap.size w w2) := below_then HB1.out b2
      clear b2 c2 HB1 k1 l1
      go_wp2_with fail
      refine bodyPost_ret ?_ rfl ⟨rfl, HB2.out⟩
      simp [results, Tryd.results18, go_sem]
    · obtain ⟨q, hq⟩ : ∃ q, sentB true a p ⟨#[67, 82]⟩ = q := ⟨_, rfl⟩
      have c2 : ∀ w, Calls Tryd.prog 48 #[.agg #[.bool true, .int .i64 a, .int .i64 p], .string ⟨#[67, 82]⟩] w fun r w' => r = .returned (.bool q) ∧ Below w.heap.size w w' := fun w => by have := rSent_any true a p ⟨#[67, 82]⟩ w; rw [hq] at this; exact this
      show Calls _ _ _ w fun r w' => r = .returned (.tuple #[.string ⟨#[67, 82]⟩, .bool (true && sentB true a p ⟨#[67, 82]⟩), .int .i64 0]) ∧ Below w.heap.size w w'
      rw [hq, Bool.true_and]
      clear hq
      go_enter Tryd.func18, Tryd.ntmps18
      go_wp2_with fail
      refine (c1 _).mono ?_
      rintro _ w1 ⟨rfl, b1⟩
      have HB1 : Hid (Below w.heap.size w w1) := below_then ((Below.refl _ _).alloc (Nat.le_refl _) _) b1
      obtain ⟨l1, k1, _⟩ := (Box.new w #[.bool true, .int .i64 a, .int .i64 p] 23).below b1
      clear b1 c1
      go_wp2_with fail
      refine (c2 _).mono ?_
      rintro _ w2 ⟨rfl, b2⟩
      have HB2 : Hid (Below w.heap.size w w2) := below_then HB1.out b2
      clear b2 c2 HB1 k1 l1
      go_wp2_with fail
      refine bodyPost_ret ?_ rfl ⟨rfl, HB2.out⟩
      simp [results, Tryd.results18, go_sem]
set_option maxHeartbeats 2000000 in
theorem rOwes_any (e : Bool) (a p : Int) (w : World) : Calls Tryd.prog 20 #[.agg #[.bool e, .int .i64 a, .int .i64 p]] w fun r w' => r = .returned (.tuple #[.bool (okB e a p && caB e a), .bool (okB e a p && aaB e p), .bool (okB e a p && earB e a p (caB e a)), .int .i64 (errN e a p)]) ∧ Below w.heap.size w w' := by
  unfold errN
  cases q1 : okB e a p with
  | false =>
    have c1 : ∀ w, Calls Tryd.prog 45 #[.agg #[.bool e, .int .i64 a, .int .i64 p]] w fun r w' => r = .returned (.bool false) ∧ Below w.heap.size w w' := fun w => by have := rRight_any e a p w; rw [q1] at this; exact this
    clear q1
    go_enter Tryd.func20, Tryd.ntmps20
    go_wp2_with fail
    refine (c1 _).mono ?_
    rintro _ w1 ⟨rfl, b1⟩
    have HB1 : Hid (Below w.heap.size w w1) := below_then ((Below.refl _ _).alloc (Nat.le_refl _) _) b1
    clear b1 c1
    go_wp2_with fail
    refine bodyPost_ret ?_ rfl ⟨rfl, HB1.out⟩
    simp [results, Tryd.results20, go_sem]
  | true =>
    have c1 : ∀ w, Calls Tryd.prog 45 #[.agg #[.bool e, .int .i64 a, .int .i64 p]] w fun r w' => r = .returned (.bool true) ∧ Below w.heap.size w w' := fun w => by have := rRight_any e a p w; rw [q1] at this; exact this
    clear q1
    obtain ⟨q1, hq1⟩ : ∃ q, caB e a = q := ⟨_, rfl⟩
    obtain ⟨q2, hq2⟩ : ∃ q, aaB e p = q := ⟨_, rfl⟩
    obtain ⟨q3, hq3⟩ : ∃ q, earB e a p q1 = q := ⟨_, rfl⟩
    have d1 : ∀ w, Calls Tryd.prog 50 #[.agg #[.bool e, .int .i64 a, .int .i64 p]] w fun r w' => r = .returned (.bool q1) ∧ Below w.heap.size w w' := fun w => by have := rCommit_any e a p w; rw [hq1] at this; exact this
    have d2 : ∀ w, Calls Tryd.prog 51 #[.agg #[.bool e, .int .i64 a, .int .i64 p]] w fun r w' => r = .returned (.bool q2) ∧ Below w.heap.size w w' := fun w => by have := rApp_any e a p w; rw [hq2] at this; exact this
    have d3 : ∀ w, Calls Tryd.prog 52 #[.agg #[.bool e, .int .i64 a, .int .i64 p], .bool q1] w fun r w' => r = .returned (.bool q3) ∧ Below w.heap.size w w' := fun w => by have := rEar_any e a p q1 w; rw [hq3] at this; exact this
    rw [hq1, hq2, hq3]
    clear hq1 hq2 hq3
    go_enter Tryd.func20, Tryd.ntmps20
    go_wp2_with fail
    refine (c1 _).mono ?_
    rintro _ V ⟨rfl, b1⟩
    have HV : Hid (Below w.heap.size w V) := below_then ((Below.refl _ _).alloc (Nat.le_refl _) _) b1
    have l0 := sub_box ((Box.new w #[.bool e, .int .i64 a, .int .i64 p] 23).below b1)
    have h1 := sub_of (V := V) d1
    have h2 := sub_of (V := V) d2
    have h3 := sub_of (V := V) d3
    haveI hne : Nonempty (Sub V) := ⟨⟨V, Below.refl _ _⟩⟩
    clear b1 c1 d1 d2 d3
    go_wp2_with fail
    refine wp_region_class (V := V) (Below.refl _ _) (by kernel_rfl) (by kernel_rfl) ?_
    repeat (go_big_quiet_step ((first | (go_at_call 50; exact h1 _) | (go_at_call 51; exact h2 _) | (go_at_call 52; exact h3 _))))
    refine wpQuiet_nil ?_
    rintro wc ⟨xwc, rfl⟩
    have HB : Hid (Below w.heap.size w xwc.1) := below_then HV.out xwc.2
    clear l0 h1 h2 h3 hne
    go_wp2_with fail
    refine bodyPost_ret ?_ rfl ⟨rfl, HB.out⟩
    simp [results, Tryd.results20, go_sem]
end Go.Proofs.YtjmjimbhoncidaaDoor
