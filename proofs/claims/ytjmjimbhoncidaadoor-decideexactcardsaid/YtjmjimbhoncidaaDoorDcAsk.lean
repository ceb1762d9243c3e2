/-
  DecideExact: one call of both.
-/
import Derived.Test.YtjmjimbhoncidaaDoorDcMeet
namespace Go.Proofs.YtjmjimbhoncidaaDoor
open Go.RowKit

/-- Two lists that say the same, each in memory of its own, the first one's ahead of the second's. -/
structure AskR (w : World) (v m : Value) (l : ActL) (w' : World) : Prop where
  one : ActRow w' w.heap.size v l
  two : ActRow w' w.heap.size m l
  apart : ∃ mid : Nat, (∀ g, v.ownBlock = some g → g < mid) ∧ ∀ g, m.ownBlock = some g → mid ≤ g
  len : l.length ≤ 3
  bel : Below w.heap.size w w'
theorem AskR.below {w w' w2 : World} {v m : Value} {l : ActL} (h : AskR w v m l w') (hb : Below w'.heap.size w' w2) : AskR w v m l w2 := ⟨h.one.below hb, h.two.below hb, h.apart, h.len, below_then h.bel hb⟩
def AskQ (w : World) (r : Ending) (w' : World) : Prop := ∃ v m l, r = .returned (.tuple #[v, m]) ∧ AskR w v m l w'
set_option maxRecDepth 100000 in
set_option maxHeartbeats 4000000 in
theorem asked_1 (D : DecC) (e : Bool) (a p st lf : Int) (d : Bool) (c : ByteArray) (n : Int) (on : Bool) (s : ByteArray) (w : World) (hV : PVc w) : Calls Tryd.prog 40 #[.agg #[.int .i64 1, .bool e, .int .i64 a, .int .i64 p, .int .i64 st, .int .i64 lf, .bool d, .string c, .int .i64 n, .bool on, .string s]] w (AskQ w) := by
  have HV : Hid (PVc w) := hV
  have c1 := D.start e a p n on
  have c2 := rStart_any e a p n on
  have hl := startS_len e a p n on
  obtain ⟨x, hx⟩ : ∃ x, startS e a p n on = x := ⟨_, rfl⟩
  rw [hx] at c1 c2 hl
  clear hx hV
  obtain ⟨st2, lf2, l2, at2, n2⟩ := x
  have HL : Hid (l2.length ≤ 3) := hl
  clear hl
  go_enter Tryd.func40, Tryd.ntmps40
  go_wp2_with fail
  refine (c1 _ (HV.out.below ((Below.refl _ _).alloc (Nat.le_refl _) _))).mono ?_
  rintro _ w1 ⟨v1, ev1, rfl, r1, _, b1⟩
  have HB1 : Hid (Below w.heap.size w w1) := below_then ((Below.refl _ _).alloc (Nat.le_refl _) _) b1
  obtain ⟨l1, k1, f1⟩ := (Box.new w #[.int .i64 1, .bool e, .int .i64 a, .int .i64 p, .int .i64 st, .int .i64 lf, .bool d, .string c, .int .i64 n, .bool on, .string s] 94).below b1
  have H1 : Hid (ActRow w1 w.heap.size v1 l2) := r1.mono (by simp)
  clear b1 r1 c1 f1
  go_wp2_with fail
  refine (c2 _).mono ?_
  rintro _ w2 ⟨v2, rfl, r2, b2⟩
  have H2 : Hid (AskR w v1 v2 l2 w2) := ⟨(H1.out.below ((Below.refl _ _).alloc (Nat.le_refl _) _)).below b2, r2.mono (HB1.out.alloc HB1.out.size _).size, ⟨w1.heap.size, fun g hg => H1.out.lt hg, fun g hg => by have := r2.ne hg; (try simp at this); omega⟩, HL.out, below_then (HB1.out.alloc HB1.out.size _) b2⟩
  clear b2 r2 c2 l1 k1
  go_wp2_with fail
  go_ret2
  exact ⟨v1, v2, l2, rfl, H2.out.below ((Below.refl _ _).alloc (Nat.le_refl _) _)⟩
set_option maxRecDepth 100000 in
set_option maxHeartbeats 4000000 in
theorem asked_2 (D : DecC) (e : Bool) (a p st lf : Int) (d : Bool) (c : ByteArray) (n : Int) (on : Bool) (s : ByteArray) (w : World) (hV : PVc w) : Calls Tryd.prog 40 #[.agg #[.int .i64 2, .bool e, .int .i64 a, .int .i64 p, .int .i64 st, .int .i64 lf, .bool d, .string c, .int .i64 n, .bool on, .string s]] w (AskQ w) := by
  have HV : Hid (PVc w) := hV
  have c1 := D.heard e a p st lf s on
  have c2 := rHeard_any e a p st lf s on
  have hl := heardS_len e a p st lf s on
  obtain ⟨x, hx⟩ : ∃ x, heardS e a p st lf s on = x := ⟨_, rfl⟩
  rw [hx] at c1 c2 hl
  clear hx hV
  obtain ⟨st2, lf2, l2, at2, n2⟩ := x
  have HL : Hid (l2.length ≤ 3) := hl
  clear hl
  go_enter Tryd.func40, Tryd.ntmps40
  go_wp2_with fail
  refine (c1 _ (HV.out.below ((Below.refl _ _).alloc (Nat.le_refl _) _))).mono ?_
  rintro _ w1 ⟨v1, ev1, rfl, r1, _, b1⟩
  have HB1 : Hid (Below w.heap.size w w1) := below_then ((Below.refl _ _).alloc (Nat.le_refl _) _) b1
  obtain ⟨l1, k1, f1⟩ := (Box.new w #[.int .i64 2, .bool e, .int .i64 a, .int .i64 p, .int .i64 st, .int .i64 lf, .bool d, .string c, .int .i64 n, .bool on, .string s] 94).below b1
  have H1 : Hid (ActRow w1 w.heap.size v1 l2) := r1.mono (by simp)
  clear b1 r1 c1 f1
  go_wp2_with fail
  refine (c2 _).mono ?_
  rintro _ w2 ⟨v2, rfl, r2, b2⟩
  have H2 : Hid (AskR w v1 v2 l2 w2) := ⟨(H1.out.below ((Below.refl _ _).alloc (Nat.le_refl _) _)).below b2, r2.mono (HB1.out.alloc HB1.out.size _).size, ⟨w1.heap.size, fun g hg => H1.out.lt hg, fun g hg => by have := r2.ne hg; (try simp at this); omega⟩, HL.out, below_then (HB1.out.alloc HB1.out.size _) b2⟩
  clear b2 r2 c2 l1 k1
  go_wp2_with fail
  go_ret2
  exact ⟨v1, v2, l2, rfl, H2.out.below ((Below.refl _ _).alloc (Nat.le_refl _) _)⟩
set_option maxRecDepth 100000 in
set_option maxHeartbeats 4000000 in
theorem asked_3 (D : DecC) (e : Bool) (a p st lf : Int) (d : Bool) (c : ByteArray) (n : Int) (on : Bool) (s : ByteArray) (w : World) (hV : PVc w) : Calls Tryd.prog 40 #[.agg #[.int .i64 3, .bool e, .int .i64 a, .int .i64 p, .int .i64 st, .int .i64 lf, .bool d, .string c, .int .i64 n, .bool on, .string s]] w (AskQ w) := by
  have HV : Hid (PVc w) := hV
  have c1 := D.due e a p st lf
  have c2 := rDue_any e a p st lf
  have hl := dueS_len e a p st lf
  obtain ⟨x, hx⟩ : ∃ x, dueS e a p st lf = x := ⟨_, rfl⟩
  rw [hx] at c1 c2 hl
  clear hx hV
  obtain ⟨st2, lf2, l2, at2, n2⟩ := x
  have HL : Hid (l2.length ≤ 3) := hl
  clear hl
  go_enter Tryd.func40, Tryd.ntmps40
  go_wp2_with fail
  refine (c1 _ (HV.out.below ((Below.refl _ _).alloc (Nat.le_refl _) _))).mono ?_
  rintro _ w1 ⟨v1, ev1, rfl, r1, _, b1⟩
  have HB1 : Hid (Below w.heap.size w w1) := below_then ((Below.refl _ _).alloc (Nat.le_refl _) _) b1
  obtain ⟨l1, k1, f1⟩ := (Box.new w #[.int .i64 3, .bool e, .int .i64 a, .int .i64 p, .int .i64 st, .int .i64 lf, .bool d, .string c, .int .i64 n, .bool on, .string s] 94).below b1
  have H1 : Hid (ActRow w1 w.heap.size v1 l2) := r1.mono (by simp)
  clear b1 r1 c1 f1
  go_wp2_with fail
  refine (c2 _).mono ?_
  rintro _ w2 ⟨v2, rfl, r2, b2⟩
  have H2 : Hid (AskR w v1 v2 l2 w2) := ⟨(H1.out.below ((Below.refl _ _).alloc (Nat.le_refl _) _)).below b2, r2.mono (HB1.out.alloc HB1.out.size _).size, ⟨w1.heap.size, fun g hg => H1.out.lt hg, fun g hg => by have := r2.ne hg; (try simp at this); omega⟩, HL.out, below_then (HB1.out.alloc HB1.out.size _) b2⟩
  clear b2 r2 c2 l1 k1
  go_wp2_with fail
  go_ret2
  exact ⟨v1, v2, l2, rfl, H2.out.below ((Below.refl _ _).alloc (Nat.le_refl _) _)⟩
set_option maxRecDepth 100000 in
set_option maxHeartbeats 4000000 in
theorem asked_4 (D : DecC) (e : Bool) (a p st lf : Int) (d : Bool) (c : ByteArray) (n : Int) (on : Bool) (s : ByteArray) (w : World) (hV : PVc w) : Calls Tryd.prog 40 #[.agg #[.int .i64 4, .bool e, .int .i64 a, .int .i64 p, .int .i64 st, .int .i64 lf, .bool d, .string c, .int .i64 n, .bool on, .string s]] w (AskQ w) := by
  have HV : Hid (PVc w) := hV
  have c1 := D.take e a p
  have c2 := rTake_any e a p
  have hl := takeS_len e a p
  obtain ⟨x, hx⟩ : ∃ x, takeS e a p = x := ⟨_, rfl⟩
  rw [hx] at c1 c2 hl
  clear hx hV
  obtain ⟨d2, c2_, l2, n2⟩ := x
  have HL : Hid (l2.length ≤ 3) := hl
  clear hl
  go_enter Tryd.func40, Tryd.ntmps40
  go_wp2_with fail
  refine (c1 _ (HV.out.below ((Below.refl _ _).alloc (Nat.le_refl _) _))).mono ?_
  rintro _ w1 ⟨v1, ev1, rfl, r1, _, b1⟩
  have HB1 : Hid (Below w.heap.size w w1) := below_then ((Below.refl _ _).alloc (Nat.le_refl _) _) b1
  obtain ⟨l1, k1, f1⟩ := (Box.new w #[.int .i64 4, .bool e, .int .i64 a, .int .i64 p, .int .i64 st, .int .i64 lf, .bool d, .string c, .int .i64 n, .bool on, .string s] 94).below b1
  have H1 : Hid (ActRow w1 w.heap.size v1 l2) := r1.mono (by simp)
  clear b1 r1 c1 f1
  go_wp2_with fail
  refine (c2 _).mono ?_
  rintro _ w2 ⟨v2, rfl, r2, b2⟩
  have H2 : Hid (AskR w v1 v2 l2 w2) := ⟨(H1.out.below ((Below.refl _ _).alloc (Nat.le_refl _) _)).below b2, r2.mono (HB1.out.alloc HB1.out.size _).size, ⟨w1.heap.size, fun g hg => H1.out.lt hg, fun g hg => by have := r2.ne hg; (try simp at this); omega⟩, HL.out, below_then (HB1.out.alloc HB1.out.size _) b2⟩
  clear b2 r2 c2 l1 k1
  go_wp2_with fail
  go_ret2
  exact ⟨v1, v2, l2, rfl, H2.out.below ((Below.refl _ _).alloc (Nat.le_refl _) _)⟩
set_option maxRecDepth 100000 in
set_option maxHeartbeats 4000000 in
theorem asked_5 (D : DecC) (e : Bool) (a p st lf : Int) (d : Bool) (c : ByteArray) (n : Int) (on : Bool) (s : ByteArray) (w : World) (hV : PVc w) : Calls Tryd.prog 40 #[.agg #[.int .i64 5, .bool e, .int .i64 a, .int .i64 p, .int .i64 st, .int .i64 lf, .bool d, .string c, .int .i64 n, .bool on, .string s]] w (AskQ w) := by
  have HV : Hid (PVc w) := hV
  have c1 := D.judge e a p d c s
  have c2 := rJudge_any e a p d c s
  have hl := judgeS_len e a p d c s
  obtain ⟨x, hx⟩ : ∃ x, judgeS e a p d c s = x := ⟨_, rfl⟩
  rw [hx] at c1 c2 hl
  clear hx hV
  obtain ⟨d2, c2_, l2, n2⟩ := x
  have HL : Hid (l2.length ≤ 3) := hl
  clear hl
  go_enter Tryd.func40, Tryd.ntmps40
  go_wp2_with fail
  refine (c1 _ (HV.out.below ((Below.refl _ _).alloc (Nat.le_refl _) _))).mono ?_
  rintro _ w1 ⟨v1, ev1, rfl, r1, _, b1⟩
  have HB1 : Hid (Below w.heap.size w w1) := below_then ((Below.refl _ _).alloc (Nat.le_refl _) _) b1
  obtain ⟨l1, k1, f1⟩ := (Box.new w #[.int .i64 5, .bool e, .int .i64 a, .int .i64 p, .int .i64 st, .int .i64 lf, .bool d, .string c, .int .i64 n, .bool on, .string s] 94).below b1
  have H1 : Hid (ActRow w1 w.heap.size v1 l2) := r1.mono (by simp)
  clear b1 r1 c1 f1
  go_wp2_with fail
  refine (c2 _).mono ?_
  rintro _ w2 ⟨v2, rfl, r2, b2⟩
  have H2 : Hid (AskR w v1 v2 l2 w2) := ⟨(H1.out.below ((Below.refl _ _).alloc (Nat.le_refl _) _)).below b2, r2.mono (HB1.out.alloc HB1.out.size _).size, ⟨w1.heap.size, fun g hg => H1.out.lt hg, fun g hg => by have := r2.ne hg; (try simp at this); omega⟩, HL.out, below_then (HB1.out.alloc HB1.out.size _) b2⟩
  clear b2 r2 c2 l1 k1
  go_wp2_with fail
  go_ret2
  exact ⟨v1, v2, l2, rfl, H2.out.below ((Below.refl _ _).alloc (Nat.le_refl _) _)⟩
set_option maxRecDepth 100000 in
set_option maxHeartbeats 4000000 in
theorem asked_6 (D : DecC) (e : Bool) (a p st lf : Int) (d : Bool) (c : ByteArray) (n : Int) (on : Bool) (s : ByteArray) (w : World) (hV : PVc w) : Calls Tryd.prog 40 #[.agg #[.int .i64 6, .bool e, .int .i64 a, .int .i64 p, .int .i64 st, .int .i64 lf, .bool d, .string c, .int .i64 n, .bool on, .string s]] w (AskQ w) := by
  have HV : Hid (PVc w) := hV
  have c1 := D.copy e a p d c
  have c2 := rCopy_any e a p d c
  have hl := copyS_len e a p d c
  obtain ⟨x, hx⟩ : ∃ x, copyS e a p d c = x := ⟨_, rfl⟩
  rw [hx] at c1 c2 hl
  clear hx hV
  obtain ⟨d2, c2_, l2, n2⟩ := x
  have HL : Hid (l2.length ≤ 3) := hl
  clear hl
  go_enter Tryd.func40, Tryd.ntmps40
  go_wp2_with fail
  refine (c1 _ (HV.out.below ((Below.refl _ _).alloc (Nat.le_refl _) _))).mono ?_
  rintro _ w1 ⟨v1, ev1, rfl, r1, _, b1⟩
  have HB1 : Hid (Below w.heap.size w w1) := below_then ((Below.refl _ _).alloc (Nat.le_refl _) _) b1
  obtain ⟨l1, k1, f1⟩ := (Box.new w #[.int .i64 6, .bool e, .int .i64 a, .int .i64 p, .int .i64 st, .int .i64 lf, .bool d, .string c, .int .i64 n, .bool on, .string s] 94).below b1
  have H1 : Hid (ActRow w1 w.heap.size v1 l2) := r1.mono (by simp)
  clear b1 r1 c1 f1
  go_wp2_with fail
  refine (c2 _).mono ?_
  rintro _ w2 ⟨v2, rfl, r2, b2⟩
  have H2 : Hid (AskR w v1 v2 l2 w2) := ⟨H1.out.below b2, r2.mono HB1.out.size, ⟨w1.heap.size, fun g hg => H1.out.lt hg, fun g hg => by have := r2.ne hg; (try simp at this); omega⟩, HL.out, below_then HB1.out b2⟩
  clear b2 r2 c2 l1 k1
  go_wp2_with fail
  go_ret2
  exact ⟨v1, v2, l2, rfl, H2.out⟩
set_option maxRecDepth 100000 in
set_option maxHeartbeats 4000000 in
theorem asked_0 (kd : Int) (e : Bool) (a p st lf : Int) (d : Bool) (c : ByteArray) (n : Int) (on : Bool) (s : ByteArray) (w : World) (h1 : (kd == 1) = false) (h2 : (kd == 2) = false) (h3 : (kd == 3) = false) (h4 : (kd == 4) = false) (h5 : (kd == 5) = false) (h6 : (kd == 6) = false) : Calls Tryd.prog 40 #[.agg #[.int .i64 kd, .bool e, .int .i64 a, .int .i64 p, .int .i64 st, .int .i64 lf, .bool d, .string c, .int .i64 n, .bool on, .string s]] w (AskQ w) := by
  go_enter Tryd.func40, Tryd.ntmps40
  go_wp2_with fail
  go_ret2
  exact ⟨_, _, [], rfl, ActRow.nil _ _, ActRow.nil _ _, ⟨0, (fun g hg => by cases hg), (fun g hg => by cases hg)⟩, by simp, (Below.refl _ _).alloc (Nat.le_refl _) _⟩
theorem asked_any (D : DecC) (kd : Int) (e : Bool) (a p st lf : Int) (d : Bool) (c : ByteArray) (n : Int) (on : Bool) (s : ByteArray) (w : World) (hV : PVc w) : Calls Tryd.prog 40 #[.agg #[.int .i64 kd, .bool e, .int .i64 a, .int .i64 p, .int .i64 st, .int .i64 lf, .bool d, .string c, .int .i64 n, .bool on, .string s]] w (AskQ w) := by
  by_cases h1 : kd = 1
  · subst h1; exact asked_1 D e a p st lf d c n on s w hV
  by_cases h2 : kd = 2
  · subst h2; exact asked_2 D e a p st lf d c n on s w hV
  by_cases h3 : kd = 3
  · subst h3; exact asked_3 D e a p st lf d c n on s w hV
  by_cases h4 : kd = 4
  · subst h4; exact asked_4 D e a p st lf d c n on s w hV
  by_cases h5 : kd = 5
  · subst h5; exact asked_5 D e a p st lf d c n on s w hV
  by_cases h6 : kd = 6
  · subst h6; exact asked_6 D e a p st lf d c n on s w hV
  exact asked_0 kd e a p st lf d c n on s w (beq_f h1) (beq_f h2) (beq_f h3) (beq_f h4) (beq_f h5) (beq_f h6)
end Go.Proofs.YtjmjimbhoncidaaDoor
