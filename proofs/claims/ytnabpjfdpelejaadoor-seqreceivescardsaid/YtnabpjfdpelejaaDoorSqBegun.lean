/-
  The law's begun: a sender and a receiver at their beginning.
-/
import Derived.Test.YtnabpjfdpelejaaDoorSqProg
namespace Go.Proofs.YtnabpjfdpelejaaDoor
open Go.RowKit

theorem Ev.nil {w : World} {N : Nat} {v : Value} (h : Ev w N v 0) : v = .nilIface := by
  rcases h with h | h
  · exact h.1
  · exact absurd rfl h.1
theorem Ev.some {w : World} {N : Nat} {v : Value} {c : Int} (h : Ev w N v c) (hc : c ≠ 0) : ∃ b, v = .iface 73 (.pointer (some ⟨b, 0, none⟩)) := by
  rcases h with h | ⟨_, b, h, _⟩
  · exact absurd h.2 hc
  · exact ⟨b, h⟩
/-- A sender and a receiver of the law's own, apart, behind the world W. -/
structure BR (W w : World) (s r : Nat) (n e l : Int) : Prop where
  sn : Snd w s n
  rc : Rcv w r e l
  ne : s ≠ r
  inn : In W w (fun k => k = s ∨ k = r)
theorem BR.below {W w w' : World} {s r : Nat} {n e l : Int} (h : BR W w s r n e l) (hb : Below w.heap.size w w') : BR W w' s r n e l :=
  ⟨h.sn.off (P := fun _ => False) (Off.of_below hb) id, h.rc.off (P := fun _ => False) (Off.of_below hb) id, h.ne, h.inn.below hb⟩
section
variable {W w w' : World} {s r : Nat} {n e l : Int}
theorem BR.here (h : BR W w s r n e l) : PV w := h.inn.here
/-- The sender's block was written. -/
theorem BR.atS {n' : Int} (h : BR W w s r n e l) (hs : Snd w' s n') (ho : Off (fun k => k = s) w w') : BR W w' s r n' e l :=
  ⟨hs, h.rc.off ho (Ne.symm h.ne), h.ne, h.inn.off ho (fun k hk => h.inn.ge k (Or.inl hk))⟩
theorem BR.atR {e' l' : Int} (h : BR W w s r n e l) (hs : Rcv w' r e' l') (ho : Off (fun k => k = r) w w') : BR W w' s r n e' l' :=
  ⟨h.sn.off ho h.ne, hs, h.ne, h.inn.off ho (fun k hk => h.inn.ge k (Or.inr hk))⟩
/-- Another block of the law's own was written. -/
theorem BR.offP {P : Nat → Prop} (h : BR W w s r n e l) (ho : Off P w w') (h1 : ¬ P s) (h2 : ¬ P r) (hP : ∀ k, P k → W.heap.size ≤ k) : BR W w' s r n e l :=
  ⟨h.sn.off ho h1, h.rc.off ho h2, h.ne, h.inn.off ho hP⟩
theorem BR.next (h : BR W w s r n e l) : Calls Tryd.prog 12 #[.pointer (some ⟨s, 0, none⟩)] w fun v w' => v = .returned (.int .i64 n) ∧ Hid (BR W w' s r n e l ∧ Below w.heap.size w w') := (pNext h.sn).mono fun _ _ ⟨a, b⟩ => ⟨a, h.below b, b⟩
theorem BR.exp (h : BR W w s r n e l) : Calls Tryd.prog 18 #[.pointer (some ⟨r, 0, none⟩)] w fun v w' => v = .returned (.int .i64 e) ∧ Hid (BR W w' s r n e l ∧ Below w.heap.size w w') := (pExp h.rc).mono fun _ _ ⟨a, b⟩ => ⟨a, h.below b, b⟩
theorem BR.last (h : BR W w s r n e l) : Calls Tryd.prog 17 #[.pointer (some ⟨r, 0, none⟩)] w fun v w' => v = .returned (.int .i64 l) ∧ Hid (BR W w' s r n e l ∧ Below w.heap.size w w') := (pLast h.rc).mono fun _ _ ⟨a, b⟩ => ⟨a, h.below b, b⟩
theorem BR.tell (h : BR W w s r n e l) : Calls Tryd.prog 15 #[.pointer (some ⟨r, 0, none⟩)] w fun v w' => v = .returned (.int .i64 (tellV e)) ∧ Hid (BR W w' s r n e l ∧ Below w.heap.size w w') := (pTell h.rc).mono fun _ _ ⟨a, b⟩ => ⟨a, h.below b, b⟩
theorem BR.judge (h : BR W w s r n e l) (m : Int) : Calls Tryd.prog 14 #[.pointer (some ⟨r, 0, none⟩), .int .i64 m] w fun v w' => v = .returned (.int .i64 (judK e l m)) ∧ Hid (BR W w' s r n e l ∧ Below w.heap.size w w') := (pJudge h.rc m).mono fun _ _ ⟨a, b⟩ => ⟨a, h.below b, b⟩
theorem BR.take (h : BR W w s r n e l) : Calls Tryd.prog 10 #[.pointer (some ⟨s, 0, none⟩)] w fun v w' => ∃ ev, v = .returned (.tuple #[.int .i64 n, ev]) ∧ Hid (BR W w' s r (takeS n) e l ∧ Ev w' w.heap.size ev (takeC n) ∧ Off (fun k => k = s) w w') := (pTake h.sn).mono fun _ _ ⟨ev, a, b, c, d⟩ => ⟨ev, a, h.atS c d, b, d⟩
theorem BR.back (h : BR W w s r n e l) (m k : Int) : Calls Tryd.prog 22 #[.pointer (some ⟨s, 0, none⟩), .int .i64 m, .int .i64 k] w fun v w' => ∃ ev, v = .returned (.tuple #[.int .i64 (backV m k), ev]) ∧ Hid (BR W w' s r (backS n m k) e l ∧ Ev w' w.heap.size ev (backC m k) ∧ Off (fun k => k = s) w w') := (pBack h.sn m k).mono fun _ _ ⟨ev, a, b, c, d⟩ => ⟨ev, a, h.atS c d, b, d⟩
theorem BR.set (h : BR W w s r n e l) (m : Int) : Calls Tryd.prog 23 #[.pointer (some ⟨s, 0, none⟩), .int .i64 m] w fun v w' => ∃ ev, v = .returned ev ∧ Hid (BR W w' s r (setS n m) e l ∧ Ev w' w.heap.size ev (newC m) ∧ Off (fun k => k = s) w w') := (pSet h.sn m).mono fun _ _ ⟨ev, a, b, c, d⟩ => ⟨ev, a, h.atS c d, b, d⟩
theorem BR.accept (h : BR W w s r n e l) (m : Int) : Calls Tryd.prog 16 #[.pointer (some ⟨r, 0, none⟩), .int .i64 m] w fun v w' => ∃ ev, v = .returned ev ∧ Hid (BR W w' s r n (accE e m) (accL e l m) ∧ Ev w' w.heap.size ev (accC e m) ∧ Off (fun k => k = r) w w') := (pAccept h.rc m).mono fun _ _ ⟨ev, a, b, c, d⟩ => ⟨ev, a, h.atR c d, b, d⟩
theorem BR.reset (h : BR W w s r n e l) : Calls Tryd.prog 13 #[.pointer (some ⟨r, 0, none⟩)] w fun v w' => ∃ ev, v = .returned ev ∧ Hid (BR W w' s r n 0 0 ∧ Ev w' w.heap.size ev 0 ∧ Off (fun k => k = r) w w') := (pReset h.rc).mono fun _ _ ⟨ev, a, b, c, d⟩ => ⟨ev, a, h.atR c d, b, d⟩
theorem BR.code (h : BR W w s r n e l) {N : Nat} {ev : Value} {c : Int} (hev : Ev w N ev c) : Calls Tryd.prog 11 #[ev] w fun v w' => v = .returned (.int .i64 c) ∧ Hid (BR W w' s r n e l ∧ Below w.heap.size w w') := (code_any hev h.here.err).mono fun _ _ ⟨a, b⟩ => ⟨a, h.below b, b⟩
end
set_option maxHeartbeats 2000000 in
theorem begun_any (w : World) (hV : PV w) : Calls Tryd.prog 8 #[] w fun r w' => ∃ bs br, r = .returned (.tuple #[.pointer (some ⟨bs, 0, none⟩), .pointer (some ⟨br, 0, none⟩), .bool true]) ∧ Hid (BR w w' bs br 1 1 0) := by
  have HV : Hid (PV w) := hV
  clear hV
  go_enter Tryd.func8, Tryd.ntmps8
  go_wp2_with fail
  refine (pNewS_ok 1 (by unfold SOk; omega) w HV.out).mono ?_
  rintro _ w1 ⟨bs, rfl, hge, hs, hb⟩
  have H1 : Hid (w.heap.size ≤ bs ∧ Snd w1 bs 1 ∧ Below w.heap.size w w1) := ⟨hge, hs, hb⟩
  clear hge hs hb
  go_wp2_with fail
  refine (pNewR_ok 1 0 rfl w1 (HV.out.below H1.out.2.2)).mono ?_
  rintro _ w2 ⟨br, rfl, hge, hs, hb⟩
  have H2 : Hid (BR w w2 bs br 1 1 0) := ⟨H1.out.2.1.off (P := fun _ => False) (Off.of_below hb) id, hs, by have := H1.out.2.1.lt; omega, ⟨HV.out, below_then H1.out.2.2 hb, fun k hk => by have := H1.out.2.2.size; have := H1.out.1; rcases hk with rfl | rfl <;> omega⟩⟩
  clear hge hs hb
  go_wp2_with fail
  refine H2.out.next.mono ?_
  rintro _ w3 ⟨rfl, H3⟩
  go_wp2_with fail
  refine H3.out.1.exp.mono ?_
  rintro _ w4 ⟨rfl, H4⟩
  go_wp2_with fail
  refine H4.out.1.tell.mono ?_
  rw [show tellV 1 = 1 from rfl]
  rintro _ w5 ⟨rfl, H5⟩
  go_wp2_with fail
  refine bodyPost_ret ?_ rfl ⟨bs, br, rfl, H5.out.1⟩
  simp [results, Tryd.results8, go_sem]
end Go.Proofs.YtnabpjfdpelejaaDoor
