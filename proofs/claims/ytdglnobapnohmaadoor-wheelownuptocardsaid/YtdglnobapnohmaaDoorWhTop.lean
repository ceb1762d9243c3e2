/-
  Wheel: Advance, All.
-/
import Derived.Test.YtdglnobapnohmaaDoorWhSet
namespace Go.Proofs.YtdglnobapnohmaaDoor
open Go.RowKit

section
variable {w : World} {B W now : Nat} {S : List Tm} {F : Nat → Prop}
theorem foot_ne {T M n : Nat} {v : Nat → Value} {L : Nat → List Tm} {f : Int → Option (Nat × Nat)} (hW : w.heap[W]? = some (.cells #[.pointer (some ⟨T, 0, none⟩)] 55 (0, 0))) (hT : Tms w B T M now v L f n) : ¬ Ft T M v W := fun e => by
  rcases e with e | e | ⟨i, hi, e⟩
  · obtain ⟨cs, hc, _⟩ := hT.tb
    rw [e] at hW
    rw [hW] at hc
    simp only [Option.some.injEq, Obj.cells.injEq] at hc
    exact absurd hc.2.1 (by decide)
  · obtain ⟨es, cl, hm⟩ := hT.mp.isMap
    rw [e, hm] at hW; cases hW
  · rcases (hT.row i hi).2 with ⟨e0, _⟩ | ⟨g1, c1, u1, e1, _, b1, _⟩
    · rw [e0] at e; cases e
    · rw [e1] at e
      simp only [Value.ownBlock, Option.some.injEq] at e
      rw [e, hW] at b1
      simp only [Option.some.injEq, Obj.cells.injEq] at b1
      exact absurd b1.2.1 (by decide)
set_option maxHeartbeats 1000000 in
theorem adv_range (h : Whl w B W now S F) {t : Int} (ht : t < (now : Int) ∨ 1099511627776 < t) : Calls Tryd.prog 14 #[.pointer (some ⟨W, 0, none⟩), .int .i64 t] w fun e w' => ∃ b, e = .returned (.tuple #[.slice none 0 0, .iface 56 (.pointer (some ⟨b, 0, none⟩))]) ∧ b = w.heap.size ∧ w' = w.alloc (.cells #[.string ⟨#[119, 104, 101, 101, 108]⟩, .int .i64 0, .int .i64 2, .nilIface] 60) := by
  obtain ⟨T, M, v, L, f, n, hW, hB, hT, hk, hh, hp, hl, hF⟩ := h
  have c := wcell hW
  have c0 := hT.tb.c0
  have hm := made_yes c
  rcases (by omega : t < (now : Int) ∨ (¬ t < (now : Int) ∧ t > 1099511627776)) with h | ⟨h, h1⟩
  · have h3 : decide (t < (now : Int)) = true := decide_eq_true h
    go_enter Tryd.func14, Tryd.ntmps14
    go_wp2_with (first | (go_at_call 28; refine hm.mono ?_; rintro _ w9 ⟨rfl, h9⟩; subst w9) | (go_at_call 10; refine (fault_any _ _).mono ?_; rintro _ w9 ⟨rfl, h9⟩; subst w9))
    refine bodyPost_ret ?_ rfl ⟨w.heap.size, rfl, rfl, rfl⟩
    simp [results, Tryd.results14, go_sem]
  · have h3 : decide (t < (now : Int)) = false := decide_eq_false h
    go_enter Tryd.func14, Tryd.ntmps14
    go_wp2_with (first | (go_at_call 28; refine hm.mono ?_; rintro _ w9 ⟨rfl, h9⟩; subst w9) | (go_at_call 10; refine (fault_any _ _).mono ?_; rintro _ w9 ⟨rfl, h9⟩; subst w9))
    refine bodyPost_ret ?_ rfl ⟨w.heap.size, rfl, rfl, rfl⟩
    simp [results, Tryd.results14, go_sem]
/-- How Advance leaves a wheel; lv: what it tells. -/
def AdQ (w : World) (B W : Nat) (F : Nat → Prop) (S : List Tm) (to_ : Nat) (lv : Value) (w' : World) : Prop :=
  ∃ F', Whl w' B W to_ (S.filter (past to_)) F' ∧ TRow w' B lv (S.filter (upto to_)) ∧ Off F w w' ∧ (∀ q, F' q → F q ∨ w.heap.size ≤ q) ∧ ∀ q, lv.ownBlock = some q → w.heap.size ≤ q ∧ ¬ F' q
set_option maxHeartbeats 2000000 in
theorem adv_ok (h : Whl w B W now S F) (hBw : B ≤ w.heap.size) {t : Nat} (h1 : now ≤ t) (h2 : t ≤ MaxT) :
    Calls Tryd.prog 14 #[.pointer (some ⟨W, 0, none⟩), .int .i64 (t : Int)] w fun e w' => ∃ a1 n1 c1, e = .returned (.tuple #[.slice a1 n1 c1, .nilIface]) ∧ AdQ w B W F S t (.slice a1 n1 c1) w' := by
  obtain ⟨T, M, v, L, f, n, hW, hB, hT, hk, hh, hp, hl, hF⟩ := h
  have c := wcell hW
  have c0 := hT.tb.c0
  have hm := made_yes c
  have hn : n = S.length := by have := hk.nn; rw [List.append_nil, hp.length_eq] at this; exact this
  have g1 : ¬ (t : Int) < now := by omega
  have g2 : ¬ (t : Int) > 1099511627776 := by unfold MaxT at h2; omega
  have g3 : decide ((t : Int) < now) = false := decide_eq_false g1
  have g4 : ¬ t < now := by omega
  have g5 : decide (t < now) = false := decide_eq_false g4
  have hWv := foot_ne hW hT
  have hWl := blk_lt hW
  have HAd : Hid (Calls Tryd.prog 33 #[.pointer (some ⟨T, 0, none⟩), .int .i64 (t : Int)] w fun e w' => ∃ a1 n1 c1, e = .returned (.slice a1 n1 c1) ∧ AdvQ w B T M t (Ft T M v) (allL L) (.slice a1 n1 c1) w') := advance_any hT hk hBw (by omega) h1 h2
  have HA : Hid (Held now S ∧ (allL L).Perm S ∧ S.length ≤ 4096 ∧ (∀ q, F q ↔ (q = W ∨ Ft T M v q)) ∧ w.heap[W]? = some (.cells #[.pointer (some ⟨T, 0, none⟩)] 55 (0, 0))) := ⟨hh, hp, hl, hF, hW⟩
  clear hT hk hh hp hl hF hW hn
  go_enter Tryd.func14, Tryd.ntmps14
  go_wp2_with (first | (go_at_call 28; refine hm.mono ?_; rintro _ w9 ⟨rfl, h9⟩; subst w9))
  refine HAd.out.mono ?_
  rintro _ w1 ⟨a1, n1, c1, rfl, v', L', f', n', D, hT', hk', hp', hg', hu', hr', o', hf', hd'⟩
  have hpS := hp'.trans HA.out.2.1
  have hDu : Uniq D := (List.pairwise_append.1 (HA.out.1.uq.perm hpS.symm)).2.1
  have hlen := hpS.length_eq
  rw [List.length_append] at hlen
  have hl := HA.out.2.2.1
  have HS : Hid (Calls Tryd.prog 34 #[.slice a1 n1 c1, .func (.func 35) #[] #[]] w1 fun e w' => e = .returned (.tuple #[]) ∧ Hid (AdQ w B W F S t (.slice a1 n1 c1) w')) := by
    refine (sort_any hr' hDu (by omega)).mono ?_
    rintro e w' ⟨he, ys, yp, hys, hry, oy⟩
    have q1 : D.filter (upto t) = D := List.filter_eq_self.2 (fun x hx => decide_eq_true (hu' x hx))
    have q2 : (allL L').filter (upto t) = [] := List.filter_eq_nil_iff.2 (fun x hx => by have := hg' x hx; unfold upto; simp; omega)
    have q3 : (allL L').filter (past t) = allL L' := List.filter_eq_self.2 (fun x hx => decide_eq_true (hg' x hx))
    have q4 : D.filter (past t) = [] := List.filter_eq_nil_iff.2 (fun x hx => by have := hu' x hx; unfold past; simp; omega)
    have e1 : ys = S.filter (upto t) := by
      refine hys.eq (HA.out.1.srt.filter _) (yp.trans ?_)
      have h3 := hpS.filter (upto t)
      rw [List.filter_append, q1, q2] at h3
      exact h3
    have e2 : (allL L').Perm (S.filter (past t)) := by
      have h3 := hpS.filter (past t)
      rw [List.filter_append, q3, q4, List.append_nil] at h3
      exact h3
    have hsz := o'.size
    have hW1 : w1.heap[W]? = w.heap[W]? := o'.block W hWl hWv
    have hnW : ∀ q, (Value.slice a1 n1 c1).ownBlock = some q → q ≠ W ∧ ¬ Ft T M v' q := fun q e => ⟨fun e' => by have := (hd' q e).1; omega, (hd' q e).2⟩
    refine ⟨he, fun q => q = W ∨ Ft T M v' q, ⟨T, M, v', L', f', n', ?_, hB, hT'.off oy (fun q hq e => (hd' q e).2 hq), hk', HA.out.1.adv h2, e2, Nat.le_trans (List.length_filter_le _ _) hl, fun q => Iff.rfl⟩, by rw [← e1]; exact hry, ((o'.join oy (fun q hq e => ?_)).mono fun q e => (HA.out.2.2.2.1 q).2 (Or.inr e)), fun q hq => ?_, fun q e => ⟨(hd' q e).1, fun hq => ?_⟩⟩
    · have hWl1 : W < w1.heap.size := by omega
      exact (oy.block W hWl1 (fun e => (hnW W e).1 rfl)).trans (hW1.trans HA.out.2.2.2.2)
    · have := (hd' q e).1; omega
    · rcases hq with hq | hq
      · exact Or.inl ((HA.out.2.2.2.1 q).2 (Or.inl hq))
      · rcases hf' q hq with h | h
        · exact Or.inl ((HA.out.2.2.2.1 q).2 (Or.inr h))
        · exact Or.inr h
    · rcases hq with hq | hq
      · exact (hnW q e).1 hq
      · exact (hnW q e).2 hq
  clear hT' hk' hp' hg' hu' hr' o' hf' hd' hpS hDu hlen hl HAd
  go_wp2_with fail
  refine HS.out.mono ?_
  rintro _ w2 ⟨rfl, H2⟩
  go_wp2_with fail
  refine bodyPost_ret ?_ rfl ⟨a1, n1, c1, rfl, H2.out⟩
  simp [results, Tryd.results14, go_sem]
set_option maxHeartbeats 2000000 in
theorem alls_ok (h : Whl w B W now S F) :
    Calls Tryd.prog 21 #[.pointer (some ⟨W, 0, none⟩)] w fun e w' => ∃ a1 n1 c1, e = .returned (.slice a1 n1 c1) ∧ TRow w' w.heap.size (.slice a1 n1 c1) S ∧ Below w.heap.size w w' := by
  obtain ⟨T, M, v, L, f, n, hW, hB, hT, hk, hh, hp, hl, hF⟩ := h
  have c := wcell hW
  have hm := made_yes c
  have hn : (allL L).length ≤ 1000000 := by rw [hp.length_eq]; omega
  have HA : Hid (Calls Tryd.prog 45 #[.pointer (some ⟨T, 0, none⟩)] w fun e w' => ∃ a1 n1 c1, e = .returned (.slice a1 n1 c1) ∧ TRow w' w.heap.size (.slice a1 n1 c1) (allL L) ∧ Below w.heap.size w w') := all_any hT hn
  have HB : Hid ((allL L).Perm S ∧ Held now S ∧ S.length ≤ 4096) := ⟨hp, hh, hl⟩
  clear hT hk hh hp hl hF hW hn
  go_enter Tryd.func21, Tryd.ntmps21
  go_wp2_with (first | (go_at_call 28; refine hm.mono ?_; rintro _ w9 ⟨rfl, h9⟩; subst w9))
  refine HA.out.mono ?_
  rintro _ w1 ⟨a1, n1, c1, rfl, hr, hb⟩
  have HS : Hid (Calls Tryd.prog 34 #[.slice a1 n1 c1, .func (.func 35) #[] #[]] w1 fun e w' => e = .returned (.tuple #[]) ∧ Hid (TRow w' w.heap.size (.slice a1 n1 c1) S ∧ Below w.heap.size w w')) := by
    refine (sort_any hr (HB.out.2.1.uq.perm HB.out.1.symm) (by rw [HB.out.1.length_eq]; have := HB.out.2.2; omega)).mono ?_
    rintro e w' ⟨he, ys, yp, hys, hry, oy⟩
    have e1 : ys = S := hys.eq HB.out.2.1.srt (yp.trans HB.out.1)
    exact ⟨he, by rw [← e1]; exact hry, hb.trans (oy.below hb.size fun q e => (hr.lt e).1)⟩
  clear hr hb HA
  go_wp2_with fail
  refine HS.out.mono ?_
  rintro _ w2 ⟨rfl, H2⟩
  go_wp2_with fail
  go_ret
  exact ⟨a1, n1, c1, rfl, H2.out⟩
end
end Go.Proofs.YtdglnobapnohmaaDoor
