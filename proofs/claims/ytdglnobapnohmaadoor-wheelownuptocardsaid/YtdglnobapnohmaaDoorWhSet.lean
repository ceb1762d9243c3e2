/-
  Wheel: made, Now, Len, Set.
-/
import Derived.Test.YtdglnobapnohmaaDoorWhNew
namespace Go.Proofs.YtdglnobapnohmaaDoor
open Go.RowKit

theorem wcell {w : World} {W T : Nat} (h : w.heap[W]? = some (.cells #[.pointer (some ⟨T, 0, none⟩)] 55 (0, 0))) : w.cell? ⟨W, 0, none⟩ = some (.pointer (some ⟨T, 0, none⟩)) := by
  simp [World.cell?, h]
theorem made_yes {w : World} {W T : Nat} (c : w.cell? ⟨W, 0, none⟩ = some (.pointer (some ⟨T, 0, none⟩))) : Calls Tryd.prog 28 #[.pointer (some ⟨W, 0, none⟩)] w fun e w' => e = .returned (.bool true) ∧ w' = w := by
  go_enter Tryd.func28, Tryd.ntmps28
  go_wp2
  go_ret
  exact ⟨rfl, rfl⟩
section
variable {w : World} {B W now : Nat} {S : List Tm} {F : Nat → Prop}
theorem now_any (h : Whl w B W now S F) : Calls Tryd.prog 43 #[.pointer (some ⟨W, 0, none⟩)] w fun e w' => e = .returned (.int .i64 (now : Int)) ∧ w' = w := by
  obtain ⟨T, M, v, L, f, n, hW, hB, hT, hk, hh, hp, hl, hF⟩ := h
  have c := wcell hW
  have c0 := hT.tb.c0
  have hm := made_yes c
  go_enter Tryd.func43, Tryd.ntmps43
  go_wp2_with (go_at_call 28; refine hm.mono ?_; rintro _ w9 ⟨rfl, h9⟩; subst w9)
  go_ret
  exact ⟨rfl, rfl⟩
theorem len_any (h : Whl w B W now S F) : Calls Tryd.prog 44 #[.pointer (some ⟨W, 0, none⟩)] w fun e w' => e = .returned (.int .i64 (S.length : Int)) ∧ w' = w := by
  obtain ⟨T, M, v, L, f, n, hW, hB, hT, hk, hh, hp, hl, hF⟩ := h
  have c := wcell hW
  have hm := made_yes c
  have hn : n = S.length := by have := hk.nn; rw [List.append_nil, hp.length_eq] at this; exact this
  have hc := count_any hT
  rw [hn] at hc
  go_enter Tryd.func44, Tryd.ntmps44
  go_wp2_with (first | (go_at_call 28; refine hm.mono ?_; rintro _ w9 ⟨rfl, h9⟩; subst w9) | (go_at_call 30; refine hc.mono ?_; rintro _ w9 ⟨rfl, h9⟩; subst w9))
  go_ret
  exact ⟨rfl, rfl⟩
/-- How a call leaves a wheel. -/
def WhQ (w : World) (B W now : Nat) (S : List Tm) (F : Nat → Prop) (w' : World) : Prop := ∃ F', Whl w' B W now S F' ∧ Off F w w' ∧ ∀ q, F' q → F q ∨ w.heap.size ≤ q
theorem WhQ.of_below (h : Whl w B W now S F) {w' : World} (hb : Below w.heap.size w w') : WhQ w B W now S F w' := ⟨F, h.below hb, Off.of_below hb, fun _ e => Or.inl e⟩
set_option maxHeartbeats 1000000 in
theorem set_range (h : Whl w B W now S F) (k : Int) {t : Int} (ht : t ≤ (now : Int) ∨ 1099511627776 < t) : Calls Tryd.prog 13 #[.pointer (some ⟨W, 0, none⟩), .int .i64 k, .int .i64 t] w fun e w' => ∃ b, e = .returned (.iface 56 (.pointer (some ⟨b, 0, none⟩))) ∧ b = w.heap.size ∧ w' = w.alloc (.cells #[.string ⟨#[119, 104, 101, 101, 108]⟩, .int .i64 0, .int .i64 2, .nilIface] 60) := by
  obtain ⟨T, M, v, L, f, n, hW, hB, hT, hk, hh, hp, hl, hF⟩ := h
  have c := wcell hW
  have c0 := hT.tb.c0
  have hm := made_yes c
  rcases (by omega : t ≤ (now : Int) ∨ (¬ t ≤ (now : Int) ∧ t > 1099511627776)) with h | ⟨h, h1⟩
  · have h3 : decide (t ≤ (now : Int)) = true := decide_eq_true h
    go_enter Tryd.func13, Tryd.ntmps13
    go_wp2_with (first | (go_at_call 28; refine hm.mono ?_; rintro _ w9 ⟨rfl, h9⟩; subst w9) | (go_at_call 10; refine (fault_any _ _).mono ?_; rintro _ w9 ⟨rfl, h9⟩; subst w9))
    go_ret
    exact ⟨_, rfl, rfl, rfl⟩
  · have h3 : decide (t ≤ (now : Int)) = false := decide_eq_false h
    go_enter Tryd.func13, Tryd.ntmps13
    go_wp2_with (first | (go_at_call 28; refine hm.mono ?_; rintro _ w9 ⟨rfl, h9⟩; subst w9) | (go_at_call 10; refine (fault_any _ _).mono ?_; rintro _ w9 ⟨rfl, h9⟩; subst w9))
    go_ret
    exact ⟨_, rfl, rfl, rfl⟩
end
/-- Behind remove: the timers without that key's. -/
def RmQ (w : World) (B W T M now : Nat) (v : Nat → Value) (S : List Tm) (k : Int) (w' : World) : Prop :=
  ∃ v' L f n, Tms w' B T M now v' L f n ∧ Ok now L f n [] ∧ (allL L).Perm (S.filter (keyNe k)) ∧ f k = none ∧ Off (Ft T M v) w w' ∧ (∀ q, Ft T M v' q → Ft T M v q) ∧ w'.heap[W]? = w.heap[W]?
section
variable {w : World} {B W T M now n : Nat} {v : Nat → Value} {L : Nat → List Tm} {f : Int → Option (Nat × Nat)} {S : List Tm}
theorem keyNe_self {l : List Tm} {k : Int} (h : ∀ x ∈ l, x.1 ≠ k) : l.filter (keyNe k) = l := List.filter_eq_self.2 fun x hx => decide_eq_true (h x hx)
theorem rm_any (hT : Tms w B T M now v L f n) (hk : Ok now L f n []) (hp : (allL L).Perm S) (hS : S.length ≤ 4096) {k : Int} (hky : KeyI k) (hWv : ¬ Ft T M v W) (hWl : W < w.heap.size) :
    Calls Tryd.prog 31 #[.pointer (some ⟨T, 0, none⟩), .int .i64 k] w fun e w' => ∃ b, e = .returned (.bool b) ∧ (b = true ↔ ∃ x ∈ S, x.1 = k) ∧ RmQ w B W T M now v S k w' := by
  have hn : n = S.length := by have := hk.nn; rw [List.append_nil, hp.length_eq] at this; exact this
  have hu : Uniq (allL L) := by have := hk.uq; rwa [List.append_nil] at this
  by_cases hx : ∃ t, (k, t) ∈ allL L
  · obtain ⟨t, hx⟩ := hx
    obtain ⟨i, j, hi, hf, hj⟩ := hk.some_ hx
    have hjl := (List.getElem?_eq_some_iff.1 hj).1
    obtain ⟨m, hm⟩ : ∃ m, (L i).length = m + 1 := ⟨(L i).length - 1, by omega⟩
    obtain ⟨x, hxm⟩ : ∃ x, (L i)[m]? = some x := ⟨_, List.getElem?_eq_getElem (by omega)⟩
    obtain ⟨l, s, hl, hs, rfl⟩ : ∃ l s, l < 7 ∧ s < 64 ∧ i = 64 * l + s := ⟨i / 64, i % 64, by omega, by omega, by omega⟩
    have hlen := hk.len hi
    have hkx : KeyI x.1 := hk.ky x (by rw [List.append_nil]; exact mem_allL.2 ⟨_, hi, List.mem_of_getElem? hxm⟩)
    have hfx : f x.1 = some (64 * l + s, m) := (hk.mp x.1 (fun x hx => (by cases hx)) _ _).2 ⟨hi, x.2, hxm⟩
    obtain ⟨ok, pm⟩ := ok_rem hk hi hf hm hxm hj
    refine (remove_yes hT hky hkx hl hs hf (by rw [hfx]; rfl) hm hxm (by omega) (by omega) (by omega)).mono ?_
    rintro e w' ⟨he, u, hT', o, hu'⟩
    rw [hm, Nat.add_sub_cancel] at hT'
    refine ⟨true, he, ⟨fun _ => ⟨(k, t), hp.subset hx, rfl⟩, fun _ => rfl⟩, _, _, _, _, hT', ok, ?_, if_pos rfl, o, fun q hq => ?_, o.block W hWl hWv⟩
    · have h1 := (pm.symm.trans hp).filter (keyNe k)
      rw [List.filter_cons_of_neg (by simp [keyNe])] at h1
      have hne : ∀ y ∈ allL (upd L (64 * l + s) (((L (64 * l + s)).set j x).take m)), y.1 ≠ k := fun y hy e => (List.pairwise_cons.1 (hu.perm pm)).1 y hy e.symm
      rwa [keyNe_self hne] at h1
    · rcases hq with hq | hq | ⟨i', hi', e⟩
      · exact Or.inl hq
      · exact Or.inr (Or.inl hq)
      · by_cases e1 : i' = 64 * l + s
        · subst e1; rw [upd_same] at e; exact hu' q e
        · rw [upd_other _ _ e1] at e; exact Or.inr (Or.inr ⟨i', hi', e⟩)
  · have hno : ∀ x ∈ allL L, x.1 ≠ k := fun x hm e => hx ⟨x.2, by rw [← e]; exact hm⟩
    have hf := hk.none_ hno
    refine (remove_no hT hky hf).mono ?_
    rintro e w' ⟨he, hb⟩
    refine ⟨false, he, ⟨fun e => (by cases e), fun ⟨x, hx, e⟩ => absurd e (hno x (hp.symm.subset hx))⟩, v, L, f, n, hT.below hb, hk, ?_, hf, Off.of_below hb, fun _ e => e, hb.block W hWl⟩
    rw [keyNe_self (fun x hx => hno x (hp.symm.subset hx))]
    exact hp
end
section
variable {w : World} {B W now : Nat} {S : List Tm} {F : Nat → Prop}
/-- Behind put: the wheel. -/
theorem put_whl {T M n : Nat} {v v' : Nat → Value} {L : Nat → List Tm} {f : Int → Option (Nat × Nat)} {k : Int} {t : Nat} {wx w' : World} (hh : Held now S) (hB : B ≤ W) (hW : wx.heap[W]? = some (.cells #[.pointer (some ⟨T, 0, none⟩)] 55 (0, 0))) (hk : Ok now L f n []) (hp : (allL L).Perm (S.filter (keyNe k))) (hf : f k = none) (hky : KeyI k) (h1 : now < t) (h2 : t ≤ MaxT) (hl : (S.filter (keyNe k)).length < 4096)
    (hF : ∀ q, F q ↔ (q = W ∨ Ft T M v q)) (hWv : ¬ Ft T M v W) (o1 : Off (Ft T M v) w wx) (hs1 : ∀ q, Ft T M v' q → Ft T M v q ∨ w.heap.size ≤ q) (hWw : W < w.heap.size) (hQ : PutQ wx B T M now v' L f n k t (idx now t) w') : WhQ w B W now (setS k t S) F w' := by
  obtain ⟨u, hT, o, hu⟩ := hQ
  rw [hf] at hT
  have hne : ∀ x ∈ allL L, k ≠ x.1 := fun x hx e => by
    have := (List.mem_filter.1 (hp.subset hx)).2
    unfold keyNe at this
    simp at this
    exact this e.symm
  obtain ⟨ok, pm⟩ := ok_put hk hky (fun x hx => hne x (by simpa using hx)) h1 h2
  have hsz := o1.size
  have hft : ∀ q, Ft T M (upd v' (idx now t) u) q → Ft T M v q ∨ w.heap.size ≤ q := fun q hq => by
    rcases hq with hq | hq | ⟨j, hj, e⟩
    · exact hs1 q (Or.inl hq)
    · exact hs1 q (Or.inr (Or.inl hq))
    · by_cases e1 : j = idx now t
      · subst e1; rw [upd_same] at e
        rcases hu q e with h | h
        · exact hs1 q h
        · exact Or.inr (by omega)
      · rw [upd_other _ _ e1] at e; exact hs1 q (Or.inr (Or.inr ⟨j, hj, e⟩))
  have hWx : W < wx.heap.size := by omega
  have hnW : ¬ Ft T M v' W := fun e => by
    rcases hs1 W e with h | h
    · exact hWv h
    · omega
  refine ⟨fun q => q = W ∨ Ft T M (upd v' (idx now t) u) q, ⟨T, M, _, _, _, _, (o.block W hWx hnW).trans hW, hB, hT, ok, hh.set h1 h2, pm.trans ((hp.cons _).trans (setS_perm k t S).symm), ?_, fun q => Iff.rfl⟩, (o1.join o (fun q hq e => ?_)).mono fun q e => (hF q).2 (Or.inr e), fun q e => ?_⟩
  · have := (setS_perm k t S).length_eq
    simp only [List.length_cons] at this
    omega
  · rcases hs1 q e with h | h
    · exact h
    · omega
  · rcases e with e | e
    · exact Or.inl ((hF q).2 (Or.inl e))
    · rcases hft q e with h | h
      · exact Or.inl ((hF q).2 (Or.inr h))
      · exact Or.inr h
set_option maxRecDepth 100000 in
set_option maxHeartbeats 2000000 in
theorem set_ok (h : Whl w B W now S F) (hBw : B ≤ w.heap.size) {k : Int} {t : Nat} (hky : KeyI k) (h1 : now < t) (h2 : t ≤ MaxT) (hroom : (S.filter (keyNe k)).length < 4096) :
    Calls Tryd.prog 13 #[.pointer (some ⟨W, 0, none⟩), .int .i64 k, .int .i64 (t : Int)] w fun e w' => e = .returned .nilIface ∧ WhQ w B W now (setS k t S) F w' := by
  obtain ⟨T, M, v, L, f, n, hW, hB, hT, hk, hh, hp, hl, hF⟩ := h
  have c := wcell hW
  have c0 := hT.tb.c0
  have hWl := blk_lt hW
  have hWv : ¬ Ft T M v W := fun e => by
    rcases e with e | e | ⟨i, hi, e⟩
    · obtain ⟨cs, hc, _⟩ := hT.tb
      rw [e] at hW
      rw [hW] at hc
      simp only [Option.some.injEq, Obj.cells.injEq] at hc
      exact absurd hc.2.1 (by decide)
    · obtain ⟨es, cl, hm⟩ := hT.mp.isMap
      rw [e, hm] at hW; cases hW
    · rcases (hT.row i hi).2 with ⟨e0, _⟩ | ⟨g1, c1, u1, e1, _, b1, _⟩
      · rw [e0] at e; cases e
      · rw [e1] at e
        simp only [Value.ownBlock, Option.some.injEq] at e
        rw [e, hW] at b1
        simp only [Option.some.injEq, Obj.cells.injEq] at b1
        exact absurd b1.2.1 (by decide)
  have hn : n = S.length := by have := hk.nn; rw [List.append_nil, hp.length_eq] at this; exact this
  have hm := made_yes c
  have g1 : ¬ (t : Int) ≤ now := by omega
  have g2 : ¬ (t : Int) > 1099511627776 := by unfold MaxT at h2; omega
  have g3 : decide ((t : Int) ≤ now) = false := decide_eq_false g1
  have HAt : Hid (∃ (z : Int) (b : Bool), (Calls Tryd.prog 29 #[.pointer (some ⟨T, 0, none⟩), .int .i64 k] w fun e w' => e = .returned (.tuple #[.int .i64 z, .bool b]) ∧ Below w.heap.size w w') ∧ (b = false → ((n : Int) == 4096) = false)) := by
    by_cases hx : ∃ t, (k, t) ∈ allL L
    · obtain ⟨t', hx⟩ := hx
      obtain ⟨i, j, hi, hf, hj⟩ := hk.some_ hx
      obtain ⟨l, s, hl, hs, rfl⟩ : ∃ l s, l < 7 ∧ s < 64 ∧ i = 64 * l + s := ⟨i / 64, i % 64, by omega, by omega, by omega⟩
      exact ⟨t', true, at_yes hT hky hl hs hf hj, fun e => (by cases e)⟩
    · have hno : ∀ x ∈ allL L, x.1 ≠ k := fun x hm e => hx ⟨x.2, by rw [← e]; exact hm⟩
      refine ⟨0, false, at_no hT hky (hk.none_ hno), fun _ => ?_⟩
      rw [keyNe_self (fun x hx => hno x (hp.symm.subset hx))] at hroom
      simp; omega
  have HA : Hid (Whl w B W now S F ∧ Tms w B T M now v L f n ∧ Ok now L f n [] ∧ Held now S ∧ (allL L).Perm S ∧ S.length ≤ 4096 ∧ (∀ q, F q ↔ (q = W ∨ Ft T M v q)) ∧ w.heap[W]? = some (.cells #[.pointer (some ⟨T, 0, none⟩)] 55 (0, 0)) ∧ n = S.length) := ⟨⟨T, M, v, L, f, n, hW, hB, hT, hk, hh, hp, hl, hF⟩, hT, hk, hh, hp, hl, hF, hW, hn⟩
  clear hT hk hp hF hn hW hh
  obtain ⟨z, b, hat, hb4⟩ := HAt.out
  go_enter Tryd.func13, Tryd.ntmps13
  go_wp2_with (first | (go_at_call 28; refine hm.mono ?_; rintro _ w9 ⟨rfl, h9⟩; subst w9))
  refine hat.mono ?_
  rintro _ w1 ⟨rfl, hb1⟩
  have HW1 : Hid (Tms w1 B T M now v L f n ∧ w1.heap[W]? = some (.cells #[.pointer (some ⟨T, 0, none⟩)] 55 (0, 0)) ∧ Off (Ft T M v) w w1 ∧ W < w1.heap.size) := ⟨HA.out.2.1.below hb1, (hb1.block W hWl).trans HA.out.2.2.2.2.2.2.2.1, Off.of_below hb1, Nat.lt_of_lt_of_le hWl hb1.size⟩
  have c1 := wcell HW1.out.2.1
  have hc1 := count_any HW1.out.1
  have HRm : Hid (Calls Tryd.prog 31 #[.pointer (some ⟨T, 0, none⟩), .int .i64 k] w1 fun e w' => ∃ b, e = .returned (.bool b) ∧ RmQ w1 B W T M now v S k w') := (rm_any HW1.out.1 HA.out.2.2.1 HA.out.2.2.2.2.1 HA.out.2.2.2.2.2.1 hky hWv HW1.out.2.2.2).mono fun e w' ⟨b, he, _, hr⟩ => ⟨b, he, hr⟩
  clear hat hb1 c c0 hm HAt
  cases b with
  | true =>
    go_wp2_with fail
    refine HRm.out.mono ?_
    rintro _ w2 ⟨b2, rfl, v2, L2, f2, n2, hT2, hk2, hp2, hf2, o2, hs2, hW2⟩
    have c2 := wcell (hW2.trans HW1.out.2.1)
    have HP : Hid (Calls Tryd.prog 32 #[.pointer (some ⟨T, 0, none⟩), .agg #[.int .i64 k, .int .i64 (t : Int)]] w2 fun e w' => e = .returned (.tuple #[]) ∧ Hid (WhQ w B W now (setS k t S) F w')) := by
      have hn2 : n2 = (S.filter (keyNe k)).length := by have := hk2.nn; rw [List.append_nil, hp2.length_eq] at this; exact this
      have o12 : Off (Ft T M v) w w2 := HW1.out.2.2.1.trans o2
      refine (put_any hT2 (Nat.le_trans hBw o12.size) hky HA.out.2.2.2.1.nw h2 (by omega) (fun i hi => ?_)).mono ?_
      · have := hk2.len hi; omega
      · rintro e w' ⟨he, hQ⟩
        exact ⟨he, put_whl HA.out.2.2.2.1 hB (hW2.trans HW1.out.2.1) hk2 hp2 hf2 hky h1 h2 hroom HA.out.2.2.2.2.2.2.1 hWv o12 (fun q e => Or.inl (hs2 q e)) hWl hQ⟩
    clear hT2 hk2 hp2 hf2 o2 hs2 hW2 HRm
    go_wp2_with fail
    refine HP.out.mono ?_
    rintro _ w3 ⟨rfl, H3⟩
    go_wp2_with fail
    go_ret
    exact ⟨rfl, H3.out⟩
  | false =>
    have hb5 := hb4 rfl
    go_wp2_with (first | (go_at_call 30; refine hc1.mono ?_; rintro _ w9 ⟨rfl, h9⟩; subst w9))
    refine HRm.out.mono ?_
    rintro _ w2 ⟨b2, rfl, v2, L2, f2, n2, hT2, hk2, hp2, hf2, o2, hs2, hW2⟩
    have c2 := wcell (hW2.trans HW1.out.2.1)
    have HP : Hid (Calls Tryd.prog 32 #[.pointer (some ⟨T, 0, none⟩), .agg #[.int .i64 k, .int .i64 (t : Int)]] w2 fun e w' => e = .returned (.tuple #[]) ∧ Hid (WhQ w B W now (setS k t S) F w')) := by
      have hn2 : n2 = (S.filter (keyNe k)).length := by have := hk2.nn; rw [List.append_nil, hp2.length_eq] at this; exact this
      have o12 : Off (Ft T M v) w w2 := HW1.out.2.2.1.trans o2
      refine (put_any hT2 (Nat.le_trans hBw o12.size) hky HA.out.2.2.2.1.nw h2 (by omega) (fun i hi => ?_)).mono ?_
      · have := hk2.len hi; omega
      · rintro e w' ⟨he, hQ⟩
        exact ⟨he, put_whl HA.out.2.2.2.1 hB (hW2.trans HW1.out.2.1) hk2 hp2 hf2 hky h1 h2 hroom HA.out.2.2.2.2.2.2.1 hWv o12 (fun q e => Or.inl (hs2 q e)) hWl hQ⟩
    clear hT2 hk2 hp2 hf2 o2 hs2 hW2 HRm
    go_wp2_with fail
    refine HP.out.mono ?_
    rintro _ w3 ⟨rfl, H3⟩
    go_wp2_with fail
    go_ret
    exact ⟨rfl, H3.out⟩
end
end Go.Proofs.YtdglnobapnohmaaDoor
