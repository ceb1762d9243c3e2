/-
  InboxKeeps: plain facts; the first half of its walk.
-/
import Derived.Test.YtnpndbehbcaghaaDoorIbKeepW
namespace Go.Proofs.YtnpndbehbcaghaaDoor
open Go.RowKit

theorem lastT_at {es : List Ent} {m : Nat} {x : Ent} (hl : es.length = m + 1) (hx : es[m]? = some x) : lastT es = x.tk := by
  unfold lastT
  rw [List.getLast?_eq_getElem?, hl, Nat.add_sub_cancel, hx]
theorem lastT_set {es : List Ent} {i : Nat} {x y : Ent} (hx : es[i]? = some x) (hy : y.tk = x.tk) : lastT (es.set i y) = lastT es := by
  have hi := (List.getElem?_eq_some_iff.1 hx).1
  obtain ⟨m, hm⟩ : ∃ m, es.length = m + 1 := ⟨es.length - 1, by omega⟩
  obtain ⟨z, hz⟩ : ∃ z, es[m]? = some z := ⟨_, List.getElem?_eq_getElem (by omega)⟩
  by_cases he : i = m
  · subst he
    rw [hx] at hz
    rw [lastT_at (by rw [List.length_set]; exact hm) (List.getElem?_set_self hi), lastT_at hm hx, hy]
  · rw [lastT_at (by rw [List.length_set]; exact hm) (by rw [List.getElem?_set_ne he]; exact hz), lastT_at hm hz]
theorem lastT_erase {es : List Ent} {j : Nat} (h : j + 1 < es.length) : lastT (es.eraseIdx j) = lastT es := by
  obtain ⟨m, hm⟩ : ∃ m, es.length = m + 2 := ⟨es.length - 2, by omega⟩
  obtain ⟨z, hz⟩ : ∃ z, es[m + 1]? = some z := ⟨_, List.getElem?_eq_getElem (by omega)⟩
  rw [lastT_at (m := m + 1) hm hz, lastT_at (m := m) (x := z) (by rw [List.length_eraseIdx, if_pos (by omega), hm]; omega) (by rw [List.getElem?_eraseIdx, if_neg (by omega)]; exact hz)]
theorem lastT_shed {K : Int} {es : List Ent} (hK : 0 ≤ K) : lastT (shedS K es) = lastT es := by
  unfold shedS
  cases hm : manyB K es with
  | false => rfl
  | true =>
    obtain ⟨j, x, h1, h2, h3⟩ := many_fd hK hm
    rw [h1]
    refine lastT_erase ?_
    have hj := (List.getElem?_eq_some_iff.1 h2).1
    unfold manyB at hm
    have hm := of_decide_eq_true hm
    obtain ⟨_, _, _, h4⟩ := fd_some h1
    have e1 : es = es.take j ++ es.drop j := (List.take_append_drop j es).symm
    have e2 : (es.take j).countP dcB = 0 := by
      rw [List.countP_eq_zero]
      intro a ha
      obtain ⟨q, hq, rfl⟩ := List.getElem_of_mem ha
      have hq2 : q < j := by rw [List.length_take] at hq; omega
      rw [h4 q _ hq2 (by rw [List.getElem_take]; exact List.getElem?_eq_getElem (by omega))]
      decide
    have e3 : nDc es ≤ es.length - j := by
      unfold nDc
      rw [e1, List.countP_append, e2, Nat.zero_add, List.take_append_drop]
      exact Nat.le_trans List.countP_le_length (by rw [List.length_drop]; exact Nat.le_refl _)
    omega
theorem shed_id {K : Int} {es : List Ent} (h : (nDc es : Int) ≤ K + 1) : shedS K es = es ∧ goneS K es = [] := by
  have hm : manyB K es = false := by unfold manyB; rw [decide_eq_false (by omega)]
  unfold shedS goneS
  rw [hm]
  exact ⟨rfl, rfl⟩
theorem Kin.there {K : Int} {l : List Bk} {es : List Ent} (h : Kin K l es) (hd : Dis es) (ho : ∀ e ∈ es, mayB e = true) : (∀ x ∈ l, x.go = false → KeyS x.ct ∧ ∃ j e, fi x.ct es = some j ∧ es[j]? = some e ∧ dcB e = x.de) ∧ (kp l).length = es.length := by
  refine ⟨fun x hx hg => ?_, by have := congrArg List.length h.mp; rw [List.length_map, List.length_map] at this; exact this.symm⟩
  obtain ⟨i, hi, rfl⟩ := List.getElem_of_mem hx
  obtain ⟨A, C, e, _⟩ := part_at (List.getElem?_eq_getElem hi)
  have h' := h
  rw [e] at h'
  obtain ⟨x', h1, h2, h3⟩ := h'.at_ hg
  rw [← h2]
  exact ⟨keyS_of (ho x' (List.mem_of_getElem? h1)), _, x', hd.fi h1, h1, h3⟩
theorem kin_known {K : Int} {l : List Bk} {es : List Ent} (h : Kin K l es) (s : ByteArray) : l.any (knB s) = (fi s es).isSome := by
  have e1 : l.any (knB s) = ((kp l).map vB).any (fun p => p.1.toList == s.toList) := by
    rw [List.any_map]
    unfold kp
    rw [List.any_filter]
    congr 1
    funext b
    unfold knB
    rw [Bool.and_comm]
    rfl
  rw [e1, ← h.mp, List.any_map, Bool.eq_iff_iff, List.any_eq_true]
  constructor
  · rintro ⟨e, he, h2⟩
    cases hf : fi s es with
    | some j => rfl
    | none =>
      obtain ⟨j, hj, rfl⟩ := List.getElem_of_mem he
      have := fi_none hf j _ (List.getElem?_eq_getElem hj)
      simp only [Function.comp, vE] at h2
      rw [this] at h2
      cases h2
  · intro h2
    obtain ⟨j, hj⟩ := Option.isSome_iff_exists.1 h2
    obtain ⟨m, h3, h4, _⟩ := fi_some hj
    exact ⟨m, List.mem_of_getElem? h3, h4⟩
section
variable {K R : Int} {ao : Option Addr} {n cap : Nat} {xs : List Stv}
set_option maxRecDepth 100000 in
set_option maxHeartbeats 2000000 in
theorem keeps_no (w : World) (h : ¬ (1 ≤ K ∧ K ≤ 64 ∧ 1 ≤ R ∧ R ≤ 32)) : Calls Tryd.prog 3 #[.int .i64 K, .int .i64 R, .slice ao n cap] w fun r w' => r = .returned (.bool true) ∧ Below w.heap.size w w' := by
  have hnw := new_no K R w h
  by_cases h1 : K < 1
  · have g1 : ¬ K ≥ 1 := by omega
    clear h
    go_enter Tryd.func3, Tryd.ntmps3
    go_wp2_with fail
    refine hnw.mono ?_
    rintro _ w1 ⟨rfl, hf1, hb1⟩
    have HB1 : Hid (Below w.heap.size w w1) := hb1
    have hlv := lives_any w1
    clear hnw hf1 hb1
    go_wp2_with fail
    refine hlv.mono ?_
    rintro _ w2 ⟨rfl, hb2⟩
    have HB2 : Hid (Below w.heap.size w w2) := below_then HB1.out hb2
    clear hlv hb2
    go_wp2_with fail
    go_ret
    exact ⟨rfl, HB2.out⟩
  by_cases h2 : K > 64
  · have g1 : K ≥ 1 := by omega
    have g2 : ¬ K ≤ 64 := by omega
    clear h
    go_enter Tryd.func3, Tryd.ntmps3
    go_wp2_with fail
    refine hnw.mono ?_
    rintro _ w1 ⟨rfl, hf1, hb1⟩
    have HB1 : Hid (Below w.heap.size w w1) := hb1
    have hlv := lives_any w1
    clear hnw hf1 hb1
    go_wp2_with fail
    refine hlv.mono ?_
    rintro _ w2 ⟨rfl, hb2⟩
    have HB2 : Hid (Below w.heap.size w w2) := below_then HB1.out hb2
    clear hlv hb2
    go_wp2_with fail
    go_ret
    exact ⟨rfl, HB2.out⟩
  by_cases h3 : R < 1
  · have g1 : K ≥ 1 := by omega
    have g2 : K ≤ 64 := by omega
    have g3 : ¬ R ≥ 1 := by omega
    clear h
    go_enter Tryd.func3, Tryd.ntmps3
    go_wp2_with fail
    refine hnw.mono ?_
    rintro _ w1 ⟨rfl, hf1, hb1⟩
    have HB1 : Hid (Below w.heap.size w w1) := hb1
    have hlv := lives_any w1
    clear hnw hf1 hb1
    go_wp2_with fail
    refine hlv.mono ?_
    rintro _ w2 ⟨rfl, hb2⟩
    have HB2 : Hid (Below w.heap.size w w2) := below_then HB1.out hb2
    clear hlv hb2
    go_wp2_with fail
    go_ret
    exact ⟨rfl, HB2.out⟩
  have g1 : K ≥ 1 := by omega
  have g2 : K ≤ 64 := by omega
  have g3 : R ≥ 1 := by omega
  have g4 : ¬ R ≤ 32 := by omega
  clear h
  go_enter Tryd.func3, Tryd.ntmps3
  go_wp2_with fail
  refine hnw.mono ?_
  rintro _ w1 ⟨rfl, hf1, hb1⟩
  have HB1 : Hid (Below w.heap.size w w1) := hb1
  have hlv := lives_any w1
  clear hnw hf1 hb1
  go_wp2_with fail
  refine hlv.mono ?_
  rintro _ w2 ⟨rfl, hb2⟩
  have HB2 : Hid (Below w.heap.size w w2) := below_then HB1.out hb2
  clear hlv hb2
  go_wp2_with fail
  go_ret
  exact ⟨rfl, HB2.out⟩
/-- Between two steps. -/
structure KpI (w : World) (b sb M : Nat) (K R : Int) (i : Nat) (u : Value) (tick : Int) (wx : World) : Prop where
  ex : ∃ es l, Li w wx b sb M K R es ∧ KRow wx w.heap.size u l ∧ Kin K l es ∧ tick = lastT es ∧ l.length ≤ i
theorem KpI.below {w wx wy : World} {b sb M i j : Nat} {K R : Int} {u : Value} {tick : Int} (h : KpI w b sb M K R i u tick wx) (hb : Below wx.heap.size wx wy) (hij : i ≤ j) : KpI w b sb M K R j u tick wy := by
  obtain ⟨es, l, h1, h2, h3, h4, h5⟩ := h.ex
  exact ⟨es, l, h1.below hb, h2.below hb, h3, h4, by omega⟩
end
end Go.Proofs.YtnpndbehbcaghaaDoor
