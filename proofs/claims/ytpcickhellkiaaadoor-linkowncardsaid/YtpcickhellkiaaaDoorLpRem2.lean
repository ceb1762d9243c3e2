/-
  The program's link: a side's remove, has, clip.
-/
import Derived.Test.YtpcickhellkiaaaDoorLpRem
namespace Go.Proofs.YtpcickhellkiaaaDoor
open Go.RowKit

theorem pmap_erase (l : List Pp) (k : Nat) : (l.eraseIdx k).map (·.bs) = (l.map (·.bs)).eraseIdx k := by
  rw [List.eraseIdx_eq_take_drop_succ, List.eraseIdx_eq_take_drop_succ, List.map_append, List.map_take, List.map_drop]
section
variable {w w' : World} {lb s : Nat} {F : Nat → Prop} {x y : Dw}
/-- The list without a piece is stored. -/
theorem rem_end (h : Lk w lb F x y) (hs : s < 2) {k : Nat} (hk : k < (dwS x y s).n) {w1 : World} (hb : Below w.heap.size w w1) {a' : Option Addr} {n' c1 : Nat} (hr : PpRow w1 w.heap.size (.slice a' n' c1) ((dwS x y s).ps.eraseIdx k)) :
    w1.cell? ⟨lb, s, none⟩ = some (.slice (dwS x y s).a (dwS x y s).n (dwS x y s).c) ∧ w1.frozen? ⟨lb, s, none⟩ = false ∧ LQ w lb F x y s (goneC (sdL (dwS x y s)) k) (w1.setCell ⟨lb, s, none⟩ (.slice a' n' c1)) := by
  have hz := h.side s
  have hn := hz.len
  have eC : goneC (sdL (dwS x y s)) k = (((dwS x y s).ps.eraseIdx k).map (·.bs), goneH (dwS x y s).h k) := by rw [pmap_erase]; rfl
  rw [eC]
  refine lq_store h hs hb hr (fun p hp => (((h.below hb).side s).pcs p (List.mem_of_mem_eraseIdx hp)).mono fun b hb' => Or.inl hb') (fun j p hp => ?_) ?_
  · rw [List.getElem?_eraseIdx] at hp
    split at hp
    · rw [hz.br j p hp]
      refine decide_eq_decide.2 ?_
      unfold goneH
      split
      · omega
      · split <;> omega
    · rw [hz.br (j + 1) p hp]
      refine decide_eq_decide.2 ?_
      unfold goneH
      split
      · omega
      · split <;> omega
  · have := hz.ok.gone (i := k) (by omega)
    rw [eC] at this
    exact this
set_option maxRecDepth 100000 in
set_option maxHeartbeats 4000000 in
theorem prem_ok (h : Lk w lb F x y) (hs : s < 2) {k : Nat} (hk : k < (dwS x y s).n) : Calls Tryd.prog 43 #[.pointer (some ⟨lb, s, none⟩), .int .i64 (k : Int)] w fun e w' => e = .returned (.tuple #[]) ∧ Hid (LQ w lb F x y s (goneC (sdL (dwS x y s)) k) w') := by
  have hz := h.side s
  have hn := hz.len
  obtain ⟨g, ea⟩ : ∃ g, (dwS x y s).a = some ⟨g, 0, none⟩ := by
    obtain ⟨p, g, _, _, _, _, e, _⟩ := hz.piece hk
    exact ⟨g, e⟩
  have hrow := hz.row
  rw [ea] at hrow
  have d0 := (h.cell hs).1
  rw [ea] at d0
  obtain ⟨m, hm⟩ : ∃ m, (dwS x y s).n = m + 1 := ⟨(dwS x y s).n - 1, by omega⟩
  have hnc : m + 1 ≤ (dwS x y s).c := by omega
  have hcm := hn.2.2.2.2
  have hm6 : m + 1 ≤ 256 := by omega
  have hpl : (dwS x y s).ps.length = m + 1 := by omega
  rw [hm] at hrow d0 hk
  obtain ⟨w1, hmk, hR, hB1⟩ := run_make_pieces (w := w) m (by omega)
  obtain ⟨w2, hcp, hR2, hB2⟩ := run_pcopy hrow hR hB1 0 0 k m m k (dwS x y s).c (by omega) (by omega) (by show min k m = k; omega) 3
  rw [show (List.replicate m zP).take 0 ++ (((dwS x y s).ps.drop 0).take k ++ (List.replicate m zP).drop (0 + k)) = (dwS x y s).ps.take k ++ (List.replicate m zP).drop k by
    rw [List.take_zero, List.nil_append, List.drop_zero, Nat.zero_add]] at hR2
  have hcp1 : (Builtin.copy_ #[48, 48] 3 #[.slice (some ⟨w.heap.size, 0, none⟩) m m, .slice (some ⟨g, 0, none⟩) k (dwS x y s).c]).run Tryd.prog w1 = .ok (goInt k) w2 := by simpa using hcp
  have d1 : w1.cell? ⟨lb, s, none⟩ = some (.slice (some ⟨g, 0, none⟩) (m + 1) (dwS x y s).c) := by
    have := ((h.below hB1).cell hs).1
    rw [ea, hm] at this
    exact this
  have d2 : w2.cell? ⟨lb, s, none⟩ = some (.slice (some ⟨g, 0, none⟩) (m + 1) (dwS x y s).c) := by
    have := ((h.below hB2).cell hs).1
    rw [ea, hm] at this
    exact this
  by_cases hkm : k < m
  · obtain ⟨w3, hcp3, hR3, hB3⟩ := run_pcopy (w1 := w2.drew) hrow (hR2.below (Below.drew (Below.refl _ _))) hB2.drew (k + 1) k (m - k) (m - k) (m - k) (m - k) ((dwS x y s).c - (k + 1)) (by omega) (by omega) (by simp) 3
    rw [show ((dwS x y s).ps.take k ++ (List.replicate m zP).drop k).take k ++ (((dwS x y s).ps.drop (k + 1)).take (m - k) ++ ((dwS x y s).ps.take k ++ (List.replicate m zP).drop k).drop (k + (m - k))) = (dwS x y s).ps.eraseIdx k by
      rw [List.eraseIdx_eq_take_drop_succ, List.take_left' (by rw [List.length_take]; omega), List.take_of_length_le (l := (dwS x y s).ps.drop (k + 1)) (by rw [List.length_drop]; omega), List.drop_of_length_le (l := (dwS x y s).ps.take k ++ _) (by simp only [List.length_append, List.length_take, List.length_drop, List.length_replicate]; omega), List.append_nil]] at hR3
    obtain ⟨c1, c2, HL⟩ := rem_end h hs (by omega) hB3 hR3
    have HQ : Hid (LQ w lb F x y s (goneC (sdL (dwS x y s)) k) (w3.setCell ⟨lb, s, none⟩ (.slice (some ⟨w.heap.size, 0, none⟩) m m))) := HL
    rw [ea, hm] at c1
    clear HL hB3 hR3 hcp hR2 hB2 hR hB1 hrow hn hz h hpl ea hm
    generalize goneC (sdL (dwS x y s)) k = cs' at HQ ⊢
    generalize (dwS x y s).c = zc at *
    have g1 : ¬ zc = k + 1 := by omega
    have g2 : ¬ m = k := by omega
    have g3 : k + 1 ≤ m + 1 := by omega
    have g4 : k ≤ m := by omega
    have g5 : k ≤ zc := by omega
    have g6 : k + 1 ≤ zc := by omega
    go_enter Tryd.func43, Tryd.ntmps43
    go_wp2_with (at_builtin; refine wpList_copy_run rfl (.tmp 12) (.tmp 18) 48 _ rfl hcp1 ?_)
    clear hcp1 hmk
    have k1 : IntKind.i64.wrap ((k : Int) + 1) = (k : Int) + 1 := by rw [IntKind.wrap_i64]; omega
    have k2 : (0 : Int) ≤ (k : Int) + 1 := by omega
    have k3 : (k : Int) + 1 ≤ (m : Int) + 1 := by omega
    have k4 : ((k : Int) + 1).toNat = k + 1 := by omega
    have k5 : (k : Int) ≤ (m : Int) := by omega
    go_region_law (first | (refine step_copy_run rfl (.tmp 22) (.tmp 29) 48 rfl rfl rfl hcp3 ?_))
    all_goals (
      go_wp2_with fail
      go_end0
      exact ⟨rfl, HQ.out⟩)
  · obtain rfl : k = m := by omega
    have hR3 : PpRow w2.drew w.heap.size (.slice (some ⟨w.heap.size, 0, none⟩) k k) ((dwS x y s).ps.eraseIdx k) := by
      have := hR2.below (Below.drew (Below.refl _ _))
      rw [List.drop_of_length_le (l := List.replicate k zP) (by simp), List.append_nil] at this
      rw [List.eraseIdx_eq_take_drop_succ, List.drop_of_length_le (l := (dwS x y s).ps) (by omega), List.append_nil]
      exact this
    obtain ⟨c1, c2, HL⟩ := rem_end h hs (by omega) hB2.drew hR3
    have HQ : Hid (LQ w lb F x y s (goneC (sdL (dwS x y s)) k) (w2.drew.setCell ⟨lb, s, none⟩ (.slice (some ⟨w.heap.size, 0, none⟩) k k))) := HL
    rw [ea, hm] at c1
    have hcp3 : ∀ d a dc sc, (Builtin.copy_ #[48, 48] 3 #[.slice d 0 dc, .slice a 0 sc]).run Tryd.prog w2.drew = .ok (goInt 0) w2.drew := fun d a dc sc => by
      obtain ⟨ti, z, hti, _⟩ := celP
      exact run_copy_no w2.drew _ _ _ 79 ti hti d a 0 dc 0 sc Tryd.underlying48 rfl
    clear HL hR3 hcp hR2 hB2 hR hB1 hrow hn hz h hpl ea hm
    generalize goneC (sdL (dwS x y s)) k = cs' at HQ ⊢
    generalize (dwS x y s).c = zc at *
    have g5 : k ≤ zc := by omega
    have g6 : k + 1 ≤ zc := by omega
    have k1 : IntKind.i64.wrap ((k : Int) + 1) = (k : Int) + 1 := by rw [IntKind.wrap_i64]; omega
    have k2 : (0 : Int) ≤ (k : Int) + 1 := by omega
    have k4 : ((k : Int) + 1).toNat = k + 1 := by omega
    clear hkm
    by_cases g1 : zc = k + 1
    · subst g1
      go_enter Tryd.func43, Tryd.ntmps43
      go_wp2_with (at_builtin; refine wpList_copy_run rfl (.tmp 12) (.tmp 18) 48 _ rfl hcp1 ?_)
      clear hcp1 hmk
      go_region_law (first | (refine step_copy_run rfl (.tmp 22) (.tmp 29) 48 rfl rfl rfl (hcp3 _ _ _ _) ?_))
      all_goals (
        go_wp2_with fail
        go_end0
        exact ⟨rfl, HQ.out⟩)
    · go_enter Tryd.func43, Tryd.ntmps43
      go_wp2_with (at_builtin; refine wpList_copy_run rfl (.tmp 12) (.tmp 18) 48 _ rfl hcp1 ?_)
      clear hcp1 hmk
      go_region_law (first | (refine step_copy_run rfl (.tmp 22) (.tmp 29) 48 rfl rfl rfl (hcp3 _ _ _ _) ?_))
      all_goals (
        go_wp2_with fail
        go_end0
        exact ⟨rfl, HQ.out⟩)
/-- There is such a piece, with so many bytes left. -/
def hasB (c : Sd) (i n : Int) : Bool := isAt c i && (decide (0 ≤ n) && decide (n ≤ (pcAt c i).length))
set_option maxRecDepth 100000 in
set_option maxHeartbeats 4000000 in
theorem has_any (h : Lk w lb F x y) (hs : s < 2) (i n : Int) : Calls Tryd.prog 33 #[.pointer (some ⟨lb, s, none⟩), .int .i64 i, .int .i64 n] w fun e w' => e = .returned (.bool (hasB (sdL (dwS x y s)) i n)) ∧ w' = w := by
  have hz := h.side s
  have hn := hz.len
  have d0 := (h.cell hs).1
  by_cases hi : isAt (sdL (dwS x y s)) i = true
  · have hi' := isAt_iff.1 hi
    rw [hn.2.1] at hi'
    obtain ⟨k, rfl⟩ : ∃ k : Nat, i = k := ⟨i.toNat, by omega⟩
    obtain ⟨p, g, pb, po, _, _, ea, d1, _, _, ep, epl, _⟩ := hz.piece (k := k) (by omega)
    have eB : hasB (sdL (dwS x y s)) k n = (decide (0 ≤ n) && decide (n ≤ (p.n : Int))) := by unfold hasB; rw [hi, Bool.true_and, ep, epl]
    rw [eB]
    rw [ea] at d0
    have g1 : (k : Int) ≥ 0 := by omega
    have g2 : (k : Int) < ((dwS x y s).n : Int) := by omega
    have hn6 := hn.2.2.1
    clear hi hi' eB ep epl hn hz h ea
    generalize (dwS x y s).n = zn at *
    generalize (dwS x y s).c = zc at *
    by_cases g3 : n ≥ 0
    · by_cases g4 : n ≤ (p.n : Int)
      · rw [decide_eq_true g4, show decide (0 ≤ n) = true from decide_eq_true g3]
        go_enter Tryd.func33, Tryd.ntmps33
        go_wp2_with fail
        go_ret
        exact ⟨rfl, rfl⟩
      · rw [decide_eq_false g4, Bool.and_false]
        go_enter Tryd.func33, Tryd.ntmps33
        go_wp2_with fail
        go_ret
        exact ⟨rfl, rfl⟩
    · rw [show decide (0 ≤ n) = false from decide_eq_false g3, Bool.false_and]
      go_enter Tryd.func33, Tryd.ntmps33
      go_wp2_with fail
      go_ret
      exact ⟨rfl, rfl⟩
  · have eB : hasB (sdL (dwS x y s)) i n = false := by unfold hasB; rw [Bool.not_eq_true] at hi; rw [hi, Bool.false_and]
    rw [eB]
    have hi' : ¬ (0 ≤ i ∧ i < ((dwS x y s).n : Int)) := fun g => hi (isAt_iff.2 (by rw [hn.2.1]; exact g))
    clear eB hi hn hz h
    generalize (dwS x y s).n = zn at *
    generalize (dwS x y s).c = zc at *
    generalize (dwS x y s).a = za at *
    by_cases g1 : i ≥ 0
    · have g2 : ¬ i < (zn : Int) := by omega
      go_enter Tryd.func33, Tryd.ntmps33
      go_wp2_with fail
      go_ret
      exact ⟨rfl, rfl⟩
    · go_enter Tryd.func33, Tryd.ntmps33
      go_wp2_with fail
      go_ret
      exact ⟨rfl, rfl⟩
end
end Go.Proofs.YtpcickhellkiaaaDoor
