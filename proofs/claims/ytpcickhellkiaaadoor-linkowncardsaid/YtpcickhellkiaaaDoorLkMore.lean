/-
  The document's link: Drop, Double, Half, Flight.
-/
import Derived.Test.YtpcickhellkiaaaDoorLkSide
namespace Go.Proofs.YtpcickhellkiaaaDoor
open Go.RowKit

section
variable {w w' : World} {rb s : Nat} {x y z' : Wy} {c' : Sd}
theorem rput_any (h : RLk w rb x y) (hs : s < 2) {po : Option Addr} {m c : Nat} {bs : List Int} (hb : Byts w po m bs) (hm : m ≤ 8195) : Calls Tryd.prog 71 #[.pointer (some ⟨rb, 1 + 2 * s, none⟩), .slice po m c] w fun e w' => e = .returned (.int .i64 (putE (sdOf (sdW x y s)))) ∧ Hid (RQ w rb x y s (putC (sdOf (sdW x y s)) bs) w') := by
  have HA := h.at_ hs
  by_cases hf : 256 ≤ (sdW x y s).ps.length
  · refine (rput_full HA (po := po) (m := m) (c := c) hf).mono fun e w' ⟨e1, e2⟩ => ⟨?_, ?_⟩
    · rw [e1]; unfold putE sdOf; rw [List.length_map, if_pos hf]
    · subst e2
      refine RQ.same h ?_
      unfold putC; rw [if_pos (by unfold sdOf; rw [List.length_map]; exact hf)]
  · refine (rput_ok HA (c := c) hb (by omega) (by omega)).mono fun e w' ⟨e1, e2⟩ => ⟨?_, ?_⟩
    · rw [e1]; unfold putE sdOf; rw [List.length_map, if_neg hf]
    · obtain ⟨z', q, e3, e4⟩ := e2.out
      refine RQ.of h hs q ?_
      unfold putC; rw [if_neg (by unfold sdOf; rw [List.length_map]; exact hf)]
      unfold sdOf
      rw [e3, e4]
theorem map_erase {z : Wy} (k : Nat) : (z.ps.eraseIdx k).map (·.bs) = (z.ps.map (·.bs)).eraseIdx k := by
  rw [List.eraseIdx_eq_take_drop_succ, List.eraseIdx_eq_take_drop_succ, List.map_append, List.map_take, List.map_drop]
theorem rgone_any (h : RLk w rb x y) (hs : s < 2) (ho : SdOk (sdOf (sdW x y s))) {k : Nat} (hk : k < (sdW x y s).n) : Calls Tryd.prog 72 #[.pointer (some ⟨rb, 1 + 2 * s, none⟩), .int .i64 (k : Int)] w fun e w' => e = .returned (.tuple #[]) ∧ Hid (RQ w rb x y s (goneC (sdOf (sdW x y s)) k) w') := by
  have HA := h.at_ hs
  have h2 := ho.h2
  have hl := HA.len
  have hn := HA.ok.row.len
  have e1 : (sdOf (sdW x y s)).2 = (sdW x y s).h := rfl
  refine (rgone_ok HA (k := k) (by omega) (by omega)).mono fun e w' ⟨e1, e2⟩ => ⟨e1, ?_⟩
  obtain ⟨a, n, c, q⟩ := e2.out
  refine RQ.of h hs q ?_
  unfold goneC sdOf
  rw [map_erase]
set_option maxRecDepth 100000 in
set_option maxHeartbeats 2000000 in
theorem rdrop_any (h : RLk w rb x y) (hs : s < 2) (ho : SdOk (sdOf (sdW x y s))) (i : Int) : Calls Tryd.prog 48 #[.pointer (some ⟨rb, 0, none⟩), .int .i64 (s : Int), .int .i64 i] w fun e w' => e = .returned (.int .i64 (dropE (sdOf (sdW x y s)) i)) ∧ Hid (RQ w rb x y s (dropC (sdOf (sdW x y s)) i) w') := by
  have HW := rway_ok h hs
  have HA := h.at_ hs
  have hl := HA.len
  have d0 : w.cell? ⟨rb, 1 + 2 * s, none⟩ = some (.slice (sdW x y s).a (sdW x y s).n (sdW x y s).c) := (hcell HA.blk _).trans HA.c0
  by_cases hi : isAt (sdOf (sdW x y s)) i = true
  · have hi' := isAt_iff.1 hi
    rw [hl.1] at hi'
    obtain ⟨k, rfl⟩ : ∃ k : Nat, i = k := ⟨i.toNat, by omega⟩
    have eE : dropE (sdOf (sdW x y s)) (k : Int) = 0 := by unfold dropE; rw [if_pos hi]
    have eC : dropC (sdOf (sdW x y s)) (k : Int) = goneC (sdOf (sdW x y s)) k := by unfold dropC; rw [if_pos hi]; rfl
    have HG := rgone_any h hs ho (k := k) (by omega)
    rw [eE, eC]
    have g1 : ¬ (k : Int) < 0 := by omega
    have g2 : ¬ (k : Int) ≥ ((sdW x y s).n : Int) := by omega
    clear eE eC hi hi' hl HA h ho
    generalize 1 + 2 * s = o at HW HG d0
    go_enter Tryd.func48, Tryd.ntmps48
    go_wp2_with fail
    refine HW.mono ?_
    rintro _ _ ⟨rfl, rfl⟩
    go_wp2_with fail
    refine HG.mono ?_
    rintro _ w2 ⟨rfl, HF⟩
    go_wp2_with fail
    go_ret
    exact ⟨rfl, HF.out⟩
  · have HQ : Hid (RQ w rb x y s (dropC (sdOf (sdW x y s)) i) w) := RQ.same h (by unfold dropC; rw [if_neg hi])
    have eE : dropE (sdOf (sdW x y s)) i = 2 := by unfold dropE; rw [if_neg hi]
    rw [eE]
    have hi' : ¬ (0 ≤ i ∧ i < ((sdW x y s).n : Int)) := fun g => hi (isAt_iff.2 (by rw [hl.1]; exact g))
    by_cases g0 : i < 0
    · clear eE hi hi' hl HA h ho
      generalize 1 + 2 * s = o at HW d0
      go_enter Tryd.func48, Tryd.ntmps48
      go_wp2_with fail
      refine HW.mono ?_
      rintro _ _ ⟨rfl, rfl⟩
      go_wp2_with fail
      go_ret
      exact ⟨rfl, HQ.out⟩
    · have g2 : i ≥ ((sdW x y s).n : Int) := by omega
      clear eE hi hi' hl HA h ho
      generalize 1 + 2 * s = o at HW d0
      go_enter Tryd.func48, Tryd.ntmps48
      go_wp2_with fail
      refine HW.mono ?_
      rintro _ _ ⟨rfl, rfl⟩
      go_wp2_with fail
      go_ret
      exact ⟨rfl, HQ.out⟩
set_option maxRecDepth 100000 in
set_option maxHeartbeats 2000000 in
theorem rhalf_any (h : RLk w rb x y) (hs : s < 2) : Calls Tryd.prog 53 #[.pointer (some ⟨rb, 0, none⟩), .int .i64 (s : Int)] w fun e w' => e = .returned (.int .i64 (sdW x y s).h) ∧ w' = w := by
  have HW := rway_ok h hs
  have HA := h.at_ hs
  have d0 : w.cell? ⟨rb, 1 + 2 * s + 1, none⟩ = some (.int .i64 (sdW x y s).h) := (hcell HA.blk _).trans HA.c1
  clear HA h
  generalize 1 + 2 * s = o at HW d0
  go_enter Tryd.func53, Tryd.ntmps53
  go_wp2_with fail
  refine HW.mono ?_
  rintro _ _ ⟨rfl, rfl⟩
  go_wp2_with fail
  go_ret
  exact ⟨rfl, rfl⟩
set_option maxRecDepth 100000 in
set_option maxHeartbeats 2000000 in
theorem rflight_any (h : RLk w rb x y) (hs : s < 2) : Calls Tryd.prog 54 #[.pointer (some ⟨rb, 0, none⟩), .int .i64 (s : Int)] w fun e w' => e = .returned (.slice (sdW x y s).a (sdW x y s).n (sdW x y s).c) ∧ w' = w := by
  have HW := rway_ok h hs
  have HA := h.at_ hs
  have d0 : w.cell? ⟨rb, 1 + 2 * s, none⟩ = some (.slice (sdW x y s).a (sdW x y s).n (sdW x y s).c) := (hcell HA.blk _).trans HA.c0
  clear HA h
  generalize 1 + 2 * s = o at HW d0
  go_enter Tryd.func54, Tryd.ntmps54
  go_wp2_with fail
  refine HW.mono ?_
  rintro _ _ ⟨rfl, rfl⟩
  go_wp2_with fail
  go_ret
  exact ⟨rfl, rfl⟩
end
end Go.Proofs.YtpcickhellkiaaaDoor
