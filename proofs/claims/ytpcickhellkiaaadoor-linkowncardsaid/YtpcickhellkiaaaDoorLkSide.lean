/-
  The document's link: its sides; Send, Drop, Half, Flight.
-/
import Derived.Test.YtpcickhellkiaaaDoorLkGone
namespace Go.Proofs.YtpcickhellkiaaaDoor
open Go.RowKit

def lkC (x y : Wy) : Array Value := #[.bool true, .slice x.a x.n x.c, .int .i64 x.h, .slice y.a y.n y.c, .int .i64 y.h]
def sdW (x y : Wy) (s : Nat) : Wy := if s = 0 then x else y
def upX (x z : Wy) (s : Nat) : Wy := if s = 0 then z else x
def upY (y z : Wy) (s : Nat) : Wy := if s = 0 then y else z
/-- What a side holds. -/
def sdOf (z : Wy) : Sd := (z.ps.map (·.bs), z.h)
/-- A call's leavings of a link. -/
def RQ (w : World) (rb : Nat) (x y : Wy) (s : Nat) (c' : Sd) (w' : World) : Prop :=
  ∃ z', RLk w' rb (upX x z' s) (upY y z' s) ∧ sdOf z' = c' ∧ Off (fun q => q = rb ∨ wyOwn (sdW x y s) = some q) w w' ∧ (∀ g, wyOwn z' = some g → wyOwn (sdW x y s) = some g ∨ w.heap.size ≤ g) ∧ NewP w (sdW x y s) z'
section
variable {w w' : World} {rb s : Nat} {x y z' : Wy} {c' : Sd}
theorem RLk.at_ (h : RLk w rb x y) (hs : s < 2) : WAt w rb (1 + 2 * s) (lkC x y) (sdW x y s) := by
  rcases (by omega : s = 0 ∨ s = 1) with rfl | rfl
  · exact ⟨h.blk, rfl, rfl, h.px⟩
  · exact ⟨h.blk, rfl, rfl, h.py⟩
theorem RLk.back (h : RLk w rb x y) (hs : s < 2) (q : WQ w rb (1 + 2 * s) (lkC x y) (sdW x y s) z' w') : RLk w' rb (upX x z' s) (upY y z' s) := by
  obtain ⟨q1, q2, q3, q4, _⟩ := q
  have hrl := blk_lt h.blk
  have nb : ∀ q cs, w.heap[q]? = some (.cells cs 5 (0, 0)) → ¬ (q = rb ∨ wyOwn (sdW x y s) = some q) := fun q cs hq e => by
    rcases e with rfl | e
    · rw [h.blk] at hq
      simp at hq
    · obtain ⟨cs2, e2⟩ := row_pc (h.at_ hs).ok.row e
      rw [hq] at e2
      simp at e2
  rcases (by omega : s = 0 ∨ s = 1) with rfl | rfl
  · refine ⟨q1, q2, h.py.off q3 (fun g hg e => ?_) nb, fun g hg e => ?_⟩
    · rcases e with rfl | e
      · have := (ERow.lt h.py.row hg).1; omega
      · exact h.ap g e hg
    · rcases q4 g hg with e' | e'
      · exact h.ap g e' e
      · have := (ERow.lt h.py.row e).2; omega
  · refine ⟨q1, h.px.off q3 (fun g hg e => ?_) nb, q2, fun g hg e => ?_⟩
    · rcases e with rfl | e
      · have := (ERow.lt h.px.row hg).1; omega
      · exact h.ap g hg e
    · rcases q4 g e with e' | e'
      · exact h.ap g hg e'
      · have := (ERow.lt h.px.row hg).2; omega
theorem RQ.of (h : RLk w rb x y) (hs : s < 2) (q : WQ w rb (1 + 2 * s) (lkC x y) (sdW x y s) z' w') (e : sdOf z' = c') : RQ w rb x y s c' w' := ⟨z', h.back hs q, e, q.2.2.1, q.2.2.2.1, q.2.2.2.2⟩
theorem RQ.same (h : RLk w rb x y) (e : sdOf (sdW x y s) = c') : RQ w rb x y s c' w := ⟨sdW x y s, by
  unfold upX upY sdW
  by_cases h0 : s = 0
  · simpa [h0] using h
  · simpa [h0] using h, e, Off.refl _ _, fun g hg => Or.inl hg, fun p hp => Or.inl hp⟩
theorem WAt.len {o : Nat} {cs : Array Value} {z : Wy} (h : WAt w rb o cs z) : (sdOf z).1.length = z.n ∧ z.n ≤ 256 := by
  have h1 := h.ok.row.len
  have h2 := h.ok.len
  unfold sdOf
  rw [List.length_map]
  omega
set_option maxRecDepth 100000 in
set_option maxHeartbeats 2000000 in
theorem rsend_any (h : RLk w rb x y) (hs : s < 2) {po : Option Addr} {m c : Nat} {bs : List Int} (hb : Byts w po m bs) : Calls Tryd.prog 46 #[.pointer (some ⟨rb, 0, none⟩), .int .i64 (s : Int), .slice po m c] w fun e w' => e = .returned (.int .i64 (sendE (sdOf (sdW x y s)) bs)) ∧ Hid (RQ w rb x y s (sendC (sdOf (sdW x y s)) bs) w') := by
  have HW := rway_ok h hs
  have HA := h.at_ hs
  have hm := hb.len
  have hl := HA.len
  by_cases h0 : m = 0 ∨ 8195 < m
  · have HQ : Hid (RQ w rb x y s (sendC (sdOf (sdW x y s)) bs) w) := RQ.same h (by unfold sendC; rw [if_pos (by omega)])
    have eE : sendE (sdOf (sdW x y s)) bs = 4 := by unfold sendE; rw [if_pos (by omega)]
    rw [eE]
    generalize 1 + 2 * s = o at HW HA
    rcases h0 with g | g
    · have g1 : ((m : Int) == 0) = true := by simp; omega
      clear HA hb h hl hm eE
      go_enter Tryd.func46, Tryd.ntmps46
      go_wp2_with fail
      refine HW.mono ?_
      rintro _ _ ⟨rfl, rfl⟩
      go_wp2_with fail
      go_ret
      exact ⟨rfl, HQ.out⟩
    · have g1 : ((m : Int) == 0) = false := by simp; omega
      have g2 : (m : Int) > 8195 := by omega
      clear HA hb h hl hm eE
      go_enter Tryd.func46, Tryd.ntmps46
      go_wp2_with fail
      refine HW.mono ?_
      rintro _ _ ⟨rfl, rfl⟩
      go_wp2_with fail
      go_ret
      exact ⟨rfl, HQ.out⟩
  · have g1 : ((m : Int) == 0) = false := by simp; omega
    have g2 : ¬ (m : Int) > 8195 := by omega
    have eE : sendE (sdOf (sdW x y s)) bs = putE (sdOf (sdW x y s)) := by unfold sendE; rw [if_neg (by omega)]
    have eC : sendC (sdOf (sdW x y s)) bs = putC (sdOf (sdW x y s)) bs := by unfold sendC; rw [if_neg (by omega)]
    rw [eE, eC]
    have HP : Calls Tryd.prog 71 #[.pointer (some ⟨rb, 1 + 2 * s, none⟩), .slice po m c] w fun e w' => e = .returned (.int .i64 (putE (sdOf (sdW x y s)))) ∧ Hid (RQ w rb x y s (putC (sdOf (sdW x y s)) bs) w') := by
      by_cases hf : 256 ≤ (sdW x y s).ps.length
      · refine (rput_full HA (po := po) (m := m) (c := c) hf).mono fun e w' ⟨e1, e2⟩ => ⟨?_, ?_⟩
        · rw [e1]; unfold putE sdOf; rw [List.length_map, if_pos hf]
        · subst e2
          refine RQ.same h ?_
          unfold putC; rw [if_pos (by unfold sdOf; rw [List.length_map]; exact hf)]
      · refine (rput_ok HA (c := c) hb (by omega) (by omega)).mono fun e w' ⟨e1, e2⟩ => ⟨?_, ?_⟩
        · rw [e1]; unfold putE sdOf; rw [List.length_map, if_neg hf]
        · obtain ⟨z', q, e3, e4⟩ := e2.out
          refine RQ.of h hs q ?_
          unfold putC; rw [if_neg (by unfold sdOf; rw [List.length_map]; exact hf)]
          unfold sdOf
          rw [e3, e4]
    clear HA hb h hl hm eE eC
    generalize 1 + 2 * s = o at HW HP
    go_enter Tryd.func46, Tryd.ntmps46
    go_wp2_with fail
    refine HW.mono ?_
    rintro _ _ ⟨rfl, rfl⟩
    go_wp2_with fail
    refine HP.mono ?_
    rintro _ w2 ⟨rfl, HF⟩
    go_wp2_with fail
    go_ret
    exact ⟨rfl, HF.out⟩
end
end Go.Proofs.YtpcickhellkiaaaDoor
