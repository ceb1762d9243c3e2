/-
  SeqTogether.
-/
import Derived.Test.YtnabpjfdpelejaaSqBegun
namespace Go.Proofs.Ytnabpjfdpelejaa
open Go.RowKit

set_option maxRecDepth 100000 in
set_option maxHeartbeats 4000000 in
theorem together_law (nx x : Int) (w : World) (hV : PV w) : Calls Try.prog 3 #[.int .i64 nx, .int .i64 x] w fun r w' => r = .returned (.bool true) ∧ Below w.heap.size w w' := by
  have HV : Hid (PV w) := hV
  clear hV
  by_cases hr : 1 ≤ nx ∧ nx ≤ 2147483647 ∧ 1 ≤ x ∧ x < 2147483647
  · obtain ⟨g1, g2, g3, g4⟩ := hr
    have k1 : ¬ nx < 1 := by omega
    have k2 : ¬ 2147483647 < nx := by omega
    have k3 : ¬ x < 1 := by omega
    have k4 : ¬ 2147483647 ≤ x := by omega
    have j3 : judK x 0 x = 3 := jud3.2 ⟨⟨by omega, by omega⟩, Or.inr rfl⟩
    have hk : okR x x := ⟨⟨by omega, by omega⟩, Or.inr rfl⟩
    have a0 : accC x x = 0 := if_pos hk
    have a1 : accE x x = x + 1 := if_pos hk
    have a2 : accL x 0 x = x := if_pos hk
    have j4 : judK (x + 1) x x = 4 := by
      unfold judK isN
      rw [if_neg (by omega), if_neg (by omega), if_neg (by omega), if_pos rfl]
    have t1 : takeC (x + 1) = 0 := if_neg (by omega)
    have j5 : judK (x + 1) x (x + 1) = 3 := jud3.2 ⟨⟨by omega, by omega⟩, Or.inr rfl⟩
    have n0 : takeC nx = 0 := if_neg (by omega)
    have n1 : newR x 0 = 0 := if_pos (by omega)
    have n2 : tellV x = x := if_pos ⟨by omega, by omega⟩
    go_enter Try.func3, Try.ntmps3
    go_wp2_with fail
    refine (begun_any w HV.out).mono ?_
    rintro _ w1 ⟨bs, br, rfl, H1⟩
    go_wp2_with fail
    refine (pNewS_ok nx ⟨by omega, g2⟩ w1 H1.out.here).mono ?_
    rintro _ w2 ⟨s, rfl, hge, hs, hb⟩
    have H2 : Hid (w.heap.size ≤ s ∧ Snd w2 s nx ∧ Below w.heap.size w w2) := ⟨by have := H1.out.inn.bl.size; omega, hs, below_then H1.out.inn.bl hb⟩
    clear hge hs hb
    go_wp2_with fail
    refine (pNewR_ok x 0 n1 w2 (HV.out.below H2.out.2.2)).mono ?_
    rintro _ w3 ⟨r, rfl, hge, hs, hb⟩
    have H3 : Hid (BR w w3 s r nx x 0) := ⟨H2.out.2.1.off (P := fun _ => False) (Off.of_below hb) id, hs, by have := H2.out.2.1.lt; omega, ⟨HV.out, below_then H2.out.2.2 hb, fun k hk => by have := H2.out.2.2.size; have := H2.out.1; rcases hk with rfl | rfl <;> omega⟩⟩
    clear hge hs hb H2 H1
    go_wp2_with fail
    refine H3.out.take.mono ?_
    rw [n0]
    rintro _ w4 ⟨ev, rfl, H4⟩
    obtain rfl := H4.out.2.1.nil
    by_cases heq : nx = x
    · subst heq
      have q1 : takeS nx = nx + 1 := by unfold takeS aft; rw [if_neg (by omega), if_neg (by omega)]
      rw [q1] at H4
      go_wp2_with fail
      refine (H4.out.1.judge nx).mono ?_
      rw [j3]
      rintro _ w5 ⟨rfl, H5⟩
      have HS : Hid (BR w w5 s r (nx + 1) nx 0) := H5.out.1
      go_wp2_with fail
      refine (HS.out.judge nx).mono ?_
      rw [j3]
      rintro _ w6 ⟨rfl, H6⟩
      go_wp2_with fail
      refine (H6.out.1.accept nx).mono ?_
      rw [a0, a1, a2]
      rintro _ w7 ⟨ev7, rfl, H7⟩
      obtain rfl := H7.out.2.1.nil
      go_wp2_with fail
      refine (H7.out.1.judge nx).mono ?_
      rw [j4]
      rintro _ w8 ⟨rfl, H8⟩
      go_wp2_with fail
      refine H8.out.1.take.mono ?_
      rw [t1]
      rintro _ w9 ⟨ev9, rfl, H9⟩
      obtain rfl := H9.out.2.1.nil
      go_wp2_with fail
      refine (H9.out.1.judge (nx + 1)).mono ?_
      rw [j5]
      rintro _ w10 ⟨rfl, H10⟩
      go_wp2_with fail
      go_ret
      exact ⟨rfl, H10.out.1.inn.bl⟩
    · have jn : (judK x 0 nx != 3) = true := by
        have : judK x 0 nx ≠ 3 := fun g => by
          have := (jud3.1 g).2
          omega
        simpa using this
      have c0 : backC nx x = 0 := by unfold backC isN; rw [if_pos (by omega), if_neg heq]
      have c1 : backV nx x = x := if_pos ⟨⟨g1, g2⟩, ⟨g3, by omega⟩, heq⟩
      have c2 : backS (takeS nx) nx x = x + 1 := by unfold backS aft isN; rw [if_pos (by omega), if_neg (by omega)]
      go_wp2_with fail
      refine (H4.out.1.judge nx).mono ?_
      rintro _ w5 ⟨rfl, H5⟩
      go_wp2_with fail
      refine H5.out.1.tell.mono ?_
      rw [n2]
      rintro _ w5a ⟨rfl, H5a⟩
      go_wp2_with fail
      refine (H5a.out.1.back nx x).mono ?_
      rw [c0, c1, c2]
      rintro _ w5b ⟨ev5, rfl, H5b⟩
      obtain rfl := H5b.out.2.1.nil
      have HS : Hid (BR w w5b s r (x + 1) x 0) := H5b.out.1
      go_wp2_with fail
      refine (HS.out.judge x).mono ?_
      rw [j3]
      rintro _ w6 ⟨rfl, H6⟩
      go_wp2_with fail
      refine (H6.out.1.accept x).mono ?_
      rw [a0, a1, a2]
      rintro _ w7 ⟨ev7, rfl, H7⟩
      obtain rfl := H7.out.2.1.nil
      go_wp2_with fail
      refine (H7.out.1.judge x).mono ?_
      rw [j4]
      rintro _ w8 ⟨rfl, H8⟩
      go_wp2_with fail
      refine H8.out.1.take.mono ?_
      rw [t1]
      rintro _ w9 ⟨ev9, rfl, H9⟩
      obtain rfl := H9.out.2.1.nil
      go_wp2_with fail
      refine (H9.out.1.judge (x + 1)).mono ?_
      rw [j5]
      rintro _ w10 ⟨rfl, H10⟩
      go_wp2_with fail
      go_ret
      exact ⟨rfl, H10.out.1.inn.bl⟩
  · go_enter Try.func3, Try.ntmps3
    go_wp2_with fail
    refine (begun_any w HV.out).mono ?_
    rintro _ w1 ⟨bs, br, rfl, H1⟩
    by_cases g1 : nx < 1
    · go_wp2_with fail
      go_ret
      exact ⟨rfl, H1.out.inn.bl⟩
    by_cases g2 : 2147483647 < nx
    · go_wp2_with fail
      go_ret
      exact ⟨rfl, H1.out.inn.bl⟩
    by_cases g3 : x < 1
    · go_wp2_with fail
      go_ret
      exact ⟨rfl, H1.out.inn.bl⟩
    have g4 : 2147483647 ≤ x := by omega
    go_wp2_with fail
    go_ret
    exact ⟨rfl, H1.out.inn.bl⟩
end Go.Proofs.Ytnabpjfdpelejaa
