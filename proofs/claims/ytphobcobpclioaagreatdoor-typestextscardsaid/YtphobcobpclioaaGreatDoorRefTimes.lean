/-
  The reference's Time; the law StampTimes, walked.
-/
import Derived.Test.YtphobcobpclioaaGreatDoorRefZone3
import Derived.Test.YtphobcobpclioaaGreatDoorRefEnd
import Derived.Test.YtphobcobpclioaaGreatDoorRdTimes
namespace Go.Proofs.YtphobcobpclioaaGreatDoor
open Go.RowKit

theorem zone_same {s : ByteArray} {a a' : Nat} {b : Option Nat} (h : b = none → a' = a) : (zoneS s a' b).2.2.2 = (zoneS s a b).2.2.2 ∧ ((zoneS s a b).2.2.2 = none → zoneS s a' b = zoneS s a b) := by
  cases b with
  | none => rw [h rfl]; exact ⟨rfl, fun _ => rfl⟩
  | some q => rw [zone_bad, zone_bad]; exact ⟨rfl, fun e => by cases e⟩
set_option maxHeartbeats 1000000 in
theorem refTime_any (s : ByteArray) (w : World) (hs : s.size ≤ maxLen) :
    Calls Tryz.prog 34 #[.string s] w fun e w' => e = .returned (.tuple #[.int .i64 (placeI (timeE s)), .int .i64 (codeI (timeE s))]) ∧ Below w.heap.size w w' := by
  have HR : Hid (RRd (w.alloc (.cells #[.string s, .int .i64 0, .int .i64 (-1)] 107)) w.heap.size s 0 none) := rrd_new hs
  obtain ⟨⟨lv, h, mi, sc, p, dg, A, B⟩, hc⟩ : ∃ x, clockS s 0 none = x := ⟨_, rfl⟩
  obtain ⟨E, hE⟩ : ∃ E, timeE s = E := ⟨_, rfl⟩
  have HC : Hid (clockS s 0 none = (lv, h, mi, sc, p, dg, A, B)) := hc
  have HE : Hid (endB s (zoneS s A B).2.2.1 (zoneS s A B).2.2.2 = E) := by unfold Hid; rw [← hE]; unfold timeE; rw [hc]
  rw [hE]
  clear hE hs hc
  go_enter Tryz.func34, Tryz.ntmps34
  go_wp2_with fail
  refine (rclock_any _ HR.out HC.out).mono ?_
  rintro e w1 ⟨lv1, h1, mi1, sc1, p1, dg1, a1, rfl, r1, q1, o1⟩
  have HR1 : Hid (RRd w1 w.heap.size s a1 B) := r1
  have HQ1 : Hid (B = none → a1 = A) := fun e => (q1 e).1
  have HO1 : Hid (Off (· = w.heap.size) (w.alloc (.cells #[.string s, .int .i64 0, .int .i64 (-1)] 107)) w1) := o1
  clear r1 o1 q1
  obtain ⟨⟨Z, ZN, A2, B2⟩, hz⟩ : ∃ x, zoneS s a1 B = x := ⟨_, rfl⟩
  have HZ : Hid (zoneS s a1 B = (Z, ZN, A2, B2)) := hz
  have HE2 : Hid (endB s A2 B2 = E) := by
    unfold Hid
    have zs := zone_same (s := s) HQ1.out
    rw [hz] at zs
    have z1 : B2 = (zoneS s A B).2.2.2 := zs.1
    rw [← HE.out, ← z1]
    refine end_same fun g => ?_
    have z2 := zs.2 (z1 ▸ g)
    rw [← z2]
  clear hz
  go_wp2_with fail
  refine (rzone_any _ (HR1.out.alloc _) HZ.out).mono ?_
  rintro e w2 ⟨z', zn', a2, rfl, r2, q2, o2⟩
  have HR2 : Hid (RRd w2 w.heap.size s a2 B2) := r2
  have HB2 : Hid (endB s a2 B2 = E) := by unfold Hid; rw [end_same (fun e => (q2 e).1)]; exact HE2.out
  have HO2 : Hid (Off (· = w.heap.size) (w.alloc (.cells #[.string s, .int .i64 0, .int .i64 (-1)] 107)) w2) := (HO1.out.alloc _).trans o2
  clear r2 o2 q2
  go_wp2_with fail
  refine (rend_any _ HR2.out).mono ?_
  rintro e w3 ⟨rfl, r3, o3⟩
  rw [HB2.out] at r3
  have k2 := r3.bad
  have HB : Hid (Below w.heap.size w w3) := (below_box w _).trans ((HO2.out.trans o3).below (B := w.heap.size) (by simp) (by rintro k rfl; exact Nat.le_refl _))
  clear r3 o3
  cases E with
  | none =>
    have k2' : w3.cell? ⟨w.heap.size, 2, none⟩ = some (.int .i64 (-1)) := k2
    clear k2
    go_wp2_with fail
    go_ret2
    exact ⟨rfl, HB.out⟩
  | some p =>
    have k2' : w3.cell? ⟨w.heap.size, 2, none⟩ = some (.int .i64 (p : Int)) := k2
    have hp : (0 : Int) ≤ p := by omega
    clear k2
    go_wp2_with fail
    go_ret2
    exact ⟨rfl, HB.out⟩

end Go.Proofs.YtphobcobpclioaaGreatDoor
