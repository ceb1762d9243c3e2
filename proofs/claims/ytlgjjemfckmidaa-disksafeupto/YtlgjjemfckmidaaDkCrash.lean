/-
  A disk that was made: Crash, Image, Counts.
-/
import Derived.Test.YtlgjjemfckmidaaDkCalls
namespace Go.Proofs.Ytlgjjemfckmidaa
open Go.RowKit

section
variable {w0 w : World} {B K : Nat} {v0 v1 : Value} {x0 x1 : List Int} {s0 s1 : Nat} {st fu na ns nc : Int}
theorem tear0_rel {tk tz : Int} {k z : Nat} (h : Dsk w0 B K v0 v1 x0 x1 s0 s1 st fu na ns nc) (ha : Off (fun _ => False) w0 w) (hk : betw tk (x0.length - s0) = k) (hz : betw tz (x0.length - s0 - k) = z) :
    Calls Try.prog 76 #[.pointer (some ⟨K, 0, none⟩), .agg #[.int .i64 tk, .int .i64 tz]] w fun e w' => e = .returned (.tuple #[]) ∧ ∃ v', Dsk w' B K v' v1 (torn x0 s0 k z) x1 (torn x0 s0 k z).length s1 st fu na ns nc ∧ DStep w0 w' K v0 v1 v' v1 := by
  have hd := h.off ha (fun _ _ => id)
  refine (tear_any w hd.a0 hk hz).mono ?_
  rintro e w' ⟨he, v', a', s'⟩
  obtain ⟨d', t'⟩ := hd.area0 a' s'
  exact ⟨he, v', d', DStep.trans ⟨ha.mono (fun _ e => e.elim), fun _ _ g => g⟩ t'⟩
theorem tear1_rel {tk tz : Int} {k z : Nat} (h : Dsk w0 B K v0 v1 x0 x1 s0 s1 st fu na ns nc) (ha : Off (fun _ => False) w0 w) (hk : betw tk (x1.length - s1) = k) (hz : betw tz (x1.length - s1 - k) = z) :
    Calls Try.prog 76 #[.pointer (some ⟨K, 2, none⟩), .agg #[.int .i64 tk, .int .i64 tz]] w fun e w' => e = .returned (.tuple #[]) ∧ ∃ v', Dsk w' B K v0 v' x0 (torn x1 s1 k z) s0 (torn x1 s1 k z).length st fu na ns nc ∧ DStep w0 w' K v0 v1 v0 v' := by
  have hd := h.off ha (fun _ _ => id)
  refine (tear_any w hd.a1 hk hz).mono ?_
  rintro e w' ⟨he, v', a', s'⟩
  obtain ⟨d', t'⟩ := hd.area1 a' s'
  exact ⟨he, v', d', DStep.trans ⟨ha.mono (fun _ e => e.elim), fun _ _ g => g⟩ t'⟩
end
set_option maxRecDepth 100000 in
set_option maxHeartbeats 2000000 in
theorem tears_any {w : World} {B K : Nat} {v0 v1 : Value} {x0 x1 : List Int} {s0 s1 : Nat} {st fu na ns nc : Int} {tk0 tz0 tk1 tz1 : Int} {k0 z0 k1 z1 : Nat} (h : Dsk w B K v0 v1 x0 x1 s0 s1 st fu na ns nc)
    (hk0 : betw tk0 (x0.length - s0) = k0) (hz0 : betw tz0 (x0.length - s0 - k0) = z0) (hk1 : betw tk1 (x1.length - s1) = k1) (hz1 : betw tz1 (x1.length - s1 - k1) = z1) :
    Calls Try.prog 61 #[.pointer (some ⟨K, 0, none⟩), .agg #[.int .i64 tk0, .int .i64 tz0, .int .i64 tk1, .int .i64 tz1]] w fun e w' => e = .returned (.tuple #[]) ∧
      ∃ v0' v1', Dsk w' B K v0' v1' (torn x0 s0 k0 z0) (torn x1 s1 k1 z1) (torn x0 s0 k0 z0).length (torn x1 s1 k1 z1).length st fu na ns nc ∧ DStep w w' K v0 v1 v0' v1' := by
  have HA : Hid (Dsk (w.alloc (.cells #[.int .i64 tk0, .int .i64 tz0, .int .i64 tk1, .int .i64 tz1] 32)) B K v0 v1 x0 x1 s0 s1 st fu na ns nc) := h.off (P := fun _ => False) ((Off.refl _ _).alloc _) (fun _ _ => id)
  have HS : Hid (DStep w (w.alloc (.cells #[.int .i64 tk0, .int .i64 tz0, .int .i64 tk1, .int .i64 tz1] 32)) K v0 v1 v0 v1) := ⟨((Off.refl _ _).alloc _), fun _ _ g => g⟩
  have HN : Hid (¬ Foot K v0 v1 w.heap.size) := fun e => by have := (h.foot_lt e).2; omega
  have HK0 : Hid (betw tk0 (x0.length - s0) = k0) := hk0
  have HZ0 : Hid (betw tz0 (x0.length - s0 - k0) = z0) := hz0
  have HK1 : Hid (betw tk1 (x1.length - s1) = k1) := hk1
  have HZ1 : Hid (betw tz1 (x1.length - s1 - k1) = z1) := hz1
  clear h hk0 hz0 hk1 hz1
  go_enter Try.func61, Try.ntmps61
  go_wp2_with fail
  refine wp_loop_rounds 3 ?_
  rw [rounds_succ]
  go_wp2_with fail
  go_region_with (go_at_call 76; refine (tear0_rel HA.out ?_ HK0.out HZ0.out).mono ?_; (first | exact Off.refl _ _ | exact (Off.refl _ _).drew | exact (Off.refl _ _).drewN _ | exact ((Off.refl _ _).drew).drew); rintro e w1 ⟨rfl, u0, d1, t1⟩)
  have HA1 : Hid (Dsk w1 B K u0 v1 (torn x0 s0 k0 z0) x1 (torn x0 s0 k0 z0).length s1 st fu na ns nc) := d1
  have HS1 : Hid (DStep w w1 K v0 v1 u0 v1) := HS.out.trans t1
  have hc1 : ∀ o, w1.cell? ⟨w.heap.size, o, none⟩ = (w.alloc (.cells #[.int .i64 tk0, .int .i64 tz0, .int .i64 tk1, .int .i64 tz1] 32)).cell? ⟨w.heap.size, o, none⟩ := fun o => t1.off.cell (p := ⟨w.heap.size, o, none⟩) (by simp) HN.out
  clear d1 t1
  go_wp2_with fail
  rw [rounds_succ]
  go_wp2_with fail
  go_region_with (go_at_call 76; refine (tear1_rel HA1.out ?_ HK1.out HZ1.out).mono ?_; (first | exact Off.refl _ _ | exact (Off.refl _ _).drew | exact (Off.refl _ _).drewN _ | exact ((Off.refl _ _).drew).drew); rintro e w2 ⟨rfl, u1, d2, t2⟩)
  have HA2 : Hid (Dsk w2 B K u0 u1 (torn x0 s0 k0 z0) (torn x1 s1 k1 z1) (torn x0 s0 k0 z0).length (torn x1 s1 k1 z1).length st fu na ns nc) := d2
  have HS2 : Hid (DStep w w2 K v0 v1 u0 u1) := HS1.out.trans t2
  clear d2 t2
  go_wp2_with fail
  rw [rounds_succ]
  go_wp2_with fail
  go_end0
  exact ⟨rfl, u0, u1, HA2.out, HS2.out⟩
theorem tears_rel {w0 w : World} {B K : Nat} {v0 v1 : Value} {x0 x1 : List Int} {s0 s1 : Nat} {st fu na ns nc : Int} {tk0 tz0 tk1 tz1 : Int} {k0 z0 k1 z1 : Nat} (h : Dsk w0 B K v0 v1 x0 x1 s0 s1 st fu na ns nc) (ha : Off (fun _ => False) w0 w)
    (hk0 : betw tk0 (x0.length - s0) = k0) (hz0 : betw tz0 (x0.length - s0 - k0) = z0) (hk1 : betw tk1 (x1.length - s1) = k1) (hz1 : betw tz1 (x1.length - s1 - k1) = z1) :
    Calls Try.prog 61 #[.pointer (some ⟨K, 0, none⟩), .agg #[.int .i64 tk0, .int .i64 tz0, .int .i64 tk1, .int .i64 tz1]] w fun e w' => e = .returned (.tuple #[]) ∧
      ∃ v0' v1', Dsk w' B K v0' v1' (torn x0 s0 k0 z0) (torn x1 s1 k1 z1) (torn x0 s0 k0 z0).length (torn x1 s1 k1 z1).length st fu na ns nc ∧ DStep w0 w' K v0 v1 v0' v1' := by
  refine (tears_any (h.off ha (fun _ _ => id)) hk0 hz0 hk1 hz1).mono ?_
  rintro e w' ⟨he, u0, u1, d, t⟩
  exact ⟨he, u0, u1, d, DStep.trans ⟨ha.mono (fun _ e => e.elim), fun _ _ g => g⟩ t⟩
set_option maxRecDepth 100000 in
set_option maxHeartbeats 2000000 in
theorem Crash_ok {w : World} {B K : Nat} {v0 v1 : Value} {x0 x1 : List Int} {s0 s1 : Nat} {st fu na ns nc : Int} {tk0 tz0 tk1 tz1 : Int} {k0 z0 k1 z1 : Nat} (h : Dsk w B K v0 v1 x0 x1 s0 s1 st fu na ns nc) (hst : st = 1 ∨ st = 2)
    (hk0 : betw tk0 (x0.length - s0) = k0) (hz0 : betw tz0 (x0.length - s0 - k0) = z0) (hk1 : betw tk1 (x1.length - s1) = k1) (hz1 : betw tz1 (x1.length - s1 - k1) = z1) :
    Calls Try.prog 23 #[.pointer (some ⟨K, 0, none⟩), .agg #[.int .i64 tk0, .int .i64 tz0, .int .i64 tk1, .int .i64 tz1]] w fun e w' => e = .returned (.tuple #[]) ∧
      ∃ v0' v1', Dsk w' B K v0' v1' (torn x0 s0 k0 z0) (torn x1 s1 k1 z1) (torn x0 s0 k0 z0).length (torn x1 s1 k1 z1).length 1 (-1) na ns nc ∧ DStep w w' K v0 v1 v0' v1' := by
  have HA : Hid (Dsk (w.alloc (.cells #[.int .i64 tk0, .int .i64 tz0, .int .i64 tk1, .int .i64 tz1] 32)) B K v0 v1 x0 x1 s0 s1 st fu na ns nc) := h.off (P := fun _ => False) ((Off.refl _ _).alloc _) (fun _ _ => id)
  have HS : Hid (DStep w (w.alloc (.cells #[.int .i64 tk0, .int .i64 tz0, .int .i64 tk1, .int .i64 tz1] 32)) K v0 v1 v0 v1) := ⟨((Off.refl _ _).alloc _), fun _ _ g => g⟩
  have HST : Hid (st = 1 ∨ st = 2) := hst
  have HK0 : Hid (betw tk0 (x0.length - s0) = k0) := hk0
  have HZ0 : Hid (betw tz0 (x0.length - s0 - k0) = z0) := hz0
  have HK1 : Hid (betw tk1 (x1.length - s1) = k1) := hk1
  have HZ1 : Hid (betw tz1 (x1.length - s1 - k1) = z1) := hz1
  clear h hk0 hz0 hk1 hz1 hst
  go_enter Try.func23, Try.ntmps23
  go_wp2_with fail
  refine (made_ok HA.out HST.out).mono ?_
  rintro e w1 ⟨rfl, rfl⟩
  go_wp2_with fail
  go_region_with (go_at_call 61; refine (tears_rel HA.out ?_ HK0.out HZ0.out HK1.out HZ1.out).mono ?_; (first | exact Off.refl _ _ | exact (Off.refl _ _).drew | exact (Off.refl _ _).drewN _ | exact ((Off.refl _ _).drew).drew); rintro e w2 ⟨rfl, u0, u1, d2, t2⟩)
  have HA2 : Hid (Dsk w2 B K u0 u1 (torn x0 s0 k0 z0) (torn x1 s1 k1 z1) (torn x0 s0 k0 z0).length (torn x1 s1 k1 z1).length st fu na ns nc) := d2
  have HS2 : Hid (DStep w w2 K v0 v1 u0 u1) := HS.out.trans t2
  have f4 := d2.fr 4
  have f5 := d2.fr 5
  have c4 := d2.c4
  have c5 := d2.c5
  clear d2 t2
  go_wp2_with fail
  go_end0
  exact ⟨rfl, u0, u1, (HA2.out.set4 1 trivial).set5 (-1) (by omega), HS2.out.trans ((HA2.out.stepSet _ _).trans ((HA2.out.set4 1 trivial).stepSet _ _))⟩
end Go.Proofs.Ytlgjjemfckmidaa
