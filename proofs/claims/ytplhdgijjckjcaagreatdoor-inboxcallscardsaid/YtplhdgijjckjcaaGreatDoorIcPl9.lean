import Derived.Test.YtplhdgijjckjcaaGreatDoorIcTl4
import Derived.Deep.RegionHeld3
/-
  The law's plays: Accept, Decide, Find, what tells.
-/
namespace Go.Proofs.YtplhdgijjckjcaaGreatDoor
open Go.RowKit

section
variable {W w w' : World} {X K n C D E : Nat} {bv mk ke rm L : Value} {o : Option (Int × Int)} {A A' : List Ent}
/-- What a play leaves. -/
def PlQ (W : World) (X K : Nat) (bv mk ke rm : Value) (o : Option (Int × Int)) (n : Nat) (w' : World) : Prop := ∃ L' A', LS W X K bv mk ke rm L' 0 0 0 o A' A' (n + 1000) w'
set_option maxRecDepth 100000 in
set_option maxHeartbeats 8000000 in
theorem plays0 (h : LS W X K bv mk ke rm L C D E o A A n w) (hn : n ≤ 500000) (hE : ErrType W) (y : Opv) (hl : Lies W y.e) (hy : Byts W y.ap y.an y.ax) (ho : OpOk y) : Calls Tryz.prog 5 #[.pointer (some ⟨X, 0, none⟩), .agg #[.int .i64 0, .int .i64 y.of_, .int .i64 y.n, .string y.e.ct, .slice y.e.tp y.e.tn y.e.tc, .int .i64 y.e.nu, .int .i64 y.e.tk, .slice y.e.cp y.e.cn y.e.cc, .string y.e.cd, .slice y.e.ap y.e.an y.e.ac, .string y.ct, .string y.cd, .slice y.ap y.an y.ac]] w fun r w' => r = .returned (.bool true) ∧ Hid (PlQ W X K bv mk ke rm o n w') := by
  have bv0 : Below w.heap.size w (w.alloc (.cells #[.int .i64 0, .int .i64 y.of_, .int .i64 y.n, .string y.e.ct, .slice y.e.tp y.e.tn y.e.tc, .int .i64 y.e.nu, .int .i64 y.e.tk, .slice y.e.cp y.e.cn y.e.cc, .string y.e.cd, .slice y.e.ap y.e.an y.e.ac, .string y.ct, .string y.cd, .slice y.ap y.an y.ac] 31)) := (Below.refl _ _).alloc (Nat.le_refl _) _
  have hb0 : (w.alloc (.cells #[.int .i64 0, .int .i64 y.of_, .int .i64 y.n, .string y.e.ct, .slice y.e.tp y.e.tn y.e.tc, .int .i64 y.e.nu, .int .i64 y.e.tk, .slice y.e.cp y.e.cn y.e.cc, .string y.e.cd, .slice y.e.ap y.e.an y.e.ac, .string y.ct, .string y.cd, .slice y.ap y.an y.ac] 31)).heap[w.heap.size]? = some (.cells #[.int .i64 0, .int .i64 y.of_, .int .i64 y.n, .string y.e.ct, .slice y.e.tp y.e.tn y.e.tc, .int .i64 y.e.nu, .int .i64 y.e.tk, .slice y.e.cp y.e.cn y.e.cc, .string y.e.cd, .slice y.e.ap y.e.an y.e.ac, .string y.ct, .string y.cd, .slice y.ap y.an y.ac] 31 (0, 0)) := heap_alloc_new _ _
  obtain ⟨V0, hV0⟩ : ∃ V, w.alloc (.cells #[.int .i64 0, .int .i64 y.of_, .int .i64 y.n, .string y.e.ct, .slice y.e.tp y.e.tn y.e.tc, .int .i64 y.e.nu, .int .i64 y.e.tk, .slice y.e.cp y.e.cn y.e.cc, .string y.e.cd, .slice y.e.ap y.e.an y.e.ac, .string y.ct, .string y.cd, .slice y.ap y.an y.ac] 31) = V := ⟨_, rfl⟩
  rw [hV0] at bv0 hb0
  obtain ⟨ob, hob⟩ : ∃ b, w.heap.size = b := ⟨_, rfl⟩
  rw [hob] at hb0
  have HI : Hid (ErrType W ∧ Lies W y.e ∧ Byts W y.ap y.an y.ax ∧ OpOk y ∧ n ≤ 500000) := ⟨hE, hl, hy, ho, hn⟩
  have HV : Hid (LS W X K bv mk ke rm L C D E o A A n V0 ∧ V0.heap[ob]? = some (.cells #[.int .i64 0, .int .i64 y.of_, .int .i64 y.n, .string y.e.ct, .slice y.e.tp y.e.tn y.e.tc, .int .i64 y.e.nu, .int .i64 y.e.tk, .slice y.e.cp y.e.cn y.e.cc, .string y.e.cd, .slice y.e.ap y.e.an y.e.ac, .string y.ct, .string y.cd, .slice y.ap y.an y.ac] 31 (0, 0))) := ⟨h.below bv0, hb0⟩
  have hop := r_open HV.out.1
  clear h hE hl hy ho hn bv0 hb0
  go_enter Tryz.func5, Tryz.ntmps5
  go_wp2_with fail
  clear hV0 hob
  refine hop.mono ?_
  rintro _ w1 ⟨a, c, rfl, t1, b1⟩
  have H1 : Hid (LS W X K bv mk ke rm L C D E o A A n w1 ∧ w1.heap[ob]? = some (.cells #[.int .i64 0, .int .i64 y.of_, .int .i64 y.n, .string y.e.ct, .slice y.e.tp y.e.tn y.e.tc, .int .i64 y.e.nu, .int .i64 y.e.tk, .slice y.e.cp y.e.cn y.e.cc, .string y.e.cd, .slice y.e.ap y.e.an y.e.ac, .string y.ct, .string y.cd, .slice y.ap y.an y.ac] 31 (0, 0)) ∧ TRow w1 V0.heap.size (.slice a (opS A).length c) (opS A)) := ⟨HV.out.1.below b1, blk_below HV.out.2 b1, t1⟩
  have co := hcell H1.out.2.1
  clear hop t1 b1 HV
  have hac := accepts_any H1.out.1 HI.out.1 y.e HI.out.2.1 HI.out.2.2.2.1.k1 HI.out.2.2.2.1.n1 HI.out.2.2.2.1.n2 HI.out.2.2.2.1.n3
  go_wp2_with fail
  refine hac.mono ?_
  rintro _ w2 ⟨rfl, H2⟩
  have HZ : Hid (PlQ W X K bv mk ke rm o n w2) := by
    obtain ⟨L', h2⟩ := H2.out
    exact ⟨L', _, h2.mono (by omega)⟩
  clear hac co H2
  go_wp2_with fail
  go_ret
  exact ⟨rfl, HZ⟩
set_option maxRecDepth 100000 in
set_option maxHeartbeats 8000000 in
theorem plays1 (h : LS W X K bv mk ke rm L C D E o A A n w) (hn : n ≤ 500000) (hE : ErrType W) (y : Opv) (hl : Lies W y.e) (hy : Byts W y.ap y.an y.ax) (ho : OpOk y) : Calls Tryz.prog 5 #[.pointer (some ⟨X, 0, none⟩), .agg #[.int .i64 1, .int .i64 y.of_, .int .i64 y.n, .string y.e.ct, .slice y.e.tp y.e.tn y.e.tc, .int .i64 y.e.nu, .int .i64 y.e.tk, .slice y.e.cp y.e.cn y.e.cc, .string y.e.cd, .slice y.e.ap y.e.an y.e.ac, .string y.ct, .string y.cd, .slice y.ap y.an y.ac]] w fun r w' => r = .returned (.bool true) ∧ Hid (PlQ W X K bv mk ke rm o n w') := by
  have bv0 : Below w.heap.size w (w.alloc (.cells #[.int .i64 1, .int .i64 y.of_, .int .i64 y.n, .string y.e.ct, .slice y.e.tp y.e.tn y.e.tc, .int .i64 y.e.nu, .int .i64 y.e.tk, .slice y.e.cp y.e.cn y.e.cc, .string y.e.cd, .slice y.e.ap y.e.an y.e.ac, .string y.ct, .string y.cd, .slice y.ap y.an y.ac] 31)) := (Below.refl _ _).alloc (Nat.le_refl _) _
  have hb0 : (w.alloc (.cells #[.int .i64 1, .int .i64 y.of_, .int .i64 y.n, .string y.e.ct, .slice y.e.tp y.e.tn y.e.tc, .int .i64 y.e.nu, .int .i64 y.e.tk, .slice y.e.cp y.e.cn y.e.cc, .string y.e.cd, .slice y.e.ap y.e.an y.e.ac, .string y.ct, .string y.cd, .slice y.ap y.an y.ac] 31)).heap[w.heap.size]? = some (.cells #[.int .i64 1, .int .i64 y.of_, .int .i64 y.n, .string y.e.ct, .slice y.e.tp y.e.tn y.e.tc, .int .i64 y.e.nu, .int .i64 y.e.tk, .slice y.e.cp y.e.cn y.e.cc, .string y.e.cd, .slice y.e.ap y.e.an y.e.ac, .string y.ct, .string y.cd, .slice y.ap y.an y.ac] 31 (0, 0)) := heap_alloc_new _ _
  obtain ⟨V0, hV0⟩ : ∃ V, w.alloc (.cells #[.int .i64 1, .int .i64 y.of_, .int .i64 y.n, .string y.e.ct, .slice y.e.tp y.e.tn y.e.tc, .int .i64 y.e.nu, .int .i64 y.e.tk, .slice y.e.cp y.e.cn y.e.cc, .string y.e.cd, .slice y.e.ap y.e.an y.e.ac, .string y.ct, .string y.cd, .slice y.ap y.an y.ac] 31) = V := ⟨_, rfl⟩
  rw [hV0] at bv0 hb0
  obtain ⟨ob, hob⟩ : ∃ b, w.heap.size = b := ⟨_, rfl⟩
  rw [hob] at hb0
  have HI : Hid (ErrType W ∧ Lies W y.e ∧ Byts W y.ap y.an y.ax ∧ OpOk y ∧ n ≤ 500000) := ⟨hE, hl, hy, ho, hn⟩
  have HV : Hid (LS W X K bv mk ke rm L C D E o A A n V0 ∧ V0.heap[ob]? = some (.cells #[.int .i64 1, .int .i64 y.of_, .int .i64 y.n, .string y.e.ct, .slice y.e.tp y.e.tn y.e.tc, .int .i64 y.e.nu, .int .i64 y.e.tk, .slice y.e.cp y.e.cn y.e.cc, .string y.e.cd, .slice y.e.ap y.e.an y.e.ac, .string y.ct, .string y.cd, .slice y.ap y.an y.ac] 31 (0, 0))) := ⟨h.below bv0, hb0⟩
  have hop := r_open HV.out.1
  clear h hE hl hy ho hn bv0 hb0
  go_enter Tryz.func5, Tryz.ntmps5
  go_wp2_with fail
  clear hV0 hob
  refine hop.mono ?_
  rintro _ w1 ⟨a, c, rfl, t1, b1⟩
  have H1 : Hid (LS W X K bv mk ke rm L C D E o A A n w1 ∧ w1.heap[ob]? = some (.cells #[.int .i64 1, .int .i64 y.of_, .int .i64 y.n, .string y.e.ct, .slice y.e.tp y.e.tn y.e.tc, .int .i64 y.e.nu, .int .i64 y.e.tk, .slice y.e.cp y.e.cn y.e.cc, .string y.e.cd, .slice y.e.ap y.e.an y.e.ac, .string y.ct, .string y.cd, .slice y.ap y.an y.ac] 31 (0, 0)) ∧ TRow w1 V0.heap.size (.slice a (opS A).length c) (opS A)) := ⟨HV.out.1.below b1, blk_below HV.out.2 b1, t1⟩
  have co := hcell H1.out.2.1
  clear hop t1 b1 HV
  have hac := decides_any (cd := y.cd) (co := y.ac) H1.out.1 (by have := HI.out.2.2.2.2; omega) HI.out.1 HI.out.2.2.2.1.k2 HI.out.2.2.1 HI.out.2.2.2.1.n4
  go_wp2_with fail
  refine hac.mono ?_
  rintro _ w2 ⟨rfl, H2⟩
  have HZ : Hid (PlQ W X K bv mk ke rm o n w2) := by
    obtain ⟨L', h2⟩ := H2.out
    exact ⟨L', _, h2.mono (by omega)⟩
  clear hac co H2
  go_wp2_with fail
  go_ret
  exact ⟨rfl, HZ⟩
set_option maxRecDepth 100000 in
set_option maxHeartbeats 8000000 in
theorem plays3 (h : LS W X K bv mk ke rm L C D E o A A n w) (hn : n ≤ 500000) (hE : ErrType W) (y : Opv) (hl : Lies W y.e) (hy : Byts W y.ap y.an y.ax) (ho : OpOk y) : Calls Tryz.prog 5 #[.pointer (some ⟨X, 0, none⟩), .agg #[.int .i64 3, .int .i64 y.of_, .int .i64 y.n, .string y.e.ct, .slice y.e.tp y.e.tn y.e.tc, .int .i64 y.e.nu, .int .i64 y.e.tk, .slice y.e.cp y.e.cn y.e.cc, .string y.e.cd, .slice y.e.ap y.e.an y.e.ac, .string y.ct, .string y.cd, .slice y.ap y.an y.ac]] w fun r w' => r = .returned (.bool true) ∧ Hid (PlQ W X K bv mk ke rm o n w') := by
  have bv0 : Below w.heap.size w (w.alloc (.cells #[.int .i64 3, .int .i64 y.of_, .int .i64 y.n, .string y.e.ct, .slice y.e.tp y.e.tn y.e.tc, .int .i64 y.e.nu, .int .i64 y.e.tk, .slice y.e.cp y.e.cn y.e.cc, .string y.e.cd, .slice y.e.ap y.e.an y.e.ac, .string y.ct, .string y.cd, .slice y.ap y.an y.ac] 31)) := (Below.refl _ _).alloc (Nat.le_refl _) _
  have hb0 : (w.alloc (.cells #[.int .i64 3, .int .i64 y.of_, .int .i64 y.n, .string y.e.ct, .slice y.e.tp y.e.tn y.e.tc, .int .i64 y.e.nu, .int .i64 y.e.tk, .slice y.e.cp y.e.cn y.e.cc, .string y.e.cd, .slice y.e.ap y.e.an y.e.ac, .string y.ct, .string y.cd, .slice y.ap y.an y.ac] 31)).heap[w.heap.size]? = some (.cells #[.int .i64 3, .int .i64 y.of_, .int .i64 y.n, .string y.e.ct, .slice y.e.tp y.e.tn y.e.tc, .int .i64 y.e.nu, .int .i64 y.e.tk, .slice y.e.cp y.e.cn y.e.cc, .string y.e.cd, .slice y.e.ap y.e.an y.e.ac, .string y.ct, .string y.cd, .slice y.ap y.an y.ac] 31 (0, 0)) := heap_alloc_new _ _
  obtain ⟨V0, hV0⟩ : ∃ V, w.alloc (.cells #[.int .i64 3, .int .i64 y.of_, .int .i64 y.n, .string y.e.ct, .slice y.e.tp y.e.tn y.e.tc, .int .i64 y.e.nu, .int .i64 y.e.tk, .slice y.e.cp y.e.cn y.e.cc, .string y.e.cd, .slice y.e.ap y.e.an y.e.ac, .string y.ct, .string y.cd, .slice y.ap y.an y.ac] 31) = V := ⟨_, rfl⟩
  rw [hV0] at bv0 hb0
  obtain ⟨ob, hob⟩ : ∃ b, w.heap.size = b := ⟨_, rfl⟩
  rw [hob] at hb0
  have HI : Hid (ErrType W ∧ Lies W y.e ∧ Byts W y.ap y.an y.ax ∧ OpOk y ∧ n ≤ 500000) := ⟨hE, hl, hy, ho, hn⟩
  have HV : Hid (LS W X K bv mk ke rm L C D E o A A n V0 ∧ V0.heap[ob]? = some (.cells #[.int .i64 3, .int .i64 y.of_, .int .i64 y.n, .string y.e.ct, .slice y.e.tp y.e.tn y.e.tc, .int .i64 y.e.nu, .int .i64 y.e.tk, .slice y.e.cp y.e.cn y.e.cc, .string y.e.cd, .slice y.e.ap y.e.an y.e.ac, .string y.ct, .string y.cd, .slice y.ap y.an y.ac] 31 (0, 0))) := ⟨h.below bv0, hb0⟩
  have hop := r_open HV.out.1
  clear h hE hl hy ho hn bv0 hb0
  go_enter Tryz.func5, Tryz.ntmps5
  go_wp2_with fail
  clear hV0 hob
  refine hop.mono ?_
  rintro _ w1 ⟨a, c, rfl, t1, b1⟩
  have H1 : Hid (LS W X K bv mk ke rm L C D E o A A n w1 ∧ w1.heap[ob]? = some (.cells #[.int .i64 3, .int .i64 y.of_, .int .i64 y.n, .string y.e.ct, .slice y.e.tp y.e.tn y.e.tc, .int .i64 y.e.nu, .int .i64 y.e.tk, .slice y.e.cp y.e.cn y.e.cc, .string y.e.cd, .slice y.e.ap y.e.an y.e.ac, .string y.ct, .string y.cd, .slice y.ap y.an y.ac] 31 (0, 0)) ∧ TRow w1 V0.heap.size (.slice a (opS A).length c) (opS A)) := ⟨HV.out.1.below b1, blk_below HV.out.2 b1, t1⟩
  have co := hcell H1.out.2.1
  clear hop t1 b1 HV
  have hac := finds_any H1.out.1 (by have := HI.out.2.2.2.2; omega) HI.out.2.2.2.1.k2
  go_wp2_with fail
  refine hac.mono ?_
  rintro _ w2 ⟨rfl, H2⟩
  have HZ : Hid (PlQ W X K bv mk ke rm o n w2) := ⟨L, A, H2.out.free.mono (by omega)⟩
  clear hac co H2
  go_wp2_with fail
  go_ret
  exact ⟨rfl, HZ⟩
set_option maxRecDepth 100000 in
set_option maxHeartbeats 8000000 in
theorem playsT (h : LS W X K bv mk ke rm L C D E o A A n w) (hn : n ≤ 500000) (hE : ErrType W) (y : Opv) (hl : Lies W y.e) (hy : Byts W y.ap y.an y.ax) (ho : OpOk y) (k0 : (y.kd == 0) = false) (k9 : (y.kd == 9) = false) (k1 : (y.kd == 1) = false) (k2 : (y.kd == 2) = false) (k3 : (y.kd == 3) = false) (k8 : (y.kd == 8) = false) : Calls Tryz.prog 5 #[.pointer (some ⟨X, 0, none⟩), .agg #[.int .i64 y.kd, .int .i64 y.of_, .int .i64 y.n, .string y.e.ct, .slice y.e.tp y.e.tn y.e.tc, .int .i64 y.e.nu, .int .i64 y.e.tk, .slice y.e.cp y.e.cn y.e.cc, .string y.e.cd, .slice y.e.ap y.e.an y.e.ac, .string y.ct, .string y.cd, .slice y.ap y.an y.ac]] w fun r w' => r = .returned (.bool true) ∧ Hid (PlQ W X K bv mk ke rm o n w') := by
  have bv0 : Below w.heap.size w (w.alloc (.cells #[.int .i64 y.kd, .int .i64 y.of_, .int .i64 y.n, .string y.e.ct, .slice y.e.tp y.e.tn y.e.tc, .int .i64 y.e.nu, .int .i64 y.e.tk, .slice y.e.cp y.e.cn y.e.cc, .string y.e.cd, .slice y.e.ap y.e.an y.e.ac, .string y.ct, .string y.cd, .slice y.ap y.an y.ac] 31)) := (Below.refl _ _).alloc (Nat.le_refl _) _
  have hb0 : (w.alloc (.cells #[.int .i64 y.kd, .int .i64 y.of_, .int .i64 y.n, .string y.e.ct, .slice y.e.tp y.e.tn y.e.tc, .int .i64 y.e.nu, .int .i64 y.e.tk, .slice y.e.cp y.e.cn y.e.cc, .string y.e.cd, .slice y.e.ap y.e.an y.e.ac, .string y.ct, .string y.cd, .slice y.ap y.an y.ac] 31)).heap[w.heap.size]? = some (.cells #[.int .i64 y.kd, .int .i64 y.of_, .int .i64 y.n, .string y.e.ct, .slice y.e.tp y.e.tn y.e.tc, .int .i64 y.e.nu, .int .i64 y.e.tk, .slice y.e.cp y.e.cn y.e.cc, .string y.e.cd, .slice y.e.ap y.e.an y.e.ac, .string y.ct, .string y.cd, .slice y.ap y.an y.ac] 31 (0, 0)) := heap_alloc_new _ _
  obtain ⟨V0, hV0⟩ : ∃ V, w.alloc (.cells #[.int .i64 y.kd, .int .i64 y.of_, .int .i64 y.n, .string y.e.ct, .slice y.e.tp y.e.tn y.e.tc, .int .i64 y.e.nu, .int .i64 y.e.tk, .slice y.e.cp y.e.cn y.e.cc, .string y.e.cd, .slice y.e.ap y.e.an y.e.ac, .string y.ct, .string y.cd, .slice y.ap y.an y.ac] 31) = V := ⟨_, rfl⟩
  rw [hV0] at bv0 hb0
  obtain ⟨ob, hob⟩ : ∃ b, w.heap.size = b := ⟨_, rfl⟩
  rw [hob] at hb0
  have HI : Hid (ErrType W ∧ Lies W y.e ∧ Byts W y.ap y.an y.ax ∧ OpOk y ∧ n ≤ 500000) := ⟨hE, hl, hy, ho, hn⟩
  have HV : Hid (LS W X K bv mk ke rm L C D E o A A n V0 ∧ V0.heap[ob]? = some (.cells #[.int .i64 y.kd, .int .i64 y.of_, .int .i64 y.n, .string y.e.ct, .slice y.e.tp y.e.tn y.e.tc, .int .i64 y.e.nu, .int .i64 y.e.tk, .slice y.e.cp y.e.cn y.e.cc, .string y.e.cd, .slice y.e.ap y.e.an y.e.ac, .string y.ct, .string y.cd, .slice y.ap y.an y.ac] 31 (0, 0))) := ⟨h.below bv0, hb0⟩
  have hop := r_open HV.out.1
  clear h hE hl hy ho hn bv0 hb0
  go_enter Tryz.func5, Tryz.ntmps5
  go_wp2_with fail
  clear hV0 hob
  refine hop.mono ?_
  rintro _ w1 ⟨a, c, rfl, t1, b1⟩
  have H1 : Hid (LS W X K bv mk ke rm L C D E o A A n w1 ∧ w1.heap[ob]? = some (.cells #[.int .i64 y.kd, .int .i64 y.of_, .int .i64 y.n, .string y.e.ct, .slice y.e.tp y.e.tn y.e.tc, .int .i64 y.e.nu, .int .i64 y.e.tk, .slice y.e.cp y.e.cn y.e.cc, .string y.e.cd, .slice y.e.ap y.e.an y.e.ac, .string y.ct, .string y.cd, .slice y.ap y.an y.ac] 31 (0, 0)) ∧ TRow w1 V0.heap.size (.slice a (opS A).length c) (opS A)) := ⟨HV.out.1.below b1, blk_below HV.out.2 b1, t1⟩
  have co := hcell H1.out.2.1
  clear hop t1 b1 HV
  have hac := tells_any H1.out.1 (by have := HI.out.2.2.2.2; omega) y.kd H1.out.2.2
  go_wp2_with fail
  refine hac.mono ?_
  rintro _ w2 ⟨rfl, H2⟩
  have HZ : Hid (PlQ W X K bv mk ke rm o n w2) := ⟨L, A, H2.out.free⟩
  clear hac co H2
  go_wp2_with fail
  go_ret
  exact ⟨rfl, HZ⟩
end
end Go.Proofs.YtplhdgijjckjcaaGreatDoor

/-
  The law's plays: Accept with its tick brought up.
-/
namespace Go.Proofs.YtplhdgijjckjcaaGreatDoor
open Go.RowKit

section
variable {W w w' : World} {X K n C D E : Nat} {bv mk ke rm L : Value} {o : Option (Int × Int)} {A A' : List Ent}
theorem LS.withinT {P : Nat → Prop} (h : LS W X K bv mk ke rm L C D E o A A' n w) (ho : Off P w w') (hP : ∀ q, P q → (C ≤ q ∧ q < D ∧ q < E) ∧ ∃ cs t, w.heap[q]? = some (.cells cs t (0, 0)) ∧ ¬ LTy t) (hC : W.heap.size ≤ C) : LS W X K bv mk ke rm L C D E o A A' n w' :=
  ⟨h.offT ho fun q cs t hc ht hp => by
    obtain ⟨cs', t', hc', ht'⟩ := (hP q hp).2
    rw [hc] at hc'
    simp only [Option.some.injEq, Obj.cells.injEq] at hc'
    exact ht' (hc'.2.1 ▸ ht), h.sd.within ho fun q hp => (hP q hp).1, h.bel.trans (ho.below h.bel.size fun q hp => Nat.le_trans hC (hP q hp).1.1), h.lX, h.lK⟩
theorem nLO : ¬ LTy 31 := fun g => by rcases g with g | g | g | g | g <;> exact absurd g (by decide)
set_option maxRecDepth 100000 in
set_option maxHeartbeats 8000000 in
theorem plays9 (h : LS W X K bv mk ke rm L C D E o A A n w) (hn : n ≤ 500000) (hE : ErrType W) (y : Opv) (hl : Lies W y.e) (hy : Byts W y.ap y.an y.ax) (ho : OpOk y) : Calls Tryz.prog 5 #[.pointer (some ⟨X, 0, none⟩), .agg #[.int .i64 9, .int .i64 y.of_, .int .i64 y.n, .string y.e.ct, .slice y.e.tp y.e.tn y.e.tc, .int .i64 y.e.nu, .int .i64 y.e.tk, .slice y.e.cp y.e.cn y.e.cc, .string y.e.cd, .slice y.e.ap y.e.an y.e.ac, .string y.ct, .string y.cd, .slice y.ap y.an y.ac]] w fun r w' => r = .returned (.bool true) ∧ Hid (PlQ W X K bv mk ke rm o n w') := by
  have bv0 : Below w.heap.size w (w.alloc (.cells #[.int .i64 9, .int .i64 y.of_, .int .i64 y.n, .string y.e.ct, .slice y.e.tp y.e.tn y.e.tc, .int .i64 y.e.nu, .int .i64 y.e.tk, .slice y.e.cp y.e.cn y.e.cc, .string y.e.cd, .slice y.e.ap y.e.an y.e.ac, .string y.ct, .string y.cd, .slice y.ap y.an y.ac] 31)) := (Below.refl _ _).alloc (Nat.le_refl _) _
  have hb0 : (w.alloc (.cells #[.int .i64 9, .int .i64 y.of_, .int .i64 y.n, .string y.e.ct, .slice y.e.tp y.e.tn y.e.tc, .int .i64 y.e.nu, .int .i64 y.e.tk, .slice y.e.cp y.e.cn y.e.cc, .string y.e.cd, .slice y.e.ap y.e.an y.e.ac, .string y.ct, .string y.cd, .slice y.ap y.an y.ac] 31)).heap[w.heap.size]? = some (.cells #[.int .i64 9, .int .i64 y.of_, .int .i64 y.n, .string y.e.ct, .slice y.e.tp y.e.tn y.e.tc, .int .i64 y.e.nu, .int .i64 y.e.tk, .slice y.e.cp y.e.cn y.e.cc, .string y.e.cd, .slice y.e.ap y.e.an y.e.ac, .string y.ct, .string y.cd, .slice y.ap y.an y.ac] 31 (0, 0)) := heap_alloc_new _ _
  obtain ⟨V0, hV0⟩ : ∃ V, w.alloc (.cells #[.int .i64 9, .int .i64 y.of_, .int .i64 y.n, .string y.e.ct, .slice y.e.tp y.e.tn y.e.tc, .int .i64 y.e.nu, .int .i64 y.e.tk, .slice y.e.cp y.e.cn y.e.cc, .string y.e.cd, .slice y.e.ap y.e.an y.e.ac, .string y.ct, .string y.cd, .slice y.ap y.an y.ac] 31) = V := ⟨_, rfl⟩
  rw [hV0] at bv0 hb0
  obtain ⟨ob, hob⟩ : ∃ b, w.heap.size = b := ⟨_, rfl⟩
  rw [hob] at hb0
  have HI : Hid (ErrType W ∧ Lies W y.e ∧ Byts W y.ap y.an y.ax ∧ OpOk y ∧ n ≤ 500000) := ⟨hE, hl, hy, ho, hn⟩
  have HV : Hid (LS W X K bv mk ke rm L C D E o A A n V0 ∧ V0.heap[ob]? = some (.cells #[.int .i64 9, .int .i64 y.of_, .int .i64 y.n, .string y.e.ct, .slice y.e.tp y.e.tn y.e.tc, .int .i64 y.e.nu, .int .i64 y.e.tk, .slice y.e.cp y.e.cn y.e.cc, .string y.e.cd, .slice y.e.ap y.e.an y.e.ac, .string y.ct, .string y.cd, .slice y.ap y.an y.ac] 31 (0, 0))) := ⟨h.below bv0, hb0⟩
  have HW : Hid (LS W X K bv mk ke rm L C D E o A A n w ∧ Below w.heap.size w V0 ∧ w.heap.size = ob) := ⟨h, bv0, hob⟩
  have hop := r_open HV.out.1
  clear h hE hl hy ho hn bv0 hb0
  go_enter Tryz.func5, Tryz.ntmps5
  go_wp2_with fail
  clear hV0 hob
  refine hop.mono ?_
  rintro _ w1 ⟨a, c, rfl, t1, b1⟩
  have H1 : Hid (LS W X K bv mk ke rm L C D E o A A n w1 ∧ w1.heap[ob]? = some (.cells #[.int .i64 9, .int .i64 y.of_, .int .i64 y.n, .string y.e.ct, .slice y.e.tp y.e.tn y.e.tc, .int .i64 y.e.nu, .int .i64 y.e.tk, .slice y.e.cp y.e.cn y.e.cc, .string y.e.cd, .slice y.e.ap y.e.an y.e.ac, .string y.ct, .string y.cd, .slice y.ap y.an y.ac] 31 (0, 0)) ∧ TRow w1 V0.heap.size (.slice a (opS A).length c) (opS A)) := ⟨HV.out.1.below b1, blk_below HV.out.2 b1, t1⟩
  have co := hcell H1.out.2.1
  have HW1 : Hid (Below w.heap.size w w1) := below_then HW.out.2.1 b1
  clear hop t1 b1 HV
  have hla := r_last H1.out.1
  generalize decide (0 < A.length) = t0 at hla
  generalize lasE A = m at hla
  go_wp2_with fail
  refine hla.mono ?_
  rintro _ w2 ⟨p, d, p', d', p'', d'', rfl, _, b2⟩
  clear hla co
  go_upto_region 7 with fail
  have HV2 : Hid (LS W X K bv mk ke rm L C D E o A A n (w2.alloc (.cells #[.string m.ct, .slice p m.tn d, .int .i64 m.nu, .int .i64 m.tk, .slice p' m.cn d', .string m.cd, .slice p'' m.an d''] 29)) ∧ (w2.alloc (.cells #[.string m.ct, .slice p m.tn d, .int .i64 m.nu, .int .i64 m.tk, .slice p' m.cn d', .string m.cd, .slice p'' m.an d''] 29)).heap[ob]? = some (.cells #[.int .i64 9, .int .i64 y.of_, .int .i64 y.n, .string y.e.ct, .slice y.e.tp y.e.tn y.e.tc, .int .i64 y.e.nu, .int .i64 y.e.tk, .slice y.e.cp y.e.cn y.e.cc, .string y.e.cd, .slice y.e.ap y.e.an y.e.ac, .string y.ct, .string y.cd, .slice y.ap y.an y.ac] 31 (0, 0)) ∧ (w2.alloc (.cells #[.string m.ct, .slice p m.tn d, .int .i64 m.nu, .int .i64 m.tk, .slice p' m.cn d', .string m.cd, .slice p'' m.an d''] 29)).heap[w2.heap.size]? = some (.cells #[.string m.ct, .slice p m.tn d, .int .i64 m.nu, .int .i64 m.tk, .slice p' m.cn d', .string m.cd, .slice p'' m.an d''] 29 (0, 0)) ∧ Below w.heap.size w (w2.alloc (.cells #[.string m.ct, .slice p m.tn d, .int .i64 m.nu, .int .i64 m.tk, .slice p' m.cn d', .string m.cd, .slice p'' m.an d''] 29))) := by
    have b3 : Below w1.heap.size w1 (w2.alloc (.cells #[.string m.ct, .slice p m.tn d, .int .i64 m.nu, .int .i64 m.tk, .slice p' m.cn d', .string m.cd, .slice p'' m.an d''] 29)) := b2.alloc b2.size _
    exact ⟨H1.out.1.below b3, blk_below H1.out.2.1 b3, heap_alloc_new _ _, below_then HW1.out b3⟩
  obtain ⟨V2, hV2⟩ : ∃ V, w2.alloc (.cells #[.string m.ct, .slice p m.tn d, .int .i64 m.nu, .int .i64 m.tk, .slice p' m.cn d', .string m.cd, .slice p'' m.an d''] 29) = V := ⟨_, rfl⟩
  rw [hV2] at HV2 ⊢
  clear hV2 b2 HW1
  obtain ⟨A2, hA2⟩ : ∃ b, w2.heap.size = b := ⟨_, rfl⟩
  rw [hA2] at HV2 ⊢
  clear hA2 H1
  have co := hcell HV2.out.2.1
  have cx := hcell HV2.out.2.2.1
  have hac : Calls Tryz.prog 11 #[.pointer (some ⟨X, 0, none⟩), .agg #[.string y.e.ct, .slice y.e.tp y.e.tn y.e.tc, .int .i64 y.e.nu, .int .i64 y.e.tk, .slice y.e.cp y.e.cn y.e.cc, .string y.e.cd, .slice y.e.ap y.e.an y.e.ac]] V2 fun r w' => r = .returned (.bool true) ∧ Hid (PlQ W X K bv mk ke rm o n w') := (accepts_any HV2.out.1 HI.out.1 y.e HI.out.2.1 HI.out.2.2.2.1.k1 HI.out.2.2.2.1.n1 HI.out.2.2.2.1.n2 HI.out.2.2.2.1.n3).mono fun r w' ⟨e1, e2⟩ => ⟨e1, by
    obtain ⟨L', h2⟩ := e2.out
    exact ⟨L', _, h2.mono (by omega)⟩⟩
  cases t0 with
  | false =>
    clear cx
    go_wp2_with fail
    refine hac.mono ?_
    rintro _ w3 ⟨rfl, HZ⟩
    clear hac co
    go_wp2_with fail
    go_ret
    exact ⟨rfl, HZ⟩
  | true =>
    by_cases hlt : y.e.tk < m.tk
    · have HV3 : Hid (LS W X K bv mk ke rm L w.heap.size V2.heap.size V2.heap.size o A A n (V2.setCell ⟨ob, 6, none⟩ (.int .i64 m.tk)) ∧ (V2.setCell ⟨ob, 6, none⟩ (.int .i64 m.tk)).heap[ob]? = some (.cells #[.int .i64 9, .int .i64 y.of_, .int .i64 y.n, .string y.e.ct, .slice y.e.tp y.e.tn y.e.tc, .int .i64 y.e.nu, .int .i64 m.tk, .slice y.e.cp y.e.cn y.e.cc, .string y.e.cd, .slice y.e.ap y.e.an y.e.ac, .string y.ct, .string y.cd, .slice y.ap y.an y.ac] 31 (0, 0))) := by
        have h2 := HW.out.1.hole HV2.out.2.2.2 V2.heap.size V2.heap.size
        refine ⟨h2.withinT (Off.setCell (P := fun q => q = ob) (Off.refl _ _) (p := ⟨ob, 6, none⟩) rfl _) (fun q hq => ?_) HW.out.1.bel.size, set_heap HV2.out.2.1 6 _⟩
        subst hq
        have := blk_lt HV2.out.2.1
        exact ⟨⟨by have := HW.out.2.2; omega, this, this⟩, _, _, HV2.out.2.1, nLO⟩
      have hac2 : Calls Tryz.prog 11 #[.pointer (some ⟨X, 0, none⟩), .agg #[.string y.e.ct, .slice y.e.tp y.e.tn y.e.tc, .int .i64 y.e.nu, .int .i64 m.tk, .slice y.e.cp y.e.cn y.e.cc, .string y.e.cd, .slice y.e.ap y.e.an y.e.ac]] (V2.setCell ⟨ob, 6, none⟩ (.int .i64 m.tk)) fun r w' => r = .returned (.bool true) ∧ Hid (PlQ W X K bv mk ke rm o n w') := (accepts_any HV3.out.1 HI.out.1 { y.e with tk := m.tk } ⟨HI.out.2.1.t, HI.out.2.1.c, HI.out.2.1.a⟩ HI.out.2.2.2.1.k1 HI.out.2.2.2.1.n1 HI.out.2.2.2.1.n2 HI.out.2.2.2.1.n3).mono fun r w' ⟨e1, e2⟩ => ⟨e1, by
        obtain ⟨L', h2⟩ := e2.out
        exact ⟨L', _, h2.mono (by omega)⟩⟩
      have fo := hfroz HV2.out.2.1
      clear hac
      go_upto_region 9 with fail
      obtain ⟨V3, hV3⟩ : ∃ V, V2.setCell ⟨ob, 6, none⟩ (.int .i64 m.tk) = V := ⟨_, rfl⟩
      rw [hV3] at HV3 hac2 ⊢
      clear hV3 cx co fo
      have co := hcell HV3.out.2
      go_wp2_with fail
      refine hac2.mono ?_
      rintro _ w3 ⟨rfl, HZ⟩
      clear hac2 co
      go_wp2_with fail
      go_ret
      exact ⟨rfl, HZ⟩
    · go_wp2_with fail
      refine hac.mono ?_
      rintro _ w3 ⟨rfl, HZ⟩
      clear hac co cx
      go_wp2_with fail
      go_ret
      exact ⟨rfl, HZ⟩
end
end Go.Proofs.YtplhdgijjckjcaaGreatDoor
