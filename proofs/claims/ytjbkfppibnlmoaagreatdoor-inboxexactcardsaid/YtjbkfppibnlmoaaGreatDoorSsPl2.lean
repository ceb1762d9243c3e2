import Derived.Test.YtjbkfppibnlmoaaGreatDoorSsFd
import Derived.Test.YtjbkfppibnlmoaaGreatDoorIcTl4
import Derived.Deep.RegionHeld3
/-
  The law's plays, by the strong pair: Accept, Decide, Find, what tells.
-/
namespace Go.Proofs.YtjbkfppibnlmoaaGreatDoor
open Go.RowKit

/-- What a play leaves. -/
def PlS (W : World) (X K : Nat) (bv mk ke rm : Value) (o : Option (Int × Int)) (τ : Nat → Nat) (n mm : Nat) (w w' : World) : Prop := ∃ L' A' τ', SS W X K bv mk ke rm L' o A' A' τ' (n + 1000) (mm + 2) w' ∧ XF τ τ' w w'
section
variable {W w w' : World} {X K n mm : Nat} {bv mk ke rm L : Value} {o : Option (Int × Int)} {A A' : List Ent} {τ : Nat → Nat}
theorem tells_any_s (h : SS W X K bv mk ke rm L o A A τ n mm w) (hn : n ≤ 600000) (hm : mm + 2 ≤ 80) (k : Int) {B : Nat} {p : Option Addr} {q c : Nat} (hop : TRow w B (.slice p q c) (opS A)) (hz : ∀ b, (Value.slice p q c).ownBlock = some b → τ b = 0) : Calls Tryz.prog 7 #[.pointer (some ⟨X, 0, none⟩), .int .i64 k, .slice p q c] w fun e w' => e = .returned (.bool true) ∧ Hid (SQ W X K bv mk ke rm L o A A τ (n + 1000) (mm + 2) w w' (fun _ => False)) := by
  by_cases h4 : k = 4
  · subst h4
    exact (tells4_s h (by omega) p q c).mono fun e w' ⟨e1, e2⟩ => ⟨e1, e2.out.mono (by omega) (by omega)⟩
  by_cases h5 : k = 5
  · subst h5
    exact (tells5_s h (by omega) hop hz).mono fun e w' ⟨e1, e2⟩ => ⟨e1, e2.out.mono (by omega) (by omega)⟩
  by_cases h6 : k = 6
  · subst h6
    exact tells6_s h hn (by omega) p q c
  by_cases h7 : k = 7
  · subst h7
    exact (tells7_s h.sx p q c).mono fun e w' ⟨e1, e2⟩ => ⟨e1, ((SQ.start h).below e2).mono (by omega) (by omega)⟩
  exact (tells_no k h4 h5 h6 h7 _ p q c).mono fun e w' ⟨e1, e2⟩ => ⟨e1, by subst e2; exact (SQ.start h).mono (by omega) (by omega)⟩
set_option maxRecDepth 100000 in
set_option maxHeartbeats 8000000 in
theorem plays0_s (h : SS W X K bv mk ke rm L o A A τ n mm w) (hn : n ≤ 500000) (_ : mm + 2 ≤ 80) (hE : ErrType W) (y : Opv) (hl : Lies W y.e) (hy : Byts W y.ap y.an y.ax) (ho : OpOk y) : Calls Tryz.prog 6 #[.pointer (some ⟨X, 0, none⟩), .agg #[.int .i64 0, .int .i64 y.of_, .int .i64 y.n, .string y.e.ct, .slice y.e.tp y.e.tn y.e.tc, .int .i64 y.e.nu, .int .i64 y.e.tk, .slice y.e.cp y.e.cn y.e.cc, .string y.e.cd, .slice y.e.ap y.e.an y.e.ac, .string y.ct, .string y.cd, .slice y.ap y.an y.ac]] w fun r w' => r = .returned (.bool true) ∧ Hid (PlS W X K bv mk ke rm o τ n mm w w') := by
  have bv0 : Below w.heap.size w (w.alloc (.cells #[.int .i64 0, .int .i64 y.of_, .int .i64 y.n, .string y.e.ct, .slice y.e.tp y.e.tn y.e.tc, .int .i64 y.e.nu, .int .i64 y.e.tk, .slice y.e.cp y.e.cn y.e.cc, .string y.e.cd, .slice y.e.ap y.e.an y.e.ac, .string y.ct, .string y.cd, .slice y.ap y.an y.ac] 32)) := (Below.refl _ _).alloc (Nat.le_refl _) _
  have hb0 : (w.alloc (.cells #[.int .i64 0, .int .i64 y.of_, .int .i64 y.n, .string y.e.ct, .slice y.e.tp y.e.tn y.e.tc, .int .i64 y.e.nu, .int .i64 y.e.tk, .slice y.e.cp y.e.cn y.e.cc, .string y.e.cd, .slice y.e.ap y.e.an y.e.ac, .string y.ct, .string y.cd, .slice y.ap y.an y.ac] 32)).heap[w.heap.size]? = some (.cells #[.int .i64 0, .int .i64 y.of_, .int .i64 y.n, .string y.e.ct, .slice y.e.tp y.e.tn y.e.tc, .int .i64 y.e.nu, .int .i64 y.e.tk, .slice y.e.cp y.e.cn y.e.cc, .string y.e.cd, .slice y.e.ap y.e.an y.e.ac, .string y.ct, .string y.cd, .slice y.ap y.an y.ac] 32 (0, 0)) := heap_alloc_new _ _
  obtain ⟨V0, hV0⟩ : ∃ V, w.alloc (.cells #[.int .i64 0, .int .i64 y.of_, .int .i64 y.n, .string y.e.ct, .slice y.e.tp y.e.tn y.e.tc, .int .i64 y.e.nu, .int .i64 y.e.tk, .slice y.e.cp y.e.cn y.e.cc, .string y.e.cd, .slice y.e.ap y.e.an y.e.ac, .string y.ct, .string y.cd, .slice y.ap y.an y.ac] 32) = V := ⟨_, rfl⟩
  rw [hV0] at bv0 hb0
  obtain ⟨ob, hob⟩ : ∃ b, w.heap.size = b := ⟨_, rfl⟩
  rw [hob] at hb0
  have HI : Hid (ErrType W ∧ Lies W y.e ∧ Byts W y.ap y.an y.ax ∧ OpOk y ∧ n ≤ 500000) := ⟨hE, hl, hy, ho, hn⟩
  have HV : Hid (SS W X K bv mk ke rm L o A A τ n mm V0 ∧ V0.heap[ob]? = some (.cells #[.int .i64 0, .int .i64 y.of_, .int .i64 y.n, .string y.e.ct, .slice y.e.tp y.e.tn y.e.tc, .int .i64 y.e.nu, .int .i64 y.e.tk, .slice y.e.cp y.e.cn y.e.cc, .string y.e.cd, .slice y.e.ap y.e.an y.e.ac, .string y.ct, .string y.cd, .slice y.ap y.an y.ac] 32 (0, 0))) := ⟨h.below bv0, hb0⟩
  have HB0 : Hid (Below w.heap.size w V0 ∧ (∀ q, w.heap.size ≤ q → τ q = 0) ∧ W.heap.size ≤ w.heap.size) := ⟨bv0, h.new, h.bel.size⟩
  have hop := xr_open HV.out.1.sx
  clear h hE hl hy ho hn bv0 hb0
  go_enter Tryz.func6, Tryz.ntmps6
  go_wp2_with fail
  clear hV0 hob
  refine hop.mono ?_
  rintro _ w1 ⟨a, c, rfl, t1, b1⟩
  have H1 : Hid (SS W X K bv mk ke rm L o A A τ n mm w1 ∧ w1.heap[ob]? = some (.cells #[.int .i64 0, .int .i64 y.of_, .int .i64 y.n, .string y.e.ct, .slice y.e.tp y.e.tn y.e.tc, .int .i64 y.e.nu, .int .i64 y.e.tk, .slice y.e.cp y.e.cn y.e.cc, .string y.e.cd, .slice y.e.ap y.e.an y.e.ac, .string y.ct, .string y.cd, .slice y.ap y.an y.ac] 32 (0, 0)) ∧ TRow w1 V0.heap.size (.slice a (opS A).length c) (opS A)) := ⟨HV.out.1.below b1, blk_below HV.out.2 b1, t1⟩
  have co := hcell H1.out.2.1
  have HB1 : Hid (Below w.heap.size w w1) := below_then HB0.out.1 b1
  clear hop t1 b1 HV
  have hac := accepts_s H1.out.1 HI.out.1 y.e HI.out.2.1 HI.out.2.2.2.1.k1 HI.out.2.2.2.1.n1 HI.out.2.2.2.1.n2 HI.out.2.2.2.1.n3
  go_wp2_with fail
  refine hac.mono ?_
  rintro _ w2 ⟨rfl, H2⟩
  have HZ : Hid (PlS W X K bv mk ke rm o τ n mm w w2) := by
    obtain ⟨L', τ', h2, x2⟩ := H2.out
    exact ⟨L', _, τ', h2.mono (by omega) (by omega), XF.from HB1.out x2⟩
  clear hac co H2
  go_wp2_with fail
  go_ret
  exact ⟨rfl, HZ⟩
set_option maxRecDepth 100000 in
set_option maxHeartbeats 8000000 in
theorem plays1_s (h : SS W X K bv mk ke rm L o A A τ n mm w) (hn : n ≤ 500000) (hm : mm + 2 ≤ 80) (hE : ErrType W) (y : Opv) (hl : Lies W y.e) (hy : Byts W y.ap y.an y.ax) (ho : OpOk y) : Calls Tryz.prog 6 #[.pointer (some ⟨X, 0, none⟩), .agg #[.int .i64 1, .int .i64 y.of_, .int .i64 y.n, .string y.e.ct, .slice y.e.tp y.e.tn y.e.tc, .int .i64 y.e.nu, .int .i64 y.e.tk, .slice y.e.cp y.e.cn y.e.cc, .string y.e.cd, .slice y.e.ap y.e.an y.e.ac, .string y.ct, .string y.cd, .slice y.ap y.an y.ac]] w fun r w' => r = .returned (.bool true) ∧ Hid (PlS W X K bv mk ke rm o τ n mm w w') := by
  have bv0 : Below w.heap.size w (w.alloc (.cells #[.int .i64 1, .int .i64 y.of_, .int .i64 y.n, .string y.e.ct, .slice y.e.tp y.e.tn y.e.tc, .int .i64 y.e.nu, .int .i64 y.e.tk, .slice y.e.cp y.e.cn y.e.cc, .string y.e.cd, .slice y.e.ap y.e.an y.e.ac, .string y.ct, .string y.cd, .slice y.ap y.an y.ac] 32)) := (Below.refl _ _).alloc (Nat.le_refl _) _
  have hb0 : (w.alloc (.cells #[.int .i64 1, .int .i64 y.of_, .int .i64 y.n, .string y.e.ct, .slice y.e.tp y.e.tn y.e.tc, .int .i64 y.e.nu, .int .i64 y.e.tk, .slice y.e.cp y.e.cn y.e.cc, .string y.e.cd, .slice y.e.ap y.e.an y.e.ac, .string y.ct, .string y.cd, .slice y.ap y.an y.ac] 32)).heap[w.heap.size]? = some (.cells #[.int .i64 1, .int .i64 y.of_, .int .i64 y.n, .string y.e.ct, .slice y.e.tp y.e.tn y.e.tc, .int .i64 y.e.nu, .int .i64 y.e.tk, .slice y.e.cp y.e.cn y.e.cc, .string y.e.cd, .slice y.e.ap y.e.an y.e.ac, .string y.ct, .string y.cd, .slice y.ap y.an y.ac] 32 (0, 0)) := heap_alloc_new _ _
  obtain ⟨V0, hV0⟩ : ∃ V, w.alloc (.cells #[.int .i64 1, .int .i64 y.of_, .int .i64 y.n, .string y.e.ct, .slice y.e.tp y.e.tn y.e.tc, .int .i64 y.e.nu, .int .i64 y.e.tk, .slice y.e.cp y.e.cn y.e.cc, .string y.e.cd, .slice y.e.ap y.e.an y.e.ac, .string y.ct, .string y.cd, .slice y.ap y.an y.ac] 32) = V := ⟨_, rfl⟩
  rw [hV0] at bv0 hb0
  obtain ⟨ob, hob⟩ : ∃ b, w.heap.size = b := ⟨_, rfl⟩
  rw [hob] at hb0
  have HI : Hid (ErrType W ∧ Lies W y.e ∧ Byts W y.ap y.an y.ax ∧ OpOk y ∧ n ≤ 500000) := ⟨hE, hl, hy, ho, hn⟩
  have HV : Hid (SS W X K bv mk ke rm L o A A τ n mm V0 ∧ V0.heap[ob]? = some (.cells #[.int .i64 1, .int .i64 y.of_, .int .i64 y.n, .string y.e.ct, .slice y.e.tp y.e.tn y.e.tc, .int .i64 y.e.nu, .int .i64 y.e.tk, .slice y.e.cp y.e.cn y.e.cc, .string y.e.cd, .slice y.e.ap y.e.an y.e.ac, .string y.ct, .string y.cd, .slice y.ap y.an y.ac] 32 (0, 0))) := ⟨h.below bv0, hb0⟩
  have HB0 : Hid (Below w.heap.size w V0 ∧ (∀ q, w.heap.size ≤ q → τ q = 0) ∧ W.heap.size ≤ w.heap.size) := ⟨bv0, h.new, h.bel.size⟩
  have hop := xr_open HV.out.1.sx
  clear h hE hl hy ho hn bv0 hb0
  go_enter Tryz.func6, Tryz.ntmps6
  go_wp2_with fail
  clear hV0 hob
  refine hop.mono ?_
  rintro _ w1 ⟨a, c, rfl, t1, b1⟩
  have H1 : Hid (SS W X K bv mk ke rm L o A A τ n mm w1 ∧ w1.heap[ob]? = some (.cells #[.int .i64 1, .int .i64 y.of_, .int .i64 y.n, .string y.e.ct, .slice y.e.tp y.e.tn y.e.tc, .int .i64 y.e.nu, .int .i64 y.e.tk, .slice y.e.cp y.e.cn y.e.cc, .string y.e.cd, .slice y.e.ap y.e.an y.e.ac, .string y.ct, .string y.cd, .slice y.ap y.an y.ac] 32 (0, 0)) ∧ TRow w1 V0.heap.size (.slice a (opS A).length c) (opS A)) := ⟨HV.out.1.below b1, blk_below HV.out.2 b1, t1⟩
  have co := hcell H1.out.2.1
  have HB1 : Hid (Below w.heap.size w w1) := below_then HB0.out.1 b1
  clear hop t1 b1 HV
  have hac := decides_s (cd := y.cd) (co := y.ac) H1.out.1 (by omega) HI.out.1 HI.out.2.2.2.1.k2 HI.out.2.2.1 HI.out.2.2.2.1.n4
  go_wp2_with fail
  refine hac.mono ?_
  rintro _ w2 ⟨rfl, H2⟩
  have HZ : Hid (PlS W X K bv mk ke rm o τ n mm w w2) := by
    obtain ⟨L', τ', h2, x2⟩ := H2.out
    exact ⟨L', _, τ', h2.mono (by omega) (by omega), XF.from HB1.out x2⟩
  clear hac co H2
  go_wp2_with fail
  go_ret
  exact ⟨rfl, HZ⟩
set_option maxRecDepth 100000 in
set_option maxHeartbeats 8000000 in
theorem plays3_s (h : SS W X K bv mk ke rm L o A A τ n mm w) (hn : n ≤ 500000) (_ : mm + 2 ≤ 80) (hE : ErrType W) (y : Opv) (hl : Lies W y.e) (hy : Byts W y.ap y.an y.ax) (ho : OpOk y) : Calls Tryz.prog 6 #[.pointer (some ⟨X, 0, none⟩), .agg #[.int .i64 3, .int .i64 y.of_, .int .i64 y.n, .string y.e.ct, .slice y.e.tp y.e.tn y.e.tc, .int .i64 y.e.nu, .int .i64 y.e.tk, .slice y.e.cp y.e.cn y.e.cc, .string y.e.cd, .slice y.e.ap y.e.an y.e.ac, .string y.ct, .string y.cd, .slice y.ap y.an y.ac]] w fun r w' => r = .returned (.bool true) ∧ Hid (PlS W X K bv mk ke rm o τ n mm w w') := by
  have bv0 : Below w.heap.size w (w.alloc (.cells #[.int .i64 3, .int .i64 y.of_, .int .i64 y.n, .string y.e.ct, .slice y.e.tp y.e.tn y.e.tc, .int .i64 y.e.nu, .int .i64 y.e.tk, .slice y.e.cp y.e.cn y.e.cc, .string y.e.cd, .slice y.e.ap y.e.an y.e.ac, .string y.ct, .string y.cd, .slice y.ap y.an y.ac] 32)) := (Below.refl _ _).alloc (Nat.le_refl _) _
  have hb0 : (w.alloc (.cells #[.int .i64 3, .int .i64 y.of_, .int .i64 y.n, .string y.e.ct, .slice y.e.tp y.e.tn y.e.tc, .int .i64 y.e.nu, .int .i64 y.e.tk, .slice y.e.cp y.e.cn y.e.cc, .string y.e.cd, .slice y.e.ap y.e.an y.e.ac, .string y.ct, .string y.cd, .slice y.ap y.an y.ac] 32)).heap[w.heap.size]? = some (.cells #[.int .i64 3, .int .i64 y.of_, .int .i64 y.n, .string y.e.ct, .slice y.e.tp y.e.tn y.e.tc, .int .i64 y.e.nu, .int .i64 y.e.tk, .slice y.e.cp y.e.cn y.e.cc, .string y.e.cd, .slice y.e.ap y.e.an y.e.ac, .string y.ct, .string y.cd, .slice y.ap y.an y.ac] 32 (0, 0)) := heap_alloc_new _ _
  obtain ⟨V0, hV0⟩ : ∃ V, w.alloc (.cells #[.int .i64 3, .int .i64 y.of_, .int .i64 y.n, .string y.e.ct, .slice y.e.tp y.e.tn y.e.tc, .int .i64 y.e.nu, .int .i64 y.e.tk, .slice y.e.cp y.e.cn y.e.cc, .string y.e.cd, .slice y.e.ap y.e.an y.e.ac, .string y.ct, .string y.cd, .slice y.ap y.an y.ac] 32) = V := ⟨_, rfl⟩
  rw [hV0] at bv0 hb0
  obtain ⟨ob, hob⟩ : ∃ b, w.heap.size = b := ⟨_, rfl⟩
  rw [hob] at hb0
  have HI : Hid (ErrType W ∧ Lies W y.e ∧ Byts W y.ap y.an y.ax ∧ OpOk y ∧ n ≤ 500000) := ⟨hE, hl, hy, ho, hn⟩
  have HV : Hid (SS W X K bv mk ke rm L o A A τ n mm V0 ∧ V0.heap[ob]? = some (.cells #[.int .i64 3, .int .i64 y.of_, .int .i64 y.n, .string y.e.ct, .slice y.e.tp y.e.tn y.e.tc, .int .i64 y.e.nu, .int .i64 y.e.tk, .slice y.e.cp y.e.cn y.e.cc, .string y.e.cd, .slice y.e.ap y.e.an y.e.ac, .string y.ct, .string y.cd, .slice y.ap y.an y.ac] 32 (0, 0))) := ⟨h.below bv0, hb0⟩
  have HB0 : Hid (Below w.heap.size w V0 ∧ (∀ q, w.heap.size ≤ q → τ q = 0) ∧ W.heap.size ≤ w.heap.size) := ⟨bv0, h.new, h.bel.size⟩
  have hop := xr_open HV.out.1.sx
  clear h hE hl hy ho hn bv0 hb0
  go_enter Tryz.func6, Tryz.ntmps6
  go_wp2_with fail
  clear hV0 hob
  refine hop.mono ?_
  rintro _ w1 ⟨a, c, rfl, t1, b1⟩
  have H1 : Hid (SS W X K bv mk ke rm L o A A τ n mm w1 ∧ w1.heap[ob]? = some (.cells #[.int .i64 3, .int .i64 y.of_, .int .i64 y.n, .string y.e.ct, .slice y.e.tp y.e.tn y.e.tc, .int .i64 y.e.nu, .int .i64 y.e.tk, .slice y.e.cp y.e.cn y.e.cc, .string y.e.cd, .slice y.e.ap y.e.an y.e.ac, .string y.ct, .string y.cd, .slice y.ap y.an y.ac] 32 (0, 0)) ∧ TRow w1 V0.heap.size (.slice a (opS A).length c) (opS A)) := ⟨HV.out.1.below b1, blk_below HV.out.2 b1, t1⟩
  have co := hcell H1.out.2.1
  have HB1 : Hid (Below w.heap.size w w1) := below_then HB0.out.1 b1
  clear hop t1 b1 HV
  have hac := finds_s H1.out.1 (by have := HI.out.2.2.2.2; omega) HI.out.2.2.2.1.k2
  go_wp2_with fail
  refine hac.mono ?_
  rintro _ w2 ⟨rfl, H2⟩
  have HZ : Hid (PlS W X K bv mk ke rm o τ n mm w w2) := by
    obtain ⟨τ', h2, x2⟩ := H2.out
    exact ⟨L, A, τ', h2.mono (by omega) (by omega), XF.from HB1.out (XF.of_tk x2)⟩
  clear hac co H2
  go_wp2_with fail
  go_ret
  exact ⟨rfl, HZ⟩
set_option maxRecDepth 100000 in
set_option maxHeartbeats 8000000 in
theorem playsT_s (h : SS W X K bv mk ke rm L o A A τ n mm w) (hn : n ≤ 500000) (hm : mm + 2 ≤ 80) (hE : ErrType W) (y : Opv) (hl : Lies W y.e) (hy : Byts W y.ap y.an y.ax) (ho : OpOk y) (k0 : (y.kd == 0) = false) (k9 : (y.kd == 9) = false) (k1 : (y.kd == 1) = false) (k2 : (y.kd == 2) = false) (k3 : (y.kd == 3) = false) (k8 : (y.kd == 8) = false) : Calls Tryz.prog 6 #[.pointer (some ⟨X, 0, none⟩), .agg #[.int .i64 y.kd, .int .i64 y.of_, .int .i64 y.n, .string y.e.ct, .slice y.e.tp y.e.tn y.e.tc, .int .i64 y.e.nu, .int .i64 y.e.tk, .slice y.e.cp y.e.cn y.e.cc, .string y.e.cd, .slice y.e.ap y.e.an y.e.ac, .string y.ct, .string y.cd, .slice y.ap y.an y.ac]] w fun r w' => r = .returned (.bool true) ∧ Hid (PlS W X K bv mk ke rm o τ n mm w w') := by
  have bv0 : Below w.heap.size w (w.alloc (.cells #[.int .i64 y.kd, .int .i64 y.of_, .int .i64 y.n, .string y.e.ct, .slice y.e.tp y.e.tn y.e.tc, .int .i64 y.e.nu, .int .i64 y.e.tk, .slice y.e.cp y.e.cn y.e.cc, .string y.e.cd, .slice y.e.ap y.e.an y.e.ac, .string y.ct, .string y.cd, .slice y.ap y.an y.ac] 32)) := (Below.refl _ _).alloc (Nat.le_refl _) _
  have hb0 : (w.alloc (.cells #[.int .i64 y.kd, .int .i64 y.of_, .int .i64 y.n, .string y.e.ct, .slice y.e.tp y.e.tn y.e.tc, .int .i64 y.e.nu, .int .i64 y.e.tk, .slice y.e.cp y.e.cn y.e.cc, .string y.e.cd, .slice y.e.ap y.e.an y.e.ac, .string y.ct, .string y.cd, .slice y.ap y.an y.ac] 32)).heap[w.heap.size]? = some (.cells #[.int .i64 y.kd, .int .i64 y.of_, .int .i64 y.n, .string y.e.ct, .slice y.e.tp y.e.tn y.e.tc, .int .i64 y.e.nu, .int .i64 y.e.tk, .slice y.e.cp y.e.cn y.e.cc, .string y.e.cd, .slice y.e.ap y.e.an y.e.ac, .string y.ct, .string y.cd, .slice y.ap y.an y.ac] 32 (0, 0)) := heap_alloc_new _ _
  obtain ⟨V0, hV0⟩ : ∃ V, w.alloc (.cells #[.int .i64 y.kd, .int .i64 y.of_, .int .i64 y.n, .string y.e.ct, .slice y.e.tp y.e.tn y.e.tc, .int .i64 y.e.nu, .int .i64 y.e.tk, .slice y.e.cp y.e.cn y.e.cc, .string y.e.cd, .slice y.e.ap y.e.an y.e.ac, .string y.ct, .string y.cd, .slice y.ap y.an y.ac] 32) = V := ⟨_, rfl⟩
  rw [hV0] at bv0 hb0
  obtain ⟨ob, hob⟩ : ∃ b, w.heap.size = b := ⟨_, rfl⟩
  rw [hob] at hb0
  have HI : Hid (ErrType W ∧ Lies W y.e ∧ Byts W y.ap y.an y.ax ∧ OpOk y ∧ n ≤ 500000) := ⟨hE, hl, hy, ho, hn⟩
  have HV : Hid (SS W X K bv mk ke rm L o A A τ n mm V0 ∧ V0.heap[ob]? = some (.cells #[.int .i64 y.kd, .int .i64 y.of_, .int .i64 y.n, .string y.e.ct, .slice y.e.tp y.e.tn y.e.tc, .int .i64 y.e.nu, .int .i64 y.e.tk, .slice y.e.cp y.e.cn y.e.cc, .string y.e.cd, .slice y.e.ap y.e.an y.e.ac, .string y.ct, .string y.cd, .slice y.ap y.an y.ac] 32 (0, 0))) := ⟨h.below bv0, hb0⟩
  have HB0 : Hid (Below w.heap.size w V0 ∧ (∀ q, w.heap.size ≤ q → τ q = 0) ∧ W.heap.size ≤ w.heap.size) := ⟨bv0, h.new, h.bel.size⟩
  have hop := xr_open HV.out.1.sx
  clear h hE hl hy ho hn bv0 hb0
  go_enter Tryz.func6, Tryz.ntmps6
  go_wp2_with fail
  clear hV0 hob
  refine hop.mono ?_
  rintro _ w1 ⟨a, c, rfl, t1, b1⟩
  have H1 : Hid (SS W X K bv mk ke rm L o A A τ n mm w1 ∧ w1.heap[ob]? = some (.cells #[.int .i64 y.kd, .int .i64 y.of_, .int .i64 y.n, .string y.e.ct, .slice y.e.tp y.e.tn y.e.tc, .int .i64 y.e.nu, .int .i64 y.e.tk, .slice y.e.cp y.e.cn y.e.cc, .string y.e.cd, .slice y.e.ap y.e.an y.e.ac, .string y.ct, .string y.cd, .slice y.ap y.an y.ac] 32 (0, 0)) ∧ TRow w1 V0.heap.size (.slice a (opS A).length c) (opS A)) := ⟨HV.out.1.below b1, blk_below HV.out.2 b1, t1⟩
  have co := hcell H1.out.2.1
  have HB1 : Hid (Below w.heap.size w w1) := below_then HB0.out.1 b1
  clear hop t1 b1 HV
  have hac := tells_any_s H1.out.1 (by have := HI.out.2.2.2.2; omega) hm y.kd H1.out.2.2 (fun b hb => HB0.out.2.1 b (Nat.le_trans HB0.out.1.size (ERow.lt H1.out.2.2 hb).1))
  go_wp2_with fail
  refine hac.mono ?_
  rintro _ w2 ⟨rfl, H2⟩
  have HZ : Hid (PlS W X K bv mk ke rm o τ n mm w w2) := by
    obtain ⟨τ', h2, x2⟩ := H2.out
    exact ⟨L, A, τ', h2, XF.from HB1.out (XF.of_tk x2)⟩
  clear hac co H2
  go_wp2_with fail
  go_ret
  exact ⟨rfl, HZ⟩
end
end Go.Proofs.YtjbkfppibnlmoaaGreatDoor

/-
  The law's plays, by the strong pair: Accept with its tick brought up.
-/
namespace Go.Proofs.YtjbkfppibnlmoaaGreatDoor
open Go.RowKit

section
variable {W w w' : World} {X K n mm : Nat} {bv mk ke rm L : Value} {o : Option (Int × Int)} {A A' : List Ent} {τ : Nat → Nat}
set_option maxRecDepth 100000 in
set_option maxHeartbeats 8000000 in
theorem plays9_s (h : SS W X K bv mk ke rm L o A A τ n mm w) (hn : n ≤ 500000) (_ : mm + 2 ≤ 80) (hE : ErrType W) (y : Opv) (hl : Lies W y.e) (hy : Byts W y.ap y.an y.ax) (ho : OpOk y) : Calls Tryz.prog 6 #[.pointer (some ⟨X, 0, none⟩), .agg #[.int .i64 9, .int .i64 y.of_, .int .i64 y.n, .string y.e.ct, .slice y.e.tp y.e.tn y.e.tc, .int .i64 y.e.nu, .int .i64 y.e.tk, .slice y.e.cp y.e.cn y.e.cc, .string y.e.cd, .slice y.e.ap y.e.an y.e.ac, .string y.ct, .string y.cd, .slice y.ap y.an y.ac]] w fun r w' => r = .returned (.bool true) ∧ Hid (PlS W X K bv mk ke rm o τ n mm w w') := by
  have bv0 : Below w.heap.size w (w.alloc (.cells #[.int .i64 9, .int .i64 y.of_, .int .i64 y.n, .string y.e.ct, .slice y.e.tp y.e.tn y.e.tc, .int .i64 y.e.nu, .int .i64 y.e.tk, .slice y.e.cp y.e.cn y.e.cc, .string y.e.cd, .slice y.e.ap y.e.an y.e.ac, .string y.ct, .string y.cd, .slice y.ap y.an y.ac] 32)) := (Below.refl _ _).alloc (Nat.le_refl _) _
  have hb0 : (w.alloc (.cells #[.int .i64 9, .int .i64 y.of_, .int .i64 y.n, .string y.e.ct, .slice y.e.tp y.e.tn y.e.tc, .int .i64 y.e.nu, .int .i64 y.e.tk, .slice y.e.cp y.e.cn y.e.cc, .string y.e.cd, .slice y.e.ap y.e.an y.e.ac, .string y.ct, .string y.cd, .slice y.ap y.an y.ac] 32)).heap[w.heap.size]? = some (.cells #[.int .i64 9, .int .i64 y.of_, .int .i64 y.n, .string y.e.ct, .slice y.e.tp y.e.tn y.e.tc, .int .i64 y.e.nu, .int .i64 y.e.tk, .slice y.e.cp y.e.cn y.e.cc, .string y.e.cd, .slice y.e.ap y.e.an y.e.ac, .string y.ct, .string y.cd, .slice y.ap y.an y.ac] 32 (0, 0)) := heap_alloc_new _ _
  obtain ⟨V0, hV0⟩ : ∃ V, w.alloc (.cells #[.int .i64 9, .int .i64 y.of_, .int .i64 y.n, .string y.e.ct, .slice y.e.tp y.e.tn y.e.tc, .int .i64 y.e.nu, .int .i64 y.e.tk, .slice y.e.cp y.e.cn y.e.cc, .string y.e.cd, .slice y.e.ap y.e.an y.e.ac, .string y.ct, .string y.cd, .slice y.ap y.an y.ac] 32) = V := ⟨_, rfl⟩
  rw [hV0] at bv0 hb0
  obtain ⟨ob, hob⟩ : ∃ b, w.heap.size = b := ⟨_, rfl⟩
  rw [hob] at hb0
  have HOB : Hid (w.heap.size ≤ ob) := by unfold Hid; omega
  have HI : Hid (ErrType W ∧ Lies W y.e ∧ Byts W y.ap y.an y.ax ∧ OpOk y ∧ n ≤ 500000) := ⟨hE, hl, hy, ho, hn⟩
  have HV : Hid (SS W X K bv mk ke rm L o A A τ n mm V0 ∧ V0.heap[ob]? = some (.cells #[.int .i64 9, .int .i64 y.of_, .int .i64 y.n, .string y.e.ct, .slice y.e.tp y.e.tn y.e.tc, .int .i64 y.e.nu, .int .i64 y.e.tk, .slice y.e.cp y.e.cn y.e.cc, .string y.e.cd, .slice y.e.ap y.e.an y.e.ac, .string y.ct, .string y.cd, .slice y.ap y.an y.ac] 32 (0, 0))) := ⟨h.below bv0, hb0⟩
  have HW : Hid (SS W X K bv mk ke rm L o A A τ n mm w ∧ Below w.heap.size w V0 ∧ w.heap.size = ob) := ⟨h, bv0, hob⟩
  have HB0 : Hid (Below w.heap.size w V0 ∧ (∀ q, w.heap.size ≤ q → τ q = 0) ∧ W.heap.size ≤ w.heap.size) := ⟨bv0, h.new, h.bel.size⟩
  have hop := xr_open HV.out.1.sx
  clear h hE hl hy ho hn bv0 hb0
  go_enter Tryz.func6, Tryz.ntmps6
  go_wp2_with fail
  clear hV0 hob
  refine hop.mono ?_
  rintro _ w1 ⟨a, c, rfl, t1, b1⟩
  have H1 : Hid (SS W X K bv mk ke rm L o A A τ n mm w1 ∧ w1.heap[ob]? = some (.cells #[.int .i64 9, .int .i64 y.of_, .int .i64 y.n, .string y.e.ct, .slice y.e.tp y.e.tn y.e.tc, .int .i64 y.e.nu, .int .i64 y.e.tk, .slice y.e.cp y.e.cn y.e.cc, .string y.e.cd, .slice y.e.ap y.e.an y.e.ac, .string y.ct, .string y.cd, .slice y.ap y.an y.ac] 32 (0, 0)) ∧ TRow w1 V0.heap.size (.slice a (opS A).length c) (opS A)) := ⟨HV.out.1.below b1, blk_below HV.out.2 b1, t1⟩
  have co := hcell H1.out.2.1
  have HB1 : Hid (Below w.heap.size w w1) := below_then HB0.out.1 b1
  have HW1 : Hid (Below w.heap.size w w1) := below_then HW.out.2.1 b1
  clear hop t1 b1 HV
  have hla := xr_last H1.out.1.sx
  generalize decide (0 < A.length) = t0 at hla
  generalize lasE A = m at hla
  go_wp2_with fail
  refine hla.mono ?_
  rintro _ w2 ⟨p, d, p', d', p'', d'', rfl, _, b2⟩
  clear hla co
  go_upto_region 7 with fail
  have HV2 : Hid (SS W X K bv mk ke rm L o A A τ n mm (w2.alloc (.cells #[.string m.ct, .slice p m.tn d, .int .i64 m.nu, .int .i64 m.tk, .slice p' m.cn d', .string m.cd, .slice p'' m.an d''] 30)) ∧ (w2.alloc (.cells #[.string m.ct, .slice p m.tn d, .int .i64 m.nu, .int .i64 m.tk, .slice p' m.cn d', .string m.cd, .slice p'' m.an d''] 30)).heap[ob]? = some (.cells #[.int .i64 9, .int .i64 y.of_, .int .i64 y.n, .string y.e.ct, .slice y.e.tp y.e.tn y.e.tc, .int .i64 y.e.nu, .int .i64 y.e.tk, .slice y.e.cp y.e.cn y.e.cc, .string y.e.cd, .slice y.e.ap y.e.an y.e.ac, .string y.ct, .string y.cd, .slice y.ap y.an y.ac] 32 (0, 0)) ∧ (w2.alloc (.cells #[.string m.ct, .slice p m.tn d, .int .i64 m.nu, .int .i64 m.tk, .slice p' m.cn d', .string m.cd, .slice p'' m.an d''] 30)).heap[w2.heap.size]? = some (.cells #[.string m.ct, .slice p m.tn d, .int .i64 m.nu, .int .i64 m.tk, .slice p' m.cn d', .string m.cd, .slice p'' m.an d''] 30 (0, 0)) ∧ Below w.heap.size w (w2.alloc (.cells #[.string m.ct, .slice p m.tn d, .int .i64 m.nu, .int .i64 m.tk, .slice p' m.cn d', .string m.cd, .slice p'' m.an d''] 30))) := by
    have b3 : Below w1.heap.size w1 (w2.alloc (.cells #[.string m.ct, .slice p m.tn d, .int .i64 m.nu, .int .i64 m.tk, .slice p' m.cn d', .string m.cd, .slice p'' m.an d''] 30)) := b2.alloc b2.size _
    exact ⟨H1.out.1.below b3, blk_below H1.out.2.1 b3, heap_alloc_new _ _, below_then HW1.out b3⟩
  obtain ⟨V2, hV2⟩ : ∃ V, w2.alloc (.cells #[.string m.ct, .slice p m.tn d, .int .i64 m.nu, .int .i64 m.tk, .slice p' m.cn d', .string m.cd, .slice p'' m.an d''] 30) = V := ⟨_, rfl⟩
  rw [hV2] at HV2 ⊢
  clear hV2 b2 HW1
  obtain ⟨A2, hA2⟩ : ∃ b, w2.heap.size = b := ⟨_, rfl⟩
  rw [hA2] at HV2 ⊢
  clear hA2 H1
  have co := hcell HV2.out.2.1
  have cx := hcell HV2.out.2.2.1
  have hac : Calls Tryz.prog 21 #[.pointer (some ⟨X, 0, none⟩), .agg #[.string y.e.ct, .slice y.e.tp y.e.tn y.e.tc, .int .i64 y.e.nu, .int .i64 y.e.tk, .slice y.e.cp y.e.cn y.e.cc, .string y.e.cd, .slice y.e.ap y.e.an y.e.ac]] V2 fun r w' => r = .returned (.bool true) ∧ Hid (PlS W X K bv mk ke rm o τ n mm w w') := (accepts_s HV2.out.1 HI.out.1 y.e HI.out.2.1 HI.out.2.2.2.1.k1 HI.out.2.2.2.1.n1 HI.out.2.2.2.1.n2 HI.out.2.2.2.1.n3).mono fun r w' ⟨e1, e2⟩ => ⟨e1, by
    obtain ⟨L', τ', h2, x2⟩ := e2.out
    exact ⟨L', _, τ', h2.mono (by omega) (by omega), XF.from HV2.out.2.2.2 x2⟩⟩
  cases t0 with
  | false =>
    clear cx
    go_wp2_with fail
    refine hac.mono ?_
    rintro _ w3 ⟨rfl, HZ⟩
    clear hac co
    go_wp2_with fail
    go_ret
    exact ⟨rfl, HZ⟩
  | true =>
    by_cases hlt : y.e.tk < m.tk
    · have HV3 : Hid (SS W X K bv mk ke rm L o A A τ n mm (V2.setCell ⟨ob, 6, none⟩ (.int .i64 m.tk)) ∧ (V2.setCell ⟨ob, 6, none⟩ (.int .i64 m.tk)).heap[ob]? = some (.cells #[.int .i64 9, .int .i64 y.of_, .int .i64 y.n, .string y.e.ct, .slice y.e.tp y.e.tn y.e.tc, .int .i64 y.e.nu, .int .i64 m.tk, .slice y.e.cp y.e.cn y.e.cc, .string y.e.cd, .slice y.e.ap y.e.an y.e.ac, .string y.ct, .string y.cd, .slice y.ap y.an y.ac] 32 (0, 0))) := by
        refine ⟨HV2.out.1.off (Off.setCell (P := fun q => q = ob) (Off.refl _ _) (p := ⟨ob, 6, none⟩) rfl _) (fun q _ hq => by rw [hq]; exact HB0.out.2.1 ob HOB.out) (fun q hq => by rw [hq]; exact Nat.le_trans HB0.out.2.2 HOB.out), set_heap HV2.out.2.1 6 _⟩
      have hac2 : Calls Tryz.prog 21 #[.pointer (some ⟨X, 0, none⟩), .agg #[.string y.e.ct, .slice y.e.tp y.e.tn y.e.tc, .int .i64 y.e.nu, .int .i64 m.tk, .slice y.e.cp y.e.cn y.e.cc, .string y.e.cd, .slice y.e.ap y.e.an y.e.ac]] (V2.setCell ⟨ob, 6, none⟩ (.int .i64 m.tk)) fun r w' => r = .returned (.bool true) ∧ Hid (PlS W X K bv mk ke rm o τ n mm w w') := (accepts_s HV3.out.1 HI.out.1 { y.e with tk := m.tk } ⟨HI.out.2.1.t, HI.out.2.1.c, HI.out.2.1.a⟩ HI.out.2.2.2.1.k1 HI.out.2.2.2.1.n1 HI.out.2.2.2.1.n2 HI.out.2.2.2.1.n3).mono fun r w' ⟨e1, e2⟩ => ⟨e1, by
        obtain ⟨L', τ', h2, x2⟩ := e2.out
        exact ⟨L', _, τ', h2.mono (by omega) (by omega), XF.from (HV2.out.2.2.2.setCell (by show w.heap.size ≤ ob; exact HOB.out) _) x2⟩⟩
      have fo := hfroz HV2.out.2.1
      clear hac
      go_upto_region 9 with fail
      obtain ⟨V3, hV3⟩ : ∃ V, V2.setCell ⟨ob, 6, none⟩ (.int .i64 m.tk) = V := ⟨_, rfl⟩
      rw [hV3] at HV3 hac2 ⊢
      clear hV3 cx co fo
      have co := hcell HV3.out.2
      go_wp2_with fail
      refine hac2.mono ?_
      rintro _ w3 ⟨rfl, HZ⟩
      clear hac2 co
      go_wp2_with fail
      go_ret
      exact ⟨rfl, HZ⟩
    · go_wp2_with fail
      refine hac.mono ?_
      rintro _ w3 ⟨rfl, HZ⟩
      clear hac co cx
      go_wp2_with fail
      go_ret
      exact ⟨rfl, HZ⟩
end
end Go.Proofs.YtjbkfppibnlmoaaGreatDoor

/-
  The law's plays, by the strong pair: Decide of the N-th open one.
-/
namespace Go.Proofs.YtjbkfppibnlmoaaGreatDoor
open Go.RowKit

section
variable {W w w' : World} {X K n mm : Nat} {bv mk ke rm L : Value} {o : Option (Int × Int)} {A A' : List Ent} {τ : Nat → Nat}
set_option maxRecDepth 100000 in
set_option maxHeartbeats 8000000 in
theorem plays2_s (h : SS W X K bv mk ke rm L o A A τ n mm w) (hn : n ≤ 500000) (hm : mm + 2 ≤ 80) (hE : ErrType W) (y : Opv) (hl : Lies W y.e) (hy : Byts W y.ap y.an y.ax) (ho : OpOk y) : Calls Tryz.prog 6 #[.pointer (some ⟨X, 0, none⟩), .agg #[.int .i64 2, .int .i64 y.of_, .int .i64 y.n, .string y.e.ct, .slice y.e.tp y.e.tn y.e.tc, .int .i64 y.e.nu, .int .i64 y.e.tk, .slice y.e.cp y.e.cn y.e.cc, .string y.e.cd, .slice y.e.ap y.e.an y.e.ac, .string y.ct, .string y.cd, .slice y.ap y.an y.ac]] w fun r w' => r = .returned (.bool true) ∧ Hid (PlS W X K bv mk ke rm o τ n mm w w') := by
  have bv0 : Below w.heap.size w (w.alloc (.cells #[.int .i64 2, .int .i64 y.of_, .int .i64 y.n, .string y.e.ct, .slice y.e.tp y.e.tn y.e.tc, .int .i64 y.e.nu, .int .i64 y.e.tk, .slice y.e.cp y.e.cn y.e.cc, .string y.e.cd, .slice y.e.ap y.e.an y.e.ac, .string y.ct, .string y.cd, .slice y.ap y.an y.ac] 32)) := (Below.refl _ _).alloc (Nat.le_refl _) _
  have hb0 : (w.alloc (.cells #[.int .i64 2, .int .i64 y.of_, .int .i64 y.n, .string y.e.ct, .slice y.e.tp y.e.tn y.e.tc, .int .i64 y.e.nu, .int .i64 y.e.tk, .slice y.e.cp y.e.cn y.e.cc, .string y.e.cd, .slice y.e.ap y.e.an y.e.ac, .string y.ct, .string y.cd, .slice y.ap y.an y.ac] 32)).heap[w.heap.size]? = some (.cells #[.int .i64 2, .int .i64 y.of_, .int .i64 y.n, .string y.e.ct, .slice y.e.tp y.e.tn y.e.tc, .int .i64 y.e.nu, .int .i64 y.e.tk, .slice y.e.cp y.e.cn y.e.cc, .string y.e.cd, .slice y.e.ap y.e.an y.e.ac, .string y.ct, .string y.cd, .slice y.ap y.an y.ac] 32 (0, 0)) := heap_alloc_new _ _
  obtain ⟨V0, hV0⟩ : ∃ V, w.alloc (.cells #[.int .i64 2, .int .i64 y.of_, .int .i64 y.n, .string y.e.ct, .slice y.e.tp y.e.tn y.e.tc, .int .i64 y.e.nu, .int .i64 y.e.tk, .slice y.e.cp y.e.cn y.e.cc, .string y.e.cd, .slice y.e.ap y.e.an y.e.ac, .string y.ct, .string y.cd, .slice y.ap y.an y.ac] 32) = V := ⟨_, rfl⟩
  rw [hV0] at bv0 hb0
  obtain ⟨ob, hob⟩ : ∃ b, w.heap.size = b := ⟨_, rfl⟩
  rw [hob] at hb0
  have HI : Hid (ErrType W ∧ Lies W y.e ∧ Byts W y.ap y.an y.ax ∧ OpOk y ∧ n ≤ 500000) := ⟨hE, hl, hy, ho, hn⟩
  have HV : Hid (SS W X K bv mk ke rm L o A A τ n mm V0 ∧ V0.heap[ob]? = some (.cells #[.int .i64 2, .int .i64 y.of_, .int .i64 y.n, .string y.e.ct, .slice y.e.tp y.e.tn y.e.tc, .int .i64 y.e.nu, .int .i64 y.e.tk, .slice y.e.cp y.e.cn y.e.cc, .string y.e.cd, .slice y.e.ap y.e.an y.e.ac, .string y.ct, .string y.cd, .slice y.ap y.an y.ac] 32 (0, 0))) := ⟨h.below bv0, hb0⟩
  have HB0 : Hid (Below w.heap.size w V0 ∧ (∀ q, w.heap.size ≤ q → τ q = 0) ∧ W.heap.size ≤ w.heap.size) := ⟨bv0, h.new, h.bel.size⟩
  have hop := xr_open HV.out.1.sx
  clear h hE hl hy ho hn bv0 hb0
  go_enter Tryz.func6, Tryz.ntmps6
  go_wp2_with fail
  clear hV0 hob
  refine hop.mono ?_
  rintro _ w1 ⟨a, c, rfl, t1, b1⟩
  have H1 : Hid (SS W X K bv mk ke rm L o A A τ n mm w1 ∧ w1.heap[ob]? = some (.cells #[.int .i64 2, .int .i64 y.of_, .int .i64 y.n, .string y.e.ct, .slice y.e.tp y.e.tn y.e.tc, .int .i64 y.e.nu, .int .i64 y.e.tk, .slice y.e.cp y.e.cn y.e.cc, .string y.e.cd, .slice y.e.ap y.e.an y.e.ac, .string y.ct, .string y.cd, .slice y.ap y.an y.ac] 32 (0, 0)) ∧ TRow w1 V0.heap.size (.slice a (opS A).length c) (opS A)) := ⟨HV.out.1.below b1, blk_below HV.out.2 b1, t1⟩
  have co := hcell H1.out.2.1
  have HB1 : Hid (Below w.heap.size w w1) := below_then HB0.out.1 b1
  clear hop t1 b1 HV
  obtain ⟨nl, hnl⟩ : ∃ k, (opS A).length = k := ⟨_, rfl⟩
  have HT : Hid (TRow w1 V0.heap.size (.slice a nl c) (opS A) ∧ nl ≤ 97 ∧ ∀ s ∈ opS A, KeyS s) := by
    refine ⟨by rw [← hnl]; exact H1.out.2.2, ?_, fun s hs => ?_⟩
    · rw [← hnl]
      unfold opS
      rw [List.length_map]
      exact Nat.le_trans (List.length_filter_le _ _) H1.out.1.sx.bnd.1
    · unfold opS at hs
      obtain ⟨e, he, rfl⟩ := List.mem_map.1 hs
      exact keyS_of (H1.out.1.sx.bnd.2.2 e (List.mem_filter.1 he).1)
  rw [hnl]
  clear hnl
  rcases Nat.eq_zero_or_pos nl with h0 | h0
  · subst h0
    have HZ : Hid (PlS W X K bv mk ke rm o τ n mm w w1) := ⟨L, A, τ, H1.out.1.mono (by omega) (by omega), XF.of_below HB1.out⟩
    clear H1 HT
    go_wp2_with fail
    go_ret
    exact ⟨rfl, HZ⟩
  · have hne : ((nl : Int) == 0) = false := by rw [beq_eq_false_iff_ne]; omega
    obtain ⟨g, hg⟩ : ∃ g, a = some ⟨g, 0, none⟩ := by
      obtain ⟨g, s, e, _⟩ := trow_at HT.out.1 h0
      exact ⟨g, e⟩
    subst hg
    have HWi : Hid (∀ z, Calls Tryz.prog 24 #[.int .i64 y.n, .int .i64 (nl : Int)] z fun r w' => ∃ (j : Nat) (s : ByteArray), r = .returned (.int .i64 (j : Int)) ∧ w' = z ∧ (j : Int) < nl ∧ w1.cell? ⟨g, j, none⟩ = some (.string s) ∧ Hid (s ∈ opS A)) := fun z =>
      (within_any y.n z h0 (by have := HT.out.2.1; omega)).mono fun r w' ⟨j, hj, e1, e2⟩ => by
        obtain ⟨g', s, eg, hs, hc⟩ := trow_at HT.out.1 hj
        simp only [Option.some.injEq, Addr.mk.injEq, and_true] at eg
        subst eg
        exact ⟨j, s, e1, e2, by omega, hc, List.mem_of_getElem? hs⟩
    have HDe : Hid (∀ s, s ∈ opS A → ∀ z, Below w1.heap.size w1 z → Calls Tryz.prog 23 #[.pointer (some ⟨X, 0, none⟩), .string s, .string y.cd, .slice y.ap y.an y.ac] z fun r w' => r = .returned (.bool true) ∧ Hid (PlS W X K bv mk ke rm o τ n mm w w')) := fun s hs z hz =>
      (decides_s (cd := y.cd) (co := y.ac) (H1.out.1.below hz) (by omega) HI.out.1 (HT.out.2.2 s hs) HI.out.2.2.1 HI.out.2.2.2.1.n4).mono fun r w' ⟨e1, e2⟩ => ⟨e1, by
        obtain ⟨L', τ', h2, x2⟩ := e2.out
        exact ⟨L', _, τ', h2.mono (by omega) (by omega), XF.from (below_then HB1.out hz) x2⟩⟩
    have lo := blk_lt H1.out.2.1
    have lg : g < w1.heap.size := (ERow.lt HT.out.1 (g := g) rfl).2
    clear H1 HI HT h0
    go_upto_region 15 with fail
    go_region_law (first | (go_simp; go_at_call 24; refine (HWi.out _).mono ?_; rintro _ y1 ⟨j, s, rfl, hy1, hj, hs, hm⟩; subst hy1) | (go_simp; go_at_call 23; refine (HDe.out _ hm.out _ ?_).mono ?_; (first | exact Below.refl _ _ | exact Below.drew (Below.refl _ _)); rintro _ y2 ⟨rfl, HZ⟩))
    all_goals
      go_wp2_with fail
      go_ret
      first | exact ⟨rfl, HZ⟩ | (obtain ⟨L9, A9, t9, h9, x9⟩ := HZ.out; exact ⟨rfl, L9, A9, t9, h9.below (Below.refl _ _).drew, x9.below (Below.refl _ _).drew⟩)
end
end Go.Proofs.YtjbkfppibnlmoaaGreatDoor
