/-
  The law DiskFuse, walked.
-/
import Derived.Test.YtgabikgkpgpbbaaFuseRound
namespace Go.Proofs.Ytgabikgkpgpbbaa
open Go.RowKit

set_option maxRecDepth 100000 in
set_option maxHeartbeats 16000000 in
theorem fuse_any {ao : Option Addr} {xs : List Opv} {len cap : Nat} {F : Int} (w : World) (hO : Ops w ao xs) (hxs : xs.length = len) (hl : len ≤ maxLen) (hp : ∀ y ∈ xs, y.pl ≤ 140737488355328) (hpn : ∀ y ∈ xs, y.po = none → y.pc = 0) (hF : F ≤ 9223372036854775807) :
    Calls Try.prog 3 #[.slice ao len cap, .int .i64 F] w fun e w' => e = .returned (.bool true) ∧ Below w.heap.size w w' := by
  subst hxs
  have HO : Hid (Ops w ao xs) := hO
  have HP : Hid (∀ y ∈ xs, y.pl ≤ 140737488355328) := hp
  have HPN : Hid (∀ y ∈ xs, y.po = none → y.pc = 0) := hpn
  have HL : Hid (xs.length ≤ maxLen) := hl
  unfold maxLen at hl
  clear hO hp hpn
  go_enter Try.func3, Try.ntmps3
  go_wp2_with fail
  refine (heads_true _).mono ?_
  rintro e wh ⟨rfl, bh⟩
  have HBh : Hid (Below w.heap.size w wh) := bh
  clear bh
  go_wp2_with fail
  refine (beyond_any _ (HO.out.below HBh.out) HL.out HP.out).mono ?_
  rintro e W0 ⟨⟨bb, rfl, hbb⟩, b0⟩
  have HB0 : Hid (Below w.heap.size w W0) := below_then HBh.out b0
  clear b0
  cases bb with
  | true =>
    clear hbb
    go_wp2_with fail
    refine (heads_true _).mono ?_
    rintro e w1 ⟨rfl, b1⟩
    have HB1 : Hid (Below w.heap.size w w1) := below_then HB0.out b1
    clear b1
    go_wp2_with fail
    go_ret
    exact ⟨rfl, HB1.out⟩
  | false =>
    have HPB : Hid (∀ y ∈ xs, y.pl ≤ 2147483647) := hbb rfl
    clear hbb
    go_wp2_with fail
    refine (New_any _).mono ?_
    rintro e w1 ⟨rfl, hw1⟩
    have H1 : Hid (Dsk w1 W0.heap.size W0.heap.size (.slice none 0 0) (.slice none 0 0) [] [] 0 0 1 (-1) 0 0 0) := by unfold Hid; rw [hw1]; exact dsk_new W0
    have HB1 : Hid (Below W0.heap.size W0 w1) := by unfold Hid; rw [hw1]; exact (Below.refl _ _).alloc (Nat.le_refl _) _
    clear hw1
    go_wp2_with fail
    refine (Fuse_ok F H1.out hF).mono ?_
    rintro e w2 ⟨rfl, d2, t2⟩
    have H2 : Hid (DE w2 W0.heap.size W0.heap.size (.slice none 0 0) (.slice none 0 0) 0 0 1 (max F (-1)) 0 0 0) := ⟨_, _, _, _, d2, rfl, rfl⟩
    have HB2 : Hid (Below W0.heap.size W0 w2) := HB1.out.trans (t2.off.below HB1.out.size (fun k g => (H1.out.foot_lt g).1))
    clear d2 t2
    obtain ⟨K, hK⟩ : ∃ K, W0.heap.size = K := ⟨_, rfl⟩
    go_wp2_with fail
    rw [hK] at H2 HB2
    have HK : Hid (W0.heap.size = K) := hK
    clear hK H1 HB1
    obtain ⟨S, hS⟩ : ∃ S, w2.heap.size = S := ⟨_, rfl⟩
    have HI0 : Hid (∃ wz, (w2.alloc (.cells #[.int .i64 0, .int .i64 0] 30)) = wz ∧ FuR xs F K S W0 (.int .i64 F) (.int .i64 0) wz) := by
      refine ⟨_, rfl, 0, F, .slice none 0 0, .slice none 0 0, 0, 0, 1, max F (-1), 0, 0, 0, Nat.zero_le _, rfl, rfl, by rw [← hS]; simp, by rw [← hS]; simp, fun o => by rw [← hS]; simp, by rw [← hS]; simp, H2.out.below ((Below.refl _ _).alloc (Nat.le_refl _) _), ?_, HB2.out.alloc (by have := HB2.out.size; have := HK.out; omega) _, fun e => ?_⟩
      · unfold RF
        omega
      · have := (H2.out.foot_lt e).2
        omega
    rw [hS]
    obtain ⟨wz, hwz, z1⟩ := HI0.out
    rw [hwz]
    have HZ : Hid (FuR xs F K S W0 (.int .i64 F) (.int .i64 0) wz) := z1
    have HSK : Hid (K ≤ S) := by have := HB2.out.size; have := HK.out; unfold Hid; omega
    clear hwz z1 HI0 H2 HB2 hS
    refine fuse_loop (u := fun i => if i = 4 then .bool false else if i = 6 then .int .i64 F else if i = 8 then .int .i64 0 else undef) (HO.out.below HB0.out) hl hF HPB.out HPN.out HK.out HSK.out HZ.out ?_
    rintro u wx ⟨L, v0, v1, l0, l1, st, fu, na, ns, nc, hDE, hRF, hBel⟩
    have HI : Hid (DE wx K K v0 v1 l0 l1 st fu na ns nc ∧ RF F L st fu na ns nc ∧ Below K W0 wx) := ⟨hDE, hRF, hBel⟩
    clear hDE hRF hBel
    have hst : Hid (st = 1 ∨ st = 2) := by have := HI.out.2.1; unfold RF at this; unfold Hid; omega
    unfold FuF
    go_wp2_with fail
    obtain ⟨z0, z1, z2, z3, hz, _⟩ := HI.out.1
    refine (Counts_ok hz hst.out).mono ?_
    rintro e w3 ⟨rfl, b3⟩
    have HB3 : Hid (Below w.heap.size w w3) := (HB0.out.trans ((HK.out ▸ HI.out.2.2 : Below W0.heap.size W0 wx).mono HB0.out.size)).trans (b3.mono (by have := HI.out.2.2.size; have := HB0.out.size; omega))
    have hcnt := HI.out.1.cnt
    have hrf := HI.out.2.1
    clear b3 hz
    by_cases hFn : F < 0
    · go_wp2_with fail
      go_ret
      exact ⟨rfl, HB3.out.alloc HB3.out.size _⟩
    · have hle : na + ns + nc ≤ F := by unfold RF at hrf; omega
      clear hrf
      go_wp2_with fail
      go_ret
      exact ⟨rfl, HB3.out.alloc HB3.out.size _⟩
theorem fuse_walk {ao : Option Addr} {xs : List Opv} {len cap : Nat} {F : Int} (w : World) (hO : Ops w ao xs) (hxs : xs.length = len) (hl : len ≤ maxLen) (hp : ∀ y ∈ xs, y.pl ≤ 140737488355328) (hpn : ∀ y ∈ xs, y.po = none → y.pc = 0) (hF : (Lit.int .i64 F).wf = true) :
    Calls Try.prog 3 #[.slice ao len cap, .int .i64 F] w fun e w' => e = .returned (.bool true) ∧ Below w.heap.size w w' :=
  fuse_any w hO hxs hl hp hpn (by simp [Lit.wf, IntKind.min, IntKind.max, IntKind.signed, IntKind.bits] at hF; omega)
end Go.Proofs.Ytgabikgkpgpbbaa
