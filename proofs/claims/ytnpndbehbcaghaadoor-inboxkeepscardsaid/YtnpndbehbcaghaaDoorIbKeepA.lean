/-
  InboxKeeps, whatever the input.
-/
import Derived.Test.YtnpndbehbcaghaaDoorIbKeep
namespace Go.Proofs.YtnpndbehbcaghaaDoor
open Go.RowKit

section
variable {K R : Int} {ao : Option Addr} {n cap : Nat}
set_option maxRecDepth 100000 in
set_option maxHeartbeats 2000000 in
theorem keeps_far (w : World) (k1 : 1 ≤ K) (k2 : K ≤ 64) (r1 : 1 ≤ R) (r2 : R ≤ 32) (hm : 4000 < n) : Calls Tryd.prog 3 #[.int .i64 K, .int .i64 R, .slice ao n cap] w fun r w' => r = .returned (.bool true) ∧ Below w.heap.size w w' := by
  have hnw := li_new w w (Below.refl _ _) k1 k2 r1 r2
  have g1 : K ≥ 1 := k1
  have g2 : K ≤ 64 := k2
  have g3 : R ≥ 1 := r1
  have g4 : R ≤ 32 := r2
  have g5 : (n : Int) > 4000 := by omega
  clear k1 k2 r1 r2
  go_enter Tryd.func3, Tryd.ntmps3
  go_wp2_with fail
  refine hnw.mono ?_
  rintro _ w1 ⟨b, sb, M, rfl, H1⟩
  have hlv := lives_any w1
  clear hnw
  go_wp2_with fail
  refine hlv.mono ?_
  rintro _ w2 ⟨rfl, hb2⟩
  have HB : Hid (Below w.heap.size w w2) := (H1.out.1.below hb2).2
  clear hlv hb2 H1
  go_wp2_with fail
  go_ret
  exact ⟨rfl, HB.out⟩
end
theorem keeps_row (K R : Int) (ao : Option Addr) (cap : Nat) (xs : List Stv) (W : World) (hP : PVk W) (hO : Sts W ao xs) (hx : ∀ y ∈ xs, KeyS y.e.ct) :
    Calls Tryd.prog 3 #[.int .i64 K, .int .i64 R, .slice ao xs.length cap] W fun r w' => r = .returned (.bool true) ∧ Below W.heap.size W w' := by
  by_cases h : 1 ≤ K ∧ K ≤ 64 ∧ 1 ≤ R ∧ R ≤ 32
  · rcases Nat.lt_or_ge 4000 xs.length with g | g
    · exact keeps_far W h.1 h.2.1 h.2.2.1 h.2.2.2 g
    · exact keeps_law W h.1 h.2.1 h.2.2.1 h.2.2.2 hP hO hx rfl g
  · exact keeps_no W h
end Go.Proofs.YtnpndbehbcaghaaDoor
