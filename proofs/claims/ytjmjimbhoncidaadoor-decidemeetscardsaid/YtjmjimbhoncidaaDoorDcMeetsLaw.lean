/-
  DecideMeets: whatever comes in.
-/
import Derived.Test.YtjmjimbhoncidaaDoorDcMeetTT
import Derived.Test.YtjmjimbhoncidaaDoorDcMeetTF
import Derived.Test.YtjmjimbhoncidaaDoorDcMeetFT
import Derived.Test.YtjmjimbhoncidaaDoorDcMeetFF
namespace Go.Proofs.YtjmjimbhoncidaaDoor
open Go.RowKit

theorem meets_law (D : DecOk) (e : Bool) (a p verdict copies : Int) (w : World) (hV : PV w) : Calls Tryd.prog 10 #[.agg #[.bool e, .int .i64 a, .int .i64 p], .int .i64 verdict, .int .i64 copies] w fun r w' => r = .returned (.bool true) ∧ Below w.heap.size w w' := by
  obtain ⟨d0, d1⟩ := tmod3 verdict
  obtain ⟨cd, hv, hI⟩ := vidx_at (verdict.tmod 3)
  have ok := ok_r e a p
  have cR := right_at e a p
  cases hq : caB e (rX e a) <;> cases hs : sentB e (rX e a) (rX e p) cd
  · exact meets_ff D e a p verdict copies _ _ _ cd w hV cR ok rfl d0 d1 hv hI hq hs
  · exact meets_ft D e a p verdict copies _ _ _ cd w hV cR ok rfl d0 d1 hv hI hq hs
  · exact meets_tf D e a p verdict copies _ _ _ cd w hV cR ok rfl d0 d1 hv hI hq hs
  · exact meets_tt D e a p verdict copies _ _ _ cd w hV cR ok rfl d0 d1 hv hI hq hs
end Go.Proofs.YtjmjimbhoncidaaDoor
