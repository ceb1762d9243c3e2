/-
  The law DiskTorn, put together.
-/
import Derived.Test.YtaclonopgifgjaaTorn00
import Derived.Test.YtaclonopgifgjaaTorn01
import Derived.Test.YtaclonopgifgjaaTorn02
import Derived.Test.YtaclonopgifgjaaTorn0big
import Derived.Test.YtaclonopgifgjaaTorn0neg
import Derived.Test.YtaclonopgifgjaaTorn10
import Derived.Test.YtaclonopgifgjaaTorn11
import Derived.Test.YtaclonopgifgjaaTorn12
import Derived.Test.YtaclonopgifgjaaTorn1big
import Derived.Test.YtaclonopgifgjaaTorn1neg
import Derived.Test.YtaclonopgifgjaaTornBig
namespace Go.Proofs.Ytaclonopgifgjaa
open Go.RowKit

theorem torn_any {sa ta : Option Addr} {sl sc tl tc : Nat} {ss ts : List Int} {tk tz fu ar : Int} (w : World) (hS : Byts w sa sl ss) (_ : sl ≤ maxLen) (hsn : sa = none → sc = 0) (_ : sl ≤ sc) (hs47 : sl ≤ 140737488355328) (_ : ∀ z ∈ ss, 0 ≤ z ∧ z ≤ 255)
    (hT : Byts w ta tl ts) (_ : tl ≤ maxLen) (htn : ta = none → tc = 0) (htc : tl ≤ tc) (ht47 : tl ≤ 140737488355328) (_ : ∀ z ∈ ts, 0 ≤ z ∧ z ≤ 255) (hfu : (Lit.int .i64 fu).wf = true) (_ : (Lit.int .i64 ar).wf = true) :
    Calls Try.prog 4 #[.slice sa sl sc, .slice ta tl tc, .agg #[.int .i64 tk, .int .i64 tz], .int .i64 fu, .int .i64 ar] w fun e w' => e = .returned (.bool true) ∧ Below w.heap.size w w' := by
  have hfu' : fu ≤ 9223372036854775807 := by simp [Lit.wf, IntKind.min, IntKind.max, IntKind.signed, IntKind.bits] at hfu; omega
  by_cases hl : sl + tl ≤ 16777216
  · have hb := i64_and1 ar
    rcases (show ar % 2 = 0 ∨ ar % 2 = 1 by omega) with h | h
    · rw [h] at hb
      by_cases f1 : fu < 0
      · exact torn0_neg w hS hsn hT htn htc hl hb hfu' f1
      · by_cases f2 : 3 ≤ fu
        · exact torn0_big w hS hsn hT htn htc hl hb hfu' f2
        · rcases (show fu = 0 ∨ fu = 1 ∨ fu = 2 by omega) with rfl | rfl | rfl
          · exact torn0_0 w hS hsn hT htn htc hl hb
          · exact torn0_1 w hS hsn hT htn htc hl hb
          · exact torn0_2 w hS hsn hT htn htc hl hb
    · rw [h] at hb
      by_cases f1 : fu < 0
      · exact torn1_neg w hS hsn hT htn htc hl hb hfu' f1
      · by_cases f2 : 3 ≤ fu
        · exact torn1_big w hS hsn hT htn htc hl hb hfu' f2
        · rcases (show fu = 0 ∨ fu = 1 ∨ fu = 2 by omega) with rfl | rfl | rfl
          · exact torn1_0 w hS hsn hT htn htc hl hb
          · exact torn1_1 w hS hsn hT htn htc hl hb
          · exact torn1_2 w hS hsn hT htn htc hl hb
  · exact torn_long w hs47 ht47 (by omega)
end Go.Proofs.Ytaclonopgifgjaa
