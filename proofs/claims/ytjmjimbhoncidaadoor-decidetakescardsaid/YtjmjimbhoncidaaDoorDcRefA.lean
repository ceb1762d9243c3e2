/-
  The document's calls, whatever comes in.
-/
import Derived.Test.YtjmjimbhoncidaaDoorDcRefHa
import Derived.Test.YtjmjimbhoncidaaDoorDcRefHb
import Derived.Test.YtjmjimbhoncidaaDoorDcRefHc
import Derived.Test.YtjmjimbhoncidaaDoorDcRefHd
import Derived.Test.YtjmjimbhoncidaaDoorDcRefSa
import Derived.Test.YtjmjimbhoncidaaDoorDcRefSb
import Derived.Test.YtjmjimbhoncidaaDoorDcRefSc
import Derived.Test.YtjmjimbhoncidaaDoorDcRefDa
import Derived.Test.YtjmjimbhoncidaaDoorDcRefTa
import Derived.Test.YtjmjimbhoncidaaDoorDcRefTb
import Derived.Test.YtjmjimbhoncidaaDoorDcRefTc
namespace Go.Proofs.YtjmjimbhoncidaaDoor
open Go.RowKit

theorem fit_left {e : Bool} {a p st lf : Int} (h : fitB e a p st lf = true) : 1 ≤ st ∧ st ≤ 6 ∧ 0 ≤ lf ∧ lf ≤ 16 := by
  unfold fitB at h
  rw [Bool.and_eq_true] at h
  exact of_decide_eq_true h.1
theorem beq_t {x y : Int} (h : x = y) : (x == y) = true := by simp [h]
theorem beq_f {x y : Int} (h : ¬ x = y) : (x == y) = false := by simp [h]
theorem rHeard_any (e : Bool) (a p st lf : Int) (s : ByteArray) (number : Bool) (w : World) : Calls Tryd.prog 35 #[.agg #[.bool e, .int .i64 a, .int .i64 p], .agg #[.int .i64 st, .int .i64 lf], .string s, .bool number] w (AnsQ (heardS e a p st lf s number) w) := by
  unfold heardS
  cases q1 : okB e a p with
  | false => rw [if_pos rfl]; exact rHeard_1 e a p st lf s number w q1
  | true =>
  rw [if_neg (by simp)]
  cases q2 : fitB e a p st lf with
  | false => rw [if_pos rfl]; exact rHeard_2 e a p st lf s number w q1 q2
  | true =>
  rw [if_neg (by simp)]
  by_cases h4 : 4 ≤ st
  · rw [if_pos (by simp [h4])]; exact rHeard_3 e a p st lf s number w q1 q2 h4
  cases q3 : sentB e a p s with
  | false => rw [if_pos (by simp)]; exact rHeard_4 e a p st lf s number w q1 q2 h4 q3
  | true =>
  rw [if_neg (by simp [h4])]
  have hl := fit_left q2
  cases g1 : s.toList == [67, 65] with
  | true =>
    rw [if_pos rfl]
    by_cases h1 : st = 1
    · rw [if_pos h1]
      cases q4 : aaB e p with
      | true => rw [if_pos rfl]; exact rHeard_6 e a p st lf s number w q1 q2 h4 q3 g1 (beq_t h1) q4
      | false =>
        rw [if_neg (by simp)]
        by_cases h2 : p = 2
        · rw [if_pos h2]; exact rHeard_7 e a p st lf s number w q1 q2 h4 q3 g1 (beq_t h1) q4 (beq_t h2)
        · rw [if_neg h2]; exact rHeard_8 e a p st lf s number w q1 q2 h4 q3 g1 (beq_t h1) q4 (beq_f h2)
    · rw [if_neg h1]; exact rHeard_5 e a p st lf s number w q1 q2 h4 q3 g1 (beq_f h1)
  | false =>
    rw [if_neg (by simp)]
    cases hn : number with
    | false => rw [if_neg (by simp)]; exact rHeard_12 e a p st lf s false w q1 q2 h4 q3 g1 rfl
    | true =>
      cases g2 : s.toList == [67, 69] with
      | true =>
        rw [if_pos (by simp)]
        cases q5 : caB e a with
        | true =>
          by_cases h1 : st = 1
          · rw [if_neg (by simp [h1])]
            by_cases h3 : 0 < lf
            · rw [if_pos h3]; exact rHeard_10ax e a p st lf s true w q1 q2 h4 q3 rfl g1 g2 q5 (beq_t h1) h3 hl.2.2.2
            · rw [if_neg h3]; exact rHeard_11ax e a p st lf s true w q1 q2 h4 q3 rfl g1 g2 q5 (beq_t h1) h3
          · rw [if_pos (by simp [h1])]; exact rHeard_9a e a p st lf s true w q1 q2 h4 q3 rfl g1 g2 q5 (beq_f h1)
        | false =>
          rw [if_neg (by simp)]
          by_cases h3 : 0 < lf
          · rw [if_pos h3]; exact rHeard_10ay e a p st lf s true w q1 q2 h4 q3 rfl g1 g2 q5 h3 hl.2.2.2
          · rw [if_neg h3]; exact rHeard_11ay e a p st lf s true w q1 q2 h4 q3 rfl g1 g2 q5 h3
      | false =>
        cases g3 : s.toList == [65, 69] with
        | true =>
          rw [if_pos (by simp)]
          cases q5 : caB e a with
          | true =>
            by_cases h1 : st = 1
            · rw [if_neg (by simp [h1])]
              by_cases h3 : 0 < lf
              · rw [if_pos h3]; exact rHeard_10bx e a p st lf s true w q1 q2 h4 q3 rfl g1 g2 g3 q5 (beq_t h1) h3 hl.2.2.2
              · rw [if_neg h3]; exact rHeard_11bx e a p st lf s true w q1 q2 h4 q3 rfl g1 g2 g3 q5 (beq_t h1) h3
            · rw [if_pos (by simp [h1])]; exact rHeard_9b e a p st lf s true w q1 q2 h4 q3 rfl g1 g2 g3 q5 (beq_f h1)
          | false =>
            rw [if_neg (by simp)]
            by_cases h3 : 0 < lf
            · rw [if_pos h3]; exact rHeard_10by e a p st lf s true w q1 q2 h4 q3 rfl g1 g2 g3 q5 h3 hl.2.2.2
            · rw [if_neg h3]; exact rHeard_11by e a p st lf s true w q1 q2 h4 q3 rfl g1 g2 g3 q5 h3
        | false => rw [if_neg (by simp)]; exact rHeard_13 e a p st lf s true w q1 q2 h4 q3 g1 rfl g2 g3
theorem rDue_any (e : Bool) (a p st lf : Int) (w : World) : Calls Tryd.prog 33 #[.agg #[.bool e, .int .i64 a, .int .i64 p], .agg #[.int .i64 st, .int .i64 lf]] w (AnsQ (dueS e a p st lf) w) := by
  unfold dueS
  cases q1 : okB e a p with
  | false => rw [if_pos rfl]; exact rDue_1 e a p st lf w q1
  | true =>
  rw [if_neg (by simp)]
  cases q2 : fitB e a p st lf with
  | false => rw [if_pos rfl]; exact rDue_2 e a p st lf w q1 q2
  | true =>
  rw [if_neg (by simp)]
  have hl := fit_left q2
  by_cases h4 : 4 ≤ st
  · rw [if_pos h4]; exact rDue_3 e a p st lf w q1 q2 h4
  rw [if_neg h4]
  by_cases h1 : st = 3
  · rw [if_pos h1]; exact rDue_4 e a p st lf w q1 q2 h4 (beq_t h1)
  rw [if_neg h1]
  by_cases h3 : 0 < lf
  · rw [if_pos h3]; exact rDue_5 e a p st lf w q1 q2 h4 (beq_f h1) h3 hl.2.2.2
  · rw [if_neg h3]; exact rDue_6 e a p st lf w q1 q2 h4 (beq_f h1) h3
theorem rStart_any (e : Bool) (a p t : Int) (noted : Bool) (w : World) : Calls Tryd.prog 24 #[.agg #[.bool e, .int .i64 a, .int .i64 p], .int .i64 t, .bool noted] w (AnsQ4 (startS e a p t noted) w) := by
  unfold startS
  cases q1 : okB e a p with
  | false => rw [if_pos rfl]; exact rStart_1 e a p t noted w q1
  | true =>
  rw [if_neg (by simp)]
  by_cases t0 : t < 0
  · rw [if_pos (by omega)]; exact rStart_2 e a p t noted w q1 t0
  by_cases t1 : t > 16
  · rw [if_pos (by omega)]; exact rStart_3 e a p t noted w q1 t0 t1
  rw [if_neg (by omega)]
  cases hn : noted with
  | true =>
    cases q2 : caB e a with
    | false => rw [if_pos (by simp)]; exact rStart_4 e a p t true w q1 t0 t1 rfl q2
    | true =>
    rw [if_neg (by simp), if_neg (by simp)]
    cases q3 : aaB e p with
    | true => rw [if_pos rfl]; exact rStart_6n e a p t true w q1 t0 t1 rfl q2 q3
    | false =>
    rw [if_neg (by simp)]
    cases q4 : earB e a p true with
    | true => rw [if_pos rfl]; exact rStart_7n e a p t true w q1 t0 t1 rfl q2 q3 q4
    | false => rw [if_neg (by simp), if_pos rfl]; exact rStart_8n e a p t true w q1 t0 t1 rfl q2 q3 q4
  | false =>
    rw [if_neg (by simp)]
    cases q2 : caB e a with
    | true => rw [if_pos (by simp)]; exact rStart_5 e a p t false w q1 t0 t1 rfl q2
    | false =>
    rw [if_neg (by simp)]
    cases q3 : aaB e p with
    | true => rw [if_pos rfl]; exact rStart_6m e a p t false w q1 t0 t1 rfl q2 q3
    | false =>
    rw [if_neg (by simp)]
    cases q4 : earB e a p false with
    | true => rw [if_pos rfl]; exact rStart_7m e a p t false w q1 t0 t1 rfl q2 q3 q4
    | false => rw [if_neg (by simp), if_neg (by simp)]; exact rStart_8m e a p t false w q1 t0 t1 rfl q2 q3 q4
theorem rTake_any (e : Bool) (a p : Int) (w : World) : Calls Tryd.prog 27 #[.agg #[.bool e, .int .i64 a, .int .i64 p]] w (Ans2Q (takeS e a p) w) := by
  unfold takeS caL
  cases q1 : okB e a p with
  | false => rw [if_pos rfl]; exact rTake_1 e a p w q1
  | true =>
  rw [if_neg (by simp)]
  cases q2 : caB e a with
  | true => rw [if_pos rfl]; exact rTake_2 e a p w q1 q2
  | false => rw [if_neg (by simp)]; exact rTake_3 e a p w q1 q2
theorem rJudge_any (e : Bool) (a p : Int) (d : Bool) (c s : ByteArray) (w : World) : Calls Tryd.prog 29 #[.agg #[.bool e, .int .i64 a, .int .i64 p], .agg #[.bool d, .string c], .string s] w (Ans2Q (judgeS e a p d c s) w) := by
  unfold judgeS
  cases q1 : okB e a p with
  | false => rw [if_pos rfl]; exact rJudge_1 e a p d c s w q1
  | true =>
  rw [if_neg (by simp)]
  cases q3 : keptB d c with
  | false => rw [if_pos (by simp)]; exact rJudge_2 e a p d c s w q1 q3
  | true =>
  cases d with
  | true => rw [if_pos (by simp)]; exact rJudge_3 e a p c s w q1 q3
  | false =>
  rw [if_neg (by simp)]
  cases q4 : verB s with
  | false => rw [if_pos rfl]; exact rJudge_4 e a p c s w q1 q3 q4
  | true =>
  rw [if_neg (by simp)]
  cases q5 : sentB e a p s with
  | false => rw [if_neg (by simp)]; exact rJudge_5 e a p c s w q1 q3 q4 q5
  | true => rw [if_pos rfl]; exact rJudge_6 e a p c s w q1 q3 q4 q5
theorem rCopy_any (e : Bool) (a p : Int) (d : Bool) (c : ByteArray) (w : World) : Calls Tryd.prog 31 #[.agg #[.bool e, .int .i64 a, .int .i64 p], .agg #[.bool d, .string c]] w (CopyQ (copyS e a p d c) w) := by
  unfold copyS caL
  cases q1 : okB e a p with
  | false => rw [if_pos rfl]; exact rCopy_1 e a p d c w q1
  | true =>
  rw [if_neg (by simp)]
  cases q3 : keptB d c with
  | false => rw [if_pos rfl]; exact rCopy_2 e a p d c w q1 q3
  | true =>
  rw [if_neg (by simp)]
  cases q2 : caB e a with
  | true =>
    rw [if_pos rfl]
    cases d with
    | false => rw [if_neg (by simp)]; exact rCopy_3t e a p c w q1 q3 q2
    | true =>
    cases q5 : sentB e a p c with
    | false => rw [if_neg (by simp)]; exact rCopy_4t e a p c w q1 q3 q2 q5
    | true => rw [if_pos (by simp)]; exact rCopy_5t e a p c w q1 q3 q2 q5
  | false =>
    rw [if_neg (by simp)]
    cases d with
    | false => rw [if_neg (by simp)]; exact rCopy_3f e a p c w q1 q3 q2
    | true =>
    cases q5 : sentB e a p c with
    | false => rw [if_neg (by simp)]; exact rCopy_4f e a p c w q1 q3 q2 q5
    | true => rw [if_pos (by simp)]; exact rCopy_5f e a p c w q1 q3 q2 q5
end Go.Proofs.YtjmjimbhoncidaaDoor
