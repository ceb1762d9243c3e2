/-
  The law StampOrder.
-/
import Derived.Test.YtpcdkafjogpdkaaDoorOrderL
import Derived.Test.YtpcdkafjogpdkaaDoorOrderN1
import Derived.Test.YtpcdkafjogpdkaaDoorOrderN2
import Derived.Test.YtpcdkafjogpdkaaDoorOrderN3a
import Derived.Test.YtpcdkafjogpdkaaDoorOrderN3b
import Derived.Test.YtpcdkafjogpdkaaDoorOrderN4
namespace Go.Proofs.YtpcdkafjogpdkaaDoor
open Go.RowKit

theorem order_any (la ya ma da ha ia sa pa ga oa : Int) (za : Bool) (lb yb mb db hb ib sb pb gb ob : Int) (zb : Bool) (lc yc mc dc hc ic sc pc gc oc : Int) (zc : Bool) (w : World) (hP : Pow w) (hM : Months w) : Calls Tryd.prog 7 #[.agg #[.int .i64 la, .int .i64 ya, .int .i64 ma, .int .i64 da, .int .i64 ha, .int .i64 ia, .int .i64 sa, .int .i64 pa, .int .i64 ga, .bool za, .int .i64 oa], .agg #[.int .i64 lb, .int .i64 yb, .int .i64 mb, .int .i64 db, .int .i64 hb, .int .i64 ib, .int .i64 sb, .int .i64 pb, .int .i64 gb, .bool zb, .int .i64 ob], .agg #[.int .i64 lc, .int .i64 yc, .int .i64 mc, .int .i64 dc, .int .i64 hc, .int .i64 ic, .int .i64 sc, .int .i64 pc, .int .i64 gc, .bool zc, .int .i64 oc]] w fun e w' => e = .returned (.bool true) ∧ Below w.heap.size w w' := by
  cases h0 : rightB la ya ma da ha ia sa pa ga oa za with
  | false => exact order_no1 la ya ma da ha ia sa pa ga oa lb yb mb db hb ib sb pb gb ob lc yc mc dc hc ic sc pc gc oc za zb zc w h0 hP hM 
  | true =>
  cases h1 : rightB lb yb mb db hb ib sb pb gb ob zb with
  | false => exact order_no2 la ya ma da ha ia sa pa ga oa lb yb mb db hb ib sb pb gb ob lc yc mc dc hc ic sc pc gc oc za zb zc w h0 h1 hP hM 
  | true =>
  cases h2 : rightB lc yc mc dc hc ic sc pc gc oc zc with
  | false => exact order_no3 (w := w) (h0 := h0) (h1 := h1) (h2 := h2) (hP := hP) (hM := hM) 
  | true =>
  by_cases hne : la = lb
  rotate_left
  · rcases Int.lt_trichotomy (instI la ya ma da ha ia sa pa ga oa) (instI lb yb mb db hb ib sb pb gb ob) with hab | hab | hab
    · rcases Int.lt_or_le (instI lc yc mc dc hc ic sc pc gc oc) (instI lb yb mb db hb ib sb pb gb ob) with hbc | hbc
      · exact order_N1_1 (w := w) (h0 := h0) (h1 := h1) (h2 := h2) (hP := hP) (hM := hM) (hne := hne) (hab := hab) (hbc := hbc)
      · exact order_N1_0 (w := w) (h0 := h0) (h1 := h1) (h2 := h2) (hP := hP) (hM := hM) (hne := hne) (hab := hab) (hbc := hbc)
    · rcases Int.lt_trichotomy (instI lb yb mb db hb ib sb pb gb ob) (instI lc yc mc dc hc ic sc pc gc oc) with hbc | hbc | hbc
      · exact order_N1_2 (w := w) (h0 := h0) (h1 := h1) (h2 := h2) (hP := hP) (hM := hM) (hne := hne) (hab := hab) (hbc := hbc)
      · exact order_N1_3 (w := w) (h0 := h0) (h1 := h1) (h2 := h2) (hP := hP) (hM := hM) (hne := hne) (hab := hab) (hbc := hbc)
      · exact order_N1_4 (w := w) (h0 := h0) (h1 := h1) (h2 := h2) (hP := hP) (hM := hM) (hne := hne) (hab := hab) (hbc := hbc)
    · rcases Int.lt_or_le (instI lb yb mb db hb ib sb pb gb ob) (instI lc yc mc dc hc ic sc pc gc oc) with hbc | hbc
      · exact order_N1_6 (w := w) (h0 := h0) (h1 := h1) (h2 := h2) (hP := hP) (hM := hM) (hne := hne) (hab := hab) (hbc := hbc)
      · exact order_N1_5 (w := w) (h0 := h0) (h1 := h1) (h2 := h2) (hP := hP) (hM := hM) (hne := hne) (hab := hab) (hbc := hbc)
  subst hne
  by_cases hne : ga = gb
  rotate_left
  · rcases Int.lt_trichotomy (instI la ya ma da ha ia sa pa ga oa) (instI la yb mb db hb ib sb pb gb ob) with hab | hab | hab
    · rcases Int.lt_or_le (instI lc yc mc dc hc ic sc pc gc oc) (instI la yb mb db hb ib sb pb gb ob) with hbc | hbc
      · exact order_N2_1 (w := w) (h0 := h0) (h1 := h1) (h2 := h2) (hP := hP) (hM := hM) (hne := hne) (hab := hab) (hbc := hbc)
      · exact order_N2_0 (w := w) (h0 := h0) (h1 := h1) (h2 := h2) (hP := hP) (hM := hM) (hne := hne) (hab := hab) (hbc := hbc)
    · rcases Int.lt_trichotomy (instI la yb mb db hb ib sb pb gb ob) (instI lc yc mc dc hc ic sc pc gc oc) with hbc | hbc | hbc
      · exact order_N2_2 (w := w) (h0 := h0) (h1 := h1) (h2 := h2) (hP := hP) (hM := hM) (hne := hne) (hab := hab) (hbc := hbc)
      · exact order_N2_3 (w := w) (h0 := h0) (h1 := h1) (h2 := h2) (hP := hP) (hM := hM) (hne := hne) (hab := hab) (hbc := hbc)
      · exact order_N2_4 (w := w) (h0 := h0) (h1 := h1) (h2 := h2) (hP := hP) (hM := hM) (hne := hne) (hab := hab) (hbc := hbc)
    · rcases Int.lt_or_le (instI la yb mb db hb ib sb pb gb ob) (instI lc yc mc dc hc ic sc pc gc oc) with hbc | hbc
      · exact order_N2_6 (w := w) (h0 := h0) (h1 := h1) (h2 := h2) (hP := hP) (hM := hM) (hne := hne) (hab := hab) (hbc := hbc)
      · exact order_N2_5 (w := w) (h0 := h0) (h1 := h1) (h2 := h2) (hP := hP) (hM := hM) (hne := hne) (hab := hab) (hbc := hbc)
  subst hne
  by_cases hz : za = zb
  rotate_left
  · cases za <;> cases zb
    · exact absurd rfl hz
    · rcases Int.lt_trichotomy (instI la ya ma da ha ia sa pa ga oa) (instI la yb mb db hb ib sb pb ga ob) with hab | hab | hab
      · rcases Int.lt_or_le (instI lc yc mc dc hc ic sc pc gc oc) (instI la yb mb db hb ib sb pb ga ob) with hbc | hbc
        · exact order_N3b_1 (w := w) (h0 := h0) (h1 := h1) (h2 := h2) (hP := hP) (hM := hM) (hab := hab) (hbc := hbc)
        · exact order_N3b_0 (w := w) (h0 := h0) (h1 := h1) (h2 := h2) (hP := hP) (hM := hM) (hab := hab) (hbc := hbc)
      · rcases Int.lt_trichotomy (instI la yb mb db hb ib sb pb ga ob) (instI lc yc mc dc hc ic sc pc gc oc) with hbc | hbc | hbc
        · exact order_N3b_2 (w := w) (h0 := h0) (h1 := h1) (h2 := h2) (hP := hP) (hM := hM) (hab := hab) (hbc := hbc)
        · exact order_N3b_3 (w := w) (h0 := h0) (h1 := h1) (h2 := h2) (hP := hP) (hM := hM) (hab := hab) (hbc := hbc)
        · exact order_N3b_4 (w := w) (h0 := h0) (h1 := h1) (h2 := h2) (hP := hP) (hM := hM) (hab := hab) (hbc := hbc)
      · rcases Int.lt_or_le (instI la yb mb db hb ib sb pb ga ob) (instI lc yc mc dc hc ic sc pc gc oc) with hbc | hbc
        · exact order_N3b_6 (w := w) (h0 := h0) (h1 := h1) (h2 := h2) (hP := hP) (hM := hM) (hab := hab) (hbc := hbc)
        · exact order_N3b_5 (w := w) (h0 := h0) (h1 := h1) (h2 := h2) (hP := hP) (hM := hM) (hab := hab) (hbc := hbc)
    · rcases Int.lt_trichotomy (instI la ya ma da ha ia sa pa ga oa) (instI la yb mb db hb ib sb pb ga ob) with hab | hab | hab
      · rcases Int.lt_or_le (instI lc yc mc dc hc ic sc pc gc oc) (instI la yb mb db hb ib sb pb ga ob) with hbc | hbc
        · exact order_N3a_1 (w := w) (h0 := h0) (h1 := h1) (h2 := h2) (hP := hP) (hM := hM) (hab := hab) (hbc := hbc)
        · exact order_N3a_0 (w := w) (h0 := h0) (h1 := h1) (h2 := h2) (hP := hP) (hM := hM) (hab := hab) (hbc := hbc)
      · rcases Int.lt_trichotomy (instI la yb mb db hb ib sb pb ga ob) (instI lc yc mc dc hc ic sc pc gc oc) with hbc | hbc | hbc
        · exact order_N3a_2 (w := w) (h0 := h0) (h1 := h1) (h2 := h2) (hP := hP) (hM := hM) (hab := hab) (hbc := hbc)
        · exact order_N3a_3 (w := w) (h0 := h0) (h1 := h1) (h2 := h2) (hP := hP) (hM := hM) (hab := hab) (hbc := hbc)
        · exact order_N3a_4 (w := w) (h0 := h0) (h1 := h1) (h2 := h2) (hP := hP) (hM := hM) (hab := hab) (hbc := hbc)
      · rcases Int.lt_or_le (instI la yb mb db hb ib sb pb ga ob) (instI lc yc mc dc hc ic sc pc gc oc) with hbc | hbc
        · exact order_N3a_6 (w := w) (h0 := h0) (h1 := h1) (h2 := h2) (hP := hP) (hM := hM) (hab := hab) (hbc := hbc)
        · exact order_N3a_5 (w := w) (h0 := h0) (h1 := h1) (h2 := h2) (hP := hP) (hM := hM) (hab := hab) (hbc := hbc)
    · exact absurd rfl hz
  subst hz
  by_cases hne : oa = ob
  rotate_left
  · rcases Int.lt_trichotomy (instI la ya ma da ha ia sa pa ga oa) (instI la yb mb db hb ib sb pb ga ob) with hab | hab | hab
    · rcases Int.lt_or_le (instI lc yc mc dc hc ic sc pc gc oc) (instI la yb mb db hb ib sb pb ga ob) with hbc | hbc
      · exact order_N4_1 (w := w) (h0 := h0) (h1 := h1) (h2 := h2) (hP := hP) (hM := hM) (hne := hne) (hab := hab) (hbc := hbc)
      · exact order_N4_0 (w := w) (h0 := h0) (h1 := h1) (h2 := h2) (hP := hP) (hM := hM) (hne := hne) (hab := hab) (hbc := hbc)
    · rcases Int.lt_trichotomy (instI la yb mb db hb ib sb pb ga ob) (instI lc yc mc dc hc ic sc pc gc oc) with hbc | hbc | hbc
      · exact order_N4_2 (w := w) (h0 := h0) (h1 := h1) (h2 := h2) (hP := hP) (hM := hM) (hne := hne) (hab := hab) (hbc := hbc)
      · exact order_N4_3 (w := w) (h0 := h0) (h1 := h1) (h2 := h2) (hP := hP) (hM := hM) (hne := hne) (hab := hab) (hbc := hbc)
      · exact order_N4_4 (w := w) (h0 := h0) (h1 := h1) (h2 := h2) (hP := hP) (hM := hM) (hne := hne) (hab := hab) (hbc := hbc)
    · rcases Int.lt_or_le (instI la yb mb db hb ib sb pb ga ob) (instI lc yc mc dc hc ic sc pc gc oc) with hbc | hbc
      · exact order_N4_6 (w := w) (h0 := h0) (h1 := h1) (h2 := h2) (hP := hP) (hM := hM) (hne := hne) (hab := hab) (hbc := hbc)
      · exact order_N4_5 (w := w) (h0 := h0) (h1 := h1) (h2 := h2) (hP := hP) (hM := hM) (hne := hne) (hab := hab) (hbc := hbc)
  subst hne
  rcases Int.lt_trichotomy (instI la ya ma da ha ia sa pa ga oa) (instI la yb mb db hb ib sb pb ga oa) with hab | hab | hab
  · rcases Int.lt_or_le (instI lc yc mc dc hc ic sc pc gc oc) (instI la yb mb db hb ib sb pb ga oa) with hbc | hbc
    · exact order_L_1 (w := w) (h0 := h0) (h1 := h1) (h2 := h2) (hP := hP) (hM := hM) (hab := hab) (hbc := hbc)
    · exact order_L_0 (w := w) (h0 := h0) (h1 := h1) (h2 := h2) (hP := hP) (hM := hM) (hab := hab) (hbc := hbc)
  · obtain ⟨rfl, rfl, rfl, rfl, rfl, rfl, rfl⟩ := order_same h0 h1 hab
    rcases Int.lt_trichotomy (instI la ya ma da ha ia sa pa ga oa) (instI lc yc mc dc hc ic sc pc gc oc) with hbc | hbc | hbc
    · exact order_L_2 (w := w) (h0 := h0) (h2 := h2) (hP := hP) (hM := hM) (hbc := hbc)
    · exact order_L_3 (w := w) (h0 := h0) (h2 := h2) (hP := hP) (hM := hM) (hbc := hbc)
    · exact order_L_4 (w := w) (h0 := h0) (h2 := h2) (hP := hP) (hM := hM) (hbc := hbc)
  · rcases Int.lt_or_le (instI la yb mb db hb ib sb pb ga oa) (instI lc yc mc dc hc ic sc pc gc oc) with hbc | hbc
    · exact order_L_6 (w := w) (h0 := h0) (h1 := h1) (h2 := h2) (hP := hP) (hM := hM) (hab := hab) (hbc := hbc)
    · exact order_L_5 (w := w) (h0 := h0) (h1 := h1) (h2 := h2) (hP := hP) (hM := hM) (hab := hab) (hbc := hbc)
end Go.Proofs.YtpcdkafjogpdkaaDoor
