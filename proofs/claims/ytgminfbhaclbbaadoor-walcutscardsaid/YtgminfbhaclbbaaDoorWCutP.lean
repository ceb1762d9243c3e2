/-
  A log of generation 1 with records that wait; which of them a crash leaves; of no program but for the log's bytes.
-/
import Derived.Test.YtgminfbhaclbbaaDoorWOpenG
import Derived.Test.YtgminfbhaclbbaaDoorWTorn
import Derived.Test.YtgminfbhaclbbaaDoorWBegR
namespace Go.Proofs.YtgminfbhaclbbaaDoor
open Go.RowKit Go.BigFrame

theorem recsB_snoc (rs : List (List Int)) (d : List Int) : recsB (rs ++ [d]) = recsB rs ++ recB d := by simp [recsB]
theorem recsB_app (rs qs : List (List Int)) : recsB (rs ++ qs) = recsB rs ++ recsB qs := by simp [recsB]
/-- The disk of a log with these records, none of them synced. -/
def sgC (rs : List (List Int)) (na ns nc : Int) : Sg := ⟨[], headB 1 ++ (recB [] ++ recsB rs), 0, 30, false, -1, na, ns, nc⟩
theorem sgC_new : sgC [] 1 1 2 = sgB := by simp [sgC, sgB, recsB]
theorem sgC_len (rs : List (List Int)) (na ns nc : Int) : (sgC rs na ns nc).x1.length = 30 + sizes rs := by
  show (headB 1 ++ (recB [] ++ recsB rs)).length = _
  rw [List.length_append, List.length_append, headB_len, recB_len, recsB_len, List.length_nil]
  omega
theorem sgC_app {rs : List (List Int)} {d : List Int} {na ns nc : Int} (h : sizes rs + (d.length + 13) ≤ 8388608) : appC (sgC rs na ns nc) 1 (d.length + 13) = 0 ∧ ∃ na', appS (sgC rs na ns nc) 1 (recB d) = sgC (rs ++ [d]) na' ns nc := by
  have hl := sgC_len rs na ns nc
  have hg : (sgC rs na ns nc).goes = true := rfl
  refine ⟨?_, ?_⟩
  · unfold appC
    simp only [if_neg (show ¬ (1 : Int) = 0 by decide), if_true, hg, if_neg (show ¬ 16777216 < (sgC rs na ns nc).x1.length + (d.length + 13) by omega)]
  · refine ⟨oneMore na, ?_⟩
    unfold appS
    simp only [if_neg (show ¬ (1 : Int) = 0 by decide), if_true, hg, if_neg (show ¬ 16777216 < (sgC rs na ns nc).x1.length + (recB d).length by rw [recB_len]; omega)]
    simp [sgC, Sg.wr, leftOn, recsB_snoc, List.append_assoc]
/-- How many of the records a crash leaves that keeps so many bytes. -/
structure CutP (keep : Int) (rs : List (List Int)) (n : Nat) (left : Int) (full : Bool) : Prop where
  l0 : 0 ≤ left
  nl : n ≤ rs.length
  eq : (sizes (rs.take n) : Int) + left = keep
  ft : full = true → n = rs.length
  ff : full = false → ∃ r, rs[n]? = some r ∧ left < (r.length : Int) + 13
theorem sizes_app (rs qs : List (List Int)) : sizes (rs ++ qs) = sizes rs + sizes qs := by simp [sizes]
theorem CutP.start {keep : Int} (h : 0 ≤ keep) : CutP keep [] 0 keep true := ⟨h, Nat.le_refl _, by simp [sizes], fun _ => rfl, fun h => by cases h⟩
theorem CutP.goes {keep left : Int} {rs : List (List Int)} {n : Nat} {d : List Int} (h : CutP keep rs n left true) (hd : (d.length : Int) + 13 ≤ left) : CutP keep (rs ++ [d]) (n + 1) (left - ((d.length : Int) + 13)) true := by
  have hn := h.ft rfl
  have he := h.eq
  rw [hn, List.take_length] at he
  refine ⟨by omega, by simp; omega, ?_, fun _ => by simp [hn], fun h => by cases h⟩
  rw [hn, List.take_of_length_le (by simp), sizes_snoc]
  omega
theorem CutP.stops {keep left : Int} {rs : List (List Int)} {n : Nat} {d : List Int} (h : CutP keep rs n left true) (hd : left < (d.length : Int) + 13) : CutP keep (rs ++ [d]) n left false := by
  have hn := h.ft rfl
  refine ⟨h.l0, by simp; omega, ?_, (fun h => by cases h), fun _ => ⟨d, by rw [hn]; simp, hd⟩⟩
  rw [List.take_append_of_le_length h.nl]
  exact h.eq
theorem CutP.stays {keep left : Int} {rs : List (List Int)} {n : Nat} {d : List Int} (h : CutP keep rs n left false) : CutP keep (rs ++ [d]) n left false := by
  obtain ⟨r, hr, hl⟩ := h.ff rfl
  have hlt : n < rs.length := (List.getElem?_eq_some_iff.1 hr).1
  refine ⟨h.l0, by simp; omega, ?_, (fun h => by cases h), fun _ => ⟨r, by rw [List.getElem?_append_left hlt]; exact hr, hl⟩⟩
  rw [List.take_append_of_le_length h.nl]
  exact h.eq
/-- The bytes that a crash leaves of the log's area. -/
def cutB (rs : List (List Int)) (k z : Nat) : List Int := headB 1 ++ (recB [] ++ ((recsB rs).take k ++ List.replicate z 0))
theorem rc_nil : rcS [] 1 20000 = none := rfl
theorem cut_ps {keep left : Int} {rs : List (List Int)} {n k z : Nat} {full : Bool} (h : CutP keep rs n left full) (hrs : ∀ r ∈ rs, 1 ≤ r.length ∧ r.length ≤ 20000) (hk : (k : Int) = min keep (sizes rs)) (hz : k + z ≤ sizes rs) :
    psS (cutB rs k z) 1 = some (1, [], rs.take n) ∧ (cutB rs k z).length = 30 + k + z ∧ 30 + sizes (rs.take n) ≤ (cutB rs k z).length ∧ ((cutB rs k z).length : Int) - ((30 + sizes (rs.take n) : Nat) : Int) = (if full then 0 else left + z) := by
  have hlen : (cutB rs k z).length = 30 + k + z := by
    unfold cutB
    rw [List.length_append, List.length_append, List.length_append, headB_len, recB_len, List.length_take, recsB_len, List.length_replicate, List.length_nil]
    omega
  have h0 := h.l0
  have he := h.eq
  have hg : ((1 : Nat) : Int) % 2 = 1 := rfl
  have key : ∀ R, (recsB rs).take k ++ List.replicate z (0 : Int) = recsB (rs.take n) ++ R → rcS R 1 20000 = none → psS (cutB rs k z) 1 = some (1, [], rs.take n) := fun R hR hn => by
    unfold cutB
    rw [hR]
    exact ps_recs (g := 1) (sn := []) (by omega) (by omega) (by simp) hg (fun r hr => hrs r (List.mem_of_mem_take hr)) hn
  cases full with
  | true =>
    have hn := h.ft rfl
    rw [hn, List.take_length] at he
    have hks : k = sizes rs := by omega
    have hz0 : z = 0 := by omega
    subst hz0
    refine ⟨key [] ?_ rc_nil, hlen, ?_, ?_⟩
    · rw [hn, List.take_length, hks, List.take_of_length_le (by rw [recsB_len]; exact Nat.le_refl _)]
      rfl
    · rw [hlen, hn, List.take_length]; omega
    · rw [hlen, hn, List.take_length]; simp; omega
  | false =>
    obtain ⟨r, hr, hl⟩ := h.ff rfl
    obtain ⟨hlt, hre⟩ := List.getElem?_eq_some_iff.1 hr
    have hsplit : rs = rs.take n ++ (r :: rs.drop (n + 1)) := by
      rw [← hre, ← List.drop_eq_getElem_cons hlt, List.take_append_drop]
    have hsz : sizes rs = sizes (rs.take n) + ((r.length + 13) + sizes (rs.drop (n + 1))) := by
      have e1 : sizes (r :: rs.drop (n + 1)) = (r.length + 13) + sizes (rs.drop (n + 1)) := by simp [sizes]
      rw [← e1, ← sizes_app, ← hsplit]
    have hkl : k = sizes (rs.take n) + left.toNat := by omega
    refine ⟨key ((recB r).take left.toNat ++ List.replicate z 0) ?_ (rc_torn (hrs r (List.mem_of_getElem? hr)).1 (hrs r (List.mem_of_getElem? hr)).2 (by rw [recB_len]; omega)), hlen, ?_, ?_⟩
    · have e2 : recsB rs = recsB (rs.take n) ++ (recB r ++ recsB (rs.drop (n + 1))) := by
        have e3 : recsB (r :: rs.drop (n + 1)) = recB r ++ recsB (rs.drop (n + 1)) := by simp [recsB]
        rw [← e3, ← recsB_app, ← hsplit]
      have e4 : (recsB rs).take k = recsB (rs.take n) ++ (recB r).take left.toNat := by
        rw [e2, hkl, ← recsB_len (rs.take n), List.take_length_add_append, List.take_append_of_le_length (by rw [recB_len]; omega)]
      rw [e4, List.append_assoc]
    · rw [hlen]; omega
    · rw [hlen]; simp; omega
theorem cutB_rng {rs : List (List Int)} {k z : Nat} (h : ∀ r ∈ rs, Rng r) : Rng (cutB rs k z) := by
  unfold cutB
  refine rng_app (hdR 1 (by omega) (by omega)) (rng_app (rng_rec (fun z hz => by cases hz)) (rng_app ?_ ?_))
  · intro q hq
    have := List.mem_of_mem_take hq
    unfold recsB at this
    obtain ⟨l, hl, hql⟩ := List.mem_flatten.1 this
    obtain ⟨r, hr, rfl⟩ := List.mem_map.1 hl
    exact rng_rec (h r hr) q hql
  · intro q hq
    have := List.eq_of_mem_replicate hq
    omega
/-- The disk behind the crash. -/
theorem crash_sg {rs : List (List Int)} {na ns nc : Int} {k z : Nat} (hk : k ≤ sizes rs) (hz : k + z ≤ sizes rs) : crS (sgC rs na ns nc) k z k z = ⟨[], cutB rs k z, 0, (cutB rs k z).length, false, -1, na, ns, nc⟩ := by
  have hl := sgC_len rs na ns nc
  have e1 : (betw (k : Int) (((sgC rs na ns nc).x1.length - (sgC rs na ns nc).s1 : Nat) : Int)).toNat = k := by
    rw [hl]; show (betw (k : Int) ((30 + sizes rs - 30 : Nat) : Int)).toNat = k
    unfold betw; omega
  have e2 : (betw (z : Int) (((sgC rs na ns nc).x1.length - (sgC rs na ns nc).s1 - k : Nat) : Int)).toNat = z := by
    rw [hl]; show (betw (z : Int) ((30 + sizes rs - 30 - k : Nat) : Int)).toNat = z
    unfold betw; omega
  have e3 : (betw (k : Int) (((sgC rs na ns nc).x0.length - (sgC rs na ns nc).s0 : Nat) : Int)).toNat = 0 := by
    show (betw (k : Int) ((0 - 0 : Nat) : Int)).toNat = 0
    unfold betw; omega
  have e4 : (betw (z : Int) (((sgC rs na ns nc).x0.length - (sgC rs na ns nc).s0 - 0 : Nat) : Int)).toNat = 0 := by
    show (betw (z : Int) ((0 - 0 - 0 : Nat) : Int)).toNat = 0
    unfold betw; omega
  have e5 : torn (sgC rs na ns nc).x1 (sgC rs na ns nc).s1 k z = cutB rs k z := by
    show (headB 1 ++ (recB [] ++ recsB rs)).take (30 + k) ++ List.replicate z 0 = _
    unfold cutB
    rw [show 30 + k = (headB 1).length + ((recB []).length + k) by rw [headB_len, recB_len]; simp; omega, List.take_length_add_append, List.take_length_add_append, List.append_assoc, List.append_assoc]
  unfold crS
  simp only [e1, e2, e3, e4, e5]
  rfl
end Go.Proofs.YtgminfbhaclbbaaDoor
