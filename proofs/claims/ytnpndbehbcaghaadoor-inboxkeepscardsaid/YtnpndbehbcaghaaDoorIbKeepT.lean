/-
  InboxKeeps: there; the document's MayBe.
-/
import Derived.Test.YtnpndbehbcaghaaDoorIbKeepM
namespace Go.Proofs.YtnpndbehbcaghaaDoor
open Go.RowKit

section
variable {W w : World} {b sb M : Nat} {K R : Int} {es : List Ent} {B n c : Nat} {a : Option Addr} {l : List Bk}
set_option maxRecDepth 100000 in
set_option maxHeartbeats 4000000 in
theorem there_true (hL : Li W w b sb M K R es) (h : KRow w B (.slice a n c) l) (hn6 : n ≤ 1000000)
    (hf : ∀ x ∈ l, x.go = false → KeyS x.ct ∧ ∃ j e, fi x.ct es = some j ∧ es[j]? = some e ∧ dcB e = x.de) (hc : (kp l).length = es.length) :
    Calls Tryd.prog 18 #[.pointer (some ⟨b, 0, none⟩), .slice a n c] w fun r w' => r = .returned (.bool true) ∧ Below w.heap.size w w' := by
  have HH : Hid (Li W w b sb M K R es ∧ KRow w B (.slice a n c) l ∧ l.length = n ∧ (∀ x ∈ l, x.go = false → KeyS x.ct ∧ ∃ j e, fi x.ct es = some j ∧ es[j]? = some e ∧ dcB e = x.de) ∧ (kp l).length = es.length) := ⟨hL, h, (ERow.len h).symm, hf, hc⟩
  clear hL h hf hc
  go_enter Tryd.func18, Tryd.ntmps18
  go_wp2_with fail
  go_loopw [5, 6] (fun t5 t6 wx => ∃ (i m : Nat), i ≤ n ∧ m ≤ n ∧ t6 = .int .i64 i ∧ t5 = .int .i64 m ∧ Hid (m = (kp (l.take i)).length ∧ Below w.heap.size w wx)) (fun _ t6 _ => n - (intOf t6).toNat)
  case atStart => exact ⟨0, 0, Nat.zero_le _, Nat.zero_le _, rfl, rfl, rfl, Below.refl _ _⟩
  case round =>
    obtain ⟨i, m, hi, hm, rfl, rfl, HI⟩ := hrel
    by_cases hlt : i < n
    · have hlt1 : (i : Int) < n := by omega
      obtain ⟨x, hx⟩ : ∃ x, l[i]? = some x := ⟨_, List.getElem?_eq_getElem (by rw [HH.out.2.2.1]; exact hlt)⟩
      obtain ⟨g, rfl, hg, d0, d1, d2⟩ := krow_at (ERow.below HH.out.2.1 HI.out.2) hx
      have HT : Hid (kp (l.take (i + 1)) = kp (l.take i) ++ (if x.go = true then [] else [x])) := by
        unfold Hid kp
        rw [take_snoc hx, List.filter_append]
        congr 1
        cases hgo : x.go <;> simp [hgo]
      cases hgo : x.go with
      | true =>
        rw [hgo] at d2
        have HI2 : Hid (m = (kp (l.take (i + 1))).length ∧ Below w.heap.size w wr) := by
          refine ⟨?_, HI.out.2⟩
          rw [HT.out, hgo, HI.out.1]
          simp
        clear hgo hx hg d0 d1 HT HI
        go_wp2_with fail
        go_roundw
        case rel => exact ⟨i + 1, m, hlt, hm, by go_num, rfl, HI2⟩
        case measure => simp [intOf]; omega
      | false =>
        rw [hgo] at d2
        obtain ⟨hk, j, e, hf1, hf2, hf3⟩ := HH.out.2.2.2.1 x (List.mem_of_getElem? hx) hgo
        have hfd := li_find_yes (HH.out.1.below HI.out.2) hk hf1 hf2
        have hm1 : m + 1 ≤ n := by
          have h1 : (kp (l.take (i + 1))).length ≤ (l.take (i + 1)).length := List.length_filter_le _ _
          rw [HT.out, hgo, List.length_append, List.length_take] at h1
          have h2 := HI.out.1
          simp at h1
          omega
        have q1 : IntKind.i64.wrap ((m : Int) + 1) = (m : Int) + 1 := by rw [IntKind.wrap_i64]; omega
        have HI2 : Hid (m + 1 = (kp (l.take (i + 1))).length) := by
          unfold Hid
          rw [HT.out, hgo, HI.out.1]
          simp
        have hde : (!e.cd.toList.isEmpty) = x.de := hf3
        have HXX : Hid (l[i]? = some x) := hx
        clear hgo hx HT hk hf1 hf2 hf3
        go_wp2_with fail
        refine hfd.mono ?_
        rintro _ w3 ⟨p1, c1, p2, c2, p3, c3, rfl, ho, hb3⟩
        have bv : Below w3.heap.size w3 (w3.alloc (.cells #[.string e.ct, .slice p1 e.tn c1, .int .i64 e.nu, .int .i64 e.tk, .slice p2 e.cn c2, .string e.cd, .slice p3 e.an c3] 32)) := (Below.refl _ _).alloc (Nat.le_refl _) _
        have bx := Box.new w3 #[.string e.ct, .slice p1 e.tn c1, .int .i64 e.nu, .int .i64 e.tk, .slice p2 e.cn c2, .string e.cd, .slice p3 e.an c3] 32
        have HB3 : Hid (Below w.heap.size w w3) := below_then HI.out.2 hb3
        clear hfd ho hb3 d0 d1 d2 HI hg
        go_wp2_with fail
        generalize w3.alloc (.cells #[.string e.ct, .slice p1 e.tn c1, .int .i64 e.nu, .int .i64 e.tk, .slice p2 e.cn c2, .string e.cd, .slice p3 e.an c3] 32) = V at bv bx ⊢
        obtain ⟨xb, hxb⟩ : ∃ xb, w3.heap.size = xb := ⟨_, rfl⟩
        have cx := bx.cell
        rw [hxb] at cx ⊢
        have HBV : Hid (Below w.heap.size w V) := below_then HB3.out bv
        obtain ⟨g', eg, _, _, e1, _⟩ := krow_at (ERow.below HH.out.2.1 HBV.out) HXX.out
        obtain rfl : g = g' := by simpa using eg
        clear hxb bv bx HB3 eg
        cases hcd : e.cd.toList.isEmpty with
        | true =>
          rw [hcd] at hde
          rw [← hde] at e1
          clear hde
          go_quiet (fail)
          go_wp2_with fail
          go_roundw
          case rel => exact ⟨i + 1, m + 1, hlt, hm1, by go_num, by go_num, HI2.out, below_drewN HBV.out _⟩
          case measure => simp [intOf]; omega
        | false =>
          rw [hcd] at hde
          rw [← hde] at e1
          clear hde
          go_quiet (fail)
          go_wp2_with fail
          go_roundw
          case rel => exact ⟨i + 1, m + 1, hlt, hm1, by go_num, by go_num, HI2.out, below_drewN HBV.out _⟩
          case measure => simp [intOf]; omega
    · have hlt1 : ¬ (i : Int) < n := by omega
      have hmm : m = es.length := by
        have := HI.out.1
        rw [List.take_of_length_le (by rw [HH.out.2.2.1]; omega)] at this
        rw [this]
        exact HH.out.2.2.2.2
      have hct := li_count (HH.out.1.below HI.out.2)
      rw [← hmm] at hct
      have HB : Hid (Below w.heap.size w wr) := HI.out.2
      clear hmm HI
      go_wp2_with fail
      refine hct.mono ?_
      rintro _ w3 ⟨rfl, k, rfl⟩
      clear hct
      go_wp2_with fail
      go_ret
      exact ⟨rfl, below_drewN HB.out k⟩
end
set_option maxRecDepth 100000 in
set_option maxHeartbeats 4000000 in
theorem rControl_any (s : ByteArray) (w : World) : Calls Tryd.prog 41 #[.string s] w fun e w' => e = .returned (.bool (ctB s)) ∧ w' = w := by
  by_cases h0 : s.size < 1
  · have e0 : ctB s = false := by unfold ctB; rw [decide_eq_false (by omega)]; rfl
    rw [e0]
    have h2 : (s.size : Int) < 1 := by omega
    go_enter Tryd.func41, Tryd.ntmps41
    go_wp2
    go_ret
    exact ⟨rfl, rfl⟩
  by_cases h18 : 18 < s.size
  · have e0 : ctB s = false := by unfold ctB; rw [decide_eq_false (show ¬ s.size ≤ 18 by omega)]; simp
    rw [e0]
    have h2 : ¬ (s.size : Int) < 1 := by omega
    have h3 : (s.size : Int) > 18 := by omega
    go_enter Tryd.func41, Tryd.ntmps41
    go_wp2
    go_ret
    exact ⟨rfl, rfl⟩
  have h2 : ¬ (s.size : Int) < 1 := by omega
  have h3 : ¬ (s.size : Int) > 18 := by omega
  have HE : Hid (ctB s = s.data.toList.all (fun c => cbB (c.toNat : Int))) := by
    unfold ctB; rw [decide_eq_true (show 1 ≤ s.size by omega), decide_eq_true (show s.size ≤ 18 by omega)]; rfl
  have HL : Hid (s.data.toList.length = s.size) := rfl
  go_enter Tryd.func41, Tryd.ntmps41
  go_wp2_with fail
  go_loopw [3] (fun t wx => ∃ i : Nat, i ≤ s.size ∧ t = .int .i64 i ∧ wx = w ∧ Hid ((s.data.toList.take i).all (fun c => cbB (c.toNat : Int)) = true)) (fun t _ => s.size - (intOf t).toNat)
  case atStart => exact ⟨0, Nat.zero_le _, rfl, rfl, rfl⟩
  case round =>
    obtain ⟨i, hi, rfl, rfl, HA⟩ := hrel
    by_cases hlt : i < s.size
    · have hlt1 : (i : Int) < s.size := by omega
      have hx : s.data.toList[i]? = some s[i] := by rw [Array.getElem?_toList]; exact Array.getElem?_eq_getElem hlt
      have HT : Hid (cbB (s[i].toNat : Int) = true → (s.data.toList.take (i + 1)).all (fun c => cbB (c.toNat : Int)) = true) := fun h => by
        rw [take_snoc hx, List.all_append, HA.out]
        simp [h]
      have HF : Hid (cbB (s[i].toNat : Int) = false → ctB s = false) := fun h => by
        rw [HE.out, List.all_eq_false]
        exact ⟨s[i], List.mem_of_getElem? hx, by rw [h]; decide⟩
      obtain ⟨c, hc⟩ : ∃ c : Int, (s[i].toNat : Int) = c := ⟨_, rfl⟩
      rw [hc] at HT HF
      clear hx
      go_wp2_with fail
      all_goals (try simp only [Bool.not_eq_false', Bool.not_eq_true', decide_eq_true_eq, decide_eq_false_iff_not, bne_eq_false_iff_eq, bne_iff_ne, ne_eq] at *)
      all_goals first
        | (go_ret; refine ⟨ret_bool (HF.out ?_).symm, rfl⟩; unfold cbB; rw [Bool.eq_iff_iff]; simp; try (first | omega | (intros; omega)))
        | (go_roundw
           case rel =>
             refine ⟨i + 1, hlt, by go_num, by trivial, HT.out ?_⟩
             unfold cbB
             rw [Bool.eq_iff_iff]
             simp
             try (first | omega | (intros; omega))
           case measure => (simp [intOf]; try omega))
    · have hlt1 : ¬ (i : Int) < s.size := by omega
      have HH : Hid (ctB s = true) := by
        unfold Hid
        rw [HE.out, ← HA.out, List.take_of_length_le (by rw [HL.out]; omega)]
      go_wp2_with fail
      go_ret
      exact ⟨ret_bool HH.out.symm, rfl⟩
end Go.Proofs.YtnpndbehbcaghaaDoor
