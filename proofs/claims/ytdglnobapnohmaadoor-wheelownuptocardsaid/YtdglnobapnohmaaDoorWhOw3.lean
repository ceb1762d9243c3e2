/-
  The law's owns, beside the book: Advance.
-/
import Derived.Test.YtdglnobapnohmaaDoorWhOwA
import Derived.Deep.RegionHeld3
namespace Go.Proofs.YtdglnobapnohmaaDoor
open Go.RowKit

set_option maxRecDepth 100000 in
set_option maxHeartbeats 4000000 in
theorem owns_3 {w0 X : World} {W rb now0 : Nat} {S0 : List Tm} {F : Nat → Prop} {kb : Nat} {va0 vm0 : Value} {ls0 : List LsE} (h : OwI w0 X W rb now0 S0 F kb va0 vm0 ls0) (hE : ErrType w0) (hln : ls0.length ≤ 90000000) (ky : Int) (s : ByteArray) (t : Nat) (h1 : now0 ≤ t) (h2 : t ≤ MaxT) :
    Calls Tryd.prog 8 #[.pointer (some ⟨W, 0, none⟩), .pointer (some ⟨rb, 0, none⟩), .agg #[.int .i64 (3), .int .i64 ky, .string s, .int .i64 (t : Int)], .pointer (some ⟨kb, 0, none⟩)] X fun e w' => e = .returned (.bool true) ∧ OwQ w0 X F (BG kb va0 vm0 ls0) W rb kb ls0.length w' := by
  have b1 := (Below.refl X.heap.size X).alloc (Nat.le_refl _) (.cells #[.int .i64 (3), .int .i64 ky, .string s, .int .i64 (t : Int)] 44)
  have co := (Box.new X #[.int .i64 (3), .int .i64 ky, .string s, .int .i64 (t : Int)] 44).cell
  have HV : Hid (AlF w0 X F (BG kb va0 vm0 ls0) W rb kb now0 S0 ls0 (.slice none 0 0) (.slice none 0 0) [] [] F va0 vm0 (X.alloc (.cells #[.int .i64 (3), .int .i64 ky, .string s, .int .i64 (t : Int)] 44)) ∧ ErrType w0 ∧ ls0.length ≤ 90000000 ∧ X.heap.size < (X.alloc (.cells #[.int .i64 (3), .int .i64 ky, .string s, .int .i64 (t : Int)] 44)).heap.size ∧ ¬ F X.heap.size) := by
    refine ⟨AlF.below (X := X) ⟨h, Off.refl _ _, fun _ e => Or.inl e, fun _ e => Or.inl e, Apt.nil _ _ _ _ _ _ _ _, Apt.nil _ _ _ _ _ _ _ _, fun q e => by cases e⟩ b1, hE, hln, by simp, fun e => ?_⟩
    have := (h.p.wh.foot e).2
    omega
  clear h hE hln b1
  have HC : Hid (now0 ≤ t ∧ t ≤ MaxT) := ⟨h1, h2⟩
  clear h1 h2
  go_enter Tryd.func8, Tryd.ntmps8
  go_wp2_with fail
  generalize (X.alloc (.cells #[.int .i64 (3), .int .i64 ky, .string s, .int .i64 (t : Int)] 44)) = V at HV co ⊢
  refine (ow_adv HV.out.1.i.p HC.out.1 HC.out.2 HV.out.2.2.2.2 HV.out.2.2.2.1 co).mono ?_
  rintro _ u1 ⟨a1, n1, c1, rfl, H1, k1⟩
  clear co
  go_wp2_with fail
  refine (ow_radv HV.out.1 H1.out HC.out.1 HC.out.2).mono ?_
  rintro _ u2 ⟨a2, n2, c2, rfl, H2⟩
  have HLn0 : Hid (ls0.length ≤ 90000000) := HV.out.2.2.1
  obtain ⟨S, hS⟩ : ∃ q, S0.filter (past t) = q := ⟨_, rfl⟩
  obtain ⟨xs, hxs⟩ : ∃ q, S0.filter (upto t) = q := ⟨_, rfl⟩
  rw [hS, hxs] at H2
  obtain ⟨now, hnow⟩ : ∃ q : Nat, q = t := ⟨_, rfl⟩
  rw [← hnow] at H2
  clear H1 k1 hS hxs hnow HV HC
  go_wp2_with fail
  refine (isOk u2).mono ?_
  rintro _ u3 ⟨rfl, h3⟩
  subst u3
  go_wp2_with fail
  have HTR : Hid (TRow u2 (kb + 1) (.slice a1 n1 c1) xs) := by obtain ⟨_, _, _, _, _, _, _, _, hx, _⟩ := H2.out.1.look; exact hx
  refine (numbers_any HTR.out (by have := H2.out.2.2; omega)).mono ?_
  rintro _ u4 ⟨na, nn, nc, rfl, hr4, hb4⟩
  have H4 : Hid (Below u2.heap.size u2 u4 ∧ RRow u4 u2.heap.size (.slice na nn nc) xs) := ⟨hb4, hr4⟩
  clear hr4 hb4 HTR
  go_wp2_with fail
  obtain ⟨B5, hB5⟩ := H2.out.2.1
  refine (like_true H4.out.2 (ERow.below hB5 H4.out.1) (by have := H2.out.2.2; omega)).mono ?_
  rintro _ u5 ⟨rfl, q5, hw5⟩
  have HW : Hid (AlI w0 X F (BG kb va0 vm0 ls0) W rb kb now S ls0 (.slice a1 n1 c1) (.slice none 0 0) xs [] u5) := H2.out.1.below (by rw [hw5]; exact below_drewN H4.out.1 q5)
  clear hw5 H4 H2 hB5
  go_wp2_with fail
  refine (ow_take HW.out (by have := HLn0.out; omega)).mono ?_
  rintro _ u6 ⟨rfl, HB0⟩
  obtain ⟨ls, hl0, h0⟩ := HB0.out
  have HZ : Hid (AlI w0 X F (BG kb va0 vm0 ls0) W rb kb now S ls (.slice none 0 0) (.slice none 0 0) [] [] u6) := h0
  have HLn : Hid (ls.length ≤ ls0.length + 2 ∧ ls0.length ≤ 90000000) := ⟨by omega, HLn0.out⟩
  clear hl0 h0 HB0 HW HLn0
  go_wp2_with fail
  refine (ow_all1 HZ.out).mono ?_
  rintro _ v1 ⟨xa, xn, xc, rfl, HA1⟩
  clear HZ
  go_wp2_with fail
  refine (ow_all HA1.out).mono ?_
  rintro _ v2 ⟨ya, yn, yc, rfl, HA2⟩
  clear HA1
  go_wp2_with fail
  obtain ⟨a, n, c, va, vm, hr, hkc, ⟨Lc, La, hva⟩, hx, hy, hS⟩ := HA2.out.look
  subst hva
  have cr := hr.cell
  obtain ⟨M, hM⟩ : ∃ M : Int, M = (now : Int) := ⟨_, rfl⟩
  rw [← hM] at cr
  have hkl : kb < v2.heap.size := cell_lt (hkc 0)
  have HX : Hid (TRow v2 (kb + 1) (.slice ya yn yc) S ∧ TRow v2 (kb + 1) (.slice xa xn xc) S ∧ S.length ≤ 4096 ∧ RWl v2 rb now S a n c ∧ kb < v2.heap.size ∧ (∀ o, v2.cell? ⟨kb, o, none⟩ = (#[.slice La ls.length Lc, vm] : Array Value)[o]?)) := ⟨hy, hx, hS, hr, hkl, hkc⟩
  have HK : Hid (∀ z, Below v2.heap.size v2 z → (∀ o, z.cell? ⟨rb, o, none⟩ = (#[.bool true, .int .i64 M, .slice a n c] : Array Value)[o]?)) := fun z hz => by rw [hM]; exact (hr.below hz).cell
  have HN : Hid (∀ z a1 n1 c1, Below v2.heap.size v2 z → TRow v2 (kb + 1) (.slice a1 n1 c1) S → Calls Tryd.prog 18 #[.slice a1 n1 c1] z fun e w' => ∃ a1 n1 c1, e = .returned (.slice a1 n1 c1) ∧ Hid (Below v2.heap.size v2 w' ∧ ∃ B, RRow w' B (.slice a1 n1 c1) S) ∧ (∀ o, w'.cell? ⟨rb, o, none⟩ = (#[.bool true, .int .i64 M, .slice a n c] : Array Value)[o]?)) := fun z a1 n1 c1 hz ht => (numbers_any (ht.below hz) (by omega)).mono fun e w' ⟨a1, n1, c1, he, h1, hb⟩ => ⟨a1, n1, c1, he, ⟨below_then hz hb, _, h1⟩, HK.out _ (below_then hz hb)⟩
  have HT : Hid (∀ z a1 n1 c1, Below v2.heap.size v2 z → (∃ B, RRow z B (.slice a1 n1 c1) S) → Calls Tryd.prog 17 #[.slice a1 n1 c1, .slice a n c] z fun e w' => e = .returned (.bool true) ∧ Hid (Below v2.heap.size v2 w') ∧ (∀ o, w'.cell? ⟨rb, o, none⟩ = (#[.bool true, .int .i64 M, .slice a n c] : Array Value)[o]?)) := fun z a1 n1 c1 hz ⟨B, ht⟩ => (like_true ht (hr.below hz).row (by omega)).mono fun e w' ⟨he, q, hw⟩ => by
    have hb : Below v2.heap.size v2 w' := by rw [hw]; exact below_drewN hz q
    exact ⟨he, hb, HK.out _ hb⟩
  clear hr hkc hx hy hS hM hkl HK
  go_region_held3 (fun z => (∀ o, z.cell? ⟨rb, o, none⟩ = (#[.bool true, .int .i64 M, .slice a n c] : Array Value)[o]?)) (simp [*]) (first | (go_at_call 18; refine (HN.out _ _ _ _ ?_ ?_).mono ?_; (first | (with_reducible exact H3.out) | (with_reducible exact Below.drew H3.out) | (with_reducible exact Below.refl _ _) | exact Below.drew (Below.refl _ _) | exact below_drewN H3.out _ | exact below_drewN (Below.refl _ _) _); (first | (with_reducible exact HX.out.1) | (with_reducible exact HX.out.2.1)); rintro _ w1 ⟨a1, n1, c1, rfl, H1, s1⟩) | (go_at_call 17; refine (HT.out _ a1 n1 c1 ?_ ?_).mono ?_; (first | (with_reducible exact H1.out.1) | (with_reducible exact Below.drew H1.out.1) | (with_reducible exact Below.refl _ _) | exact Below.drew (Below.refl _ _) | exact below_drewN H1.out.1 _ | exact below_drewN (Below.refl _ _) _); (first | exact H1.out.2 | (obtain ⟨B, hB⟩ := H1.out.2; exact ⟨B, ERow.below hB (Below.drew (Below.refl _ _))⟩)); rintro _ w3 ⟨rfl, H3, s3⟩))
  have HQ : Hid (AlI w0 X F (BG kb va0 vm0 ls0) W rb kb now S ls (.slice xa xn xc) (.slice ya yn yc) S S w3) := HA2.out.below H3.out
  have ck : ∀ o, w3.cell? ⟨kb, o, none⟩ = (#[.slice La ls.length Lc, vm] : Array Value)[o]? := fun o => (H3.out.cell (p := ⟨kb, o, none⟩) HX.out.2.2.2.2.1).trans (HX.out.2.2.2.2.2 o)
  obtain ⟨K, hK⟩ : ∃ q, ls.length = q := ⟨_, rfl⟩
  rw [hK] at ck
  have HLK : Hid (ls.length = K) := hK
  have hKi : (K : Int) ≤ 100000000 := by have := HLn.out; omega
  clear hK HN HT H1 H3 s1 s3 cr HX HA2
  by_cases hK2 : K < 200
  · have hK3 : (K : Int) < 200 := by omega
    go_wp2_with fail
    refine (ow_take HQ.out (by have := HLK.out; omega)).mono ?_
    rintro _ v4 ⟨rfl, HB1⟩
    obtain ⟨ls1, hl1, h1⟩ := HB1.out
    have HB2 : Hid (AlI w0 X F (BG kb va0 vm0 ls0) W rb kb now S ls1 (.slice none 0 0) (.slice ya yn yc) [] S v4) := h1
    have HLm : Hid (ls1.length = K + 2) := by have h := hl1; rw [HLK.out] at h; exact h
    clear hl1 h1 HB1 HQ ck
    go_wp2_with fail
    obtain ⟨a, n, c, va, vm, hr, hkc, ⟨Lc, La, hva⟩, hx, hy, hS⟩ := HB2.out.look
    subst hva
    have cr := hr.cell
    obtain ⟨M, hM⟩ : ∃ M : Int, M = (now : Int) := ⟨_, rfl⟩
    rw [← hM] at cr
    have hkl : kb < v4.heap.size := cell_lt (hkc 0)
    have HX : Hid (TRow v4 (kb + 1) (.slice ya yn yc) S ∧ S.length ≤ 4096 ∧ RWl v4 rb now S a n c ∧ kb < v4.heap.size ∧ (∀ o, v4.cell? ⟨kb, o, none⟩ = (#[.slice La ls1.length Lc, vm] : Array Value)[o]?)) := ⟨hy, hS, hr, hkl, hkc⟩
    have HK : Hid (∀ z, Below v4.heap.size v4 z → (∀ o, z.cell? ⟨rb, o, none⟩ = (#[.bool true, .int .i64 M, .slice a n c] : Array Value)[o]?)) := fun z hz => by rw [hM]; exact (hr.below hz).cell
    have HN : Hid (∀ z a1 n1 c1, Below v4.heap.size v4 z → TRow v4 (kb + 1) (.slice a1 n1 c1) S → Calls Tryd.prog 18 #[.slice a1 n1 c1] z fun e w' => ∃ a1 n1 c1, e = .returned (.slice a1 n1 c1) ∧ Hid (Below v4.heap.size v4 w' ∧ ∃ B, RRow w' B (.slice a1 n1 c1) S) ∧ (∀ o, w'.cell? ⟨rb, o, none⟩ = (#[.bool true, .int .i64 M, .slice a n c] : Array Value)[o]?)) := fun z a1 n1 c1 hz ht => (numbers_any (ht.below hz) (by omega)).mono fun e w' ⟨a1, n1, c1, he, h1, hb⟩ => ⟨a1, n1, c1, he, ⟨below_then hz hb, _, h1⟩, HK.out _ (below_then hz hb)⟩
    have HT : Hid (∀ z a1 n1 c1, Below v4.heap.size v4 z → (∃ B, RRow z B (.slice a1 n1 c1) S) → Calls Tryd.prog 17 #[.slice a1 n1 c1, .slice a n c] z fun e w' => e = .returned (.bool true) ∧ Hid (Below v4.heap.size v4 w') ∧ (∀ o, w'.cell? ⟨rb, o, none⟩ = (#[.bool true, .int .i64 M, .slice a n c] : Array Value)[o]?)) := fun z a1 n1 c1 hz ⟨B, ht⟩ => (like_true ht (hr.below hz).row (by omega)).mono fun e w' ⟨he, q, hw⟩ => by
      have hb : Below v4.heap.size v4 w' := by rw [hw]; exact below_drewN hz q
      exact ⟨he, hb, HK.out _ hb⟩
    clear hr hkc hx hy hS hM hkl HK
    go_region_held3 (fun z => (∀ o, z.cell? ⟨rb, o, none⟩ = (#[.bool true, .int .i64 M, .slice a n c] : Array Value)[o]?)) (simp [*]) (first | (go_at_call 18; refine (HN.out _ _ _ _ ?_ ?_).mono ?_; (first | (with_reducible exact H3.out) | (with_reducible exact Below.drew H3.out) | (with_reducible exact Below.refl _ _) | exact Below.drew (Below.refl _ _) | exact below_drewN H3.out _ | exact below_drewN (Below.refl _ _) _); (first | (with_reducible exact HX.out.1)); rintro _ w1 ⟨a1, n1, c1, rfl, H1, s1⟩) | (go_at_call 17; refine (HT.out _ a1 n1 c1 ?_ ?_).mono ?_; (first | (with_reducible exact H1.out.1) | (with_reducible exact Below.drew H1.out.1) | (with_reducible exact Below.refl _ _) | exact Below.drew (Below.refl _ _) | exact below_drewN H1.out.1 _ | exact below_drewN (Below.refl _ _) _); (first | exact H1.out.2 | (obtain ⟨B, hB⟩ := H1.out.2; exact ⟨B, ERow.below hB (Below.drew (Below.refl _ _))⟩)); rintro _ w3 ⟨rfl, H3, s3⟩))
    have HQ : Hid (AlI w0 X F (BG kb va0 vm0 ls0) W rb kb now S ls1 (.slice none 0 0) (.slice ya yn yc) [] S w3) := HB2.out.below H3.out
    clear HN HT H1 H3 s1 s3 cr HX HB2
    go_wp2_with fail
    refine (ow_takeY HQ.out (by have := HLm.out; omega)).mono ?_
    rintro _ v5 ⟨rfl, HB3⟩
    obtain ⟨ls2, hl2, h2⟩ := HB3.out
    have HB4 : Hid (AlI w0 X F (BG kb va0 vm0 ls0) W rb kb now S ls2 (.slice none 0 0) (.slice none 0 0) [] [] v5) := h2
    have HLo : Hid (ls2.length = K + 4) := by have h := hl2; rw [HLm.out] at h; exact h
    clear hl2 h2 HB3 HQ
    go_wp2_with fail
    refine (ow_still HB4.out (by have := HLo.out; omega)).mono ?_
    rintro _ v6 ⟨rfl, HB5⟩
    go_wp2_with fail
    go_ret
    exact ⟨rfl, HB5.out.fin (by have := HLo.out; have := HLn.out; have := HLK.out; omega)⟩
  · have hK3 : ¬ (K : Int) < 200 := by omega
    go_wp2_with fail
    refine (ow_still HQ.out (by have := HLK.out; omega)).mono ?_
    rintro _ v6 ⟨rfl, HB5⟩
    go_wp2_with fail
    go_ret
    exact ⟨rfl, HB5.out.fin (by have := HLn.out; omega)⟩
end Go.Proofs.YtdglnobapnohmaaDoor
