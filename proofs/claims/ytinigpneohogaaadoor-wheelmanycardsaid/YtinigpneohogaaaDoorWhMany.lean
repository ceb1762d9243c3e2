/-
  The law WheelMany.
-/
import Derived.Test.YtinigpneohogaaaDoorWhIs
import Derived.Test.YtinigpneohogaaaDoorWhAnchor
import Derived.Test.YtinigpneohogaaaDoorWhManyS
namespace Go.Proofs.YtinigpneohogaaaDoor
open Go.RowKit

theorem WB.low {w wx : World} {W now : Nat} {S : List Tm} (h : WB w W now S wx) : Below w.heap.size w wx := by obtain ⟨_, _, hb⟩ := h; exact hb
theorem WB.held {w wx : World} {W now : Nat} {S : List Tm} (h : WB w W now S wx) : Held now S := by obtain ⟨_, hW, _⟩ := h; exact hW.held.1
theorem FltAt.cells {w : World} {B b : Nat} {c : Int} (h : FltAt w B b c) : FaultAt w b c := by
  have hc : ∀ o, w.cell? ⟨b, o, none⟩ = (#[Value.string ⟨#[119, 104, 101, 101, 108]⟩, .int .i64 0, .int .i64 c, .nilIface] : Array Value)[o]? := fun o => by
    unfold World.cell?
    rw [h.2]
    rfl
  exact ⟨hc 0, hc 1, hc 2, hc 3⟩
theorem tick_form {i m N : Nat} (hi : i < N) (hN : N ≤ 8192) (hm : m ≤ 1999) : wrap64 (1 + (wrap64 ((i : Int) * (m : Int))).tmod 100000) = (tkM m i : Int) := by
  have hp : (i : Int) * (m : Int) = ((i * m : Nat) : Int) := by rw [Int.natCast_mul]
  have hle : i * m ≤ 8192 * 1999 := Nat.mul_le_mul (by omega) hm
  rw [hp]
  unfold tkM
  generalize i * m = P at hle
  have h1 : wrap64 (P : Int) = (P : Int) := by unfold wrap64; omega
  rw [h1, Int.tmod_eq_emod_of_nonneg (by omega)]
  unfold wrap64
  omega
theorem WB.full {w wx : World} {W : Nat} {S : List Tm} (h : WB w W 0 S wx) {k : Int} {t : Nat} (hky : KeyI k) (h1 : 0 < t) (h2 : t ≤ MaxT) (hno : ∀ x ∈ S, x.1 ≠ k) (hfull : S.length = 4096) :
    Calls Tryd.prog 9 #[.pointer (some ⟨W, 0, none⟩), .int .i64 k, .int .i64 (t : Int)] wx fun e w' => ∃ b, e = .returned (.iface 64 (.pointer (some ⟨b, 0, none⟩))) ∧ Hid (WB w W 0 S w' ∧ FaultAt w' b 7) := by
  obtain ⟨F, hW, hb⟩ := h
  refine (set_full hW hky h1 h2 hno hfull).mono ?_
  rintro e w' ⟨b, he, hf, hb'⟩
  exact ⟨b, he, ⟨F, hW.below hb', below_then hb hb'⟩, hf.cells⟩
set_option maxRecDepth 100000 in
set_option maxHeartbeats 4000000 in
theorem many_law {first n step : Int} (w : World) (hE : ErrType w) :
    Calls Tryd.prog 3 #[.int .i64 first, .int .i64 n, .int .i64 step] w fun e w' => e = .returned (.bool true) ∧ Below w.heap.size w w' := by
  have HE : Hid (ErrType w) := hE
  have HN : Hid (Calls Tryd.prog 6 #[.int .i64 0] w fun e w' => e = .returned (.tuple #[.pointer (some ⟨w.heap.size + 1 + 1, 0, none⟩), .nilIface]) ∧ Hid (WB w (w.heap.size + 1 + 1) 0 [] w')) :=
    (new_whl (now := 0) w (by decide)).mono fun e w' ⟨he, F, hW, hb, _⟩ => ⟨he, F, hW, hb⟩
  clear hE
  by_cases hbad : n < 0 ∨ n > 8192 ∨ first < -1000000 ∨ first > 1000000
  · rcases (by omega : n < 0 ∨ (¬ n < 0 ∧ n > 8192) ∨ (¬ n < 0 ∧ ¬ n > 8192 ∧ first < -1000000) ∨ (¬ n < 0 ∧ ¬ n > 8192 ∧ ¬ first < -1000000 ∧ first > 1000000)) with g | ⟨g, g'⟩ | ⟨g, g', g''⟩ | ⟨g, g', g'', g'''⟩
    all_goals (
      clear hbad
      go_enter Tryd.func3, Tryd.ntmps3
      go_wp2_with fail
      refine HN.out.mono ?_
      rintro _ w1 ⟨rfl, H1⟩
      go_wp2_with fail
      refine (anchor_true w1).mono ?_
      rintro _ w2 ⟨rfl, b2⟩
      go_wp2_with fail
      go_ret
      exact ⟨rfl, below_then H1.out.low b2⟩)
  obtain ⟨N, rfl⟩ : ∃ q : Nat, n = (q : Int) := ⟨n.toNat, by omega⟩
  have g1 : ¬ (N : Int) > 8192 := by omega
  have g2 : ¬ first < -1000000 := by omega
  have g3 : ¬ first > 1000000 := by omega
  have hN : N ≤ 8192 := by omega
  clear hbad
  obtain ⟨m, hm, hm1, hm2⟩ : ∃ m : Nat, step.tmod 1000 + 1000 = (m : Int) ∧ 1 ≤ m ∧ m ≤ 1999 := by
    have h1 : -1000 < step.tmod 1000 := by have := Int.lt_tmod_of_pos step (show (0 : Int) < 1000 by omega); omega
    have h2 : step.tmod 1000 < 1000 := Int.tmod_lt_of_pos step (by omega)
    exact ⟨(step.tmod 1000 + 1000).toNat, by omega, by omega, by omega⟩
  go_enter Tryd.func3, Tryd.ntmps3
  go_wp2_with fail
  refine HN.out.mono ?_
  rintro _ w1 ⟨rfl, H1⟩
  obtain ⟨W, hW⟩ : ∃ q, w.heap.size + 1 + 1 = q := ⟨_, rfl⟩
  rw [hW] at H1 ⊢
  clear HN hW
  go_wp2_with fail
  go_loopw [9, 10, 11, 12] (fun t9 _ _ _ wx => ∃ i : Nat, i ≤ N ∧ t9 = .int .i64 (i : Int) ∧ Hid (WB w W 0 (manyS m first i) wx)) (fun t9 _ _ _ _ => N - (intOf t9).toNat)
  case atStart => exact ⟨0, Nat.zero_le _, rfl, H1.out⟩
  case round =>
    obtain ⟨i, hi, rfl, HJ⟩ := hrel
    clear H1
    by_cases hlt : i < N
    · have hlt1 : (i : Int) < N := by omega
      by_cases h4 : i < 4096
      · have h41 : ¬ (i : Int) ≥ 4096 := by omega
        have HS : Hid (Calls Tryd.prog 9 #[.pointer (some ⟨W, 0, none⟩), .int .i64 (first + (i : Int)), .int .i64 (tkM m i : Int)] wr fun e w' => e = .returned .nilIface ∧ Hid (WB w W 0 (manyS m first (i + 1)) w')) := by
          have h5 := HJ.out.set (k := first + (i : Int)) (t := tkM m i) ⟨by omega, by omega⟩ (tkM_le m i).1 (tkM_le m i).2 (by rw [manyS_ne, manyS_len]; omega)
          have e5 : manyS m first (i + 1) = setS (first + (i : Int)) (tkM m i) (manyS m first i) := by rw [manyS]; exact if_pos h4
          rw [e5]
          exact h5
        go_wp2_with fail
        rw [tick_form hlt hN hm2]
        refine HS.out.mono ?_
        rintro _ w2 ⟨rfl, H2⟩
        clear HS HJ
        go_wp2_with fail
        refine (isOk w2).mono ?_
        rintro _ w3 ⟨rfl, h3⟩
        subst w3
        go_wp2_with fail
        go_roundw
        case rel => exact ⟨i + 1, hlt, by go_num, H2.out⟩
        case measure => simp [intOf]; omega
      · have h41 : (i : Int) ≥ 4096 := by omega
        have HS : Hid (Calls Tryd.prog 9 #[.pointer (some ⟨W, 0, none⟩), .int .i64 (first + (i : Int)), .int .i64 (tkM m i : Int)] wr fun e w' => ∃ b, e = .returned (.iface 64 (.pointer (some ⟨b, 0, none⟩))) ∧ Hid (WB w W 0 (manyS m first (i + 1)) w' ∧ FaultAt w' b 7)) := by
          have h5 := HJ.out.full (k := first + (i : Int)) (t := tkM m i) ⟨by omega, by omega⟩ (tkM_le m i).1 (tkM_le m i).2 (manyS_no m first i) (by rw [manyS_len]; omega)
          have e5 : manyS m first (i + 1) = manyS m first i := by rw [manyS]; exact if_neg h4
          rw [e5]
          exact h5
        go_wp2_with fail
        rw [tick_form hlt hN hm2]
        refine HS.out.mono ?_
        rintro _ w2 ⟨b, rfl, H2⟩
        clear HS HJ
        go_wp2_with fail
        refine (isFault b 7 w2 rfl (errType_below HE.out H2.out.1.low) H2.out.2).mono ?_
        rintro _ w3 ⟨rfl, b3⟩
        have H3 : Hid (WB w W 0 (manyS m first (i + 1)) w3) := by
          obtain ⟨F, hW, hb⟩ := H2.out.1
          exact ⟨F, hW.below b3, below_then hb b3⟩
        clear b3 H2
        go_wp2_with fail
        go_roundw
        case rel => exact ⟨i + 1, hlt, by go_num, H3.out⟩
        case measure => simp [intOf]; omega
    · have hlt1 : ¬ (i : Int) < N := by omega
      obtain rfl : i = N := by omega
      have hag := again_len HJ.out.held
      have HS : Hid (Calls Tryd.prog 9 #[.pointer (some ⟨W, 0, none⟩), .int .i64 first, .int .i64 7] wr fun e w' => e = .returned .nilIface ∧ Hid (WB w W 0 (setS first 7 (manyS m first i)) w')) := HJ.out.set (k := first) (t := 7) ⟨by omega, by omega⟩ (by omega) (by decide) hag.1
      obtain ⟨S, hS⟩ : ∃ z, setS first 7 (manyS m first i) = z := ⟨_, rfl⟩
      rw [hS] at HS hag
      have HL : Hid (S.length = max 1 (min i 4096)) := hag.2
      clear hS hag HJ
      go_wp2_with fail
      refine HS.out.mono ?_
      rintro _ w2 ⟨rfl, H2⟩
      have HAd : Hid (Calls Tryd.prog 10 #[.pointer (some ⟨W, 0, none⟩), .int .i64 1099511627776] w2 fun e w' => ∃ a n c, e = .returned (.tuple #[.slice a n c, .nilIface]) ∧ Hid (TRow w' w.heap.size (.slice a n c) S ∧ WB w W MaxT [] w')) := by
        have h5 := H2.out.adv (t := MaxT) (by decide) (Nat.le_refl _)
        rw [(upto_all H2.out.held).1, (upto_all H2.out.held).2] at h5
        exact h5
      have HSr : Hid (Srt S) := H2.out.held.srt
      clear HS H2
      go_wp2_with fail
      refine HAd.out.mono ?_
      rintro _ w3 ⟨al, nl, cl, rfl, H3⟩
      have hnl : nl = S.length := H3.out.1.len
      rw [HL.out] at hnl
      have HNL : Hid (nl = max 1 (min i 4096) ∧ S.length = nl) := ⟨hnl, by rw [HL.out, hnl]⟩
      have hnl1 : nl ≤ 4096 := by omega
      have HLn : Hid (Calls Tryd.prog 11 #[.pointer (some ⟨W, 0, none⟩)] w3 fun e w' => e = .returned (.int .i64 0) ∧ w' = w3) := by
        obtain ⟨F, hW, _⟩ := H3.out.2
        exact len_any hW
      clear HAd HL
      have hmx : (nl : Int) = max 1 (min (i : Int) 4096) := by omega
      have hnl0 : 1 ≤ nl := by omega
      clear hnl
      go_wp2_with fail
      refine HLn.out.mono ?_
      rintro _ w4 ⟨rfl, h4⟩
      subst w4
      clear hmx HLn
      go_wp2_with fail
      go_loopw [16] (fun t16 wx => ∃ (j q : Nat), 1 ≤ j ∧ j ≤ nl ∧ t16 = .int .i64 (j : Int) ∧ wx = w3.drewN q) (fun t16 _ => nl - (intOf t16).toNat)
      case atStart => exact ⟨1, 0, Nat.le_refl _, hnl0, rfl, rfl⟩
      case round =>
        obtain ⟨j, q, hj0, hj, rfl, hw⟩ := hrel
        subst wr
        by_cases hjl : j < nl
        · have hj1 : (j : Int) < nl := by omega
          obtain ⟨p, hp⟩ : ∃ p : Nat, p = j - 1 := ⟨_, rfl⟩
          have hp1 : (j : Int) - 1 = (p : Int) := by omega
          have hp2 : IntKind.i64.wrap ((j : Int) - 1) = (p : Int) := by rw [hp1]; rw [IntKind.wrap_i64]; omega
          have hp3 : (p : Int) < nl := by omega
          obtain ⟨⟨xk, xt⟩, hx⟩ : ∃ x, S[j]? = some x := ⟨_, List.getElem?_eq_getElem (by have := HNL.out.2; omega)⟩
          obtain ⟨⟨vk, vt⟩, hv⟩ : ∃ x, S[p]? = some x := ⟨_, List.getElem?_eq_getElem (by have := HNL.out.2; omega)⟩
          obtain ⟨g, rfl, hg, hcg⟩ := H3.out.1.at_ encT_len hx
          obtain ⟨g', e', _, hcg'⟩ := H3.out.1.at_ encT_len hv
          obtain rfl : g = g' := by simpa using e'
          have x0 : w3.cell? ⟨g, j * 2, none⟩ = some (.int .i64 xk) := hcg 0 (by omega)
          have x1 : w3.cell? ⟨g, j * 2 + 1, none⟩ = some (.int .i64 (xt : Int)) := hcg 1 (by omega)
          have v0 : w3.cell? ⟨g, p * 2, none⟩ = some (.int .i64 vk) := hcg' 0 (by omega)
          have v1 : w3.cell? ⟨g, p * 2 + 1, none⟩ = some (.int .i64 (vt : Int)) := hcg' 1 (by omega)
          have hlt' : tlt (vk, vt) (xk, xt) := by
            obtain ⟨h1, h2⟩ := List.getElem?_eq_some_iff.1 hv
            obtain ⟨h3, h4⟩ := List.getElem?_eq_some_iff.1 hx
            have := List.pairwise_iff_getElem.1 HSr.out p j h1 h3 (by omega)
            rwa [h2, h4] at this
          unfold tlt at hlt'
          simp only at hlt'
          have hlt2 : (vt : Int) < (xt : Int) ∨ ((vt : Int) = (xt : Int) ∧ vk < xk) := by omega
          obtain ⟨X, hX⟩ : ∃ X : Int, (xt : Int) = X := ⟨_, rfl⟩
          obtain ⟨V, hV⟩ : ∃ X : Int, (vt : Int) = X := ⟨_, rfl⟩
          rw [hX] at x1 hlt2
          rw [hV] at v1 hlt2
          have o1 : ¬ X < V := by omega
          have o1d : decide (X < V) = false := decide_eq_false o1
          clear hlt' hX hV
          clear hcg hcg' e' hx hv hp
          by_cases heq : X = V
          · subst heq
            have o2 : ¬ xk ≤ vk := by omega
            have o2d : decide (xk ≤ vk) = false := decide_eq_false o2
            clear hlt2
            go_wp2_with fail
            go_quiet (fail)
            go_wp2_with fail
            go_roundw
            case rel => exact ⟨j + 1, _, by omega, hjl, by go_num, rfl⟩
            case measure => simp [intOf]; omega
          · have heqd : decide (X = V) = false := decide_eq_false heq
            have heqb : (X == V) = false := by simp [heq]
            clear hlt2
            go_wp2_with fail
            go_quiet (fail)
            go_wp2_with fail
            go_roundw
            case rel => exact ⟨j + 1, _, by omega, hjl, by go_num, rfl⟩
            case measure => simp [intOf]; omega
        · have hj1 : ¬ (j : Int) < nl := by omega
          have HB : Hid (Below w.heap.size w (w3.drewN q)) := below_drewN H3.out.2.low q
          go_wp2_with fail
          refine (anchor_true _).mono ?_
          rintro _ w7 ⟨rfl, b7⟩
          go_wp2_with fail
          go_ret
          exact ⟨rfl, below_then HB.out b7⟩
end Go.Proofs.YtinigpneohogaaaDoor
