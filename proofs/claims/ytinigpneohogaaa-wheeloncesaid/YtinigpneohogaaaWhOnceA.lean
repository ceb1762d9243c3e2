/-
  The law WheelOnce: a thousand sets at most.
-/
import Derived.Test.YtinigpneohogaaaWhOnce2
namespace Go.Proofs.Ytinigpneohogaaa
open Go.RowKit

set_option maxRecDepth 100000 in
set_option maxHeartbeats 4000000 in
theorem once_lawA {now : Int} {ao lo : Option Addr} {cap lc : Nat} {ys : List Opv} {zs : List Int} (w : World) (h : Opl w ao ys) (hk : OpsI ys) (hsz : ys.length ≤ 1000) (hz : Intl w lo zs) (hzl : zs.length ≤ maxLen) :
    Calls Try.prog 3 #[.int .i64 now, .slice ao ys.length cap, .slice lo zs.length lc] w fun e w' => e = .returned (.bool true) ∧ Below w.heap.size w w' := by
  obtain ⟨N, hN⟩ : ∃ q, ys.length = q := ⟨_, rfl⟩
  obtain ⟨M, hM⟩ : ∃ q, zs.length = q := ⟨_, rfl⟩
  have HA : Hid (Opl w ao ys ∧ OpsI ys ∧ ys.length = N) := ⟨h, hk, hN⟩
  have HZ : Hid (Intl w lo zs ∧ zs.length = M) := ⟨hz, hM⟩
  rw [hN] at hsz ⊢
  rw [hM] at hzl ⊢
  unfold maxLen at hzl
  have hNi : (N : Int) ≤ 9223372036854775807 := by omega
  have hMi : (M : Int) ≤ 9223372036854775807 := by omega
  clear h hk hN hz hM hzl
  by_cases hn : now < 0 ∨ 1099511627776 < now
  · rcases (by omega : now < 0 ∨ (¬ now < 0 ∧ now > 1099511627776)) with g | ⟨g, g'⟩
    all_goals (
      go_enter Try.func3, Try.ntmps3
      go_wp2_with fail
      refine (new_no w hn).mono ?_
      rintro _ w1 ⟨b, rfl, hb⟩
      go_wp2_with fail
      refine (anchor_true w1).mono ?_
      rintro _ w2 ⟨rfl, b2⟩
      go_wp2_with fail
      go_ret
      exact ⟨rfl, below_then hb b2⟩)
  obtain ⟨now, rfl⟩ : ∃ q : Nat, now = (q : Int) := ⟨now.toNat, by omega⟩
  have hnM : now ≤ MaxT := by unfold MaxT; omega
  have HN : Hid (Calls Try.prog 6 #[.int .i64 (now : Int)] w fun e w' => e = .returned (.tuple #[.pointer (some ⟨w.heap.size + 1 + 1, 0, none⟩), .nilIface]) ∧ Hid (On w (w.heap.size + 1 + 1) now [] (.slice none 0 0) [] w')) :=
    (new_whl w hnM).mono fun e w' ⟨he, F, hW, hb, _⟩ => ⟨he, F, hW, ERow.nil _ _ _ _ _, fun q e => (by cases e), hb⟩
  clear hn
  go_enter Try.func3, Try.ntmps3
  go_wp2_with fail
  refine HN.out.mono ?_
  rintro _ w1 ⟨rfl, H1⟩
  obtain ⟨W, hW⟩ : ∃ q, w.heap.size + 1 + 1 = q := ⟨_, rfl⟩
  rw [hW] at H1 ⊢
  clear HN hW
  go_wp2_with fail
  go_loopw [9, 10, 11, 12] (fun t9 t10 _ _ wx => ∃ (i : Nat) (a1 : Option Addr) (n1 c1 : Nat) (D : List Opv), i ≤ N ∧ i ≤ 1000 ∧ t10 = .int .i64 (i : Int) ∧ t9 = .slice a1 n1 c1 ∧ Hid (On w W now (setsS now [] (ys.take i)) (.slice a1 n1 c1) D wx ∧ Due now D (setsS now [] (ys.take i)) ∧ D.length = n1)) (fun _ t10 _ _ _ => 1000 - (intOf t10).toNat)
  case atStart => exact ⟨0, none, 0, 0, [], Nat.zero_le _, by omega, rfl, rfl, H1.out, ⟨List.Pairwise.nil, List.Perm.refl _, fun y hy => (by cases hy), fun y hy => (by cases hy)⟩, rfl⟩
  case round =>
    obtain ⟨i, a1, n1, c1, D, hiN, hi1, rfl, rfl, HJ⟩ := hrel
    obtain ⟨W1, hW1⟩ : ∃ z : World, z = wr := ⟨wr, rfl⟩
    subst wr
    clear H1
    have hn1 : n1 ≤ 1000 := by
      obtain ⟨_, h2, h3⟩ := HJ.out
      have h4 := h2.pm.length_eq
      rw [List.length_map, h3] at h4
      have h5 := setsS_len now (ys.take i) []
      rw [List.length_take] at h5
      simp only [List.length_nil] at h5
      omega
    by_cases hlt : i < N ∧ i < 1000
    · have g1 : (i : Int) < N := by omega
      have g2 : decide ((i : Int) < N) = true := decide_eq_true g1
      have g3 : (i : Int) < 1000 := by omega
      obtain ⟨y, hy⟩ : ∃ y, ys[i]? = some y := ⟨_, List.getElem?_eq_getElem (by have := HA.out.2.2; omega)⟩
      obtain ⟨b, off, rfl, hb, h0, h1, h2, h3⟩ := HA.out.1 i y hy
      have hky := HA.out.2.1 y (List.mem_of_getElem? hy)
      have hcs : ∀ z, Below w.heap.size w z → z.cell? ⟨b, off + i * 4, none⟩ = some (.int .i64 y.kind) ∧ z.cell? ⟨b, off + i * 4 + 1, none⟩ = some (.int .i64 y.key) ∧ z.cell? ⟨b, off + i * 4 + 2, none⟩ = some (.string y.text) ∧ z.cell? ⟨b, off + i * 4 + 3, none⟩ = some (.int .i64 y.tick) := fun z hz =>
        ⟨(hz.cell (p := ⟨b, off + i * 4, none⟩) hb).trans h0, (hz.cell (p := ⟨b, off + i * 4 + 1, none⟩) hb).trans h1, (hz.cell (p := ⟨b, off + i * 4 + 2, none⟩) hb).trans h2, (hz.cell (p := ⟨b, off + i * 4 + 3, none⟩) hb).trans h3⟩
      have HC : Hid (type_of% hcs) := hcs
      have hstep := setsS_step (now := now) hy
      obtain ⟨S, hS⟩ : ∃ q, setsS now [] (ys.take i) = q := ⟨_, rfl⟩
      rw [hS] at hstep
      have HJ' : Hid (On w W now S (.slice a1 n1 c1) D W1 ∧ Due now D S ∧ D.length = n1) := by rw [← hS]; exact HJ.out
      have hSl : S.length ≤ 1000 := by rw [← HJ'.out.2.1.pm.length_eq, List.length_map, HJ'.out.2.2]; exact hn1
      have c1' := (hcs W1 (by obtain ⟨_, _, _, _, hb⟩ := HJ'.out.1; exact hb)).2.1
      have c3' := (hcs W1 (by obtain ⟨_, _, _, _, hb⟩ := HJ'.out.1; exact hb)).2.2.2
      clear h0 h1 h2 h3 hcs HJ hS
      by_cases hok : okT now y.tick = true
      · have HSet : Hid (∀ z, Below W1.heap.size W1 z → Calls Try.prog 8 #[.pointer (some ⟨W, 0, none⟩), .int .i64 y.key, .int .i64 y.tick] z fun e w' => e = .returned .nilIface ∧ Hid (On w W now (setsS now [] (ys.take (i + 1))) (.slice a1 n1 c1) D w') ∧ w'.cell? ⟨b, off + i * 4 + 1, none⟩ = some (.int .i64 y.key) ∧ w'.cell? ⟨b, off + i * 4 + 3, none⟩ = some (.int .i64 y.tick)) := fun z hz => by
          have hok' := hok
          unfold okT at hok'
          simp only [Bool.and_eq_true, decide_eq_true_eq] at hok'
          obtain ⟨t, ht⟩ : ∃ t : Nat, y.tick = (t : Int) := ⟨y.tick.toNat, by omega⟩
          rw [ht]
          refine ((HJ'.out.1.below hz).set (k := y.key) (t := t) hky.1 (by omega) (by unfold MaxT; omega) (by have := List.length_filter_le (keyNe y.key) S; omega)).mono ?_
          rintro e w' ⟨he, hw'⟩
          have h9 : On w W now (setsS now [] (ys.take (i + 1))) (.slice a1 n1 c1) D w' := by
            rw [hstep]
            unfold setOp
            rw [if_pos hok, ht, Int.toNat_natCast]
            exact hw'
          have hc9 := HC.out w' (by obtain ⟨_, _, _, _, hb⟩ := h9; exact hb)
          rw [ht] at hc9
          exact ⟨he, h9, hc9.2.1, hc9.2.2.2⟩
        have HD : Hid (Due now D S ∧ D.length = n1 ∧ setsS now [] (ys.take (i + 1)) = setS y.key y.tick.toNat S ∧ 0 ≤ y.tick) := by
          have hok' := hok
          unfold okT at hok'
          simp only [Bool.and_eq_true, decide_eq_true_eq] at hok'
          refine ⟨HJ'.out.2.1, HJ'.out.2.2, ?_, by omega⟩
          rw [hstep]
          unfold setOp
          rw [if_pos hok]
        have HK : Hid (KeyI y.key ∧ KeyI y.tick) := hky
        clear hstep hky HJ' hy
        go_wp2_with fail
        go_region_held3 (fun z => z.cell? ⟨b, off + i * 4 + 1, none⟩ = some (.int .i64 y.key) ∧ z.cell? ⟨b, off + i * 4 + 3, none⟩ = some (.int .i64 y.tick)) (simp [*]) (first | (go_at_call 8; refine (HSet.out _ ?_).mono ?_; (first | exact Below.refl _ _ | exact Below.drew (Below.refl _ _) | exact below_drewN (Below.refl _ _) _); rintro _ w5 ⟨rfl, H5, d1, d3⟩))
        go_wp2_with fail
        clear HSet c1' c3'
        go_loopw [11, 12] (fun t11 t12 wx => ∃ (j q : Nat) (at_ : Int), j ≤ n1 ∧ t12 = .int .i64 (j : Int) ∧ t11 = .int .i64 at_ ∧ Hid (AtK D y.key j at_) ∧ wx = w5.drewN q) (fun _ t12 _ => n1 - (intOf t12).toNat)
        case atStart => exact ⟨0, 0, -1, Nat.zero_le _, rfl, rfl, Or.inl ⟨rfl, fun x hx => (by cases hx)⟩, rfl⟩
        case round =>
          obtain ⟨j, q, at_, hj, rfl, rfl, HK', hw⟩ := hrel
          subst wr
          by_cases hjl : j < n1
          · have hj1 : (j : Int) < n1 := by omega
            obtain ⟨x, hx⟩ : ∃ x, D[j]? = some x := ⟨_, List.getElem?_eq_getElem (by have := HD.out.2.1; omega)⟩
            obtain ⟨F, _, hr, _, _⟩ := H5.out
            obtain ⟨g, rfl, hg, hcg⟩ := hr.at_ encO_len hx
            have e1 : w5.cell? ⟨g, j * 4 + 1, none⟩ = some (.int .i64 x.key) := hcg 1 (by omega)
            have HX : Hid (D[j]? = some x) := hx
            clear hcg hx hr
            by_cases hxy : x.key = y.key
            · have HK2 : Hid (AtK D y.key (j + 1) (j : Int)) := AtK.yes HX.out hxy
              go_wp2_with fail
              go_quiet (fail)
              go_wp2_with fail
              go_roundw
              case rel => exact ⟨j + 1, _, (j : Int), hjl, by go_num, rfl, HK2.out, rfl⟩
              case measure => simp [intOf]; omega
            · have HK2 : Hid (AtK D y.key (j + 1) at_) := HK'.out.no HX.out hxy
              go_wp2_with fail
              go_quiet (fail)
              go_wp2_with fail
              go_roundw
              case rel => exact ⟨j + 1, _, at_, hjl, by go_num, rfl, HK2.out, rfl⟩
              case measure => simp [intOf]; omega
          · have hj1 : ¬ (j : Int) < n1 := by omega
            obtain rfl : j = n1 := by omega
            have hb5 : Below w.heap.size w w5 := by obtain ⟨_, _, _, _, hb⟩ := H5.out; exact hb
            obtain ⟨k0, k1, k2, k3⟩ := HC.out w5 hb5
            rcases HK'.out with ⟨ha, hno⟩ | ⟨m, x, ha, hm, hx, hxe⟩
            · subst ha
              rw [List.take_of_length_le (by have := HD.out.2.1; omega)] at hno
              obtain ⟨a2, c2, w6, hap, h6⟩ := (H5.out.below (below_drewN (Below.refl _ _) q)).push y (by have := HD.out.2.1; omega)
              rw [HD.out.2.1] at hap h6
              have HN : Hid (On w W now (setsS now [] (ys.take (i + 1))) (.slice a2 (j + 1) c2) (D ++ [y]) w6 ∧ Due now (D ++ [y]) (setsS now [] (ys.take (i + 1))) ∧ (D ++ [y]).length = j + 1) := ⟨h6, by rw [HD.out.2.2.1]; exact HD.out.1.push hno HD.out.2.2.2 HK.out, by rw [List.length_append, HD.out.2.1]; rfl⟩
              clear h6 hno hb5 HK'
              go_wp2_with (at_builtin; refine wpList_append_run rfl (.tmp 80) (.tmp 85) 22 _ rfl hap ?_)
              go_roundw
              case rel => exact ⟨i + 1, a2, j + 1, c2, D ++ [y], by omega, by omega, by go_num, rfl, HN.out⟩
              case measure => simp [intOf]; omega
            · subst ha
              obtain ⟨F, hWh, hr, hd, hbb⟩ := H5.out
              obtain ⟨g, rfl, hg, hcg⟩ := hr.at_ encO_len hx
              have f3 : w5.cell? ⟨g, m * 4 + 3, none⟩ = some (.int .i64 x.tick) := hcg 3 (by omega)
              have fz : w5.frozen? ⟨g, m * 4 + 3, none⟩ = false := hr.thaw _
              have hp := (H5.out.below (below_drewN (Below.refl _ _) q)).put hx y.tick
              have HN : Hid (On w W now (setsS now [] (ys.take (i + 1))) (.slice (some ⟨g, 0, none⟩) j c1) (D.set m { x with tick := y.tick }) ((w5.drewN q).setCell ⟨g, m * 4 + 3, none⟩ (.int .i64 y.tick)) ∧ Due now (D.set m { x with tick := y.tick }) (setsS now [] (ys.take (i + 1))) ∧ (D.set m { x with tick := y.tick }).length = j) := ⟨hp, by rw [HD.out.2.2.1]; exact HD.out.1.put hx hxe HD.out.2.2.2 HK.out, by rw [List.length_set, HD.out.2.1]⟩
              have m1 : (m : Int) < j := by omega
              have m2 : ¬ (m : Int) < 0 := by omega
              clear hWh hr hd hbb hcg hp hb5 HK' hx hxe
              go_wp2_with fail
              go_roundw
              case rel => exact ⟨i + 1, some ⟨g, 0, none⟩, j, c1, D.set m { x with tick := y.tick }, by omega, by omega, by go_num, rfl, HN.out⟩
              case measure => simp [intOf]; omega
      · have HSet : Hid (∀ z, Below W1.heap.size W1 z → Calls Try.prog 8 #[.pointer (some ⟨W, 0, none⟩), .int .i64 y.key, .int .i64 y.tick] z fun e w' => ∃ bb, e = .returned (.iface 70 (.pointer (some ⟨bb, 0, none⟩))) ∧ Hid (On w W now (setsS now [] (ys.take (i + 1))) (.slice a1 n1 c1) D w') ∧ w'.cell? ⟨b, off + i * 4 + 1, none⟩ = some (.int .i64 y.key) ∧ w'.cell? ⟨b, off + i * 4 + 3, none⟩ = some (.int .i64 y.tick)) := fun z hz => by
          have hO := HJ'.out.1.below hz
          obtain ⟨F, hW, _⟩ := hO
          refine (set_range hW y.key (t := y.tick) ?_).mono ?_
          · have hok' := hok
            unfold okT at hok'
            simp only [Bool.and_eq_true, decide_eq_true_eq] at hok'
            omega
          · rintro e w' ⟨b9, he, _, hw'⟩
            have h9 : On w W now (setsS now [] (ys.take (i + 1))) (.slice a1 n1 c1) D w' := by
              rw [hstep]
              unfold setOp
              rw [if_neg hok, hw']
              exact (HJ'.out.1.below hz).below ((Below.refl _ _).alloc (Nat.le_refl _) _)
            have hc9 := HC.out w' (by obtain ⟨_, _, _, _, hb⟩ := h9; exact hb)
            exact ⟨b9, he, h9, hc9.2.1, hc9.2.2.2⟩
        have HD : Hid (Due now D (setsS now [] (ys.take (i + 1))) ∧ D.length = n1) := by
          refine ⟨?_, HJ'.out.2.2⟩
          rw [hstep]
          unfold setOp
          rw [if_neg hok]
          exact HJ'.out.2.1
        clear hstep hky HJ' hy
        go_wp2_with fail
        go_region_held3 (fun z => z.cell? ⟨b, off + i * 4 + 1, none⟩ = some (.int .i64 y.key) ∧ z.cell? ⟨b, off + i * 4 + 3, none⟩ = some (.int .i64 y.tick)) (simp [*]) (first | (go_at_call 8; refine (HSet.out _ ?_).mono ?_; (first | exact Below.refl _ _ | exact Below.drew (Below.refl _ _) | exact below_drewN (Below.refl _ _) _); rintro _ w5 ⟨bb, rfl, H5, d1, d3⟩))
        go_wp2_with fail
        go_roundw
        case rel => exact ⟨i + 1, a1, n1, c1, D, by omega, by omega, by go_num, rfl, H5.out, HD.out⟩
        case measure => simp [intOf]; omega
    · obtain ⟨S0, hS0⟩ : ∃ z, setsS now [] (ys.take i) = z := ⟨_, rfl⟩
      have HO : Hid (On w W now S0 (.slice a1 n1 c1) D W1 ∧ Due now D S0 ∧ D.length = n1) := by rw [← hS0]; exact HJ.out
      clear hS0 HJ HA
      have g1 : ¬ (i : Int) < N := by omega
      have g2 : decide ((i : Int) < N) = false := decide_eq_false g1
      go_wp2_with fail
      · clear hlt hiN hi1 hNi g1 g2 hsz
        go_loopw [13, 14, 15, 16, 17, 18, 19, 20] (fun t13 t14 _ _ _ _ _ _ wx => ∃ (i c : Nat), i ≤ M ∧ i ≤ 1000 ∧ t14 = .int .i64 (i : Int) ∧ t13 = .int .i64 (c : Int) ∧ Hid (On w W c (S0.filter (past c)) (.slice a1 n1 c1) D wx)) (fun _ t14 _ _ _ _ _ _ _ => 1000 - (intOf t14).toNat)
        case atStart =>
          refine ⟨0, now, Nat.zero_le _, by omega, rfl, rfl, ?_⟩
          have h1 := HO.out.1
          have h2 : S0.filter (past now) = S0 := by
            obtain ⟨_, hWh, _⟩ := h1
            exact List.filter_eq_self.2 fun x hx => decide_eq_true (hWh.held.1.tk x hx).1
          rw [h2]
          exact h1
        case round =>
          obtain ⟨i, c, hiN, hi1, rfl, rfl, HJ⟩ := hrel
          have HD : Hid (Due now D S0 ∧ D.length = n1) := HO.out.2
          clear HO
          obtain ⟨W3, hW3⟩ : ∃ z : World, z = wr := ⟨wr, rfl⟩
          subst wr
          by_cases hlt : i < M ∧ i < 1000
          · have g1 : (i : Int) < M := by omega
            have g2 : decide ((i : Int) < M) = true := decide_eq_true g1
            have g3 : (i : Int) < 1000 := by omega
            obtain ⟨z, hz⟩ : ∃ y, zs[i]? = some y := ⟨_, List.getElem?_eq_getElem (by have := HZ.out.2; omega)⟩
            obtain ⟨b, off, rfl, hb, h0⟩ := HZ.out.1 i z hz
            have HC : Hid (∀ v, Below w.heap.size w v → v.cell? ⟨b, off + i, none⟩ = some (.int .i64 z)) := fun v hv => (hv.cell (p := ⟨b, off + i, none⟩) hb).trans h0
            have e0 := HC.out W3 HJ.out.low
            clear hz h0
            by_cases ht : z < (c : Int) ∨ 1099511627776 < z
            · have HAd : Hid (∀ v, Below W3.heap.size W3 v → Calls Try.prog 9 #[.pointer (some ⟨W, 0, none⟩), .int .i64 z] v fun e w' => ∃ bb, e = .returned (.tuple #[.slice none 0 0, .iface 70 (.pointer (some ⟨bb, 0, none⟩))]) ∧ Hid (On w W c (S0.filter (past c)) (.slice a1 n1 c1) D w') ∧ w'.cell? ⟨b, off + i, none⟩ = some (.int .i64 z)) := fun v hv =>
                ((HJ.out.below hv).range ht).mono fun e w' ⟨bb, he, ho⟩ => ⟨bb, he, ho, HC.out w' ho.low⟩
              go_wp2_with fail
              refine (HAd.out _ (Below.refl _ _)).mono ?_
              rintro _ w5 ⟨bb, rfl, H5, d0⟩
              clear HAd HJ
              rcases (by omega : (¬ z ≥ (c : Int)) ∨ (z ≥ (c : Int) ∧ ¬ z ≤ 1099511627776)) with q1 | ⟨q1, q2⟩
              · have q3 : decide (z ≥ (c : Int)) = false := decide_eq_false q1
                have q4 : decide ((c : Int) ≤ z) = false := decide_eq_false q1
                go_wp2_with fail
                go_roundw
                case rel => exact ⟨i + 1, c, by omega, by omega, by go_num, rfl, H5.out⟩
                case measure => simp [intOf]; omega
              · have q3 : decide (z ≥ (c : Int)) = true := decide_eq_true q1
                have q4 : decide ((c : Int) ≤ z) = true := decide_eq_true q1
                go_wp2_with fail
                go_roundw
                case rel => exact ⟨i + 1, c, by omega, by omega, by go_num, rfl, H5.out⟩
                case measure => simp [intOf]; omega
            · obtain ⟨t, rfl⟩ : ∃ q : Nat, z = (q : Int) := ⟨z.toNat, by omega⟩
              have hct : c ≤ t := by omega
              have htM : t ≤ MaxT := by unfold MaxT; omega
              have HAd : Hid (Calls Try.prog 9 #[.pointer (some ⟨W, 0, none⟩), .int .i64 (t : Int)] W3 fun e w' => ∃ a n c', e = .returned (.tuple #[.slice a n c', .nilIface]) ∧ Hid (TRow w' w.heap.size (.slice a n c') ((S0.filter (past c)).filter (upto t)) ∧ On w W t (S0.filter (past t)) (.slice a1 n1 c1) D w')) := (HJ.out.adv hct htM).mono fun e w' ⟨a, n, c', he, hr, ho⟩ => ⟨a, n, c', he, hr, by rw [past_past _ _ _ hct] at ho; exact ho⟩
              have HXu : Hid (Uniq ((S0.filter (past c)).filter (upto t)) ∧ (D.filter (dueB c t)).length = ((S0.filter (past c)).filter (upto t)).length ∧ ∀ x ∈ (S0.filter (past c)).filter (upto t), ∃ (m : Nat) (y : Opv), D[m]? = some y ∧ y.key = x.1 ∧ y.tick = (x.2 : Int) ∧ (c : Int) < (x.2 : Int) ∧ (x.2 : Int) ≤ (t : Int)) := ⟨((HD.out.1.uq.perm HD.out.1.pm).filter _).filter _, HD.out.1.count c t, fun x hx => HD.out.1.find hx⟩
              generalize (S0.filter (past c)).filter (upto t) = X at HAd HXu
              clear ht HJ hct htM
              go_wp2_with fail
              refine HAd.out.mono ?_
              rintro _ w5 ⟨al, nl, cl, rfl, H5⟩
              have d0 := HC.out w5 H5.out.2.low
              have hnl : nl = X.length := H5.out.1.len
              have hXl : X.length ≤ n1 := by rw [← HXu.out.2.1, ← HD.out.2]; exact List.length_filter_le _ _
              have HXn : Hid (X.length = nl) := hnl.symm
              have hnl1 : nl ≤ 1000 := by omega
              clear HAd e0 hnl hXl
              go_wp2_with fail
              go_loopw [17, 18] (fun t17 t18 wx => ∃ (j q n : Nat), j ≤ n1 ∧ n ≤ j ∧ t18 = .int .i64 (j : Int) ∧ t17 = .int .i64 (n : Int) ∧ Hid (((D.take j).filter (dueB c t)).length = n) ∧ wx = w5.drewN q) (fun _ t18 _ => n1 - (intOf t18).toNat)
              case atStart => exact ⟨0, 0, 0, Nat.zero_le _, Nat.le_refl _, rfl, rfl, rfl, rfl⟩
              case round =>
                obtain ⟨j, q, n, hj, hnj, rfl, rfl, HK, hw⟩ := hrel
                subst wr
                by_cases hjl : j < n1
                · have hj1 : (j : Int) < n1 := by omega
                  obtain ⟨y, hy⟩ : ∃ x, D[j]? = some x := ⟨_, List.getElem?_eq_getElem (by have := HD.out.2; omega)⟩
                  obtain ⟨F, _, hr, _, _⟩ := H5.out.2
                  obtain ⟨g, rfl, hg, hcg⟩ := hr.at_ encO_len hy
                  have f3 : w5.cell? ⟨g, j * 4 + 3, none⟩ = some (.int .i64 y.tick) := hcg 3 (by omega)
                  have hct := count_take (c := c) (t := t) hy
                  rw [HK.out] at hct
                  have HCt : Hid (((D.take (j + 1)).filter (dueB c t)).length = n + (if dueB c t y = true then 1 else 0)) := hct
                  clear hcg hy hr hct
                  by_cases o1 : (c : Int) < y.tick
                  · have o1' : y.tick > (c : Int) := o1
                    have o1'' : decide (y.tick > (c : Int)) = true := decide_eq_true o1
                    have o1t : decide ((c : Int) < y.tick) = true := decide_eq_true o1
                    by_cases o2 : y.tick ≤ (t : Int)
                    · have HN : Hid (((D.take (j + 1)).filter (dueB c t)).length = n + 1) := by
                        have h := HCt.out
                        rw [if_pos (show dueB c t y = true by unfold dueB; rw [o1t, decide_eq_true o2]; rfl)] at h
                        exact h
                      go_wp2_with fail
                      go_quiet (fail)
                      go_wp2_with fail
                      go_roundw
                      case rel => exact ⟨j + 1, _, n + 1, hjl, by omega, by go_num, by go_num, HN.out, rfl⟩
                      case measure => simp [intOf]; omega
                    · have HN : Hid (((D.take (j + 1)).filter (dueB c t)).length = n) := by
                        have h := HCt.out
                        rw [if_neg (show ¬ dueB c t y = true by unfold dueB; rw [decide_eq_false o2, Bool.and_false]; decide)] at h
                        exact h
                      go_wp2_with fail
                      go_quiet (fail)
                      go_wp2_with fail
                      go_roundw
                      case rel => exact ⟨j + 1, _, n, hjl, by omega, by go_num, rfl, HN.out, rfl⟩
                      case measure => simp [intOf]; omega
                  · have o1' : ¬ y.tick > (c : Int) := o1
                    have o1'' : decide (y.tick > (c : Int)) = false := decide_eq_false o1
                    have o1t : decide ((c : Int) < y.tick) = false := decide_eq_false o1
                    have HN : Hid (((D.take (j + 1)).filter (dueB c t)).length = n) := by
                      have h := HCt.out
                      rw [if_neg (show ¬ dueB c t y = true by unfold dueB; rw [o1t, Bool.false_and]; decide)] at h
                      exact h
                    go_wp2_with fail
                    go_quiet (fail)
                    go_wp2_with fail
                    go_roundw
                    case rel => exact ⟨j + 1, _, n, hjl, by omega, by go_num, rfl, HN.out, rfl⟩
                    case measure => simp [intOf]; omega
                · have hj1 : ¬ (j : Int) < n1 := by omega
                  have hnn : n = nl := by
                    rw [← HK.out, List.take_of_length_le (by have := HD.out.2; omega), HXu.out.2.1, HXn.out]
                  subst hnn
                  clear HK hnj
                  go_wp2_with fail
                  go_loopw [19, 20] (fun t19 _ wx => ∃ k : Nat, k ≤ n ∧ t19 = .int .i64 (k : Int) ∧ Hid (Below w5.heap.size w5 wx)) (fun t19 _ _ => n - (intOf t19).toNat)
                  case atStart => exact ⟨0, Nat.zero_le _, rfl, below_drewN (Below.refl _ _) _⟩
                  case round =>
                    obtain ⟨k, hk, rfl, HB⟩ := hrel
                    have lz := HC.out wr (below_then H5.out.2.low HB.out)
                    by_cases hkl : k < n
                    · have hk1 : (k : Int) < n := by omega
                      obtain ⟨⟨xk, xt⟩, hx⟩ : ∃ x, X[k]? = some x := ⟨_, List.getElem?_eq_getElem (by have := HXn.out; omega)⟩
                      have hT := H5.out.1.below HB.out
                      obtain ⟨g, rfl, hg, hcg⟩ := hT.at_ encT_len hx
                      have l0 : wr.cell? ⟨g, k * 2, none⟩ = some (.int .i64 xk) := hcg 0 (by omega)
                      have l1 : wr.cell? ⟨g, k * 2 + 1, none⟩ = some (.int .i64 (xt : Int)) := hcg 1 (by omega)
                      obtain ⟨m, y, hm, hmk, hmt, hm1, hm2⟩ := HXu.out.2.2 (xk, xt) (List.mem_of_getElem? hx)
                      have HAm : Hid (∀ v, Below wr.heap.size wr v → Calls Try.prog 10 #[.slice a1 n1 c1, .agg #[.int .i64 xk, .int .i64 (xt : Int)], .int .i64 (c : Int), .int .i64 (t : Int)] v fun e w' => e = .returned (.bool true) ∧ Hid (Below w5.heap.size w5 w') ∧ w'.cell? ⟨g, k * 2, none⟩ = some (.int .i64 xk) ∧ w'.cell? ⟨g, k * 2 + 1, none⟩ = some (.int .i64 (xt : Int)) ∧ w'.cell? ⟨b, off + i, none⟩ = some (.int .i64 (t : Int))) := fun v hv => by
                        obtain ⟨F, _, hr, _, _⟩ := (H5.out.2.below HB.out).below hv
                        refine (among_true hr (by have := HD.out.2; omega) HD.out.1.dk hm hmk hmt hm1 hm2).mono ?_
                        rintro e w' ⟨he, hb'⟩
                        have hbw := below_then hv hb'
                        have hbb := below_then HB.out hbw
                        exact ⟨he, hbb, (hbw.cell (p := ⟨g, k * 2, none⟩) hg).trans l0, (hbw.cell (p := ⟨g, k * 2 + 1, none⟩) hg).trans l1, HC.out w' (below_then H5.out.2.low hbb)⟩
                      have HX : Hid (X[k]? = some (xk, xt)) := hx
                      clear hm hmk hmt hm1 hm2 hT hcg hx
                      go_wp2_with fail
                      go_region_held3 (fun v => v.cell? ⟨g, k * 2, none⟩ = some (.int .i64 xk) ∧ v.cell? ⟨g, k * 2 + 1, none⟩ = some (.int .i64 (xt : Int)) ∧ v.cell? ⟨b, off + i, none⟩ = some (.int .i64 (t : Int))) (simp [*]) (first | (go_at_call 10; refine (HAm.out _ ?_).mono ?_; (first | exact Below.refl _ _ | exact Below.drew (Below.refl _ _) | exact below_drewN (Below.refl _ _) _); rintro _ w8 ⟨rfl, H8, m0, m1, m2⟩))
                      clear HAm l0 l1 lz HB
                      by_cases hk0 : 0 < k
                      · have hk0' : (k : Int) > 0 := by omega
                        have hk0'' : (0 : Int) < k := by omega
                        have hkd : decide ((k : Int) > 0) = true := decide_eq_true hk0'
                        have hkd' : decide ((0 : Int) < k) = true := decide_eq_true hk0''
                        have hkd'' : decide (0 < k) = true := decide_eq_true hk0
                        obtain ⟨p, hp⟩ : ∃ p : Nat, p = k - 1 := ⟨_, rfl⟩
                        have hp1 : (k : Int) - 1 = (p : Int) := by omega
                        have hp2 : IntKind.i64.wrap ((k : Int) - 1) = (p : Int) := by rw [hp1]; rw [IntKind.wrap_i64]; omega
                        have hp3 : (p : Int) < n := by omega
                        obtain ⟨⟨vk, vt⟩, hv⟩ : ∃ x, X[p]? = some x := ⟨_, List.getElem?_eq_getElem (by have := HXn.out; omega)⟩
                        obtain ⟨g', e', _, hcg⟩ := (H5.out.1.below H8.out).at_ encT_len hv
                        obtain rfl : g = g' := by simpa using e'
                        have r0 : w8.cell? ⟨g, p * 2, none⟩ = some (.int .i64 vk) := hcg 0 (by omega)
                        have hne : ¬ xk = vk := fun e => by
                          obtain ⟨h1, h2⟩ := List.getElem?_eq_some_iff.1 hv
                          obtain ⟨h3, h4⟩ := List.getElem?_eq_some_iff.1 HX.out
                          have := List.pairwise_iff_getElem.1 HXu.out.1 p k h1 h3 (by omega)
                          rw [h2, h4] at this
                          exact this e.symm
                        have hned : decide (xk = vk) = false := decide_eq_false hne
                        clear hcg e' hv hp
                        go_wp2_with fail
                        go_quiet (fail)
                        go_wp2_with fail
                        go_roundw
                        case rel => exact ⟨k + 1, hkl, by go_num, below_drewN H8.out _⟩
                        case measure => simp [intOf]; omega
                      · obtain rfl : k = 0 := by omega
                        go_wp2_with fail
                        go_quiet (fail)
                        go_wp2_with fail
                        go_roundw
                        case rel => exact ⟨0 + 1, hkl, by go_num, below_drewN H8.out _⟩
                        case measure => simp [intOf]; omega
                    · have hk1 : ¬ (k : Int) < n := by omega
                      go_wp2_with fail
                      go_roundw
                      case rel => exact ⟨i + 1, t, by omega, by omega, by go_num, rfl, H5.out.2.below HB.out⟩
                      case measure => simp [intOf]; omega
          · have hx : (¬ (i : Int) < M ∧ decide ((i : Int) < M) = false) ∨ ((i : Int) < M ∧ decide ((i : Int) < M) = true ∧ ¬ (i : Int) < 1000) := by
              by_cases g : (i : Int) < M
              · exact Or.inr ⟨g, decide_eq_true g, by omega⟩
              · exact Or.inl ⟨g, decide_eq_false g⟩
            have HB : Hid (Below w.heap.size w W3) := HJ.out.low
            clear HJ
            rcases hx with ⟨g1, g2⟩ | ⟨g1, g2, g3⟩
            all_goals (
              go_wp2_with fail
              refine (anchor_true W3).mono ?_
              rintro _ w7 ⟨rfl, b7⟩
              go_wp2_with fail
              go_ret
              exact ⟨rfl, below_then HB.out b7⟩)
end Go.Proofs.Ytinigpneohogaaa
