/-
  The law WheelOrder.
-/
import Derived.Test.YtinigpneohogaaaWhOnce0
namespace Go.Proofs.Ytinigpneohogaaa
open Go.RowKit

/-- What the law's last line does: the two lists by numbers, likened; the anchor. -/
theorem chain_end {w0 w : World} {B B' n m c d : Nat} {a b : Option Addr} {X : List Tm} (hb : Below w0.heap.size w0 w) (hl : TRow w B (.slice a n c) X) (hm : TRow w B' (.slice b m d) X) (hX : X.length ≤ 1000000) :
    Hid (∀ z, Below w.heap.size w z → Calls Try.prog 13 #[.slice a n c] z fun e w1 => ∃ a1 n1 c1, e = .returned (.slice a1 n1 c1) ∧
      Hid (∀ z, Below w1.heap.size w1 z → Calls Try.prog 13 #[.slice b m d] z fun e w2 => ∃ a2 n2 c2, e = .returned (.slice a2 n2 c2) ∧
        Hid (∀ z, Below w2.heap.size w2 z → Calls Try.prog 12 #[.slice a1 n1 c1, .slice a2 n2 c2] z fun e w3 => e = .returned (.bool true) ∧
          Hid (∀ z, Below w3.heap.size w3 z → Calls Try.prog 7 #[] z fun e w4 => e = .returned (.bool true) ∧ Hid (Below w0.heap.size w0 w4))))) := fun z hz =>
  (numbers_any (hl.below hz) hX).mono fun _ w1 ⟨a1, n1, c1, he, r1, b1⟩ => ⟨a1, n1, c1, he, fun z1 hz1 =>
    (numbers_any (((hm.below hz).below b1).below hz1) hX).mono fun _ w2 ⟨a2, n2, c2, he2, r2, b2⟩ => ⟨a2, n2, c2, he2, fun z2 hz2 =>
      (like_true (((r1.below hz1).below b2).below hz2) (r2.below hz2) hX).mono fun _ w3 ⟨he3, q, h3⟩ => ⟨he3, fun z3 hz3 =>
        (anchor_true z3).mono fun _ w4 ⟨he4, b4⟩ => ⟨he4, by
          have h3' : Below z2.heap.size z2 w3 := by rw [h3]; exact below_drewN (Below.refl _ _) q
          exact below_then (below_then (below_then (below_then (below_then (below_then (below_then (below_then hb hz) b1) hz1) b2) hz2) h3') hz3) b4⟩⟩⟩⟩
set_option maxRecDepth 100000 in
set_option maxHeartbeats 4000000 in
theorem order_law {now to_ : Int} {ao : Option Addr} {cap : Nat} {ys : List Opv} (w : World) (h : Opl w ao ys) (hk : OpsI ys) (hl : ys.length ≤ maxLen) :
    Calls Try.prog 5 #[.int .i64 now, .slice ao ys.length cap, .int .i64 to_] w fun e w' => e = .returned (.bool true) ∧ Below w.heap.size w w' := by
  obtain ⟨N, hN⟩ : ∃ q, ys.length = q := ⟨_, rfl⟩
  have HA : Hid (Opl w ao ys ∧ OpsI ys ∧ ys.length = N) := ⟨h, hk, hN⟩
  rw [hN] at hl ⊢
  unfold maxLen at hl
  have hNi : (N : Int) ≤ 9223372036854775807 := by omega
  clear h hk hN hl
  go_enter Try.func5, Try.ntmps5
  go_wp2_with fail
  go_loopw [7, 8, 9, 10] (fun t7 t8 _ _ wx => ∃ (i : Nat) (a1 : Option Addr) (n1 c1 : Nat), i ≤ N ∧ i ≤ 1000 ∧ t8 = .int .i64 (i : Int) ∧ t7 = .slice a1 n1 c1 ∧ Hid (ORow wx w.heap.size (.slice a1 n1 c1) (onceL (ys.take i)) ∧ Below w.heap.size w wx)) (fun _ t8 _ _ _ => 1000 - (intOf t8).toNat)
  case atStart => exact ⟨0, none, 0, 0, Nat.zero_le _, by omega, rfl, rfl, ERow.nil _ _ _ _ _, Below.refl _ _⟩
  case round =>
    obtain ⟨i, a1, n1, c1, hiN, hi1, rfl, rfl, HJ⟩ := hrel
    obtain ⟨W1, hW1⟩ : ∃ z : World, z = wr := ⟨wr, rfl⟩
    subst wr
    by_cases hlt : i < N ∧ i < 1000
    · have g1 : (i : Int) < N := by omega
      have g2 : decide ((i : Int) < N) = true := decide_eq_true g1
      have g3 : (i : Int) < 1000 := by omega
      obtain ⟨y, hy⟩ : ∃ y, ys[i]? = some y := ⟨_, List.getElem?_eq_getElem (by have := HA.out.2.2; omega)⟩
      obtain ⟨b, off, rfl, hb, h0, h1, h2, h3⟩ := HA.out.1 i y hy
      have HY : Hid (ys[i]? = some y) := hy
      have c0 : W1.cell? ⟨b, off + i * 4, none⟩ = some (.int .i64 y.kind) := (HJ.out.2.cell (p := ⟨b, off + i * 4, none⟩) hb).trans h0
      have c1' : W1.cell? ⟨b, off + i * 4 + 1, none⟩ = some (.int .i64 y.key) := (HJ.out.2.cell (p := ⟨b, off + i * 4 + 1, none⟩) hb).trans h1
      have c2' : W1.cell? ⟨b, off + i * 4 + 2, none⟩ = some (.string y.text) := (HJ.out.2.cell (p := ⟨b, off + i * 4 + 2, none⟩) hb).trans h2
      have c3' : W1.cell? ⟨b, off + i * 4 + 3, none⟩ = some (.int .i64 y.tick) := (HJ.out.2.cell (p := ⟨b, off + i * 4 + 3, none⟩) hb).trans h3
      have hn1 := HJ.out.1.len
      have hon := onceL_len (ys.take i)
      rw [List.length_take] at hon
      have hn1i : (n1 : Int) ≤ 1000 := by omega
      clear h0 h1 h2 h3 hy
      go_wp2_with fail
      go_loopw [9, 10] (fun t9 t10 wx => ∃ (j q : Nat), j ≤ n1 ∧ t10 = .int .i64 (j : Int) ∧ t9 = .bool (hasK y.key ((onceL (ys.take i)).take j)) ∧ wx = W1.drewN q) (fun _ t10 _ => n1 - (intOf t10).toNat)
      case atStart => exact ⟨0, 0, Nat.zero_le _, rfl, rfl, rfl⟩
      case round =>
        obtain ⟨j, q, hj, rfl, rfl, hw⟩ := hrel
        subst wr
        by_cases hjl : j < n1
        · have hj1 : (j : Int) < n1 := by omega
          obtain ⟨x, hx⟩ : ∃ x, (onceL (ys.take i))[j]? = some x := ⟨_, List.getElem?_eq_getElem (by omega)⟩
          obtain ⟨g, rfl, hg, hcg⟩ := HJ.out.1.at_ encO_len hx
          have d1 : W1.cell? ⟨g, j * 4 + 1, none⟩ = some (.int .i64 x.key) := hcg 1 (by omega)
          have hstep := hasK_take (k := y.key) hx
          clear hcg hx hn1 hon
          by_cases hb0 : hasK y.key ((onceL (ys.take i)).take j) = true
          · rw [hb0] at hstep ⊢
            go_wp2_with fail
            go_quiet (fail)
            go_wp2_with fail
            go_roundw
            case rel => exact ⟨j + 1, _, hjl, by go_num, by rw [hstep]; rfl, rfl⟩
            case measure => simp [intOf]; omega
          · have hb1 : hasK y.key ((onceL (ys.take i)).take j) = false := by simpa using hb0
            rw [hb1] at hstep ⊢
            by_cases hxy : x.key = y.key
            · go_wp2_with fail
              go_quiet (fail)
              go_wp2_with fail
              go_roundw
              case rel => exact ⟨j + 1, _, hjl, by go_num, by rw [hstep]; simp [hxy], rfl⟩
              case measure => simp [intOf]; omega
            · go_wp2_with fail
              go_quiet (fail)
              go_wp2_with fail
              go_roundw
              case rel => exact ⟨j + 1, _, hjl, by go_num, by rw [hstep]; simp [hxy], rfl⟩
              case measure => simp [intOf]; omega
        · have hj1 : ¬ (j : Int) < n1 := by omega
          obtain rfl : j = n1 := by omega
          rw [show (onceL (ys.take i)).take j = onceL (ys.take i) from List.take_of_length_le (by omega)]
          have hstep := onceL_step HY.out
          unfold onceStep at hstep
          by_cases hb0 : hasK y.key (onceL (ys.take i)) = true
          · rw [if_pos hb0] at hstep
            rw [hb0]
            go_wp2_with fail
            go_roundw
            case rel => exact ⟨i + 1, a1, j, c1, by omega, by omega, by go_num, rfl, by rw [hstep]; exact ⟨HJ.out.1.off (P := fun _ => False) ((Off.refl _ _).drewN q) (fun _ _ => id), HJ.out.2.trans (below_drewN (Below.refl _ _) q)⟩⟩
            case measure => simp [intOf]; omega
          · have hb1 : hasK y.key (onceL (ys.take i)) = false := by simpa using hb0
            rw [if_neg hb0] at hstep
            rw [hb1]
            have hrow : ORow (W1.drewN q) w.heap.size (.slice a1 j c1) (onceL (ys.take i)) := HJ.out.1.off (P := fun _ => False) ((Off.refl _ _).drewN q) (fun _ _ => id)
            have hbel : Below w.heap.size w (W1.drewN q) := HJ.out.2.trans (below_drewN (Below.refl _ _) q)
            obtain ⟨a2, c2, W2', hap, r1, o1, b1⟩ := run_epush (P := Try.prog) (t := 22) Try.underlying22 celO encO_len encO_one (w := W1.drewN q) hrow y #[.int .i64 y.kind, .int .i64 y.key, .string y.text, .int .i64 y.tick] rfl (by omega) (by omega) hbel.size
            rw [← hn1] at hap r1 b1
            rw [← hstep] at r1
            have HN : Hid (ORow W2' w.heap.size (.slice a2 (j + 1) c2) (onceL (ys.take (i + 1))) ∧ Below w.heap.size w W2') := ⟨r1, hbel.trans (o1.below hbel.size fun q e => (hrow.lt e).1)⟩
            clear hrow hbel r1 o1 b1 hstep hn1 hon HJ HY
            go_wp2_with (at_builtin; refine wpList_append_run rfl (.tmp 52) (.tmp 57) 22 _ rfl hap ?_)
            go_roundw
            case rel => exact ⟨i + 1, a2, j + 1, c2, by omega, by omega, by go_num, rfl, HN.out⟩
            case measure => simp [intOf]; omega
    · obtain ⟨one, hone⟩ : ∃ z, onceL (ys.take i) = z := ⟨_, rfl⟩
      have HO : Hid (ORow W1 w.heap.size (.slice a1 n1 c1) one ∧ Below w.heap.size w W1 ∧ OpsI one ∧ DK one ∧ one.length = n1 ∧ n1 ≤ 1000) := by
        rw [← hone]
        have hl := onceL_len (ys.take i)
        rw [List.length_take] at hl
        exact ⟨HJ.out.1, HJ.out.2, fun y hy => HA.out.2.1 y (List.mem_of_mem_take (onceL_mem hy)), onceL_dk _, HJ.out.1.len.symm, by rw [HJ.out.1.len]; omega⟩
      clear hone HJ HA
      have hn1 : n1 ≤ 1000 := HO.out.2.2.2.2.2
      have hx : (¬ (i : Int) < N ∧ decide ((i : Int) < N) = false) ∨ ((i : Int) < N ∧ decide ((i : Int) < N) = true ∧ ¬ (i : Int) < 1000) := by
        by_cases g : (i : Int) < N
        · exact Or.inr ⟨g, decide_eq_true g, by omega⟩
        · exact Or.inl ⟨g, decide_eq_false g⟩
      rcases hx with ⟨g1, g2⟩ | ⟨g1, g2, g3⟩
      all_goals go_wp2_with fail
      all_goals (
        clear hlt hiN hi1 hNi g1 g2
        go_loopw [11, 12] (fun t11 t12 wx => ∃ (p : Nat) (a2 : Option Addr) (n2 c2 : Nat), p ≤ n1 ∧ t12 = .int .i64 ((p : Int) - 1) ∧ t11 = .slice a2 n2 c2 ∧ Hid (ORow wx W1.heap.size (.slice a2 n2 c2) (one.drop p).reverse ∧ Below W1.heap.size W1 wx)) (fun _ t12 _ => (intOf t12 + 1).toNat)
        case atStart => exact ⟨n1, none, 0, 0, Nat.le_refl _, rfl, rfl, by rw [List.drop_eq_nil_of_le (by have := HO.out.2.2.2.2.1; omega)]; exact ERow.nil _ _ _ _ _, Below.refl _ _⟩
        case round =>
          obtain ⟨p, a2, n2, c2, hp, rfl, rfl, HJ⟩ := hrel
          rcases p with _ | p
          · rw [show (((0 : Nat) : Int) - 1) = -1 from rfl]
            obtain ⟨W2', hW2'⟩ : ∃ z : World, z = wr := ⟨wr, rfl⟩
            subst wr
            have HJ2 : Hid (ORow W2' W1.heap.size (.slice a2 n2 c2) one.reverse ∧ Below W1.heap.size W1 W2') := ⟨by have := HJ.out.1; rwa [List.drop_zero] at this, HJ.out.2⟩
            have HL : Hid (Below w.heap.size w W2') := HO.out.2.1.trans (HJ.out.2.mono HO.out.2.1.size)
            clear HJ hp hn1
            by_cases hn : now < 0 ∨ 1099511627776 < now
            · go_wp2_with fail
              refine (set_nil W2' hn).mono ?_
              rintro _ w1 ⟨rfl, b1⟩
              go_wp2_with fail
              refine (set_nil w1 hn).mono ?_
              rintro _ w2 ⟨rfl, b2⟩
              go_wp2_with fail
              refine (anchor_true w2).mono ?_
              rintro _ w3 ⟨rfl, b3⟩
              go_wp2_with fail
              go_ret
              exact ⟨rfl, below_then HL.out (below_then (below_then b1 b2) b3)⟩
            · obtain ⟨now, rfl⟩ : ∃ q : Nat, now = (q : Int) := ⟨now.toNat, by omega⟩
              have hnM : now ≤ MaxT := by unfold MaxT; omega
              obtain ⟨S, hS⟩ : ∃ z, setsS now [] one = z := ⟨_, rfl⟩
              have hlen : one.length ≤ 1000 := by rw [HO.out.2.2.2.2.1]; exact HO.out.2.2.2.2.2
              have HSl : Hid (S.length ≤ 1000) := (by have := setsS_len now one []; rw [hS] at this; simp only [List.length_nil] at this; omega : S.length ≤ 1000)
              have HS1 : Hid (Calls Try.prog 11 #[.int .i64 (now : Int), .slice a1 n1 c1] W2' fun e w' => e = .returned (.pointer (some ⟨W2'.heap.size + 1 + 1, 0, none⟩)) ∧ WB W2' (W2'.heap.size + 1 + 1) now S w') := by
                have := set_many (cap := c1) W2' hnM (ORow.opl (HO.out.1.below HJ2.out.2)) HO.out.2.2.1 (by unfold maxLen; omega)
                rw [List.take_of_length_le hlen, hS, HO.out.2.2.2.2.1] at this
                exact this
              have HS2 : Hid (∀ w1, Below W2'.heap.size W2' w1 → Calls Try.prog 11 #[.int .i64 (now : Int), .slice a2 n2 c2] w1 fun e w' => e = .returned (.pointer (some ⟨w1.heap.size + 1 + 1, 0, none⟩)) ∧ WB w1 (w1.heap.size + 1 + 1) now S w') := fun w1 hb => by
                have := set_many (cap := c2) w1 hnM (ORow.opl (HJ2.out.1.below hb)) (fun y hy => HO.out.2.2.1 y (List.mem_reverse.1 hy)) (by rw [List.length_reverse]; unfold maxLen; omega)
                rw [List.take_of_length_le (by rw [List.length_reverse]; exact hlen), setsS_rev hnM HO.out.2.2.2.1, hS, ← HJ2.out.1.len] at this
                exact this
              clear hS hlen hn HJ2 HO
              go_wp2_with fail
              refine HS1.out.mono ?_
              rintro _ w1 ⟨rfl, hA1⟩
              obtain ⟨Wa, hWa⟩ : ∃ q, W2'.heap.size + 1 + 1 = q := ⟨_, rfl⟩
              rw [hWa] at hA1 ⊢
              have HA1 : Hid (WB W2' Wa now S w1) := hA1
              have HC2 : Hid (Calls Try.prog 11 #[.int .i64 (now : Int), .slice a2 n2 c2] w1 fun e w' => e = .returned (.pointer (some ⟨w1.heap.size + 1 + 1, 0, none⟩)) ∧ WB w1 (w1.heap.size + 1 + 1) now S w') := HS2.out w1 (by obtain ⟨_, _, hb⟩ := hA1; exact hb)
              clear hA1 HS1 HS2 hWa
              go_wp2_with fail
              refine HC2.out.mono ?_
              rintro _ w2 ⟨rfl, hB2⟩
              obtain ⟨Wb, hWb⟩ : ∃ q, w1.heap.size + 1 + 1 = q := ⟨_, rfl⟩
              rw [hWb] at hB2 ⊢
              obtain ⟨Fa, Fb, h2⟩ := w2_start HA1.out hB2
              have H2 : Hid (W2 W2' Wa now S Wb now S Fa Fb w2) := h2
              clear hB2 HA1 HC2 hWb h2
              have HQ : S.length ≤ 1000000 := by have := HSl.out; omega
              go_wp2_with fail
              refine (alls_ok H2.out.a).mono ?_
              rintro _ w11 ⟨a11, n11, c11, rfl, r11, b11⟩
              have H11 : Hid (W2 W2' Wa now S Wb now S Fa Fb w11 ∧ TRow w11 w2.heap.size (.slice a11 n11 c11) S) := ⟨H2.out.below b11, r11⟩
              clear r11 b11 H2
              go_wp2_with fail
              refine (numbers_any H11.out.2 HQ).mono ?_
              rintro _ w12 ⟨a12, n12, c12, rfl, r12, b12⟩
              have H12 : Hid (W2 W2' Wa now S Wb now S Fa Fb w12 ∧ RRow w12 w11.heap.size (.slice a12 n12 c12) S) := ⟨H11.out.1.below b12, r12⟩
              clear r12 b12 H11
              go_wp2_with fail
              refine (alls_ok H12.out.1.b).mono ?_
              rintro _ w13 ⟨a13, n13, c13, rfl, r13, b13⟩
              have H13 : Hid (W2 W2' Wa now S Wb now S Fa Fb w13 ∧ RRow w13 w11.heap.size (.slice a12 n12 c12) S ∧ TRow w13 w12.heap.size (.slice a13 n13 c13) S) := ⟨H12.out.1.below b13, H12.out.2.below b13, r13⟩
              clear r13 b13 H12
              go_wp2_with fail
              refine (numbers_any H13.out.2.2 HQ).mono ?_
              rintro _ w14 ⟨a14, n14, c14, rfl, r14, b14⟩
              have H14 : Hid (W2 W2' Wa now S Wb now S Fa Fb w14 ∧ RRow w14 w11.heap.size (.slice a12 n12 c12) S ∧ RRow w14 w13.heap.size (.slice a14 n14 c14) S) := ⟨H13.out.1.below b14, H13.out.2.1.below b14, r14⟩
              clear r14 b14 H13
              go_wp2_with fail
              refine (like_true H14.out.2.1 H14.out.2.2 HQ).mono ?_
              rintro _ w15 ⟨rfl, q15, h15⟩
              have b15 : Below w14.heap.size w14 w15 := by rw [h15]; exact below_drewN (Below.refl _ _) q15
              have H15 : Hid (W2 W2' Wa now S Wb now S Fa Fb w15) := H14.out.1.below b15
              clear h15 b15 H14
              have HNa := len_any H15.out.a
              have HNb := len_any H15.out.b
              go_wp2_with (first | (go_at_call 16; (first | (with_reducible refine HNa.mono ?_) | (with_reducible refine HNb.mono ?_)); rintro _ w99 ⟨rfl, h99⟩; subst w99))
              clear HNa HNb
              by_cases ht : to_ < (now : Int) ∨ 1099511627776 < to_
              · refine (adv_range H15.out.a ht).mono ?_
                rintro _ w16 ⟨b16, rfl, _, h16⟩
                have H16 : Hid (W2 W2' Wa now S Wb now S Fa Fb w16) := H15.out.below (by rw [h16]; exact (Below.refl _ _).alloc (Nat.le_refl _) _)
                clear h16 H15
                go_wp2_with fail
                refine (adv_range H16.out.b ht).mono ?_
                rintro _ w17 ⟨b17, rfl, _, h17⟩
                have H17 : Hid (W2 W2' Wa now S Wb now S Fa Fb w17) := H16.out.below (by rw [h17]; exact (Below.refl _ _).alloc (Nat.le_refl _) _)
                have HE := chain_end H17.out.l (B := 0) (B' := 0) (X := []) (a := none) (b := none) (n := 0) (m := 0) (c := 0) (d := 0) (ERow.nil _ _ _ _ _) (ERow.nil _ _ _ _ _) (by simp)
                clear h17 H16 H17
                go_wp2_with fail
                go_region_held3 (fun _ => True) (simp) (first | (go_at_call 13; refine (HE.out _ ?_).mono ?_; (first | exact Below.refl _ _ | exact Below.drew (Below.refl _ _) | exact below_drewN (Below.refl _ _) _); rintro _ w18 ⟨a18, n18, c18, rfl, HE2⟩; clear HE) | (go_at_call 13; refine (HE2.out _ ?_).mono ?_; (first | exact Below.refl _ _ | exact Below.drew (Below.refl _ _) | exact below_drewN (Below.refl _ _) _); rintro _ w19 ⟨a19, n19, c19, rfl, HE3⟩; clear HE2) | (go_at_call 12; refine (HE3.out _ ?_).mono ?_; (first | exact Below.refl _ _ | exact Below.drew (Below.refl _ _) | exact below_drewN (Below.refl _ _) _); rintro _ w20 ⟨rfl, HE4⟩; clear HE3) | (go_at_call 7; refine (HE4.out _ ?_).mono ?_; (first | exact Below.refl _ _ | exact Below.drew (Below.refl _ _) | exact below_drewN (Below.refl _ _) _); rintro _ w21 ⟨rfl, HE5⟩; clear HE4))
                go_wp2_with fail
                go_ret
                exact ⟨rfl, below_then HL.out HE5.out⟩
              · obtain ⟨to_, rfl⟩ : ∃ q : Nat, to_ = (q : Int) := ⟨to_.toNat, by omega⟩
                have htM : to_ ≤ MaxT := by unfold MaxT; omega
                have htn : now ≤ to_ := by omega
                clear ht
                have hq1 : (S.filter (upto to_)).length ≤ 1000000 := by have := List.length_filter_le (upto to_) S; omega
                refine (w2_adv H15.out htn htM).mono ?_
                rintro _ w16 ⟨al, nl, cl, Fa3, rfl, h3, hl3, _⟩
                have H16 : Hid (W2 W2' Wa to_ (S.filter (past to_)) Wb now S Fa3 Fb w16 ∧ Bes W2' Fa3 Fb (.slice al nl cl) (S.filter (upto to_)) w16) := ⟨h3, hl3⟩
                clear h3 hl3 H15
                go_wp2_with fail
                refine (w2_adv H16.out.1.swap htn htM).mono ?_
                rintro _ w17 ⟨am, nm, cm, Fb4, rfl, h4, hm4, k4⟩
                have H17 : Hid (Below W2'.heap.size W2' w17 ∧ TRow w17 W2'.heap.size (.slice al nl cl) (S.filter (upto to_)) ∧ TRow w17 W2'.heap.size (.slice am nm cm) (S.filter (upto to_))) := ⟨h4.l, (k4 _ _ H16.out.2.swap).1, hm4.1⟩
                have HE := chain_end H17.out.1 H17.out.2.1 H17.out.2.2 hq1
                clear h4 hm4 k4 H16 H17
                go_wp2_with fail
                go_region_held3 (fun _ => True) (simp) (first | (go_at_call 13; refine (HE.out _ ?_).mono ?_; (first | exact Below.refl _ _ | exact Below.drew (Below.refl _ _) | exact below_drewN (Below.refl _ _) _); rintro _ w18 ⟨a18, n18, c18, rfl, HE2⟩; clear HE) | (go_at_call 13; refine (HE2.out _ ?_).mono ?_; (first | exact Below.refl _ _ | exact Below.drew (Below.refl _ _) | exact below_drewN (Below.refl _ _) _); rintro _ w19 ⟨a19, n19, c19, rfl, HE3⟩; clear HE2) | (go_at_call 12; refine (HE3.out _ ?_).mono ?_; (first | exact Below.refl _ _ | exact Below.drew (Below.refl _ _) | exact below_drewN (Below.refl _ _) _); rintro _ w20 ⟨rfl, HE4⟩; clear HE3) | (go_at_call 7; refine (HE4.out _ ?_).mono ?_; (first | exact Below.refl _ _ | exact Below.drew (Below.refl _ _) | exact below_drewN (Below.refl _ _) _); rintro _ w21 ⟨rfl, HE5⟩; clear HE4))
                go_wp2_with fail
                go_ret
                exact ⟨rfl, below_then HL.out HE5.out⟩
          · have hz : ((p + 1 : Nat) : Int) - 1 = (p : Int) := by omega
            rw [hz]
            obtain ⟨y, hy⟩ : ∃ y, one[p]? = some y := ⟨_, List.getElem?_eq_getElem (by have := HO.out.2.2.2.2.1; omega)⟩
            obtain ⟨g, rfl, hg, hcg⟩ := HO.out.1.at_ encO_len hy
            have hdrop : (one.drop p).reverse = (one.drop (p + 1)).reverse ++ [y] := by
              obtain ⟨hp1, hp2⟩ := List.getElem?_eq_some_iff.1 hy
              rw [List.drop_eq_getElem_cons hp1, hp2, List.reverse_cons]
            have k0 : wr.cell? ⟨g, p * 4, none⟩ = some (.int .i64 y.kind) := (HJ.out.2.cell (p := ⟨g, p * 4, none⟩) hg).trans (hcg 0 (by omega))
            have k1 : wr.cell? ⟨g, p * 4 + 1, none⟩ = some (.int .i64 y.key) := (HJ.out.2.cell (p := ⟨g, p * 4 + 1, none⟩) hg).trans (hcg 1 (by omega))
            have k2 : wr.cell? ⟨g, p * 4 + 2, none⟩ = some (.string y.text) := (HJ.out.2.cell (p := ⟨g, p * 4 + 2, none⟩) hg).trans (hcg 2 (by omega))
            have k3 : wr.cell? ⟨g, p * 4 + 3, none⟩ = some (.int .i64 y.tick) := (HJ.out.2.cell (p := ⟨g, p * 4 + 3, none⟩) hg).trans (hcg 3 (by omega))
            have hn2 := HJ.out.1.len
            have hn2' : n2 ≤ 1000 := by rw [hn2, List.length_reverse, List.length_drop, HO.out.2.2.2.2.1]; omega
            obtain ⟨a3, c3, W3, hap, r1, o1, b1⟩ := run_epush (P := Try.prog) (t := 22) Try.underlying22 celO encO_len encO_one (w := wr) HJ.out.1 y #[.int .i64 y.kind, .int .i64 y.key, .string y.text, .int .i64 y.tick] rfl (by omega) (by omega) HJ.out.2.size
            rw [← hn2] at hap r1 b1
            rw [← hdrop] at r1
            have HN : Hid (ORow W3 W1.heap.size (.slice a3 (n2 + 1) c3) (one.drop p).reverse ∧ Below W1.heap.size W1 W3) := ⟨r1, HJ.out.2.trans (o1.below HJ.out.2.size fun q e => (HJ.out.1.lt e).1)⟩
            have hpn : (p : Int) < n1 := by omega
            clear r1 o1 b1 hdrop hn2 HJ hcg hz hy
            go_wp2_with (at_builtin; refine wpList_append_run rfl (.tmp 66) (.tmp 71) 22 _ rfl hap ?_)
            go_roundw
            case rel => exact ⟨p, a3, n2 + 1, c3, by omega, by go_num, rfl, HN.out⟩
            case measure => simp [intOf])
end Go.Proofs.Ytinigpneohogaaa
