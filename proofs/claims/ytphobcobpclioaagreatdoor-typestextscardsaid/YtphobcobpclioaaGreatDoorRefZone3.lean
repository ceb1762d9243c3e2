/-
  The reference's Reader: zone and clock, whole, in terms of zoneS and clockS.
-/
import Derived.Test.YtphobcobpclioaaGreatDoorRefZone2
import Derived.Test.YtphobcobpclioaaGreatDoorRdTimes
namespace Go.Proofs.YtphobcobpclioaaGreatDoor
open Go.RowKit

theorem itr_add (s : ByteArray) (j k : Nat) (x : Int × Nat × Option Nat) : itr s (j + k) x = itr s j (itr s k x) := by
  induction j with
  | zero => rw [Nat.zero_add]; rfl
  | succ j ih => rw [Nat.succ_add]; show stp s (itr s (j + k) x) = stp s (itr s j (itr s k x)); rw [ih]
theorem itr_shift (s : ByteArray) (n : Int) (a : Nat) (b : Option Nat) : ∀ k, itr s k (n, a, b) = (n * 10 ^ k + (itr s k (0, a, b)).1, (itr s k (0, a, b)).2) := by
  intro k
  induction k with
  | zero => show (n, a, b) = (n * 1 + 0, a, b); rw [Int.mul_one, Int.add_zero]
  | succ k ih =>
    show stp s (itr s k (n, a, b)) = (n * 10 ^ (k + 1) + (stp s (itr s k (0, a, b))).1, (stp s (itr s k (0, a, b))).2)
    rw [ih]
    obtain ⟨⟨m, a', b'⟩, e⟩ : ∃ x, itr s k (0, a, b) = x := ⟨_, rfl⟩
    rw [e, Int.pow_succ, ← Int.mul_assoc]
    generalize n * 10 ^ k = t
    unfold stp
    simp only
    split
    · exact Prod.ext (by show (t + m) * 10 + _ = t * 10 + (m * 10 + _); omega) rfl
    · exact Prod.ext (by show (t + m) * 10 = t * 10 + m * 10; omega) rfl
theorem num2 (s : ByteArray) (a : Nat) (bad : Option Nat) : numS s 2 0 99 a bad = itr s 2 (0, a, bad) := by
  have h := itr_bd s 2 (0, a, bad) rfl
  have h2 : (itr s 2 (0, a, bad)).1 ≤ 99 := h.2
  unfold numS
  rw [if_pos (inB_iff.2 ⟨h.1, h2⟩)]
theorem itr_bad (s : ByteArray) (n : Int) (a q : Nat) : itr s 2 (n, a, some q) = (n * 10 * 10, a, some q) := by
  show stp s (stp s (n, a, some q)) = _
  rw [stp_no (by rfl), stp_no (by rfl)]; rfl

set_option maxHeartbeats 2000000 in
theorem rzone_no {R : Nat} {s : ByteArray} {a : Nat} {bad : Option Nat} {lv y mo d h mi sc p dg zn : Int} {z : Bool} (w : World) (hr : RRd w R s a bad) (h1 : ahd s a bad ≠ 43) (h2 : ahd s a bad ≠ 45) :
    Calls Tryz.prog 57 #[.pointer (some ⟨R, 0, none⟩), .agg #[.int .i64 lv, .int .i64 y, .int .i64 mo, .int .i64 d, .int .i64 h, .int .i64 mi, .int .i64 sc, .int .i64 p, .int .i64 dg, .bool z, .int .i64 zn]] w fun e w' => e = .returned (.agg #[.int .i64 lv, .int .i64 y, .int .i64 mo, .int .i64 d, .int .i64 h, .int .i64 mi, .int .i64 sc, .int .i64 p, .int .i64 dg, .bool z, .int .i64 zn]) ∧ RRd w' R s a bad ∧ Off (· = R) w w' := by
  have hR : R < w.heap.size := cell_lt hr.text
  have HR : Hid (RRd ((w.alloc (.cells #[.int .i64 lv, .int .i64 y, .int .i64 mo, .int .i64 d, .int .i64 h, .int .i64 mi, .int .i64 sc, .int .i64 p, .int .i64 dg, .bool z, .int .i64 zn] 66)).alloc (.cells #[.int .i64 0, .int .i64 0, .int .i64 0, .int .i64 0, .int .i64 0, .int .i64 0, .int .i64 0, .int .i64 0, .int .i64 0, .bool false, .int .i64 0] 66)) R s a bad) := (hr.alloc _).alloc _
  have HP : Hid ((ahd s a bad == 43) = false) := by unfold Hid; simpa using h1
  have HM : Hid ((ahd s a bad == 45) = false) := by unfold Hid; simpa using h2
  clear hr h1 h2
  go_enter Tryz.func57, Tryz.ntmps57
  go_wp2_with fail
  refine (ris_any 43 _ HR.out (by omega) (by omega)).mono ?_
  rintro e v1 ⟨he, m1, rfl⟩
  rw [HP.out] at he
  subst he
  go_wp2_with fail
  refine (ris_any 45 _ (HR.out.drewN m1) (by omega) (by omega)).mono ?_
  rintro e v2 ⟨he, m2, rfl⟩
  rw [HM.out] at he
  subst he
  go_wp2_with fail
  refine bodyPost_ret (v := .agg #[.int .i64 lv, .int .i64 y, .int .i64 mo, .int .i64 d, .int .i64 h, .int .i64 mi, .int .i64 sc, .int .i64 p, .int .i64 dg, .bool z, .int .i64 zn]) (by simp [results, Tryz.results57, go_sem, World.cell?_setCell_other]) rfl ⟨rfl, ?_, ?_⟩
  · exact (HR.out.drewN (m1 + m2)).off (off_set11 (P := fun k => k = w.heap.size + 1) (Off.refl _ _) rfl _ _ _ _ _ _ _ _ _ _ _) (by show ¬ R = w.heap.size + 1; omega)
  · exact off_new11 ((((Off.refl (· = R) w).alloc _).alloc _).drewN (m1 + m2)) (Nat.le_succ _) _ _ _ _ _ _ _ _ _ _ _

theorem zone_bad (s : ByteArray) (a q : Nat) : zoneS s a (some q) = (false, 0, a, some q) := by
  unfold zoneS; rw [if_neg (by show ¬ (0 = 43 ∨ 0 = 45); decide)]
theorem zone_b1 {s : ByteArray} {a a1 q : Nat} {hh : Int} {x : Bool × Int × Nat × Option Nat} (hc : ahd s a none = 43 ∨ ahd s a none = 45) (h1 : itr s 2 (0, a + 1, none) = (hh, a1, some q)) (hx : zoneS s a none = x) : x.2.2.2 = some q := by
  unfold zoneS at hx
  rw [if_pos hc, itr_add s 2 2, h1, itr_bad] at hx
  rw [← hx]; show (if _ then orB (some q) a else some q) = some q
  split <;> rfl
theorem itr4 {s : ByteArray} {a a1 a2 : Nat} {b2 : Option Nat} {hh mm : Int} (h1 : itr s 2 (0, a, none) = (hh, a1, none)) (h2 : itr s 2 (0, a1, none) = (mm, a2, b2)) : itr s 4 (0, a, none) = (hh * 100 + mm, a2, b2) := by
  rw [itr_add s 2 2, h1, itr_shift, h2]; rfl
theorem zone_b2 {s : ByteArray} {a a1 a2 q : Nat} {hh mm : Int} {x : Bool × Int × Nat × Option Nat} (hc : ahd s a none = 43 ∨ ahd s a none = 45) (h1 : itr s 2 (0, a + 1, none) = (hh, a1, none)) (h2 : itr s 2 (0, a1, none) = (mm, a2, some q)) (hx : zoneS s a none = x) : x.2.2.2 = some q := by
  unfold zoneS at hx
  rw [if_pos hc, itr4 h1 h2] at hx
  rw [← hx]; show (if _ then orB (some q) a else some q) = some q
  split <;> rfl
theorem zone_z {s : ByteArray} {a a1 a2 : Nat} {hh mm : Int} (hc : ahd s a none = 43 ∨ ahd s a none = 45) (h1 : itr s 2 (0, a + 1, none) = (hh, a1, none)) (h2 : itr s 2 (0, a1, none) = (mm, a2, none)) :
    zoneS s a none = (true, zval (ahd s a none) (hh * 100 + mm), a2, if zbad (ahd s a none) (hh * 100 + mm) then some a else none) := by
  unfold zoneS
  rw [if_pos hc, itr4 h1 h2]
  rfl
theorem zbad_iff {c : Nat} {hh mm : Int} (h1 : 0 ≤ hh) (h2 : hh ≤ 99) (m1 : 0 ≤ mm) (m2 : mm ≤ 99) : zbad c (hh * 100 + mm) = true ↔ 59 < mm ∨ 840 < 60 * hh + mm ∨ (c = 45 ∧ hh = 0 ∧ mm = 0) := by
  unfold zbad
  simp only [Bool.or_eq_true, Bool.and_eq_true, decide_eq_true_eq, beq_iff_eq]
  omega
theorem rzone_any {R : Nat} {s : ByteArray} {a : Nat} {bad : Option Nat} {lv y mo d h mi sc p dg : Int} {Z : Bool} {ZN : Int} {A : Nat} {B : Option Nat} (w : World) (hr : RRd w R s a bad) (hx : zoneS s a bad = (Z, ZN, A, B)) :
    Calls Tryz.prog 57 #[.pointer (some ⟨R, 0, none⟩), .agg #[.int .i64 lv, .int .i64 y, .int .i64 mo, .int .i64 d, .int .i64 h, .int .i64 mi, .int .i64 sc, .int .i64 p, .int .i64 dg, .bool false, .int .i64 0]] w fun e w' => ∃ (z' : Bool) (zn' : Int) (a' : Nat), e = .returned (.agg #[.int .i64 lv, .int .i64 y, .int .i64 mo, .int .i64 d, .int .i64 h, .int .i64 mi, .int .i64 sc, .int .i64 p, .int .i64 dg, .bool (z'), .int .i64 (zn')]) ∧ RRd w' R s a' B ∧ (B = none → a' = A ∧ z' = Z ∧ zn' = ZN) ∧ Off (· = R) w w' := by
  by_cases hc : ahd s a bad = 43 ∨ ahd s a bad = 45
  · obtain ⟨rfl, hl⟩ := sign_in hc
    obtain ⟨⟨hh, a1, b1⟩, h1⟩ : ∃ x, itr s 2 (0, a + 1, none) = x := ⟨_, rfl⟩
    have k1 : numS s 2 0 99 (a + 1) none = (hh, a1, b1) := by rw [num2, h1]
    cases b1 with
    | some q =>
      obtain rfl : B = some q := zone_b1 hc h1 hx
      rcases hc with hc | hc
      · exact (rzone_p_b1 (_mm := 0) (_a2 := 0) w hr hc k1).mono fun e w' ⟨z', zn', a', he, r', o'⟩ => ⟨z', zn', a', he, r', fun e => (by cases e), o'⟩
      · exact (rzone_m_b1 w hr hc k1).mono fun e w' ⟨z', zn', a', he, r', o'⟩ => ⟨z', zn', a', he, r', fun e => (by cases e), o'⟩
    | none =>
      obtain ⟨⟨mm, a2, b2⟩, h2⟩ : ∃ x, itr s 2 (0, a1, none) = x := ⟨_, rfl⟩
      have k2 : numS s 2 0 99 a1 none = (mm, a2, b2) := by rw [num2, h2]
      cases b2 with
      | some q =>
        obtain rfl : B = some q := zone_b2 hc h1 h2 hx
        rcases hc with hc | hc
        · exact (rzone_p_b2 w hr hc k1 k2).mono fun e w' ⟨z', zn', a', he, r', o'⟩ => ⟨z', zn', a', he, r', fun e => (by cases e), o'⟩
        · exact (rzone_m_b2 w hr hc k1 k2).mono fun e w' ⟨z', zn', a', he, r', o'⟩ => ⟨z', zn', a', he, r', fun e => (by cases e), o'⟩
      | none =>
        have bh := itr_bd s 2 (0, a + 1, none) rfl
        have bm := itr_bd s 2 (0, a1, none) rfl
        rw [h1] at bh
        rw [h2] at bm
        have hb1 : 0 ≤ hh := bh.1
        have hb2 : hh ≤ 99 := bh.2
        have mb1 : 0 ≤ mm := bm.1
        have mb2 : mm ≤ 99 := bm.2
        rw [zone_z hc h1 h2] at hx
        simp only [Prod.mk.injEq] at hx
        obtain ⟨rfl, rfl, rfl, hB⟩ := hx
        by_cases g1 : 59 < mm
        · rw [if_pos ((zbad_iff hb1 hb2 mb1 mb2).2 (Or.inl g1))] at hB
          subst hB
          rcases hc with hc | hc
          · exact (rzone_p_m w hr hc k1 k2 g1).mono fun e w' ⟨z', zn', a', he, r', o'⟩ => ⟨z', zn', a', he, r', fun e => (by cases e), o'⟩
          · exact (rzone_m_m w hr hc k1 k2 g1).mono fun e w' ⟨z', zn', a', he, r', o'⟩ => ⟨z', zn', a', he, r', fun e => (by cases e), o'⟩
        · by_cases g2 : 840 < 60 * hh + mm
          · rw [if_pos ((zbad_iff hb1 hb2 mb1 mb2).2 (Or.inr (Or.inl g2)))] at hB
            subst hB
            rcases hc with hc | hc
            · exact (rzone_p_big w hr hc k1 k2 g1 g2).mono fun e w' ⟨z', zn', a', he, r', o'⟩ => ⟨z', zn', a', he, r', fun e => (by cases e), o'⟩
            · exact (rzone_m_big w hr hc k1 k2 g1 g2).mono fun e w' ⟨z', zn', a', he, r', o'⟩ => ⟨z', zn', a', he, r', fun e => (by cases e), o'⟩
          · have ev : (hh * 100 + mm) / 100 * 60 + (hh * 100 + mm) % 100 = 60 * hh + mm := by omega
            rcases hc with hc | hc
            · rw [if_neg (by rw [zbad_iff hb1 hb2 mb1 mb2, hc]; omega)] at hB
              subst hB
              refine (rzone_p_ok w hr hc k1 k2 g1 g2).mono ?_
              rintro e w' ⟨z', zn', a', he, r', ⟨rfl, rfl, rfl⟩, o'⟩
              exact ⟨_, _, _, he, r', fun _ => ⟨rfl, rfl, by rw [hc]; unfold zval; rw [if_neg (by decide), ev]⟩, o'⟩
            · by_cases g3 : hh = 0
              · subst g3
                by_cases g4 : mm = 0
                · subst g4
                  rw [if_pos ((zbad_iff hb1 hb2 mb1 mb2).2 (Or.inr (Or.inr ⟨hc, rfl, rfl⟩)))] at hB
                  subst hB
                  exact (rzone_m_zero w hr hc k1 k2).mono fun e w' ⟨z', zn', a', he, r', o'⟩ => ⟨z', zn', a', he, r', fun e => (by cases e), o'⟩
                · rw [if_neg (by rw [zbad_iff hb1 hb2 mb1 mb2]; omega)] at hB
                  subst hB
                  refine (rzone_m_ok2 w hr hc k1 k2 g1 (by simpa using g4)).mono ?_
                  rintro e w' ⟨z', zn', a', he, r', ⟨rfl, rfl, rfl⟩, o'⟩
                  exact ⟨_, _, _, he, r', fun _ => ⟨rfl, rfl, by rw [hc]; unfold zval; rw [if_pos rfl]; omega⟩, o'⟩
              · rw [if_neg (by rw [zbad_iff hb1 hb2 mb1 mb2]; omega)] at hB
                subst hB
                refine (rzone_m_ok1 w hr hc k1 k2 g1 g2 (by simpa using g3)).mono ?_
                rintro e w' ⟨z', zn', a', he, r', ⟨rfl, rfl, rfl⟩, o'⟩
                exact ⟨_, _, _, he, r', fun _ => ⟨rfl, rfl, by rw [hc]; unfold zval; rw [if_pos rfl, ev]⟩, o'⟩
  · have e : zoneS s a bad = (false, 0, a, bad) := by unfold zoneS; rw [if_neg hc]
    rw [e] at hx
    simp only [Prod.mk.injEq] at hx
    obtain ⟨rfl, rfl, rfl, rfl⟩ := hx
    refine (rzone_no w hr (fun g => hc (Or.inl g)) (fun g => hc (Or.inr g))).mono ?_
    rintro e w' ⟨he, r', o'⟩
    exact ⟨_, _, _, he, r', fun _ => ⟨rfl, rfl, rfl⟩, o'⟩

theorem rclock_any {R : Nat} {s : ByteArray} {a : Nat} {l y mo d zn : Int} {z : Bool} {lv h mi sc p dg : Int} {A : Nat} {B : Option Nat} (w : World) (hr : RRd w R s a none) (hx : clockS s a none = (lv, h, mi, sc, p, dg, A, B)) :
    Calls Tryz.prog 56 #[.pointer (some ⟨R, 0, none⟩), .agg #[.int .i64 l, .int .i64 y, .int .i64 mo, .int .i64 d, .int .i64 0, .int .i64 0, .int .i64 0, .int .i64 0, .int .i64 0, .bool z, .int .i64 zn]] w fun e w' => ∃ (lv' h' mi' sc' p' dg' : Int) (a' : Nat), e = .returned (.agg #[.int .i64 (lv'), .int .i64 y, .int .i64 mo, .int .i64 d, .int .i64 (h'), .int .i64 (mi'), .int .i64 (sc'), .int .i64 (p'), .int .i64 (dg'), .bool z, .int .i64 zn]) ∧ RRd w' R s a' B ∧ (B = none → a' = A ∧ lv' = lv ∧ h' = h ∧ mi' = mi ∧ sc' = sc ∧ p' = p ∧ dg' = dg) ∧ Off (· = R) w w' := by
  obtain ⟨⟨hh, a1, b1⟩, h1⟩ : ∃ x, numS s 2 0 23 a none = x := ⟨_, rfl⟩
  unfold clockS at hx
  simp only [h1] at hx
  cases d1 : isD (ahd s a1 b1) with
  | false =>
    simp only [d1, Bool.false_eq_true, if_false, Prod.mk.injEq] at hx
    obtain ⟨rfl, rfl, rfl, rfl, rfl, rfl, rfl, rfl⟩ := hx
    exact rclock_4 w hr h1 d1
  | true =>
    obtain rfl : b1 = none := (isD_in d1).1
    obtain ⟨⟨mm, a2, b2⟩, h2⟩ : ∃ x, numS s 2 0 59 a1 none = x := ⟨_, rfl⟩
    simp only [d1, if_true, h2] at hx
    cases d2 : isD (ahd s a2 b2) with
    | false =>
      simp only [d2, Bool.false_eq_true, if_false, Prod.mk.injEq] at hx
      obtain ⟨rfl, rfl, rfl, rfl, rfl, rfl, rfl, rfl⟩ := hx
      exact rclock_5 w hr h1 d1 h2 d2
    | true =>
      obtain rfl : b2 = none := (isD_in d2).1
      obtain ⟨⟨ss, a3, b3⟩, h3⟩ : ∃ x, numS s 2 0 59 a2 none = x := ⟨_, rfl⟩
      simp only [d2, if_true, h3] at hx
      by_cases g : ahd s a3 b3 = 46
      · rw [if_pos g] at hx
        obtain rfl : b3 = none := (point_in g).1
        cases d3 : isD (ahd s (a3 + 1) none) with
        | false =>
          simp only [d3, Bool.false_eq_true, if_false, Prod.mk.injEq] at hx
          obtain ⟨rfl, rfl, rfl, rfl, rfl, rfl, rfl, rfl⟩ := hx
          exact (rclock_7n w hr h1 d1 h2 d2 h3 g d3).mono fun e w' ⟨lv', h', mi', sc', p', dg', a', he, r', _, o'⟩ => ⟨lv', h', mi', sc', p', dg', a', he, r', fun e => (by cases e), o'⟩
        | true =>
          obtain ⟨⟨P, D, A', B'⟩, h4⟩ : ∃ x, prt s 3 ((ahd s (a3 + 1) none : Int) - 48, 1, a3 + 2, none) = x := ⟨_, rfl⟩
          simp only [d3, if_true, h4, Prod.mk.injEq] at hx
          obtain ⟨rfl, rfl, rfl, rfl, rfl, rfl, rfl, rfl⟩ := hx
          exact rclock_7y w hr h1 d1 h2 d2 h3 g d3 h4
      · rw [if_neg g] at hx
        simp only [Prod.mk.injEq] at hx
        obtain ⟨rfl, rfl, rfl, rfl, rfl, rfl, rfl, rfl⟩ := hx
        exact rclock_6 w hr h1 d1 h2 d2 h3 g
end Go.Proofs.YtphobcobpclioaaGreatDoor
