/-
  The document's reader of places: number, right.
-/
import Derived.Test.YtachkeipknakgaaDoorPRef
import Derived.BigRegion
namespace Go.Proofs.YtachkeipknakgaaDoor
open Go.RowKit

theorem digit_val' {s : ByteArray} {a : Nat} (h : a < s.size) (hd : isD (bt s a) = true) : 48 ≤ (s[a].toNat : Int) ∧ (s[a].toNat : Int) ≤ 57 := by
  have := isD_iff.1 hd; rw [bt_in h] at this; omega
set_option maxHeartbeats 1000000 in
theorem rnum_bad {R : Nat} {s : ByteArray} {a q : Nat} (w : World) (h : RRd w R s a (some q)) :
    Calls Tryd.prog 18 #[.pointer (some ⟨R, 0, none⟩)] w fun e w' => e = .returned (.tuple #[.int .i64 0, .int .i64 (a : Int)]) ∧ RRd w' R s a (some q) ∧ Off (· = R) w w' := by
  have HR : Hid (RRd w R s a (some q)) := h
  have c1 := h.at_
  clear h
  go_enter Tryd.func18, Tryd.ntmps18
  go_wp2_with fail
  refine (rdigit_bad _ HR.out).mono ?_
  rintro e w1 ⟨rfl, n1, hw1⟩
  have HR1 : Hid (RRd w1 R s a (some q)) := by unfold Hid; rw [hw1]; exact HR.out.drewN n1
  have HO1 : Hid (Off (· = R) w w1) := by unfold Hid; rw [hw1]; exact (Off.refl _ _).drewN n1
  clear hw1 c1
  go_wp2_with fail
  go_quiet (fail)
  have HR2 : Hid (RRd (w1.drewN nq) R s a (some q)) := HR1.out.drewN _
  have HO2 : Hid (Off (· = R) w (w1.drewN nq)) := HO1.out.drewN _
  obtain ⟨w2, hw2⟩ : ∃ w2, w1.drewN nq = w2 := ⟨_, rfl⟩
  rw [hw2] at HR2 HO2 ⊢
  clear hw2
  have c1 := HR2.out.at_
  go_wp2_with fail
  refine (rfault_any a _ HR2.out).mono ?_
  rintro e w3 ⟨rfl, r3, o3⟩
  have HR3 : Hid (RRd w3 R s a (some q)) := r3
  have HO3 : Hid (Off (· = R) w w3) := HO2.out.trans o3
  clear r3 o3
  go_wp2_with fail
  go_ret2
  exact ⟨rfl, HR3.out, HO3.out⟩
set_option maxHeartbeats 1000000 in
theorem rnum_no {R : Nat} {s : ByteArray} {a : Nat} (w : World) (h : RRd w R s a none) (hk : okN s a = false) :
    Calls Tryd.prog 18 #[.pointer (some ⟨R, 0, none⟩)] w fun e w' => e = .returned (.tuple #[.int .i64 0, .int .i64 (a : Int)]) ∧ RRd w' R s a (some a) ∧ Off (· = R) w w' := by
  have HR : Hid (RRd w R s a none) := h
  have c1 := h.at_
  have hs : s.size ≤ maxLen := h.fit
  unfold maxLen at hs
  clear h
  cases hd : isD (bt s a) with
  | false =>
    have HD : Hid (isD (bt s a) = false) := hd
    clear hd hk
    go_enter Tryd.func18, Tryd.ntmps18
    go_wp2_with fail
    refine (rdigit_any _ HR.out).mono ?_
    rintro e w1 ⟨he, n1, hw1⟩
    rw [HD.out] at he
    subst he
    have HR1 : Hid (RRd w1 R s a none) := by unfold Hid; rw [hw1]; exact HR.out.drewN n1
    have HO1 : Hid (Off (· = R) w w1) := by unfold Hid; rw [hw1]; exact (Off.refl _ _).drewN n1
    clear hw1 c1
    go_wp2_with fail
    go_quiet (fail)
    have HR2 : Hid (RRd (w1.drewN nq) R s a none) := HR1.out.drewN _
    have HO2 : Hid (Off (· = R) w (w1.drewN nq)) := HO1.out.drewN _
    obtain ⟨w2, hw2⟩ : ∃ w2, w1.drewN nq = w2 := ⟨_, rfl⟩
    rw [hw2] at HR2 HO2 ⊢
    clear hw2
    have c1 := HR2.out.at_
    go_wp2_with fail
    refine (rfault_any a _ HR2.out).mono ?_
    rintro e w3 ⟨rfl, r3, o3⟩
    have HR3 : Hid (RRd w3 R s a (some a)) := r3
    have HO3 : Hid (Off (· = R) w w3) := HO2.out.trans o3
    clear r3 o3
    go_wp2_with fail
    go_ret2
    exact ⟨rfl, HR3.out, HO3.out⟩
  | true =>
    have HD : Hid (isD (bt s a) = true) := hd
    have hz : bt s a = 48 := by unfold okN at hk; rw [hd] at hk; simpa using hk
    have hl : a < s.size := isD_lt hd
    have hli : (a : Int) < s.size := by omega
    have hzb : ((s[a].toNat : Int) == 48) = true := by have := bt_in hl; simp; omega
    clear hd hk hz
    go_enter Tryd.func18, Tryd.ntmps18
    go_wp2_with fail
    refine (rdigit_any _ HR.out).mono ?_
    rintro e w1 ⟨he, n1, hw1⟩
    rw [HD.out] at he
    subst he
    have HR1 : Hid (RRd w1 R s a none) := by unfold Hid; rw [hw1]; exact HR.out.drewN n1
    have HO1 : Hid (Off (· = R) w w1) := by unfold Hid; rw [hw1]; exact (Off.refl _ _).drewN n1
    clear hw1 c1
    have c0 := HR1.out.text
    have c1 := HR1.out.at_
    go_wp2_with fail
    go_quiet (fail)
    have HR2 : Hid (RRd (w1.drewN nq) R s a none) := HR1.out.drewN _
    have HO2 : Hid (Off (· = R) w (w1.drewN nq)) := HO1.out.drewN _
    obtain ⟨w2, hw2⟩ : ∃ w2, w1.drewN nq = w2 := ⟨_, rfl⟩
    rw [hw2] at HR2 HO2 ⊢
    clear hw2 c0 c1
    have c1 := HR2.out.at_
    go_wp2_with fail
    refine (rfault_any a _ HR2.out).mono ?_
    rintro e w3 ⟨rfl, r3, o3⟩
    have HR3 : Hid (RRd w3 R s a (some a)) := r3
    have HO3 : Hid (Off (· = R) w w3) := HO2.out.trans o3
    clear r3 o3
    go_wp2_with fail
    go_ret2
    exact ⟨rfl, HR3.out, HO3.out⟩
set_option maxRecDepth 100000 in
set_option maxHeartbeats 4000000 in
theorem rnum_ok {R : Nat} {s : ByteArray} {a : Nat} (w : World) (h : RRd w R s a none) (hk : okN s a = true) :
    Calls Tryd.prog 18 #[.pointer (some ⟨R, 0, none⟩)] w fun e w' => e = .returned (.tuple #[.int .i64 (rv s a (cnt s a) : Int), .int .i64 (a : Int)]) ∧ RRd w' R s (a + cnt s a) none ∧ Off (· = R) w w' := by
  have HR : Hid (RRd w R s a none) := h
  have c1 := h.at_
  have hs : s.size ≤ maxLen := h.fit
  unfold maxLen at hs
  clear h
  have hd : isD (bt s a) = true := by unfold okN at hk; exact (Bool.and_eq_true _ _ ▸ hk).1
  have hz : ¬ bt s a = 48 := by unfold okN at hk; rw [hd] at hk; simpa using hk
  have HD : Hid (isD (bt s a) = true) := hd
  have hl : a < s.size := isD_lt hd
  have hli : (a : Int) < s.size := by omega
  have hzb : ((s[a].toNat : Int) == 48) = false := by have := bt_in hl; simp; omega
  clear hd hk hz
  go_enter Tryd.func18, Tryd.ntmps18
  go_wp2_with fail
  refine (rdigit_any _ HR.out).mono ?_
  rintro e w1 ⟨he, n1, hw1⟩
  rw [HD.out] at he
  subst he
  have HR1 : Hid (RRd w1 R s a none) := by unfold Hid; rw [hw1]; exact HR.out.drewN n1
  have HO1 : Hid (Off (· = R) w w1) := by unfold Hid; rw [hw1]; exact (Off.refl _ _).drewN n1
  clear hw1 c1
  have c0 := HR1.out.text
  have c1 := HR1.out.at_
  go_wp2_with fail
  go_quiet (fail)
  have HR2 : Hid (RRd (w1.drewN nq) R s a none) := HR1.out.drewN _
  have HO2 : Hid (Off (· = R) w (w1.drewN nq)) := HO1.out.drewN _
  obtain ⟨w2, hw2⟩ : ∃ w2, w1.drewN nq = w2 := ⟨_, rfl⟩
  rw [hw2] at HR2 HO2 ⊢
  clear hw2 c0 c1
  go_wp2_with fail
  go_loopw [6] (fun t6 wx => ∃ k : Nat, t6 = .int .i64 (rv s a k : Int) ∧ Hid ((∀ j, j < k → isD (bt s (a + j)) = true) ∧ RRd wx R s (a + k) none ∧ Off (· = R) w wx)) (fun _ wx => s.size - (intOf ((wx.cell? ⟨R, 1, none⟩).getD .nilIface)).toNat)
  case atStart => exact ⟨0, rfl, fun _ h => absurd h (by omega), HR2.out, HO2.out⟩
  case round =>
    obtain ⟨k, rfl, HK⟩ := hrel
    have hvb := rv_bd s a k HK.out.1
    obtain ⟨v, hv⟩ : ∃ v, rv s a k = v := ⟨_, rfl⟩
    have HV : Hid (rv s a k = v) := hv
    rw [hv] at hvb ⊢
    clear hv
    have hin : a + k ≤ s.size := HK.out.2.1.in_
    cases hd : isD (bt s (a + k)) with
    | false =>
      have HC : Hid (cnt s a = k) := (cnt_run s a).one ⟨HK.out.1, hd⟩
      have HD2 : Hid (isD (bt s (a + k)) = false) := hd
      clear hd
      go_wp2_with fail
      refine (rdigit_any _ HK.out.2.1).mono ?_
      rintro e w3 ⟨he, n3, rfl⟩
      rw [HD2.out] at he
      subst he
      go_wp2_with fail
      go_ret2
      exact ⟨by rw [HC.out, HV.out]; rfl, by rw [HC.out]; exact HK.out.2.1.drewN n3, HK.out.2.2.drewN n3⟩
    | true =>
      have hl2 : a + k < s.size := isD_lt hd
      obtain ⟨b, hb⟩ : ∃ b, a + k = b := ⟨_, rfl⟩
      have HBk : Hid (a + k = b) := hb
      have HD2 : Hid (isD (bt s b) = true) := by unfold Hid; rw [← hb]; exact hd
      rw [hb] at hl2 hin
      have HKR : Hid (RRd wr R s b none) := by unfold Hid; rw [← hb]; exact HK.out.2.1
      have hli2 : (b : Int) < s.size := by omega
      obtain ⟨d3, d4⟩ := digit_val' hl2 HD2.out
      have m2 := HKR.out.at_
      clear hd hb
      go_wp2_with fail
      refine (rdigit_any _ HKR.out).mono ?_
      rintro e w3 ⟨he, n3, hw3⟩
      rw [HD2.out] at he
      subst he
      have HR3 : Hid (RRd w3 R s b none) := by unfold Hid; rw [hw3]; exact HKR.out.drewN n3
      have HO3 : Hid (Off (· = R) w w3) := by unfold Hid; rw [hw3]; exact HK.out.2.2.drewN n3
      clear hw3
      have HM : Hid (wr.cell? ⟨R, 1, none⟩ = some (.int .i64 (b : Int))) := m2
      clear m2
      have c0 := HR3.out.text
      have c1 := HR3.out.at_
      by_cases g : v < 1000
      · have gi : (v : Int) < 1000 := by omega
        have HV2 : Hid (((rv s a (k + 1) : Nat) : Int) = 10 * (v : Int) + ((s[b].toNat : Int) - 48)) := by
          have e2 := bt_in hl2
          unfold Hid; simp only [rv, HV.out, HBk.out, e2, if_pos g]; omega
        go_wp2_with fail
        go_quiet (fail)
        have HR4 : Hid (RRd (w3.drewN nq) R s b none) := HR3.out.drewN _
        have HO4 : Hid (Off (· = R) w (w3.drewN nq)) := HO3.out.drewN _
        obtain ⟨w4, hw4⟩ : ∃ w4, w3.drewN nq = w4 := ⟨_, rfl⟩
        rw [hw4] at HR4 HO4 ⊢
        clear hw4 c0 c1
        have c1 := HR4.out.at_
        have f1 := HR4.out.fr1
        go_wp2_with fail
        go_roundw
        case rel =>
          refine ⟨k + 1, by rw [HV2.out], fun j hj => ?_, ?_, HO4.out.setCell (p := ⟨R, 1, none⟩) rfl _⟩
          · by_cases e : j = k
            · subst e; rw [HBk.out]; exact HD2.out
            · exact HK.out.1 j (by omega)
          · have := HR4.out.moved (c := b + 1) hl2
            rw [show a + (k + 1) = b + 1 by have := HBk.out; omega]
            exact this
        case measure =>
          have m1 : (w4.setCell ⟨R, 1, none⟩ (.int .i64 ((b + 1 : Nat) : Int))).cell? ⟨R, 1, none⟩ = some (.int .i64 ((b + 1 : Nat) : Int)) := World.cell?_setCell_same _ _ _ c1
          have m2 := HM.out
          have m3 : (((b + 1 : Nat) : Int)) = (b : Int) + 1 := by omega
          rw [m3] at m1
          simp only [m1, m2, Option.getD_some, intOf]
          omega
      · have gi : decide ((v : Int) < 1000) = false := decide_eq_false (by omega)
        have gj : (1000 : Int) ≤ v := by omega
        have HG : Hid (¬ v < 1000) := g
        have HV2 : Hid (((rv s a (k + 1) : Nat) : Int) = (v : Int)) := by
          unfold Hid; simp only [rv, HV.out, if_neg g]
        clear g
        have f1 := HR3.out.fr1
        go_wp2_with fail
        go_roundw
        case rel =>
          refine ⟨k + 1, by rw [HV2.out], fun j hj => ?_, ?_, HO3.out.setCell (p := ⟨R, 1, none⟩) rfl _⟩
          · by_cases e : j = k
            · subst e; rw [HBk.out]; exact HD2.out
            · exact HK.out.1 j (by omega)
          · have := HR3.out.moved (c := b + 1) hl2
            rw [show a + (k + 1) = b + 1 by have := HBk.out; omega]
            exact this
        case measure =>
          have m1 : (w3.setCell ⟨R, 1, none⟩ (.int .i64 ((b + 1 : Nat) : Int))).cell? ⟨R, 1, none⟩ = some (.int .i64 ((b + 1 : Nat) : Int)) := World.cell?_setCell_same _ _ _ c1
          have m2 := HM.out
          have m3 : (((b + 1 : Nat) : Int)) = (b : Int) + 1 := by omega
          rw [m3] at m1
          simp only [m1, m2, Option.getD_some, intOf]
          omega
/-- Behind right. -/
def rgtB (q : Bool) (from_ : Nat) : Option Nat → Option Nat
  | none => if q then none else some from_
  | some p => some p
theorem rgtB_t (p : Nat) : rgtB true p none = none := by simp [rgtB]
theorem rgtB_f (p : Nat) : rgtB false p none = some p := by simp [rgtB]
set_option maxRecDepth 100000 in
set_option maxHeartbeats 1000000 in
theorem rright_any {R : Nat} {s : ByteArray} {a : Nat} {bad : Option Nat} (seg : ByteArray) (o f r c b : Int) (from_ : Nat) (w : World) (h : RRd w R s a bad) :
    Calls Tryd.prog 19 #[.pointer (some ⟨R, 0, none⟩), .agg #[.string seg, .int .i64 o, .int .i64 f, .int .i64 r, .int .i64 c, .int .i64 b], .int .i64 (from_ : Int)] w fun e w' => e = .returned (.tuple #[]) ∧ RRd w' R s a (rgtB (rgt seg o f r c b) from_ bad) ∧ Off (· = R) w w' := by
  have HR : Hid (RRd (w.alloc (.cells #[.string seg, .int .i64 o, .int .i64 f, .int .i64 r, .int .i64 c, .int .i64 b] 23)) R s a bad) := h.off (P := fun _ => False) ((Off.refl _ _).alloc _) id
  obtain ⟨q, hq⟩ : ∃ q, rgt seg o f r c b = q := ⟨_, rfl⟩
  have HQ : Hid (rgt seg o f r c b = q) := hq
  rw [hq]
  clear hq h
  go_enter Tryd.func19, Tryd.ntmps19
  go_wp2_with fail
  refine (Right_any seg o f r c b _).mono ?_
  rintro e w1 ⟨he, hb⟩
  rw [HQ.out] at he
  subst he
  have HR1 : Hid (RRd w1 R s a bad) := HR.out.off (P := fun _ => False) (Off.of_below hb) id
  have HO1 : Hid (Off (· = R) w w1) := ((Off.refl (· = R) w).alloc _).trans (Off.of_below hb)
  clear hb HR
  cases bad with
  | some p =>
    have c2 : w1.cell? ⟨R, 2, none⟩ = some (.int .i64 (p : Int)) := HR1.out.bad
    have hp : ¬ (p : Int) < 0 := by omega
    go_wp2_with fail
    go_end0
    exact ⟨rfl, HR1.out, HO1.out⟩
  | none =>
    have c2 : w1.cell? ⟨R, 2, none⟩ = some (.int .i64 (-1)) := HR1.out.bad_none
    cases q with
    | true =>
      go_wp2_with fail
      go_end0
      exact ⟨rfl, by rw [rgtB_t]; exact HR1.out, HO1.out⟩
    | false =>
      go_wp2_with fail
      refine (rfault_any from_ _ HR1.out).mono ?_
      rintro e w2 ⟨rfl, r2, o2⟩
      have HR2 : Hid (RRd w2 R s a (some from_)) := r2
      have HO2 : Hid (Off (· = R) w w2) := HO1.out.trans o2
      clear r2 o2
      go_wp2_with fail
      go_end0
      exact ⟨rfl, by rw [rgtB_f]; exact HR2.out, HO2.out⟩
end Go.Proofs.YtachkeipknakgaaDoor
