/-
  The program's number: digits read into a part of the place.
-/
import Derived.Test.YtachkeipknakgaaDoorPRd
import Derived.BigRegion
namespace Go.Proofs.YtachkeipknakgaaDoor
open Go.RowKit

/-- What a reading step comes to: the next state, or false and the place of the fault. -/
def Rs (w : World) (R : Nat) (s seg : ByteArray) (X : Except Nat St) (e : Ending) (w' : World) : Prop :=
  ((∃ y, X = .ok y ∧ e = .returned (.bool true) ∧ PRd w' R s seg y) ∨ (∃ p : Nat, X = .error p ∧ e = .returned (.bool false) ∧ w'.cell? ⟨R, 1, none⟩ = some (.int .i64 (p : Int)))) ∧ Off (· = R) w w'
theorem digit_val {s : ByteArray} {a : Nat} (h : a < s.size) (hd : isD (bt s a) = true) : 48 ≤ (s[a].toNat : Int) ∧ (s[a].toNat : Int) ≤ 57 := by
  have := isD_iff.1 hd; rw [bt_in h] at this; omega

theorem PRd.wrO {w : World} {R : Nat} {s seg : ByteArray} {x : St} (h : PRd w R s seg x) (n : Int) : PRd (w.setCell ⟨R, 3, none⟩ (.int .i64 n)) R s seg (putO x n) := by
  have c0 := h.text
  have c1 := h.at_
  have c2 := h.seg
  have c3 := h.o
  have c4 := h.f
  have c5 := h.r
  have c6 := h.c
  have c7 := h.b
  exact ⟨by simp [World.cell?_setCell_other, c0], by simp [World.cell?_setCell_other, c1, putO], by simp [World.cell?_setCell_other, c2], World.cell?_setCell_same _ _ _ h.o, by simp [World.cell?_setCell_other, c4, putO], by simp [World.cell?_setCell_other, c5, putO], by simp [World.cell?_setCell_other, c6, putO], by simp [World.cell?_setCell_other, c7, putO], fun j => by rw [World.frozen?_setCell]; exact h.fr j, h.in_, h.fit⟩
set_option maxHeartbeats 4000000 in
theorem number_O {R : Nat} {s seg : ByteArray} {x : St} (w : World) (h : PRd w R s seg x) :
    Calls Tryd.prog 25 #[.pointer (some ⟨R, 0, none⟩), .pointer (some ⟨R, 3, none⟩)] w (Rs w R s seg (numS s seg putO x)) := by
  have c0 := h.text
  have c1 := h.at_
  have hs : s.size ≤ maxLen := h.fit
  unfold maxLen at hs
  have HR : Hid (PRd w R s seg x) := h
  obtain ⟨a, ha⟩ : ∃ a, x.a = a := ⟨_, rfl⟩
  have HA : Hid (x.a = a) := ha
  rw [ha] at c1
  by_cases hd : isD (bt s a) = true
  · have hl : a < s.size := isD_lt hd
    have hli : (a : Int) < s.size := by omega
    obtain ⟨d1, d2⟩ := digit_val hl hd
    have HD : Hid (isD (bt s x.a) = true) := by unfold Hid; rw [ha]; exact hd
    by_cases hz : bt s a = 48
    · have HX : Hid (numS s seg putO x = .error a) := by unfold Hid numS okN; rw [ha, hd, hz]; simp
      have hzb : ((s[a].toNat : Int) == 48) = true := by have := bt_in hl; simp; omega
      clear hd h ha hz
      go_enter Tryd.func25, Tryd.ntmps25
      go_wp2_with fail
      refine (atDigit_any _ HR.out).mono ?_
      rintro e w1 ⟨he, n1, hw1⟩
      rw [HD.out] at he
      subst he hw1
      go_wp2_with fail
      go_ret
      exact ⟨Or.inr ⟨a, HX.out, rfl, by have := (HR.out.drewN n1).at_; rw [HA.out] at this; exact this⟩, (Off.refl _ _).drewN n1⟩
    · have hzb : ((s[a].toNat : Int) == 48) = false := by have := bt_in hl; simp; omega
      have HX : Hid (numS s seg putO x = if (putO { x with a := a + cnt s a } (pv s a (cnt s a))).rgt seg then .ok (putO { x with a := a + cnt s a } (pv s a (cnt s a))) else .error a) := by
        unfold Hid numS okN; rw [ha, hd]; simp [hz]
      have HK0 : Hid (PRd (w.setCell ⟨R, 3, none⟩ (.int .i64 0)) R s seg (putO { x with a := a + 0 } (pv s a 0))) := by
        have := h.wrO 0
        unfold Hid; rw [← ha]; exact this
      have z0 := h.o
      have f0 := h.fr 3
      clear hd h ha hz
      go_enter Tryd.func25, Tryd.ntmps25
      go_wp2_with fail
      refine (atDigit_any _ HR.out).mono ?_
      rintro e w1 ⟨he, n1, hw1⟩
      rw [HD.out] at he
      subst he hw1
      go_wp2_with fail
      go_loopw [24] (fun _ wx => ∃ k : Nat, Hid ((∀ j, j < k → isD (bt s (a + j)) = true) ∧ PRd wx R s seg (putO { x with a := a + k } (pv s a k)) ∧ Off (· = R) w wx)) (fun _ wx => s.size - (intOf ((wx.cell? ⟨R, 1, none⟩).getD .nilIface)).toNat)
      case atStart => exact ⟨0, fun _ h => absurd h (by omega), by first | exact HK0.out.drewN n1 | exact HK0.out, by first | exact ((Off.refl (· = R) w).setCell (p := ⟨R, 3, none⟩) rfl _).drewN n1 | exact ((Off.refl (· = R) w).drewN n1).setCell (p := ⟨R, 3, none⟩) rfl _⟩
      case round =>
        obtain ⟨k, HK⟩ := hrel
        obtain ⟨v, hv⟩ : ∃ v, pv s a k = v := ⟨_, rfl⟩
        have HV : Hid (pv s a k = v) := hv
        have hvb : v ≤ 1000 := by rw [← hv]; unfold pv; omega
        have HKR : Hid (PRd wr R s seg (putO { x with a := a + k } (v : Int))) := by unfold Hid; rw [← hv]; exact HK.out.2.1
        have k0 := HKR.out.text
        have k1 : wr.cell? ⟨R, 1, none⟩ = some (.int .i64 ((a + k : Nat) : Int)) := HKR.out.at_
        have k3 : wr.cell? ⟨R, 3, none⟩ = some (.int .i64 (v : Int)) := HKR.out.o
        have g1 := HKR.out.fr 1
        have g3 := HKR.out.fr 3
        have hin : a + k ≤ s.size := HKR.out.in_
        clear hv
        cases hd : isD (bt s (a + k)) with
        | true =>
          have hl : a + k < s.size := isD_lt hd
          obtain ⟨b, hb⟩ : ∃ b, a + k = b := ⟨_, rfl⟩
          have HBk : Hid (a + k = b) := hb
          have HD2 : Hid (isD (bt s b) = true) := by unfold Hid; rw [← hb]; exact hd
          rw [hb] at hl k1 hin
          have hli2 : (b : Int) < s.size := by omega
          obtain ⟨d3, d4⟩ := digit_val hl HD2.out
          clear hd hb
          go_wp2_with fail
          refine (atDigit_any _ HKR.out).mono ?_
          rintro e w2 ⟨he, n2, hw2⟩
          have he2 : e = .returned (.bool true) := by rw [he]; exact ret_bool (by rw [show (putO { x with a := a + k } (v : Int)).a = b from HBk.out]; exact HD2.out)
          subst he2 hw2
          clear he
          have HK2 : Hid (PRd (wr.drewN n2) R s seg (putO { x with a := b } (v : Int))) := by unfold Hid; rw [← HBk.out]; exact HKR.out.drewN n2
          have HO2 : Hid (Off (· = R) w (wr.drewN n2)) := HK.out.2.2.drewN n2
          obtain ⟨W2, hW2⟩ : ∃ W2, wr.drewN n2 = W2 := ⟨_, rfl⟩
          rw [hW2] at HK2 HO2 ⊢
          have k0 := HK2.out.text
          have k1 : W2.cell? ⟨R, 1, none⟩ = some (.int .i64 (b : Int)) := HK2.out.at_
          have k3 : W2.cell? ⟨R, 3, none⟩ = some (.int .i64 (v : Int)) := HK2.out.o
          have g1 := HK2.out.fr 1
          have g3 := HK2.out.fr 3
          clear hW2 HKR
          go_wp2_with fail
          go_region
          have HP : Hid ((if 1000 < 10 * (v : Int) + ((s[b].toNat : Int) - 48) then 1000 else 10 * (v : Int) + ((s[b].toNat : Int) - 48)) = ((pv s a (k + 1) : Nat) : Int)) := by
            have e1 := pv_succ (s := s) (a := a) (k := k)
            have e2 := bt_in hl
            have e3 := HBk.out
            rw [HV.out, e3, e2] at e1
            unfold Hid; rw [e1]; split <;> omega
          rw [HP.out]
          have HK3 : Hid (PRd ((W2.setCell ⟨R, 3, none⟩ (.int .i64 ((pv s a (k + 1) : Nat) : Int))).drew) R s seg (putO { x with a := b } ((pv s a (k + 1) : Nat) : Int))) := (HK2.out.wrO _).drewN 1
          have HO3 : Hid (Off (· = R) w ((W2.setCell ⟨R, 3, none⟩ (.int .i64 ((pv s a (k + 1) : Nat) : Int))).drew)) := (HO2.out.setCell (p := ⟨R, 3, none⟩) rfl _).drewN 1
          obtain ⟨W3, hW3⟩ : ∃ W3, (W2.setCell ⟨R, 3, none⟩ (.int .i64 ((pv s a (k + 1) : Nat) : Int))).drew = W3 := ⟨_, rfl⟩
          rw [hW3] at HK3 HO3 ⊢
          clear hW3 HP k0 k1 k3 g1 g3
          have k1 : W3.cell? ⟨R, 1, none⟩ = some (.int .i64 (b : Int)) := HK3.out.at_
          have g1 := HK3.out.fr 1
          go_wp2_with fail
          go_roundw
          case rel =>
            refine ⟨k + 1, fun j hj => ?_, ?_, HO3.out.setCell (p := ⟨R, 1, none⟩) rfl _⟩
            · by_cases e : j = k
              · subst e; rw [HBk.out]; exact HD2.out
              · exact HK.out.1 j (by omega)
            · have := HK3.out.moved (a := b + 1) hl
              rw [show a + (k + 1) = b + 1 by have := HBk.out; omega]
              exact this
          case measure =>
            have m1 : (W3.setCell ⟨R, 1, none⟩ (.int .i64 ((b + 1 : Nat) : Int))).cell? ⟨R, 1, none⟩ = some (.int .i64 ((b + 1 : Nat) : Int)) := World.cell?_setCell_same _ _ _ k1
            have m2 : wr.cell? ⟨R, 1, none⟩ = some (.int .i64 (b : Int)) := by have := HK.out.2.1.at_; rw [show (putO { x with a := a + k } (pv s a k : Int)).a = b from HBk.out] at this; exact this
            have m3 : (((b + 1 : Nat) : Int)) = (b : Int) + 1 := by omega
            rw [m3] at m1
            simp only [m1, m2, Option.getD_some, intOf]
            omega
        | false =>
          have HC : Hid (cnt s a = k) := (cnt_run s a).one ⟨HK.out.1, hd⟩
          have HD2 : Hid (isD (bt s (putO { x with a := a + k } (v : Int)).a) = false) := hd
          clear hd
          go_wp2_with fail
          refine (atDigit_any _ HKR.out).mono ?_
          rintro e w2 ⟨he, n2, hw2⟩
          rw [HD2.out] at he
          subst he hw2
          have HK2 : Hid (PRd (wr.drewN n2) R s seg (putO { x with a := a + k } (v : Int))) := HKR.out.drewN n2
          have HO2 : Hid (Off (· = R) w (wr.drewN n2)) := HK.out.2.2.drewN n2
          obtain ⟨W2, hW2⟩ : ∃ W2, wr.drewN n2 = W2 := ⟨_, rfl⟩
          rw [hW2] at HK2 HO2 ⊢
          obtain ⟨y, hy⟩ : ∃ y, putO { x with a := a + k } (v : Int) = y := ⟨_, rfl⟩
          have HY : Hid (numS s seg putO x = if y.rgt seg then .ok y else .error a) := by
            unfold Hid; rw [HX.out, HC.out, HV.out, hy]
          rw [hy] at HK2
          have z1 := HK2.out.at_
          have z2 := HK2.out.seg
          have z3 := HK2.out.o
          have z4 := HK2.out.f
          have z5 := HK2.out.r
          have z6 := HK2.out.c
          have z7 := HK2.out.b
          have g1 := HK2.out.fr 1
          obtain ⟨q, hq⟩ : ∃ q, y.rgt seg = q := ⟨_, rfl⟩
          rw [hq] at HY
          have HQ : Hid (rgt seg y.o y.f y.r y.c y.b = q) := hq
          clear hW2 HKR hy hq k0 k1 k3 z0 f0 hzb HX HV HC HD2 HK HK0
          go_wp2_with fail
          refine (right_any seg y.o y.f y.r y.c y.b _).mono ?_
          rintro e w3 ⟨he, hb3⟩
          rw [HQ.out] at he
          subst he
          have HK3 : Hid (PRd w3 R s seg y) := HK2.out.off (P := fun _ => False) (Off.of_below hb3) id
          have HO3 : Hid (Off (· = R) w w3) := HO2.out.trans (Off.of_below hb3)
          have z1' := HK3.out.at_
          have g1' := HK3.out.fr 1
          clear hb3 z1 z2 z3 z4 z5 z6 z7 g1
          cases q with
          | true =>
            go_wp2_with fail
            go_ret
            exact ⟨Or.inl ⟨y, HY.out, rfl, HK3.out⟩, HO3.out⟩
          | false =>
            go_wp2_with fail
            go_ret
            exact ⟨Or.inr ⟨a, HY.out, rfl, World.cell?_setCell_same _ _ _ z1'⟩, HO3.out.setCell (p := ⟨R, 1, none⟩) rfl _⟩
  · have HX : Hid (numS s seg putO x = .error a) := by unfold Hid numS okN; rw [ha, (by simpa using hd : isD (bt s a) = false)]; simp
    have HD : Hid (isD (bt s x.a) = false) := by unfold Hid; rw [ha]; simpa using hd
    clear hd h ha
    go_enter Tryd.func25, Tryd.ntmps25
    go_wp2_with fail
    refine (atDigit_any _ HR.out).mono ?_
    rintro e w1 ⟨he, n1, hw1⟩
    rw [HD.out] at he
    subst he hw1
    go_wp2_with fail
    go_ret
    exact ⟨Or.inr ⟨a, HX.out, rfl, by have := (HR.out.drewN n1).at_; rw [HA.out] at this; exact this⟩, (Off.refl _ _).drewN n1⟩

theorem PRd.wrF {w : World} {R : Nat} {s seg : ByteArray} {x : St} (h : PRd w R s seg x) (n : Int) : PRd (w.setCell ⟨R, 4, none⟩ (.int .i64 n)) R s seg (putF x n) := by
  have c0 := h.text
  have c1 := h.at_
  have c2 := h.seg
  have c3 := h.o
  have c4 := h.f
  have c5 := h.r
  have c6 := h.c
  have c7 := h.b
  exact ⟨by simp [World.cell?_setCell_other, c0], by simp [World.cell?_setCell_other, c1, putF], by simp [World.cell?_setCell_other, c2], by simp [World.cell?_setCell_other, c3, putF], World.cell?_setCell_same _ _ _ h.f, by simp [World.cell?_setCell_other, c5, putF], by simp [World.cell?_setCell_other, c6, putF], by simp [World.cell?_setCell_other, c7, putF], fun j => by rw [World.frozen?_setCell]; exact h.fr j, h.in_, h.fit⟩
set_option maxHeartbeats 4000000 in
theorem number_F {R : Nat} {s seg : ByteArray} {x : St} (w : World) (h : PRd w R s seg x) :
    Calls Tryd.prog 25 #[.pointer (some ⟨R, 0, none⟩), .pointer (some ⟨R, 4, none⟩)] w (Rs w R s seg (numS s seg putF x)) := by
  have c0 := h.text
  have c1 := h.at_
  have hs : s.size ≤ maxLen := h.fit
  unfold maxLen at hs
  have HR : Hid (PRd w R s seg x) := h
  obtain ⟨a, ha⟩ : ∃ a, x.a = a := ⟨_, rfl⟩
  have HA : Hid (x.a = a) := ha
  rw [ha] at c1
  by_cases hd : isD (bt s a) = true
  · have hl : a < s.size := isD_lt hd
    have hli : (a : Int) < s.size := by omega
    obtain ⟨d1, d2⟩ := digit_val hl hd
    have HD : Hid (isD (bt s x.a) = true) := by unfold Hid; rw [ha]; exact hd
    by_cases hz : bt s a = 48
    · have HX : Hid (numS s seg putF x = .error a) := by unfold Hid numS okN; rw [ha, hd, hz]; simp
      have hzb : ((s[a].toNat : Int) == 48) = true := by have := bt_in hl; simp; omega
      clear hd h ha hz
      go_enter Tryd.func25, Tryd.ntmps25
      go_wp2_with fail
      refine (atDigit_any _ HR.out).mono ?_
      rintro e w1 ⟨he, n1, hw1⟩
      rw [HD.out] at he
      subst he hw1
      go_wp2_with fail
      go_ret
      exact ⟨Or.inr ⟨a, HX.out, rfl, by have := (HR.out.drewN n1).at_; rw [HA.out] at this; exact this⟩, (Off.refl _ _).drewN n1⟩
    · have hzb : ((s[a].toNat : Int) == 48) = false := by have := bt_in hl; simp; omega
      have HX : Hid (numS s seg putF x = if (putF { x with a := a + cnt s a } (pv s a (cnt s a))).rgt seg then .ok (putF { x with a := a + cnt s a } (pv s a (cnt s a))) else .error a) := by
        unfold Hid numS okN; rw [ha, hd]; simp [hz]
      have HK0 : Hid (PRd (w.setCell ⟨R, 4, none⟩ (.int .i64 0)) R s seg (putF { x with a := a + 0 } (pv s a 0))) := by
        have := h.wrF 0
        unfold Hid; rw [← ha]; exact this
      have z0 := h.f
      have f0 := h.fr 4
      clear hd h ha hz
      go_enter Tryd.func25, Tryd.ntmps25
      go_wp2_with fail
      refine (atDigit_any _ HR.out).mono ?_
      rintro e w1 ⟨he, n1, hw1⟩
      rw [HD.out] at he
      subst he hw1
      go_wp2_with fail
      go_loopw [24] (fun _ wx => ∃ k : Nat, Hid ((∀ j, j < k → isD (bt s (a + j)) = true) ∧ PRd wx R s seg (putF { x with a := a + k } (pv s a k)) ∧ Off (· = R) w wx)) (fun _ wx => s.size - (intOf ((wx.cell? ⟨R, 1, none⟩).getD .nilIface)).toNat)
      case atStart => exact ⟨0, fun _ h => absurd h (by omega), by first | exact HK0.out.drewN n1 | exact HK0.out, by first | exact ((Off.refl (· = R) w).setCell (p := ⟨R, 4, none⟩) rfl _).drewN n1 | exact ((Off.refl (· = R) w).drewN n1).setCell (p := ⟨R, 4, none⟩) rfl _⟩
      case round =>
        obtain ⟨k, HK⟩ := hrel
        obtain ⟨v, hv⟩ : ∃ v, pv s a k = v := ⟨_, rfl⟩
        have HV : Hid (pv s a k = v) := hv
        have hvb : v ≤ 1000 := by rw [← hv]; unfold pv; omega
        have HKR : Hid (PRd wr R s seg (putF { x with a := a + k } (v : Int))) := by unfold Hid; rw [← hv]; exact HK.out.2.1
        have k0 := HKR.out.text
        have k1 : wr.cell? ⟨R, 1, none⟩ = some (.int .i64 ((a + k : Nat) : Int)) := HKR.out.at_
        have k3 : wr.cell? ⟨R, 4, none⟩ = some (.int .i64 (v : Int)) := HKR.out.f
        have g1 := HKR.out.fr 1
        have g3 := HKR.out.fr 4
        have hin : a + k ≤ s.size := HKR.out.in_
        clear hv
        cases hd : isD (bt s (a + k)) with
        | true =>
          have hl : a + k < s.size := isD_lt hd
          obtain ⟨b, hb⟩ : ∃ b, a + k = b := ⟨_, rfl⟩
          have HBk : Hid (a + k = b) := hb
          have HD2 : Hid (isD (bt s b) = true) := by unfold Hid; rw [← hb]; exact hd
          rw [hb] at hl k1 hin
          have hli2 : (b : Int) < s.size := by omega
          obtain ⟨d3, d4⟩ := digit_val hl HD2.out
          clear hd hb
          go_wp2_with fail
          refine (atDigit_any _ HKR.out).mono ?_
          rintro e w2 ⟨he, n2, hw2⟩
          have he2 : e = .returned (.bool true) := by rw [he]; exact ret_bool (by rw [show (putF { x with a := a + k } (v : Int)).a = b from HBk.out]; exact HD2.out)
          subst he2 hw2
          clear he
          have HK2 : Hid (PRd (wr.drewN n2) R s seg (putF { x with a := b } (v : Int))) := by unfold Hid; rw [← HBk.out]; exact HKR.out.drewN n2
          have HO2 : Hid (Off (· = R) w (wr.drewN n2)) := HK.out.2.2.drewN n2
          obtain ⟨W2, hW2⟩ : ∃ W2, wr.drewN n2 = W2 := ⟨_, rfl⟩
          rw [hW2] at HK2 HO2 ⊢
          have k0 := HK2.out.text
          have k1 : W2.cell? ⟨R, 1, none⟩ = some (.int .i64 (b : Int)) := HK2.out.at_
          have k3 : W2.cell? ⟨R, 4, none⟩ = some (.int .i64 (v : Int)) := HK2.out.f
          have g1 := HK2.out.fr 1
          have g3 := HK2.out.fr 4
          clear hW2 HKR
          go_wp2_with fail
          go_region
          have HP : Hid ((if 1000 < 10 * (v : Int) + ((s[b].toNat : Int) - 48) then 1000 else 10 * (v : Int) + ((s[b].toNat : Int) - 48)) = ((pv s a (k + 1) : Nat) : Int)) := by
            have e1 := pv_succ (s := s) (a := a) (k := k)
            have e2 := bt_in hl
            have e3 := HBk.out
            rw [HV.out, e3, e2] at e1
            unfold Hid; rw [e1]; split <;> omega
          rw [HP.out]
          have HK3 : Hid (PRd ((W2.setCell ⟨R, 4, none⟩ (.int .i64 ((pv s a (k + 1) : Nat) : Int))).drew) R s seg (putF { x with a := b } ((pv s a (k + 1) : Nat) : Int))) := (HK2.out.wrF _).drewN 1
          have HO3 : Hid (Off (· = R) w ((W2.setCell ⟨R, 4, none⟩ (.int .i64 ((pv s a (k + 1) : Nat) : Int))).drew)) := (HO2.out.setCell (p := ⟨R, 4, none⟩) rfl _).drewN 1
          obtain ⟨W3, hW3⟩ : ∃ W3, (W2.setCell ⟨R, 4, none⟩ (.int .i64 ((pv s a (k + 1) : Nat) : Int))).drew = W3 := ⟨_, rfl⟩
          rw [hW3] at HK3 HO3 ⊢
          clear hW3 HP k0 k1 k3 g1 g3
          have k1 : W3.cell? ⟨R, 1, none⟩ = some (.int .i64 (b : Int)) := HK3.out.at_
          have g1 := HK3.out.fr 1
          go_wp2_with fail
          go_roundw
          case rel =>
            refine ⟨k + 1, fun j hj => ?_, ?_, HO3.out.setCell (p := ⟨R, 1, none⟩) rfl _⟩
            · by_cases e : j = k
              · subst e; rw [HBk.out]; exact HD2.out
              · exact HK.out.1 j (by omega)
            · have := HK3.out.moved (a := b + 1) hl
              rw [show a + (k + 1) = b + 1 by have := HBk.out; omega]
              exact this
          case measure =>
            have m1 : (W3.setCell ⟨R, 1, none⟩ (.int .i64 ((b + 1 : Nat) : Int))).cell? ⟨R, 1, none⟩ = some (.int .i64 ((b + 1 : Nat) : Int)) := World.cell?_setCell_same _ _ _ k1
            have m2 : wr.cell? ⟨R, 1, none⟩ = some (.int .i64 (b : Int)) := by have := HK.out.2.1.at_; rw [show (putF { x with a := a + k } (pv s a k : Int)).a = b from HBk.out] at this; exact this
            have m3 : (((b + 1 : Nat) : Int)) = (b : Int) + 1 := by omega
            rw [m3] at m1
            simp only [m1, m2, Option.getD_some, intOf]
            omega
        | false =>
          have HC : Hid (cnt s a = k) := (cnt_run s a).one ⟨HK.out.1, hd⟩
          have HD2 : Hid (isD (bt s (putF { x with a := a + k } (v : Int)).a) = false) := hd
          clear hd
          go_wp2_with fail
          refine (atDigit_any _ HKR.out).mono ?_
          rintro e w2 ⟨he, n2, hw2⟩
          rw [HD2.out] at he
          subst he hw2
          have HK2 : Hid (PRd (wr.drewN n2) R s seg (putF { x with a := a + k } (v : Int))) := HKR.out.drewN n2
          have HO2 : Hid (Off (· = R) w (wr.drewN n2)) := HK.out.2.2.drewN n2
          obtain ⟨W2, hW2⟩ : ∃ W2, wr.drewN n2 = W2 := ⟨_, rfl⟩
          rw [hW2] at HK2 HO2 ⊢
          obtain ⟨y, hy⟩ : ∃ y, putF { x with a := a + k } (v : Int) = y := ⟨_, rfl⟩
          have HY : Hid (numS s seg putF x = if y.rgt seg then .ok y else .error a) := by
            unfold Hid; rw [HX.out, HC.out, HV.out, hy]
          rw [hy] at HK2
          have z1 := HK2.out.at_
          have z2 := HK2.out.seg
          have z3 := HK2.out.o
          have z4 := HK2.out.f
          have z5 := HK2.out.r
          have z6 := HK2.out.c
          have z7 := HK2.out.b
          have g1 := HK2.out.fr 1
          obtain ⟨q, hq⟩ : ∃ q, y.rgt seg = q := ⟨_, rfl⟩
          rw [hq] at HY
          have HQ : Hid (rgt seg y.o y.f y.r y.c y.b = q) := hq
          clear hW2 HKR hy hq k0 k1 k3 z0 f0 hzb HX HV HC HD2 HK HK0
          go_wp2_with fail
          refine (right_any seg y.o y.f y.r y.c y.b _).mono ?_
          rintro e w3 ⟨he, hb3⟩
          rw [HQ.out] at he
          subst he
          have HK3 : Hid (PRd w3 R s seg y) := HK2.out.off (P := fun _ => False) (Off.of_below hb3) id
          have HO3 : Hid (Off (· = R) w w3) := HO2.out.trans (Off.of_below hb3)
          have z1' := HK3.out.at_
          have g1' := HK3.out.fr 1
          clear hb3 z1 z2 z3 z4 z5 z6 z7 g1
          cases q with
          | true =>
            go_wp2_with fail
            go_ret
            exact ⟨Or.inl ⟨y, HY.out, rfl, HK3.out⟩, HO3.out⟩
          | false =>
            go_wp2_with fail
            go_ret
            exact ⟨Or.inr ⟨a, HY.out, rfl, World.cell?_setCell_same _ _ _ z1'⟩, HO3.out.setCell (p := ⟨R, 1, none⟩) rfl _⟩
  · have HX : Hid (numS s seg putF x = .error a) := by unfold Hid numS okN; rw [ha, (by simpa using hd : isD (bt s a) = false)]; simp
    have HD : Hid (isD (bt s x.a) = false) := by unfold Hid; rw [ha]; simpa using hd
    clear hd h ha
    go_enter Tryd.func25, Tryd.ntmps25
    go_wp2_with fail
    refine (atDigit_any _ HR.out).mono ?_
    rintro e w1 ⟨he, n1, hw1⟩
    rw [HD.out] at he
    subst he hw1
    go_wp2_with fail
    go_ret
    exact ⟨Or.inr ⟨a, HX.out, rfl, by have := (HR.out.drewN n1).at_; rw [HA.out] at this; exact this⟩, (Off.refl _ _).drewN n1⟩

theorem PRd.wrR {w : World} {R : Nat} {s seg : ByteArray} {x : St} (h : PRd w R s seg x) (n : Int) : PRd (w.setCell ⟨R, 5, none⟩ (.int .i64 n)) R s seg (putR x n) := by
  have c0 := h.text
  have c1 := h.at_
  have c2 := h.seg
  have c3 := h.o
  have c4 := h.f
  have c5 := h.r
  have c6 := h.c
  have c7 := h.b
  exact ⟨by simp [World.cell?_setCell_other, c0], by simp [World.cell?_setCell_other, c1, putR], by simp [World.cell?_setCell_other, c2], by simp [World.cell?_setCell_other, c3, putR], by simp [World.cell?_setCell_other, c4, putR], World.cell?_setCell_same _ _ _ h.r, by simp [World.cell?_setCell_other, c6, putR], by simp [World.cell?_setCell_other, c7, putR], fun j => by rw [World.frozen?_setCell]; exact h.fr j, h.in_, h.fit⟩
set_option maxHeartbeats 4000000 in
theorem number_R {R : Nat} {s seg : ByteArray} {x : St} (w : World) (h : PRd w R s seg x) :
    Calls Tryd.prog 25 #[.pointer (some ⟨R, 0, none⟩), .pointer (some ⟨R, 5, none⟩)] w (Rs w R s seg (numS s seg putR x)) := by
  have c0 := h.text
  have c1 := h.at_
  have hs : s.size ≤ maxLen := h.fit
  unfold maxLen at hs
  have HR : Hid (PRd w R s seg x) := h
  obtain ⟨a, ha⟩ : ∃ a, x.a = a := ⟨_, rfl⟩
  have HA : Hid (x.a = a) := ha
  rw [ha] at c1
  by_cases hd : isD (bt s a) = true
  · have hl : a < s.size := isD_lt hd
    have hli : (a : Int) < s.size := by omega
    obtain ⟨d1, d2⟩ := digit_val hl hd
    have HD : Hid (isD (bt s x.a) = true) := by unfold Hid; rw [ha]; exact hd
    by_cases hz : bt s a = 48
    · have HX : Hid (numS s seg putR x = .error a) := by unfold Hid numS okN; rw [ha, hd, hz]; simp
      have hzb : ((s[a].toNat : Int) == 48) = true := by have := bt_in hl; simp; omega
      clear hd h ha hz
      go_enter Tryd.func25, Tryd.ntmps25
      go_wp2_with fail
      refine (atDigit_any _ HR.out).mono ?_
      rintro e w1 ⟨he, n1, hw1⟩
      rw [HD.out] at he
      subst he hw1
      go_wp2_with fail
      go_ret
      exact ⟨Or.inr ⟨a, HX.out, rfl, by have := (HR.out.drewN n1).at_; rw [HA.out] at this; exact this⟩, (Off.refl _ _).drewN n1⟩
    · have hzb : ((s[a].toNat : Int) == 48) = false := by have := bt_in hl; simp; omega
      have HX : Hid (numS s seg putR x = if (putR { x with a := a + cnt s a } (pv s a (cnt s a))).rgt seg then .ok (putR { x with a := a + cnt s a } (pv s a (cnt s a))) else .error a) := by
        unfold Hid numS okN; rw [ha, hd]; simp [hz]
      have HK0 : Hid (PRd (w.setCell ⟨R, 5, none⟩ (.int .i64 0)) R s seg (putR { x with a := a + 0 } (pv s a 0))) := by
        have := h.wrR 0
        unfold Hid; rw [← ha]; exact this
      have z0 := h.r
      have f0 := h.fr 5
      clear hd h ha hz
      go_enter Tryd.func25, Tryd.ntmps25
      go_wp2_with fail
      refine (atDigit_any _ HR.out).mono ?_
      rintro e w1 ⟨he, n1, hw1⟩
      rw [HD.out] at he
      subst he hw1
      go_wp2_with fail
      go_loopw [24] (fun _ wx => ∃ k : Nat, Hid ((∀ j, j < k → isD (bt s (a + j)) = true) ∧ PRd wx R s seg (putR { x with a := a + k } (pv s a k)) ∧ Off (· = R) w wx)) (fun _ wx => s.size - (intOf ((wx.cell? ⟨R, 1, none⟩).getD .nilIface)).toNat)
      case atStart => exact ⟨0, fun _ h => absurd h (by omega), by first | exact HK0.out.drewN n1 | exact HK0.out, by first | exact ((Off.refl (· = R) w).setCell (p := ⟨R, 5, none⟩) rfl _).drewN n1 | exact ((Off.refl (· = R) w).drewN n1).setCell (p := ⟨R, 5, none⟩) rfl _⟩
      case round =>
        obtain ⟨k, HK⟩ := hrel
        obtain ⟨v, hv⟩ : ∃ v, pv s a k = v := ⟨_, rfl⟩
        have HV : Hid (pv s a k = v) := hv
        have hvb : v ≤ 1000 := by rw [← hv]; unfold pv; omega
        have HKR : Hid (PRd wr R s seg (putR { x with a := a + k } (v : Int))) := by unfold Hid; rw [← hv]; exact HK.out.2.1
        have k0 := HKR.out.text
        have k1 : wr.cell? ⟨R, 1, none⟩ = some (.int .i64 ((a + k : Nat) : Int)) := HKR.out.at_
        have k3 : wr.cell? ⟨R, 5, none⟩ = some (.int .i64 (v : Int)) := HKR.out.r
        have g1 := HKR.out.fr 1
        have g3 := HKR.out.fr 5
        have hin : a + k ≤ s.size := HKR.out.in_
        clear hv
        cases hd : isD (bt s (a + k)) with
        | true =>
          have hl : a + k < s.size := isD_lt hd
          obtain ⟨b, hb⟩ : ∃ b, a + k = b := ⟨_, rfl⟩
          have HBk : Hid (a + k = b) := hb
          have HD2 : Hid (isD (bt s b) = true) := by unfold Hid; rw [← hb]; exact hd
          rw [hb] at hl k1 hin
          have hli2 : (b : Int) < s.size := by omega
          obtain ⟨d3, d4⟩ := digit_val hl HD2.out
          clear hd hb
          go_wp2_with fail
          refine (atDigit_any _ HKR.out).mono ?_
          rintro e w2 ⟨he, n2, hw2⟩
          have he2 : e = .returned (.bool true) := by rw [he]; exact ret_bool (by rw [show (putR { x with a := a + k } (v : Int)).a = b from HBk.out]; exact HD2.out)
          subst he2 hw2
          clear he
          have HK2 : Hid (PRd (wr.drewN n2) R s seg (putR { x with a := b } (v : Int))) := by unfold Hid; rw [← HBk.out]; exact HKR.out.drewN n2
          have HO2 : Hid (Off (· = R) w (wr.drewN n2)) := HK.out.2.2.drewN n2
          obtain ⟨W2, hW2⟩ : ∃ W2, wr.drewN n2 = W2 := ⟨_, rfl⟩
          rw [hW2] at HK2 HO2 ⊢
          have k0 := HK2.out.text
          have k1 : W2.cell? ⟨R, 1, none⟩ = some (.int .i64 (b : Int)) := HK2.out.at_
          have k3 : W2.cell? ⟨R, 5, none⟩ = some (.int .i64 (v : Int)) := HK2.out.r
          have g1 := HK2.out.fr 1
          have g3 := HK2.out.fr 5
          clear hW2 HKR
          go_wp2_with fail
          go_region
          have HP : Hid ((if 1000 < 10 * (v : Int) + ((s[b].toNat : Int) - 48) then 1000 else 10 * (v : Int) + ((s[b].toNat : Int) - 48)) = ((pv s a (k + 1) : Nat) : Int)) := by
            have e1 := pv_succ (s := s) (a := a) (k := k)
            have e2 := bt_in hl
            have e3 := HBk.out
            rw [HV.out, e3, e2] at e1
            unfold Hid; rw [e1]; split <;> omega
          rw [HP.out]
          have HK3 : Hid (PRd ((W2.setCell ⟨R, 5, none⟩ (.int .i64 ((pv s a (k + 1) : Nat) : Int))).drew) R s seg (putR { x with a := b } ((pv s a (k + 1) : Nat) : Int))) := (HK2.out.wrR _).drewN 1
          have HO3 : Hid (Off (· = R) w ((W2.setCell ⟨R, 5, none⟩ (.int .i64 ((pv s a (k + 1) : Nat) : Int))).drew)) := (HO2.out.setCell (p := ⟨R, 5, none⟩) rfl _).drewN 1
          obtain ⟨W3, hW3⟩ : ∃ W3, (W2.setCell ⟨R, 5, none⟩ (.int .i64 ((pv s a (k + 1) : Nat) : Int))).drew = W3 := ⟨_, rfl⟩
          rw [hW3] at HK3 HO3 ⊢
          clear hW3 HP k0 k1 k3 g1 g3
          have k1 : W3.cell? ⟨R, 1, none⟩ = some (.int .i64 (b : Int)) := HK3.out.at_
          have g1 := HK3.out.fr 1
          go_wp2_with fail
          go_roundw
          case rel =>
            refine ⟨k + 1, fun j hj => ?_, ?_, HO3.out.setCell (p := ⟨R, 1, none⟩) rfl _⟩
            · by_cases e : j = k
              · subst e; rw [HBk.out]; exact HD2.out
              · exact HK.out.1 j (by omega)
            · have := HK3.out.moved (a := b + 1) hl
              rw [show a + (k + 1) = b + 1 by have := HBk.out; omega]
              exact this
          case measure =>
            have m1 : (W3.setCell ⟨R, 1, none⟩ (.int .i64 ((b + 1 : Nat) : Int))).cell? ⟨R, 1, none⟩ = some (.int .i64 ((b + 1 : Nat) : Int)) := World.cell?_setCell_same _ _ _ k1
            have m2 : wr.cell? ⟨R, 1, none⟩ = some (.int .i64 (b : Int)) := by have := HK.out.2.1.at_; rw [show (putR { x with a := a + k } (pv s a k : Int)).a = b from HBk.out] at this; exact this
            have m3 : (((b + 1 : Nat) : Int)) = (b : Int) + 1 := by omega
            rw [m3] at m1
            simp only [m1, m2, Option.getD_some, intOf]
            omega
        | false =>
          have HC : Hid (cnt s a = k) := (cnt_run s a).one ⟨HK.out.1, hd⟩
          have HD2 : Hid (isD (bt s (putR { x with a := a + k } (v : Int)).a) = false) := hd
          clear hd
          go_wp2_with fail
          refine (atDigit_any _ HKR.out).mono ?_
          rintro e w2 ⟨he, n2, hw2⟩
          rw [HD2.out] at he
          subst he hw2
          have HK2 : Hid (PRd (wr.drewN n2) R s seg (putR { x with a := a + k } (v : Int))) := HKR.out.drewN n2
          have HO2 : Hid (Off (· = R) w (wr.drewN n2)) := HK.out.2.2.drewN n2
          obtain ⟨W2, hW2⟩ : ∃ W2, wr.drewN n2 = W2 := ⟨_, rfl⟩
          rw [hW2] at HK2 HO2 ⊢
          obtain ⟨y, hy⟩ : ∃ y, putR { x with a := a + k } (v : Int) = y := ⟨_, rfl⟩
          have HY : Hid (numS s seg putR x = if y.rgt seg then .ok y else .error a) := by
            unfold Hid; rw [HX.out, HC.out, HV.out, hy]
          rw [hy] at HK2
          have z1 := HK2.out.at_
          have z2 := HK2.out.seg
          have z3 := HK2.out.o
          have z4 := HK2.out.f
          have z5 := HK2.out.r
          have z6 := HK2.out.c
          have z7 := HK2.out.b
          have g1 := HK2.out.fr 1
          obtain ⟨q, hq⟩ : ∃ q, y.rgt seg = q := ⟨_, rfl⟩
          rw [hq] at HY
          have HQ : Hid (rgt seg y.o y.f y.r y.c y.b = q) := hq
          clear hW2 HKR hy hq k0 k1 k3 z0 f0 hzb HX HV HC HD2 HK HK0
          go_wp2_with fail
          refine (right_any seg y.o y.f y.r y.c y.b _).mono ?_
          rintro e w3 ⟨he, hb3⟩
          rw [HQ.out] at he
          subst he
          have HK3 : Hid (PRd w3 R s seg y) := HK2.out.off (P := fun _ => False) (Off.of_below hb3) id
          have HO3 : Hid (Off (· = R) w w3) := HO2.out.trans (Off.of_below hb3)
          have z1' := HK3.out.at_
          have g1' := HK3.out.fr 1
          clear hb3 z1 z2 z3 z4 z5 z6 z7 g1
          cases q with
          | true =>
            go_wp2_with fail
            go_ret
            exact ⟨Or.inl ⟨y, HY.out, rfl, HK3.out⟩, HO3.out⟩
          | false =>
            go_wp2_with fail
            go_ret
            exact ⟨Or.inr ⟨a, HY.out, rfl, World.cell?_setCell_same _ _ _ z1'⟩, HO3.out.setCell (p := ⟨R, 1, none⟩) rfl _⟩
  · have HX : Hid (numS s seg putR x = .error a) := by unfold Hid numS okN; rw [ha, (by simpa using hd : isD (bt s a) = false)]; simp
    have HD : Hid (isD (bt s x.a) = false) := by unfold Hid; rw [ha]; simpa using hd
    clear hd h ha
    go_enter Tryd.func25, Tryd.ntmps25
    go_wp2_with fail
    refine (atDigit_any _ HR.out).mono ?_
    rintro e w1 ⟨he, n1, hw1⟩
    rw [HD.out] at he
    subst he hw1
    go_wp2_with fail
    go_ret
    exact ⟨Or.inr ⟨a, HX.out, rfl, by have := (HR.out.drewN n1).at_; rw [HA.out] at this; exact this⟩, (Off.refl _ _).drewN n1⟩

theorem PRd.wrC {w : World} {R : Nat} {s seg : ByteArray} {x : St} (h : PRd w R s seg x) (n : Int) : PRd (w.setCell ⟨R, 6, none⟩ (.int .i64 n)) R s seg (putC x n) := by
  have c0 := h.text
  have c1 := h.at_
  have c2 := h.seg
  have c3 := h.o
  have c4 := h.f
  have c5 := h.r
  have c6 := h.c
  have c7 := h.b
  exact ⟨by simp [World.cell?_setCell_other, c0], by simp [World.cell?_setCell_other, c1, putC], by simp [World.cell?_setCell_other, c2], by simp [World.cell?_setCell_other, c3, putC], by simp [World.cell?_setCell_other, c4, putC], by simp [World.cell?_setCell_other, c5, putC], World.cell?_setCell_same _ _ _ h.c, by simp [World.cell?_setCell_other, c7, putC], fun j => by rw [World.frozen?_setCell]; exact h.fr j, h.in_, h.fit⟩
set_option maxHeartbeats 4000000 in
theorem number_C {R : Nat} {s seg : ByteArray} {x : St} (w : World) (h : PRd w R s seg x) :
    Calls Tryd.prog 25 #[.pointer (some ⟨R, 0, none⟩), .pointer (some ⟨R, 6, none⟩)] w (Rs w R s seg (numS s seg putC x)) := by
  have c0 := h.text
  have c1 := h.at_
  have hs : s.size ≤ maxLen := h.fit
  unfold maxLen at hs
  have HR : Hid (PRd w R s seg x) := h
  obtain ⟨a, ha⟩ : ∃ a, x.a = a := ⟨_, rfl⟩
  have HA : Hid (x.a = a) := ha
  rw [ha] at c1
  by_cases hd : isD (bt s a) = true
  · have hl : a < s.size := isD_lt hd
    have hli : (a : Int) < s.size := by omega
    obtain ⟨d1, d2⟩ := digit_val hl hd
    have HD : Hid (isD (bt s x.a) = true) := by unfold Hid; rw [ha]; exact hd
    by_cases hz : bt s a = 48
    · have HX : Hid (numS s seg putC x = .error a) := by unfold Hid numS okN; rw [ha, hd, hz]; simp
      have hzb : ((s[a].toNat : Int) == 48) = true := by have := bt_in hl; simp; omega
      clear hd h ha hz
      go_enter Tryd.func25, Tryd.ntmps25
      go_wp2_with fail
      refine (atDigit_any _ HR.out).mono ?_
      rintro e w1 ⟨he, n1, hw1⟩
      rw [HD.out] at he
      subst he hw1
      go_wp2_with fail
      go_ret
      exact ⟨Or.inr ⟨a, HX.out, rfl, by have := (HR.out.drewN n1).at_; rw [HA.out] at this; exact this⟩, (Off.refl _ _).drewN n1⟩
    · have hzb : ((s[a].toNat : Int) == 48) = false := by have := bt_in hl; simp; omega
      have HX : Hid (numS s seg putC x = if (putC { x with a := a + cnt s a } (pv s a (cnt s a))).rgt seg then .ok (putC { x with a := a + cnt s a } (pv s a (cnt s a))) else .error a) := by
        unfold Hid numS okN; rw [ha, hd]; simp [hz]
      have HK0 : Hid (PRd (w.setCell ⟨R, 6, none⟩ (.int .i64 0)) R s seg (putC { x with a := a + 0 } (pv s a 0))) := by
        have := h.wrC 0
        unfold Hid; rw [← ha]; exact this
      have z0 := h.c
      have f0 := h.fr 6
      clear hd h ha hz
      go_enter Tryd.func25, Tryd.ntmps25
      go_wp2_with fail
      refine (atDigit_any _ HR.out).mono ?_
      rintro e w1 ⟨he, n1, hw1⟩
      rw [HD.out] at he
      subst he hw1
      go_wp2_with fail
      go_loopw [24] (fun _ wx => ∃ k : Nat, Hid ((∀ j, j < k → isD (bt s (a + j)) = true) ∧ PRd wx R s seg (putC { x with a := a + k } (pv s a k)) ∧ Off (· = R) w wx)) (fun _ wx => s.size - (intOf ((wx.cell? ⟨R, 1, none⟩).getD .nilIface)).toNat)
      case atStart => exact ⟨0, fun _ h => absurd h (by omega), by first | exact HK0.out.drewN n1 | exact HK0.out, by first | exact ((Off.refl (· = R) w).setCell (p := ⟨R, 6, none⟩) rfl _).drewN n1 | exact ((Off.refl (· = R) w).drewN n1).setCell (p := ⟨R, 6, none⟩) rfl _⟩
      case round =>
        obtain ⟨k, HK⟩ := hrel
        obtain ⟨v, hv⟩ : ∃ v, pv s a k = v := ⟨_, rfl⟩
        have HV : Hid (pv s a k = v) := hv
        have hvb : v ≤ 1000 := by rw [← hv]; unfold pv; omega
        have HKR : Hid (PRd wr R s seg (putC { x with a := a + k } (v : Int))) := by unfold Hid; rw [← hv]; exact HK.out.2.1
        have k0 := HKR.out.text
        have k1 : wr.cell? ⟨R, 1, none⟩ = some (.int .i64 ((a + k : Nat) : Int)) := HKR.out.at_
        have k3 : wr.cell? ⟨R, 6, none⟩ = some (.int .i64 (v : Int)) := HKR.out.c
        have g1 := HKR.out.fr 1
        have g3 := HKR.out.fr 6
        have hin : a + k ≤ s.size := HKR.out.in_
        clear hv
        cases hd : isD (bt s (a + k)) with
        | true =>
          have hl : a + k < s.size := isD_lt hd
          obtain ⟨b, hb⟩ : ∃ b, a + k = b := ⟨_, rfl⟩
          have HBk : Hid (a + k = b) := hb
          have HD2 : Hid (isD (bt s b) = true) := by unfold Hid; rw [← hb]; exact hd
          rw [hb] at hl k1 hin
          have hli2 : (b : Int) < s.size := by omega
          obtain ⟨d3, d4⟩ := digit_val hl HD2.out
          clear hd hb
          go_wp2_with fail
          refine (atDigit_any _ HKR.out).mono ?_
          rintro e w2 ⟨he, n2, hw2⟩
          have he2 : e = .returned (.bool true) := by rw [he]; exact ret_bool (by rw [show (putC { x with a := a + k } (v : Int)).a = b from HBk.out]; exact HD2.out)
          subst he2 hw2
          clear he
          have HK2 : Hid (PRd (wr.drewN n2) R s seg (putC { x with a := b } (v : Int))) := by unfold Hid; rw [← HBk.out]; exact HKR.out.drewN n2
          have HO2 : Hid (Off (· = R) w (wr.drewN n2)) := HK.out.2.2.drewN n2
          obtain ⟨W2, hW2⟩ : ∃ W2, wr.drewN n2 = W2 := ⟨_, rfl⟩
          rw [hW2] at HK2 HO2 ⊢
          have k0 := HK2.out.text
          have k1 : W2.cell? ⟨R, 1, none⟩ = some (.int .i64 (b : Int)) := HK2.out.at_
          have k3 : W2.cell? ⟨R, 6, none⟩ = some (.int .i64 (v : Int)) := HK2.out.c
          have g1 := HK2.out.fr 1
          have g3 := HK2.out.fr 6
          clear hW2 HKR
          go_wp2_with fail
          go_region
          have HP : Hid ((if 1000 < 10 * (v : Int) + ((s[b].toNat : Int) - 48) then 1000 else 10 * (v : Int) + ((s[b].toNat : Int) - 48)) = ((pv s a (k + 1) : Nat) : Int)) := by
            have e1 := pv_succ (s := s) (a := a) (k := k)
            have e2 := bt_in hl
            have e3 := HBk.out
            rw [HV.out, e3, e2] at e1
            unfold Hid; rw [e1]; split <;> omega
          rw [HP.out]
          have HK3 : Hid (PRd ((W2.setCell ⟨R, 6, none⟩ (.int .i64 ((pv s a (k + 1) : Nat) : Int))).drew) R s seg (putC { x with a := b } ((pv s a (k + 1) : Nat) : Int))) := (HK2.out.wrC _).drewN 1
          have HO3 : Hid (Off (· = R) w ((W2.setCell ⟨R, 6, none⟩ (.int .i64 ((pv s a (k + 1) : Nat) : Int))).drew)) := (HO2.out.setCell (p := ⟨R, 6, none⟩) rfl _).drewN 1
          obtain ⟨W3, hW3⟩ : ∃ W3, (W2.setCell ⟨R, 6, none⟩ (.int .i64 ((pv s a (k + 1) : Nat) : Int))).drew = W3 := ⟨_, rfl⟩
          rw [hW3] at HK3 HO3 ⊢
          clear hW3 HP k0 k1 k3 g1 g3
          have k1 : W3.cell? ⟨R, 1, none⟩ = some (.int .i64 (b : Int)) := HK3.out.at_
          have g1 := HK3.out.fr 1
          go_wp2_with fail
          go_roundw
          case rel =>
            refine ⟨k + 1, fun j hj => ?_, ?_, HO3.out.setCell (p := ⟨R, 1, none⟩) rfl _⟩
            · by_cases e : j = k
              · subst e; rw [HBk.out]; exact HD2.out
              · exact HK.out.1 j (by omega)
            · have := HK3.out.moved (a := b + 1) hl
              rw [show a + (k + 1) = b + 1 by have := HBk.out; omega]
              exact this
          case measure =>
            have m1 : (W3.setCell ⟨R, 1, none⟩ (.int .i64 ((b + 1 : Nat) : Int))).cell? ⟨R, 1, none⟩ = some (.int .i64 ((b + 1 : Nat) : Int)) := World.cell?_setCell_same _ _ _ k1
            have m2 : wr.cell? ⟨R, 1, none⟩ = some (.int .i64 (b : Int)) := by have := HK.out.2.1.at_; rw [show (putC { x with a := a + k } (pv s a k : Int)).a = b from HBk.out] at this; exact this
            have m3 : (((b + 1 : Nat) : Int)) = (b : Int) + 1 := by omega
            rw [m3] at m1
            simp only [m1, m2, Option.getD_some, intOf]
            omega
        | false =>
          have HC : Hid (cnt s a = k) := (cnt_run s a).one ⟨HK.out.1, hd⟩
          have HD2 : Hid (isD (bt s (putC { x with a := a + k } (v : Int)).a) = false) := hd
          clear hd
          go_wp2_with fail
          refine (atDigit_any _ HKR.out).mono ?_
          rintro e w2 ⟨he, n2, hw2⟩
          rw [HD2.out] at he
          subst he hw2
          have HK2 : Hid (PRd (wr.drewN n2) R s seg (putC { x with a := a + k } (v : Int))) := HKR.out.drewN n2
          have HO2 : Hid (Off (· = R) w (wr.drewN n2)) := HK.out.2.2.drewN n2
          obtain ⟨W2, hW2⟩ : ∃ W2, wr.drewN n2 = W2 := ⟨_, rfl⟩
          rw [hW2] at HK2 HO2 ⊢
          obtain ⟨y, hy⟩ : ∃ y, putC { x with a := a + k } (v : Int) = y := ⟨_, rfl⟩
          have HY : Hid (numS s seg putC x = if y.rgt seg then .ok y else .error a) := by
            unfold Hid; rw [HX.out, HC.out, HV.out, hy]
          rw [hy] at HK2
          have z1 := HK2.out.at_
          have z2 := HK2.out.seg
          have z3 := HK2.out.o
          have z4 := HK2.out.f
          have z5 := HK2.out.r
          have z6 := HK2.out.c
          have z7 := HK2.out.b
          have g1 := HK2.out.fr 1
          obtain ⟨q, hq⟩ : ∃ q, y.rgt seg = q := ⟨_, rfl⟩
          rw [hq] at HY
          have HQ : Hid (rgt seg y.o y.f y.r y.c y.b = q) := hq
          clear hW2 HKR hy hq k0 k1 k3 z0 f0 hzb HX HV HC HD2 HK HK0
          go_wp2_with fail
          refine (right_any seg y.o y.f y.r y.c y.b _).mono ?_
          rintro e w3 ⟨he, hb3⟩
          rw [HQ.out] at he
          subst he
          have HK3 : Hid (PRd w3 R s seg y) := HK2.out.off (P := fun _ => False) (Off.of_below hb3) id
          have HO3 : Hid (Off (· = R) w w3) := HO2.out.trans (Off.of_below hb3)
          have z1' := HK3.out.at_
          have g1' := HK3.out.fr 1
          clear hb3 z1 z2 z3 z4 z5 z6 z7 g1
          cases q with
          | true =>
            go_wp2_with fail
            go_ret
            exact ⟨Or.inl ⟨y, HY.out, rfl, HK3.out⟩, HO3.out⟩
          | false =>
            go_wp2_with fail
            go_ret
            exact ⟨Or.inr ⟨a, HY.out, rfl, World.cell?_setCell_same _ _ _ z1'⟩, HO3.out.setCell (p := ⟨R, 1, none⟩) rfl _⟩
  · have HX : Hid (numS s seg putC x = .error a) := by unfold Hid numS okN; rw [ha, (by simpa using hd : isD (bt s a) = false)]; simp
    have HD : Hid (isD (bt s x.a) = false) := by unfold Hid; rw [ha]; simpa using hd
    clear hd h ha
    go_enter Tryd.func25, Tryd.ntmps25
    go_wp2_with fail
    refine (atDigit_any _ HR.out).mono ?_
    rintro e w1 ⟨he, n1, hw1⟩
    rw [HD.out] at he
    subst he hw1
    go_wp2_with fail
    go_ret
    exact ⟨Or.inr ⟨a, HX.out, rfl, by have := (HR.out.drewN n1).at_; rw [HA.out] at this; exact this⟩, (Off.refl _ _).drewN n1⟩

theorem PRd.wrB {w : World} {R : Nat} {s seg : ByteArray} {x : St} (h : PRd w R s seg x) (n : Int) : PRd (w.setCell ⟨R, 7, none⟩ (.int .i64 n)) R s seg (putB x n) := by
  have c0 := h.text
  have c1 := h.at_
  have c2 := h.seg
  have c3 := h.o
  have c4 := h.f
  have c5 := h.r
  have c6 := h.c
  have c7 := h.b
  exact ⟨by simp [World.cell?_setCell_other, c0], by simp [World.cell?_setCell_other, c1, putB], by simp [World.cell?_setCell_other, c2], by simp [World.cell?_setCell_other, c3, putB], by simp [World.cell?_setCell_other, c4, putB], by simp [World.cell?_setCell_other, c5, putB], by simp [World.cell?_setCell_other, c6, putB], World.cell?_setCell_same _ _ _ h.b, fun j => by rw [World.frozen?_setCell]; exact h.fr j, h.in_, h.fit⟩
set_option maxHeartbeats 4000000 in
theorem number_B {R : Nat} {s seg : ByteArray} {x : St} (w : World) (h : PRd w R s seg x) :
    Calls Tryd.prog 25 #[.pointer (some ⟨R, 0, none⟩), .pointer (some ⟨R, 7, none⟩)] w (Rs w R s seg (numS s seg putB x)) := by
  have c0 := h.text
  have c1 := h.at_
  have hs : s.size ≤ maxLen := h.fit
  unfold maxLen at hs
  have HR : Hid (PRd w R s seg x) := h
  obtain ⟨a, ha⟩ : ∃ a, x.a = a := ⟨_, rfl⟩
  have HA : Hid (x.a = a) := ha
  rw [ha] at c1
  by_cases hd : isD (bt s a) = true
  · have hl : a < s.size := isD_lt hd
    have hli : (a : Int) < s.size := by omega
    obtain ⟨d1, d2⟩ := digit_val hl hd
    have HD : Hid (isD (bt s x.a) = true) := by unfold Hid; rw [ha]; exact hd
    by_cases hz : bt s a = 48
    · have HX : Hid (numS s seg putB x = .error a) := by unfold Hid numS okN; rw [ha, hd, hz]; simp
      have hzb : ((s[a].toNat : Int) == 48) = true := by have := bt_in hl; simp; omega
      clear hd h ha hz
      go_enter Tryd.func25, Tryd.ntmps25
      go_wp2_with fail
      refine (atDigit_any _ HR.out).mono ?_
      rintro e w1 ⟨he, n1, hw1⟩
      rw [HD.out] at he
      subst he hw1
      go_wp2_with fail
      go_ret
      exact ⟨Or.inr ⟨a, HX.out, rfl, by have := (HR.out.drewN n1).at_; rw [HA.out] at this; exact this⟩, (Off.refl _ _).drewN n1⟩
    · have hzb : ((s[a].toNat : Int) == 48) = false := by have := bt_in hl; simp; omega
      have HX : Hid (numS s seg putB x = if (putB { x with a := a + cnt s a } (pv s a (cnt s a))).rgt seg then .ok (putB { x with a := a + cnt s a } (pv s a (cnt s a))) else .error a) := by
        unfold Hid numS okN; rw [ha, hd]; simp [hz]
      have HK0 : Hid (PRd (w.setCell ⟨R, 7, none⟩ (.int .i64 0)) R s seg (putB { x with a := a + 0 } (pv s a 0))) := by
        have := h.wrB 0
        unfold Hid; rw [← ha]; exact this
      have z0 := h.b
      have f0 := h.fr 7
      clear hd h ha hz
      go_enter Tryd.func25, Tryd.ntmps25
      go_wp2_with fail
      refine (atDigit_any _ HR.out).mono ?_
      rintro e w1 ⟨he, n1, hw1⟩
      rw [HD.out] at he
      subst he hw1
      go_wp2_with fail
      go_loopw [24] (fun _ wx => ∃ k : Nat, Hid ((∀ j, j < k → isD (bt s (a + j)) = true) ∧ PRd wx R s seg (putB { x with a := a + k } (pv s a k)) ∧ Off (· = R) w wx)) (fun _ wx => s.size - (intOf ((wx.cell? ⟨R, 1, none⟩).getD .nilIface)).toNat)
      case atStart => exact ⟨0, fun _ h => absurd h (by omega), by first | exact HK0.out.drewN n1 | exact HK0.out, by first | exact ((Off.refl (· = R) w).setCell (p := ⟨R, 7, none⟩) rfl _).drewN n1 | exact ((Off.refl (· = R) w).drewN n1).setCell (p := ⟨R, 7, none⟩) rfl _⟩
      case round =>
        obtain ⟨k, HK⟩ := hrel
        obtain ⟨v, hv⟩ : ∃ v, pv s a k = v := ⟨_, rfl⟩
        have HV : Hid (pv s a k = v) := hv
        have hvb : v ≤ 1000 := by rw [← hv]; unfold pv; omega
        have HKR : Hid (PRd wr R s seg (putB { x with a := a + k } (v : Int))) := by unfold Hid; rw [← hv]; exact HK.out.2.1
        have k0 := HKR.out.text
        have k1 : wr.cell? ⟨R, 1, none⟩ = some (.int .i64 ((a + k : Nat) : Int)) := HKR.out.at_
        have k3 : wr.cell? ⟨R, 7, none⟩ = some (.int .i64 (v : Int)) := HKR.out.b
        have g1 := HKR.out.fr 1
        have g3 := HKR.out.fr 7
        have hin : a + k ≤ s.size := HKR.out.in_
        clear hv
        cases hd : isD (bt s (a + k)) with
        | true =>
          have hl : a + k < s.size := isD_lt hd
          obtain ⟨b, hb⟩ : ∃ b, a + k = b := ⟨_, rfl⟩
          have HBk : Hid (a + k = b) := hb
          have HD2 : Hid (isD (bt s b) = true) := by unfold Hid; rw [← hb]; exact hd
          rw [hb] at hl k1 hin
          have hli2 : (b : Int) < s.size := by omega
          obtain ⟨d3, d4⟩ := digit_val hl HD2.out
          clear hd hb
          go_wp2_with fail
          refine (atDigit_any _ HKR.out).mono ?_
          rintro e w2 ⟨he, n2, hw2⟩
          have he2 : e = .returned (.bool true) := by rw [he]; exact ret_bool (by rw [show (putB { x with a := a + k } (v : Int)).a = b from HBk.out]; exact HD2.out)
          subst he2 hw2
          clear he
          have HK2 : Hid (PRd (wr.drewN n2) R s seg (putB { x with a := b } (v : Int))) := by unfold Hid; rw [← HBk.out]; exact HKR.out.drewN n2
          have HO2 : Hid (Off (· = R) w (wr.drewN n2)) := HK.out.2.2.drewN n2
          obtain ⟨W2, hW2⟩ : ∃ W2, wr.drewN n2 = W2 := ⟨_, rfl⟩
          rw [hW2] at HK2 HO2 ⊢
          have k0 := HK2.out.text
          have k1 : W2.cell? ⟨R, 1, none⟩ = some (.int .i64 (b : Int)) := HK2.out.at_
          have k3 : W2.cell? ⟨R, 7, none⟩ = some (.int .i64 (v : Int)) := HK2.out.b
          have g1 := HK2.out.fr 1
          have g3 := HK2.out.fr 7
          clear hW2 HKR
          go_wp2_with fail
          go_region
          have HP : Hid ((if 1000 < 10 * (v : Int) + ((s[b].toNat : Int) - 48) then 1000 else 10 * (v : Int) + ((s[b].toNat : Int) - 48)) = ((pv s a (k + 1) : Nat) : Int)) := by
            have e1 := pv_succ (s := s) (a := a) (k := k)
            have e2 := bt_in hl
            have e3 := HBk.out
            rw [HV.out, e3, e2] at e1
            unfold Hid; rw [e1]; split <;> omega
          rw [HP.out]
          have HK3 : Hid (PRd ((W2.setCell ⟨R, 7, none⟩ (.int .i64 ((pv s a (k + 1) : Nat) : Int))).drew) R s seg (putB { x with a := b } ((pv s a (k + 1) : Nat) : Int))) := (HK2.out.wrB _).drewN 1
          have HO3 : Hid (Off (· = R) w ((W2.setCell ⟨R, 7, none⟩ (.int .i64 ((pv s a (k + 1) : Nat) : Int))).drew)) := (HO2.out.setCell (p := ⟨R, 7, none⟩) rfl _).drewN 1
          obtain ⟨W3, hW3⟩ : ∃ W3, (W2.setCell ⟨R, 7, none⟩ (.int .i64 ((pv s a (k + 1) : Nat) : Int))).drew = W3 := ⟨_, rfl⟩
          rw [hW3] at HK3 HO3 ⊢
          clear hW3 HP k0 k1 k3 g1 g3
          have k1 : W3.cell? ⟨R, 1, none⟩ = some (.int .i64 (b : Int)) := HK3.out.at_
          have g1 := HK3.out.fr 1
          go_wp2_with fail
          go_roundw
          case rel =>
            refine ⟨k + 1, fun j hj => ?_, ?_, HO3.out.setCell (p := ⟨R, 1, none⟩) rfl _⟩
            · by_cases e : j = k
              · subst e; rw [HBk.out]; exact HD2.out
              · exact HK.out.1 j (by omega)
            · have := HK3.out.moved (a := b + 1) hl
              rw [show a + (k + 1) = b + 1 by have := HBk.out; omega]
              exact this
          case measure =>
            have m1 : (W3.setCell ⟨R, 1, none⟩ (.int .i64 ((b + 1 : Nat) : Int))).cell? ⟨R, 1, none⟩ = some (.int .i64 ((b + 1 : Nat) : Int)) := World.cell?_setCell_same _ _ _ k1
            have m2 : wr.cell? ⟨R, 1, none⟩ = some (.int .i64 (b : Int)) := by have := HK.out.2.1.at_; rw [show (putB { x with a := a + k } (pv s a k : Int)).a = b from HBk.out] at this; exact this
            have m3 : (((b + 1 : Nat) : Int)) = (b : Int) + 1 := by omega
            rw [m3] at m1
            simp only [m1, m2, Option.getD_some, intOf]
            omega
        | false =>
          have HC : Hid (cnt s a = k) := (cnt_run s a).one ⟨HK.out.1, hd⟩
          have HD2 : Hid (isD (bt s (putB { x with a := a + k } (v : Int)).a) = false) := hd
          clear hd
          go_wp2_with fail
          refine (atDigit_any _ HKR.out).mono ?_
          rintro e w2 ⟨he, n2, hw2⟩
          rw [HD2.out] at he
          subst he hw2
          have HK2 : Hid (PRd (wr.drewN n2) R s seg (putB { x with a := a + k } (v : Int))) := HKR.out.drewN n2
          have HO2 : Hid (Off (· = R) w (wr.drewN n2)) := HK.out.2.2.drewN n2
          obtain ⟨W2, hW2⟩ : ∃ W2, wr.drewN n2 = W2 := ⟨_, rfl⟩
          rw [hW2] at HK2 HO2 ⊢
          obtain ⟨y, hy⟩ : ∃ y, putB { x with a := a + k } (v : Int) = y := ⟨_, rfl⟩
          have HY : Hid (numS s seg putB x = if y.rgt seg then .ok y else .error a) := by
            unfold Hid; rw [HX.out, HC.out, HV.out, hy]
          rw [hy] at HK2
          have z1 := HK2.out.at_
          have z2 := HK2.out.seg
          have z3 := HK2.out.o
          have z4 := HK2.out.f
          have z5 := HK2.out.r
          have z6 := HK2.out.c
          have z7 := HK2.out.b
          have g1 := HK2.out.fr 1
          obtain ⟨q, hq⟩ : ∃ q, y.rgt seg = q := ⟨_, rfl⟩
          rw [hq] at HY
          have HQ : Hid (rgt seg y.o y.f y.r y.c y.b = q) := hq
          clear hW2 HKR hy hq k0 k1 k3 z0 f0 hzb HX HV HC HD2 HK HK0
          go_wp2_with fail
          refine (right_any seg y.o y.f y.r y.c y.b _).mono ?_
          rintro e w3 ⟨he, hb3⟩
          rw [HQ.out] at he
          subst he
          have HK3 : Hid (PRd w3 R s seg y) := HK2.out.off (P := fun _ => False) (Off.of_below hb3) id
          have HO3 : Hid (Off (· = R) w w3) := HO2.out.trans (Off.of_below hb3)
          have z1' := HK3.out.at_
          have g1' := HK3.out.fr 1
          clear hb3 z1 z2 z3 z4 z5 z6 z7 g1
          cases q with
          | true =>
            go_wp2_with fail
            go_ret
            exact ⟨Or.inl ⟨y, HY.out, rfl, HK3.out⟩, HO3.out⟩
          | false =>
            go_wp2_with fail
            go_ret
            exact ⟨Or.inr ⟨a, HY.out, rfl, World.cell?_setCell_same _ _ _ z1'⟩, HO3.out.setCell (p := ⟨R, 1, none⟩) rfl _⟩
  · have HX : Hid (numS s seg putB x = .error a) := by unfold Hid numS okN; rw [ha, (by simpa using hd : isD (bt s a) = false)]; simp
    have HD : Hid (isD (bt s x.a) = false) := by unfold Hid; rw [ha]; simpa using hd
    clear hd h ha
    go_enter Tryd.func25, Tryd.ntmps25
    go_wp2_with fail
    refine (atDigit_any _ HR.out).mono ?_
    rintro e w1 ⟨he, n1, hw1⟩
    rw [HD.out] at he
    subst he hw1
    go_wp2_with fail
    go_ret
    exact ⟨Or.inr ⟨a, HX.out, rfl, by have := (HR.out.drewN n1).at_; rw [HA.out] at this; exact this⟩, (Off.refl _ _).drewN n1⟩
end Go.Proofs.YtachkeipknakgaaDoor
