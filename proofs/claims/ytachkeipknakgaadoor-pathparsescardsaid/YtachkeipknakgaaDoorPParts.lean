/-
  The parts of a place's text as the program reads them.
-/
import Derived.Test.YtachkeipknakgaaDoorPNum
import Derived.Deep.DeepCutAuto
namespace Go.Proofs.YtachkeipknakgaaDoor
open Go.RowKit

theorem Rs.then_off {w w1 w' : World} {R : Nat} {s seg : ByteArray} {X : Except Nat St} {e : Ending} (h : Rs w1 R s seg X e w') (ho : Off (· = R) w w1) : Rs w R s seg X e w' := ⟨h.1, ho.trans h.2⟩
set_option maxHeartbeats 400000 in
theorem pend_any {R : Nat} {s seg : ByteArray} {x : St} (w : World) (h : PRd w R s seg x) :
    Calls Tryd.prog 13 #[.pointer (some ⟨R, 0, none⟩)] w (Rs w R s seg (endS s x)) := by
  refine (end_any w h).mono ?_
  rintro e w' ⟨rfl, n, rfl⟩
  refine ⟨?_, (Off.refl _ _).drewN n⟩
  by_cases g : x.a = s.size
  · exact Or.inl ⟨x, by unfold endS; rw [if_pos g], by rw [decide_eq_true g], h.drewN n⟩
  · exact Or.inr ⟨x.a, by unfold endS; rw [if_neg g], by rw [decide_eq_false g], (h.drewN n).at_⟩

set_option maxHeartbeats 1000000 in
theorem occur_any {R : Nat} {s seg : ByteArray} {x : St} (w : World) (h : PRd w R s seg x) :
    Calls Tryd.prog 8 #[.pointer (some ⟨R, 0, none⟩)] w (Rs w R s seg (brS s seg putO x)) := by
  have HR : Hid (PRd w R s seg x) := h
  by_cases hb : bt s x.a = 91
  · have HB : Hid (bt s x.a = 91) := hb
    have HX : Hid (brS s seg putO x = bind2 (numS s seg putO { x with a := x.a + 1 }) (mustS s 93)) := by unfold Hid brS; rw [if_pos hb]
    clear h hb
    go_enter Tryd.func8, Tryd.ntmps8
    go_wp2_with fail
    refine (take_yes 91 _ HR.out (by decide) HB.out).mono ?_
    rintro e w1 ⟨rfl, r1, o1⟩
    have HR1 : Hid (PRd w1 R s seg { x with a := x.a + 1 }) := r1
    have HO1 : Hid (Off (· = R) w w1) := o1
    clear r1 o1
    go_wp2_with fail
    refine (number_O _ HR1.out).mono ?_
    rintro e w2 ⟨⟨y, hy, rfl, r2⟩ | ⟨p, hp, rfl, r2⟩, o2⟩
    · have HR2 : Hid (PRd w2 R s seg y) := r2
      have HO2 : Hid (Off (· = R) w w2) := HO1.out.trans o2
      have HY : Hid (brS s seg putO x = mustS s 93 y) := by unfold Hid; rw [HX.out, hy]; rfl
      clear r2 o2 hy
      by_cases hc : bt s y.a = 93
      · have HC : Hid (bt s y.a = 93) := hc
        clear hc
        go_wp2_with fail
        refine (take_yes 93 _ HR2.out (by decide) HC.out).mono ?_
        rintro e w3 ⟨rfl, r3, o3⟩
        have HR3 : Hid (PRd w3 R s seg { y with a := y.a + 1 }) := r3
        have HO3 : Hid (Off (· = R) w w3) := HO2.out.trans o3
        clear r3 o3
        go_wp2_with fail
        go_ret
        exact ⟨Or.inl ⟨_, by rw [HY.out]; unfold mustS; rw [if_pos HC.out], rfl, HR3.out⟩, HO3.out⟩
      · have HC : Hid (bt s y.a ≠ 93) := hc
        clear hc
        go_wp2_with fail
        refine (take_no 93 _ HR2.out HC.out).mono ?_
        rintro e w3 ⟨rfl, n3, rfl⟩
        go_wp2_with fail
        go_ret
        exact ⟨Or.inr ⟨y.a, by rw [HY.out]; unfold mustS; rw [if_neg HC.out], rfl, (HR2.out.drewN n3).at_⟩, HO2.out.drewN n3⟩
    · have HR2 : Hid (w2.cell? ⟨R, 1, none⟩ = some (.int .i64 (p : Int))) := r2
      have HO2 : Hid (Off (· = R) w w2) := HO1.out.trans o2
      have HP : Hid (brS s seg putO x = .error p) := by unfold Hid; rw [HX.out, hp]; rfl
      clear r2 o2 hp
      go_wp2_with fail
      go_ret
      exact ⟨Or.inr ⟨p, HP.out, rfl, HR2.out⟩, HO2.out⟩
  · have HB : Hid (bt s x.a ≠ 91) := hb
    have HX : Hid (brS s seg putO x = .ok x) := by unfold Hid brS; rw [if_neg hb]
    clear h hb
    go_enter Tryd.func8, Tryd.ntmps8
    go_wp2_with fail
    refine (take_no 91 _ HR.out HB.out).mono ?_
    rintro e w1 ⟨rfl, n1, rfl⟩
    go_wp2_with fail
    go_ret
    exact ⟨Or.inl ⟨x, HX.out, rfl, HR.out.drewN n1⟩, (Off.refl _ _).drewN n1⟩

set_option maxHeartbeats 1000000 in
theorem rep_any {R : Nat} {s seg : ByteArray} {x : St} (w : World) (h : PRd w R s seg x) :
    Calls Tryd.prog 10 #[.pointer (some ⟨R, 0, none⟩)] w (Rs w R s seg (brS s seg putR x)) := by
  have HR : Hid (PRd w R s seg x) := h
  by_cases hb : bt s x.a = 91
  · have HB : Hid (bt s x.a = 91) := hb
    have HX : Hid (brS s seg putR x = bind2 (numS s seg putR { x with a := x.a + 1 }) (mustS s 93)) := by unfold Hid brS; rw [if_pos hb]
    clear h hb
    go_enter Tryd.func10, Tryd.ntmps10
    go_wp2_with fail
    refine (take_yes 91 _ HR.out (by decide) HB.out).mono ?_
    rintro e w1 ⟨rfl, r1, o1⟩
    have HR1 : Hid (PRd w1 R s seg { x with a := x.a + 1 }) := r1
    have HO1 : Hid (Off (· = R) w w1) := o1
    clear r1 o1
    go_wp2_with fail
    refine (number_R _ HR1.out).mono ?_
    rintro e w2 ⟨⟨y, hy, rfl, r2⟩ | ⟨p, hp, rfl, r2⟩, o2⟩
    · have HR2 : Hid (PRd w2 R s seg y) := r2
      have HO2 : Hid (Off (· = R) w w2) := HO1.out.trans o2
      have HY : Hid (brS s seg putR x = mustS s 93 y) := by unfold Hid; rw [HX.out, hy]; rfl
      clear r2 o2 hy
      by_cases hc : bt s y.a = 93
      · have HC : Hid (bt s y.a = 93) := hc
        clear hc
        go_wp2_with fail
        refine (take_yes 93 _ HR2.out (by decide) HC.out).mono ?_
        rintro e w3 ⟨rfl, r3, o3⟩
        have HR3 : Hid (PRd w3 R s seg { y with a := y.a + 1 }) := r3
        have HO3 : Hid (Off (· = R) w w3) := HO2.out.trans o3
        clear r3 o3
        go_wp2_with fail
        go_ret
        exact ⟨Or.inl ⟨_, by rw [HY.out]; unfold mustS; rw [if_pos HC.out], rfl, HR3.out⟩, HO3.out⟩
      · have HC : Hid (bt s y.a ≠ 93) := hc
        clear hc
        go_wp2_with fail
        refine (take_no 93 _ HR2.out HC.out).mono ?_
        rintro e w3 ⟨rfl, n3, rfl⟩
        go_wp2_with fail
        go_ret
        exact ⟨Or.inr ⟨y.a, by rw [HY.out]; unfold mustS; rw [if_neg HC.out], rfl, (HR2.out.drewN n3).at_⟩, HO2.out.drewN n3⟩
    · have HR2 : Hid (w2.cell? ⟨R, 1, none⟩ = some (.int .i64 (p : Int))) := r2
      have HO2 : Hid (Off (· = R) w w2) := HO1.out.trans o2
      have HP : Hid (brS s seg putR x = .error p) := by unfold Hid; rw [HX.out, hp]; rfl
      clear r2 o2 hp
      go_wp2_with fail
      go_ret
      exact ⟨Or.inr ⟨p, HP.out, rfl, HR2.out⟩, HO2.out⟩
  · have HB : Hid (bt s x.a ≠ 91) := hb
    have HX : Hid (brS s seg putR x = .ok x) := by unfold Hid brS; rw [if_neg hb]
    clear h hb
    go_enter Tryd.func10, Tryd.ntmps10
    go_wp2_with fail
    refine (take_no 91 _ HR.out HB.out).mono ?_
    rintro e w1 ⟨rfl, n1, rfl⟩
    go_wp2_with fail
    go_ret
    exact ⟨Or.inl ⟨x, HX.out, rfl, HR.out.drewN n1⟩, (Off.refl _ _).drewN n1⟩

set_option maxHeartbeats 1000000 in
theorem comp_any {R : Nat} {s seg : ByteArray} {x : St} (w : World) (h : PRd w R s seg x) :
    Calls Tryd.prog 11 #[.pointer (some ⟨R, 0, none⟩)] w (Rs w R s seg (dotS s seg putC x)) := by
  have HR : Hid (PRd w R s seg x) := h
  by_cases hb : bt s x.a = 46
  · have HB : Hid (bt s x.a = 46) := hb
    have HX : Hid (dotS s seg putC x = numS s seg putC { x with a := x.a + 1 }) := by unfold Hid dotS; rw [if_pos hb]
    clear h hb
    go_enter Tryd.func11, Tryd.ntmps11
    go_wp2_with fail
    refine (take_yes 46 _ HR.out (by decide) HB.out).mono ?_
    rintro e w1 ⟨rfl, r1, o1⟩
    have HR1 : Hid (PRd w1 R s seg { x with a := x.a + 1 }) := r1
    have HO1 : Hid (Off (· = R) w w1) := o1
    clear r1 o1
    go_wp2_with fail
    refine (number_C _ HR1.out).mono ?_
    rintro e w2 ⟨⟨y, hy, rfl, r2⟩ | ⟨p, hp, rfl, r2⟩, o2⟩
    · have HR2 : Hid (PRd w2 R s seg y) := r2
      have HO2 : Hid (Off (· = R) w w2) := HO1.out.trans o2
      have HY : Hid (dotS s seg putC x = .ok y) := by unfold Hid; rw [HX.out, hy]
      clear r2 o2 hy
      go_wp2_with fail
      go_ret
      exact ⟨Or.inl ⟨y, HY.out, rfl, HR2.out⟩, HO2.out⟩
    · have HR2 : Hid (w2.cell? ⟨R, 1, none⟩ = some (.int .i64 (p : Int))) := r2
      have HO2 : Hid (Off (· = R) w w2) := HO1.out.trans o2
      have HP : Hid (dotS s seg putC x = .error p) := by unfold Hid; rw [HX.out, hp]
      clear r2 o2 hp
      go_wp2_with fail
      go_ret
      exact ⟨Or.inr ⟨p, HP.out, rfl, HR2.out⟩, HO2.out⟩
  · have HB : Hid (bt s x.a ≠ 46) := hb
    have HX : Hid (dotS s seg putC x = .ok x) := by unfold Hid dotS; rw [if_neg hb]
    clear h hb
    go_enter Tryd.func11, Tryd.ntmps11
    go_wp2_with fail
    refine (take_no 46 _ HR.out HB.out).mono ?_
    rintro e w1 ⟨rfl, n1, rfl⟩
    go_wp2_with fail
    go_ret
    exact ⟨Or.inl ⟨x, HX.out, rfl, HR.out.drewN n1⟩, (Off.refl _ _).drewN n1⟩

set_option maxHeartbeats 1000000 in
theorem sub_any {R : Nat} {s seg : ByteArray} {x : St} (w : World) (h : PRd w R s seg x) :
    Calls Tryd.prog 12 #[.pointer (some ⟨R, 0, none⟩)] w (Rs w R s seg (dotS s seg putB x)) := by
  have HR : Hid (PRd w R s seg x) := h
  by_cases hb : bt s x.a = 46
  · have HB : Hid (bt s x.a = 46) := hb
    have HX : Hid (dotS s seg putB x = numS s seg putB { x with a := x.a + 1 }) := by unfold Hid dotS; rw [if_pos hb]
    clear h hb
    go_enter Tryd.func12, Tryd.ntmps12
    go_wp2_with fail
    refine (take_yes 46 _ HR.out (by decide) HB.out).mono ?_
    rintro e w1 ⟨rfl, r1, o1⟩
    have HR1 : Hid (PRd w1 R s seg { x with a := x.a + 1 }) := r1
    have HO1 : Hid (Off (· = R) w w1) := o1
    clear r1 o1
    go_wp2_with fail
    refine (number_B _ HR1.out).mono ?_
    rintro e w2 ⟨⟨y, hy, rfl, r2⟩ | ⟨p, hp, rfl, r2⟩, o2⟩
    · have HR2 : Hid (PRd w2 R s seg y) := r2
      have HO2 : Hid (Off (· = R) w w2) := HO1.out.trans o2
      have HY : Hid (dotS s seg putB x = .ok y) := by unfold Hid; rw [HX.out, hy]
      clear r2 o2 hy
      go_wp2_with fail
      go_ret
      exact ⟨Or.inl ⟨y, HY.out, rfl, HR2.out⟩, HO2.out⟩
    · have HR2 : Hid (w2.cell? ⟨R, 1, none⟩ = some (.int .i64 (p : Int))) := r2
      have HO2 : Hid (Off (· = R) w w2) := HO1.out.trans o2
      have HP : Hid (dotS s seg putB x = .error p) := by unfold Hid; rw [HX.out, hp]
      clear r2 o2 hp
      go_wp2_with fail
      go_ret
      exact ⟨Or.inr ⟨p, HP.out, rfl, HR2.out⟩, HO2.out⟩
  · have HB : Hid (bt s x.a ≠ 46) := hb
    have HX : Hid (dotS s seg putB x = .ok x) := by unfold Hid dotS; rw [if_neg hb]
    clear h hb
    go_enter Tryd.func12, Tryd.ntmps12
    go_wp2_with fail
    refine (take_no 46 _ HR.out HB.out).mono ?_
    rintro e w1 ⟨rfl, n1, rfl⟩
    go_wp2_with fail
    go_ret
    exact ⟨Or.inl ⟨x, HX.out, rfl, HR.out.drewN n1⟩, (Off.refl _ _).drewN n1⟩

set_option maxHeartbeats 1000000 in
theorem field_any {R : Nat} {s seg : ByteArray} {x : St} (w : World) (h : PRd w R s seg x) :
    Calls Tryd.prog 9 #[.pointer (some ⟨R, 0, none⟩)] w (Rs w R s seg (fldS s seg putF x)) := by
  have HR : Hid (PRd w R s seg x) := h
  by_cases hb : bt s x.a = 45
  · have HB : Hid (bt s x.a = 45) := hb
    have HX : Hid (fldS s seg putF x = numS s seg putF { x with a := x.a + 1 }) := by unfold Hid fldS; unfold mustS; rw [if_pos hb]; rfl
    clear h hb
    go_enter Tryd.func9, Tryd.ntmps9
    go_wp2_with fail
    refine (take_yes 45 _ HR.out (by decide) HB.out).mono ?_
    rintro e w1 ⟨rfl, r1, o1⟩
    have HR1 : Hid (PRd w1 R s seg { x with a := x.a + 1 }) := r1
    have HO1 : Hid (Off (· = R) w w1) := o1
    clear r1 o1
    go_wp2_with fail
    refine (number_F _ HR1.out).mono ?_
    rintro e w2 ⟨⟨y, hy, rfl, r2⟩ | ⟨p, hp, rfl, r2⟩, o2⟩
    · have HR2 : Hid (PRd w2 R s seg y) := r2
      have HO2 : Hid (Off (· = R) w w2) := HO1.out.trans o2
      have HY : Hid (fldS s seg putF x = .ok y) := by unfold Hid; rw [HX.out, hy]
      clear r2 o2 hy
      go_wp2_with fail
      go_ret
      exact ⟨Or.inl ⟨y, HY.out, rfl, HR2.out⟩, HO2.out⟩
    · have HR2 : Hid (w2.cell? ⟨R, 1, none⟩ = some (.int .i64 (p : Int))) := r2
      have HO2 : Hid (Off (· = R) w w2) := HO1.out.trans o2
      have HP : Hid (fldS s seg putF x = .error p) := by unfold Hid; rw [HX.out, hp]
      clear r2 o2 hp
      go_wp2_with fail
      go_ret
      exact ⟨Or.inr ⟨p, HP.out, rfl, HR2.out⟩, HO2.out⟩
  · have HB : Hid (bt s x.a ≠ 45) := hb
    have HX : Hid (fldS s seg putF x = .error x.a) := by unfold Hid fldS; unfold mustS; rw [if_neg hb]; rfl
    clear h hb
    go_enter Tryd.func9, Tryd.ntmps9
    go_wp2_with fail
    refine (take_no 45 _ HR.out HB.out).mono ?_
    rintro e w1 ⟨rfl, n1, rfl⟩
    go_wp2_with fail
    go_ret
    exact ⟨Or.inr ⟨x.a, HX.out, rfl, (HR.out.drewN n1).at_⟩, (Off.refl _ _).drewN n1⟩

theorem PRd.wrS {w : World} {R : Nat} {s seg : ByteArray} {x : St} (h : PRd w R s seg x) (g : ByteArray) : PRd (w.setCell ⟨R, 2, none⟩ (.string g)) R s g x := by
  have c0 := h.text
  have c1 := h.at_
  have c3 := h.o
  have c4 := h.f
  have c5 := h.r
  have c6 := h.c
  have c7 := h.b
  exact ⟨by simp [World.cell?_setCell_other, c0], by simp [World.cell?_setCell_other, c1], World.cell?_setCell_same _ _ _ h.seg, by simp [World.cell?_setCell_other, c3], by simp [World.cell?_setCell_other, c4], by simp [World.cell?_setCell_other, c5], by simp [World.cell?_setCell_other, c6], by simp [World.cell?_setCell_other, c7], fun j => by rw [World.frozen?_setCell]; exact h.fr j, h.in_, h.fit⟩
/-- The first three bytes. -/
def sg (s : ByteArray) : ByteArray := s.extract 0 3
set_option maxHeartbeats 1000000 in
theorem seg_any {R : Nat} {s : ByteArray} (w : World) (h : PRd w R s ⟨#[]⟩ ⟨0, 1, 1, 1, 1, 1⟩) :
    Calls Tryd.prog 7 #[.pointer (some ⟨R, 0, none⟩)] w (Rs w R s (sg s) (if nmC s = 3 then .ok ⟨3, 1, 1, 1, 1, 1⟩ else .error (nmC s))) := by
  have c0 := h.text
  have c1 := h.at_
  have c2 := h.seg
  have f1 := h.fr 1
  have f2 := h.fr 2
  have hs : s.size ≤ maxLen := h.fit
  unfold maxLen at hs
  have HR : Hid (PRd w R s ⟨#[]⟩ ⟨0, 1, 1, 1, 1, 1⟩) := h
  have hz := nmC_size s
  have h3 := nmC_le s
  obtain ⟨n, hn⟩ : ∃ n, nmC s = n := ⟨_, rfl⟩
  obtain ⟨X, hX⟩ : ∃ X : Except Nat St, (if nmC s = 3 then .ok ⟨3, 1, 1, 1, 1, 1⟩ else .error (nmC s)) = X := ⟨_, rfl⟩
  rw [hX]
  rw [hn] at hz h3 hX
  have HX : Hid ((if n = 3 then .ok ⟨3, 1, 1, 1, 1, 1⟩ else .error n) = X) := hX
  have HN : Hid (nmC s = n) := hn
  have hzi : (n : Int) ≤ s.size := by omega
  clear hn h hX
  go_enter Tryd.func7, Tryd.ntmps7
  go_wp2_with fail
  refine (named_any s _).mono ?_
  rintro e w1 ⟨he, rfl⟩
  rw [HN.out] at he
  subst he
  have HK : Hid (PRd (w1.setCell ⟨R, 1, none⟩ (.int .i64 (n : Int))) R s ⟨#[]⟩ ⟨n, 1, 1, 1, 1, 1⟩) := HR.out.moved hz
  have HO : Hid (Off (· = R) w1 (w1.setCell ⟨R, 1, none⟩ (.int .i64 (n : Int)))) := (Off.refl (· = R) w1).setCell (p := ⟨R, 1, none⟩) rfl _
  go_wp2_with fail
  obtain ⟨W, hW⟩ : ∃ W, w1.setCell ⟨R, 1, none⟩ (.int .i64 (n : Int)) = W := ⟨_, rfl⟩
  rw [hW] at HK HO ⊢
  clear hW c0 c1 c2 f1 f2
  have k0 := HK.out.text
  have k1 : W.cell? ⟨R, 1, none⟩ = some (.int .i64 (n : Int)) := HK.out.at_
  have k2 := HK.out.seg
  have f2 := HK.out.fr 2
  go_region
  have HK2 : Hid (PRd ((W.setCell ⟨R, 2, none⟩ (.string (s.extract 0 n))).drew) R s (s.extract 0 n) ⟨n, 1, 1, 1, 1, 1⟩) := (HK.out.wrS _).drewN 1
  have HO2 : Hid (Off (· = R) w1 ((W.setCell ⟨R, 2, none⟩ (.string (s.extract 0 n))).drew)) := (HO.out.setCell (p := ⟨R, 2, none⟩) rfl _).drewN 1
  obtain ⟨W2, hW2⟩ : ∃ W2, (W.setCell ⟨R, 2, none⟩ (.string (s.extract 0 n))).drew = W2 := ⟨_, rfl⟩
  rw [hW2] at HK2 HO2 ⊢
  clear hW2 k0 k1 k2 f2
  have k1 : W2.cell? ⟨R, 1, none⟩ = some (.int .i64 (n : Int)) := HK2.out.at_
  by_cases g : n = 3
  · have gb : ((n : Int) == 3) = true := by simp; omega
    have HX2 : Hid (X = .ok ⟨3, 1, 1, 1, 1, 1⟩) := by unfold Hid; rw [← HX.out, if_pos g]
    have HG : Hid (n = 3) := g
    go_wp2_with fail
    go_ret
    exact ⟨Or.inl ⟨_, HX2.out, rfl, by have := HK2.out; rw [HG.out] at this; exact this⟩, HO2.out⟩
  · have gb : ((n : Int) == 3) = false := by simp; omega
    have HX2 : Hid (X = .error n) := by unfold Hid; rw [← HX.out, if_neg g]
    go_wp2_with fail
    go_ret
    exact ⟨Or.inr ⟨n, HX2.out, rfl, k1⟩, HO2.out⟩
end Go.Proofs.YtachkeipknakgaaDoor
