/-
  The reference's Parse; the law StampParses, walked.
-/
import Derived.Test.YtphobcobpclioaaGreatDoorRdParse
import Derived.Test.YtphobcobpclioaaGreatDoorRefTimes
namespace Go.Proofs.YtphobcobpclioaaGreatDoor
open Go.RowKit

/-- What the reference's Parse answers. -/
def RPOut (lv y mo d h mi sc p dg : Int) (z : Bool) (zn : Int) (E : Option Nat) (e : Ending) : Prop := match E with
  | none => e = .returned (.tuple #[.agg #[.int .i64 lv, .int .i64 y, .int .i64 mo, .int .i64 d, .int .i64 h, .int .i64 mi, .int .i64 sc, .int .i64 p, .int .i64 dg, .bool z, .int .i64 zn], .int .i64 0, .int .i64 0])
  | some q => e = .returned (.tuple #[.agg #[.int .i64 0, .int .i64 0, .int .i64 0, .int .i64 0, .int .i64 0, .int .i64 0, .int .i64 0, .int .i64 0, .int .i64 0, .bool false, .int .i64 0], .int .i64 (q : Int), .int .i64 10])
theorem ahd_same {s : ByteArray} {a a' : Nat} {b : Option Nat} (h : b = none → a' = a) : ahd s a' b = ahd s a b := by
  cases b with
  | none => rw [h rfl]
  | some q => rfl
theorem end_none {s : ByteArray} {a : Nat} {b : Option Nat} (h : endB s a b = none) : b = none := by
  cases b with
  | none => rfl
  | some q => unfold endB at h; split at h <;> cases h
theorem zone_none {s : ByteArray} {a : Nat} {b : Option Nat} (h : (zoneS s a b).2.2.2 = none) : b = none := by
  cases b with
  | none => rfl
  | some q => rw [zone_bad] at h; cases h
theorem set11_cell {w : World} {K : Nat} (hk : ∀ o, o < 11 → (w.cell? ⟨K, o, none⟩).isSome = true) (v0 v1 v2 v3 v4 v5 v6 v7 v8 v9 v10 : Value) : (((((((((((w.setCell ⟨K, 0, none⟩ v0).setCell ⟨K, 1, none⟩ v1).setCell ⟨K, 2, none⟩ v2).setCell ⟨K, 3, none⟩ v3).setCell ⟨K, 4, none⟩ v4).setCell ⟨K, 5, none⟩ v5).setCell ⟨K, 6, none⟩ v6).setCell ⟨K, 7, none⟩ v7).setCell ⟨K, 8, none⟩ v8).setCell ⟨K, 9, none⟩ v9).setCell ⟨K, 10, none⟩ v10).cell? ⟨K, 0, none⟩ = some v0 ∧ (((((((((((w.setCell ⟨K, 0, none⟩ v0).setCell ⟨K, 1, none⟩ v1).setCell ⟨K, 2, none⟩ v2).setCell ⟨K, 3, none⟩ v3).setCell ⟨K, 4, none⟩ v4).setCell ⟨K, 5, none⟩ v5).setCell ⟨K, 6, none⟩ v6).setCell ⟨K, 7, none⟩ v7).setCell ⟨K, 8, none⟩ v8).setCell ⟨K, 9, none⟩ v9).setCell ⟨K, 10, none⟩ v10).cell? ⟨K, 1, none⟩ = some v1 ∧ (((((((((((w.setCell ⟨K, 0, none⟩ v0).setCell ⟨K, 1, none⟩ v1).setCell ⟨K, 2, none⟩ v2).setCell ⟨K, 3, none⟩ v3).setCell ⟨K, 4, none⟩ v4).setCell ⟨K, 5, none⟩ v5).setCell ⟨K, 6, none⟩ v6).setCell ⟨K, 7, none⟩ v7).setCell ⟨K, 8, none⟩ v8).setCell ⟨K, 9, none⟩ v9).setCell ⟨K, 10, none⟩ v10).cell? ⟨K, 2, none⟩ = some v2 ∧ (((((((((((w.setCell ⟨K, 0, none⟩ v0).setCell ⟨K, 1, none⟩ v1).setCell ⟨K, 2, none⟩ v2).setCell ⟨K, 3, none⟩ v3).setCell ⟨K, 4, none⟩ v4).setCell ⟨K, 5, none⟩ v5).setCell ⟨K, 6, none⟩ v6).setCell ⟨K, 7, none⟩ v7).setCell ⟨K, 8, none⟩ v8).setCell ⟨K, 9, none⟩ v9).setCell ⟨K, 10, none⟩ v10).cell? ⟨K, 3, none⟩ = some v3 ∧ (((((((((((w.setCell ⟨K, 0, none⟩ v0).setCell ⟨K, 1, none⟩ v1).setCell ⟨K, 2, none⟩ v2).setCell ⟨K, 3, none⟩ v3).setCell ⟨K, 4, none⟩ v4).setCell ⟨K, 5, none⟩ v5).setCell ⟨K, 6, none⟩ v6).setCell ⟨K, 7, none⟩ v7).setCell ⟨K, 8, none⟩ v8).setCell ⟨K, 9, none⟩ v9).setCell ⟨K, 10, none⟩ v10).cell? ⟨K, 4, none⟩ = some v4 ∧ (((((((((((w.setCell ⟨K, 0, none⟩ v0).setCell ⟨K, 1, none⟩ v1).setCell ⟨K, 2, none⟩ v2).setCell ⟨K, 3, none⟩ v3).setCell ⟨K, 4, none⟩ v4).setCell ⟨K, 5, none⟩ v5).setCell ⟨K, 6, none⟩ v6).setCell ⟨K, 7, none⟩ v7).setCell ⟨K, 8, none⟩ v8).setCell ⟨K, 9, none⟩ v9).setCell ⟨K, 10, none⟩ v10).cell? ⟨K, 5, none⟩ = some v5 ∧ (((((((((((w.setCell ⟨K, 0, none⟩ v0).setCell ⟨K, 1, none⟩ v1).setCell ⟨K, 2, none⟩ v2).setCell ⟨K, 3, none⟩ v3).setCell ⟨K, 4, none⟩ v4).setCell ⟨K, 5, none⟩ v5).setCell ⟨K, 6, none⟩ v6).setCell ⟨K, 7, none⟩ v7).setCell ⟨K, 8, none⟩ v8).setCell ⟨K, 9, none⟩ v9).setCell ⟨K, 10, none⟩ v10).cell? ⟨K, 6, none⟩ = some v6 ∧ (((((((((((w.setCell ⟨K, 0, none⟩ v0).setCell ⟨K, 1, none⟩ v1).setCell ⟨K, 2, none⟩ v2).setCell ⟨K, 3, none⟩ v3).setCell ⟨K, 4, none⟩ v4).setCell ⟨K, 5, none⟩ v5).setCell ⟨K, 6, none⟩ v6).setCell ⟨K, 7, none⟩ v7).setCell ⟨K, 8, none⟩ v8).setCell ⟨K, 9, none⟩ v9).setCell ⟨K, 10, none⟩ v10).cell? ⟨K, 7, none⟩ = some v7 ∧ (((((((((((w.setCell ⟨K, 0, none⟩ v0).setCell ⟨K, 1, none⟩ v1).setCell ⟨K, 2, none⟩ v2).setCell ⟨K, 3, none⟩ v3).setCell ⟨K, 4, none⟩ v4).setCell ⟨K, 5, none⟩ v5).setCell ⟨K, 6, none⟩ v6).setCell ⟨K, 7, none⟩ v7).setCell ⟨K, 8, none⟩ v8).setCell ⟨K, 9, none⟩ v9).setCell ⟨K, 10, none⟩ v10).cell? ⟨K, 8, none⟩ = some v8 ∧ (((((((((((w.setCell ⟨K, 0, none⟩ v0).setCell ⟨K, 1, none⟩ v1).setCell ⟨K, 2, none⟩ v2).setCell ⟨K, 3, none⟩ v3).setCell ⟨K, 4, none⟩ v4).setCell ⟨K, 5, none⟩ v5).setCell ⟨K, 6, none⟩ v6).setCell ⟨K, 7, none⟩ v7).setCell ⟨K, 8, none⟩ v8).setCell ⟨K, 9, none⟩ v9).setCell ⟨K, 10, none⟩ v10).cell? ⟨K, 9, none⟩ = some v9 ∧ (((((((((((w.setCell ⟨K, 0, none⟩ v0).setCell ⟨K, 1, none⟩ v1).setCell ⟨K, 2, none⟩ v2).setCell ⟨K, 3, none⟩ v3).setCell ⟨K, 4, none⟩ v4).setCell ⟨K, 5, none⟩ v5).setCell ⟨K, 6, none⟩ v6).setCell ⟨K, 7, none⟩ v7).setCell ⟨K, 8, none⟩ v8).setCell ⟨K, 9, none⟩ v9).setCell ⟨K, 10, none⟩ v10).cell? ⟨K, 10, none⟩ = some v10 := by
  have h0 := hk 0 (by omega)
  have h1 := hk 1 (by omega)
  have h2 := hk 2 (by omega)
  have h3 := hk 3 (by omega)
  have h4 := hk 4 (by omega)
  have h5 := hk 5 (by omega)
  have h6 := hk 6 (by omega)
  have h7 := hk 7 (by omega)
  have h8 := hk 8 (by omega)
  have h9 := hk 9 (by omega)
  have h10 := hk 10 (by omega)
  simp [World.cell?_setCell_same', World.cell?_setCell_other, h0, h1, h2, h3, h4, h5, h6, h7, h8, h9, h10]
theorem eleven_set {w : World} {K : Nat} {lv y mo d h mi sc p dg zn : Int} {z : Bool} (hk : ∀ o, o < 11 → (w.cell? ⟨K, o, none⟩).isSome = true) : Eleven (((((((((((w.setCell ⟨K, 0, none⟩ (.int .i64 lv)).setCell ⟨K, 1, none⟩ (.int .i64 y)).setCell ⟨K, 2, none⟩ (.int .i64 mo)).setCell ⟨K, 3, none⟩ (.int .i64 d)).setCell ⟨K, 4, none⟩ (.int .i64 h)).setCell ⟨K, 5, none⟩ (.int .i64 mi)).setCell ⟨K, 6, none⟩ (.int .i64 sc)).setCell ⟨K, 7, none⟩ (.int .i64 p)).setCell ⟨K, 8, none⟩ (.int .i64 dg)).setCell ⟨K, 9, none⟩ (.bool z)).setCell ⟨K, 10, none⟩ (.int .i64 zn)) K lv y mo d h mi sc p dg z zn := by
  obtain ⟨a0, a1, a2, a3, a4, a5, a6, a7, a8, a9, a10⟩ := set11_cell hk (.int .i64 lv) (.int .i64 y) (.int .i64 mo) (.int .i64 d) (.int .i64 h) (.int .i64 mi) (.int .i64 sc) (.int .i64 p) (.int .i64 dg) (.bool z) (.int .i64 zn)
  exact ⟨a0, a1, a2, a3, a4, a5, a6, a7, a8, a9, a10⟩
theorem Eleven.some {w : World} {K : Nat} {lv y mo d h mi sc p dg zn : Int} {z : Bool} (e : Eleven w K lv y mo d h mi sc p dg z zn) : ∀ o, o < 11 → (w.cell? ⟨K, o, none⟩).isSome = true := by
  intro o ho
  match o, ho with
  | 0, _ => rw [e.k0]; rfl
  | 1, _ => rw [e.k1]; rfl
  | 2, _ => rw [e.k2]; rfl
  | 3, _ => rw [e.k3]; rfl
  | 4, _ => rw [e.k4]; rfl
  | 5, _ => rw [e.k5]; rfl
  | 6, _ => rw [e.k6]; rfl
  | 7, _ => rw [e.k7]; rfl
  | 8, _ => rw [e.k8]; rfl
  | 9, _ => rw [e.k9]; rfl
  | 10, _ => rw [e.k10]; rfl
theorem eleven_box {w1 : World} {l y' m' d' : Int} : Eleven (w1.alloc (.cells #[.int .i64 l, .int .i64 (y'), .int .i64 (m'), .int .i64 (d'), .int .i64 0, .int .i64 0, .int .i64 0, .int .i64 0, .int .i64 0, .bool false, .int .i64 0] 66)) w1.heap.size l y' m' d' 0 0 0 0 0 false 0 := ⟨by simp, by simp, by simp, by simp, by simp, by simp, by simp, by simp, by simp, by simp, by simp⟩

set_option maxHeartbeats 4000000 in
theorem refParse_any (s : ByteArray) {lv y mo d : Int} {A : Nat} {B : Option Nat} {lv2 h mi sc p dg : Int} {A2 : Nat} {B2 : Option Nat} {Z : Bool} {ZN : Int} {A3 : Nat} {B3 E : Option Nat} (w : World) (hs : s.size ≤ maxLen)
    (hd : dateS s 0 none = (lv, y, mo, d, A, B)) (hc : clkS s A B lv = (lv2, h, mi, sc, p, dg, A2, B2)) (hz : zoneS s A2 B2 = (Z, ZN, A3, B3)) (he : endB s A3 B3 = E) :
    Calls Tryz.prog 35 #[.string s] w fun e w' => RPOut lv2 y mo d h mi sc p dg Z ZN E e ∧ Below w.heap.size w w' := by
  have HR : Hid (RRd ((w.alloc (.cells #[.int .i64 0, .int .i64 0, .int .i64 0, .int .i64 0, .int .i64 0, .int .i64 0, .int .i64 0, .int .i64 0, .int .i64 0, .bool false, .int .i64 0] 66)).alloc (.cells #[.string s, .int .i64 0, .int .i64 (-1)] 107)) (w.heap.size + 1) s 0 none) := ⟨by simp, by simp, by simp [bdI], by simp, by simp, Nat.zero_le _, hs⟩
  have HD : Hid (dateS s 0 none = (lv, y, mo, d, A, B)) := hd
  have HZ : Hid (zoneS s A2 B2 = (Z, ZN, A3, B3)) := hz
  have HE : Hid (endB s A3 B3 = E) := he
  have HC : Hid (clkS s A B lv = (lv2, h, mi, sc, p, dg, A2, B2)) := hc
  clear hs hd hz he hc
  go_enter Tryz.func35, Tryz.ntmps35
  go_wp2_with fail
  refine (rdate_any _ HR.out).mono ?_
  rw [HD.out]
  rintro e w1 ⟨l, y', m', d', a1, rfl, r1, q1, o1⟩
  have HR1 : Hid (RRd (w1.alloc (.cells #[.int .i64 l, .int .i64 (y'), .int .i64 (m'), .int .i64 (d'), .int .i64 0, .int .i64 0, .int .i64 0, .int .i64 0, .int .i64 0, .bool false, .int .i64 0] 66)) (w.heap.size + 1) s a1 B) := r1.alloc _
  have HQ1 : Hid (B = none → a1 = A ∧ l = lv ∧ y' = y ∧ m' = mo ∧ d' = d) := q1
  have HO1 : Hid (Off (· = (w.heap.size + 1)) ((w.alloc (.cells #[.int .i64 0, .int .i64 0, .int .i64 0, .int .i64 0, .int .i64 0, .int .i64 0, .int .i64 0, .int .i64 0, .int .i64 0, .bool false, .int .i64 0] 66)).alloc (.cells #[.string s, .int .i64 0, .int .i64 (-1)] 107)) w1) := o1
  have hs1 : w.heap.size + 2 ≤ w1.heap.size := by have := o1.size; simpa using this
  have HG1 : Hid (∀ o, (w1.alloc (.cells #[.int .i64 l, .int .i64 (y'), .int .i64 (m'), .int .i64 (d'), .int .i64 0, .int .i64 0, .int .i64 0, .int .i64 0, .int .i64 0, .bool false, .int .i64 0] 66)).cell? ⟨w.heap.size, o, none⟩ = ((w.alloc (.cells #[.int .i64 0, .int .i64 0, .int .i64 0, .int .i64 0, .int .i64 0, .int .i64 0, .int .i64 0, .int .i64 0, .int .i64 0, .bool false, .int .i64 0] 66)).alloc (.cells #[.string s, .int .i64 0, .int .i64 (-1)] 107)).cell? ⟨w.heap.size, o, none⟩) := fun o => by rw [World.cell?_alloc_lt _ _ ⟨w.heap.size, o, none⟩ (by show w.heap.size < w1.heap.size; omega)]; exact o1.cell (p := ⟨w.heap.size, o, none⟩) (by simp; omega) (by show ¬ w.heap.size = (w.heap.size + 1); omega)
  have HF1 : Hid (∀ o, (w1.alloc (.cells #[.int .i64 l, .int .i64 (y'), .int .i64 (m'), .int .i64 (d'), .int .i64 0, .int .i64 0, .int .i64 0, .int .i64 0, .int .i64 0, .bool false, .int .i64 0] 66)).frozen? ⟨w.heap.size, o, none⟩ = ((w.alloc (.cells #[.int .i64 0, .int .i64 0, .int .i64 0, .int .i64 0, .int .i64 0, .int .i64 0, .int .i64 0, .int .i64 0, .int .i64 0, .bool false, .int .i64 0] 66)).alloc (.cells #[.string s, .int .i64 0, .int .i64 (-1)] 107)).frozen? ⟨w.heap.size, o, none⟩) := fun o => (((Off.refl (fun _ => False) w1).alloc _).frozen (p := ⟨w.heap.size, o, none⟩) (by show w.heap.size < w1.heap.size; omega) id).trans (o1.frozen (p := ⟨w.heap.size, o, none⟩) (by simp; omega) (by show ¬ w.heap.size = (w.heap.size + 1); omega))
  clear r1 o1 q1
  go_wp2_with fail
  refine (more_any _ HR1.out).mono ?_
  rintro e v2 ⟨he, n1, rfl⟩
  rw [ahd_same (fun g => (HQ1.out g).1)] at he
  cases hg : isD (ahd s A B) with
  | false =>
    rw [hg] at he
    subst he
    have HC2 := HC.out
    unfold clkS at HC2
    rw [if_neg (by rw [hg]; decide)] at HC2
    simp only [Prod.mk.injEq] at HC2
    obtain ⟨rfl, rfl, rfl, rfl, rfl, rfl, rfl, rfl⟩ := HC2
    clear hg HC
    cases hl3 : (l == 3) with
    | true =>
      go_wp2_with fail
      have HV2 : Hid (Eleven ((w1.alloc (.cells #[.int .i64 l, .int .i64 (y'), .int .i64 (m'), .int .i64 (d'), .int .i64 0, .int .i64 0, .int .i64 0, .int .i64 0, .int .i64 0, .bool false, .int .i64 0] 66)).drewN n1) w1.heap.size l y' m' d' 0 0 0 0 0 false 0) := eleven_box.same fun _ => rfl
      have HR3 : Hid (RRd ((w1.alloc (.cells #[.int .i64 l, .int .i64 (y'), .int .i64 (m'), .int .i64 (d'), .int .i64 0, .int .i64 0, .int .i64 0, .int .i64 0, .int .i64 0, .bool false, .int .i64 0] 66)).drewN n1) (w.heap.size + 1) s a1 B) := HR1.out.drewN n1
      have HO3 : Hid (Off (RK (w.heap.size + 1) w1.heap.size) (w1.alloc (.cells #[.int .i64 l, .int .i64 (y'), .int .i64 (m'), .int .i64 (d'), .int .i64 0, .int .i64 0, .int .i64 0, .int .i64 0, .int .i64 0, .bool false, .int .i64 0] 66)) ((w1.alloc (.cells #[.int .i64 l, .int .i64 (y'), .int .i64 (m'), .int .i64 (d'), .int .i64 0, .int .i64 0, .int .i64 0, .int .i64 0, .int .i64 0, .bool false, .int .i64 0] 66)).drewN n1)) := (Off.refl _ _).drewN n1
      have HN2 : Hid (∀ o, ((w1.alloc (.cells #[.int .i64 l, .int .i64 (y'), .int .i64 (m'), .int .i64 (d'), .int .i64 0, .int .i64 0, .int .i64 0, .int .i64 0, .int .i64 0, .bool false, .int .i64 0] 66)).drewN n1).frozen? ⟨w1.heap.size, o, none⟩ = false) := fun o => by simp
      generalize ((w1.alloc (.cells #[.int .i64 l, .int .i64 (y'), .int .i64 (m'), .int .i64 (d'), .int .i64 0, .int .i64 0, .int .i64 0, .int .i64 0, .int .i64 0, .bool false, .int .i64 0] 66)).drewN n1) = W2 at HV2 HR3 HO3 HN2 ⊢
      obtain ⟨⟨Z1, ZN1, A4, B4⟩, hz1⟩ : ∃ x, zoneS s a1 B = x := ⟨_, rfl⟩
      have HZ1 : Hid (zoneS s a1 B = (Z1, ZN1, A4, B4)) := hz1
      have HE1 : Hid (B4 = B3 ∧ (B3 = none → Z1 = Z ∧ ZN1 = ZN ∧ A4 = A3)) := by
        have zs := zone_same (s := s) (b := B) (fun g => (HQ1.out g).1)
        rw [hz1, HZ.out] at zs
        refine ⟨zs.1, fun g => ?_⟩
        have := zs.2 g
        simp only [Prod.mk.injEq] at this
        exact ⟨this.1, this.2.1, this.2.2.1⟩
      clear hz1
      refine (rzone_any _ HR3.out HZ1.out).mono ?_
      rintro e w3 ⟨z', zn', a3, rfl, r3, q3, o3⟩
      have HQ3 : Hid (B4 = none → a3 = A4 ∧ z' = Z1 ∧ zn' = ZN1) := q3
      have HR4 : Hid (RRd w3 (w.heap.size + 1) s a3 B4) := r3
      have HO4 : Hid (Off (RK (w.heap.size + 1) w1.heap.size) (w1.alloc (.cells #[.int .i64 l, .int .i64 (y'), .int .i64 (m'), .int .i64 (d'), .int .i64 0, .int .i64 0, .int .i64 0, .int .i64 0, .int .i64 0, .bool false, .int .i64 0] 66)) w3) := HO3.out.trans (o3.mono fun _ g => Or.inl g)
      have HV3 : Hid (Eleven w3 w1.heap.size l y' m' d' 0 0 0 0 0 false 0) := HV2.out.same fun o => o3.cell (p := ⟨w1.heap.size, o, none⟩) (show w1.heap.size < W2.heap.size from cell_lt HV2.out.k0) (by show ¬ w1.heap.size = (w.heap.size + 1); omega)
      have k0 := HV3.out.k0
      have k1 := HV3.out.k1
      have k2 := HV3.out.k2
      have k3 := HV3.out.k3
      have k4 := HV3.out.k4
      have k5 := HV3.out.k5
      have k6 := HV3.out.k6
      have k7 := HV3.out.k7
      have k8 := HV3.out.k8
      have k9 := HV3.out.k9
      have k10 := HV3.out.k10
      have hN3 : ∀ o, w3.frozen? ⟨w1.heap.size, o, none⟩ = false := fun o => by rw [o3.frozen (p := ⟨w1.heap.size, o, none⟩) (show w1.heap.size < W2.heap.size from cell_lt HV2.out.k0) (by show ¬ w1.heap.size = (w.heap.size + 1); omega)]; exact HN2.out o
      clear r3 q3 o3
      go_wp2_with fail
      have HV4 : Hid (Eleven (((((((((((w3.setCell ⟨w1.heap.size, 0, none⟩ (.int .i64 l)).setCell ⟨w1.heap.size, 1, none⟩ (.int .i64 y')).setCell ⟨w1.heap.size, 2, none⟩ (.int .i64 m')).setCell ⟨w1.heap.size, 3, none⟩ (.int .i64 d')).setCell ⟨w1.heap.size, 4, none⟩ (.int .i64 0)).setCell ⟨w1.heap.size, 5, none⟩ (.int .i64 0)).setCell ⟨w1.heap.size, 6, none⟩ (.int .i64 0)).setCell ⟨w1.heap.size, 7, none⟩ (.int .i64 0)).setCell ⟨w1.heap.size, 8, none⟩ (.int .i64 0)).setCell ⟨w1.heap.size, 9, none⟩ (.bool z')).setCell ⟨w1.heap.size, 10, none⟩ (.int .i64 zn')) w1.heap.size l y' m' d' 0 0 0 0 0 z' zn') := eleven_set fun o ho => HV3.out.some o ho
      have HX4 : Hid (Off (fun k => k = w1.heap.size) w3 (((((((((((w3.setCell ⟨w1.heap.size, 0, none⟩ (.int .i64 l)).setCell ⟨w1.heap.size, 1, none⟩ (.int .i64 y')).setCell ⟨w1.heap.size, 2, none⟩ (.int .i64 m')).setCell ⟨w1.heap.size, 3, none⟩ (.int .i64 d')).setCell ⟨w1.heap.size, 4, none⟩ (.int .i64 0)).setCell ⟨w1.heap.size, 5, none⟩ (.int .i64 0)).setCell ⟨w1.heap.size, 6, none⟩ (.int .i64 0)).setCell ⟨w1.heap.size, 7, none⟩ (.int .i64 0)).setCell ⟨w1.heap.size, 8, none⟩ (.int .i64 0)).setCell ⟨w1.heap.size, 9, none⟩ (.bool z')).setCell ⟨w1.heap.size, 10, none⟩ (.int .i64 zn'))) := off_set11 (P := fun k => k = w1.heap.size) (Off.refl _ _) rfl _ _ _ _ _ _ _ _ _ _ _
      generalize (((((((((((w3.setCell ⟨w1.heap.size, 0, none⟩ (.int .i64 l)).setCell ⟨w1.heap.size, 1, none⟩ (.int .i64 y')).setCell ⟨w1.heap.size, 2, none⟩ (.int .i64 m')).setCell ⟨w1.heap.size, 3, none⟩ (.int .i64 d')).setCell ⟨w1.heap.size, 4, none⟩ (.int .i64 0)).setCell ⟨w1.heap.size, 5, none⟩ (.int .i64 0)).setCell ⟨w1.heap.size, 6, none⟩ (.int .i64 0)).setCell ⟨w1.heap.size, 7, none⟩ (.int .i64 0)).setCell ⟨w1.heap.size, 8, none⟩ (.int .i64 0)).setCell ⟨w1.heap.size, 9, none⟩ (.bool z')).setCell ⟨w1.heap.size, 10, none⟩ (.int .i64 zn')) = W4 at HV4 HX4 ⊢
      clear k0 k1 k2 k3 k4 k5 k6 k7 k8 k9 k10 hN3
      have HR5 : Hid (RRd W4 (w.heap.size + 1) s a3 B4) := HR4.out.off HX4.out (by show ¬ (w.heap.size + 1) = w1.heap.size; omega)
      have HO5 : Hid (Off (RK (w.heap.size + 1) w1.heap.size) (w1.alloc (.cells #[.int .i64 l, .int .i64 (y'), .int .i64 (m'), .int .i64 (d'), .int .i64 0, .int .i64 0, .int .i64 0, .int .i64 0, .int .i64 0, .bool false, .int .i64 0] 66)) W4) := HO4.out.trans (HX4.out.mono fun _ g => Or.inr g)
      refine (rend_any _ HR5.out).mono ?_
      rintro e w5 ⟨rfl, r5, o5⟩
      have HO6 : Hid (Off (RK (w.heap.size + 1) w1.heap.size) (w1.alloc (.cells #[.int .i64 l, .int .i64 (y'), .int .i64 (m'), .int .i64 (d'), .int .i64 0, .int .i64 0, .int .i64 0, .int .i64 0, .int .i64 0, .bool false, .int .i64 0] 66)) w5) := HO5.out.trans (o5.mono fun _ g => Or.inl g)
      have HV5 : Hid (Eleven w5 w1.heap.size l y' m' d' 0 0 0 0 0 z' zn') := HV4.out.same fun o => o5.cell (p := ⟨w1.heap.size, o, none⟩) (show w1.heap.size < W4.heap.size from cell_lt HV4.out.k0) (by show ¬ w1.heap.size = (w.heap.size + 1); omega)
      have hee : endB s a3 B4 = E := by
        rw [← HE.out, end_same (fun g => (HQ3.out g).1)]
        have e1 := HE1.out
        rw [e1.1]
        exact end_same fun g => (e1.2 g).2.2
      rw [hee] at r5
      have kb := r5.bad
      have k0 := HV5.out.k0
      have k1 := HV5.out.k1
      have k2 := HV5.out.k2
      have k3 := HV5.out.k3
      have k4 := HV5.out.k4
      have k5 := HV5.out.k5
      have k6 := HV5.out.k6
      have k7 := HV5.out.k7
      have k8 := HV5.out.k8
      have k9 := HV5.out.k9
      have k10 := HV5.out.k10
      have hg5 : ∀ o, w5.cell? ⟨w.heap.size, o, none⟩ = ((w.alloc (.cells #[.int .i64 0, .int .i64 0, .int .i64 0, .int .i64 0, .int .i64 0, .int .i64 0, .int .i64 0, .int .i64 0, .int .i64 0, .bool false, .int .i64 0] 66)).alloc (.cells #[.string s, .int .i64 0, .int .i64 (-1)] 107)).cell? ⟨w.heap.size, o, none⟩ := fun o => (HO6.out.cell (p := ⟨w.heap.size, o, none⟩) (by simp; omega) (by show ¬ (w.heap.size = (w.heap.size + 1) ∨ w.heap.size = w1.heap.size); omega)).trans (HG1.out o)
      have hf5 : ∀ o, w5.frozen? ⟨w.heap.size, o, none⟩ = ((w.alloc (.cells #[.int .i64 0, .int .i64 0, .int .i64 0, .int .i64 0, .int .i64 0, .int .i64 0, .int .i64 0, .int .i64 0, .int .i64 0, .bool false, .int .i64 0] 66)).alloc (.cells #[.string s, .int .i64 0, .int .i64 (-1)] 107)).frozen? ⟨w.heap.size, o, none⟩ := fun o => (HO6.out.frozen (p := ⟨w.heap.size, o, none⟩) (by simp; omega) (by show ¬ (w.heap.size = (w.heap.size + 1) ∨ w.heap.size = w1.heap.size); omega)).trans (HF1.out o)
      have HB5 : Hid (Below w.heap.size w w5) := parse_below HO1.out HO6.out
      have hl5 : w.heap.size < w5.heap.size := by have := HO6.out.size; simp at this; omega
      clear r5 o5
      cases E with
      | none =>
        have hb4 : B4 = none := end_none hee
        have hb3 : B3 = none := HE1.out.1 ▸ hb4
        have hb2 : B = none := zone_none (s := s) (a := A) (by rw [HZ.out]; exact hb3)
        have kb' : w5.cell? ⟨(w.heap.size + 1), 2, none⟩ = some (.int .i64 (-1)) := kb
        obtain ⟨rfl, rfl, rfl⟩ := HQ3.out hb4
        obtain ⟨rfl, rfl, rfl⟩ := HE1.out.2 hb3
        obtain ⟨rfl, rfl, rfl, rfl, rfl⟩ := HQ1.out hb2
        clear kb hee hb4 hb3 hb2
        go_wp2_with fail
        refine bodyPost_ret (v := .tuple #[.agg #[.int .i64 l, .int .i64 (y'), .int .i64 (m'), .int .i64 (d'), .int .i64 0, .int .i64 0, .int .i64 0, .int .i64 0, .int .i64 0, .bool (z'), .int .i64 (zn')], .int .i64 0, .int .i64 0]) (by simp [results, Tryz.results35, go_sem, hg5, World.cell?_setCell_other]) rfl ⟨rfl, ?_⟩
        exact HB5.out.trans ((off_set11 (P := fun k => k = w.heap.size) (Off.refl _ _) rfl _ _ _ _ _ _ _ _ _ _ _).below (Nat.le_of_lt hl5) (by rintro k rfl; exact Nat.le_refl _))
      | some q =>
        have kb' : w5.cell? ⟨(w.heap.size + 1), 2, none⟩ = some (.int .i64 (q : Int)) := kb
        have hq : (0 : Int) ≤ q := by omega
        clear kb hee
        go_wp2_with fail
        go_region
        all_goals
          go_wp2_with fail
          refine bodyPost_ret (v := .tuple #[.agg #[.int .i64 0, .int .i64 0, .int .i64 0, .int .i64 0, .int .i64 0, .int .i64 0, .int .i64 0, .int .i64 0, .int .i64 0, .bool false, .int .i64 0], .int .i64 (q : Int), .int .i64 10]) (by simp [results, Tryz.results35, go_sem, hg5, World.cell?_setCell_other]) rfl ⟨rfl, ?_⟩
          exact HB5.out.trans (((off_set11 (P := fun k => k = w.heap.size) (Off.refl _ _) rfl _ _ _ _ _ _ _ _ _ _ _).drew).below (Nat.le_of_lt hl5) (by rintro k rfl; exact Nat.le_refl _))
    | false =>
      go_wp2_with fail
      have HV2 : Hid (Eleven ((w1.alloc (.cells #[.int .i64 l, .int .i64 (y'), .int .i64 (m'), .int .i64 (d'), .int .i64 0, .int .i64 0, .int .i64 0, .int .i64 0, .int .i64 0, .bool false, .int .i64 0] 66)).drewN n1) w1.heap.size l y' m' d' 0 0 0 0 0 false 0) := eleven_box.same fun _ => rfl
      have HR3 : Hid (RRd ((w1.alloc (.cells #[.int .i64 l, .int .i64 (y'), .int .i64 (m'), .int .i64 (d'), .int .i64 0, .int .i64 0, .int .i64 0, .int .i64 0, .int .i64 0, .bool false, .int .i64 0] 66)).drewN n1) (w.heap.size + 1) s a1 B) := HR1.out.drewN n1
      have HO3 : Hid (Off (RK (w.heap.size + 1) w1.heap.size) (w1.alloc (.cells #[.int .i64 l, .int .i64 (y'), .int .i64 (m'), .int .i64 (d'), .int .i64 0, .int .i64 0, .int .i64 0, .int .i64 0, .int .i64 0, .bool false, .int .i64 0] 66)) ((w1.alloc (.cells #[.int .i64 l, .int .i64 (y'), .int .i64 (m'), .int .i64 (d'), .int .i64 0, .int .i64 0, .int .i64 0, .int .i64 0, .int .i64 0, .bool false, .int .i64 0] 66)).drewN n1)) := (Off.refl _ _).drewN n1
      have HN2 : Hid (∀ o, ((w1.alloc (.cells #[.int .i64 l, .int .i64 (y'), .int .i64 (m'), .int .i64 (d'), .int .i64 0, .int .i64 0, .int .i64 0, .int .i64 0, .int .i64 0, .bool false, .int .i64 0] 66)).drewN n1).frozen? ⟨w1.heap.size, o, none⟩ = false) := fun o => by simp
      generalize ((w1.alloc (.cells #[.int .i64 l, .int .i64 (y'), .int .i64 (m'), .int .i64 (d'), .int .i64 0, .int .i64 0, .int .i64 0, .int .i64 0, .int .i64 0, .bool false, .int .i64 0] 66)).drewN n1) = W2 at HV2 HR3 HO3 HN2 ⊢
      obtain ⟨⟨Z1, ZN1, A4, B4⟩, hz1⟩ : ∃ x, zoneS s a1 B = x := ⟨_, rfl⟩
      have HZ1 : Hid (zoneS s a1 B = (Z1, ZN1, A4, B4)) := hz1
      have HE1 : Hid (B4 = B3 ∧ (B3 = none → Z1 = Z ∧ ZN1 = ZN ∧ A4 = A3)) := by
        have zs := zone_same (s := s) (b := B) (fun g => (HQ1.out g).1)
        rw [hz1, HZ.out] at zs
        refine ⟨zs.1, fun g => ?_⟩
        have := zs.2 g
        simp only [Prod.mk.injEq] at this
        exact ⟨this.1, this.2.1, this.2.2.1⟩
      clear hz1
      refine (rzone_any _ HR3.out HZ1.out).mono ?_
      rintro e w3 ⟨z', zn', a3, rfl, r3, q3, o3⟩
      have HQ3 : Hid (B4 = none → a3 = A4 ∧ z' = Z1 ∧ zn' = ZN1) := q3
      have HR4 : Hid (RRd w3 (w.heap.size + 1) s a3 B4) := r3
      have HO4 : Hid (Off (RK (w.heap.size + 1) w1.heap.size) (w1.alloc (.cells #[.int .i64 l, .int .i64 (y'), .int .i64 (m'), .int .i64 (d'), .int .i64 0, .int .i64 0, .int .i64 0, .int .i64 0, .int .i64 0, .bool false, .int .i64 0] 66)) w3) := HO3.out.trans (o3.mono fun _ g => Or.inl g)
      have HV3 : Hid (Eleven w3 w1.heap.size l y' m' d' 0 0 0 0 0 false 0) := HV2.out.same fun o => o3.cell (p := ⟨w1.heap.size, o, none⟩) (show w1.heap.size < W2.heap.size from cell_lt HV2.out.k0) (by show ¬ w1.heap.size = (w.heap.size + 1); omega)
      have k0 := HV3.out.k0
      have k1 := HV3.out.k1
      have k2 := HV3.out.k2
      have k3 := HV3.out.k3
      have k4 := HV3.out.k4
      have k5 := HV3.out.k5
      have k6 := HV3.out.k6
      have k7 := HV3.out.k7
      have k8 := HV3.out.k8
      have k9 := HV3.out.k9
      have k10 := HV3.out.k10
      have hN3 : ∀ o, w3.frozen? ⟨w1.heap.size, o, none⟩ = false := fun o => by rw [o3.frozen (p := ⟨w1.heap.size, o, none⟩) (show w1.heap.size < W2.heap.size from cell_lt HV2.out.k0) (by show ¬ w1.heap.size = (w.heap.size + 1); omega)]; exact HN2.out o
      clear r3 q3 o3
      go_wp2_with fail
      have HV4 : Hid (Eleven (((((((((((w3.setCell ⟨w1.heap.size, 0, none⟩ (.int .i64 l)).setCell ⟨w1.heap.size, 1, none⟩ (.int .i64 y')).setCell ⟨w1.heap.size, 2, none⟩ (.int .i64 m')).setCell ⟨w1.heap.size, 3, none⟩ (.int .i64 d')).setCell ⟨w1.heap.size, 4, none⟩ (.int .i64 0)).setCell ⟨w1.heap.size, 5, none⟩ (.int .i64 0)).setCell ⟨w1.heap.size, 6, none⟩ (.int .i64 0)).setCell ⟨w1.heap.size, 7, none⟩ (.int .i64 0)).setCell ⟨w1.heap.size, 8, none⟩ (.int .i64 0)).setCell ⟨w1.heap.size, 9, none⟩ (.bool z')).setCell ⟨w1.heap.size, 10, none⟩ (.int .i64 zn')) w1.heap.size l y' m' d' 0 0 0 0 0 z' zn') := eleven_set fun o ho => HV3.out.some o ho
      have HX4 : Hid (Off (fun k => k = w1.heap.size) w3 (((((((((((w3.setCell ⟨w1.heap.size, 0, none⟩ (.int .i64 l)).setCell ⟨w1.heap.size, 1, none⟩ (.int .i64 y')).setCell ⟨w1.heap.size, 2, none⟩ (.int .i64 m')).setCell ⟨w1.heap.size, 3, none⟩ (.int .i64 d')).setCell ⟨w1.heap.size, 4, none⟩ (.int .i64 0)).setCell ⟨w1.heap.size, 5, none⟩ (.int .i64 0)).setCell ⟨w1.heap.size, 6, none⟩ (.int .i64 0)).setCell ⟨w1.heap.size, 7, none⟩ (.int .i64 0)).setCell ⟨w1.heap.size, 8, none⟩ (.int .i64 0)).setCell ⟨w1.heap.size, 9, none⟩ (.bool z')).setCell ⟨w1.heap.size, 10, none⟩ (.int .i64 zn'))) := off_set11 (P := fun k => k = w1.heap.size) (Off.refl _ _) rfl _ _ _ _ _ _ _ _ _ _ _
      generalize (((((((((((w3.setCell ⟨w1.heap.size, 0, none⟩ (.int .i64 l)).setCell ⟨w1.heap.size, 1, none⟩ (.int .i64 y')).setCell ⟨w1.heap.size, 2, none⟩ (.int .i64 m')).setCell ⟨w1.heap.size, 3, none⟩ (.int .i64 d')).setCell ⟨w1.heap.size, 4, none⟩ (.int .i64 0)).setCell ⟨w1.heap.size, 5, none⟩ (.int .i64 0)).setCell ⟨w1.heap.size, 6, none⟩ (.int .i64 0)).setCell ⟨w1.heap.size, 7, none⟩ (.int .i64 0)).setCell ⟨w1.heap.size, 8, none⟩ (.int .i64 0)).setCell ⟨w1.heap.size, 9, none⟩ (.bool z')).setCell ⟨w1.heap.size, 10, none⟩ (.int .i64 zn')) = W4 at HV4 HX4 ⊢
      clear k0 k1 k2 k3 k4 k5 k6 k7 k8 k9 k10 hN3
      have HR5 : Hid (RRd W4 (w.heap.size + 1) s a3 B4) := HR4.out.off HX4.out (by show ¬ (w.heap.size + 1) = w1.heap.size; omega)
      have HO5 : Hid (Off (RK (w.heap.size + 1) w1.heap.size) (w1.alloc (.cells #[.int .i64 l, .int .i64 (y'), .int .i64 (m'), .int .i64 (d'), .int .i64 0, .int .i64 0, .int .i64 0, .int .i64 0, .int .i64 0, .bool false, .int .i64 0] 66)) W4) := HO4.out.trans (HX4.out.mono fun _ g => Or.inr g)
      refine (rend_any _ HR5.out).mono ?_
      rintro e w5 ⟨rfl, r5, o5⟩
      have HO6 : Hid (Off (RK (w.heap.size + 1) w1.heap.size) (w1.alloc (.cells #[.int .i64 l, .int .i64 (y'), .int .i64 (m'), .int .i64 (d'), .int .i64 0, .int .i64 0, .int .i64 0, .int .i64 0, .int .i64 0, .bool false, .int .i64 0] 66)) w5) := HO5.out.trans (o5.mono fun _ g => Or.inl g)
      have HV5 : Hid (Eleven w5 w1.heap.size l y' m' d' 0 0 0 0 0 z' zn') := HV4.out.same fun o => o5.cell (p := ⟨w1.heap.size, o, none⟩) (show w1.heap.size < W4.heap.size from cell_lt HV4.out.k0) (by show ¬ w1.heap.size = (w.heap.size + 1); omega)
      have hee : endB s a3 B4 = E := by
        rw [← HE.out, end_same (fun g => (HQ3.out g).1)]
        have e1 := HE1.out
        rw [e1.1]
        exact end_same fun g => (e1.2 g).2.2
      rw [hee] at r5
      have kb := r5.bad
      have k0 := HV5.out.k0
      have k1 := HV5.out.k1
      have k2 := HV5.out.k2
      have k3 := HV5.out.k3
      have k4 := HV5.out.k4
      have k5 := HV5.out.k5
      have k6 := HV5.out.k6
      have k7 := HV5.out.k7
      have k8 := HV5.out.k8
      have k9 := HV5.out.k9
      have k10 := HV5.out.k10
      have hg5 : ∀ o, w5.cell? ⟨w.heap.size, o, none⟩ = ((w.alloc (.cells #[.int .i64 0, .int .i64 0, .int .i64 0, .int .i64 0, .int .i64 0, .int .i64 0, .int .i64 0, .int .i64 0, .int .i64 0, .bool false, .int .i64 0] 66)).alloc (.cells #[.string s, .int .i64 0, .int .i64 (-1)] 107)).cell? ⟨w.heap.size, o, none⟩ := fun o => (HO6.out.cell (p := ⟨w.heap.size, o, none⟩) (by simp; omega) (by show ¬ (w.heap.size = (w.heap.size + 1) ∨ w.heap.size = w1.heap.size); omega)).trans (HG1.out o)
      have hf5 : ∀ o, w5.frozen? ⟨w.heap.size, o, none⟩ = ((w.alloc (.cells #[.int .i64 0, .int .i64 0, .int .i64 0, .int .i64 0, .int .i64 0, .int .i64 0, .int .i64 0, .int .i64 0, .int .i64 0, .bool false, .int .i64 0] 66)).alloc (.cells #[.string s, .int .i64 0, .int .i64 (-1)] 107)).frozen? ⟨w.heap.size, o, none⟩ := fun o => (HO6.out.frozen (p := ⟨w.heap.size, o, none⟩) (by simp; omega) (by show ¬ (w.heap.size = (w.heap.size + 1) ∨ w.heap.size = w1.heap.size); omega)).trans (HF1.out o)
      have HB5 : Hid (Below w.heap.size w w5) := parse_below HO1.out HO6.out
      have hl5 : w.heap.size < w5.heap.size := by have := HO6.out.size; simp at this; omega
      clear r5 o5
      cases E with
      | none =>
        have hb4 : B4 = none := end_none hee
        have hb3 : B3 = none := HE1.out.1 ▸ hb4
        have hb2 : B = none := zone_none (s := s) (a := A) (by rw [HZ.out]; exact hb3)
        have kb' : w5.cell? ⟨(w.heap.size + 1), 2, none⟩ = some (.int .i64 (-1)) := kb
        obtain ⟨rfl, rfl, rfl⟩ := HQ3.out hb4
        obtain ⟨rfl, rfl, rfl⟩ := HE1.out.2 hb3
        obtain ⟨rfl, rfl, rfl, rfl, rfl⟩ := HQ1.out hb2
        clear kb hee hb4 hb3 hb2
        go_wp2_with fail
        refine bodyPost_ret (v := .tuple #[.agg #[.int .i64 l, .int .i64 (y'), .int .i64 (m'), .int .i64 (d'), .int .i64 0, .int .i64 0, .int .i64 0, .int .i64 0, .int .i64 0, .bool (z'), .int .i64 (zn')], .int .i64 0, .int .i64 0]) (by simp [results, Tryz.results35, go_sem, hg5, World.cell?_setCell_other]) rfl ⟨rfl, ?_⟩
        exact HB5.out.trans ((off_set11 (P := fun k => k = w.heap.size) (Off.refl _ _) rfl _ _ _ _ _ _ _ _ _ _ _).below (Nat.le_of_lt hl5) (by rintro k rfl; exact Nat.le_refl _))
      | some q =>
        have kb' : w5.cell? ⟨(w.heap.size + 1), 2, none⟩ = some (.int .i64 (q : Int)) := kb
        have hq : (0 : Int) ≤ q := by omega
        clear kb hee
        go_wp2_with fail
        go_region
        all_goals
          go_wp2_with fail
          refine bodyPost_ret (v := .tuple #[.agg #[.int .i64 0, .int .i64 0, .int .i64 0, .int .i64 0, .int .i64 0, .int .i64 0, .int .i64 0, .int .i64 0, .int .i64 0, .bool false, .int .i64 0], .int .i64 (q : Int), .int .i64 10]) (by simp [results, Tryz.results35, go_sem, hg5, World.cell?_setCell_other]) rfl ⟨rfl, ?_⟩
          exact HB5.out.trans (((off_set11 (P := fun k => k = w.heap.size) (Off.refl _ _) rfl _ _ _ _ _ _ _ _ _ _ _).drew).below (Nat.le_of_lt hl5) (by rintro k rfl; exact Nat.le_refl _))
  | true =>
    rw [hg] at he
    subst he
    obtain rfl : B = none := (isD_in hg).1
    obtain ⟨rfl, rfl, rfl, rfl, rfl⟩ := HQ1.out rfl
    obtain rfl : l = 3 := date_day HD.out hg
    have HC2 : Hid (clockS s a1 none = (lv2, h, mi, sc, p, dg, A2, B2)) := by have e := HC.out; unfold clkS at e; rw [if_pos hg] at e; exact e
    clear hg HC
    go_wp2_with fail
    refine (rclock_any _ (HR1.out.drewN n1) HC2.out).mono ?_
    rintro e w2 ⟨lv3, h3, mi3, sc3, p3, dg3, a2, rfl, r2, q2, o2⟩
    have HQ2 : Hid (B2 = none → a2 = A2 ∧ lv3 = lv2 ∧ h3 = h ∧ mi3 = mi ∧ sc3 = sc ∧ p3 = p ∧ dg3 = dg) := q2
    have HO2 : Hid (Off (· = (w.heap.size + 1)) (w1.alloc (.cells #[.int .i64 3, .int .i64 (y'), .int .i64 (m'), .int .i64 (d'), .int .i64 0, .int .i64 0, .int .i64 0, .int .i64 0, .int .i64 0, .bool false, .int .i64 0] 66)) w2) := ((Off.refl _ _).drewN n1).trans o2
    have HR2 : Hid (RRd w2 (w.heap.size + 1) s a2 B2) := r2
    have hK2 : ∀ o, w2.cell? ⟨w1.heap.size, o, none⟩ = (w1.alloc (.cells #[.int .i64 3, .int .i64 (y'), .int .i64 (m'), .int .i64 (d'), .int .i64 0, .int .i64 0, .int .i64 0, .int .i64 0, .int .i64 0, .bool false, .int .i64 0] 66)).cell? ⟨w1.heap.size, o, none⟩ := fun o => HO2.out.cell (p := ⟨w1.heap.size, o, none⟩) (by simp) (by show ¬ w1.heap.size = (w.heap.size + 1); omega)
    have hN2 : ∀ o, w2.frozen? ⟨w1.heap.size, o, none⟩ = (w1.alloc (.cells #[.int .i64 3, .int .i64 (y'), .int .i64 (m'), .int .i64 (d'), .int .i64 0, .int .i64 0, .int .i64 0, .int .i64 0, .int .i64 0, .bool false, .int .i64 0] 66)).frozen? ⟨w1.heap.size, o, none⟩ := fun o => HO2.out.frozen (p := ⟨w1.heap.size, o, none⟩) (by simp) (by show ¬ w1.heap.size = (w.heap.size + 1); omega)
    clear r2 q2 o2
    go_wp2_with fail
    have HV2 : Hid (Eleven (((((((((((w2.setCell ⟨w1.heap.size, 0, none⟩ (.int .i64 lv3)).setCell ⟨w1.heap.size, 1, none⟩ (.int .i64 y')).setCell ⟨w1.heap.size, 2, none⟩ (.int .i64 m')).setCell ⟨w1.heap.size, 3, none⟩ (.int .i64 d')).setCell ⟨w1.heap.size, 4, none⟩ (.int .i64 h3)).setCell ⟨w1.heap.size, 5, none⟩ (.int .i64 mi3)).setCell ⟨w1.heap.size, 6, none⟩ (.int .i64 sc3)).setCell ⟨w1.heap.size, 7, none⟩ (.int .i64 p3)).setCell ⟨w1.heap.size, 8, none⟩ (.int .i64 dg3)).setCell ⟨w1.heap.size, 9, none⟩ (.bool false)).setCell ⟨w1.heap.size, 10, none⟩ (.int .i64 0)) w1.heap.size lv3 y' m' d' h3 mi3 sc3 p3 dg3 false 0) := eleven_set fun o ho => by rw [hK2]; exact eleven_box.some o ho
    have HX2 : Hid (Off (fun k => k = w1.heap.size) w2 (((((((((((w2.setCell ⟨w1.heap.size, 0, none⟩ (.int .i64 lv3)).setCell ⟨w1.heap.size, 1, none⟩ (.int .i64 y')).setCell ⟨w1.heap.size, 2, none⟩ (.int .i64 m')).setCell ⟨w1.heap.size, 3, none⟩ (.int .i64 d')).setCell ⟨w1.heap.size, 4, none⟩ (.int .i64 h3)).setCell ⟨w1.heap.size, 5, none⟩ (.int .i64 mi3)).setCell ⟨w1.heap.size, 6, none⟩ (.int .i64 sc3)).setCell ⟨w1.heap.size, 7, none⟩ (.int .i64 p3)).setCell ⟨w1.heap.size, 8, none⟩ (.int .i64 dg3)).setCell ⟨w1.heap.size, 9, none⟩ (.bool false)).setCell ⟨w1.heap.size, 10, none⟩ (.int .i64 0))) := off_set11 (P := fun k => k = w1.heap.size) (Off.refl _ _) rfl _ _ _ _ _ _ _ _ _ _ _
    have HN2 : Hid (∀ o, (((((((((((w2.setCell ⟨w1.heap.size, 0, none⟩ (.int .i64 lv3)).setCell ⟨w1.heap.size, 1, none⟩ (.int .i64 y')).setCell ⟨w1.heap.size, 2, none⟩ (.int .i64 m')).setCell ⟨w1.heap.size, 3, none⟩ (.int .i64 d')).setCell ⟨w1.heap.size, 4, none⟩ (.int .i64 h3)).setCell ⟨w1.heap.size, 5, none⟩ (.int .i64 mi3)).setCell ⟨w1.heap.size, 6, none⟩ (.int .i64 sc3)).setCell ⟨w1.heap.size, 7, none⟩ (.int .i64 p3)).setCell ⟨w1.heap.size, 8, none⟩ (.int .i64 dg3)).setCell ⟨w1.heap.size, 9, none⟩ (.bool false)).setCell ⟨w1.heap.size, 10, none⟩ (.int .i64 0)).frozen? ⟨w1.heap.size, o, none⟩ = false) := fun o => by simp [hN2]
    generalize (((((((((((w2.setCell ⟨w1.heap.size, 0, none⟩ (.int .i64 lv3)).setCell ⟨w1.heap.size, 1, none⟩ (.int .i64 y')).setCell ⟨w1.heap.size, 2, none⟩ (.int .i64 m')).setCell ⟨w1.heap.size, 3, none⟩ (.int .i64 d')).setCell ⟨w1.heap.size, 4, none⟩ (.int .i64 h3)).setCell ⟨w1.heap.size, 5, none⟩ (.int .i64 mi3)).setCell ⟨w1.heap.size, 6, none⟩ (.int .i64 sc3)).setCell ⟨w1.heap.size, 7, none⟩ (.int .i64 p3)).setCell ⟨w1.heap.size, 8, none⟩ (.int .i64 dg3)).setCell ⟨w1.heap.size, 9, none⟩ (.bool false)).setCell ⟨w1.heap.size, 10, none⟩ (.int .i64 0)) = W2 at HV2 HX2 HN2 ⊢
    have HR3 : Hid (RRd W2 (w.heap.size + 1) s a2 B2) := HR2.out.off HX2.out (by show ¬ (w.heap.size + 1) = w1.heap.size; omega)
    have HO3 : Hid (Off (RK (w.heap.size + 1) w1.heap.size) (w1.alloc (.cells #[.int .i64 3, .int .i64 (y'), .int .i64 (m'), .int .i64 (d'), .int .i64 0, .int .i64 0, .int .i64 0, .int .i64 0, .int .i64 0, .bool false, .int .i64 0] 66)) W2) := (HO2.out.mono fun _ g => Or.inl g).trans (HX2.out.mono fun _ g => Or.inr g)
    obtain ⟨⟨Z1, ZN1, A4, B4⟩, hz1⟩ : ∃ x, zoneS s a2 B2 = x := ⟨_, rfl⟩
    have HZ1 : Hid (zoneS s a2 B2 = (Z1, ZN1, A4, B4)) := hz1
    have HE1 : Hid (B4 = B3 ∧ (B3 = none → Z1 = Z ∧ ZN1 = ZN ∧ A4 = A3)) := by
      have zs := zone_same (s := s) (b := B2) (fun g => (HQ2.out g).1)
      rw [hz1, HZ.out] at zs
      refine ⟨zs.1, fun g => ?_⟩
      have := zs.2 g
      simp only [Prod.mk.injEq] at this
      exact ⟨this.1, this.2.1, this.2.2.1⟩
    clear hz1
    refine (rzone_any _ HR3.out HZ1.out).mono ?_
    rintro e w3 ⟨z', zn', a3, rfl, r3, q3, o3⟩
    have HQ3 : Hid (B4 = none → a3 = A4 ∧ z' = Z1 ∧ zn' = ZN1) := q3
    have HR4 : Hid (RRd w3 (w.heap.size + 1) s a3 B4) := r3
    have HO4 : Hid (Off (RK (w.heap.size + 1) w1.heap.size) (w1.alloc (.cells #[.int .i64 3, .int .i64 (y'), .int .i64 (m'), .int .i64 (d'), .int .i64 0, .int .i64 0, .int .i64 0, .int .i64 0, .int .i64 0, .bool false, .int .i64 0] 66)) w3) := HO3.out.trans (o3.mono fun _ g => Or.inl g)
    have HV3 : Hid (Eleven w3 w1.heap.size lv3 y' m' d' h3 mi3 sc3 p3 dg3 false 0) := HV2.out.same fun o => o3.cell (p := ⟨w1.heap.size, o, none⟩) (show w1.heap.size < W2.heap.size from cell_lt HV2.out.k0) (by show ¬ w1.heap.size = (w.heap.size + 1); omega)
    have k0 := HV3.out.k0
    have k1 := HV3.out.k1
    have k2 := HV3.out.k2
    have k3 := HV3.out.k3
    have k4 := HV3.out.k4
    have k5 := HV3.out.k5
    have k6 := HV3.out.k6
    have k7 := HV3.out.k7
    have k8 := HV3.out.k8
    have k9 := HV3.out.k9
    have k10 := HV3.out.k10
    have hN3 : ∀ o, w3.frozen? ⟨w1.heap.size, o, none⟩ = false := fun o => by rw [o3.frozen (p := ⟨w1.heap.size, o, none⟩) (show w1.heap.size < W2.heap.size from cell_lt HV2.out.k0) (by show ¬ w1.heap.size = (w.heap.size + 1); omega)]; exact HN2.out o
    clear r3 q3 o3
    go_wp2_with fail
    have HV4 : Hid (Eleven (((((((((((w3.setCell ⟨w1.heap.size, 0, none⟩ (.int .i64 lv3)).setCell ⟨w1.heap.size, 1, none⟩ (.int .i64 y')).setCell ⟨w1.heap.size, 2, none⟩ (.int .i64 m')).setCell ⟨w1.heap.size, 3, none⟩ (.int .i64 d')).setCell ⟨w1.heap.size, 4, none⟩ (.int .i64 h3)).setCell ⟨w1.heap.size, 5, none⟩ (.int .i64 mi3)).setCell ⟨w1.heap.size, 6, none⟩ (.int .i64 sc3)).setCell ⟨w1.heap.size, 7, none⟩ (.int .i64 p3)).setCell ⟨w1.heap.size, 8, none⟩ (.int .i64 dg3)).setCell ⟨w1.heap.size, 9, none⟩ (.bool z')).setCell ⟨w1.heap.size, 10, none⟩ (.int .i64 zn')) w1.heap.size lv3 y' m' d' h3 mi3 sc3 p3 dg3 z' zn') := eleven_set fun o ho => HV3.out.some o ho
    have HX4 : Hid (Off (fun k => k = w1.heap.size) w3 (((((((((((w3.setCell ⟨w1.heap.size, 0, none⟩ (.int .i64 lv3)).setCell ⟨w1.heap.size, 1, none⟩ (.int .i64 y')).setCell ⟨w1.heap.size, 2, none⟩ (.int .i64 m')).setCell ⟨w1.heap.size, 3, none⟩ (.int .i64 d')).setCell ⟨w1.heap.size, 4, none⟩ (.int .i64 h3)).setCell ⟨w1.heap.size, 5, none⟩ (.int .i64 mi3)).setCell ⟨w1.heap.size, 6, none⟩ (.int .i64 sc3)).setCell ⟨w1.heap.size, 7, none⟩ (.int .i64 p3)).setCell ⟨w1.heap.size, 8, none⟩ (.int .i64 dg3)).setCell ⟨w1.heap.size, 9, none⟩ (.bool z')).setCell ⟨w1.heap.size, 10, none⟩ (.int .i64 zn'))) := off_set11 (P := fun k => k = w1.heap.size) (Off.refl _ _) rfl _ _ _ _ _ _ _ _ _ _ _
    generalize (((((((((((w3.setCell ⟨w1.heap.size, 0, none⟩ (.int .i64 lv3)).setCell ⟨w1.heap.size, 1, none⟩ (.int .i64 y')).setCell ⟨w1.heap.size, 2, none⟩ (.int .i64 m')).setCell ⟨w1.heap.size, 3, none⟩ (.int .i64 d')).setCell ⟨w1.heap.size, 4, none⟩ (.int .i64 h3)).setCell ⟨w1.heap.size, 5, none⟩ (.int .i64 mi3)).setCell ⟨w1.heap.size, 6, none⟩ (.int .i64 sc3)).setCell ⟨w1.heap.size, 7, none⟩ (.int .i64 p3)).setCell ⟨w1.heap.size, 8, none⟩ (.int .i64 dg3)).setCell ⟨w1.heap.size, 9, none⟩ (.bool z')).setCell ⟨w1.heap.size, 10, none⟩ (.int .i64 zn')) = W4 at HV4 HX4 ⊢
    clear k0 k1 k2 k3 k4 k5 k6 k7 k8 k9 k10 hN3
    have HR5 : Hid (RRd W4 (w.heap.size + 1) s a3 B4) := HR4.out.off HX4.out (by show ¬ (w.heap.size + 1) = w1.heap.size; omega)
    have HO5 : Hid (Off (RK (w.heap.size + 1) w1.heap.size) (w1.alloc (.cells #[.int .i64 3, .int .i64 (y'), .int .i64 (m'), .int .i64 (d'), .int .i64 0, .int .i64 0, .int .i64 0, .int .i64 0, .int .i64 0, .bool false, .int .i64 0] 66)) W4) := HO4.out.trans (HX4.out.mono fun _ g => Or.inr g)
    refine (rend_any _ HR5.out).mono ?_
    rintro e w5 ⟨rfl, r5, o5⟩
    have HO6 : Hid (Off (RK (w.heap.size + 1) w1.heap.size) (w1.alloc (.cells #[.int .i64 3, .int .i64 (y'), .int .i64 (m'), .int .i64 (d'), .int .i64 0, .int .i64 0, .int .i64 0, .int .i64 0, .int .i64 0, .bool false, .int .i64 0] 66)) w5) := HO5.out.trans (o5.mono fun _ g => Or.inl g)
    have HV5 : Hid (Eleven w5 w1.heap.size lv3 y' m' d' h3 mi3 sc3 p3 dg3 z' zn') := HV4.out.same fun o => o5.cell (p := ⟨w1.heap.size, o, none⟩) (show w1.heap.size < W4.heap.size from cell_lt HV4.out.k0) (by show ¬ w1.heap.size = (w.heap.size + 1); omega)
    have hee : endB s a3 B4 = E := by
      rw [← HE.out, end_same (fun g => (HQ3.out g).1)]
      have e1 := HE1.out
      rw [e1.1]
      exact end_same fun g => (e1.2 g).2.2
    rw [hee] at r5
    have kb := r5.bad
    have k0 := HV5.out.k0
    have k1 := HV5.out.k1
    have k2 := HV5.out.k2
    have k3 := HV5.out.k3
    have k4 := HV5.out.k4
    have k5 := HV5.out.k5
    have k6 := HV5.out.k6
    have k7 := HV5.out.k7
    have k8 := HV5.out.k8
    have k9 := HV5.out.k9
    have k10 := HV5.out.k10
    have hg5 : ∀ o, w5.cell? ⟨w.heap.size, o, none⟩ = ((w.alloc (.cells #[.int .i64 0, .int .i64 0, .int .i64 0, .int .i64 0, .int .i64 0, .int .i64 0, .int .i64 0, .int .i64 0, .int .i64 0, .bool false, .int .i64 0] 66)).alloc (.cells #[.string s, .int .i64 0, .int .i64 (-1)] 107)).cell? ⟨w.heap.size, o, none⟩ := fun o => (HO6.out.cell (p := ⟨w.heap.size, o, none⟩) (by simp; omega) (by show ¬ (w.heap.size = (w.heap.size + 1) ∨ w.heap.size = w1.heap.size); omega)).trans (HG1.out o)
    have hf5 : ∀ o, w5.frozen? ⟨w.heap.size, o, none⟩ = ((w.alloc (.cells #[.int .i64 0, .int .i64 0, .int .i64 0, .int .i64 0, .int .i64 0, .int .i64 0, .int .i64 0, .int .i64 0, .int .i64 0, .bool false, .int .i64 0] 66)).alloc (.cells #[.string s, .int .i64 0, .int .i64 (-1)] 107)).frozen? ⟨w.heap.size, o, none⟩ := fun o => (HO6.out.frozen (p := ⟨w.heap.size, o, none⟩) (by simp; omega) (by show ¬ (w.heap.size = (w.heap.size + 1) ∨ w.heap.size = w1.heap.size); omega)).trans (HF1.out o)
    have HB5 : Hid (Below w.heap.size w w5) := parse_below HO1.out HO6.out
    have hl5 : w.heap.size < w5.heap.size := by have := HO6.out.size; simp at this; omega
    clear r5 o5
    cases E with
    | none =>
      have hb4 : B4 = none := end_none hee
      have hb3 : B3 = none := HE1.out.1 ▸ hb4
      have hb2 : B2 = none := zone_none (s := s) (a := A2) (by rw [HZ.out]; exact hb3)
      have kb' : w5.cell? ⟨(w.heap.size + 1), 2, none⟩ = some (.int .i64 (-1)) := kb
      obtain ⟨rfl, rfl, rfl⟩ := HQ3.out hb4
      obtain ⟨rfl, rfl, rfl⟩ := HE1.out.2 hb3
      obtain ⟨rfl, rfl, rfl, rfl, rfl, rfl, rfl⟩ := HQ2.out hb2
      clear kb hee hb4 hb3 hb2
      go_wp2_with fail
      refine bodyPost_ret (v := .tuple #[.agg #[.int .i64 lv3, .int .i64 (y'), .int .i64 (m'), .int .i64 (d'), .int .i64 h3, .int .i64 mi3, .int .i64 sc3, .int .i64 p3, .int .i64 dg3, .bool (z'), .int .i64 (zn')], .int .i64 0, .int .i64 0]) (by simp [results, Tryz.results35, go_sem, hg5, World.cell?_setCell_other]) rfl ⟨rfl, ?_⟩
      exact HB5.out.trans ((off_set11 (P := fun k => k = w.heap.size) (Off.refl _ _) rfl _ _ _ _ _ _ _ _ _ _ _).below (Nat.le_of_lt hl5) (by rintro k rfl; exact Nat.le_refl _))
    | some q =>
      have kb' : w5.cell? ⟨(w.heap.size + 1), 2, none⟩ = some (.int .i64 (q : Int)) := kb
      have hq : (0 : Int) ≤ q := by omega
      clear kb hee
      go_wp2_with fail
      go_region
      all_goals
        go_wp2_with fail
        refine bodyPost_ret (v := .tuple #[.agg #[.int .i64 0, .int .i64 0, .int .i64 0, .int .i64 0, .int .i64 0, .int .i64 0, .int .i64 0, .int .i64 0, .int .i64 0, .bool false, .int .i64 0], .int .i64 (q : Int), .int .i64 10]) (by simp [results, Tryz.results35, go_sem, hg5, World.cell?_setCell_other]) rfl ⟨rfl, ?_⟩
        exact HB5.out.trans (((off_set11 (P := fun k => k = w.heap.size) (Off.refl _ _) rfl _ _ _ _ _ _ _ _ _ _ _).drew).below (Nat.le_of_lt hl5) (by rintro k rfl; exact Nat.le_refl _))
theorem fault_below {w w' : World} {b : Nat} {a c : Int} (h : FaultAt w b a c) (hb : Below w.heap.size w w') : FaultAt w' b a c := faultAt_off (P := fun _ => False) h (Off.of_below hb) id

end Go.Proofs.YtphobcobpclioaaGreatDoor
