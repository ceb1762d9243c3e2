import Derived.Test.YtphobcobpclioaaGreatDoorRdClock2
/-
  The program's reader: clock in terms of clockS; stamp.Time.
-/
namespace Go.Proofs.YtphobcobpclioaaGreatDoor
open Go.RowKit

/-- A time of day: level, hour, minute, second, part, digits, the place behind it, the first fault. -/
def clockS (s : ByteArray) (a : Nat) (bad : Option Nat) : Int × Int × Int × Int × Int × Int × Nat × Option Nat :=
  let x := numS s 2 0 23 a bad
  if isD (ahd s x.2.1 x.2.2) then
    let y := numS s 2 0 59 x.2.1 x.2.2
    if isD (ahd s y.2.1 y.2.2) then
      let z := numS s 2 0 59 y.2.1 y.2.2
      if ahd s z.2.1 z.2.2 = 46 then
        if isD (ahd s (z.2.1 + 1) none) then
          let f := prt s 3 ((ahd s (z.2.1 + 1) none : Int) - 48, 1, z.2.1 + 2, none)
          (7, x.1, y.1, z.1, f.1, f.2.1, f.2.2.1, f.2.2.2)
        else (7, x.1, y.1, z.1, 0, 1, z.2.1 + 1, some (z.2.1 + 1))
      else (6, x.1, y.1, z.1, 0, 0, z.2.1, z.2.2)
    else (5, x.1, y.1, 0, 0, 0, y.2.1, y.2.2)
  else (4, x.1, 0, 0, 0, 0, x.2.1, x.2.2)
theorem clock_any {R K : Nat} {s : ByteArray} {a : Nat} {bad : Option Nat} {l : Int} {lv h mi sc p dg : Int} {a' : Nat} {b' : Option Nat} (w : World) (hRK : R ≠ K) (hC : CS w w R K s a bad l 0 0 0 0 0) (hx : clockS s a bad = (lv, h, mi, sc, p, dg, a', b')) :
    Calls Tryz.prog 66 #[.pointer (some ⟨R, 0, none⟩), .pointer (some ⟨K, 0, none⟩)] w fun e w' => e = .returned (.tuple #[]) ∧ CS w w' R K s a' b' lv h mi sc p dg := by
  obtain ⟨⟨hh, a1, b1⟩, h1⟩ : ∃ x, numS s 2 0 23 a bad = x := ⟨_, rfl⟩
  unfold clockS at hx
  simp only [h1] at hx
  cases d1 : isD (ahd s a1 b1) with
  | false =>
    simp only [d1, Bool.false_eq_true, if_false, Prod.mk.injEq] at hx
    obtain ⟨rfl, rfl, rfl, rfl, rfl, rfl, rfl, rfl⟩ := hx
    exact clock_4 w hRK hC h1 d1
  | true =>
    obtain ⟨⟨mm, a2, b2⟩, h2⟩ : ∃ x, numS s 2 0 59 a1 b1 = x := ⟨_, rfl⟩
    simp only [d1, if_true, h2] at hx
    cases d2 : isD (ahd s a2 b2) with
    | false =>
      simp only [d2, Bool.false_eq_true, if_false, Prod.mk.injEq] at hx
      obtain ⟨rfl, rfl, rfl, rfl, rfl, rfl, rfl, rfl⟩ := hx
      exact clock_5 w hRK hC h1 d1 h2 d2
    | true =>
      obtain ⟨⟨ss, a3, b3⟩, h3⟩ : ∃ x, numS s 2 0 59 a2 b2 = x := ⟨_, rfl⟩
      simp only [d2, if_true, h3] at hx
      by_cases g : ahd s a3 b3 = 46
      · rw [if_pos g] at hx
        cases d3 : isD (ahd s (a3 + 1) none) with
        | false =>
          simp only [d3, Bool.false_eq_true, if_false, Prod.mk.injEq] at hx
          obtain ⟨rfl, rfl, rfl, rfl, rfl, rfl, rfl, rfl⟩ := hx
          exact clock_7n w hRK hC h1 d1 h2 d2 h3 g d3
        | true =>
          obtain ⟨⟨P, D, A, B⟩, h4⟩ : ∃ x, prt s 3 ((ahd s (a3 + 1) none : Int) - 48, 1, a3 + 2, none) = x := ⟨_, rfl⟩
          simp only [d3, if_true, h4, Prod.mk.injEq] at hx
          obtain ⟨rfl, rfl, rfl, rfl, rfl, rfl, rfl, rfl⟩ := hx
          exact clock_7y w hRK hC h1 d1 h2 d2 h3 g d3 h4
      · rw [if_neg g] at hx
        simp only [Prod.mk.injEq] at hx
        obtain ⟨rfl, rfl, rfl, rfl, rfl, rfl, rfl, rfl⟩ := hx
        exact clock_6 w hRK hC h1 d1 h2 d2 h3 g

/-- The first fault of a text as a time of day. -/
def timeE (s : ByteArray) : Option Nat :=
  let c := clockS s 0 none
  let z := zoneS s c.2.2.2.2.2.2.1 c.2.2.2.2.2.2.2
  endB s z.2.2.1 z.2.2.2
end Go.Proofs.YtphobcobpclioaaGreatDoor

/-
  stamp.Time.
-/
namespace Go.Proofs.YtphobcobpclioaaGreatDoor
open Go.RowKit

theorem rdr_new {w : World} {s : ByteArray} (hs : s.size ≤ maxLen) : Rdr (w.alloc (.cells #[.string s, .int .i64 0, .nilIface] 116)) w.heap.size s 0 none .nilIface :=
  ⟨by simp, by simp, by simp, rfl, by simp, by simp, Nat.zero_le _, hs⟩
theorem cs_new {w : World} {s : ByteArray} (hs : s.size ≤ maxLen) : CS ((w.alloc (.cells #[.string s, .int .i64 0, .nilIface] 116)).alloc (.cells #[.int .i64 0, .int .i64 0, .int .i64 0, .int .i64 0, .int .i64 0, .int .i64 0, .int .i64 0, .int .i64 0, .int .i64 0, .bool false, .int .i64 0] 66)) ((w.alloc (.cells #[.string s, .int .i64 0, .nilIface] 116)).alloc (.cells #[.int .i64 0, .int .i64 0, .int .i64 0, .int .i64 0, .int .i64 0, .int .i64 0, .int .i64 0, .int .i64 0, .int .i64 0, .bool false, .int .i64 0] 66)) w.heap.size (w.heap.size + 1) s 0 none 0 0 0 0 0 0 :=
  ⟨⟨_, (rdr_new hs).alloc _⟩, ⟨by simp, by simp, by simp, by simp, by simp, by simp, fun o _ => by simp⟩, ⟨fun _ _ => rfl, fun _ => rfl⟩, Off.refl _ _⟩
set_option maxHeartbeats 1000000 in
theorem Time_any (s : ByteArray) (w : World) (hs : s.size ≤ maxLen) :
    Calls Tryz.prog 49 #[.string s] w fun e w' => ∃ v, e = .returned v ∧ ErrAt w' w.heap.size v (timeE s) ∧ Below w.heap.size w w' := by
  have HC : Hid (CS ((w.alloc (.cells #[.string s, .int .i64 0, .nilIface] 116)).alloc (.cells #[.int .i64 0, .int .i64 0, .int .i64 0, .int .i64 0, .int .i64 0, .int .i64 0, .int .i64 0, .int .i64 0, .int .i64 0, .bool false, .int .i64 0] 66)) ((w.alloc (.cells #[.string s, .int .i64 0, .nilIface] 116)).alloc (.cells #[.int .i64 0, .int .i64 0, .int .i64 0, .int .i64 0, .int .i64 0, .int .i64 0, .int .i64 0, .int .i64 0, .int .i64 0, .bool false, .int .i64 0] 66)) w.heap.size (w.heap.size + 1) s 0 none 0 0 0 0 0 0) := cs_new hs
  obtain ⟨⟨lv, h, mi, sc, p, dg, a1, b1⟩, hx⟩ : ∃ x, clockS s 0 none = x := ⟨_, rfl⟩
  have HX : Hid (clockS s 0 none = (lv, h, mi, sc, p, dg, a1, b1)) := hx
  have HE : Hid (timeE s = endB s (zoneS s a1 b1).2.2.1 (zoneS s a1 b1).2.2.2) := by unfold timeE Hid; simp only [hx]
  clear hs hx
  go_enter Tryz.func49, Tryz.ntmps49
  go_wp2_with fail
  refine (clock_any _ (by omega) HC.out HX.out).mono ?_
  rintro e w1 ⟨rfl, c1⟩
  have HC1 : Hid (CS ((w.alloc (.cells #[.string s, .int .i64 0, .nilIface] 116)).alloc (.cells #[.int .i64 0, .int .i64 0, .int .i64 0, .int .i64 0, .int .i64 0, .int .i64 0, .int .i64 0, .int .i64 0, .int .i64 0, .bool false, .int .i64 0] 66)) w1 w.heap.size (w.heap.size + 1) s a1 b1 lv h mi sc p dg) := c1
  clear c1
  go_wp2_with fail
  obtain ⟨v1, r1⟩ := HC1.out.rdr
  refine (zone_any _ r1 (by omega) HC1.out.clk.k0 (by rw [HC1.out.kk.cell 9 (by omega)]; simp) (by rw [HC1.out.kk.cell 10 (by omega)]; simp) (by rw [HC1.out.kk.fr]; simp) (by rw [HC1.out.kk.fr]; simp)).mono ?_
  rintro e w2 ⟨rfl, ⟨v2, r2⟩, _, _, _, o2⟩
  have HR2 : Hid (Rdr w2 w.heap.size s (zoneS s a1 b1).2.2.1 (zoneS s a1 b1).2.2.2 v2) := r2
  have HO2 : Hid (Off (RK w.heap.size (w.heap.size + 1)) ((w.alloc (.cells #[.string s, .int .i64 0, .nilIface] 116)).alloc (.cells #[.int .i64 0, .int .i64 0, .int .i64 0, .int .i64 0, .int .i64 0, .int .i64 0, .int .i64 0, .int .i64 0, .int .i64 0, .bool false, .int .i64 0] 66)) w2) := HC1.out.off.trans o2
  clear r1 r2 o2
  go_wp2_with fail
  refine (end_any _ HR2.out).mono ?_
  rintro e w3 ⟨v3, rfl, r3, o3⟩
  have HR3 : Hid (Rdr w3 w.heap.size s (zoneS s a1 b1).2.2.1 (endB s (zoneS s a1 b1).2.2.1 (zoneS s a1 b1).2.2.2) v3) := r3
  have HO3 : Hid (Off (RK w.heap.size (w.heap.size + 1)) ((w.alloc (.cells #[.string s, .int .i64 0, .nilIface] 116)).alloc (.cells #[.int .i64 0, .int .i64 0, .int .i64 0, .int .i64 0, .int .i64 0, .int .i64 0, .int .i64 0, .int .i64 0, .int .i64 0, .bool false, .int .i64 0] 66)) w3) := HO2.out.trans (o3.mono fun _ g => Or.inl g)
  clear r3 o3
  go_wp2_with fail
  go_ret
  exact ⟨v3, rfl, by rw [HE.out]; exact HR3.out.held, ((below_box w _).alloc (by simp) _).trans (HO3.out.below (B := w.heap.size) (by simp; omega) (by rintro k (rfl | rfl) <;> omega))⟩
end Go.Proofs.YtphobcobpclioaaGreatDoor
