/-
  The program's reader: clock in terms of clockS; stamp.Time.
-/
import Derived.Test.YtpcdkafjogpdkaaDoorRdClock2
namespace Go.Proofs.YtpcdkafjogpdkaaDoor
open Go.RowKit

/-- A time of day: level, hour, minute, second, part, digits, the place behind it, the first fault. -/
def clockS (s : ByteArray) (a : Nat) (bad : Option Nat) : Int × Int × Int × Int × Int × Int × Nat × Option Nat :=
  let x := numS s 2 0 23 a bad
  if isD (ahd s x.2.1 x.2.2) then
    let y := numS s 2 0 59 x.2.1 x.2.2
    if isD (ahd s y.2.1 y.2.2) then
      let z := numS s 2 0 59 y.2.1 y.2.2
      if ahd s z.2.1 z.2.2 = 46 then
        if isD (ahd s (z.2.1 + 1) none) then
          let f := prt s 3 ((ahd s (z.2.1 + 1) none : Int) - 48, 1, z.2.1 + 2, none)
          (7, x.1, y.1, z.1, f.1, f.2.1, f.2.2.1, f.2.2.2)
        else (7, x.1, y.1, z.1, 0, 1, z.2.1 + 1, some (z.2.1 + 1))
      else (6, x.1, y.1, z.1, 0, 0, z.2.1, z.2.2)
    else (5, x.1, y.1, 0, 0, 0, y.2.1, y.2.2)
  else (4, x.1, 0, 0, 0, 0, x.2.1, x.2.2)
theorem clock_any {R K : Nat} {s : ByteArray} {a : Nat} {bad : Option Nat} {l : Int} {lv h mi sc p dg : Int} {a' : Nat} {b' : Option Nat} (w : World) (hRK : R ≠ K) (hC : CS w w R K s a bad l 0 0 0 0 0) (hx : clockS s a bad = (lv, h, mi, sc, p, dg, a', b')) :
    Calls Tryd.prog 30 #[.pointer (some ⟨R, 0, none⟩), .pointer (some ⟨K, 0, none⟩)] w fun e w' => e = .returned (.tuple #[]) ∧ CS w w' R K s a' b' lv h mi sc p dg := by
  obtain ⟨⟨hh, a1, b1⟩, h1⟩ : ∃ x, numS s 2 0 23 a bad = x := ⟨_, rfl⟩
  unfold clockS at hx
  simp only [h1] at hx
  cases d1 : isD (ahd s a1 b1) with
  | false =>
    simp only [d1, Bool.false_eq_true, if_false, Prod.mk.injEq] at hx
    obtain ⟨rfl, rfl, rfl, rfl, rfl, rfl, rfl, rfl⟩ := hx
    exact clock_4 w hRK hC h1 d1
  | true =>
    obtain ⟨⟨mm, a2, b2⟩, h2⟩ : ∃ x, numS s 2 0 59 a1 b1 = x := ⟨_, rfl⟩
    simp only [d1, if_true, h2] at hx
    cases d2 : isD (ahd s a2 b2) with
    | false =>
      simp only [d2, Bool.false_eq_true, if_false, Prod.mk.injEq] at hx
      obtain ⟨rfl, rfl, rfl, rfl, rfl, rfl, rfl, rfl⟩ := hx
      exact clock_5 w hRK hC h1 d1 h2 d2
    | true =>
      obtain ⟨⟨ss, a3, b3⟩, h3⟩ : ∃ x, numS s 2 0 59 a2 b2 = x := ⟨_, rfl⟩
      simp only [d2, if_true, h3] at hx
      by_cases g : ahd s a3 b3 = 46
      · rw [if_pos g] at hx
        cases d3 : isD (ahd s (a3 + 1) none) with
        | false =>
          simp only [d3, Bool.false_eq_true, if_false, Prod.mk.injEq] at hx
          obtain ⟨rfl, rfl, rfl, rfl, rfl, rfl, rfl, rfl⟩ := hx
          exact clock_7n w hRK hC h1 d1 h2 d2 h3 g d3
        | true =>
          obtain ⟨⟨P, D, A, B⟩, h4⟩ : ∃ x, prt s 3 ((ahd s (a3 + 1) none : Int) - 48, 1, a3 + 2, none) = x := ⟨_, rfl⟩
          simp only [d3, if_true, h4, Prod.mk.injEq] at hx
          obtain ⟨rfl, rfl, rfl, rfl, rfl, rfl, rfl, rfl⟩ := hx
          exact clock_7y w hRK hC h1 d1 h2 d2 h3 g d3 h4
      · rw [if_neg g] at hx
        simp only [Prod.mk.injEq] at hx
        obtain ⟨rfl, rfl, rfl, rfl, rfl, rfl, rfl, rfl⟩ := hx
        exact clock_6 w hRK hC h1 d1 h2 d2 h3 g

/-- The first fault of a text as a time of day. -/
def timeE (s : ByteArray) : Option Nat :=
  let c := clockS s 0 none
  let z := zoneS s c.2.2.2.2.2.2.1 c.2.2.2.2.2.2.2
  endB s z.2.2.1 z.2.2.2
end Go.Proofs.YtpcdkafjogpdkaaDoor
