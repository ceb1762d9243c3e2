/-
  The log's scan: both areas.
-/
import Derived.Test.YthnpckmgnompiaaGreatDoorWScan
namespace Go.Proofs.YthnpckmgnompiaaGreatDoor
open Go.RowKit Go.BigFrame

/-- What was found in an area, its six fields by name. -/
structure Fnd where
  g : Int
  sa : Option Addr
  sl : Nat
  sc : Nat
  ra : Option Addr
  rn : Nat
  rc : Nat
  sz : Nat
  sy : Nat
  wh : Nat
def Fnd.vals (f : Fnd) : List Value := [.int .u64 f.g, .slice f.sa f.sl f.sc, .slice f.ra f.rn f.rc, .int .i64 f.sz, .int .i64 f.sy, .int .i64 f.wh]
def fnd0 : Fnd := ⟨0, none, 0, 0, none, 0, 0, 0, 0, 0⟩
/-- What an area's bytes make of it. -/
def FndOk (w : World) (N : Nat) (bs : List Int) (ar : Int) (sy : Nat) (f : Fnd) : Prop :=
  f.sz = bs.length ∧ f.sy = sy ∧ ((psS bs ar = none ∧ f.g = 0 ∧ f.wh = 0) ∨ ∃ (g : Nat) (sn : List Int) (rs : List (List Int)) (us : List Value), psS bs ar = some (g, sn, rs) ∧ f.g = g ∧ f.wh = 30 + sn.length + sizes rs ∧ f.sl = sn.length ∧ Byts w f.sa f.sl sn ∧ (f.sa = none → f.sc = 0) ∧ VRow w N 22 (.slice f.ra f.rn f.rc) us ∧ Pcs w us rs ∧ Far N f.sa ∧ PFar N us)
theorem FndQ.ok {w : World} {N : Nat} {bs : List Int} {ar : Int} {sy : Nat} {a : Array Value} (h : FndQ w N bs ar sy a) : ∃ f : Fnd, a = f.vals.toArray ∧ FndOk w N bs ar sy f := by
  rcases h with ⟨h1, rfl⟩ | ⟨g, sn, rs, sa, sc, ra, rn, rc, us, h1, rfl, h2, h3, h4, h5, h6, h7⟩
  · exact ⟨⟨0, none, 0, 0, none, 0, 0, bs.length, sy, 0⟩, rfl, rfl, rfl, Or.inl ⟨h1, rfl, rfl⟩⟩
  · exact ⟨⟨g, sa, sn.length, sc, ra, rn, rc, bs.length, sy, 30 + sn.length + sizes rs⟩, rfl, rfl, rfl, Or.inr ⟨g, sn, rs, us, h1, rfl, rfl, rfl, h2, h3, h4, h5, h6, h7⟩⟩
/-- Bytes stay where a block that holds none is written. -/
theorem byts_stay {w w' : World} {P : Nat → Prop} {po : Option Addr} {m : Nat} {bs : List Int} (hb : Byts w po m bs) (o : Off P w w') (hP : ∀ k, P k → ∀ q z, w.cell? ⟨k, q, none⟩ ≠ some (.int .u8 z)) : Byts w' po m bs :=
  byts_off hb o (fun b q hm e h => by
    obtain ⟨b', o', e', _, hc⟩ := hb.cell 0 (by have := hb.len; omega)
    rw [e] at e'
    simp only [Option.some.injEq, Addr.mk.injEq] at e'
    obtain ⟨rfl, rfl, _⟩ := e'
    exact hP _ h _ _ hc)
theorem FndOk.off {w w' : World} {P : Nat → Prop} {N : Nat} {bs : List Int} {ar : Int} {sy : Nat} {f : Fnd} (h : FndOk w N bs ar sy f) (o : Off P w w') (hP : ∀ k, P k → ∀ q z, w.cell? ⟨k, q, none⟩ ≠ some (.int .u8 z)) (hV : ∀ k, P k → k < N) : FndOk w' N bs ar sy f := by
  obtain ⟨h1, h2, h3⟩ := h
  refine ⟨h1, h2, h3.imp id ?_⟩
  rintro ⟨g, sn, rs, us, e1, e2, e3, e4, hb, hn, hv, hp, hf1, hf2⟩
  exact ⟨g, sn, rs, us, e1, e2, e3, e4, byts_stay hb o hP, hn, hv.off o (fun q hq hq' => by have := (hv.lt hq).1; have := hV q hq'; omega), ⟨hp.1, fun j u d hu hd => by obtain ⟨a, c, e, hby, hn⟩ := hp.2 j u d hu hd; exact ⟨a, c, e, byts_stay hby o hP, hn⟩⟩, hf1, hf2⟩
theorem set_low {x : World} {R : Nat} {c0 c1 c2 c3 c4 c5 : Value} (h0 : x.cell? ⟨R, 0, none⟩ = some c0) (h1 : x.cell? ⟨R, 1, none⟩ = some c1) (h2 : x.cell? ⟨R, 2, none⟩ = some c2) (h3 : x.cell? ⟨R, 3, none⟩ = some c3) (h4 : x.cell? ⟨R, 4, none⟩ = some c4) (h5 : x.cell? ⟨R, 5, none⟩ = some c5) (u0 u1 u2 u3 u4 u5 : Value) : Off (fun k => k = R) x ((((((x.setCell ⟨R, 0, none⟩ u0).setCell ⟨R, 1, none⟩ u1).setCell ⟨R, 2, none⟩ u2).setCell ⟨R, 3, none⟩ u3).setCell ⟨R, 4, none⟩ u4).setCell ⟨R, 5, none⟩ u5) ∧ ((((((x.setCell ⟨R, 0, none⟩ u0).setCell ⟨R, 1, none⟩ u1).setCell ⟨R, 2, none⟩ u2).setCell ⟨R, 3, none⟩ u3).setCell ⟨R, 4, none⟩ u4).setCell ⟨R, 5, none⟩ u5).cell? ⟨R, 0, none⟩ = some u0 ∧ ((((((x.setCell ⟨R, 0, none⟩ u0).setCell ⟨R, 1, none⟩ u1).setCell ⟨R, 2, none⟩ u2).setCell ⟨R, 3, none⟩ u3).setCell ⟨R, 4, none⟩ u4).setCell ⟨R, 5, none⟩ u5).cell? ⟨R, 1, none⟩ = some u1 ∧ ((((((x.setCell ⟨R, 0, none⟩ u0).setCell ⟨R, 1, none⟩ u1).setCell ⟨R, 2, none⟩ u2).setCell ⟨R, 3, none⟩ u3).setCell ⟨R, 4, none⟩ u4).setCell ⟨R, 5, none⟩ u5).cell? ⟨R, 2, none⟩ = some u2 ∧ ((((((x.setCell ⟨R, 0, none⟩ u0).setCell ⟨R, 1, none⟩ u1).setCell ⟨R, 2, none⟩ u2).setCell ⟨R, 3, none⟩ u3).setCell ⟨R, 4, none⟩ u4).setCell ⟨R, 5, none⟩ u5).cell? ⟨R, 3, none⟩ = some u3 ∧ ((((((x.setCell ⟨R, 0, none⟩ u0).setCell ⟨R, 1, none⟩ u1).setCell ⟨R, 2, none⟩ u2).setCell ⟨R, 3, none⟩ u3).setCell ⟨R, 4, none⟩ u4).setCell ⟨R, 5, none⟩ u5).cell? ⟨R, 4, none⟩ = some u4 ∧ ((((((x.setCell ⟨R, 0, none⟩ u0).setCell ⟨R, 1, none⟩ u1).setCell ⟨R, 2, none⟩ u2).setCell ⟨R, 3, none⟩ u3).setCell ⟨R, 4, none⟩ u4).setCell ⟨R, 5, none⟩ u5).cell? ⟨R, 5, none⟩ = some u5 ∧ (∀ q, ((((((x.setCell ⟨R, 0, none⟩ u0).setCell ⟨R, 1, none⟩ u1).setCell ⟨R, 2, none⟩ u2).setCell ⟨R, 3, none⟩ u3).setCell ⟨R, 4, none⟩ u4).setCell ⟨R, 5, none⟩ u5).frozen? ⟨R, q, none⟩ = x.frozen? ⟨R, q, none⟩) ∧ (∀ q, q ≠ 0 → q ≠ 1 → q ≠ 2 → q ≠ 3 → q ≠ 4 → q ≠ 5 → ((((((x.setCell ⟨R, 0, none⟩ u0).setCell ⟨R, 1, none⟩ u1).setCell ⟨R, 2, none⟩ u2).setCell ⟨R, 3, none⟩ u3).setCell ⟨R, 4, none⟩ u4).setCell ⟨R, 5, none⟩ u5).cell? ⟨R, q, none⟩ = x.cell? ⟨R, q, none⟩) := by
  have so : ∀ (y : World) (p q : Nat) (u : Value), p ≠ q → (y.setCell ⟨R, p, none⟩ u).cell? ⟨R, q, none⟩ = y.cell? ⟨R, q, none⟩ := fun y p q u h => World.cell?_setCell_other _ _ _ _ (by simp; first | done | omega)
  have ss : ∀ (y : World) (p : Nat) (u c : Value), y.cell? ⟨R, p, none⟩ = some c → (y.setCell ⟨R, p, none⟩ u).cell? ⟨R, p, none⟩ = some u := fun y p u c h => World.cell?_setCell_same' _ _ _ (by rw [h]; rfl)
  have off : ∀ (y : World) (p : Nat) (u : Value), Off (fun k => k = R) x y → Off (fun k => k = R) x (y.setCell ⟨R, p, none⟩ u) := fun y p u h => h.setCell (p := ⟨R, p, none⟩) rfl u
  refine ⟨(off _ _ _ (off _ _ _ (off _ _ _ (off _ _ _ (off _ _ _ (off _ _ _ (Off.refl _ _))))))), ?_, ?_, ?_, ?_, ?_, ?_, fun q => ?_, fun q i0 i1 i2 i3 i4 i5 => ?_⟩
  · rw [so _ 5 0 _ (by omega), so _ 4 0 _ (by omega), so _ 3 0 _ (by omega), so _ 2 0 _ (by omega), so _ 1 0 _ (by omega)]
    refine ss _ 0 _ c0 ?_
    exact h0
  · rw [so _ 5 1 _ (by omega), so _ 4 1 _ (by omega), so _ 3 1 _ (by omega), so _ 2 1 _ (by omega)]
    refine ss _ 1 _ c1 ?_
    rw [so _ 0 1 _ (by omega)]
    exact h1
  · rw [so _ 5 2 _ (by omega), so _ 4 2 _ (by omega), so _ 3 2 _ (by omega)]
    refine ss _ 2 _ c2 ?_
    rw [so _ 1 2 _ (by omega), so _ 0 2 _ (by omega)]
    exact h2
  · rw [so _ 5 3 _ (by omega), so _ 4 3 _ (by omega)]
    refine ss _ 3 _ c3 ?_
    rw [so _ 2 3 _ (by omega), so _ 1 3 _ (by omega), so _ 0 3 _ (by omega)]
    exact h3
  · rw [so _ 5 4 _ (by omega)]
    refine ss _ 4 _ c4 ?_
    rw [so _ 3 4 _ (by omega), so _ 2 4 _ (by omega), so _ 1 4 _ (by omega), so _ 0 4 _ (by omega)]
    exact h4
  · skip
    refine ss _ 5 _ c5 ?_
    rw [so _ 4 5 _ (by omega), so _ 3 5 _ (by omega), so _ 2 5 _ (by omega), so _ 1 5 _ (by omega), so _ 0 5 _ (by omega)]
    exact h5
  · rw [World.frozen?_setCell, World.frozen?_setCell, World.frozen?_setCell, World.frozen?_setCell, World.frozen?_setCell, World.frozen?_setCell]
  · rw [so _ 5 q _ (Ne.symm i5), so _ 4 q _ (Ne.symm i4), so _ 3 q _ (Ne.symm i3), so _ 2 q _ (Ne.symm i2), so _ 1 q _ (Ne.symm i1), so _ 0 q _ (Ne.symm i0)]
theorem set_high {x : World} {R : Nat} {c6 c7 c8 c9 c10 c11 : Value} (h6 : x.cell? ⟨R, 6, none⟩ = some c6) (h7 : x.cell? ⟨R, 7, none⟩ = some c7) (h8 : x.cell? ⟨R, 8, none⟩ = some c8) (h9 : x.cell? ⟨R, 9, none⟩ = some c9) (h10 : x.cell? ⟨R, 10, none⟩ = some c10) (h11 : x.cell? ⟨R, 11, none⟩ = some c11) (u6 u7 u8 u9 u10 u11 : Value) : Off (fun k => k = R) x ((((((x.setCell ⟨R, 6, none⟩ u6).setCell ⟨R, 7, none⟩ u7).setCell ⟨R, 8, none⟩ u8).setCell ⟨R, 9, none⟩ u9).setCell ⟨R, 10, none⟩ u10).setCell ⟨R, 11, none⟩ u11) ∧ ((((((x.setCell ⟨R, 6, none⟩ u6).setCell ⟨R, 7, none⟩ u7).setCell ⟨R, 8, none⟩ u8).setCell ⟨R, 9, none⟩ u9).setCell ⟨R, 10, none⟩ u10).setCell ⟨R, 11, none⟩ u11).cell? ⟨R, 6, none⟩ = some u6 ∧ ((((((x.setCell ⟨R, 6, none⟩ u6).setCell ⟨R, 7, none⟩ u7).setCell ⟨R, 8, none⟩ u8).setCell ⟨R, 9, none⟩ u9).setCell ⟨R, 10, none⟩ u10).setCell ⟨R, 11, none⟩ u11).cell? ⟨R, 7, none⟩ = some u7 ∧ ((((((x.setCell ⟨R, 6, none⟩ u6).setCell ⟨R, 7, none⟩ u7).setCell ⟨R, 8, none⟩ u8).setCell ⟨R, 9, none⟩ u9).setCell ⟨R, 10, none⟩ u10).setCell ⟨R, 11, none⟩ u11).cell? ⟨R, 8, none⟩ = some u8 ∧ ((((((x.setCell ⟨R, 6, none⟩ u6).setCell ⟨R, 7, none⟩ u7).setCell ⟨R, 8, none⟩ u8).setCell ⟨R, 9, none⟩ u9).setCell ⟨R, 10, none⟩ u10).setCell ⟨R, 11, none⟩ u11).cell? ⟨R, 9, none⟩ = some u9 ∧ ((((((x.setCell ⟨R, 6, none⟩ u6).setCell ⟨R, 7, none⟩ u7).setCell ⟨R, 8, none⟩ u8).setCell ⟨R, 9, none⟩ u9).setCell ⟨R, 10, none⟩ u10).setCell ⟨R, 11, none⟩ u11).cell? ⟨R, 10, none⟩ = some u10 ∧ ((((((x.setCell ⟨R, 6, none⟩ u6).setCell ⟨R, 7, none⟩ u7).setCell ⟨R, 8, none⟩ u8).setCell ⟨R, 9, none⟩ u9).setCell ⟨R, 10, none⟩ u10).setCell ⟨R, 11, none⟩ u11).cell? ⟨R, 11, none⟩ = some u11 ∧ (∀ q, ((((((x.setCell ⟨R, 6, none⟩ u6).setCell ⟨R, 7, none⟩ u7).setCell ⟨R, 8, none⟩ u8).setCell ⟨R, 9, none⟩ u9).setCell ⟨R, 10, none⟩ u10).setCell ⟨R, 11, none⟩ u11).frozen? ⟨R, q, none⟩ = x.frozen? ⟨R, q, none⟩) ∧ (∀ q, q ≠ 6 → q ≠ 7 → q ≠ 8 → q ≠ 9 → q ≠ 10 → q ≠ 11 → ((((((x.setCell ⟨R, 6, none⟩ u6).setCell ⟨R, 7, none⟩ u7).setCell ⟨R, 8, none⟩ u8).setCell ⟨R, 9, none⟩ u9).setCell ⟨R, 10, none⟩ u10).setCell ⟨R, 11, none⟩ u11).cell? ⟨R, q, none⟩ = x.cell? ⟨R, q, none⟩) := by
  have so : ∀ (y : World) (p q : Nat) (u : Value), p ≠ q → (y.setCell ⟨R, p, none⟩ u).cell? ⟨R, q, none⟩ = y.cell? ⟨R, q, none⟩ := fun y p q u h => World.cell?_setCell_other _ _ _ _ (by simp; first | done | omega)
  have ss : ∀ (y : World) (p : Nat) (u c : Value), y.cell? ⟨R, p, none⟩ = some c → (y.setCell ⟨R, p, none⟩ u).cell? ⟨R, p, none⟩ = some u := fun y p u c h => World.cell?_setCell_same' _ _ _ (by rw [h]; rfl)
  have off : ∀ (y : World) (p : Nat) (u : Value), Off (fun k => k = R) x y → Off (fun k => k = R) x (y.setCell ⟨R, p, none⟩ u) := fun y p u h => h.setCell (p := ⟨R, p, none⟩) rfl u
  refine ⟨(off _ _ _ (off _ _ _ (off _ _ _ (off _ _ _ (off _ _ _ (off _ _ _ (Off.refl _ _))))))), ?_, ?_, ?_, ?_, ?_, ?_, fun q => ?_, fun q i6 i7 i8 i9 i10 i11 => ?_⟩
  · rw [so _ 11 6 _ (by omega), so _ 10 6 _ (by omega), so _ 9 6 _ (by omega), so _ 8 6 _ (by omega), so _ 7 6 _ (by omega)]
    refine ss _ 6 _ c6 ?_
    exact h6
  · rw [so _ 11 7 _ (by omega), so _ 10 7 _ (by omega), so _ 9 7 _ (by omega), so _ 8 7 _ (by omega)]
    refine ss _ 7 _ c7 ?_
    rw [so _ 6 7 _ (by omega)]
    exact h7
  · rw [so _ 11 8 _ (by omega), so _ 10 8 _ (by omega), so _ 9 8 _ (by omega)]
    refine ss _ 8 _ c8 ?_
    rw [so _ 7 8 _ (by omega), so _ 6 8 _ (by omega)]
    exact h8
  · rw [so _ 11 9 _ (by omega), so _ 10 9 _ (by omega)]
    refine ss _ 9 _ c9 ?_
    rw [so _ 8 9 _ (by omega), so _ 7 9 _ (by omega), so _ 6 9 _ (by omega)]
    exact h9
  · rw [so _ 11 10 _ (by omega)]
    refine ss _ 10 _ c10 ?_
    rw [so _ 9 10 _ (by omega), so _ 8 10 _ (by omega), so _ 7 10 _ (by omega), so _ 6 10 _ (by omega)]
    exact h10
  · skip
    refine ss _ 11 _ c11 ?_
    rw [so _ 10 11 _ (by omega), so _ 9 11 _ (by omega), so _ 8 11 _ (by omega), so _ 7 11 _ (by omega), so _ 6 11 _ (by omega)]
    exact h11
  · rw [World.frozen?_setCell, World.frozen?_setCell, World.frozen?_setCell, World.frozen?_setCell, World.frozen?_setCell, World.frozen?_setCell]
  · rw [so _ 11 q _ (Ne.symm i11), so _ 10 q _ (Ne.symm i10), so _ 9 q _ (Ne.symm i9), so _ 8 q _ (Ne.symm i8), so _ 7 q _ (Ne.symm i7), so _ 6 q _ (Ne.symm i6)]
theorem set_all {x : World} {R : Nat} {c0 c1 c2 c3 c4 c5 c6 c7 c8 c9 c10 c11 : Value} (h0 : x.cell? ⟨R, 0, none⟩ = some c0) (h1 : x.cell? ⟨R, 1, none⟩ = some c1) (h2 : x.cell? ⟨R, 2, none⟩ = some c2) (h3 : x.cell? ⟨R, 3, none⟩ = some c3) (h4 : x.cell? ⟨R, 4, none⟩ = some c4) (h5 : x.cell? ⟨R, 5, none⟩ = some c5) (h6 : x.cell? ⟨R, 6, none⟩ = some c6) (h7 : x.cell? ⟨R, 7, none⟩ = some c7) (h8 : x.cell? ⟨R, 8, none⟩ = some c8) (h9 : x.cell? ⟨R, 9, none⟩ = some c9) (h10 : x.cell? ⟨R, 10, none⟩ = some c10) (h11 : x.cell? ⟨R, 11, none⟩ = some c11) (u0 u1 u2 u3 u4 u5 u6 u7 u8 u9 u10 u11 : Value) : Off (fun k => k = R) x ((((((((((((x.setCell ⟨R, 0, none⟩ u0).setCell ⟨R, 1, none⟩ u1).setCell ⟨R, 2, none⟩ u2).setCell ⟨R, 3, none⟩ u3).setCell ⟨R, 4, none⟩ u4).setCell ⟨R, 5, none⟩ u5).setCell ⟨R, 6, none⟩ u6).setCell ⟨R, 7, none⟩ u7).setCell ⟨R, 8, none⟩ u8).setCell ⟨R, 9, none⟩ u9).setCell ⟨R, 10, none⟩ u10).setCell ⟨R, 11, none⟩ u11) ∧ ((((((((((((x.setCell ⟨R, 0, none⟩ u0).setCell ⟨R, 1, none⟩ u1).setCell ⟨R, 2, none⟩ u2).setCell ⟨R, 3, none⟩ u3).setCell ⟨R, 4, none⟩ u4).setCell ⟨R, 5, none⟩ u5).setCell ⟨R, 6, none⟩ u6).setCell ⟨R, 7, none⟩ u7).setCell ⟨R, 8, none⟩ u8).setCell ⟨R, 9, none⟩ u9).setCell ⟨R, 10, none⟩ u10).setCell ⟨R, 11, none⟩ u11).cell? ⟨R, 0, none⟩ = some u0 ∧ ((((((((((((x.setCell ⟨R, 0, none⟩ u0).setCell ⟨R, 1, none⟩ u1).setCell ⟨R, 2, none⟩ u2).setCell ⟨R, 3, none⟩ u3).setCell ⟨R, 4, none⟩ u4).setCell ⟨R, 5, none⟩ u5).setCell ⟨R, 6, none⟩ u6).setCell ⟨R, 7, none⟩ u7).setCell ⟨R, 8, none⟩ u8).setCell ⟨R, 9, none⟩ u9).setCell ⟨R, 10, none⟩ u10).setCell ⟨R, 11, none⟩ u11).cell? ⟨R, 1, none⟩ = some u1 ∧ ((((((((((((x.setCell ⟨R, 0, none⟩ u0).setCell ⟨R, 1, none⟩ u1).setCell ⟨R, 2, none⟩ u2).setCell ⟨R, 3, none⟩ u3).setCell ⟨R, 4, none⟩ u4).setCell ⟨R, 5, none⟩ u5).setCell ⟨R, 6, none⟩ u6).setCell ⟨R, 7, none⟩ u7).setCell ⟨R, 8, none⟩ u8).setCell ⟨R, 9, none⟩ u9).setCell ⟨R, 10, none⟩ u10).setCell ⟨R, 11, none⟩ u11).cell? ⟨R, 2, none⟩ = some u2 ∧ ((((((((((((x.setCell ⟨R, 0, none⟩ u0).setCell ⟨R, 1, none⟩ u1).setCell ⟨R, 2, none⟩ u2).setCell ⟨R, 3, none⟩ u3).setCell ⟨R, 4, none⟩ u4).setCell ⟨R, 5, none⟩ u5).setCell ⟨R, 6, none⟩ u6).setCell ⟨R, 7, none⟩ u7).setCell ⟨R, 8, none⟩ u8).setCell ⟨R, 9, none⟩ u9).setCell ⟨R, 10, none⟩ u10).setCell ⟨R, 11, none⟩ u11).cell? ⟨R, 3, none⟩ = some u3 ∧ ((((((((((((x.setCell ⟨R, 0, none⟩ u0).setCell ⟨R, 1, none⟩ u1).setCell ⟨R, 2, none⟩ u2).setCell ⟨R, 3, none⟩ u3).setCell ⟨R, 4, none⟩ u4).setCell ⟨R, 5, none⟩ u5).setCell ⟨R, 6, none⟩ u6).setCell ⟨R, 7, none⟩ u7).setCell ⟨R, 8, none⟩ u8).setCell ⟨R, 9, none⟩ u9).setCell ⟨R, 10, none⟩ u10).setCell ⟨R, 11, none⟩ u11).cell? ⟨R, 4, none⟩ = some u4 ∧ ((((((((((((x.setCell ⟨R, 0, none⟩ u0).setCell ⟨R, 1, none⟩ u1).setCell ⟨R, 2, none⟩ u2).setCell ⟨R, 3, none⟩ u3).setCell ⟨R, 4, none⟩ u4).setCell ⟨R, 5, none⟩ u5).setCell ⟨R, 6, none⟩ u6).setCell ⟨R, 7, none⟩ u7).setCell ⟨R, 8, none⟩ u8).setCell ⟨R, 9, none⟩ u9).setCell ⟨R, 10, none⟩ u10).setCell ⟨R, 11, none⟩ u11).cell? ⟨R, 5, none⟩ = some u5 ∧ ((((((((((((x.setCell ⟨R, 0, none⟩ u0).setCell ⟨R, 1, none⟩ u1).setCell ⟨R, 2, none⟩ u2).setCell ⟨R, 3, none⟩ u3).setCell ⟨R, 4, none⟩ u4).setCell ⟨R, 5, none⟩ u5).setCell ⟨R, 6, none⟩ u6).setCell ⟨R, 7, none⟩ u7).setCell ⟨R, 8, none⟩ u8).setCell ⟨R, 9, none⟩ u9).setCell ⟨R, 10, none⟩ u10).setCell ⟨R, 11, none⟩ u11).cell? ⟨R, 6, none⟩ = some u6 ∧ ((((((((((((x.setCell ⟨R, 0, none⟩ u0).setCell ⟨R, 1, none⟩ u1).setCell ⟨R, 2, none⟩ u2).setCell ⟨R, 3, none⟩ u3).setCell ⟨R, 4, none⟩ u4).setCell ⟨R, 5, none⟩ u5).setCell ⟨R, 6, none⟩ u6).setCell ⟨R, 7, none⟩ u7).setCell ⟨R, 8, none⟩ u8).setCell ⟨R, 9, none⟩ u9).setCell ⟨R, 10, none⟩ u10).setCell ⟨R, 11, none⟩ u11).cell? ⟨R, 7, none⟩ = some u7 ∧ ((((((((((((x.setCell ⟨R, 0, none⟩ u0).setCell ⟨R, 1, none⟩ u1).setCell ⟨R, 2, none⟩ u2).setCell ⟨R, 3, none⟩ u3).setCell ⟨R, 4, none⟩ u4).setCell ⟨R, 5, none⟩ u5).setCell ⟨R, 6, none⟩ u6).setCell ⟨R, 7, none⟩ u7).setCell ⟨R, 8, none⟩ u8).setCell ⟨R, 9, none⟩ u9).setCell ⟨R, 10, none⟩ u10).setCell ⟨R, 11, none⟩ u11).cell? ⟨R, 8, none⟩ = some u8 ∧ ((((((((((((x.setCell ⟨R, 0, none⟩ u0).setCell ⟨R, 1, none⟩ u1).setCell ⟨R, 2, none⟩ u2).setCell ⟨R, 3, none⟩ u3).setCell ⟨R, 4, none⟩ u4).setCell ⟨R, 5, none⟩ u5).setCell ⟨R, 6, none⟩ u6).setCell ⟨R, 7, none⟩ u7).setCell ⟨R, 8, none⟩ u8).setCell ⟨R, 9, none⟩ u9).setCell ⟨R, 10, none⟩ u10).setCell ⟨R, 11, none⟩ u11).cell? ⟨R, 9, none⟩ = some u9 ∧ ((((((((((((x.setCell ⟨R, 0, none⟩ u0).setCell ⟨R, 1, none⟩ u1).setCell ⟨R, 2, none⟩ u2).setCell ⟨R, 3, none⟩ u3).setCell ⟨R, 4, none⟩ u4).setCell ⟨R, 5, none⟩ u5).setCell ⟨R, 6, none⟩ u6).setCell ⟨R, 7, none⟩ u7).setCell ⟨R, 8, none⟩ u8).setCell ⟨R, 9, none⟩ u9).setCell ⟨R, 10, none⟩ u10).setCell ⟨R, 11, none⟩ u11).cell? ⟨R, 10, none⟩ = some u10 ∧ ((((((((((((x.setCell ⟨R, 0, none⟩ u0).setCell ⟨R, 1, none⟩ u1).setCell ⟨R, 2, none⟩ u2).setCell ⟨R, 3, none⟩ u3).setCell ⟨R, 4, none⟩ u4).setCell ⟨R, 5, none⟩ u5).setCell ⟨R, 6, none⟩ u6).setCell ⟨R, 7, none⟩ u7).setCell ⟨R, 8, none⟩ u8).setCell ⟨R, 9, none⟩ u9).setCell ⟨R, 10, none⟩ u10).setCell ⟨R, 11, none⟩ u11).cell? ⟨R, 11, none⟩ = some u11 ∧ (∀ q, ((((((((((((x.setCell ⟨R, 0, none⟩ u0).setCell ⟨R, 1, none⟩ u1).setCell ⟨R, 2, none⟩ u2).setCell ⟨R, 3, none⟩ u3).setCell ⟨R, 4, none⟩ u4).setCell ⟨R, 5, none⟩ u5).setCell ⟨R, 6, none⟩ u6).setCell ⟨R, 7, none⟩ u7).setCell ⟨R, 8, none⟩ u8).setCell ⟨R, 9, none⟩ u9).setCell ⟨R, 10, none⟩ u10).setCell ⟨R, 11, none⟩ u11).frozen? ⟨R, q, none⟩ = x.frozen? ⟨R, q, none⟩) ∧ (∀ q, q ≠ 0 → q ≠ 1 → q ≠ 2 → q ≠ 3 → q ≠ 4 → q ≠ 5 → q ≠ 6 → q ≠ 7 → q ≠ 8 → q ≠ 9 → q ≠ 10 → q ≠ 11 → ((((((((((((x.setCell ⟨R, 0, none⟩ u0).setCell ⟨R, 1, none⟩ u1).setCell ⟨R, 2, none⟩ u2).setCell ⟨R, 3, none⟩ u3).setCell ⟨R, 4, none⟩ u4).setCell ⟨R, 5, none⟩ u5).setCell ⟨R, 6, none⟩ u6).setCell ⟨R, 7, none⟩ u7).setCell ⟨R, 8, none⟩ u8).setCell ⟨R, 9, none⟩ u9).setCell ⟨R, 10, none⟩ u10).setCell ⟨R, 11, none⟩ u11).cell? ⟨R, q, none⟩ = x.cell? ⟨R, q, none⟩) := by
  have so : ∀ (y : World) (p q : Nat) (u : Value), p ≠ q → (y.setCell ⟨R, p, none⟩ u).cell? ⟨R, q, none⟩ = y.cell? ⟨R, q, none⟩ := fun y p q u h => World.cell?_setCell_other _ _ _ _ (by simp; first | done | omega)
  have ss : ∀ (y : World) (p : Nat) (u c : Value), y.cell? ⟨R, p, none⟩ = some c → (y.setCell ⟨R, p, none⟩ u).cell? ⟨R, p, none⟩ = some u := fun y p u c h => World.cell?_setCell_same' _ _ _ (by rw [h]; rfl)
  have off : ∀ (y : World) (p : Nat) (u : Value), Off (fun k => k = R) x y → Off (fun k => k = R) x (y.setCell ⟨R, p, none⟩ u) := fun y p u h => h.setCell (p := ⟨R, p, none⟩) rfl u
  refine ⟨(off _ _ _ (off _ _ _ (off _ _ _ (off _ _ _ (off _ _ _ (off _ _ _ (off _ _ _ (off _ _ _ (off _ _ _ (off _ _ _ (off _ _ _ (off _ _ _ (Off.refl _ _))))))))))))), ?_, ?_, ?_, ?_, ?_, ?_, ?_, ?_, ?_, ?_, ?_, ?_, fun q => ?_, fun q i0 i1 i2 i3 i4 i5 i6 i7 i8 i9 i10 i11 => ?_⟩
  · rw [so _ 11 0 _ (by omega), so _ 10 0 _ (by omega), so _ 9 0 _ (by omega), so _ 8 0 _ (by omega), so _ 7 0 _ (by omega), so _ 6 0 _ (by omega), so _ 5 0 _ (by omega), so _ 4 0 _ (by omega), so _ 3 0 _ (by omega), so _ 2 0 _ (by omega), so _ 1 0 _ (by omega)]
    refine ss _ 0 _ c0 ?_
    exact h0
  · rw [so _ 11 1 _ (by omega), so _ 10 1 _ (by omega), so _ 9 1 _ (by omega), so _ 8 1 _ (by omega), so _ 7 1 _ (by omega), so _ 6 1 _ (by omega), so _ 5 1 _ (by omega), so _ 4 1 _ (by omega), so _ 3 1 _ (by omega), so _ 2 1 _ (by omega)]
    refine ss _ 1 _ c1 ?_
    rw [so _ 0 1 _ (by omega)]
    exact h1
  · rw [so _ 11 2 _ (by omega), so _ 10 2 _ (by omega), so _ 9 2 _ (by omega), so _ 8 2 _ (by omega), so _ 7 2 _ (by omega), so _ 6 2 _ (by omega), so _ 5 2 _ (by omega), so _ 4 2 _ (by omega), so _ 3 2 _ (by omega)]
    refine ss _ 2 _ c2 ?_
    rw [so _ 1 2 _ (by omega), so _ 0 2 _ (by omega)]
    exact h2
  · rw [so _ 11 3 _ (by omega), so _ 10 3 _ (by omega), so _ 9 3 _ (by omega), so _ 8 3 _ (by omega), so _ 7 3 _ (by omega), so _ 6 3 _ (by omega), so _ 5 3 _ (by omega), so _ 4 3 _ (by omega)]
    refine ss _ 3 _ c3 ?_
    rw [so _ 2 3 _ (by omega), so _ 1 3 _ (by omega), so _ 0 3 _ (by omega)]
    exact h3
  · rw [so _ 11 4 _ (by omega), so _ 10 4 _ (by omega), so _ 9 4 _ (by omega), so _ 8 4 _ (by omega), so _ 7 4 _ (by omega), so _ 6 4 _ (by omega), so _ 5 4 _ (by omega)]
    refine ss _ 4 _ c4 ?_
    rw [so _ 3 4 _ (by omega), so _ 2 4 _ (by omega), so _ 1 4 _ (by omega), so _ 0 4 _ (by omega)]
    exact h4
  · rw [so _ 11 5 _ (by omega), so _ 10 5 _ (by omega), so _ 9 5 _ (by omega), so _ 8 5 _ (by omega), so _ 7 5 _ (by omega), so _ 6 5 _ (by omega)]
    refine ss _ 5 _ c5 ?_
    rw [so _ 4 5 _ (by omega), so _ 3 5 _ (by omega), so _ 2 5 _ (by omega), so _ 1 5 _ (by omega), so _ 0 5 _ (by omega)]
    exact h5
  · rw [so _ 11 6 _ (by omega), so _ 10 6 _ (by omega), so _ 9 6 _ (by omega), so _ 8 6 _ (by omega), so _ 7 6 _ (by omega)]
    refine ss _ 6 _ c6 ?_
    rw [so _ 5 6 _ (by omega), so _ 4 6 _ (by omega), so _ 3 6 _ (by omega), so _ 2 6 _ (by omega), so _ 1 6 _ (by omega), so _ 0 6 _ (by omega)]
    exact h6
  · rw [so _ 11 7 _ (by omega), so _ 10 7 _ (by omega), so _ 9 7 _ (by omega), so _ 8 7 _ (by omega)]
    refine ss _ 7 _ c7 ?_
    rw [so _ 6 7 _ (by omega), so _ 5 7 _ (by omega), so _ 4 7 _ (by omega), so _ 3 7 _ (by omega), so _ 2 7 _ (by omega), so _ 1 7 _ (by omega), so _ 0 7 _ (by omega)]
    exact h7
  · rw [so _ 11 8 _ (by omega), so _ 10 8 _ (by omega), so _ 9 8 _ (by omega)]
    refine ss _ 8 _ c8 ?_
    rw [so _ 7 8 _ (by omega), so _ 6 8 _ (by omega), so _ 5 8 _ (by omega), so _ 4 8 _ (by omega), so _ 3 8 _ (by omega), so _ 2 8 _ (by omega), so _ 1 8 _ (by omega), so _ 0 8 _ (by omega)]
    exact h8
  · rw [so _ 11 9 _ (by omega), so _ 10 9 _ (by omega)]
    refine ss _ 9 _ c9 ?_
    rw [so _ 8 9 _ (by omega), so _ 7 9 _ (by omega), so _ 6 9 _ (by omega), so _ 5 9 _ (by omega), so _ 4 9 _ (by omega), so _ 3 9 _ (by omega), so _ 2 9 _ (by omega), so _ 1 9 _ (by omega), so _ 0 9 _ (by omega)]
    exact h9
  · rw [so _ 11 10 _ (by omega)]
    refine ss _ 10 _ c10 ?_
    rw [so _ 9 10 _ (by omega), so _ 8 10 _ (by omega), so _ 7 10 _ (by omega), so _ 6 10 _ (by omega), so _ 5 10 _ (by omega), so _ 4 10 _ (by omega), so _ 3 10 _ (by omega), so _ 2 10 _ (by omega), so _ 1 10 _ (by omega), so _ 0 10 _ (by omega)]
    exact h10
  · skip
    refine ss _ 11 _ c11 ?_
    rw [so _ 10 11 _ (by omega), so _ 9 11 _ (by omega), so _ 8 11 _ (by omega), so _ 7 11 _ (by omega), so _ 6 11 _ (by omega), so _ 5 11 _ (by omega), so _ 4 11 _ (by omega), so _ 3 11 _ (by omega), so _ 2 11 _ (by omega), so _ 1 11 _ (by omega), so _ 0 11 _ (by omega)]
    exact h11
  · rw [World.frozen?_setCell, World.frozen?_setCell, World.frozen?_setCell, World.frozen?_setCell, World.frozen?_setCell, World.frozen?_setCell, World.frozen?_setCell, World.frozen?_setCell, World.frozen?_setCell, World.frozen?_setCell, World.frozen?_setCell, World.frozen?_setCell]
  · rw [so _ 11 q _ (Ne.symm i11), so _ 10 q _ (Ne.symm i10), so _ 9 q _ (Ne.symm i9), so _ 8 q _ (Ne.symm i8), so _ 7 q _ (Ne.symm i7), so _ 6 q _ (Ne.symm i6), so _ 5 q _ (Ne.symm i5), so _ 4 q _ (Ne.symm i4), so _ 3 q _ (Ne.symm i3), so _ 2 q _ (Ne.symm i2), so _ 1 q _ (Ne.symm i1), so _ 0 q _ (Ne.symm i0)]
theorem two_found (x : World) (T : TypeId) : (∀ q, ((x.alloc (.cells #[.int .u64 0, .slice none 0 0, .slice none 0 0, .int .i64 0, .int .i64 0, .int .i64 0, .int .u64 0, .slice none 0 0, .slice none 0 0, .int .i64 0, .int .i64 0, .int .i64 0] T)).alloc (.cells #[.int .u64 0, .slice none 0 0, .slice none 0 0, .int .i64 0, .int .i64 0, .int .i64 0, .int .u64 0, .slice none 0 0, .slice none 0 0, .int .i64 0, .int .i64 0, .int .i64 0] T)).cell? ⟨x.heap.size, q, none⟩ = (#[Value.int .u64 0, Value.slice none 0 0, Value.slice none 0 0, Value.int .i64 0, Value.int .i64 0, Value.int .i64 0, Value.int .u64 0, Value.slice none 0 0, Value.slice none 0 0, Value.int .i64 0, Value.int .i64 0, Value.int .i64 0] : Array Value)[q]?) ∧ (∀ q, ((x.alloc (.cells #[.int .u64 0, .slice none 0 0, .slice none 0 0, .int .i64 0, .int .i64 0, .int .i64 0, .int .u64 0, .slice none 0 0, .slice none 0 0, .int .i64 0, .int .i64 0, .int .i64 0] T)).alloc (.cells #[.int .u64 0, .slice none 0 0, .slice none 0 0, .int .i64 0, .int .i64 0, .int .i64 0, .int .u64 0, .slice none 0 0, .slice none 0 0, .int .i64 0, .int .i64 0, .int .i64 0] T)).cell? ⟨x.heap.size + 1, q, none⟩ = (#[Value.int .u64 0, Value.slice none 0 0, Value.slice none 0 0, Value.int .i64 0, Value.int .i64 0, Value.int .i64 0, Value.int .u64 0, Value.slice none 0 0, Value.slice none 0 0, Value.int .i64 0, Value.int .i64 0, Value.int .i64 0] : Array Value)[q]?) ∧ (∀ q, ((x.alloc (.cells #[.int .u64 0, .slice none 0 0, .slice none 0 0, .int .i64 0, .int .i64 0, .int .i64 0, .int .u64 0, .slice none 0 0, .slice none 0 0, .int .i64 0, .int .i64 0, .int .i64 0] T)).alloc (.cells #[.int .u64 0, .slice none 0 0, .slice none 0 0, .int .i64 0, .int .i64 0, .int .i64 0, .int .u64 0, .slice none 0 0, .slice none 0 0, .int .i64 0, .int .i64 0, .int .i64 0] T)).frozen? ⟨x.heap.size, q, none⟩ = false) ∧ (∀ q, ((x.alloc (.cells #[.int .u64 0, .slice none 0 0, .slice none 0 0, .int .i64 0, .int .i64 0, .int .i64 0, .int .u64 0, .slice none 0 0, .slice none 0 0, .int .i64 0, .int .i64 0, .int .i64 0] T)).alloc (.cells #[.int .u64 0, .slice none 0 0, .slice none 0 0, .int .i64 0, .int .i64 0, .int .i64 0, .int .u64 0, .slice none 0 0, .slice none 0 0, .int .i64 0, .int .i64 0, .int .i64 0] T)).frozen? ⟨x.heap.size + 1, q, none⟩ = false) ∧ Below x.heap.size x ((x.alloc (.cells #[.int .u64 0, .slice none 0 0, .slice none 0 0, .int .i64 0, .int .i64 0, .int .i64 0, .int .u64 0, .slice none 0 0, .slice none 0 0, .int .i64 0, .int .i64 0, .int .i64 0] T)).alloc (.cells #[.int .u64 0, .slice none 0 0, .slice none 0 0, .int .i64 0, .int .i64 0, .int .i64 0, .int .u64 0, .slice none 0 0, .slice none 0 0, .int .i64 0, .int .i64 0, .int .i64 0] T)) := by
  have e : x.heap.size + 1 = (x.alloc (.cells #[.int .u64 0, .slice none 0 0, .slice none 0 0, .int .i64 0, .int .i64 0, .int .i64 0, .int .u64 0, .slice none 0 0, .slice none 0 0, .int .i64 0, .int .i64 0, .int .i64 0] T)).heap.size := by simp
  refine ⟨fun q => ?_, fun q => ?_, fun q => ?_, fun q => ?_, ((Below.refl _ _).alloc (Nat.le_refl _) _).alloc (by simp) _⟩
  · rw [World.cell?_alloc_lt _ _ ⟨x.heap.size, q, none⟩ (by simp)]; exact World.cell?_alloc_new _ _ _ _
  · rw [e]; exact World.cell?_alloc_new _ _ _ _
  · rw [World.frozen?_alloc_old _ _ ⟨x.heap.size, q, none⟩ (by simp)]; simp
  · rw [e]; simp
theorem two_size (x : World) (T : TypeId) : ((x.alloc (.cells #[.int .u64 0, .slice none 0 0, .slice none 0 0, .int .i64 0, .int .i64 0, .int .i64 0, .int .u64 0, .slice none 0 0, .slice none 0 0, .int .i64 0, .int .i64 0, .int .i64 0] T)).alloc (.cells #[.int .u64 0, .slice none 0 0, .slice none 0 0, .int .i64 0, .int .i64 0, .int .i64 0, .int .u64 0, .slice none 0 0, .slice none 0 0, .int .i64 0, .int .i64 0, .int .i64 0] T)).heap.size = x.heap.size + 2 := by simp
theorem FndOk.low {w : World} {N N' : Nat} {bs : List Int} {ar : Int} {sy : Nat} {f : Fnd} (h : FndOk w N bs ar sy f) (hN : N' ≤ N) : FndOk w N' bs ar sy f := by
  obtain ⟨h1, h2, h3⟩ := h
  refine ⟨h1, h2, h3.imp id ?_⟩
  rintro ⟨g, sn, rs, us, e1, e2, e3, e4, hb, hn, hv, hp, hf1, hf2⟩
  exact ⟨g, sn, rs, us, e1, e2, e3, e4, hb, hn, hv.low hN, hp, hf1.low hN, hf2.low hN⟩
theorem FndOk.below {w w' : World} {N : Nat} {bs : List Int} {ar : Int} {sy : Nat} {f : Fnd} (h : FndOk w N bs ar sy f) (hb : Below w.heap.size w w') : FndOk w' N bs ar sy f :=
  h.off (P := fun _ => False) (Off.of_below hb) (fun _ g => g.elim) (fun _ g => g.elim)
section
variable {x : World} {B K : Nat} {v0 v1 : Value} {σ : Sg}
set_option maxRecDepth 100000 in
set_option maxHeartbeats 4000000 in
theorem scan_ok (h : DskS x B K v0 v1 σ) (hd : σ.dead = false) (ok : σ.Ok) (hr0 : Rng σ.x0) (hr1 : Rng σ.x1) (hH : Halves x) (hR : HdR) :
    Calls Tryz.prog 23 #[.pointer (some ⟨K, 0, none⟩)] x fun e w' => ∃ f0 f1 : Fnd, e = .returned (.tuple #[.agg (f0.vals ++ f1.vals).toArray, .nilIface]) ∧ FndOk w' x.heap.size σ.x0 0 σ.s0 f0 ∧ FndOk w' x.heap.size σ.x1 1 σ.s1 f1 ∧ Below x.heap.size x w' := by
  have HA0 : Hid (∀ y, Below x.heap.size x y → Calls Tryz.prog 65 #[.pointer (some ⟨K, 0, none⟩), .int .i64 0] y fun e w' => ∃ f : Fnd, e = .returned (.tuple #[.agg f.vals.toArray, .nilIface]) ∧ FndOk w' y.heap.size σ.x0 0 σ.s0 f ∧ Below y.heap.size y w') := fun y hy =>
    (scanArea_ok (ar := 0) (h.under hy) hd (Or.inl rfl) ok.l0 hr0 (hH.under hy) hR).mono fun e w' ⟨f, he, hf, hb⟩ => by
      obtain ⟨f', rfl, hf'⟩ := hf.ok
      exact ⟨f', he, hf', hb⟩
  have HA1 : Hid (∀ y, Below x.heap.size x y → Calls Tryz.prog 65 #[.pointer (some ⟨K, 0, none⟩), .int .i64 1] y fun e w' => ∃ f : Fnd, e = .returned (.tuple #[.agg f.vals.toArray, .nilIface]) ∧ FndOk w' y.heap.size σ.x1 1 σ.s1 f ∧ Below y.heap.size y w') := fun y hy =>
    (scanArea_ok (ar := 1) (h.under hy) hd (Or.inr rfl) ok.l1 hr1 (hH.under hy) hR).mono fun e w' ⟨f, he, hf, hb⟩ => by
      obtain ⟨f', rfl, hf'⟩ := hf.ok
      exact ⟨f', he, hf', hb⟩
  clear h hd ok hr0 hr1 hH hR
  go_enter Tryz.func23, Tryz.ntmps23
  go_wp2_with fail
  refine wp_loop_rounds 3 ?_
  rw [rounds_succ]
  go_wp2_with fail
  obtain ⟨hq1, hq2, hq3, hq4, hq5⟩ := two_found x 94
  refine (HA0.out _ hq5).mono ?_
  rintro e w1 ⟨⟨g0, sa0, sl0, sc0, ra0, rn0, rc0, sz0, sy0, wh0⟩, rfl, hf0, b1⟩
  simp only [Fnd.vals]
  have hys := two_size x 94
  have hy1 : x.heap.size + 1 < w1.heap.size := by have := b1.size; omega
  have hy0 : x.heap.size < w1.heap.size := by omega
  have hl1 : x.heap.size + 2 ≤ w1.heap.size := by omega
  have HM : Hid ((∀ q, w1.cell? ⟨x.heap.size + 1, q, none⟩ = (#[Value.int .u64 0, Value.slice none 0 0, Value.slice none 0 0, Value.int .i64 0, Value.int .i64 0, Value.int .i64 0, Value.int .u64 0, Value.slice none 0 0, Value.slice none 0 0, Value.int .i64 0, Value.int .i64 0, Value.int .i64 0] : Array Value)[q]?) ∧ (∀ q, w1.frozen? ⟨x.heap.size + 1, q, none⟩ = false) ∧ (∀ q, w1.cell? ⟨x.heap.size, q, none⟩ = (#[Value.int .u64 0, Value.slice none 0 0, Value.slice none 0 0, Value.int .i64 0, Value.int .i64 0, Value.int .i64 0, Value.int .u64 0, Value.slice none 0 0, Value.slice none 0 0, Value.int .i64 0, Value.int .i64 0, Value.int .i64 0] : Array Value)[q]?) ∧ (∀ q, w1.frozen? ⟨x.heap.size, q, none⟩ = false) ∧ Below x.heap.size x w1) := ⟨fun q => (b1.cell (p := ⟨x.heap.size + 1, q, none⟩) (by simp only; omega)).trans (hq2 q), fun q => (b1.frozen (p := ⟨x.heap.size + 1, q, none⟩) (by simp only; omega)).trans (hq4 q), fun q => (b1.cell (p := ⟨x.heap.size, q, none⟩) (by simp only; omega)).trans (hq1 q), fun q => (b1.frozen (p := ⟨x.heap.size, q, none⟩) (by simp only; omega)).trans (hq3 q), hq5.trans (b1.mono hq5.size)⟩
  have m0 : w1.cell? ⟨x.heap.size + 1, 0, none⟩ = some (.int .u64 0) := HM.out.1 0
  have m1 : w1.cell? ⟨x.heap.size + 1, 1, none⟩ = some (.slice none 0 0) := HM.out.1 1
  have m2 : w1.cell? ⟨x.heap.size + 1, 2, none⟩ = some (.slice none 0 0) := HM.out.1 2
  have m3 : w1.cell? ⟨x.heap.size + 1, 3, none⟩ = some (.int .i64 0) := HM.out.1 3
  have m4 : w1.cell? ⟨x.heap.size + 1, 4, none⟩ = some (.int .i64 0) := HM.out.1 4
  have m5 : w1.cell? ⟨x.heap.size + 1, 5, none⟩ = some (.int .i64 0) := HM.out.1 5
  have m6 : w1.cell? ⟨x.heap.size + 1, 6, none⟩ = some (.int .u64 0) := HM.out.1 6
  have m7 : w1.cell? ⟨x.heap.size + 1, 7, none⟩ = some (.slice none 0 0) := HM.out.1 7
  have m8 : w1.cell? ⟨x.heap.size + 1, 8, none⟩ = some (.slice none 0 0) := HM.out.1 8
  have m9 : w1.cell? ⟨x.heap.size + 1, 9, none⟩ = some (.int .i64 0) := HM.out.1 9
  have m10 : w1.cell? ⟨x.heap.size + 1, 10, none⟩ = some (.int .i64 0) := HM.out.1 10
  have m11 : w1.cell? ⟨x.heap.size + 1, 11, none⟩ = some (.int .i64 0) := HM.out.1 11
  have n0 : w1.frozen? ⟨x.heap.size + 1, 0, none⟩ = false := HM.out.2.1 0
  have n1 : w1.frozen? ⟨x.heap.size + 1, 1, none⟩ = false := HM.out.2.1 1
  have n2 : w1.frozen? ⟨x.heap.size + 1, 2, none⟩ = false := HM.out.2.1 2
  have n3 : w1.frozen? ⟨x.heap.size + 1, 3, none⟩ = false := HM.out.2.1 3
  have n4 : w1.frozen? ⟨x.heap.size + 1, 4, none⟩ = false := HM.out.2.1 4
  have n5 : w1.frozen? ⟨x.heap.size + 1, 5, none⟩ = false := HM.out.2.1 5
  have n6 : w1.frozen? ⟨x.heap.size + 1, 6, none⟩ = false := HM.out.2.1 6
  have n7 : w1.frozen? ⟨x.heap.size + 1, 7, none⟩ = false := HM.out.2.1 7
  have n8 : w1.frozen? ⟨x.heap.size + 1, 8, none⟩ = false := HM.out.2.1 8
  have n9 : w1.frozen? ⟨x.heap.size + 1, 9, none⟩ = false := HM.out.2.1 9
  have n10 : w1.frozen? ⟨x.heap.size + 1, 10, none⟩ = false := HM.out.2.1 10
  have n11 : w1.frozen? ⟨x.heap.size + 1, 11, none⟩ = false := HM.out.2.1 11
  have HF0 : Hid (FndOk w1 (x.heap.size + 2) σ.x0 0 σ.s0 ⟨g0, sa0, sl0, sc0, ra0, rn0, rc0, sz0, sy0, wh0⟩) := by
    rw [hys] at hf0
    exact hf0
  clear hys hl1 hf0 b1 hq1 hq2 hq3 hq4 hq5 HA0
  go_wp2_with fail
  obtain ⟨ho1, l0, l1, l2, l3, l4, l5, lfz, loth⟩ := set_low m0 m1 m2 m3 m4 m5 (.int .u64 g0) (.slice sa0 sl0 sc0) (.slice ra0 rn0 rc0) (.int .i64 sz0) (.int .i64 sy0) (.int .i64 wh0)
  obtain ⟨C1, hC1⟩ : ∃ C, ((((((w1.setCell ⟨x.heap.size + 1, 0, none⟩ (.int .u64 g0)).setCell ⟨x.heap.size + 1, 1, none⟩ (.slice sa0 sl0 sc0)).setCell ⟨x.heap.size + 1, 2, none⟩ (.slice ra0 rn0 rc0)).setCell ⟨x.heap.size + 1, 3, none⟩ (.int .i64 sz0)).setCell ⟨x.heap.size + 1, 4, none⟩ (.int .i64 sy0)).setCell ⟨x.heap.size + 1, 5, none⟩ (.int .i64 wh0)) = C := ⟨_, rfl⟩
  rw [hC1] at ho1 l0 l1 l2 l3 l4 l5 lfz loth ⊢
  obtain ⟨Y1, hY1⟩ : ∃ Y, C1.alloc (.cells #[.int .u64 g0, .slice sa0 sl0 sc0, .slice ra0 rn0 rc0, .int .i64 sz0, .int .i64 sy0, .int .i64 wh0] 93) = Y := ⟨_, rfl⟩
  have hCl : x.heap.size + 1 < C1.heap.size := Nat.lt_of_lt_of_le hy1 ho1.size
  have oY : Off (fun k => k = x.heap.size + 1) w1 Y1 := by rw [← hY1]; exact ho1.alloc _
  have kY : ∀ q, Y1.cell? ⟨x.heap.size + 1, q, none⟩ = C1.cell? ⟨x.heap.size + 1, q, none⟩ := fun q => by rw [← hY1]; exact World.cell?_alloc_lt _ _ ⟨x.heap.size + 1, q, none⟩ hCl
  have zY : ∀ q, Y1.frozen? ⟨x.heap.size + 1, q, none⟩ = false := fun q => by
    rw [← hY1, World.frozen?_alloc_old _ _ ⟨x.heap.size + 1, q, none⟩ (by simp only; omega), lfz]; exact HM.out.2.1 q
  have bY : Below x.heap.size x Y1 := HM.out.2.2.2.2.trans (oY.below (by omega) (fun k g => by omega))
  have HM1 : Hid ((∀ q, Y1.cell? ⟨x.heap.size + 1, q, none⟩ = (#[Value.int .u64 g0, Value.slice sa0 sl0 sc0, Value.slice ra0 rn0 rc0, Value.int .i64 sz0, Value.int .i64 sy0, Value.int .i64 wh0, Value.int .u64 0, Value.slice none 0 0, Value.slice none 0 0, Value.int .i64 0, Value.int .i64 0, Value.int .i64 0] : Array Value)[q]?) ∧ (∀ q, Y1.frozen? ⟨x.heap.size + 1, q, none⟩ = false) ∧ (∀ q, Y1.cell? ⟨x.heap.size, q, none⟩ = (#[Value.int .u64 0, Value.slice none 0 0, Value.slice none 0 0, Value.int .i64 0, Value.int .i64 0, Value.int .i64 0, Value.int .u64 0, Value.slice none 0 0, Value.slice none 0 0, Value.int .i64 0, Value.int .i64 0, Value.int .i64 0] : Array Value)[q]?) ∧ (∀ q, Y1.frozen? ⟨x.heap.size, q, none⟩ = false) ∧ Below x.heap.size x Y1) := by
    refine ⟨fun q => ?_, zY, fun q => (oY.cell (p := ⟨x.heap.size, q, none⟩) hy0 (by simp only; omega)).trans (HM.out.2.2.1 q), fun q => (oY.frozen (p := ⟨x.heap.size, q, none⟩) hy0 (by simp only; omega)).trans (HM.out.2.2.2.1 q), bY⟩
    rw [kY]
    match q with
    | 0 => exact l0
    | 1 => exact l1
    | 2 => exact l2
    | 3 => exact l3
    | 4 => exact l4
    | 5 => exact l5
    | 6 => rw [loth 6 (by omega) (by omega) (by omega) (by omega) (by omega) (by omega)]; exact m6
    | 7 => rw [loth 7 (by omega) (by omega) (by omega) (by omega) (by omega) (by omega)]; exact m7
    | 8 => rw [loth 8 (by omega) (by omega) (by omega) (by omega) (by omega) (by omega)]; exact m8
    | 9 => rw [loth 9 (by omega) (by omega) (by omega) (by omega) (by omega) (by omega)]; exact m9
    | 10 => rw [loth 10 (by omega) (by omega) (by omega) (by omega) (by omega) (by omega)]; exact m10
    | 11 => rw [loth 11 (by omega) (by omega) (by omega) (by omega) (by omega) (by omega)]; exact m11
    | q + 12 => rw [loth (q + 12) (by omega) (by omega) (by omega) (by omega) (by omega) (by omega), HM.out.1]; simp
  have hYl : x.heap.size + 1 < Y1.heap.size := Nat.lt_of_lt_of_le hy1 oY.size
  have HG0 : Hid (FndOk Y1 (x.heap.size + 2) σ.x0 0 σ.s0 ⟨g0, sa0, sl0, sc0, ra0, rn0, rc0, sz0, sy0, wh0⟩) := by
    refine HF0.out.off oY (fun k g q z hc => by subst g; rw [HM.out.1 q] at hc; match q, hc with
      | 0, hc => simp at hc
      | 1, hc => simp at hc
      | 2, hc => simp at hc
      | 3, hc => simp at hc
      | 4, hc => simp at hc
      | 5, hc => simp at hc
      | 6, hc => simp at hc
      | 7, hc => simp at hc
      | 8, hc => simp at hc
      | 9, hc => simp at hc
      | 10, hc => simp at hc
      | 11, hc => simp at hc
      | q + 12, hc => simp at hc) (fun k g => by omega)
  rw [hY1]
  clear ho1 l0 l1 l2 l3 l4 l5 lfz loth hC1 hY1 oY kY zY bY HF0 HM hCl m0 m1 m2 m3 m4 m5 m6 m7 m8 m9 m10 m11 n0 n1 n2 n3 n4 n5 n6 n7 n8 n9 n10 n11 hy0 hy1
  rw [rounds_succ]
  go_wp2_with fail
  refine (HA1.out _ HM1.out.2.2.2.2).mono ?_
  rintro e w2 ⟨⟨g1, sa1, sl1, sc1, ra1, rn1, rc1, sz1, sy1, wh1⟩, rfl, hf1, b2⟩
  simp only [Fnd.vals]
  have hy1 : x.heap.size + 1 < w2.heap.size := Nat.lt_of_lt_of_le hYl b2.size
  have hy0 : x.heap.size < w2.heap.size := by omega
  have HM2 : Hid ((∀ q, w2.cell? ⟨x.heap.size + 1, q, none⟩ = (#[Value.int .u64 g0, Value.slice sa0 sl0 sc0, Value.slice ra0 rn0 rc0, Value.int .i64 sz0, Value.int .i64 sy0, Value.int .i64 wh0, Value.int .u64 0, Value.slice none 0 0, Value.slice none 0 0, Value.int .i64 0, Value.int .i64 0, Value.int .i64 0] : Array Value)[q]?) ∧ (∀ q, w2.frozen? ⟨x.heap.size + 1, q, none⟩ = false) ∧ (∀ q, w2.cell? ⟨x.heap.size, q, none⟩ = (#[Value.int .u64 0, Value.slice none 0 0, Value.slice none 0 0, Value.int .i64 0, Value.int .i64 0, Value.int .i64 0, Value.int .u64 0, Value.slice none 0 0, Value.slice none 0 0, Value.int .i64 0, Value.int .i64 0, Value.int .i64 0] : Array Value)[q]?) ∧ (∀ q, w2.frozen? ⟨x.heap.size, q, none⟩ = false) ∧ Below x.heap.size x w2) := ⟨fun q => (b2.cell (p := ⟨x.heap.size + 1, q, none⟩) hYl).trans (HM1.out.1 q), fun q => (b2.frozen (p := ⟨x.heap.size + 1, q, none⟩) hYl).trans (HM1.out.2.1 q), fun q => (b2.cell (p := ⟨x.heap.size, q, none⟩) (by simp only; omega)).trans (HM1.out.2.2.1 q), fun q => (b2.frozen (p := ⟨x.heap.size, q, none⟩) (by simp only; omega)).trans (HM1.out.2.2.2.1 q), HM1.out.2.2.2.2.trans (b2.mono HM1.out.2.2.2.2.size)⟩
  have HF1 : Hid (FndOk w2 (x.heap.size + 2) σ.x1 1 σ.s1 ⟨g1, sa1, sl1, sc1, ra1, rn1, rc1, sz1, sy1, wh1⟩ ∧ FndOk w2 (x.heap.size + 2) σ.x0 0 σ.s0 ⟨g0, sa0, sl0, sc0, ra0, rn0, rc0, sz0, sy0, wh0⟩) := ⟨hf1.low (by omega), HG0.out.below b2⟩
  have m0 : w2.cell? ⟨x.heap.size + 1, 0, none⟩ = some (.int .u64 g0) := HM2.out.1 0
  have m1 : w2.cell? ⟨x.heap.size + 1, 1, none⟩ = some (.slice sa0 sl0 sc0) := HM2.out.1 1
  have m2 : w2.cell? ⟨x.heap.size + 1, 2, none⟩ = some (.slice ra0 rn0 rc0) := HM2.out.1 2
  have m3 : w2.cell? ⟨x.heap.size + 1, 3, none⟩ = some (.int .i64 sz0) := HM2.out.1 3
  have m4 : w2.cell? ⟨x.heap.size + 1, 4, none⟩ = some (.int .i64 sy0) := HM2.out.1 4
  have m5 : w2.cell? ⟨x.heap.size + 1, 5, none⟩ = some (.int .i64 wh0) := HM2.out.1 5
  have m6 : w2.cell? ⟨x.heap.size + 1, 6, none⟩ = some (.int .u64 0) := HM2.out.1 6
  have m7 : w2.cell? ⟨x.heap.size + 1, 7, none⟩ = some (.slice none 0 0) := HM2.out.1 7
  have m8 : w2.cell? ⟨x.heap.size + 1, 8, none⟩ = some (.slice none 0 0) := HM2.out.1 8
  have m9 : w2.cell? ⟨x.heap.size + 1, 9, none⟩ = some (.int .i64 0) := HM2.out.1 9
  have m10 : w2.cell? ⟨x.heap.size + 1, 10, none⟩ = some (.int .i64 0) := HM2.out.1 10
  have m11 : w2.cell? ⟨x.heap.size + 1, 11, none⟩ = some (.int .i64 0) := HM2.out.1 11
  have n0 : w2.frozen? ⟨x.heap.size + 1, 0, none⟩ = false := HM2.out.2.1 0
  have n1 : w2.frozen? ⟨x.heap.size + 1, 1, none⟩ = false := HM2.out.2.1 1
  have n2 : w2.frozen? ⟨x.heap.size + 1, 2, none⟩ = false := HM2.out.2.1 2
  have n3 : w2.frozen? ⟨x.heap.size + 1, 3, none⟩ = false := HM2.out.2.1 3
  have n4 : w2.frozen? ⟨x.heap.size + 1, 4, none⟩ = false := HM2.out.2.1 4
  have n5 : w2.frozen? ⟨x.heap.size + 1, 5, none⟩ = false := HM2.out.2.1 5
  have n6 : w2.frozen? ⟨x.heap.size + 1, 6, none⟩ = false := HM2.out.2.1 6
  have n7 : w2.frozen? ⟨x.heap.size + 1, 7, none⟩ = false := HM2.out.2.1 7
  have n8 : w2.frozen? ⟨x.heap.size + 1, 8, none⟩ = false := HM2.out.2.1 8
  have n9 : w2.frozen? ⟨x.heap.size + 1, 9, none⟩ = false := HM2.out.2.1 9
  have n10 : w2.frozen? ⟨x.heap.size + 1, 10, none⟩ = false := HM2.out.2.1 10
  have n11 : w2.frozen? ⟨x.heap.size + 1, 11, none⟩ = false := HM2.out.2.1 11
  clear hf1 b2 HA1 HM1 HG0 hYl
  go_wp2_with fail
  obtain ⟨ho1, l6, l7, l8, l9, l10, l11, lfz, loth⟩ := set_high m6 m7 m8 m9 m10 m11 (.int .u64 g1) (.slice sa1 sl1 sc1) (.slice ra1 rn1 rc1) (.int .i64 sz1) (.int .i64 sy1) (.int .i64 wh1)
  obtain ⟨C1, hC1⟩ : ∃ C, ((((((w2.setCell ⟨x.heap.size + 1, 6, none⟩ (.int .u64 g1)).setCell ⟨x.heap.size + 1, 7, none⟩ (.slice sa1 sl1 sc1)).setCell ⟨x.heap.size + 1, 8, none⟩ (.slice ra1 rn1 rc1)).setCell ⟨x.heap.size + 1, 9, none⟩ (.int .i64 sz1)).setCell ⟨x.heap.size + 1, 10, none⟩ (.int .i64 sy1)).setCell ⟨x.heap.size + 1, 11, none⟩ (.int .i64 wh1)) = C := ⟨_, rfl⟩
  rw [hC1] at ho1 l6 l7 l8 l9 l10 l11 lfz loth ⊢
  obtain ⟨Y2, hY2⟩ : ∃ Y, C1.alloc (.cells #[.int .u64 g1, .slice sa1 sl1 sc1, .slice ra1 rn1 rc1, .int .i64 sz1, .int .i64 sy1, .int .i64 wh1] 93) = Y := ⟨_, rfl⟩
  have hCl : x.heap.size + 1 < C1.heap.size := Nat.lt_of_lt_of_le hy1 ho1.size
  have oY : Off (fun k => k = x.heap.size + 1) w2 Y2 := by rw [← hY2]; exact ho1.alloc _
  have kY : ∀ q, Y2.cell? ⟨x.heap.size + 1, q, none⟩ = C1.cell? ⟨x.heap.size + 1, q, none⟩ := fun q => by rw [← hY2]; exact World.cell?_alloc_lt _ _ ⟨x.heap.size + 1, q, none⟩ hCl
  have bY : Below x.heap.size x Y2 := HM2.out.2.2.2.2.trans (oY.below (by omega) (fun k g => by omega))
  have HM3 : Hid ((∀ q, Y2.cell? ⟨x.heap.size + 1, q, none⟩ = (#[Value.int .u64 g0, Value.slice sa0 sl0 sc0, Value.slice ra0 rn0 rc0, Value.int .i64 sz0, Value.int .i64 sy0, Value.int .i64 wh0, Value.int .u64 g1, Value.slice sa1 sl1 sc1, Value.slice ra1 rn1 rc1, Value.int .i64 sz1, Value.int .i64 sy1, Value.int .i64 wh1] : Array Value)[q]?) ∧ (∀ q, Y2.cell? ⟨x.heap.size, q, none⟩ = (#[Value.int .u64 0, Value.slice none 0 0, Value.slice none 0 0, Value.int .i64 0, Value.int .i64 0, Value.int .i64 0, Value.int .u64 0, Value.slice none 0 0, Value.slice none 0 0, Value.int .i64 0, Value.int .i64 0, Value.int .i64 0] : Array Value)[q]?) ∧ (∀ q, Y2.frozen? ⟨x.heap.size, q, none⟩ = false) ∧ Below x.heap.size x Y2) := by
    refine ⟨fun q => ?_, fun q => (oY.cell (p := ⟨x.heap.size, q, none⟩) hy0 (by simp only; omega)).trans (HM2.out.2.2.1 q), fun q => (oY.frozen (p := ⟨x.heap.size, q, none⟩) hy0 (by simp only; omega)).trans (HM2.out.2.2.2.1 q), bY⟩
    rw [kY]
    match q with
    | 0 => rw [loth 0 (by omega) (by omega) (by omega) (by omega) (by omega) (by omega)]; exact m0
    | 1 => rw [loth 1 (by omega) (by omega) (by omega) (by omega) (by omega) (by omega)]; exact m1
    | 2 => rw [loth 2 (by omega) (by omega) (by omega) (by omega) (by omega) (by omega)]; exact m2
    | 3 => rw [loth 3 (by omega) (by omega) (by omega) (by omega) (by omega) (by omega)]; exact m3
    | 4 => rw [loth 4 (by omega) (by omega) (by omega) (by omega) (by omega) (by omega)]; exact m4
    | 5 => rw [loth 5 (by omega) (by omega) (by omega) (by omega) (by omega) (by omega)]; exact m5
    | 6 => exact l6
    | 7 => exact l7
    | 8 => exact l8
    | 9 => exact l9
    | 10 => exact l10
    | 11 => exact l11
    | q + 12 => rw [loth (q + 12) (by omega) (by omega) (by omega) (by omega) (by omega) (by omega), HM2.out.1]; simp
  have hZ0 : x.heap.size < Y2.heap.size := Nat.lt_of_lt_of_le hy0 oY.size
  have HG : Hid (FndOk Y2 (x.heap.size + 2) σ.x0 0 σ.s0 ⟨g0, sa0, sl0, sc0, ra0, rn0, rc0, sz0, sy0, wh0⟩ ∧ FndOk Y2 (x.heap.size + 2) σ.x1 1 σ.s1 ⟨g1, sa1, sl1, sc1, ra1, rn1, rc1, sz1, sy1, wh1⟩) := by
    have hnb : ∀ k, k = x.heap.size + 1 → ∀ q z, w2.cell? ⟨k, q, none⟩ ≠ some (.int .u8 z) := fun k g q z hc => by subst g; rw [HM2.out.1 q] at hc; match q, hc with
      | 0, hc => simp at hc
      | 1, hc => simp at hc
      | 2, hc => simp at hc
      | 3, hc => simp at hc
      | 4, hc => simp at hc
      | 5, hc => simp at hc
      | 6, hc => simp at hc
      | 7, hc => simp at hc
      | 8, hc => simp at hc
      | 9, hc => simp at hc
      | 10, hc => simp at hc
      | 11, hc => simp at hc
      | q + 12, hc => simp at hc
    exact ⟨HF1.out.2.off oY hnb (fun k g => by omega), HF1.out.1.off oY hnb (fun k g => by omega)⟩
  rw [hY2]
  clear ho1 l6 l7 l8 l9 l10 l11 lfz loth hC1 hY2 oY kY bY HF1 HM2 hCl m0 m1 m2 m3 m4 m5 m6 m7 m8 m9 m10 m11 n0 n1 n2 n3 n4 n5 n6 n7 n8 n9 n10 n11 hy0 hy1
  have m0 : Y2.cell? ⟨x.heap.size + 1, 0, none⟩ = some (.int .u64 g0) := HM3.out.1 0
  have m1 : Y2.cell? ⟨x.heap.size + 1, 1, none⟩ = some (.slice sa0 sl0 sc0) := HM3.out.1 1
  have m2 : Y2.cell? ⟨x.heap.size + 1, 2, none⟩ = some (.slice ra0 rn0 rc0) := HM3.out.1 2
  have m3 : Y2.cell? ⟨x.heap.size + 1, 3, none⟩ = some (.int .i64 sz0) := HM3.out.1 3
  have m4 : Y2.cell? ⟨x.heap.size + 1, 4, none⟩ = some (.int .i64 sy0) := HM3.out.1 4
  have m5 : Y2.cell? ⟨x.heap.size + 1, 5, none⟩ = some (.int .i64 wh0) := HM3.out.1 5
  have m6 : Y2.cell? ⟨x.heap.size + 1, 6, none⟩ = some (.int .u64 g1) := HM3.out.1 6
  have m7 : Y2.cell? ⟨x.heap.size + 1, 7, none⟩ = some (.slice sa1 sl1 sc1) := HM3.out.1 7
  have m8 : Y2.cell? ⟨x.heap.size + 1, 8, none⟩ = some (.slice ra1 rn1 rc1) := HM3.out.1 8
  have m9 : Y2.cell? ⟨x.heap.size + 1, 9, none⟩ = some (.int .i64 sz1) := HM3.out.1 9
  have m10 : Y2.cell? ⟨x.heap.size + 1, 10, none⟩ = some (.int .i64 sy1) := HM3.out.1 10
  have m11 : Y2.cell? ⟨x.heap.size + 1, 11, none⟩ = some (.int .i64 wh1) := HM3.out.1 11
  have r0 : Y2.cell? ⟨x.heap.size, 0, none⟩ = some (.int .u64 0) := HM3.out.2.1 0
  have z0 : Y2.frozen? ⟨x.heap.size, 0, none⟩ = false := HM3.out.2.2.1 0
  have r1 : Y2.cell? ⟨x.heap.size, 1, none⟩ = some (.slice none 0 0) := HM3.out.2.1 1
  have z1 : Y2.frozen? ⟨x.heap.size, 1, none⟩ = false := HM3.out.2.2.1 1
  have r2 : Y2.cell? ⟨x.heap.size, 2, none⟩ = some (.slice none 0 0) := HM3.out.2.1 2
  have z2 : Y2.frozen? ⟨x.heap.size, 2, none⟩ = false := HM3.out.2.2.1 2
  have r3 : Y2.cell? ⟨x.heap.size, 3, none⟩ = some (.int .i64 0) := HM3.out.2.1 3
  have z3 : Y2.frozen? ⟨x.heap.size, 3, none⟩ = false := HM3.out.2.2.1 3
  have r4 : Y2.cell? ⟨x.heap.size, 4, none⟩ = some (.int .i64 0) := HM3.out.2.1 4
  have z4 : Y2.frozen? ⟨x.heap.size, 4, none⟩ = false := HM3.out.2.2.1 4
  have r5 : Y2.cell? ⟨x.heap.size, 5, none⟩ = some (.int .i64 0) := HM3.out.2.1 5
  have z5 : Y2.frozen? ⟨x.heap.size, 5, none⟩ = false := HM3.out.2.2.1 5
  have r6 : Y2.cell? ⟨x.heap.size, 6, none⟩ = some (.int .u64 0) := HM3.out.2.1 6
  have z6 : Y2.frozen? ⟨x.heap.size, 6, none⟩ = false := HM3.out.2.2.1 6
  have r7 : Y2.cell? ⟨x.heap.size, 7, none⟩ = some (.slice none 0 0) := HM3.out.2.1 7
  have z7 : Y2.frozen? ⟨x.heap.size, 7, none⟩ = false := HM3.out.2.2.1 7
  have r8 : Y2.cell? ⟨x.heap.size, 8, none⟩ = some (.slice none 0 0) := HM3.out.2.1 8
  have z8 : Y2.frozen? ⟨x.heap.size, 8, none⟩ = false := HM3.out.2.2.1 8
  have r9 : Y2.cell? ⟨x.heap.size, 9, none⟩ = some (.int .i64 0) := HM3.out.2.1 9
  have z9 : Y2.frozen? ⟨x.heap.size, 9, none⟩ = false := HM3.out.2.2.1 9
  have r10 : Y2.cell? ⟨x.heap.size, 10, none⟩ = some (.int .i64 0) := HM3.out.2.1 10
  have z10 : Y2.frozen? ⟨x.heap.size, 10, none⟩ = false := HM3.out.2.2.1 10
  have r11 : Y2.cell? ⟨x.heap.size, 11, none⟩ = some (.int .i64 0) := HM3.out.2.1 11
  have z11 : Y2.frozen? ⟨x.heap.size, 11, none⟩ = false := HM3.out.2.2.1 11
  rw [rounds_succ]
  go_wp2_with fail
  obtain ⟨ho, y0, y1, y2, y3, y4, y5, y6, y7, y8, y9, y10, y11, _, _⟩ := set_all r0 r1 r2 r3 r4 r5 r6 r7 r8 r9 r10 r11 (.int .u64 g0) (.slice sa0 sl0 sc0) (.slice ra0 rn0 rc0) (.int .i64 sz0) (.int .i64 sy0) (.int .i64 wh0) (.int .u64 g1) (.slice sa1 sl1 sc1) (.slice ra1 rn1 rc1) (.int .i64 sz1) (.int .i64 sy1) (.int .i64 wh1)
  obtain ⟨C2, hC2⟩ : ∃ C, ((((((((((((Y2.setCell ⟨x.heap.size, 0, none⟩ (.int .u64 g0)).setCell ⟨x.heap.size, 1, none⟩ (.slice sa0 sl0 sc0)).setCell ⟨x.heap.size, 2, none⟩ (.slice ra0 rn0 rc0)).setCell ⟨x.heap.size, 3, none⟩ (.int .i64 sz0)).setCell ⟨x.heap.size, 4, none⟩ (.int .i64 sy0)).setCell ⟨x.heap.size, 5, none⟩ (.int .i64 wh0)).setCell ⟨x.heap.size, 6, none⟩ (.int .u64 g1)).setCell ⟨x.heap.size, 7, none⟩ (.slice sa1 sl1 sc1)).setCell ⟨x.heap.size, 8, none⟩ (.slice ra1 rn1 rc1)).setCell ⟨x.heap.size, 9, none⟩ (.int .i64 sz1)).setCell ⟨x.heap.size, 10, none⟩ (.int .i64 sy1)).setCell ⟨x.heap.size, 11, none⟩ (.int .i64 wh1)) = C := ⟨_, rfl⟩
  rw [hC2] at ho y0 y1 y2 y3 y4 y5 y6 y7 y8 y9 y10 y11 ⊢
  have hnb : ∀ k, k = x.heap.size → ∀ q z, Y2.cell? ⟨k, q, none⟩ ≠ some (.int .u8 z) := fun k g q z hc => by subst g; rw [HM3.out.2.1 q] at hc; match q, hc with
      | 0, hc => simp at hc
      | 1, hc => simp at hc
      | 2, hc => simp at hc
      | 3, hc => simp at hc
      | 4, hc => simp at hc
      | 5, hc => simp at hc
      | 6, hc => simp at hc
      | 7, hc => simp at hc
      | 8, hc => simp at hc
      | 9, hc => simp at hc
      | 10, hc => simp at hc
      | 11, hc => simp at hc
      | q + 12, hc => simp at hc
  refine bodyPost_ret (v := .tuple #[.agg #[.int .u64 g0, .slice sa0 sl0 sc0, .slice ra0 rn0 rc0, .int .i64 sz0, .int .i64 sy0, .int .i64 wh0, .int .u64 g1, .slice sa1 sl1 sc1, .slice ra1 rn1 rc1, .int .i64 sz1, .int .i64 sy1, .int .i64 wh1], .nilIface]) (by simp [results, Tryz.results23, go_sem, y0, y1, y2, y3, y4, y5, y6, y7, y8, y9, y10, y11]) rfl ⟨⟨g0, sa0, sl0, sc0, ra0, rn0, rc0, sz0, sy0, wh0⟩, ⟨g1, sa1, sl1, sc1, ra1, rn1, rc1, sz1, sy1, wh1⟩, rfl, (HG.out.1.off ho hnb (fun k g => by omega)).low (by omega), (HG.out.2.off ho hnb (fun k g => by omega)).low (by omega), HM3.out.2.2.2.trans (ho.below (by omega) (fun k g => by omega))⟩
end
end Go.Proofs.YthnpckmgnompiaaGreatDoor
