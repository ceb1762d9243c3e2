/-
  The log's Open, of a log that is whole, synced and without records in one area, the other empty.
-/
import Derived.Test.YthnpckmgnompiaaGreatDoorWReplay
import Derived.Deep.RegionHeld3
namespace Go.Proofs.YthnpckmgnompiaaGreatDoor
open Go.RowKit Go.BigFrame

/-- What is found of an area that holds such a log. -/
structure Kept1 (w : World) (g : Nat) (sn : List Int) (n : Nat) (f : Fnd) : Prop where
  g : f.g = g
  sz : f.sz = n
  wh : f.wh = n
  sy : f.sy = n
  rn : f.rn = 0
  by_ : Byts w f.sa f.sl sn
  sl : f.sl = sn.length
  no : f.sa = none → f.sc = 0
theorem kept_of {w : World} {N : Nat} {bs : List Int} {ar : Int} {sy g : Nat} {sn : List Int} {f : Fnd} (h : FndOk w N bs ar sy f) (hp : psS bs ar = some (g, sn, [])) (hw : 30 + sn.length = bs.length) (hs : sy = bs.length) : Kept1 w g sn bs.length f := by
  obtain ⟨e1, e2, e3⟩ := h
  rcases e3 with ⟨e4, _⟩ | ⟨g', sn', rs', us', e4, e5, e6, e7, e8, e9, e10, e11, _, _⟩
  · rw [hp] at e4; cases e4
  · rw [hp] at e4
    simp only [Option.some.injEq, Prod.mk.injEq] at e4
    obtain ⟨rfl, rfl, rfl⟩ := e4
    have hu : us' = [] := List.eq_nil_of_length_eq_zero (by rw [e11.1]; rfl)
    subst hu
    have hrn : f.rn = 0 := by
      obtain ⟨a', c', e, _⟩ := e10.isSlice
      simp at e
      exact e.2.1
    have e6' : f.wh = 30 + sn.length := by rw [e6]; simp [sizes]
    exact ⟨e5, e1, by omega, by omega, hrn, e8, e7, e9⟩
theorem empty_of {w : World} {N : Nat} {ar : Int} {sy : Nat} {f : Fnd} (h : FndOk w N [] ar sy f) : f.g = 0 ∧ f.sz = 0 := by
  obtain ⟨e1, e2, e3⟩ := h
  rcases e3 with ⟨_, e4, _⟩ | ⟨g', sn', rs', us', e4, _⟩
  · exact ⟨e4, e1⟩
  · have : psS [] ar = none := rfl
    rw [this] at e4; cases e4
/-- What Open answers of it. -/
def OpenQ (x : World) (B K : Nat) (v0 v1 : Value) (σ : Sg) (g : Nat) (sn : List Int) (e : Ending) (w' : World) : Prop :=
  ∃ L a n k, e = .returned (.tuple #[.pointer (some ⟨L, 0, none⟩), .agg #[.int .u64 g, .slice a n k, .slice none 0 0, .int .i64 0], .nilIface]) ∧ Lg w' B K L v0 v1 σ false g ((g : Int) % 2) 0 0 ((30 + sn.length : Nat) : Int) ∧ Row w' x.heap.size (.slice a n k) sn ∧ Below x.heap.size x w' ∧ x.heap.size ≤ L
theorem below_drewN' {B : Nat} {w w' : World} (h : Below B w w') : Below B w w'.drew := h.trans ⟨rfl, rfl, rfl, Nat.le_refl _, fun _ _ => rfl⟩
theorem row_low {w : World} {B C : Nat} {v : Value} {xs : List Int} (h : Row w B v xs) (hB : C ≤ B) : Row w C v xs := by
  refine ⟨h.1, ?_⟩
  rcases h.2 with h | ⟨g, cap, cur, e, hb, hr⟩
  · exact Or.inl h
  · exact Or.inr ⟨g, cap, cur, e, Nat.le_trans hB hb, hr⟩
theorem two_snd (w : World) (c1 c2 : Array Value) (t1 t2 : TypeId) (q : Nat) : ((w.alloc (.cells c1 t1)).alloc (.cells c2 t2)).cell? ⟨w.heap.size + 1, q, none⟩ = c2[q]? := by
  have := World.cell?_alloc_new (w.alloc (.cells c1 t1)) c2 t2 q
  rw [World.size_alloc] at this
  exact this
section
variable {x : World} {B K : Nat} {v0 v1 : Value} {σ : Sg} {g : Nat} {sn : List Int}

set_option maxRecDepth 100000 in
set_option maxHeartbeats 8000000 in
theorem lOpen_1 (h : DskS x B K v0 v1 σ) (hB : B ≤ x.heap.size) (hd : σ.dead = false) (ok : σ.Ok) (hr1 : Rng σ.x1) (hH : Halves x) (hR : HdR) (h0 : σ.x0 = []) (hp : psS σ.x1 1 = some (g, sn, [])) (hg0 : 0 < g) (hg1 : g < 4611686018427387905) (hwh : 30 + sn.length = σ.x1.length) (hs : σ.s1 = σ.x1.length) :
    Calls Tryz.prog 7 #[.pointer (some ⟨K, 0, none⟩)] x (OpenQ x B K v0 v1 σ g sn) := by
  have HSc : Hid (∀ y, Below x.heap.size x y → Calls Tryz.prog 23 #[.pointer (some ⟨K, 0, none⟩)] y fun e w' => ∃ f0 f1 : Fnd, e = .returned (.tuple #[.agg (f0.vals ++ f1.vals).toArray, .nilIface]) ∧ (f0.g = 0 ∧ f0.sz = 0) ∧ Kept1 w' g sn σ.x1.length f1 ∧ Below y.heap.size y w') := fun y hy => by
    refine (scan_ok (h.under hy) hd ok (by rw [h0]; exact fun z hz => by cases hz) hr1 (hH.under hy) hR).mono ?_
    rintro e w' ⟨f0, f1, rfl, k0, k1, hb⟩
    rw [h0] at k0
    exact ⟨f0, f1, rfl, empty_of k0, kept_of k1 hp hwh hs, hb⟩
  have HL : Hid (DskS x B K v0 v1 σ ∧ σ.x1.length ≤ 16777216 ∧ 0 < g ∧ g < 4611686018427387905 ∧ 30 + sn.length = σ.x1.length ∧ B ≤ x.heap.size) := ⟨h, ok.l1, hg0, hg1, hwh, hB⟩
  obtain ⟨N, hN⟩ : ∃ N, σ.x1.length = N := ⟨_, rfl⟩
  rw [hN] at HSc HL
  clear h hd ok hr1 hH hR hp hs h0 hN hg0 hg1 hwh hB
  go_enter Tryz.func7, Tryz.ntmps7
  go_wp2_with fail
  refine (HSc.out _ ((Below.refl _ _).alloc (Nat.le_refl _) _)).mono ?_
  rintro e w1 ⟨⟨g0, sa0, sl0, sc0, ra0, rn0, rc0, sz0, sy0, wh0⟩, ⟨g1, sa1, sl1, sc1, ra1, rn1, rc1, sz1, sy1, wh1⟩, rfl, hO, hK, b1⟩
  have HRO : Hid (rn1 = 0) := hK.rn
  have HCh : Hid (∀ y, Calls Tryz.prog 24 #[.agg #[.int .u64 g0, .slice sa0 sl0 sc0, .slice ra0 rn0 rc0, .int .i64 sz0, .int .i64 sy0, .int .i64 wh0, .int .u64 g1, .slice sa1 sl1 sc1, .slice ra1 rn1 rc1, .int .i64 sz1, .int .i64 sy1, .int .i64 wh1]] y fun e w' => e = .returned (.tuple #[.agg #[.int .u64 g1, .slice sa1 sl1 sc1, .slice ra1 rn1 rc1, .int .i64 sz1, .int .i64 sy1, .int .i64 wh1], .agg #[.int .u64 g0, .slice sa0 sl0 sc0, .slice ra0 rn0 rc0, .int .i64 sz0, .int .i64 sy0, .int .i64 wh0], .nilIface]) ∧ Below y.heap.size y w') := fun y => by
    have e1 : g1 = g := hK.g
    have e0 : g0 = 0 := hO.1
    have := HL.out.2.2.1
    exact choose_second_alone (f0 := ⟨g0, sa0, sl0, sc0, ra0, rn0, rc0, sz0, sy0, wh0⟩) (f1 := ⟨g1, sa1, sl1, sc1, ra1, rn1, rc1, sz1, sy1, wh1⟩) y (by simp only; omega) (by simp only; omega) e0
  have HMe : Hid (∀ y, Calls Tryz.prog 25 #[.pointer (some ⟨K, 0, none⟩), .agg #[.int .u64 g1, .slice sa1 sl1 sc1, .slice ra1 rn1 rc1, .int .i64 sz1, .int .i64 sy1, .int .i64 wh1], .agg #[.int .u64 g0, .slice sa0 sl0 sc0, .slice ra0 rn0 rc0, .int .i64 sz0, .int .i64 sy0, .int .i64 wh0]] y fun e w' => e = .returned (.slice none 0 0) ∧ Below y.heap.size y w') := fun y => by
    have e1 : g1 = g := hK.g
    have e2 : wh1 = N := hK.wh
    have e3 : sz1 = N := hK.sz
    have e4 : sy1 = N := hK.sy
    exact mend_nil (f0 := ⟨g1, sa1, sl1, sc1, ra1, rn1, rc1, sz1, sy1, wh1⟩) (f1 := ⟨g0, sa0, sl0, sc0, ra0, rn0, rc0, sz0, sy0, wh0⟩) y (by simp only; omega) hO.2 (by simp only; omega) (by simp only; omega)
  have HRp : Hid (∀ y, Below w1.heap.size w1 y → Calls Tryz.prog 26 #[.agg #[.int .u64 g1, .slice sa1 sl1 sc1, .slice ra1 rn1 rc1, .int .i64 sz1, .int .i64 sy1, .int .i64 wh1], .agg #[.int .u64 g0, .slice sa0 sl0 sc0, .slice ra0 rn0 rc0, .int .i64 sz0, .int .i64 sy0, .int .i64 wh0]] y fun e w' => ∃ a n k, e = .returned (.agg #[.int .u64 g1, .slice a n k, .slice none 0 0, .int .i64 0]) ∧ Row w' y.heap.size (.slice a n k) sn ∧ Below y.heap.size y w') := fun y hy => by
    have e2 : wh1 = N := hK.wh
    have e3 : sz1 = N := hK.sz
    have e5 : sl1 = sn.length := hK.sl
    have e6 : sz0 = 0 := hO.2
    have h1 := HL.out.2.1
    have h2 := HL.out.2.2.2.2.1
    have := replay_none (f0 := ⟨g1, sa1, sl1, sc1, ra1, rn1, rc1, sz1, sy1, wh1⟩) (f1 := ⟨g0, sa0, sl0, sc0, ra0, rn0, rc0, sz0, sy0, wh0⟩) (sn := sn) y (hK.by_.below hy) hK.no (by simp only; omega) hK.rn (by simp only; omega) (by simp only; omega) (by simp only; omega)
    refine this.mono ?_
    rintro e w' ⟨a, n, k, rfl, h3, h4⟩
    refine ⟨a, n, k, ?_, h3, h4⟩
    have e7 : ((sz0 : Nat) : Int) + ((sz1 : Nat) : Int) - ((wh1 : Nat) : Int) = 0 := by omega
    simp only [e7]
  have HG : Hid (g1 = g ∧ wh1 = N) := ⟨hK.g, hK.wh⟩
  have hgb : 0 ≤ g1 := by have := hK.g; simp only at this; omega
  clear hO hK
  have HW1 : Hid (Below x.heap.size x w1) := ((Below.refl _ _).alloc (Nat.le_refl _) _).trans (b1.mono (by simp))
  have HR0 : Hid ((∀ q, w1.cell? ⟨x.heap.size, q, none⟩ = (#[Value.int .u64 0, Value.slice none 0 0, Value.slice none 0 0, Value.int .i64 0] : Array Value)[q]?) ∧ (∀ q, w1.frozen? ⟨x.heap.size, q, none⟩ = false) ∧ x.heap.size < w1.heap.size) := ⟨fun q => (b1.cell (p := ⟨x.heap.size, q, none⟩) (by simp)).trans (World.cell?_alloc_new _ _ _ _), fun q => (b1.frozen (p := ⟨x.heap.size, q, none⟩) (by simp)).trans (World.frozen?_alloc_new _ _ _ _), by have := b1.size; simp at this; omega⟩
  clear b1 HSc
  simp only [Fnd.vals, List.cons_append, List.nil_append]
  obtain ⟨z0, hz0⟩ : ∃ z : Int, ((sz0 : Nat) : Int) = z := ⟨_, rfl⟩
  rw [hz0] at HCh HMe HRp ⊢
  clear hz0
  obtain ⟨y0, hy0⟩ : ∃ z : Int, ((sy0 : Nat) : Int) = z := ⟨_, rfl⟩
  rw [hy0] at HCh HMe HRp ⊢
  clear hy0
  obtain ⟨h0, hh0⟩ : ∃ z : Int, ((wh0 : Nat) : Int) = z := ⟨_, rfl⟩
  rw [hh0] at HCh HMe HRp ⊢
  clear hh0
  obtain ⟨z1, hz1⟩ : ∃ z : Int, ((sz1 : Nat) : Int) = z := ⟨_, rfl⟩
  rw [hz1] at HCh HMe HRp ⊢
  clear hz1
  obtain ⟨y1, hy1⟩ : ∃ z : Int, ((sy1 : Nat) : Int) = z := ⟨_, rfl⟩
  rw [hy1] at HCh HMe HRp ⊢
  clear hy1
  obtain ⟨h1, hh1⟩ : ∃ z : Int, ((wh1 : Nat) : Int) = z := ⟨_, rfl⟩
  rw [hh1] at HCh HMe HRp ⊢
  have HWH : Hid (((wh1 : Nat) : Int) = h1) := hh1
  clear hh1
  go_wp2_with fail
  refine (HCh.out _).mono ?_
  rintro e w2 ⟨rfl, b2⟩
  have HW2 : Hid (Below w1.heap.size w1 w2) := ((Below.refl _ _).alloc (Nat.le_refl _) _).trans (b2.mono (by simp))
  clear b2 HCh
  go_wp2_with fail
  refine (HMe.out _).mono ?_
  rintro e w3 ⟨rfl, b3⟩
  have hw3 : w2.heap.size + 2 ≤ w3.heap.size := by have := b3.size; simp at this; omega
  have C7 : Hid (∀ q, w3.cell? ⟨w2.heap.size, q, none⟩ = (#[Value.int .u64 g1, Value.slice sa1 sl1 sc1, Value.slice ra1 rn1 rc1, Value.int .i64 z1, Value.int .i64 y1, Value.int .i64 h1] : Array Value)[q]?) := fun q =>
    (b3.cell (p := ⟨w2.heap.size, q, none⟩) (by simp; omega)).trans ((World.cell?_alloc_lt _ _ ⟨w2.heap.size, q, none⟩ (by simp)).trans (World.cell?_alloc_new _ _ _ _))
  have C8 : Hid (∀ q, w3.cell? ⟨w2.heap.size + 1, q, none⟩ = (#[Value.int .u64 g0, Value.slice sa0 sl0 sc0, Value.slice ra0 rn0 rc0, Value.int .i64 z0, Value.int .i64 y0, Value.int .i64 h0] : Array Value)[q]?) := fun q =>
    (b3.cell (p := ⟨w2.heap.size + 1, q, none⟩) (by simp)).trans (two_snd _ _ _ _ _ _)
  have HW3 : Hid (Below w2.heap.size w2 w3) := (((Below.refl _ _).alloc (Nat.le_refl _) _).alloc (by simp) _).trans (b3.mono (by simp; omega))
  clear b3 HMe
  go_wp2_with fail
  refine (play_nil _).mono ?_
  rintro e w4 ⟨rfl, hw4⟩
  rw [hw4]
  clear hw4
  have d0 : w3.cell? ⟨w2.heap.size, 0, none⟩ = some (.int .u64 g1) := C7.out 0
  have d1 : w3.cell? ⟨w2.heap.size, 1, none⟩ = some (.slice sa1 sl1 sc1) := C7.out 1
  have d2 : w3.cell? ⟨w2.heap.size, 2, none⟩ = some (.slice ra1 rn1 rc1) := C7.out 2
  have d3 : w3.cell? ⟨w2.heap.size, 3, none⟩ = some (.int .i64 z1) := C7.out 3
  have d4 : w3.cell? ⟨w2.heap.size, 4, none⟩ = some (.int .i64 y1) := C7.out 4
  have d5 : w3.cell? ⟨w2.heap.size, 5, none⟩ = some (.int .i64 h1) := C7.out 5
  have hl7 : w2.heap.size < w3.heap.size := by omega
  have hAr : ∀ y, Calls Tryz.prog 20 #[.int .u64 g1] y fun e w' => e = .returned (.int .i64 (g1 % 2)) ∧ w' = y := fun y => areaOf_any y hgb
  go_wp2_with fail
  go_region_held3 (fun x => x.cell? ⟨w2.heap.size, 0, none⟩ = some (.int .u64 g1) ∧ x.cell? ⟨w2.heap.size, 2, none⟩ = some (.slice ra1 rn1 rc1) ∧ x.cell? ⟨w2.heap.size, 5, none⟩ = some (.int .i64 h1)) (simp [*, World.cell?_alloc_lt _ _ ⟨w2.heap.size, 0, none⟩ hl7, World.cell?_alloc_lt _ _ ⟨w2.heap.size, 2, none⟩ hl7, World.cell?_alloc_lt _ _ ⟨w2.heap.size, 5, none⟩ hl7]) (first | (go_at_call 20; refine (hAr _).mono ?_; rintro e wx ⟨rfl, hwx⟩; rw [hwx]))
  have bA : Below w3.heap.size w3 ((w3.alloc (.cells #[.pointer (some ⟨K, 0, none⟩), .bool false, .int .u64 g1, .int .i64 (g1 % 2), .int .i64 (rn1 : Int), .int .i64 0, .int .i64 h1] 103)).drew) := below_drewN' ((Below.refl _ _).alloc (Nat.le_refl _) _)
  have HLc : Hid ((∀ q, ((w3.alloc (.cells #[.pointer (some ⟨K, 0, none⟩), .bool false, .int .u64 g1, .int .i64 (g1 % 2), .int .i64 (rn1 : Int), .int .i64 0, .int .i64 h1] 103)).drew).cell? ⟨w3.heap.size, q, none⟩ = (#[Value.pointer (some ⟨K, 0, none⟩), .bool false, .int .u64 g1, .int .i64 (g1 % 2), .int .i64 (rn1 : Int), .int .i64 0, .int .i64 h1] : Array Value)[q]?) ∧ (∀ q, ((w3.alloc (.cells #[.pointer (some ⟨K, 0, none⟩), .bool false, .int .u64 g1, .int .i64 (g1 % 2), .int .i64 (rn1 : Int), .int .i64 0, .int .i64 h1] 103)).drew).frozen? ⟨w3.heap.size, q, none⟩ = false)) := ⟨fun q => World.cell?_alloc_new _ _ _ _, fun q => World.frozen?_alloc_new _ _ _ _⟩
  obtain ⟨W5, hW5⟩ : ∃ W, (w3.alloc (.cells #[.pointer (some ⟨K, 0, none⟩), .bool false, .int .u64 g1, .int .i64 (g1 % 2), .int .i64 (rn1 : Int), .int .i64 0, .int .i64 h1] 103)).drew = W := ⟨_, rfl⟩
  have h5s : W5.heap.size = w3.heap.size + 1 := by rw [← hW5]; simp
  rw [hW5] at bA HLc ⊢
  clear hW5 d0 d1 d2 d3 d4 d5 hAr
  have d0 : W5.cell? ⟨w2.heap.size, 0, none⟩ = some (.int .u64 g1) := (bA.cell (p := ⟨w2.heap.size, 0, none⟩) hl7).trans (C7.out 0)
  have d1 : W5.cell? ⟨w2.heap.size, 1, none⟩ = some (.slice sa1 sl1 sc1) := (bA.cell (p := ⟨w2.heap.size, 1, none⟩) hl7).trans (C7.out 1)
  have d2 : W5.cell? ⟨w2.heap.size, 2, none⟩ = some (.slice ra1 rn1 rc1) := (bA.cell (p := ⟨w2.heap.size, 2, none⟩) hl7).trans (C7.out 2)
  have d3 : W5.cell? ⟨w2.heap.size, 3, none⟩ = some (.int .i64 z1) := (bA.cell (p := ⟨w2.heap.size, 3, none⟩) hl7).trans (C7.out 3)
  have d4 : W5.cell? ⟨w2.heap.size, 4, none⟩ = some (.int .i64 y1) := (bA.cell (p := ⟨w2.heap.size, 4, none⟩) hl7).trans (C7.out 4)
  have d5 : W5.cell? ⟨w2.heap.size, 5, none⟩ = some (.int .i64 h1) := (bA.cell (p := ⟨w2.heap.size, 5, none⟩) hl7).trans (C7.out 5)
  have hl8 : w2.heap.size + 1 < w3.heap.size := by omega
  have e0 : W5.cell? ⟨w2.heap.size + 1, 0, none⟩ = some (.int .u64 g0) := (bA.cell (p := ⟨w2.heap.size + 1, 0, none⟩) hl8).trans (C8.out 0)
  have e1 : W5.cell? ⟨w2.heap.size + 1, 1, none⟩ = some (.slice sa0 sl0 sc0) := (bA.cell (p := ⟨w2.heap.size + 1, 1, none⟩) hl8).trans (C8.out 1)
  have e2 : W5.cell? ⟨w2.heap.size + 1, 2, none⟩ = some (.slice ra0 rn0 rc0) := (bA.cell (p := ⟨w2.heap.size + 1, 2, none⟩) hl8).trans (C8.out 2)
  have e3 : W5.cell? ⟨w2.heap.size + 1, 3, none⟩ = some (.int .i64 z0) := (bA.cell (p := ⟨w2.heap.size + 1, 3, none⟩) hl8).trans (C8.out 3)
  have e4 : W5.cell? ⟨w2.heap.size + 1, 4, none⟩ = some (.int .i64 y0) := (bA.cell (p := ⟨w2.heap.size + 1, 4, none⟩) hl8).trans (C8.out 4)
  have e5 : W5.cell? ⟨w2.heap.size + 1, 5, none⟩ = some (.int .i64 h0) := (bA.cell (p := ⟨w2.heap.size + 1, 5, none⟩) hl8).trans (C8.out 5)
  have HW5 : Hid (Below w1.heap.size w1 W5) := below_then (below_then HW2.out HW3.out) bA
  clear bA C7 C8
  go_wp2_with fail
  refine (HRp.out _ HW5.out).mono ?_
  rintro e w6 ⟨a, n, kk, rfl, hrow, b6⟩
  have HX6 : Hid (Below x.heap.size x w6) := below_then HW1.out (below_then HW5.out b6)
  have r1l : x.heap.size < w1.heap.size := HR0.out.2.2
  have hR6 : ∀ q, w6.cell? ⟨x.heap.size, q, none⟩ = (#[Value.int .u64 0, Value.slice none 0 0, Value.slice none 0 0, Value.int .i64 0] : Array Value)[q]? := fun q => ((below_then HW5.out b6).cell (p := ⟨x.heap.size, q, none⟩) r1l).trans (HR0.out.1 q)
  have hF6 : ∀ q, w6.frozen? ⟨x.heap.size, q, none⟩ = false := fun q => ((below_then HW5.out b6).frozen (p := ⟨x.heap.size, q, none⟩) r1l).trans (HR0.out.2.1 q)
  have HL6 : Hid ((∀ q, w6.cell? ⟨w3.heap.size, q, none⟩ = (#[Value.pointer (some ⟨K, 0, none⟩), .bool false, .int .u64 g1, .int .i64 (g1 % 2), .int .i64 (rn1 : Int), .int .i64 0, .int .i64 h1] : Array Value)[q]?) ∧ (∀ q, w6.frozen? ⟨w3.heap.size, q, none⟩ = false) ∧ w3.heap.size < w6.heap.size) := ⟨fun q => (b6.cell (p := ⟨w3.heap.size, q, none⟩) (by rw [h5s]; exact Nat.lt_succ_self _)).trans (HLc.out.1 q), fun q => (b6.frozen (p := ⟨w3.heap.size, q, none⟩) (by rw [h5s]; exact Nat.lt_succ_self _)).trans (HLc.out.2 q), by have := b6.size; omega⟩
  have HRow : Hid (Row w6 W5.heap.size (.slice a n kk) sn) := hrow
  have f0 : w6.cell? ⟨x.heap.size, 0, none⟩ = some (.int .u64 0) := hR6 0
  have f1 : w6.cell? ⟨x.heap.size, 1, none⟩ = some (.slice none 0 0) := hR6 1
  have f2 : w6.cell? ⟨x.heap.size, 2, none⟩ = some (.slice none 0 0) := hR6 2
  have f3 : w6.cell? ⟨x.heap.size, 3, none⟩ = some (.int .i64 0) := hR6 3
  have hS := set_four f0 f1 f2 f3 (.int .u64 g1) (.slice a n kk) (.slice none 0 0) (.int .i64 0)
  obtain ⟨hso, hs0, hs1, hs2, hs3⟩ := hS
  have HSO : Hid (Off (fun k => k = x.heap.size) w6 ((((w6.setCell ⟨x.heap.size, 0, none⟩ (.int .u64 g1)).setCell ⟨x.heap.size, 1, none⟩ (.slice a n kk)).setCell ⟨x.heap.size, 2, none⟩ (.slice none 0 0)).setCell ⟨x.heap.size, 3, none⟩ (.int .i64 0))) := hso
  have HFin : Hid (OpenQ x B K v0 v1 σ g sn (.returned (.tuple #[.pointer (some ⟨w3.heap.size, 0, none⟩), .agg #[.int .u64 g1, .slice a n kk, .slice none 0 0, .int .i64 0], .nilIface])) ((((w6.setCell ⟨x.heap.size, 0, none⟩ (.int .u64 g1)).setCell ⟨x.heap.size, 1, none⟩ (.slice a n kk)).setCell ⟨x.heap.size, 2, none⟩ (.slice none 0 0)).setCell ⟨x.heap.size, 3, none⟩ (.int .i64 0))) := by
    obtain ⟨hd, hN1, hg0, hg1, hN2, hBx⟩ := HL.out
    have hxl : x.heap.size < w3.heap.size := by have h1 := HW1.out.size; have h2 := HW2.out.size; omega
    have hc : ∀ q, ((((w6.setCell ⟨x.heap.size, 0, none⟩ (.int .u64 g1)).setCell ⟨x.heap.size, 1, none⟩ (.slice a n kk)).setCell ⟨x.heap.size, 2, none⟩ (.slice none 0 0)).setCell ⟨x.heap.size, 3, none⟩ (.int .i64 0)).cell? ⟨w3.heap.size, q, none⟩ = (#[Value.pointer (some ⟨K, 0, none⟩), .bool false, .int .u64 g1, .int .i64 (g1 % 2), .int .i64 (rn1 : Int), .int .i64 0, .int .i64 h1] : Array Value)[q]? := fun q => (HSO.out.cell (p := ⟨w3.heap.size, q, none⟩) HL6.out.2.2 (by simp only; omega)).trans (HL6.out.1 q)
    have eg : g1 = g := HG.out.1
    have eh : h1 = ((30 + sn.length : Nat) : Int) := by rw [← HWH.out, HG.out.2, hN2]
    have er : ((rn1 : Nat) : Int) = 0 := by rw [HRO.out]; rfl
    refine ⟨w3.heap.size, a, n, kk, by rw [eg], ⟨?_, hc 0, hc 1, ?_, ?_, ?_, hc 5, ?_, fun q => ?_, fun gg => ?_, by omega⟩, ?_, ?_, by omega⟩
    · exact (hd.under HX6.out).off HSO.out (fun k hk e => by have := (hd.foot_lt hk).2; omega)
    · rw [← eg]; exact hc 2
    · rw [← eg]; exact hc 3
    · exact (hc 4).trans (show some (Value.int .i64 ((rn1 : Nat) : Int)) = some (.int .i64 0) by rw [er])
    · rw [← eh]; exact hc 6
    · exact (HSO.out.frozen (p := ⟨w3.heap.size, q, none⟩) HL6.out.2.2 (by simp only; omega)).trans (HL6.out.2.1 q)
    · have := (hd.foot_lt gg).2; omega
    · refine row_low (HRow.out.off HSO.out (fun k hk e => ?_)) (by omega)
      have := (HRow.out.lt hk).1; omega
    · exact HX6.out.trans (HSO.out.below (B := x.heap.size) HX6.out.size (by rintro k rfl; exact Nat.le_refl _))
  clear hso hs0 hs1 hs2 hs3 b6 hrow d0 d1 d2 d3 d4 d5 e0 e1 e2 e3 e4 e5
  go_wp2_with fail
  exact bodyPost_ret (v := .tuple #[.pointer (some ⟨w3.heap.size, 0, none⟩), .agg #[.int .u64 g1, .slice a n kk, .slice none 0 0, .int .i64 0], .nilIface]) (by simp [results, Tryz.results7, go_sem, f0, f1, f2, f3]) rfl HFin.out

set_option maxRecDepth 100000 in
set_option maxHeartbeats 8000000 in
theorem lOpen_0 (h : DskS x B K v0 v1 σ) (hB : B ≤ x.heap.size) (hd : σ.dead = false) (ok : σ.Ok) (hr1 : Rng σ.x0) (hH : Halves x) (hR : HdR) (h0 : σ.x1 = []) (hp : psS σ.x0 0 = some (g, sn, [])) (hg0 : 0 < g) (hg1 : g < 4611686018427387905) (hwh : 30 + sn.length = σ.x0.length) (hs : σ.s0 = σ.x0.length) :
    Calls Tryz.prog 7 #[.pointer (some ⟨K, 0, none⟩)] x (OpenQ x B K v0 v1 σ g sn) := by
  have HSc : Hid (∀ y, Below x.heap.size x y → Calls Tryz.prog 23 #[.pointer (some ⟨K, 0, none⟩)] y fun e w' => ∃ f0 f1 : Fnd, e = .returned (.tuple #[.agg (f0.vals ++ f1.vals).toArray, .nilIface]) ∧ (f1.g = 0 ∧ f1.sz = 0) ∧ Kept1 w' g sn σ.x0.length f0 ∧ Below y.heap.size y w') := fun y hy => by
    refine (scan_ok (h.under hy) hd ok hr1 (by rw [h0]; exact fun z hz => by cases hz) (hH.under hy) hR).mono ?_
    rintro e w' ⟨f0, f1, rfl, k0, k1, hb⟩
    rw [h0] at k1
    exact ⟨f0, f1, rfl, empty_of k1, kept_of k0 hp hwh hs, hb⟩
  have HL : Hid (DskS x B K v0 v1 σ ∧ σ.x0.length ≤ 16777216 ∧ 0 < g ∧ g < 4611686018427387905 ∧ 30 + sn.length = σ.x0.length ∧ B ≤ x.heap.size) := ⟨h, ok.l0, hg0, hg1, hwh, hB⟩
  obtain ⟨N, hN⟩ : ∃ N, σ.x0.length = N := ⟨_, rfl⟩
  rw [hN] at HSc HL
  clear h hd ok hr1 hH hR hp hs h0 hN hg0 hg1 hwh hB
  go_enter Tryz.func7, Tryz.ntmps7
  go_wp2_with fail
  refine (HSc.out _ ((Below.refl _ _).alloc (Nat.le_refl _) _)).mono ?_
  rintro e w1 ⟨⟨g0, sa0, sl0, sc0, ra0, rn0, rc0, sz0, sy0, wh0⟩, ⟨g1, sa1, sl1, sc1, ra1, rn1, rc1, sz1, sy1, wh1⟩, rfl, hO, hK, b1⟩
  have HRO : Hid (rn0 = 0) := hK.rn
  have HCh : Hid (∀ y, Calls Tryz.prog 24 #[.agg #[.int .u64 g0, .slice sa0 sl0 sc0, .slice ra0 rn0 rc0, .int .i64 sz0, .int .i64 sy0, .int .i64 wh0, .int .u64 g1, .slice sa1 sl1 sc1, .slice ra1 rn1 rc1, .int .i64 sz1, .int .i64 sy1, .int .i64 wh1]] y fun e w' => e = .returned (.tuple #[.agg #[.int .u64 g0, .slice sa0 sl0 sc0, .slice ra0 rn0 rc0, .int .i64 sz0, .int .i64 sy0, .int .i64 wh0], .agg #[.int .u64 g1, .slice sa1 sl1 sc1, .slice ra1 rn1 rc1, .int .i64 sz1, .int .i64 sy1, .int .i64 wh1], .nilIface]) ∧ Below y.heap.size y w') := fun y => by
    have e1 : g0 = g := hK.g
    have e0 : g1 = 0 := hO.1
    have := HL.out.2.2.1
    exact choose_first_alone (f0 := ⟨g0, sa0, sl0, sc0, ra0, rn0, rc0, sz0, sy0, wh0⟩) (f1 := ⟨g1, sa1, sl1, sc1, ra1, rn1, rc1, sz1, sy1, wh1⟩) y (by simp only; omega) (by simp only; omega) e0
  have HMe : Hid (∀ y, Calls Tryz.prog 25 #[.pointer (some ⟨K, 0, none⟩), .agg #[.int .u64 g0, .slice sa0 sl0 sc0, .slice ra0 rn0 rc0, .int .i64 sz0, .int .i64 sy0, .int .i64 wh0], .agg #[.int .u64 g1, .slice sa1 sl1 sc1, .slice ra1 rn1 rc1, .int .i64 sz1, .int .i64 sy1, .int .i64 wh1]] y fun e w' => e = .returned (.slice none 0 0) ∧ Below y.heap.size y w') := fun y => by
    have e1 : g0 = g := hK.g
    have e2 : wh0 = N := hK.wh
    have e3 : sz0 = N := hK.sz
    have e4 : sy0 = N := hK.sy
    exact mend_nil (f0 := ⟨g0, sa0, sl0, sc0, ra0, rn0, rc0, sz0, sy0, wh0⟩) (f1 := ⟨g1, sa1, sl1, sc1, ra1, rn1, rc1, sz1, sy1, wh1⟩) y (by simp only; omega) hO.2 (by simp only; omega) (by simp only; omega)
  have HRp : Hid (∀ y, Below w1.heap.size w1 y → Calls Tryz.prog 26 #[.agg #[.int .u64 g0, .slice sa0 sl0 sc0, .slice ra0 rn0 rc0, .int .i64 sz0, .int .i64 sy0, .int .i64 wh0], .agg #[.int .u64 g1, .slice sa1 sl1 sc1, .slice ra1 rn1 rc1, .int .i64 sz1, .int .i64 sy1, .int .i64 wh1]] y fun e w' => ∃ a n k, e = .returned (.agg #[.int .u64 g0, .slice a n k, .slice none 0 0, .int .i64 0]) ∧ Row w' y.heap.size (.slice a n k) sn ∧ Below y.heap.size y w') := fun y hy => by
    have e2 : wh0 = N := hK.wh
    have e3 : sz0 = N := hK.sz
    have e5 : sl0 = sn.length := hK.sl
    have e6 : sz1 = 0 := hO.2
    have h1 := HL.out.2.1
    have h2 := HL.out.2.2.2.2.1
    have := replay_none (f0 := ⟨g0, sa0, sl0, sc0, ra0, rn0, rc0, sz0, sy0, wh0⟩) (f1 := ⟨g1, sa1, sl1, sc1, ra1, rn1, rc1, sz1, sy1, wh1⟩) (sn := sn) y (hK.by_.below hy) hK.no (by simp only; omega) hK.rn (by simp only; omega) (by simp only; omega) (by simp only; omega)
    refine this.mono ?_
    rintro e w' ⟨a, n, k, rfl, h3, h4⟩
    refine ⟨a, n, k, ?_, h3, h4⟩
    have e7 : ((sz1 : Nat) : Int) + ((sz0 : Nat) : Int) - ((wh0 : Nat) : Int) = 0 := by omega
    simp only [e7]
  have HG : Hid (g0 = g ∧ wh0 = N) := ⟨hK.g, hK.wh⟩
  have hgb : 0 ≤ g0 := by have := hK.g; simp only at this; omega
  clear hO hK
  have HW1 : Hid (Below x.heap.size x w1) := ((Below.refl _ _).alloc (Nat.le_refl _) _).trans (b1.mono (by simp))
  have HR0 : Hid ((∀ q, w1.cell? ⟨x.heap.size, q, none⟩ = (#[Value.int .u64 0, Value.slice none 0 0, Value.slice none 0 0, Value.int .i64 0] : Array Value)[q]?) ∧ (∀ q, w1.frozen? ⟨x.heap.size, q, none⟩ = false) ∧ x.heap.size < w1.heap.size) := ⟨fun q => (b1.cell (p := ⟨x.heap.size, q, none⟩) (by simp)).trans (World.cell?_alloc_new _ _ _ _), fun q => (b1.frozen (p := ⟨x.heap.size, q, none⟩) (by simp)).trans (World.frozen?_alloc_new _ _ _ _), by have := b1.size; simp at this; omega⟩
  clear b1 HSc
  simp only [Fnd.vals, List.cons_append, List.nil_append]
  obtain ⟨z0, hz0⟩ : ∃ z : Int, ((sz0 : Nat) : Int) = z := ⟨_, rfl⟩
  rw [hz0] at HCh HMe HRp ⊢
  clear hz0
  obtain ⟨y0, hy0⟩ : ∃ z : Int, ((sy0 : Nat) : Int) = z := ⟨_, rfl⟩
  rw [hy0] at HCh HMe HRp ⊢
  clear hy0
  obtain ⟨h0, hh0⟩ : ∃ z : Int, ((wh0 : Nat) : Int) = z := ⟨_, rfl⟩
  rw [hh0] at HCh HMe HRp ⊢
  have HWH : Hid (((wh0 : Nat) : Int) = h0) := hh0
  clear hh0
  obtain ⟨z1, hz1⟩ : ∃ z : Int, ((sz1 : Nat) : Int) = z := ⟨_, rfl⟩
  rw [hz1] at HCh HMe HRp ⊢
  clear hz1
  obtain ⟨y1, hy1⟩ : ∃ z : Int, ((sy1 : Nat) : Int) = z := ⟨_, rfl⟩
  rw [hy1] at HCh HMe HRp ⊢
  clear hy1
  obtain ⟨h1, hh1⟩ : ∃ z : Int, ((wh1 : Nat) : Int) = z := ⟨_, rfl⟩
  rw [hh1] at HCh HMe HRp ⊢
  clear hh1
  go_wp2_with fail
  refine (HCh.out _).mono ?_
  rintro e w2 ⟨rfl, b2⟩
  have HW2 : Hid (Below w1.heap.size w1 w2) := ((Below.refl _ _).alloc (Nat.le_refl _) _).trans (b2.mono (by simp))
  clear b2 HCh
  go_wp2_with fail
  refine (HMe.out _).mono ?_
  rintro e w3 ⟨rfl, b3⟩
  have hw3 : w2.heap.size + 2 ≤ w3.heap.size := by have := b3.size; simp at this; omega
  have C7 : Hid (∀ q, w3.cell? ⟨w2.heap.size, q, none⟩ = (#[Value.int .u64 g0, Value.slice sa0 sl0 sc0, Value.slice ra0 rn0 rc0, Value.int .i64 z0, Value.int .i64 y0, Value.int .i64 h0] : Array Value)[q]?) := fun q =>
    (b3.cell (p := ⟨w2.heap.size, q, none⟩) (by simp; omega)).trans ((World.cell?_alloc_lt _ _ ⟨w2.heap.size, q, none⟩ (by simp)).trans (World.cell?_alloc_new _ _ _ _))
  have C8 : Hid (∀ q, w3.cell? ⟨w2.heap.size + 1, q, none⟩ = (#[Value.int .u64 g1, Value.slice sa1 sl1 sc1, Value.slice ra1 rn1 rc1, Value.int .i64 z1, Value.int .i64 y1, Value.int .i64 h1] : Array Value)[q]?) := fun q =>
    (b3.cell (p := ⟨w2.heap.size + 1, q, none⟩) (by simp)).trans (two_snd _ _ _ _ _ _)
  have HW3 : Hid (Below w2.heap.size w2 w3) := (((Below.refl _ _).alloc (Nat.le_refl _) _).alloc (by simp) _).trans (b3.mono (by simp; omega))
  clear b3 HMe
  go_wp2_with fail
  refine (play_nil _).mono ?_
  rintro e w4 ⟨rfl, hw4⟩
  rw [hw4]
  clear hw4
  have d0 : w3.cell? ⟨w2.heap.size, 0, none⟩ = some (.int .u64 g0) := C7.out 0
  have d1 : w3.cell? ⟨w2.heap.size, 1, none⟩ = some (.slice sa0 sl0 sc0) := C7.out 1
  have d2 : w3.cell? ⟨w2.heap.size, 2, none⟩ = some (.slice ra0 rn0 rc0) := C7.out 2
  have d3 : w3.cell? ⟨w2.heap.size, 3, none⟩ = some (.int .i64 z0) := C7.out 3
  have d4 : w3.cell? ⟨w2.heap.size, 4, none⟩ = some (.int .i64 y0) := C7.out 4
  have d5 : w3.cell? ⟨w2.heap.size, 5, none⟩ = some (.int .i64 h0) := C7.out 5
  have hl7 : w2.heap.size < w3.heap.size := by omega
  have hAr : ∀ y, Calls Tryz.prog 20 #[.int .u64 g0] y fun e w' => e = .returned (.int .i64 (g0 % 2)) ∧ w' = y := fun y => areaOf_any y hgb
  go_wp2_with fail
  go_region_held3 (fun x => x.cell? ⟨w2.heap.size, 0, none⟩ = some (.int .u64 g0) ∧ x.cell? ⟨w2.heap.size, 2, none⟩ = some (.slice ra0 rn0 rc0) ∧ x.cell? ⟨w2.heap.size, 5, none⟩ = some (.int .i64 h0)) (simp [*, World.cell?_alloc_lt _ _ ⟨w2.heap.size, 0, none⟩ hl7, World.cell?_alloc_lt _ _ ⟨w2.heap.size, 2, none⟩ hl7, World.cell?_alloc_lt _ _ ⟨w2.heap.size, 5, none⟩ hl7]) (first | (go_at_call 20; refine (hAr _).mono ?_; rintro e wx ⟨rfl, hwx⟩; rw [hwx]))
  have bA : Below w3.heap.size w3 ((w3.alloc (.cells #[.pointer (some ⟨K, 0, none⟩), .bool false, .int .u64 g0, .int .i64 (g0 % 2), .int .i64 (rn0 : Int), .int .i64 0, .int .i64 h0] 103)).drew) := below_drewN' ((Below.refl _ _).alloc (Nat.le_refl _) _)
  have HLc : Hid ((∀ q, ((w3.alloc (.cells #[.pointer (some ⟨K, 0, none⟩), .bool false, .int .u64 g0, .int .i64 (g0 % 2), .int .i64 (rn0 : Int), .int .i64 0, .int .i64 h0] 103)).drew).cell? ⟨w3.heap.size, q, none⟩ = (#[Value.pointer (some ⟨K, 0, none⟩), .bool false, .int .u64 g0, .int .i64 (g0 % 2), .int .i64 (rn0 : Int), .int .i64 0, .int .i64 h0] : Array Value)[q]?) ∧ (∀ q, ((w3.alloc (.cells #[.pointer (some ⟨K, 0, none⟩), .bool false, .int .u64 g0, .int .i64 (g0 % 2), .int .i64 (rn0 : Int), .int .i64 0, .int .i64 h0] 103)).drew).frozen? ⟨w3.heap.size, q, none⟩ = false)) := ⟨fun q => World.cell?_alloc_new _ _ _ _, fun q => World.frozen?_alloc_new _ _ _ _⟩
  obtain ⟨W5, hW5⟩ : ∃ W, (w3.alloc (.cells #[.pointer (some ⟨K, 0, none⟩), .bool false, .int .u64 g0, .int .i64 (g0 % 2), .int .i64 (rn0 : Int), .int .i64 0, .int .i64 h0] 103)).drew = W := ⟨_, rfl⟩
  have h5s : W5.heap.size = w3.heap.size + 1 := by rw [← hW5]; simp
  rw [hW5] at bA HLc ⊢
  clear hW5 d0 d1 d2 d3 d4 d5 hAr
  have d0 : W5.cell? ⟨w2.heap.size, 0, none⟩ = some (.int .u64 g0) := (bA.cell (p := ⟨w2.heap.size, 0, none⟩) hl7).trans (C7.out 0)
  have d1 : W5.cell? ⟨w2.heap.size, 1, none⟩ = some (.slice sa0 sl0 sc0) := (bA.cell (p := ⟨w2.heap.size, 1, none⟩) hl7).trans (C7.out 1)
  have d2 : W5.cell? ⟨w2.heap.size, 2, none⟩ = some (.slice ra0 rn0 rc0) := (bA.cell (p := ⟨w2.heap.size, 2, none⟩) hl7).trans (C7.out 2)
  have d3 : W5.cell? ⟨w2.heap.size, 3, none⟩ = some (.int .i64 z0) := (bA.cell (p := ⟨w2.heap.size, 3, none⟩) hl7).trans (C7.out 3)
  have d4 : W5.cell? ⟨w2.heap.size, 4, none⟩ = some (.int .i64 y0) := (bA.cell (p := ⟨w2.heap.size, 4, none⟩) hl7).trans (C7.out 4)
  have d5 : W5.cell? ⟨w2.heap.size, 5, none⟩ = some (.int .i64 h0) := (bA.cell (p := ⟨w2.heap.size, 5, none⟩) hl7).trans (C7.out 5)
  have hl8 : w2.heap.size + 1 < w3.heap.size := by omega
  have e0 : W5.cell? ⟨w2.heap.size + 1, 0, none⟩ = some (.int .u64 g1) := (bA.cell (p := ⟨w2.heap.size + 1, 0, none⟩) hl8).trans (C8.out 0)
  have e1 : W5.cell? ⟨w2.heap.size + 1, 1, none⟩ = some (.slice sa1 sl1 sc1) := (bA.cell (p := ⟨w2.heap.size + 1, 1, none⟩) hl8).trans (C8.out 1)
  have e2 : W5.cell? ⟨w2.heap.size + 1, 2, none⟩ = some (.slice ra1 rn1 rc1) := (bA.cell (p := ⟨w2.heap.size + 1, 2, none⟩) hl8).trans (C8.out 2)
  have e3 : W5.cell? ⟨w2.heap.size + 1, 3, none⟩ = some (.int .i64 z1) := (bA.cell (p := ⟨w2.heap.size + 1, 3, none⟩) hl8).trans (C8.out 3)
  have e4 : W5.cell? ⟨w2.heap.size + 1, 4, none⟩ = some (.int .i64 y1) := (bA.cell (p := ⟨w2.heap.size + 1, 4, none⟩) hl8).trans (C8.out 4)
  have e5 : W5.cell? ⟨w2.heap.size + 1, 5, none⟩ = some (.int .i64 h1) := (bA.cell (p := ⟨w2.heap.size + 1, 5, none⟩) hl8).trans (C8.out 5)
  have HW5 : Hid (Below w1.heap.size w1 W5) := below_then (below_then HW2.out HW3.out) bA
  clear bA C7 C8
  go_wp2_with fail
  refine (HRp.out _ HW5.out).mono ?_
  rintro e w6 ⟨a, n, kk, rfl, hrow, b6⟩
  have HX6 : Hid (Below x.heap.size x w6) := below_then HW1.out (below_then HW5.out b6)
  have r1l : x.heap.size < w1.heap.size := HR0.out.2.2
  have hR6 : ∀ q, w6.cell? ⟨x.heap.size, q, none⟩ = (#[Value.int .u64 0, Value.slice none 0 0, Value.slice none 0 0, Value.int .i64 0] : Array Value)[q]? := fun q => ((below_then HW5.out b6).cell (p := ⟨x.heap.size, q, none⟩) r1l).trans (HR0.out.1 q)
  have hF6 : ∀ q, w6.frozen? ⟨x.heap.size, q, none⟩ = false := fun q => ((below_then HW5.out b6).frozen (p := ⟨x.heap.size, q, none⟩) r1l).trans (HR0.out.2.1 q)
  have HL6 : Hid ((∀ q, w6.cell? ⟨w3.heap.size, q, none⟩ = (#[Value.pointer (some ⟨K, 0, none⟩), .bool false, .int .u64 g0, .int .i64 (g0 % 2), .int .i64 (rn0 : Int), .int .i64 0, .int .i64 h0] : Array Value)[q]?) ∧ (∀ q, w6.frozen? ⟨w3.heap.size, q, none⟩ = false) ∧ w3.heap.size < w6.heap.size) := ⟨fun q => (b6.cell (p := ⟨w3.heap.size, q, none⟩) (by rw [h5s]; exact Nat.lt_succ_self _)).trans (HLc.out.1 q), fun q => (b6.frozen (p := ⟨w3.heap.size, q, none⟩) (by rw [h5s]; exact Nat.lt_succ_self _)).trans (HLc.out.2 q), by have := b6.size; omega⟩
  have HRow : Hid (Row w6 W5.heap.size (.slice a n kk) sn) := hrow
  have f0 : w6.cell? ⟨x.heap.size, 0, none⟩ = some (.int .u64 0) := hR6 0
  have f1 : w6.cell? ⟨x.heap.size, 1, none⟩ = some (.slice none 0 0) := hR6 1
  have f2 : w6.cell? ⟨x.heap.size, 2, none⟩ = some (.slice none 0 0) := hR6 2
  have f3 : w6.cell? ⟨x.heap.size, 3, none⟩ = some (.int .i64 0) := hR6 3
  have hS := set_four f0 f1 f2 f3 (.int .u64 g0) (.slice a n kk) (.slice none 0 0) (.int .i64 0)
  obtain ⟨hso, hs0, hs1, hs2, hs3⟩ := hS
  have HSO : Hid (Off (fun k => k = x.heap.size) w6 ((((w6.setCell ⟨x.heap.size, 0, none⟩ (.int .u64 g0)).setCell ⟨x.heap.size, 1, none⟩ (.slice a n kk)).setCell ⟨x.heap.size, 2, none⟩ (.slice none 0 0)).setCell ⟨x.heap.size, 3, none⟩ (.int .i64 0))) := hso
  have HFin : Hid (OpenQ x B K v0 v1 σ g sn (.returned (.tuple #[.pointer (some ⟨w3.heap.size, 0, none⟩), .agg #[.int .u64 g0, .slice a n kk, .slice none 0 0, .int .i64 0], .nilIface])) ((((w6.setCell ⟨x.heap.size, 0, none⟩ (.int .u64 g0)).setCell ⟨x.heap.size, 1, none⟩ (.slice a n kk)).setCell ⟨x.heap.size, 2, none⟩ (.slice none 0 0)).setCell ⟨x.heap.size, 3, none⟩ (.int .i64 0))) := by
    obtain ⟨hd, hN1, hg0, hg1, hN2, hBx⟩ := HL.out
    have hxl : x.heap.size < w3.heap.size := by have h1 := HW1.out.size; have h2 := HW2.out.size; omega
    have hc : ∀ q, ((((w6.setCell ⟨x.heap.size, 0, none⟩ (.int .u64 g0)).setCell ⟨x.heap.size, 1, none⟩ (.slice a n kk)).setCell ⟨x.heap.size, 2, none⟩ (.slice none 0 0)).setCell ⟨x.heap.size, 3, none⟩ (.int .i64 0)).cell? ⟨w3.heap.size, q, none⟩ = (#[Value.pointer (some ⟨K, 0, none⟩), .bool false, .int .u64 g0, .int .i64 (g0 % 2), .int .i64 (rn0 : Int), .int .i64 0, .int .i64 h0] : Array Value)[q]? := fun q => (HSO.out.cell (p := ⟨w3.heap.size, q, none⟩) HL6.out.2.2 (by simp only; omega)).trans (HL6.out.1 q)
    have eg : g0 = g := HG.out.1
    have eh : h0 = ((30 + sn.length : Nat) : Int) := by rw [← HWH.out, HG.out.2, hN2]
    have er : ((rn0 : Nat) : Int) = 0 := by rw [HRO.out]; rfl
    refine ⟨w3.heap.size, a, n, kk, by rw [eg], ⟨?_, hc 0, hc 1, ?_, ?_, ?_, hc 5, ?_, fun q => ?_, fun gg => ?_, by omega⟩, ?_, ?_, by omega⟩
    · exact (hd.under HX6.out).off HSO.out (fun k hk e => by have := (hd.foot_lt hk).2; omega)
    · rw [← eg]; exact hc 2
    · rw [← eg]; exact hc 3
    · exact (hc 4).trans (show some (Value.int .i64 ((rn0 : Nat) : Int)) = some (.int .i64 0) by rw [er])
    · rw [← eh]; exact hc 6
    · exact (HSO.out.frozen (p := ⟨w3.heap.size, q, none⟩) HL6.out.2.2 (by simp only; omega)).trans (HL6.out.2.1 q)
    · have := (hd.foot_lt gg).2; omega
    · refine row_low (HRow.out.off HSO.out (fun k hk e => ?_)) (by omega)
      have := (HRow.out.lt hk).1; omega
    · exact HX6.out.trans (HSO.out.below (B := x.heap.size) HX6.out.size (by rintro k rfl; exact Nat.le_refl _))
  clear hso hs0 hs1 hs2 hs3 b6 hrow d0 d1 d2 d3 d4 d5 e0 e1 e2 e3 e4 e5
  go_wp2_with fail
  exact bodyPost_ret (v := .tuple #[.pointer (some ⟨w3.heap.size, 0, none⟩), .agg #[.int .u64 g0, .slice a n kk, .slice none 0 0, .int .i64 0], .nilIface]) (by simp [results, Tryz.results7, go_sem, f0, f1, f2, f3]) rfl HFin.out
end
end Go.Proofs.YthnpckmgnompiaaGreatDoor
