/-
  The log's replay, of a log without records.
-/
import Derived.Test.YthnpckmgnompiaaGreatDoorWOpenA
namespace Go.Proofs.YthnpckmgnompiaaGreatDoor
open Go.RowKit Go.BigFrame

theorem set_four {x : World} {R : Nat} {c0 c1 c2 c3 : Value} (h0 : x.cell? ⟨R, 0, none⟩ = some c0) (h1 : x.cell? ⟨R, 1, none⟩ = some c1) (h2 : x.cell? ⟨R, 2, none⟩ = some c2) (h3 : x.cell? ⟨R, 3, none⟩ = some c3) (u0 u1 u2 u3 : Value) : Off (fun k => k = R) x ((((x.setCell ⟨R, 0, none⟩ u0).setCell ⟨R, 1, none⟩ u1).setCell ⟨R, 2, none⟩ u2).setCell ⟨R, 3, none⟩ u3) ∧ ((((x.setCell ⟨R, 0, none⟩ u0).setCell ⟨R, 1, none⟩ u1).setCell ⟨R, 2, none⟩ u2).setCell ⟨R, 3, none⟩ u3).cell? ⟨R, 0, none⟩ = some u0 ∧ ((((x.setCell ⟨R, 0, none⟩ u0).setCell ⟨R, 1, none⟩ u1).setCell ⟨R, 2, none⟩ u2).setCell ⟨R, 3, none⟩ u3).cell? ⟨R, 1, none⟩ = some u1 ∧ ((((x.setCell ⟨R, 0, none⟩ u0).setCell ⟨R, 1, none⟩ u1).setCell ⟨R, 2, none⟩ u2).setCell ⟨R, 3, none⟩ u3).cell? ⟨R, 2, none⟩ = some u2 ∧ ((((x.setCell ⟨R, 0, none⟩ u0).setCell ⟨R, 1, none⟩ u1).setCell ⟨R, 2, none⟩ u2).setCell ⟨R, 3, none⟩ u3).cell? ⟨R, 3, none⟩ = some u3 := by
  have so : ∀ (y : World) (p q : Nat) (u : Value), p ≠ q → (y.setCell ⟨R, p, none⟩ u).cell? ⟨R, q, none⟩ = y.cell? ⟨R, q, none⟩ := fun y p q u h => World.cell?_setCell_other _ _ _ _ (by simp; first | done | omega)
  have ss : ∀ (y : World) (p : Nat) (u c : Value), y.cell? ⟨R, p, none⟩ = some c → (y.setCell ⟨R, p, none⟩ u).cell? ⟨R, p, none⟩ = some u := fun y p u c h => World.cell?_setCell_same' _ _ _ (by rw [h]; rfl)
  have off : ∀ (y : World) (p : Nat) (u : Value), Off (fun k => k = R) x y → Off (fun k => k = R) x (y.setCell ⟨R, p, none⟩ u) := fun y p u h => h.setCell (p := ⟨R, p, none⟩) rfl u
  refine ⟨(off _ _ _ (off _ _ _ (off _ _ _ (off _ _ _ (Off.refl _ _))))), ?_, ?_, ?_, ?_⟩
  · rw [so _ 3 0 _ (by omega), so _ 2 0 _ (by omega), so _ 1 0 _ (by omega)]
    refine ss _ 0 _ c0 ?_
    exact h0
  · rw [so _ 3 1 _ (by omega), so _ 2 1 _ (by omega)]
    refine ss _ 1 _ c1 ?_
    rw [so _ 0 1 _ (by omega)]
    exact h1
  · rw [so _ 3 2 _ (by omega)]
    refine ss _ 2 _ c2 ?_
    rw [so _ 1 2 _ (by omega), so _ 0 2 _ (by omega)]
    exact h2
  · skip
    refine ss _ 3 _ c3 ?_
    rw [so _ 2 3 _ (by omega), so _ 1 3 _ (by omega), so _ 0 3 _ (by omega)]
    exact h3
set_option maxRecDepth 100000 in
set_option maxHeartbeats 4000000 in
theorem replay_none {f0 f1 : Fnd} {sn : List Int} (x : World) (hb : Byts x f0.sa f0.sl sn) (hno : f0.sa = none → f0.sc = 0) (hsl : f0.sl ≤ 16777216) (hrn : f0.rn = 0) (hz0 : f0.sz ≤ 16777216) (hz1 : f1.sz ≤ 16777216) (hw : f0.wh ≤ 16777216) :
    Calls Tryz.prog 26 #[.agg f0.vals.toArray, .agg f1.vals.toArray] x fun e w' => ∃ a n k, e = .returned (.agg #[.int .u64 f0.g, .slice a n k, .slice none 0 0, .int .i64 ((f1.sz : Int) + f0.sz - f0.wh)]) ∧ Row w' x.heap.size (.slice a n k) sn ∧ Below x.heap.size x w' := by
  obtain ⟨g0, sa0, sl0, sc0, ra0, rn0, rc0, sz0, sy0, wh0⟩ := f0
  obtain ⟨g1, sa1, sl1, sc1, ra1, rn1, rc1, sz1, sy1, wh1⟩ := f1
  simp only at hb hno hsl hrn hz0 hz1 hw
  subst hrn
  simp only [Fnd.vals]
  have HC : Hid (∀ z, Below x.heap.size x z → Calls Tryz.prog 66 #[.slice sa0 sl0 sc0] z fun e w' => ∃ a n k, e = .returned (.slice a n k) ∧ Row w' z.heap.size (.slice a n k) sn ∧ Below z.heap.size z w') := fun z hz => clone_any z (hb.below hz) hno (by omega)
  have q1 : IntKind.i64.wrap ((sz1 : Int) + sz0) = sz1 + sz0 := wrap_id (by omega) (by omega)
  have q2 : IntKind.i64.wrap ((sz1 : Int) + sz0 - wh0) = sz1 + sz0 - wh0 := wrap_id (by omega) (by omega)
  clear hb hno
  go_enter Tryz.func26, Tryz.ntmps26
  go_wp2_with fail
  obtain ⟨Y, hY⟩ : ∃ z, ((x.alloc (.cells #[.int .u64 g0, .slice sa0 sl0 sc0, .slice ra0 0 rc0, .int .i64 sz0, .int .i64 sy0, .int .i64 wh0] 93)).alloc (.cells #[.int .u64 g1, .slice sa1 sl1 sc1, .slice ra1 rn1 rc1, .int .i64 sz1, .int .i64 sy1, .int .i64 wh1] 93)).alloc (.cells #[.int .u64 0, .slice none 0 0, .slice none 0 0, .int .i64 0] 33) = z := ⟨_, rfl⟩
  have hYs : Y.heap.size = x.heap.size + 3 := by rw [← hY]; simp
  have bY : Below x.heap.size x Y := by rw [← hY]; exact below_allocs x _ _ _
  have cA : ∀ q, Y.cell? ⟨x.heap.size, q, none⟩ = (#[Value.int .u64 g0, Value.slice sa0 sl0 sc0, Value.slice ra0 0 rc0, Value.int .i64 sz0, Value.int .i64 sy0, Value.int .i64 wh0] : Array Value)[q]? := fun q => by
    rw [← hY, World.cell?_alloc_lt _ _ ⟨x.heap.size, q, none⟩ (by simp; omega), World.cell?_alloc_lt _ _ ⟨x.heap.size, q, none⟩ (by simp)]
    exact World.cell?_alloc_new _ _ _ _
  have cB : ∀ q, Y.cell? ⟨x.heap.size + 1, q, none⟩ = (#[Value.int .u64 g1, Value.slice sa1 sl1 sc1, Value.slice ra1 rn1 rc1, Value.int .i64 sz1, Value.int .i64 sy1, Value.int .i64 wh1] : Array Value)[q]? := fun q => by
    rw [← hY, World.cell?_alloc_lt _ _ ⟨x.heap.size + 1, q, none⟩ (by simp), show x.heap.size + 1 = (x.alloc (.cells #[.int .u64 g0, .slice sa0 sl0 sc0, .slice ra0 0 rc0, .int .i64 sz0, .int .i64 sy0, .int .i64 wh0] 93)).heap.size by simp]
    exact World.cell?_alloc_new _ _ _ _
  have cC : ∀ q, Y.cell? ⟨x.heap.size + 1 + 1, q, none⟩ = (#[Value.int .u64 0, Value.slice none 0 0, Value.slice none 0 0, Value.int .i64 0] : Array Value)[q]? := fun q => by
    rw [← hY, show x.heap.size + 1 + 1 = ((x.alloc (.cells #[.int .u64 g0, .slice sa0 sl0 sc0, .slice ra0 0 rc0, .int .i64 sz0, .int .i64 sy0, .int .i64 wh0] 93)).alloc (.cells #[.int .u64 g1, .slice sa1 sl1 sc1, .slice ra1 rn1 rc1, .int .i64 sz1, .int .i64 sy1, .int .i64 wh1] 93)).heap.size by simp]
    exact World.cell?_alloc_new _ _ _ _
  have zC : ∀ q, Y.frozen? ⟨x.heap.size + 1 + 1, q, none⟩ = false := fun q => by
    rw [← hY, show x.heap.size + 1 + 1 = ((x.alloc (.cells #[.int .u64 g0, .slice sa0 sl0 sc0, .slice ra0 0 rc0, .int .i64 sz0, .int .i64 sy0, .int .i64 wh0] 93)).alloc (.cells #[.int .u64 g1, .slice sa1 sl1 sc1, .slice ra1 rn1 rc1, .int .i64 sz1, .int .i64 sy1, .int .i64 wh1] 93)).heap.size by simp]
    exact World.frozen?_alloc_new _ _ _ _
  have HCA : Hid (Calls Tryz.prog 66 #[.slice sa0 sl0 sc0] Y.drew fun e w' => ∃ a n k, e = .returned (.slice a n k) ∧ Row w' Y.heap.size (.slice a n k) sn ∧ Below Y.heap.size Y w') := by
    have bz : Below Y.heap.size Y Y.drew := (Below.refl _ _).drew
    refine (HC.out _ (bY.trans (bz.mono bY.size))).mono ?_
    rintro e w' ⟨a, n, k, rfl, hr, hb⟩
    exact ⟨a, n, k, rfl, hr.base bz.size, bz.trans (hb.mono bz.size)⟩
  have HCB : Hid (Calls Tryz.prog 66 #[.slice sa0 sl0 sc0] (Y.alloc (.cells #[.int .u64 0, .slice none 0 0, .slice none 0 0, .int .i64 0] 33)).drew fun e w' => ∃ a n k, e = .returned (.slice a n k) ∧ Row w' (Y.heap.size + 1) (.slice a n k) sn ∧ Below Y.heap.size Y w' ∧ Y.heap.size < w'.heap.size ∧ w'.cell? ⟨Y.heap.size, 0, none⟩ = some (.int .u64 0) ∧ w'.cell? ⟨Y.heap.size, 1, none⟩ = some (.slice none 0 0) ∧ w'.cell? ⟨Y.heap.size, 2, none⟩ = some (.slice none 0 0) ∧ w'.cell? ⟨Y.heap.size, 3, none⟩ = some (.int .i64 0) ∧ (∀ q, w'.frozen? ⟨Y.heap.size, q, none⟩ = false)) := by
    have bz : Below Y.heap.size Y (Y.alloc (.cells #[.int .u64 0, .slice none 0 0, .slice none 0 0, .int .i64 0] 33)).drew := ((Below.refl _ _).alloc (Nat.le_refl _) _).drew
    have hzs : (Y.alloc (.cells #[.int .u64 0, .slice none 0 0, .slice none 0 0, .int .i64 0] 33)).drew.heap.size = Y.heap.size + 1 := by simp
    refine (HC.out _ (bY.trans (bz.mono bY.size))).mono ?_
    rintro e w' ⟨a, n, k, rfl, hr, hb⟩
    have hc : ∀ q, w'.cell? ⟨Y.heap.size, q, none⟩ = (#[Value.int .u64 0, Value.slice none 0 0, Value.slice none 0 0, Value.int .i64 0] : Array Value)[q]? := fun q => (hb.cell (p := ⟨Y.heap.size, q, none⟩) (by rw [hzs]; simp)).trans (World.cell?_alloc_new _ _ _ _)
    refine ⟨a, n, k, rfl, hr.base (by rw [hzs]; exact Nat.le_refl _), bz.trans (hb.mono bz.size), by have := hb.size; omega, hc 0, hc 1, hc 2, hc 3, fun q => (hb.frozen (p := ⟨Y.heap.size, q, none⟩) (by rw [hzs]; simp)).trans (World.frozen?_alloc_new _ _ _ _)⟩
  rw [hY]
  have a0 : Y.cell? ⟨x.heap.size, 0, none⟩ = some (.int .u64 g0) := cA 0
  have a1 : Y.cell? ⟨x.heap.size, 1, none⟩ = some (.slice sa0 sl0 sc0) := cA 1
  have a3 : Y.cell? ⟨x.heap.size, 3, none⟩ = some (.int .i64 sz0) := cA 3
  have a5 : Y.cell? ⟨x.heap.size, 5, none⟩ = some (.int .i64 wh0) := cA 5
  have b3 : Y.cell? ⟨x.heap.size + 1, 3, none⟩ = some (.int .i64 sz1) := cB 3
  have lA : x.heap.size < Y.heap.size := by omega
  have lB : x.heap.size + 1 < Y.heap.size := by omega
  have lC : x.heap.size + 1 + 1 < Y.heap.size := by omega
  have HF : Hid ((∀ q, Y.cell? ⟨x.heap.size, q, none⟩ = (#[Value.int .u64 g0, Value.slice sa0 sl0 sc0, Value.slice ra0 0 rc0, Value.int .i64 sz0, Value.int .i64 sy0, Value.int .i64 wh0] : Array Value)[q]?) ∧ (∀ q, Y.cell? ⟨x.heap.size + 1 + 1, q, none⟩ = (#[Value.int .u64 0, Value.slice none 0 0, Value.slice none 0 0, Value.int .i64 0] : Array Value)[q]?) ∧ (∀ q, Y.frozen? ⟨x.heap.size + 1 + 1, q, none⟩ = false) ∧ Below x.heap.size x Y) := ⟨cA, cC, zC, bY⟩
  clear hY cA cB cC zC bY HC hYs
  go_wp2_with fail
  go_region_held3 (fun y => y.cell? ⟨x.heap.size, 0, none⟩ = some (.int .u64 g0) ∧ y.cell? ⟨x.heap.size, 1, none⟩ = some (.slice sa0 sl0 sc0) ∧ y.cell? ⟨x.heap.size, 3, none⟩ = some (.int .i64 sz0) ∧ y.cell? ⟨x.heap.size, 5, none⟩ = some (.int .i64 wh0) ∧ y.cell? ⟨x.heap.size + 1, 3, none⟩ = some (.int .i64 sz1)) (first | (simp [*]; done) | simp [*, World.cell?_alloc_some]) (first | (go_at_call 66; refine HCA.out.mono ?_; rintro e w1 ⟨a, n, k, rfl, hrow, hb1⟩; have e0 : w1.cell? ⟨x.heap.size, 0, none⟩ = some (.int .u64 g0) := (hb1.cell (p := ⟨x.heap.size, 0, none⟩) lA).trans a0; have e1 : w1.cell? ⟨x.heap.size, 1, none⟩ = some (.slice sa0 sl0 sc0) := (hb1.cell (p := ⟨x.heap.size, 1, none⟩) lA).trans a1; have e3 : w1.cell? ⟨x.heap.size, 3, none⟩ = some (.int .i64 sz0) := (hb1.cell (p := ⟨x.heap.size, 3, none⟩) lA).trans a3; have e5 : w1.cell? ⟨x.heap.size, 5, none⟩ = some (.int .i64 wh0) := (hb1.cell (p := ⟨x.heap.size, 5, none⟩) lA).trans a5; have e6 : w1.cell? ⟨x.heap.size + 1, 3, none⟩ = some (.int .i64 sz1) := (hb1.cell (p := ⟨x.heap.size + 1, 3, none⟩) lB).trans b3; have l1 : x.heap.size < w1.heap.size := Nat.lt_of_lt_of_le lA hb1.size; have l2 : x.heap.size + 1 < w1.heap.size := Nat.lt_of_lt_of_le lB hb1.size) | (go_at_call 66; refine HCB.out.mono ?_; rintro e w1 ⟨a, n, k, rfl, hrow, hb1, hgl, t0, t1, t2, t3, tz⟩; have e0 : w1.cell? ⟨x.heap.size, 0, none⟩ = some (.int .u64 g0) := (hb1.cell (p := ⟨x.heap.size, 0, none⟩) lA).trans a0; have e1 : w1.cell? ⟨x.heap.size, 1, none⟩ = some (.slice sa0 sl0 sc0) := (hb1.cell (p := ⟨x.heap.size, 1, none⟩) lA).trans a1; have e3 : w1.cell? ⟨x.heap.size, 3, none⟩ = some (.int .i64 sz0) := (hb1.cell (p := ⟨x.heap.size, 3, none⟩) lA).trans a3; have e5 : w1.cell? ⟨x.heap.size, 5, none⟩ = some (.int .i64 wh0) := (hb1.cell (p := ⟨x.heap.size, 5, none⟩) lA).trans a5; have e6 : w1.cell? ⟨x.heap.size + 1, 3, none⟩ = some (.int .i64 sz1) := (hb1.cell (p := ⟨x.heap.size + 1, 3, none⟩) lB).trans b3; have l1 : x.heap.size < w1.heap.size := Nat.lt_of_lt_of_le lA hb1.size; have l2 : x.heap.size + 1 < w1.heap.size := Nat.lt_of_lt_of_le lB hb1.size; have tz0 := tz 0; have tz1 := tz 1; have tz2 := tz 2; have tz3 := tz 3; have sA : ∀ (X : World) (u : Value) (q r : Nat), (X.setCell ⟨Y.heap.size, q, none⟩ u).cell? ⟨x.heap.size, r, none⟩ = X.cell? ⟨x.heap.size, r, none⟩ := (fun X u q r => World.cell?_setCell_other _ _ _ _ (by simp; first | done | omega)); have sB : ∀ (X : World) (u : Value) (q r : Nat), (X.setCell ⟨Y.heap.size, q, none⟩ u).cell? ⟨x.heap.size + 1, r, none⟩ = X.cell? ⟨x.heap.size + 1, r, none⟩ := (fun X u q r => World.cell?_setCell_other _ _ _ _ (by simp; first | done | omega))))
  · have ho : Off (fun _ => False) w1 (w1.alloc (.cells #[.int .u64 g0, .slice a n k, .slice none 0 0, .int .i64 ((sz1 : Int) + sz0 - wh0)] 33)) := (Off.refl _ _).alloc _
    obtain ⟨G, hG⟩ : ∃ G, w1.heap.size = G := ⟨_, rfl⟩
    obtain ⟨W3, hW3⟩ : ∃ W, w1.alloc (.cells #[.int .u64 g0, .slice a n k, .slice none 0 0, .int .i64 ((sz1 : Int) + sz0 - wh0)] 33) = W := ⟨_, rfl⟩
    have hGc : ∀ q, W3.cell? ⟨G, q, none⟩ = (#[Value.int .u64 g0, Value.slice a n k, Value.slice none 0 0, Value.int .i64 ((sz1 : Int) + sz0 - wh0)] : Array Value)[q]? := fun q => by rw [← hW3, ← hG]; exact World.cell?_alloc_new _ _ _ _
    have y0 : W3.cell? ⟨G, 0, none⟩ = some (.int .u64 g0) := hGc 0
    have y1 : W3.cell? ⟨G, 1, none⟩ = some (.slice a n k) := hGc 1
    have y2 : W3.cell? ⟨G, 2, none⟩ = some (.slice none 0 0) := hGc 2
    have y3 : W3.cell? ⟨G, 3, none⟩ = some (.int .i64 ((sz1 : Int) + sz0 - wh0)) := hGc 3
    rw [hW3] at ho
    rw [hW3, hG]
    have f2 : W3.cell? ⟨x.heap.size, 2, none⟩ = some (.slice ra0 0 rc0) := (ho.cell (p := ⟨x.heap.size, 2, none⟩) l1 id).trans ((hb1.cell (p := ⟨x.heap.size, 2, none⟩) lA).trans (HF.out.1 2))
    have l3 : x.heap.size + 1 + 1 < w1.heap.size := Nat.lt_of_lt_of_le lC hb1.size
    have hRc : ∀ q, W3.cell? ⟨x.heap.size + 1 + 1, q, none⟩ = (#[Value.int .u64 0, Value.slice none 0 0, Value.slice none 0 0, Value.int .i64 0] : Array Value)[q]? := fun q => (ho.cell (p := ⟨x.heap.size + 1 + 1, q, none⟩) l3 id).trans ((hb1.cell (p := ⟨x.heap.size + 1 + 1, q, none⟩) lC).trans (HF.out.2.1 q))
    have hRz : ∀ q, W3.frozen? ⟨x.heap.size + 1 + 1, q, none⟩ = false := fun q => (ho.frozen (p := ⟨x.heap.size + 1 + 1, q, none⟩) l3 id).trans ((hb1.frozen (p := ⟨x.heap.size + 1 + 1, q, none⟩) lC).trans (HF.out.2.2.1 q))
    have r0 : W3.cell? ⟨x.heap.size + 1 + 1, 0, none⟩ = some (.int .u64 0) := hRc 0
    have r1 : W3.cell? ⟨x.heap.size + 1 + 1, 1, none⟩ = some (.slice none 0 0) := hRc 1
    have r2 : W3.cell? ⟨x.heap.size + 1 + 1, 2, none⟩ = some (.slice none 0 0) := hRc 2
    have r3 : W3.cell? ⟨x.heap.size + 1 + 1, 3, none⟩ = some (.int .i64 0) := hRc 3
    have z0 := hRz 0
    have z1 := hRz 1
    have z2 := hRz 2
    have z3 := hRz 3
    have hrow3 : Row W3 Y.heap.size (.slice a n k) sn := hrow.off ho (fun q hq e => e)
    have HE : Hid (Row W3 Y.heap.size (.slice a n k) sn ∧ Below x.heap.size x W3) := ⟨hrow3, (HF.out.2.2.2.trans (hb1.mono HF.out.2.2.2.size)).trans (ho.below (by omega) (fun q g => g.elim))⟩
    clear ho hG hW3 hGc hRc hRz hrow hrow3 hb1 e0 e1 e3 e5 e6 a0 a1 a3 a5 b3 HF HCA HCB
    go_wp2_with fail
    refine wp_loop_rounds 1 ?_
    rw [rounds_succ]
    go_wp2_with fail
    obtain ⟨ho, v0, v1, v2, v3⟩ := set_four r0 r1 r2 r3 (.int .u64 g0) (.slice a n k) (.slice none 0 0) (.int .i64 ((sz1 : Int) + sz0 - wh0))
    refine bodyPost_ret (v := .agg #[.int .u64 g0, .slice a n k, .slice none 0 0, .int .i64 ((sz1 : Int) + sz0 - wh0)]) (by simp [results, Tryz.results26, go_sem, v0, v1, v2, v3]) rfl ⟨a, n, k, rfl, (HE.out.1.off ho (fun q hq e => by have := (HE.out.1.lt hq).1; omega)).base (by omega), HE.out.2.trans (ho.below HE.out.2.size (fun q g => by omega))⟩
  · obtain ⟨ho, y0, y1, y2, y3⟩ := set_four t0 t1 t2 t3 (.int .u64 g0) (.slice a n k) (.slice none 0 0) (.int .i64 ((sz1 : Int) + sz0 - wh0))
    obtain ⟨W3, hW3⟩ : ∃ W, (((w1.setCell ⟨Y.heap.size, 0, none⟩ (.int .u64 g0)).setCell ⟨Y.heap.size, 1, none⟩ (.slice a n k)).setCell ⟨Y.heap.size, 2, none⟩ (.slice none 0 0)).setCell ⟨Y.heap.size, 3, none⟩ (.int .i64 ((sz1 : Int) + sz0 - wh0)) = W := ⟨_, rfl⟩
    rw [hW3] at ho y0 y1 y2 y3 ⊢
    have f2 : W3.cell? ⟨x.heap.size, 2, none⟩ = some (.slice ra0 0 rc0) := (ho.cell (p := ⟨x.heap.size, 2, none⟩) l1 (by simp only; omega)).trans ((hb1.cell (p := ⟨x.heap.size, 2, none⟩) lA).trans (HF.out.1 2))
    have l3 : x.heap.size + 1 + 1 < w1.heap.size := Nat.lt_of_lt_of_le lC hb1.size
    have hRc : ∀ q, W3.cell? ⟨x.heap.size + 1 + 1, q, none⟩ = (#[Value.int .u64 0, Value.slice none 0 0, Value.slice none 0 0, Value.int .i64 0] : Array Value)[q]? := fun q => (ho.cell (p := ⟨x.heap.size + 1 + 1, q, none⟩) l3 (by simp only; omega)).trans ((hb1.cell (p := ⟨x.heap.size + 1 + 1, q, none⟩) lC).trans (HF.out.2.1 q))
    have hRz : ∀ q, W3.frozen? ⟨x.heap.size + 1 + 1, q, none⟩ = false := fun q => (ho.frozen (p := ⟨x.heap.size + 1 + 1, q, none⟩) l3 (by simp only; omega)).trans ((hb1.frozen (p := ⟨x.heap.size + 1 + 1, q, none⟩) lC).trans (HF.out.2.2.1 q))
    have r0 : W3.cell? ⟨x.heap.size + 1 + 1, 0, none⟩ = some (.int .u64 0) := hRc 0
    have r1 : W3.cell? ⟨x.heap.size + 1 + 1, 1, none⟩ = some (.slice none 0 0) := hRc 1
    have r2 : W3.cell? ⟨x.heap.size + 1 + 1, 2, none⟩ = some (.slice none 0 0) := hRc 2
    have r3 : W3.cell? ⟨x.heap.size + 1 + 1, 3, none⟩ = some (.int .i64 0) := hRc 3
    have z0 := hRz 0
    have z1 := hRz 1
    have z2 := hRz 2
    have z3 := hRz 3
    have hrow3 : Row W3 (Y.heap.size + 1) (.slice a n k) sn := hrow.off ho (fun q hq e => by have := (hrow.lt hq).1; omega)
    have HE : Hid (Row W3 (Y.heap.size + 1) (.slice a n k) sn ∧ Below x.heap.size x W3) := ⟨hrow3, (HF.out.2.2.2.trans (hb1.mono HF.out.2.2.2.size)).trans (ho.below (by omega) (fun q g => by omega))⟩
    clear ho hW3 hRc hRz hrow hrow3 hb1 t0 t1 t2 t3 tz tz0 tz1 tz2 tz3 sA sB e0 e1 e3 e5 e6 a0 a1 a3 a5 b3 HF HCA HCB
    go_wp2_with fail
    refine wp_loop_rounds 1 ?_
    rw [rounds_succ]
    go_wp2_with fail
    obtain ⟨ho, v0, v1, v2, v3⟩ := set_four r0 r1 r2 r3 (.int .u64 g0) (.slice a n k) (.slice none 0 0) (.int .i64 ((sz1 : Int) + sz0 - wh0))
    refine bodyPost_ret (v := .agg #[.int .u64 g0, .slice a n k, .slice none 0 0, .int .i64 ((sz1 : Int) + sz0 - wh0)]) (by simp [results, Tryz.results26, go_sem, v0, v1, v2, v3]) rfl ⟨a, n, k, rfl, (HE.out.1.off ho (fun q hq e => by have := (HE.out.1.lt hq).1; omega)).base (by omega), HE.out.2.trans (ho.below HE.out.2.size (fun q g => by omega))⟩
end Go.Proofs.YthnpckmgnompiaaGreatDoor
