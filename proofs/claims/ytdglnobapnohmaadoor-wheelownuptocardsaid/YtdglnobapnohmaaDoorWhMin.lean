/-
  slices.MinFunc with inOrder.
-/
import Derived.Test.YtdglnobapnohmaaDoorWhTop
import Derived.Deep.RegionHeld3
namespace Go.Proofs.YtdglnobapnohmaaDoor
open Go.RowKit

/-- Worlds that keep what lies in V. -/
def Sub (V : World) : Type := { x : World // Below V.heap.size V x }
theorem wp_region_class {P : Program} {V : World} {id : Nat} {Q : Exit → Act → World → Prop} {a : Act} {w : World} {l : List Oper} (hw : Below V.heap.size V w) (hm : P.follows .mixedOrders = true) (hB : Region.lexB .any l.toArray = true)
    (h : wpQuiet P l.toArray (fun w' => ∃ x : Sub V, w' = x.1) (fun a' => ∀ w', (∃ x : Sub V, w' = x.1) → Q .normal a' w') l a) : (Code.region id l.toArray true).wp P Q a w :=
  wp_region_quiet (C := fun w' => ∃ x : Sub V, w' = x.1) hm hB ⟨⟨_, Below.drew hw⟩, rfl⟩ (by simpa using h)
theorem sub_of {P : Program} {f : FuncId} {args : Array Value} {R : Ending} {V : World} (c : ∀ w, Calls P f args w fun r w' => r = R ∧ Below w.heap.size w w') (x : Sub V) : Calls P f args x.1 fun r x' => r = R ∧ ∃ y : Sub V, x' = y.1 :=
  (c x.1).mono fun _ x' ⟨h, hb⟩ => ⟨h, ⟨x', below_then x.2 hb⟩, rfl⟩
theorem sub_box {V : World} {b : Nat} {cs : Array Value} (h : Box V b cs) (x : Sub V) (o : Nat) : x.1.cell? ⟨b, o, none⟩ = cs[o]? := (h.below x.2).cell o
theorem below_grow (w : World) (q : Nat) (os : Array Obj) : Below w.heap.size w (Sort.grow (w.drewN q) os) :=
  ⟨rfl, rfl, rfl, by show w.heap.size ≤ (w.heap ++ os).size; simp, fun k hk => by show (w.heap ++ os)[k]? = _; exact Array.getElem?_append_left hk⟩
theorem inOrder_below (x y : Tm) (w : World) : Calls Tryd.prog 35 #[.agg #[.int .i64 x.1, .int .i64 (x.2 : Int)], .agg #[.int .i64 y.1, .int .i64 (y.2 : Int)]] w fun e w' => e = .returned (.int .i64 (cfT x y)) ∧ Below w.heap.size w w' :=
  (inOrder_any w x y).mono fun _ _ ⟨he, q, os, h⟩ => ⟨he, by rw [h]; exact below_grow w q os⟩
structure MnI (w : World) (a : Option Addr) (n c : Nat) (xs : List Tm) (i : Nat) (x : Tm) (wx : World) : Prop where
  b : Below w.heap.size w wx
  r : Box wx w.heap.size #[.int .i64 0, .int .i64 0]
  m : Box wx (w.heap.size + 1) #[.int .i64 x.1, .int .i64 (x.2 : Int)]
  mem : x ∈ xs
  all : ∀ y ∈ xs.take i, ¬ tlt y x
theorem cf_neg (x y : Tm) : (cfT x y < 0) ↔ tlt x y := by
  have := ltOf_cf x y
  unfold ltOf at this
  simpa using this
/-- The least of a list. -/
def MnQ (xs : List Tm) (w : World) (e : Ending) (w' : World) : Prop := ∃ x : Tm, e = .returned (.agg #[.int .i64 x.1, .int .i64 (x.2 : Int)]) ∧ x ∈ xs ∧ (∀ y ∈ xs, ¬ tlt y x) ∧ Below w.heap.size w w'
set_option maxRecDepth 100000 in
set_option maxHeartbeats 2000000 in
theorem min_any {w : World} {B : Nat} {a : Option Addr} {n c : Nat} {xs : List Tm} (h : TRow w B (.slice a n c) xs) (hne : 0 < xs.length) (hl : xs.length ≤ 1000000) :
    Calls Tryd.prog 56 #[.slice a n c, .func (.func 35) #[] #[]] w (MnQ xs w) := by
  have hn := h.len
  subst hn
  obtain ⟨x0, hx0⟩ : ∃ x, xs[0]? = some x := ⟨_, List.getElem?_eq_getElem hne⟩
  obtain ⟨g, rfl, hg, hc0⟩ := h.at_ encT_len hx0
  have HR : Hid (TRow w B (.slice (some ⟨g, 0, none⟩) xs.length c) xs ∧ xs[0]? = some x0 ∧ g < w.heap.size) := ⟨h, hx0, hg⟩
  obtain ⟨k0, t0⟩ := x0
  obtain ⟨N, hN⟩ : ∃ q, xs.length = q := ⟨_, rfl⟩
  have hN1 : ¬ (N : Int) < 1 := by omega
  have HN : Hid (xs.length = N) := hN
  rw [hN] at hne hl ⊢
  have e0 : ∀ o1 o2, ((w.alloc o1).alloc o2).cell? ⟨g, 0, none⟩ = some (.int .i64 k0) := fun o1 o2 => by
    rw [World.cell?_alloc_lt _ _ ⟨g, 0, none⟩ (by simp; omega), World.cell?_alloc_lt _ _ ⟨g, 0, none⟩ hg]
    have h9 := hc0 0 (by omega)
    rw [Nat.zero_mul] at h9
    exact h9
  have e1 : ∀ o1, (w.alloc o1).cell? ⟨g, 0, none⟩ = some (.int .i64 k0) := fun o1 => by
    rw [World.cell?_alloc_lt _ _ ⟨g, 0, none⟩ hg]
    have h9 := hc0 0 (by omega)
    rw [Nat.zero_mul] at h9
    exact h9
  have e2 : ∀ o1, (w.alloc o1).cell? ⟨g, 1, none⟩ = some (.int .i64 (t0 : Int)) := fun o1 => by
    rw [World.cell?_alloc_lt _ _ ⟨g, 1, none⟩ hg]
    have h9 := hc0 1 (by omega)
    rw [Nat.zero_mul, Nat.zero_add] at h9
    exact h9
  have hN0 : (0 : Int) < N := by omega
  clear h hx0 hN hc0 e0
  go_enter Tryd.func56, Tryd.ntmps56
  go_wp2_with fail
  have HI : Hid (MnI w (some ⟨g, 0, none⟩) N c xs 1 (k0, t0) ((w.alloc (.cells #[.int .i64 0, .int .i64 0] 68)).alloc (.cells #[.int .i64 k0, .int .i64 (t0 : Int)] 68))) := by
    refine ⟨((Below.refl _ _).alloc (Nat.le_refl _) _).alloc (by simp) _, (Box.new w _ _).alloc _, ?_, List.mem_of_getElem? HR.out.2.1, fun y hy => ?_⟩
    · have := Box.new (w.alloc (.cells #[.int .i64 0, .int .i64 0] 68)) #[.int .i64 k0, .int .i64 (t0 : Int)] 68
      rwa [World.size_alloc] at this
    · obtain ⟨j, hj⟩ := List.getElem?_of_mem hy
      rw [List.getElem?_take] at hj
      split at hj
      · obtain rfl : j = 0 := by omega
        rw [HR.out.2.1] at hj
        injection hj with hj
        subst hj
        exact fun e => tlt_irr e
      · cases hj
  go_loopw [6] (fun t6 wx => ∃ i : Nat, 1 ≤ i ∧ i ≤ N ∧ t6 = .int .i64 (i : Int) ∧ Hid (∃ x, MnI w (some ⟨g, 0, none⟩) N c xs i x wx)) (fun t6 _ => N - (intOf t6).toNat)
  case atStart => exact ⟨1, Nat.le_refl _, hne, rfl, _, HI.out⟩
  case round =>
    obtain ⟨i, hi1, hiN, rfl, HJ⟩ := hrel
    clear HI e1 e2
    obtain ⟨⟨kx, tx⟩, hI⟩ := HJ.out
    have HJ1 : Hid (MnI w (some ⟨g, 0, none⟩) N c xs i (kx, tx) wr) := hI
    by_cases hlt : i < N
    · have hlt1 : (i : Int) < N := by omega
      obtain ⟨⟨ky, ty⟩, hy⟩ : ∃ y, xs[i]? = some y := ⟨_, List.getElem?_eq_getElem (by have := HN.out; omega)⟩
      have HY : Hid (xs[i]? = some (ky, ty)) := hy
      obtain ⟨g', eg, _, hcy⟩ := (HR.out.1.off (P := fun _ => False) (Off.refl _ _) (fun _ _ => id)).at_ encT_len hy
      obtain rfl : g = g' := by simpa using eg
      have hgw := HR.out.2.2
      have dy0 : wr.cell? ⟨g, i * 2, none⟩ = some (.int .i64 ky) := (hI.b.cell (p := ⟨g, i * 2, none⟩) hgw).trans (hcy 0 (by omega))
      have dy1 : wr.cell? ⟨g, i * 2 + 1, none⟩ = some (.int .i64 (ty : Int)) := (hI.b.cell (p := ⟨g, i * 2 + 1, none⟩) hgw).trans (hcy 1 (by omega))
      have dm0 : wr.cell? ⟨w.heap.size + 1, 0, none⟩ = some (.int .i64 kx) := hI.m.cell 0
      have dm1 : wr.cell? ⟨w.heap.size + 1, 1, none⟩ = some (.int .i64 (tx : Int)) := hI.m.cell 1
      have hgr : g < wr.heap.size := Nat.lt_of_lt_of_le hgw hI.b.size
      have hmr : w.heap.size + 1 < wr.heap.size := hI.m.lt
      obtain ⟨TY, hTY⟩ : ∃ N : Int, (ty : Int) = N := ⟨_, rfl⟩
      obtain ⟨TX, hTX⟩ : ∃ N : Int, (tx : Int) = N := ⟨_, rfl⟩
      obtain ⟨cv, hcv⟩ : ∃ v, cfT (ky, ty) (kx, tx) = v := ⟨_, rfl⟩
      rw [hTY] at dy1
      rw [hTX] at dm1
      have HCL : Hid (∀ z, Below wr.heap.size wr z → Calls Tryd.prog 35 #[.agg #[.int .i64 ky, .int .i64 TY], .agg #[.int .i64 kx, .int .i64 TX]] z fun e w' => e = .returned (.int .i64 cv) ∧ Hid (Below wr.heap.size wr w') ∧ w'.cell? ⟨g, i * 2, none⟩ = some (.int .i64 ky) ∧ w'.cell? ⟨g, i * 2 + 1, none⟩ = some (.int .i64 TY) ∧ w'.cell? ⟨w.heap.size + 1, 0, none⟩ = some (.int .i64 kx) ∧ w'.cell? ⟨w.heap.size + 1, 1, none⟩ = some (.int .i64 TX)) := fun z hz => by
        have h5 := inOrder_below (ky, ty) (kx, tx) z
        simp only [hTY, hTX, hcv] at h5
        refine h5.mono fun e w' hq => ?_
        have hb := below_then hz hq.2
        exact ⟨hq.1, hb, (hb.cell (p := ⟨g, i * 2, none⟩) hgr).trans dy0, (hb.cell (p := ⟨g, i * 2 + 1, none⟩) hgr).trans dy1, (hb.cell (p := ⟨w.heap.size + 1, 0, none⟩) hmr).trans dm0, (hb.cell (p := ⟨w.heap.size + 1, 1, none⟩) hmr).trans dm1⟩
      have hen := enterOrd
      have HCF : Hid ((cv < 0 ↔ tlt (ky, ty) (kx, tx)) ∧ (ty : Int) = TY) := ⟨by rw [← hcv]; exact cf_neg _ _, hTY⟩
      clear hcy eg hy HJ hTY hTX hcv hI
      go_wp2_with fail
      go_region_held3 (fun z => z.cell? ⟨g, i * 2, none⟩ = some (.int .i64 ky) ∧ z.cell? ⟨g, i * 2 + 1, none⟩ = some (.int .i64 TY) ∧ z.cell? ⟨w.heap.size + 1, 0, none⟩ = some (.int .i64 kx) ∧ z.cell? ⟨w.heap.size + 1, 1, none⟩ = some (.int .i64 TX)) (simp [*]) (first | (go_at_call 35; refine (HCL.out _ ?_).mono ?_; (first | (with_reducible exact Below.refl _ _) | exact Below.drew (Below.refl _ _) | exact below_drewN (Below.refl _ _) _); clear HCL; rintro _ w5 ⟨rfl, H5, s0, s1, s2, s3⟩))
      have HB5 : Hid (Below w.heap.size w w5 ∧ Box w5 w.heap.size #[.int .i64 0, .int .i64 0] ∧ Box w5 (w.heap.size + 1) #[.int .i64 kx, .int .i64 (tx : Int)] ∧ (kx, tx) ∈ xs ∧ (∀ y ∈ xs.take i, ¬ tlt y (kx, tx)) ∧ xs.take (i + 1) = xs.take i ++ [(ky, ty)]) := ⟨below_then HJ1.out.b H5.out, HJ1.out.r.below H5.out, HJ1.out.m.below H5.out, HJ1.out.mem, HJ1.out.all, by rw [List.take_add_one, HY.out]; rfl⟩
      clear dy0 dy1 dm0 dm1 hgr hmr H5 HJ1
      by_cases hneg : cv < 0
      · have HN5 : Hid (∀ z, z = (w5.setCell ⟨w.heap.size + 1, 0, none⟩ (.int .i64 ky)).setCell ⟨w.heap.size + 1, 1, none⟩ (.int .i64 TY) → MnI w (some ⟨g, 0, none⟩) N c xs (i + 1) (ky, ty) z) := fun z hz => by
          have hx := (HB5.out.2.2.1.pPut (j := 0) (by simp) (.int .i64 ky)).pPut (j := 1) (by simp) (.int .i64 TY)
          subst hz
          refine ⟨(HB5.out.1.setCell (p := ⟨w.heap.size + 1, 0, none⟩) (Nat.le_succ _) _).setCell (p := ⟨w.heap.size + 1, 1, none⟩) (Nat.le_succ _) _, (HB5.out.2.1.pOff (p := ⟨w.heap.size + 1, 0, none⟩) (by simp) _).pOff (p := ⟨w.heap.size + 1, 1, none⟩) (by simp) _, by rw [HCF.out.2]; exact hx, List.mem_of_getElem? HY.out, fun y hy => ?_⟩
          rw [HB5.out.2.2.2.2.2] at hy
          rcases List.mem_append.1 hy with hy | hy
          · exact fun e => HB5.out.2.2.2.2.1 y hy (tlt_trans e (HCF.out.1.1 hneg))
          · obtain rfl := List.mem_singleton.1 hy
            exact fun e => tlt_irr e
        have fm := HB5.out.2.2.1.free
        have hgw5 : ∀ v, (w5.setCell ⟨w.heap.size + 1, 0, none⟩ v).cell? ⟨w.heap.size + 1, 1, none⟩ = some (.int .i64 TX) := fun v => by
          rw [World.cell?_setCell_other _ _ _ _ (by simp)]; exact s3
        go_wp2_with fail
        go_roundw
        case rel => exact ⟨i + 1, by omega, hlt, by go_num, _, HN5.out _ rfl⟩
        case measure => simp [intOf]; omega
      · have HN5 : Hid (MnI w (some ⟨g, 0, none⟩) N c xs (i + 1) (kx, tx) w5) := by
          refine ⟨HB5.out.1, HB5.out.2.1, HB5.out.2.2.1, HB5.out.2.2.2.1, fun y hy => ?_⟩
          rw [HB5.out.2.2.2.2.2] at hy
          rcases List.mem_append.1 hy with hy | hy
          · exact HB5.out.2.2.2.2.1 y hy
          · obtain rfl := List.mem_singleton.1 hy
            exact fun e => hneg (HCF.out.1.2 e)
        go_wp2_with fail
        go_roundw
        case rel => exact ⟨i + 1, by omega, hlt, by go_num, _, HN5.out⟩
        case measure => simp [intOf]; omega
    · have hlt1 : ¬ (i : Int) < N := by omega
      have cm := HJ1.out.m.cell
      have cr := HJ1.out.r.cell
      have fr := HJ1.out.r.free
      have HE : Hid (∀ z, Below w.heap.size w z → (kx, tx) ∈ xs ∧ (∀ y ∈ xs, ¬ tlt y (kx, tx)) ∧ Below w.heap.size w z) := fun z hz => ⟨HJ1.out.mem, fun y hy => HJ1.out.all y (by rw [List.take_of_length_le (by have := HN.out; omega)]; exact hy), hz⟩
      have HB : Hid (Below w.heap.size w wr) := HJ1.out.b
      clear HJ HJ1 hI
      go_wp2_with fail
      refine bodyPost_ret (v := .agg #[.int .i64 kx, .int .i64 (tx : Int)]) ?_ rfl ⟨(kx, tx), rfl, HE.out _ ((HB.out.setCell (p := ⟨w.heap.size, 0, none⟩) (Nat.le_refl _) _).setCell (p := ⟨w.heap.size, 1, none⟩) (Nat.le_refl _) _)⟩
      simp [results, Tryd.results56, go_sem, cr]
end Go.Proofs.YtdglnobapnohmaaDoor
