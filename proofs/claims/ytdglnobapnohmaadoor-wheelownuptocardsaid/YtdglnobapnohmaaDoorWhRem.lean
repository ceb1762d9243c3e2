/-
  timers: remove.
-/
import Derived.Test.YtdglnobapnohmaaDoorWhDel
namespace Go.Proofs.YtdglnobapnohmaaDoor
open Go.RowKit

theorem TRow.setAt {w : World} {B g n c j : Nat} {xs : List Tm} (h : TRow w B (.slice (some ⟨g, 0, none⟩) n c) xs) (x : Tm) (hj : j < xs.length) : TRow (w.setCells g (j * 2) (encT x)) B (.slice (some ⟨g, 0, none⟩) n c) (xs.set j x) ∧ Off (fun q => q = g) w (w.setCells g (j * 2) (encT x)) := by
  have hn := h.len
  rcases h.2 with ⟨h0, _⟩ | ⟨g', cap', cur, e, hB, hg, hc, hM, hs, ht⟩
  · cases h0
  simp only [Value.slice.injEq, Option.some.injEq, Addr.mk.injEq, and_true] at e
  obtain ⟨rfl, hnn, rfl⟩ := e
  show TRow (w.setCells g (j * 2) [.int .i64 x.1, .int .i64 (x.2 : Int)]) _ _ _ ∧ Off _ _ (w.setCells g (j * 2) [.int .i64 x.1, .int .i64 (x.2 : Int)])
  rw [setCells2]
  have h1 := heap_set (j := j * 2) (u := .int .i64 x.1) hg
  have h2 := heap_set (j := j * 2 + 1) (u := .int .i64 (x.2 : Int)) h1
  have hcs : xs.length * 2 ≤ cur.size := by rw [hs]; exact Nat.mul_le_mul_right 2 hc
  refine ⟨⟨by rw [flat_len encT_len, List.length_set], Or.inr ⟨g, c, _, by rw [List.length_set, hn], hB, h2, by rw [List.length_set]; exact hc, hM, by simpa using hs, ?_⟩⟩, (((Off.refl (fun q => q = g) w).setCell (p := ⟨g, j * 2, none⟩) rfl _).setCell (p := ⟨g, j * 2 + 1, none⟩) rfl _)⟩
  rw [List.length_set]
  refine List.ext_getElem? fun q => ?_
  rw [List.getElem?_take]
  have hfl : ((xs.set j x).flatMap encT).length = xs.length * 2 := by rw [flat_len encT_len, List.length_set]
  split
  · rename_i hq
    obtain ⟨y, hy⟩ : ∃ y, (xs.set j x)[q / 2]? = some y := ⟨_, List.getElem?_eq_getElem (by rw [List.length_set]; omega)⟩
    have hgt := flat_get encT_len _ _ y (q % 2) hy (by omega)
    rw [show q / 2 * 2 + q % 2 = q by omega] at hgt
    rw [hgt, Array.getElem?_toList]
    by_cases e : q / 2 = j
    · subst e
      rw [List.getElem?_set_self hj] at hy
      cases hy
      rcases (by omega : q % 2 = 0 ∨ q % 2 = 1) with r | r
      · rw [r, Array.getElem?_setIfInBounds_ne (by omega), show q / 2 * 2 = q by omega, Array.getElem?_setIfInBounds_self, if_pos (by omega)]
        rfl
      · rw [r, show q / 2 * 2 + 1 = q by omega, Array.getElem?_setIfInBounds_self, if_pos (by simp; omega)]
        rfl
    · rw [List.getElem?_set_ne (fun e' => e e'.symm)] at hy
      rw [Array.getElem?_setIfInBounds_ne (by omega), Array.getElem?_setIfInBounds_ne (by omega)]
      have hgt2 := flat_get encT_len _ _ y (q % 2) hy (by omega)
      rw [show q / 2 * 2 + q % 2 = q by omega, ← ht, List.getElem?_take, if_pos hq, Array.getElem?_toList] at hgt2
      exact hgt2
  · rename_i hq
    rw [List.getElem?_eq_none (by rw [hfl]; omega)]
theorem upd_upd {β : Type} (f : Nat → β) (i : Nat) (a b : β) : upd (upd f i a) i b = upd f i b := by
  funext j
  unfold upd
  split <;> rfl
section
variable {w w' : World} {B T M now n : Nat} {v : Nat → Value} {L : Nat → List Tm} {f : Int → Option (Nat × Nat)}
/-- A list's own cells are turned. -/
theorem Tms.setRow (h : Tms w B T M now v L f n) {i : Nat} (hi : i < 448) {xs : List Tm} (o : Off (fun q => (v i).ownBlock = some q) w w') (hr : TRow w' B (v i) xs) : Tms w' B T M now v (upd L i xs) f n := by
  refine ⟨h.lo, h.tb.keep (o.block T h.tb.lt (fun e => (h.neL hi e).1 rfl)), fun j hj => ?_, h.inj, h.mp.keep (o.block M h.mp.lt (fun e => (h.neL hi e).2 rfl))⟩
  by_cases e : j = i
  · subst e; rw [upd_same]; exact hr
  · rw [upd_other _ _ e]
    exact (h.row j hj).off o (fun g e1 e2 => e (h.inj j i g hj hi e1 e2))
set_option maxHeartbeats 1000000 in
theorem remove_no (h : Tms w B T M now v L f n) {k : Int} (hk : KeyI k) (hf : f k = none) : Calls Tryd.prog 31 #[.pointer (some ⟨T, 0, none⟩), .int .i64 k] w fun e w' => e = .returned (.bool false) ∧ Below w.heap.size w w' := by
  have c := h.tb.cm
  have hl := h.mp.look_no hk hf
  have hb : ∀ o, Below w.heap.size w (w.alloc o) := fun o => (Below.refl _ _).alloc (Nat.le_refl _) _
  go_enter Tryd.func31, Tryd.ntmps31
  go_wp2
  go_ret
  exact ⟨rfl, hb _⟩
end
/-- How remove leaves the timers (i: the list, j: the place, x: the list's last one). -/
def RemQ (w : World) (B T M now : Nat) (v : Nat → Value) (L : Nat → List Tm) (f : Int → Option (Nat × Nat)) (n : Nat) (k : Int) (i j : Nat) (x : Tm) (w' : World) : Prop :=
  ∃ u, Tms w' B T M now (upd v i u) (upd L i (((L i).set j x).take ((L i).length - 1))) (updF (updF f x.1 (some (i, j))) k none) (n - 1) ∧ Off (Ft T M v) w w' ∧ ∀ q, u.ownBlock = some q → Ft T M v q
section
variable {w : World} {B T M now n : Nat} {v : Nat → Value} {L : Nat → List Tm} {f : Int → Option (Nat × Nat)}
set_option maxRecDepth 100000 in
set_option maxHeartbeats 4000000 in
theorem remove_yes (h : Tms w B T M now v L f n) {k : Int} {l s j m : Nat} {x : Tm} (hk : KeyI k) (hkx : KeyI x.1) (hl : l < 7) (hs : s < 64) (hf : f k = some (64 * l + s, j)) (hfx : (f x.1).isSome = true) (hm : (L (64 * l + s)).length = m + 1) (hx : (L (64 * l + s))[m]? = some x) (hj : j < m + 1) (hml : m < 1000000) (hn : n < 1000000000) :
    Calls Tryd.prog 31 #[.pointer (some ⟨T, 0, none⟩), .int .i64 k] w fun e w' => e = .returned (.bool true) ∧ RemQ w B T M now v L f n k (64 * l + s) j x w' := by
  have hlk := h.mp.look_yes hk hf
  rw [plV_ls hs] at hlk
  have hi : 64 * l + s < 448 := by omega
  have hr := h.row _ hi
  obtain ⟨a, cp, hv, hsome, _⟩ := hr.isSlice
  obtain ⟨g, rfl⟩ := hsome (by omega)
  rw [hm] at hv
  have HT : Hid (Tms w B T M now v L f n) := h
  have c := h.tb.cm
  have hT := h.tb.lt
  have hl6 : (l : Int) < 7 := by omega
  have hs6 : (s : Int) < 64 := by omega
  have hbx : ∀ o, (w.alloc (.cells #[.int .i64 (l : Int), .int .i64 (s : Int), .int .i64 (j : Int)] 121)).cell? ⟨w.heap.size, o, none⟩ = (#[.int .i64 (l : Int), .int .i64 (s : Int), .int .i64 (j : Int)] : Array Value)[o]? := fun o => cell_new _ _ _ o
  have HFK : Hid ((f k).isSome = true) := by rw [hf]; rfl
  clear h hr hf
  go_enter Tryd.func31, Tryd.ntmps31
  go_wp2_with fail
  go_quiet (fail)
  obtain ⟨x1, x2⟩ := x
  simp only at hkx hfx
  have HW : Hid (Tms ((w.alloc (.cells #[.int .i64 (l : Int), .int .i64 (s : Int), .int .i64 (j : Int)] 121)).drewN nq) B T M now v L f n ∧ Off (fun _ => False) w ((w.alloc (.cells #[.int .i64 (l : Int), .int .i64 (s : Int), .int .i64 (j : Int)] 121)).drewN nq) ∧ ∀ o, ((w.alloc (.cells #[.int .i64 (l : Int), .int .i64 (s : Int), .int .i64 (j : Int)] 121)).drewN nq).cell? ⟨w.heap.size, o, none⟩ = (#[.int .i64 (l : Int), .int .i64 (s : Int), .int .i64 (j : Int)] : Array Value)[o]?) := ⟨(HT.out.below ((Below.refl _ _).alloc (Nat.le_refl _) _)).drewN nq, ((Off.refl _ _).alloc _).drewN nq, hbx⟩
  generalize (w.alloc (.cells #[.int .i64 (l : Int), .int .i64 (s : Int), .int .i64 (j : Int)] 121)).drewN nq = W0 at HW ⊢
  have hr0 := HW.out.1.row _ hi
  rw [hv] at hr0
  obtain ⟨g', eg, hg, hcx⟩ := hr0.at_ encT_len hx
  obtain rfl : g = g' := by simpa using eg
  have cl : W0.cell? ⟨T, 1 + l * 64 + s, none⟩ = some (.slice (some ⟨g, 0, none⟩) (m + 1) cp) := by
    rw [show 1 + l * 64 + s = 1 + (64 * l + s) by omega, ← hv]; exact HW.out.1.tb.cl hi
  have cx0 : W0.cell? ⟨g, m * 2, none⟩ = some (.int .i64 x1) := hcx 0 (by omega)
  have cx1 : W0.cell? ⟨g, m * 2 + 1, none⟩ = some (.int .i64 (x2 : Int)) := hcx 1 (by omega)
  clear hcx eg c hlk hbx
  go_wp2_with fail
  have hgT : g ≠ T := (HW.out.1.neL hi (by rw [hv]; rfl)).1
  have hgM : g ≠ M := (HW.out.1.neL hi (by rw [hv]; rfl)).2
  have hw0 : w.heap.size < W0.heap.size := cell_lt (HW.out.2.2 0)
  have hgw : g < w.heap.size := by
    have hr := HT.out.row _ hi
    rw [hv] at hr
    exact (hr.lt (g := g) rfl).2
  have hMw := HT.out.mp.lt
  have H1 : Hid (Tms (W0.alloc (.cells #[.int .i64 x1, .int .i64 (x2 : Int)] 68)) B T M now v L f n ∧ Off (fun _ => False) w (W0.alloc (.cells #[.int .i64 x1, .int .i64 (x2 : Int)] 68)) ∧ (∀ o, (W0.alloc (.cells #[.int .i64 x1, .int .i64 (x2 : Int)] 68)).cell? ⟨w.heap.size, o, none⟩ = (#[.int .i64 (l : Int), .int .i64 (s : Int), .int .i64 (j : Int)] : Array Value)[o]?) ∧ (∀ o, (W0.alloc (.cells #[.int .i64 x1, .int .i64 (x2 : Int)] 68)).cell? ⟨W0.heap.size, o, none⟩ = (#[.int .i64 x1, .int .i64 (x2 : Int)] : Array Value)[o]?) ∧ W0.heap.size < (W0.alloc (.cells #[.int .i64 x1, .int .i64 (x2 : Int)] 68)).heap.size) := ⟨HW.out.1.below ((Below.refl _ _).alloc (Nat.le_refl _) _), HW.out.2.1.alloc _, fun o => by rw [World.cell?_alloc_lt _ _ ⟨w.heap.size, o, none⟩ hw0]; exact HW.out.2.2 o, fun o => cell_new _ _ _ o, by simp⟩
  obtain ⟨N1, hN1⟩ : ∃ q, W0.heap.size = q := ⟨_, rfl⟩
  rw [hN1] at H1 hw0
  generalize W0.alloc (.cells #[.int .i64 x1, .int .i64 (x2 : Int)] 68) = W1 at H1 ⊢
  rw [hN1]
  clear hr0 cl cx0 cx1 HW
  have hr1 := H1.out.1.row _ hi
  rw [hv] at hr1
  have cl1 : W1.cell? ⟨T, 1 + l * 64 + s, none⟩ = some (.slice (some ⟨g, 0, none⟩) (m + 1) cp) := by
    rw [show 1 + l * 64 + s = 1 + (64 * l + s) by omega, ← hv]; exact H1.out.1.tb.cl hi
  have p2 : W1.cell? ⟨w.heap.size, 2, none⟩ = some (.int .i64 (j : Int)) := H1.out.2.2.1 2
  have m0 : W1.cell? ⟨N1, 0, none⟩ = some (.int .i64 x1) := H1.out.2.2.2.1 0
  have m1 : W1.cell? ⟨N1, 1, none⟩ = some (.int .i64 (x2 : Int)) := H1.out.2.2.2.1 1
  obtain ⟨y, hy⟩ : ∃ y, (L (64 * l + s))[j]? = some y := ⟨_, List.getElem?_eq_getElem (by omega)⟩
  obtain ⟨y1, y2⟩ := y
  obtain ⟨g', eg, _, hcy⟩ := hr1.at_ encT_len hy
  obtain rfl : g = g' := by simpa using eg
  have cy0 : W1.cell? ⟨g, j * 2, none⟩ = some (.int .i64 y1) := hcy 0 (by omega)
  have cy1 : W1.cell? ⟨g, j * 2 + 1, none⟩ = some (.int .i64 (y2 : Int)) := hcy 1 (by omega)
  have fy0 : W1.frozen? ⟨g, j * 2, none⟩ = false := hr1.thaw _
  have fy1 : W1.frozen? ⟨g, j * 2 + 1, none⟩ = false := hr1.thaw _
  have hjm : (j : Int) < (m : Int) + 1 := by omega
  clear hcy eg
  go_wp2_with fail
  go_region
  go_wp2_with fail
  have H2 : Hid (Tms ((W1.setCell ⟨g, j * 2, none⟩ (.int .i64 x1)).setCell ⟨g, j * 2 + 1, none⟩ (.int .i64 (x2 : Int))).drew B T M now v (upd L (64 * l + s) ((L (64 * l + s)).set j (x1, x2))) f n ∧ Off (Ft T M v) w ((W1.setCell ⟨g, j * 2, none⟩ (.int .i64 x1)).setCell ⟨g, j * 2 + 1, none⟩ (.int .i64 (x2 : Int))).drew ∧ (∀ o, ((W1.setCell ⟨g, j * 2, none⟩ (.int .i64 x1)).setCell ⟨g, j * 2 + 1, none⟩ (.int .i64 (x2 : Int))).drew.cell? ⟨w.heap.size, o, none⟩ = (#[.int .i64 (l : Int), .int .i64 (s : Int), .int .i64 (j : Int)] : Array Value)[o]?) ∧ (∀ o, ((W1.setCell ⟨g, j * 2, none⟩ (.int .i64 x1)).setCell ⟨g, j * 2 + 1, none⟩ (.int .i64 (x2 : Int))).drew.cell? ⟨N1, o, none⟩ = (#[.int .i64 x1, .int .i64 (x2 : Int)] : Array Value)[o]?) ∧ N1 < ((W1.setCell ⟨g, j * 2, none⟩ (.int .i64 x1)).setCell ⟨g, j * 2 + 1, none⟩ (.int .i64 (x2 : Int))).drew.heap.size) := by
    obtain ⟨r2, o2⟩ := hr1.setAt (x1, x2) (by omega : j < (L (64 * l + s)).length)
    have o3 : Off (fun q => (v (64 * l + s)).ownBlock = some q) W1 (W1.setCells g (j * 2) (encT (x1, x2))) := o2.mono fun q e => by rw [hv, e]; rfl
    have o4 : Off (fun q => q = g) W1 ((W1.setCell ⟨g, j * 2, none⟩ (.int .i64 x1)).setCell ⟨g, j * 2 + 1, none⟩ (.int .i64 (x2 : Int))).drew := o2.drew
    have hN : N1 < W1.heap.size := H1.out.2.2.2.2
    refine ⟨(H1.out.1.setRow hi o3 (by rw [hv]; exact r2)).drewN 1, (H1.out.2.1.mono (fun _ e => e.elim)).trans (o4.mono fun q e => Or.inr (Or.inr ⟨_, hi, by rw [hv, e]; rfl⟩)), fun o => ?_, fun o => ?_, Nat.lt_of_lt_of_le hN o4.size⟩
    · rw [o4.cell (p := ⟨w.heap.size, o, none⟩) (by show w.heap.size < W1.heap.size; omega) (by show ¬ w.heap.size = g; omega)]; exact H1.out.2.2.1 o
    · rw [o4.cell (p := ⟨N1, o, none⟩) hN (by show ¬ N1 = g; omega)]; exact H1.out.2.2.2.1 o
  generalize ((W1.setCell ⟨g, j * 2, none⟩ (.int .i64 x1)).setCell ⟨g, j * 2 + 1, none⟩ (.int .i64 (x2 : Int))).drew = W2 at H2 ⊢
  clear hr1 cl1 p2 m0 m1 cy0 cy1 fy0 fy1 H1
  obtain ⟨W3, hst, hm3, o3⟩ := (H2.out.1.drewN 1).mp.store hn hkx (64 * l + s, j)
  rw [plV_ls hs, ← World.drew_is_drewN] at hst
  rw [hfx] at hm3
  have H3 : Hid (Tms W3 B T M now v (upd L (64 * l + s) ((L (64 * l + s)).set j (x1, x2))) (updF f x1 (some (64 * l + s, j))) n ∧ Off (Ft T M v) w W3 ∧ (∀ o, W3.cell? ⟨w.heap.size, o, none⟩ = (#[.int .i64 (l : Int), .int .i64 (s : Int), .int .i64 (j : Int)] : Array Value)[o]?) ∧ ∀ o, W3.cell? ⟨N1, o, none⟩ = (#[.int .i64 x1, .int .i64 (x2 : Int)] : Array Value)[o]?) := by
    have hN : N1 < W2.heap.size := H2.out.2.2.2.2
    refine ⟨(H2.out.1.drewN 1).setMap o3 hm3, H2.out.2.1.trans (((Off.refl _ _).drewN 1).trans (o3.mono fun q e => Or.inr (Or.inl e))), fun o => ?_, fun o => ?_⟩
    · rw [o3.cell (p := ⟨w.heap.size, o, none⟩) (by show w.heap.size < W2.heap.size; omega) (by show ¬ w.heap.size = M; omega)]; exact H2.out.2.2.1 o
    · rw [o3.cell (p := ⟨N1, o, none⟩) hN (by show ¬ N1 = M; omega)]; exact H2.out.2.2.2.1 o
  have cm2 := H2.out.1.tb.cm
  have p0 : W2.cell? ⟨w.heap.size, 0, none⟩ = some (.int .i64 (l : Int)) := H2.out.2.2.1 0
  have p1 : W2.cell? ⟨w.heap.size, 1, none⟩ = some (.int .i64 (s : Int)) := H2.out.2.2.1 1
  have p2 : W2.cell? ⟨w.heap.size, 2, none⟩ = some (.int .i64 (j : Int)) := H2.out.2.2.1 2
  have m0 : W2.cell? ⟨N1, 0, none⟩ = some (.int .i64 x1) := H2.out.2.2.2.1 0
  have cm3 := H3.out.1.tb.cm
  have q0 : W3.cell? ⟨w.heap.size, 0, none⟩ = some (.int .i64 (l : Int)) := H3.out.2.2.1 0
  have q1 : W3.cell? ⟨w.heap.size, 1, none⟩ = some (.int .i64 (s : Int)) := H3.out.2.2.1 1
  have q2 : W3.cell? ⟨w.heap.size, 2, none⟩ = some (.int .i64 (j : Int)) := H3.out.2.2.1 2
  have n0 : W3.cell? ⟨N1, 0, none⟩ = some (.int .i64 x1) := H3.out.2.2.2 0
  clear hm3 o3
  go_region_held3 (fun z => z.cell? ⟨T, 449, none⟩ = some (.map (some M)) ∧ z.cell? ⟨w.heap.size, 0, none⟩ = some (.int .i64 (l : Int)) ∧ z.cell? ⟨w.heap.size, 1, none⟩ = some (.int .i64 (s : Int)) ∧ z.cell? ⟨w.heap.size, 2, none⟩ = some (.int .i64 (j : Int)) ∧ z.cell? ⟨N1, 0, none⟩ = some (.int .i64 x1)) (simp [*]) (first | (refine step_upd_run rfl (.tmp 51) (.tmp 53) (.tmp 54) 48 rfl rfl rfl rfl hst ?_))
  clear hst cm2 p0 p1 p2 m0 q0 q1 q2 n0 H2
  obtain ⟨W4, hdr, hm4, o4⟩ := H3.out.1.mp.drop hk 0
  have hf4 : (updF f x1 (some (64 * l + s, j)) k).isSome = true := by
    unfold updF
    split
    · rfl
    · exact HFK.out
  rw [hf4] at hm4
  have H4 : Hid (Tms W4 B T M now v (upd L (64 * l + s) ((L (64 * l + s)).set j (x1, x2))) (updF (updF f x1 (some (64 * l + s, j))) k none) (n - 1) ∧ Off (Ft T M v) w W4) := ⟨H3.out.1.setMap o4 hm4, H3.out.2.1.trans (o4.mono fun q e => Or.inr (Or.inl e))⟩
  have cl4 : W4.cell? ⟨T, 1 + l * 64 + s, none⟩ = some (.slice (some ⟨g, 0, none⟩) (m + 1) cp) := by
    rw [show 1 + l * 64 + s = 1 + (64 * l + s) by omega, ← hv]; exact H4.out.1.tb.cl hi
  have hr4 := H4.out.1.row _ hi
  rw [upd_same, hv] at hr4
  have HD : Hid (Calls Tryd.prog 48 #[.slice (some ⟨g, 0, none⟩) (m + 1) cp, .int .i64 (m : Int), .int .i64 ((m : Int) + 1)] W4 fun e w' => e = .returned (.slice (some ⟨g, 0, none⟩) m cp) ∧ TRow w' B (.slice (some ⟨g, 0, none⟩) m cp) (((L (64 * l + s)).set j (x1, x2)).take m) ∧ Off (fun q => q = g) W4 w') := delete_last hr4 hml
  clear hm4 o4 H3 hr4
  go_wp2_with (at_delete; refine wpList_del_run rfl (.tmp 58) (.tmp 59) 48 3 rfl rfl rfl hdr ?_)
  refine HD.out.mono ?_
  rintro _ W5 ⟨rfl, r5, o5⟩
  have o6 : Off (fun q => (v (64 * l + s)).ownBlock = some q) W4 W5 := o5.mono fun q e => by rw [hv, e]; rfl
  have hT5 : W5.heap[T]? = W4.heap[T]? := o6.block T H4.out.1.tb.lt (fun e => (H4.out.1.neL hi e).1 rfl)
  have htb5 := H4.out.1.tb.keep hT5
  have cl5 : W5.cell? ⟨T, 1 + l * 64 + s, none⟩ = some (.slice (some ⟨g, 0, none⟩) (m + 1) cp) := by
    rw [show 1 + l * 64 + s = 1 + (64 * l + s) by omega, ← hv]; exact htb5.cl hi
  have fl5 : W5.frozen? ⟨T, 1 + l * 64 + s, none⟩ = false := htb5.fr _
  have HZ : Hid (RemQ w B T M now v L f n k (64 * l + s) j (x1, x2) (W5.setCell ⟨T, 1 + l * 64 + s, none⟩ (.slice (some ⟨g, 0, none⟩) m cp))) := by
    rw [show 1 + l * 64 + s = 1 + (64 * l + s) by omega]
    refine ⟨.slice (some ⟨g, 0, none⟩) m cp, ?_, ?_, fun q e => ?_⟩
    · have h9 := H4.out.1.setList hi o6 r5 (Or.inr (Or.inl (by rw [hv]; rfl)))
      rw [upd_upd] at h9
      rw [hm]
      exact h9
    · exact (H4.out.2.trans (o6.mono fun q e => Or.inr (Or.inr ⟨_, hi, e⟩))).setCell (p := ⟨T, 1 + (64 * l + s), none⟩) (Or.inl rfl) _
    · exact Or.inr (Or.inr ⟨_, hi, by rw [hv]; exact e⟩)
  clear r5 o5 o6 hT5 htb5 H4 HD
  go_wp2_with fail
  go_ret
  exact ⟨rfl, HZ.out⟩
end
end Go.Proofs.YtdglnobapnohmaaDoor
