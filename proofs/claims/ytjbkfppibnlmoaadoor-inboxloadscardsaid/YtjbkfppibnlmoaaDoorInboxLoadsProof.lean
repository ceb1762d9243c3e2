import Derived.Test.YtjbkfppibnlmoaaDoorSsAlw
import Derived.Test.YtjbkfppibnlmoaaDoorLeaf
import Derived.Test.YtjbkfppibnlmoaaDoorIlLd
import Derived.Test.YtjbkfppibnlmoaaDoorIbOpn
import Derived.Carry
/-
  The strong pair out of a pair whose book is empty, and back.
-/
namespace Go.Proofs.YtjbkfppibnlmoaaDoor
open Go.RowKit

section
variable {W w w' : World} {X K n m : Nat} {bv mk ke rm L v : Value} {o : Option (Int × Int)} {A A' : List Ent} {τ : Nat → Nat}
/-- The block's type. -/
def Ty (w : World) (q : Nat) (t : TypeId) : Prop := ∃ cs, w.heap[q]? = some (.cells cs t (0, 0))
theorem Ty.ne {q r : Nat} {t s : TypeId} (h : Ty w q t) (g : Ty w r s) (hn : t ≠ s) : q ≠ r := fun e => by
  subst e
  obtain ⟨cs, h⟩ := h
  obtain ⟨cs', g⟩ := g
  rw [h] at g
  simp only [Option.some.injEq, Obj.cells.injEq] at g
  exact hn g.2.1
theorem Ty.lt {q : Nat} {t : TypeId} (h : Ty w q t) : q < w.heap.size := by
  obtain ⟨cs, h⟩ := h
  exact blk_lt h
open Classical in
noncomputable def tauS (F : Nat → Prop) (X K : Nat) (v6 v7 v0 v1 v4 v5 : Value) (q : Nat) : Nat := if F q then 4 else if q = X ∨ v6.ownBlock = some q ∨ v7.ownBlock = some q then 5 else if q = K ∨ v0.ownBlock = some q ∨ v1.ownBlock = some q ∨ v4.ownBlock = some q ∨ v5.ownBlock = some q then 1 else 0
open Classical in
noncomputable def rhoS (K : Nat) (v0 v1 : Value) (q : Nat) : Nat := if q = K then 1 else if v0.ownBlock = some q then 2 else if v1.ownBlock = some q then 3 else 0
theorem rhoS_cases (K : Nat) (v0 v1 : Value) (q : Nat) : (q = K ∧ rhoS K v0 v1 q = 1) ∨ (q ≠ K ∧ v0.ownBlock = some q ∧ rhoS K v0 v1 q = 2) ∨ (q ≠ K ∧ v0.ownBlock ≠ some q ∧ v1.ownBlock = some q ∧ rhoS K v0 v1 q = 3) ∨ (q ≠ K ∧ v0.ownBlock ≠ some q ∧ v1.ownBlock ≠ some q ∧ rhoS K v0 v1 q = 0) := by
  unfold rhoS
  by_cases h1 : q = K
  · exact Or.inl ⟨h1, if_pos h1⟩
  · by_cases h2 : v0.ownBlock = some q
    · exact Or.inr (Or.inl ⟨h1, h2, by rw [if_neg h1, if_pos h2]⟩)
    · by_cases h3 : v1.ownBlock = some q
      · exact Or.inr (Or.inr (Or.inl ⟨h1, h2, h3, by rw [if_neg h1, if_neg h2, if_pos h3]⟩))
      · exact Or.inr (Or.inr (Or.inr ⟨h1, h2, h3, by rw [if_neg h1, if_neg h2, if_neg h3]⟩))
theorem ls_ss (h : LS W X K bv mk ke rm L 0 0 0 o A A' 0 w) : ∃ τ, SS W X K bv mk ke rm L o A A' τ 0 0 w := by
  obtain ⟨v0, v1, v4, v5, v6, v7, x0, x1, x4, x5, x6, x7, hX, hK, ⟨a0, a1, a2, a3, a4⟩, ⟨b0, b1, b2, b3, b4⟩, ⟨c0, c1, c2, c3, c4⟩⟩ := h.ex
  obtain rfl : x0 = [] := List.eq_nil_of_length_eq_zero (by omega)
  obtain rfl : x1 = [] := List.eq_nil_of_length_eq_zero (by omega)
  obtain rfl : x4 = [] := List.eq_nil_of_length_eq_zero (by omega)
  obtain rfl : x5 = [] := List.eq_nil_of_length_eq_zero (by omega)
  obtain rfl : x6 = [] := List.eq_nil_of_length_eq_zero (by omega)
  obtain rfl : x7 = [] := List.eq_nil_of_length_eq_zero (by omega)
  obtain ⟨F, f1, f2⟩ := S4.start h.sd
  have tX : Ty w X 52 := ⟨_, hX⟩
  have tK : Ty w K 49 := ⟨_, hK⟩
  have t0 : ∀ q, v0.ownBlock = some q → Ty w q 28 := fun q hq => erow_type a0 hq
  have t1 : ∀ q, v1.ownBlock = some q → Ty w q 28 := fun q hq => erow_type a1 hq
  have t4 : ∀ q, v4.ownBlock = some q → Ty w q 56 := fun q hq => erow_type b0 hq
  have t5 : ∀ q, v5.ownBlock = some q → Ty w q 56 := fun q hq => erow_type b1 hq
  have t6 : ∀ q, v6.ownBlock = some q → Ty w q 22 := fun q hq => erow_type c0 hq
  have t7 : ∀ q, v7.ownBlock = some q → Ty w q 22 := fun q hq => erow_type c1 hq
  have nF : ∀ {q t}, Ty w q t → LTy t → ¬ F q := fun {q t} ⟨cs, hc⟩ ht hf => (f1 q hf).2.2 cs t hc ht
  have lX : LTy 52 := Or.inl rfl
  have lK : LTy 49 := Or.inr (Or.inl rfl)
  have lb : LTy 28 := Or.inr (Or.inr (Or.inl rfl))
  have ls : LTy 56 := Or.inr (Or.inr (Or.inr (Or.inl rfl)))
  have le : LTy 22 := Or.inr (Or.inr (Or.inr (Or.inr rfl)))
  obtain ⟨τ, hτ⟩ : ∃ τ, τ = tauS F X K v6 v7 v0 v1 v4 v5 := ⟨_, rfl⟩
  have e4 : ∀ q, F q → τ q = 4 := fun q hq => by rw [hτ]; unfold tauS; rw [if_pos hq]
  have e5 : ∀ q, q = X ∨ v6.ownBlock = some q ∨ v7.ownBlock = some q → τ q = 5 := fun q hq => by
    have : ¬ F q := by
      rcases hq with rfl | e | e
      · exact nF tX lX
      · exact nF (t6 q e) le
      · exact nF (t7 q e) le
    rw [hτ]; unfold tauS; rw [if_neg this, if_pos hq]
  have e1 : ∀ q, q = K ∨ v0.ownBlock = some q ∨ v1.ownBlock = some q ∨ v4.ownBlock = some q ∨ v5.ownBlock = some q → τ q = 1 := fun q hq => by
    have hty : ∃ t, Ty w q t ∧ LTy t ∧ t ≠ 52 ∧ t ≠ 22 := by
      rcases hq with rfl | e | e | e | e
      · exact ⟨_, tK, lK, by decide, by decide⟩
      · exact ⟨_, t0 q e, lb, by decide, by decide⟩
      · exact ⟨_, t1 q e, lb, by decide, by decide⟩
      · exact ⟨_, t4 q e, ls, by decide, by decide⟩
      · exact ⟨_, t5 q e, ls, by decide, by decide⟩
    obtain ⟨t, k1, k2, k3, k4⟩ := hty
    rw [hτ]; unfold tauS
    rw [if_neg (nF k1 k2), if_neg, if_pos hq]
    rintro (e | e | e)
    · exact k1.ne tX k3 e
    · exact k1.ne (t6 q e) k4 rfl
    · exact k1.ne (t7 q e) k4 rfl
  have e0 : ∀ q, τ q ≠ 0 → W.heap.size ≤ q ∧ q < w.heap.size := fun q hq => by
    by_cases z4 : F q
    · exact ⟨(f1 q z4).1, (f1 q z4).2.1⟩
    by_cases z5 : q = X ∨ v6.ownBlock = some q ∨ v7.ownBlock = some q
    · rcases z5 with rfl | e | e
      · exact ⟨h.lX, blk_lt hX⟩
      · exact ERow.lt c0 e
      · exact ERow.lt c1 e
    by_cases z1 : q = K ∨ v0.ownBlock = some q ∨ v1.ownBlock = some q ∨ v4.ownBlock = some q ∨ v5.ownBlock = some q
    · rcases z1 with rfl | e | e | e | e
      · exact ⟨h.lK, blk_lt hK⟩
      · exact ERow.lt a0 e
      · exact ERow.lt a1 e
      · exact ERow.lt b0 e
      · exact ERow.lt b1 e
    rw [hτ] at hq
    unfold tauS at hq
    rw [if_neg z4, if_neg z5, if_neg z1] at hq
    exact absurd rfl hq
  have ro : ∀ (u0 u1 : Value), (∀ q, u0.ownBlock = some q ∨ u1.ownBlock = some q → τ q = 1) → RoB (rhoS K u0 u1) τ := fun u0 u1 hu q => by
    rcases rhoS_cases K u0 u1 q with ⟨e, r⟩ | ⟨_, e, r⟩ | ⟨_, _, e, r⟩ | ⟨_, _, _, r⟩
    · rw [r, e1 q (Or.inl e)]; exact ⟨fun _ => rfl, fun _ => Or.inl rfl⟩
    · rw [r, hu q (Or.inl e)]; exact ⟨fun _ => rfl, fun _ => Or.inl rfl⟩
    · rw [r, hu q (Or.inr e)]; exact ⟨fun _ => rfl, fun _ => Or.inl rfl⟩
    · rw [r]; exact ⟨fun h => by omega, fun h => absurd rfl h⟩
  have rB := rhoS_cases K v0 v1
  have rT := rhoS_cases K v4 v5
  refine ⟨τ, ⟨⟨v6, v7, [], rhoS K v0 v1, rhoS K v4 v5, [], [], hX, ⟨⟨v0, v1, v4, v5, ?_, ?_⟩, fun k hk => ?_⟩, ⟨fun i e he => (by simp at he), Nat.le_refl _⟩, ⟨fun i e he => (by simp at he), Nat.le_refl _⟩, ro v0 v1 fun q hq => e1 q (by rcases hq with e | e <;> simp [e]), ro v4 v5 fun q hq => e1 q (by rcases hq with e | e <;> simp [e]), ⟨c0, c1, c2, fun q hq => e5 q (Or.inr hq), Nat.le_refl _⟩, fun i g hg => (by simp at hg)⟩, e5 X (Or.inl rfl), fun q hq => ?_, fun q hq => (e0 q hq).1, f2 τ e4, h.bel, h.lX⟩⟩
  · refine ⟨hcell hK 0, hcell hK 1, hcell hK 2, hcell hK 3, hcell hK 4, hcell hK 5, fun q => hfroz hK q, h.bel.size, a0, a1, fun i e he => (by simp at he), fun i e he => (by simp at he), ?_, fun g hg => ?_, fun g hg => ?_, fun i e he => (by simp at he), fun i e he => (by simp at he), fun g hg => ?_⟩
    · rcases rB K with ⟨_, r⟩ | ⟨e, _⟩ | ⟨e, _⟩ | ⟨e, _⟩
      · exact r
      · exact absurd rfl e
      · exact absurd rfl e
      · exact absurd rfl e
    · rcases rB g with ⟨e, _⟩ | ⟨_, _, r⟩ | ⟨_, e, _⟩ | ⟨_, e, _⟩
      · exact absurd e ((t0 g hg).ne tK (by decide))
      · exact r
      · exact absurd hg e
      · exact absurd hg e
    · rcases rB g with ⟨e, _⟩ | ⟨_, e, _⟩ | ⟨_, _, _, r⟩ | ⟨_, _, e, _⟩
      · exact absurd e ((t1 g hg).ne tK (by decide))
      · exact absurd hg (a2 g e)
      · exact r
      · exact absurd hg e
    · rcases rB g with ⟨e, _⟩ | ⟨_, e, _⟩ | ⟨_, _, e, _⟩ | ⟨_, _, _, r⟩
      · have := tK.lt; omega
      · have := (t0 g e).lt; omega
      · have := (t1 g e).lt; omega
      · exact r
  · refine ⟨hcell hK 0, hcell hK 1, hcell hK 2, hcell hK 3, hcell hK 4, hcell hK 5, fun q => hfroz hK q, h.bel.size, b0, b1, fun i e he => (by simp at he), fun i e he => (by simp at he), ?_, fun g hg => ?_, fun g hg => ?_, fun i e he => (by simp at he), fun i e he => (by simp at he), fun g hg => ?_⟩
    · rcases rT K with ⟨_, r⟩ | ⟨e, _⟩ | ⟨e, _⟩ | ⟨e, _⟩
      · exact r
      · exact absurd rfl e
      · exact absurd rfl e
      · exact absurd rfl e
    · rcases rT g with ⟨e, _⟩ | ⟨_, _, r⟩ | ⟨_, e, _⟩ | ⟨_, e, _⟩
      · exact absurd e ((t4 g hg).ne tK (by decide))
      · exact r
      · exact absurd hg e
      · exact absurd hg e
    · rcases rT g with ⟨e, _⟩ | ⟨_, e, _⟩ | ⟨_, _, _, r⟩ | ⟨_, _, e, _⟩
      · exact absurd e ((t5 g hg).ne tK (by decide))
      · exact absurd hg (b2 g e)
      · exact r
      · exact absurd hg e
    · rcases rT g with ⟨e, _⟩ | ⟨_, e, _⟩ | ⟨_, _, e, _⟩ | ⟨_, _, _, r⟩
      · have := tK.lt; omega
      · have := (t4 g e).lt; omega
      · have := (t5 g e).lt; omega
      · exact r
  · rcases rB k with ⟨e, _⟩ | ⟨_, e, _⟩ | ⟨_, _, e, _⟩ | ⟨_, _, _, r⟩
    · exact absurd e hk
    · right
      rcases rT k with ⟨e', _⟩ | ⟨_, e', _⟩ | ⟨_, _, e', _⟩ | ⟨_, _, _, r⟩
      · exact absurd e' hk
      · exact absurd rfl ((t0 k e).ne (t4 k e') (by decide))
      · exact absurd rfl ((t0 k e).ne (t5 k e') (by decide))
      · exact r
    · right
      rcases rT k with ⟨e', _⟩ | ⟨_, e', _⟩ | ⟨_, _, e', _⟩ | ⟨_, _, _, r⟩
      · exact absurd e' hk
      · exact absurd rfl ((t1 k e).ne (t4 k e') (by decide))
      · exact absurd rfl ((t1 k e).ne (t5 k e') (by decide))
      · exact r
    · exact Or.inl r
  · rcases Nat.eq_zero_or_pos (τ q) with g | g
    · exact g
    · have := (e0 q (by omega)).2; omega
end
set_option maxRecDepth 100000 in
set_option maxHeartbeats 4000000 in
theorem loads_law {w : World} {es : List Ent} (K R : Int) {ao : Option Addr} {n c : Nat} (hE : ErrType w) (hL : Lg.LsAt w ao n es) (hN : n ≤ 1200000000000) (hk : ∀ e ∈ es, Lg.EOk e) : Calls Tryd.prog 3 #[.int .i64 K, .int .i64 R, .slice ao n c] w fun r w' => r = .returned (.bool true) ∧ Below w.heap.size w w' := by
  have hld := Lg.loaded_any (c := c) K R hE hL hN hk
  clear hE hL hN hk
  go_enter Tryd.func3, Tryd.ntmps3
  go_wp2_with fail
  refine hld.mono ?_
  rintro _ w1 ⟨X, rfl, H1⟩
  clear hld
  have H2 : Hid (∃ Kb bv mk ke rm L o A τ, SS w X Kb bv mk ke rm L o A A τ 0 0 w1) := by
    obtain ⟨Kb, bv, mk, ke, rm, L, o, A, hl⟩ := H1.out
    obtain ⟨τ, hs⟩ := ls_ss hl
    exact ⟨Kb, bv, mk, ke, rm, L, o, A, τ, hs⟩
  clear H1
  obtain ⟨Kb, bv, mk, ke, rm, L, o, A, τ, hs⟩ := H2.out
  have hal := all_s hs (by omega) (by omega)
  clear H2 hs
  go_wp2_with fail
  refine hal.mono ?_
  rintro _ w2 ⟨rfl, H3⟩
  clear hal
  obtain ⟨τ2, hs2⟩ := H3.out.ss
  have hlo := alone_s hs2 (by omega) (by omega)
  clear H3 hs2
  go_wp2_with fail
  refine hlo.mono ?_
  rintro _ w3 ⟨rfl, H4⟩
  clear hlo
  obtain ⟨τ3, hs3, _⟩ := H4.out
  have hal := all_s hs3 (by omega) (by omega)
  clear H4 hs3
  go_wp2_with fail
  refine hal.mono ?_
  rintro _ w4 ⟨rfl, H5⟩
  have HB : Hid (Below w.heap.size w w4) := by
    obtain ⟨τ4, hs4⟩ := H5.out.ss
    exact hs4.bel
  clear hal H5
  go_wp2_with fail
  go_ret
  exact ⟨rfl, HB.out⟩
theorem loads_row (K R : Int) (ao : Option Addr) (c : Nat) (es : List Ent) (w : World) (hE : ErrType w) (hL : Lg.LsAt w ao es.length es) (hN : es.length ≤ 1200000000000) (hk : ∀ e ∈ es, Lg.EOk e) : Calls Tryd.prog 3 #[.int .i64 K, .int .i64 R, .slice ao es.length c] w fun r w' => r = .returned (.bool true) ∧ Below w.heap.size w w' := loads_law K R hE hL hN hk
end Go.Proofs.YtjbkfppibnlmoaaDoor

/-
  Arguments opened: lists of entries.
-/
namespace Go.Proofs.YtjbkfppibnlmoaaDoor.Lg
open Go.ChangeShapes Go.WideShapes Go.ChangeAt Go.RowKit Go.Deep

theorem bytesEnt : Tryd.prog.bytesOf 30 = 120 := by kernel_rfl
section
variable {H : Type} {enc : TypeId × Value → H} {W : World} {base : Nat} {spare : Nat → Bool} {held : Bool}
set_option maxRecDepth 100000 in
set_option maxHeartbeats 1000000 in
theorem open_ents {n : Nat} {cs : List Value} {x : DataW H × List MemPlace} (h : DataW.trod enc Tryd.prog W base spare held n 22 cs = some x) :
    ∃ ao cap es, cs = [.slice ao es.length cap] ∧ LsAt W ao es.length es ∧ ((∀ n ∈ x.1.weights Tryd.prog 22, n ≤ reachBytes) → es.length ≤ 1200000000000 ∧ ∀ e ∈ es, EOk e) := by
  rcases open_slice Tryd.underlying22 h with ⟨rfl, _⟩ | ⟨a, len, cap, m, n', D, Pl, rfl, _, hl, hm, hmm, hxe, hx⟩
  · exact ⟨none, 0, [], rfl, ⟨rfl, fun k x hk => (by simp at hk)⟩, fun _ => ⟨by decide, fun y hy => (by cases hy)⟩⟩
  · have hlm : len ≤ m := by rw [hmm]; split <;> omega
    have key : ∀ k, k < len → ∃ y : Ent, (∃ b off, a = ⟨b, off, none⟩ ∧ b < W.heap.size ∧ (∀ q, q < 7 → W.cell? ⟨b, off + k * 7 + q, none⟩ = (encE y)[q]?) ∧ Lies W y) ∧ ((∀ n ∈ (D k).weights Tryd.prog 30, n ≤ reachBytes) → EOk y) := by
      have hsp : 0 < len → a.spot = none := fun h0 => by
        obtain ⟨cs', h1, _⟩ := hx 0 (by omega)
        rw [Nat.zero_mul] at h1
        obtain ⟨b, o, e, _⟩ := cells_at h1 (by rw [cellsEnt]; decide)
        have : a.add 0 = a := rfl
        rw [this] at e; rw [e]
      intro k hk
      obtain ⟨b, off, sp⟩ := a
      obtain rfl : sp = none := hsp (by omega)
      obtain ⟨cs', h1, h2⟩ := hx k (by omega)
      rw [cellsEnt] at h1
      obtain ⟨b', o', e, hc⟩ := cells_at h1 (by decide)
      rw [Addr.add_lit] at e
      obtain ⟨rfl, rfl⟩ : b = b' ∧ off + k * 7 = o' := by simpa using e
      obtain ⟨y, hy, hL, hk, hp⟩ := open_entry h2
      subst hy
      have hq : ∀ q, q < 7 → W.cell? ⟨b, off + k * 7 + q, none⟩ = (encE y)[q]? := fun q hq => by
        obtain ⟨v, hv⟩ : ∃ v, (encE y)[q]? = some v := ⟨_, List.getElem?_eq_getElem (by rw [encE_len]; exact hq)⟩
        rw [hc q v hv, hv]
      exact ⟨y, ⟨b, off, rfl, cell_lt ((hq 0 (by decide)).trans rfl), hq, hL⟩, fun hw => ⟨hk, hp hw⟩⟩
    haveI : Inhabited Ent := ⟨zE⟩
    obtain ⟨Y, hY⟩ := choose_lt (α := Ent) (p := fun k y => (∃ b off, a = ⟨b, off, none⟩ ∧ b < W.heap.size ∧ (∀ q, q < 7 → W.cell? ⟨b, off + k * 7 + q, none⟩ = (encE y)[q]?) ∧ Lies W y) ∧ ((∀ n ∈ (D k).weights Tryd.prog 30, n ≤ reachBytes) → EOk y)) key
    refine ⟨some a, cap, (List.range len).map Y, by simp, ⟨rfl, fun k x hk => ?_⟩, fun hw => ⟨?_, fun y hy => ?_⟩⟩
    · simp only [List.getElem?_map, Option.map_eq_some_iff] at hk
      obtain ⟨i, hi, rfl⟩ := hk
      obtain ⟨hi1, hi2⟩ := List.getElem?_eq_some_iff.1 hi
      simp at hi1 hi2
      subst hi2
      obtain ⟨⟨b, off, e, hb, hc, hL⟩, _⟩ := hY k hi1
      exact ⟨b, off, by rw [e], hb, hc, hL⟩
    · have hw' := hw
      rw [hxe] at hw'
      simp only [DataW.weights, Tryd.underlying22] at hw'
      have h0 := hw' _ List.mem_cons_self
      rw [bytesEnt] at h0
      simp only [List.length_map, List.length_range] at h0 ⊢
      have := reachBytes_90
      omega
    · obtain ⟨i, hi, rfl⟩ := List.mem_map.1 hy
      have hy2 := (hY i (List.mem_range.1 hi)).2
      refine hy2 fun n hn => hw n ?_
      rw [hxe]
      simp only [DataW.weights, Tryd.underlying22]
      exact List.mem_cons_of_mem _ (List.mem_append_left _ (weights_mem_all (List.mem_map_of_mem hi) n hn))
end
end Go.Proofs.YtjbkfppibnlmoaaDoor.Lg

/-
  InboxLoads: the row out of its walk.
-/
namespace Go.Proofs.YtjbkfppibnlmoaaDoor.inboxLoads
open Go.ChangeShapes Go.WideShapes Go.ChangeAt Go.RowKit

theorem laidOut : laidOutB Tryd.prog = true := by kernel_rfl
theorem given {W : World} (h : laidMetH Tryd.prog Rows.inboxLoadsRow.laid W) : ErrType W := by
  have h' : laidMet Tryd.prog [] W ∧ handlesMet Tryd.prog [("errors.errorType", Rows.laid_errors_errorType)] W := h
  exact errType_of h'.2
theorem trod_block {H : Type} {enc : TypeId × Value → H} {P : Program} {W : World} {base : Nat} {spare : Nat → Bool} {held : Bool} {t : TypeId} {v : Value} {d : DataW H} {ps : List MemPlace} (h : DataW.Trod enc P W base spare held t v d ps) : ∀ x ∈ ps, x.block < W.heap.size := by
  obtain ⟨fuel, hf⟩ := h
  exact fun x hx => DataW.trod_lt _ _ _ _ hf x hx
set_option maxRecDepth 100000 in
theorem contract (H : Type) (enc : TypeId × Value → H) (W : World) (base : Nat) (args : Array Value) (ds gs : List (DataW H)) (before : List MemPlace)
    (hval : ∀ (j : Nat) t v, Tryd.f3.params[j]? = some t → args[j]? = some v → Value.okWide Tryd.prog W .any base t v)
    (hW : DataW.Whole enc Tryd.prog Tryd.f3.params.toList Rows.inboxLoadsSpec.vars false W args.toList ds gs before)
    (hWt : (DataW.weightsEach Tryd.prog (Tryd.f3.params.toList ++ (OpenSpec.ofChange Rows.inboxLoadsSpec).bare.plain.varTypes Tryd.prog) (ds ++ gs)).all (· ≤ reachBytes) = true) (hL : laidMetH Tryd.prog Rows.inboxLoadsRow.laid W) :
    Calls Tryd.prog 3 args W fun e W' => ∃ v, e = .returned v ∧ Rows.inboxLoadsSpec.post enc Tryd.prog Tryd.f3 false true false false W args v W' := by
  have hW' := hW
  obtain ⟨p, q, hA0, hV, rfl, hfz, hnd⟩ := hW
  have hA : DataW.TrodAll enc Tryd.prog W 0 (fun _ => true) true Tryd.f3.params.toList args.toList ds p := hA0
  rw [Tryd.params3] at hA hval hWt
  obtain ⟨v0, vs0, d0, ds0, p0, q0, hargs, rfl, rfl, h0, r0⟩ := trodAll_cons hA
  obtain ⟨v1, vs1, d1, ds1, p1, q1, rfl, rfl, rfl, h1, r1⟩ := trodAll_cons r0
  obtain ⟨v2, vs2, d2, ds2, p2, q2, rfl, rfl, rfl, h2, r2⟩ := trodAll_cons r1
  obtain ⟨rfl, rfl, rfl⟩ := trodAll_nil r2
  obtain rfl : args = #[v0, v1, v2] := by cases args; simp_all
  obtain ⟨rfl, rfl⟩ := trodVars_none hV
  have ht0 := h0
  obtain ⟨n0, rfl, _, _, _⟩ := open_int Tryd.underlying3 (hval 0 3 v0 rfl rfl) h0
  have ht1 := h1
  obtain ⟨n1, rfl, _, _, _⟩ := open_int Tryd.underlying3 (hval 1 3 v1 rfl rfl) h1
  have ht2 := h2
  obtain ⟨a2, l2, c2, rfl⟩ := okWide_slice Tryd.underlying22 (hval 2 22 v2 rfl rfl)
  obtain ⟨fu2, hf2⟩ := h2
  obtain ⟨ao2, cap2, xs2, e2, hO2, hp2⟩ := Lg.open_ents hf2
  obtain ⟨rfl, rfl, rfl⟩ : a2 = ao2 ∧ l2 = xs2.length ∧ c2 = cap2 := by simpa [Value.cells] using e2
  have hy2 := hp2 fun n hn => by simpa using List.all_eq_true.1 hWt n (DataW.weights_mem_each (j := 2) rfl rfl n hn)
  clear hA0
  refine (loads_row n0 n1 a2 c2 xs2 W (given hL) hO2 hy2.1 hy2.2).mono fun e W' ⟨he, hg⟩ => ?_
  subst he
  have e1 : Rows.inboxLoadsSpec.fn H ([d0, d1, d2] ++ []) = { results := [.lit (.bool true)], args := [d0, d1, d2] } := by simp [Rows.inboxLoadsSpec]
  refine ⟨_, rfl, _, _, _, [], (p0 ++ (p1 ++ (p2 ++ []))), [], hW', ?_, ?_, ?_, hg.frame _, fun h => by cases h⟩
  · rw [e1]; exact trodAll_cons_mk (shut_bool Tryd.underlying4 true) trodAll_mk0
  · rw [e1]; exact trodAll_cons_mk (Below.trod laidOut (show Tryd.prog.readableRec 3 = true by kernel_rfl) (show 3 < Tryd.prog.types.size by rw [typesSize]; decide) ht0 hg (trod_block ht0)) (trodAll_cons_mk (Below.trod laidOut (show Tryd.prog.readableRec 3 = true by kernel_rfl) (show 3 < Tryd.prog.types.size by rw [typesSize]; decide) ht1 hg (trod_block ht1)) (trodAll_cons_mk (Below.trod laidOut (show Tryd.prog.readableRec 22 = true by kernel_rfl) (show 22 < Tryd.prog.types.size by rw [typesSize]; decide) ht2 hg (trod_block ht2)) (trodAll_mk0)))
  · rw [e1]; rfl
theorem reads (os : Os) {H : Type} (enc : TypeId × Value → H) : ∃ places, DataW.whole enc Tryd.prog ((World.doorLaid Tryd.prog 400 os).forCall (fun _ _ => 0) ⟨#[], #[.int .i64 0, .int .i64 0, .slice none 0 0], []⟩).memory Tryd.f3.params.toList Rows.inboxLoadsSpec.vars false #[Value.int .i64 0, Value.int .i64 0, Value.slice none 0 0].toList 8 = some ([.lit (.int .i64 0), .lit (.int .i64 0), .nil], [], places) :=
  ⟨[], by kernel_rfl⟩
theorem door_met (os : Os) : laidMetH Tryd.prog Rows.inboxLoadsRow.laid ((World.doorLaid Tryd.prog 400 os).forCall (fun _ _ => 0) ⟨#[], #[.int .i64 0, .int .i64 0, .slice none 0 0], []⟩).memory :=
  laidMetH_of_parts3 (fuel := 8) (laidMet_of_run' 8 (by kernel_rfl) (by kernel_rfl)) (by kernel_rfl) (by kernel_rfl)
set_option maxRecDepth 100000 in
theorem lifted (os : Os) (started : os.Started) (H : Type) (enc : TypeId × Value → H) (F : Stop.Interp) :
    ReturnsInHanded {} Tryd.checked os 3 .any ((OpenSpec.ofChange Rows.inboxLoadsSpec).preRow enc Tryd.prog Tryd.f3 Rows.inboxLoadsRow.domain false Rows.inboxLoadsRow.laid) (((OpenSpec.ofChange Rows.inboxLoadsSpec).at F).post enc Tryd.prog Tryd.f3 false true false false) := by
  obtain ⟨places, hx⟩ := reads os enc
  refine returnsInHanded_of_row (C := Tryd.checked) (s := OpenSpec.ofChange Rows.inboxLoadsSpec) own started (by kernel_rfl) Tryd.func3
    (witness_row_at (enc := enc) (C := Tryd.checked) false (World.doorLaid Tryd.prog 400 os) #[.int .i64 0, .int .i64 0, .slice none 0 0] rfl (by kernel_rfl) (by kernel_rfl) (by kernel_rfl)
      (OpenSpec.preRow_of_cond 8 hx (by kernel_rfl) (fun k hk => by cases hk) (by kernel_rfl) (door_met os))) ?_
  intro W base args ds gs before hval hW _ _ hWt hL _ _
  exact contract H enc W base args ds gs before hval hW hWt hL
theorem said : Rows.InboxLoadsSaid :=
  OpenClaim.holds_of_cond 3 Tryd.f3 rfl rfl rfl rfl rfl rfl rfl ⟨rfl, rfl, rfl, rfl, rfl⟩ rfl rfl rfl rfl rfl (by kernel_rfl) Tryd.func3 (by kernel_rfl)
    (of_decide_eq_true (by kernel_rfl)) (by unfold Func.isWrapper; first | (rw [if_pos (by decide +kernel)]; kernel_rfl) | (rw [if_neg (by decide +kernel)]; exact ⟨rfl, rfl⟩))
    (fun os started H enc _ F => by rw [OpenClaim.pre_eq_preRow]; exact lifted os started H enc F)
theorem plain (f : FuncId) (fn : Func) (hf : Tryd.pinned.checked.prog.funcNamed "courier/courierlaw15.InboxLoads" = some f) (hfn : Tryd.pinned.checked.prog.funcs[f]? = some fn) :
    true = Tryd.pinned.checked.prog.looks [] ∧ ∀ (j : Nat) t, fn.params[j]? = some t → Tryd.pinned.checked.prog.wantsStandIn t = false := by
  obtain rfl : f = 3 := Option.some.inj ((show Tryd.prog.funcNamed "courier/courierlaw15.InboxLoads" = some 3 by kernel_rfl).symm.trans hf) |>.symm
  obtain rfl : fn = Tryd.f3 := (Option.some.inj (Tryd.func3.symm.trans hfn)).symm
  refine ⟨by kernel_rfl, fun j t ht => ?_⟩
  rw [Tryd.params3] at ht
  have hm : t ∈ [3, 3, 22] := by simpa using Array.mem_of_getElem? ht
  have hall : ([3, 3, 22].all fun u => !Tryd.prog.wantsStandIn u) = true := by kernel_rfl
  exact (show Tryd.prog.wantsStandIn t = false by simpa using List.all_eq_true.1 hall t hm)

theorem card : Rows.InboxLoadsCardSaid :=
  Claim7.holds_tied_plain_at .later [] _ _ _ _ said (fun _ h => by cases h) (by kernel_rfl) (fun _ h => by cases h) inboxLoads_row_tie rfl ⟨rfl, rfl⟩ (by kernel_rfl) rfl plain (by kernel_rfl)
end Go.Proofs.YtjbkfppibnlmoaaDoor.inboxLoads

namespace Go.Proofs.YtjbkfppibnlmoaaDoor
theorem inboxLoads_of : Rows.InboxLoadsCardSaid := inboxLoads.card
end Go.Proofs.YtjbkfppibnlmoaaDoor
