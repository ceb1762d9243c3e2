import Derived.Test.YtjbkfppibnlmoaaGreatDoorSsAlw
import Derived.Test.YtjbkfppibnlmoaaGreatDoorIcTl
/-
  The strong pair out of a pair whose book is empty, and back.
-/
namespace Go.Proofs.YtjbkfppibnlmoaaGreatDoor
open Go.RowKit

section
variable {W w w' : World} {X K n m : Nat} {bv mk ke rm L v : Value} {o : Option (Int × Int)} {A A' : List Ent} {τ : Nat → Nat}
/-- The block's type. -/
def Ty (w : World) (q : Nat) (t : TypeId) : Prop := ∃ cs, w.heap[q]? = some (.cells cs t (0, 0))
theorem Ty.ne {q r : Nat} {t s : TypeId} (h : Ty w q t) (g : Ty w r s) (hn : t ≠ s) : q ≠ r := fun e => by
  subst e
  obtain ⟨cs, h⟩ := h
  obtain ⟨cs', g⟩ := g
  rw [h] at g
  simp only [Option.some.injEq, Obj.cells.injEq] at g
  exact hn g.2.1
theorem Ty.lt {q : Nat} {t : TypeId} (h : Ty w q t) : q < w.heap.size := by
  obtain ⟨cs, h⟩ := h
  exact blk_lt h
open Classical in
noncomputable def tauS (F : Nat → Prop) (X K : Nat) (v6 v7 v0 v1 v4 v5 : Value) (q : Nat) : Nat := if F q then 4 else if q = X ∨ v6.ownBlock = some q ∨ v7.ownBlock = some q then 5 else if q = K ∨ v0.ownBlock = some q ∨ v1.ownBlock = some q ∨ v4.ownBlock = some q ∨ v5.ownBlock = some q then 1 else 0
open Classical in
noncomputable def rhoS (K : Nat) (v0 v1 : Value) (q : Nat) : Nat := if q = K then 1 else if v0.ownBlock = some q then 2 else if v1.ownBlock = some q then 3 else 0
theorem rhoS_cases (K : Nat) (v0 v1 : Value) (q : Nat) : (q = K ∧ rhoS K v0 v1 q = 1) ∨ (q ≠ K ∧ v0.ownBlock = some q ∧ rhoS K v0 v1 q = 2) ∨ (q ≠ K ∧ v0.ownBlock ≠ some q ∧ v1.ownBlock = some q ∧ rhoS K v0 v1 q = 3) ∨ (q ≠ K ∧ v0.ownBlock ≠ some q ∧ v1.ownBlock ≠ some q ∧ rhoS K v0 v1 q = 0) := by
  unfold rhoS
  by_cases h1 : q = K
  · exact Or.inl ⟨h1, if_pos h1⟩
  · by_cases h2 : v0.ownBlock = some q
    · exact Or.inr (Or.inl ⟨h1, h2, by rw [if_neg h1, if_pos h2]⟩)
    · by_cases h3 : v1.ownBlock = some q
      · exact Or.inr (Or.inr (Or.inl ⟨h1, h2, h3, by rw [if_neg h1, if_neg h2, if_pos h3]⟩))
      · exact Or.inr (Or.inr (Or.inr ⟨h1, h2, h3, by rw [if_neg h1, if_neg h2, if_neg h3]⟩))
theorem ls_ss (h : LS W X K bv mk ke rm L 0 0 0 o A A' 0 w) : ∃ τ, SS W X K bv mk ke rm L o A A' τ 0 0 w := by
  obtain ⟨v0, v1, v4, v5, v6, v7, x0, x1, x4, x5, x6, x7, hX, hK, ⟨a0, a1, a2, a3, a4⟩, ⟨b0, b1, b2, b3, b4⟩, ⟨c0, c1, c2, c3, c4⟩⟩ := h.ex
  obtain rfl : x0 = [] := List.eq_nil_of_length_eq_zero (by omega)
  obtain rfl : x1 = [] := List.eq_nil_of_length_eq_zero (by omega)
  obtain rfl : x4 = [] := List.eq_nil_of_length_eq_zero (by omega)
  obtain rfl : x5 = [] := List.eq_nil_of_length_eq_zero (by omega)
  obtain rfl : x6 = [] := List.eq_nil_of_length_eq_zero (by omega)
  obtain rfl : x7 = [] := List.eq_nil_of_length_eq_zero (by omega)
  obtain ⟨F, f1, f2⟩ := S4.start h.sd
  have tX : Ty w X 55 := ⟨_, hX⟩
  have tK : Ty w K 52 := ⟨_, hK⟩
  have t0 : ∀ q, v0.ownBlock = some q → Ty w q 28 := fun q hq => erow_type a0 hq
  have t1 : ∀ q, v1.ownBlock = some q → Ty w q 28 := fun q hq => erow_type a1 hq
  have t4 : ∀ q, v4.ownBlock = some q → Ty w q 66 := fun q hq => erow_type b0 hq
  have t5 : ∀ q, v5.ownBlock = some q → Ty w q 66 := fun q hq => erow_type b1 hq
  have t6 : ∀ q, v6.ownBlock = some q → Ty w q 22 := fun q hq => erow_type c0 hq
  have t7 : ∀ q, v7.ownBlock = some q → Ty w q 22 := fun q hq => erow_type c1 hq
  have nF : ∀ {q t}, Ty w q t → LTy t → ¬ F q := fun {q t} ⟨cs, hc⟩ ht hf => (f1 q hf).2.2 cs t hc ht
  have lX : LTy 55 := Or.inl rfl
  have lK : LTy 52 := Or.inr (Or.inl rfl)
  have lb : LTy 28 := Or.inr (Or.inr (Or.inl rfl))
  have ls : LTy 66 := Or.inr (Or.inr (Or.inr (Or.inl rfl)))
  have le : LTy 22 := Or.inr (Or.inr (Or.inr (Or.inr rfl)))
  obtain ⟨τ, hτ⟩ : ∃ τ, τ = tauS F X K v6 v7 v0 v1 v4 v5 := ⟨_, rfl⟩
  have e4 : ∀ q, F q → τ q = 4 := fun q hq => by rw [hτ]; unfold tauS; rw [if_pos hq]
  have e5 : ∀ q, q = X ∨ v6.ownBlock = some q ∨ v7.ownBlock = some q → τ q = 5 := fun q hq => by
    have : ¬ F q := by
      rcases hq with rfl | e | e
      · exact nF tX lX
      · exact nF (t6 q e) le
      · exact nF (t7 q e) le
    rw [hτ]; unfold tauS; rw [if_neg this, if_pos hq]
  have e1 : ∀ q, q = K ∨ v0.ownBlock = some q ∨ v1.ownBlock = some q ∨ v4.ownBlock = some q ∨ v5.ownBlock = some q → τ q = 1 := fun q hq => by
    have hty : ∃ t, Ty w q t ∧ LTy t ∧ t ≠ 55 ∧ t ≠ 22 := by
      rcases hq with rfl | e | e | e | e
      · exact ⟨_, tK, lK, by decide, by decide⟩
      · exact ⟨_, t0 q e, lb, by decide, by decide⟩
      · exact ⟨_, t1 q e, lb, by decide, by decide⟩
      · exact ⟨_, t4 q e, ls, by decide, by decide⟩
      · exact ⟨_, t5 q e, ls, by decide, by decide⟩
    obtain ⟨t, k1, k2, k3, k4⟩ := hty
    rw [hτ]; unfold tauS
    rw [if_neg (nF k1 k2), if_neg, if_pos hq]
    rintro (e | e | e)
    · exact k1.ne tX k3 e
    · exact k1.ne (t6 q e) k4 rfl
    · exact k1.ne (t7 q e) k4 rfl
  have e0 : ∀ q, τ q ≠ 0 → W.heap.size ≤ q ∧ q < w.heap.size := fun q hq => by
    by_cases z4 : F q
    · exact ⟨(f1 q z4).1, (f1 q z4).2.1⟩
    by_cases z5 : q = X ∨ v6.ownBlock = some q ∨ v7.ownBlock = some q
    · rcases z5 with rfl | e | e
      · exact ⟨h.lX, blk_lt hX⟩
      · exact ERow.lt c0 e
      · exact ERow.lt c1 e
    by_cases z1 : q = K ∨ v0.ownBlock = some q ∨ v1.ownBlock = some q ∨ v4.ownBlock = some q ∨ v5.ownBlock = some q
    · rcases z1 with rfl | e | e | e | e
      · exact ⟨h.lK, blk_lt hK⟩
      · exact ERow.lt a0 e
      · exact ERow.lt a1 e
      · exact ERow.lt b0 e
      · exact ERow.lt b1 e
    rw [hτ] at hq
    unfold tauS at hq
    rw [if_neg z4, if_neg z5, if_neg z1] at hq
    exact absurd rfl hq
  have ro : ∀ (u0 u1 : Value), (∀ q, u0.ownBlock = some q ∨ u1.ownBlock = some q → τ q = 1) → RoB (rhoS K u0 u1) τ := fun u0 u1 hu q => by
    rcases rhoS_cases K u0 u1 q with ⟨e, r⟩ | ⟨_, e, r⟩ | ⟨_, _, e, r⟩ | ⟨_, _, _, r⟩
    · rw [r, e1 q (Or.inl e)]; exact ⟨fun _ => rfl, fun _ => Or.inl rfl⟩
    · rw [r, hu q (Or.inl e)]; exact ⟨fun _ => rfl, fun _ => Or.inl rfl⟩
    · rw [r, hu q (Or.inr e)]; exact ⟨fun _ => rfl, fun _ => Or.inl rfl⟩
    · rw [r]; exact ⟨fun h => by omega, fun h => absurd rfl h⟩
  have rB := rhoS_cases K v0 v1
  have rT := rhoS_cases K v4 v5
  refine ⟨τ, ⟨⟨v6, v7, [], rhoS K v0 v1, rhoS K v4 v5, [], [], hX, ⟨⟨v0, v1, v4, v5, ?_, ?_⟩, fun k hk => ?_⟩, ⟨fun i e he => (by simp at he), Nat.le_refl _⟩, ⟨fun i e he => (by simp at he), Nat.le_refl _⟩, ro v0 v1 fun q hq => e1 q (by rcases hq with e | e <;> simp [e]), ro v4 v5 fun q hq => e1 q (by rcases hq with e | e <;> simp [e]), ⟨c0, c1, c2, fun q hq => e5 q (Or.inr hq), Nat.le_refl _⟩, fun i g hg => (by simp at hg)⟩, e5 X (Or.inl rfl), fun q hq => ?_, fun q hq => (e0 q hq).1, f2 τ e4, h.bel, h.lX⟩⟩
  · refine ⟨hcell hK 0, hcell hK 1, hcell hK 2, hcell hK 3, hcell hK 4, hcell hK 5, fun q => hfroz hK q, h.bel.size, a0, a1, fun i e he => (by simp at he), fun i e he => (by simp at he), ?_, fun g hg => ?_, fun g hg => ?_, fun i e he => (by simp at he), fun i e he => (by simp at he), fun g hg => ?_⟩
    · rcases rB K with ⟨_, r⟩ | ⟨e, _⟩ | ⟨e, _⟩ | ⟨e, _⟩
      · exact r
      · exact absurd rfl e
      · exact absurd rfl e
      · exact absurd rfl e
    · rcases rB g with ⟨e, _⟩ | ⟨_, _, r⟩ | ⟨_, e, _⟩ | ⟨_, e, _⟩
      · exact absurd e ((t0 g hg).ne tK (by decide))
      · exact r
      · exact absurd hg e
      · exact absurd hg e
    · rcases rB g with ⟨e, _⟩ | ⟨_, e, _⟩ | ⟨_, _, _, r⟩ | ⟨_, _, e, _⟩
      · exact absurd e ((t1 g hg).ne tK (by decide))
      · exact absurd hg (a2 g e)
      · exact r
      · exact absurd hg e
    · rcases rB g with ⟨e, _⟩ | ⟨_, e, _⟩ | ⟨_, _, e, _⟩ | ⟨_, _, _, r⟩
      · have := tK.lt; omega
      · have := (t0 g e).lt; omega
      · have := (t1 g e).lt; omega
      · exact r
  · refine ⟨hcell hK 0, hcell hK 1, hcell hK 2, hcell hK 3, hcell hK 4, hcell hK 5, fun q => hfroz hK q, h.bel.size, b0, b1, fun i e he => (by simp at he), fun i e he => (by simp at he), ?_, fun g hg => ?_, fun g hg => ?_, fun i e he => (by simp at he), fun i e he => (by simp at he), fun g hg => ?_⟩
    · rcases rT K with ⟨_, r⟩ | ⟨e, _⟩ | ⟨e, _⟩ | ⟨e, _⟩
      · exact r
      · exact absurd rfl e
      · exact absurd rfl e
      · exact absurd rfl e
    · rcases rT g with ⟨e, _⟩ | ⟨_, _, r⟩ | ⟨_, e, _⟩ | ⟨_, e, _⟩
      · exact absurd e ((t4 g hg).ne tK (by decide))
      · exact r
      · exact absurd hg e
      · exact absurd hg e
    · rcases rT g with ⟨e, _⟩ | ⟨_, e, _⟩ | ⟨_, _, _, r⟩ | ⟨_, _, e, _⟩
      · exact absurd e ((t5 g hg).ne tK (by decide))
      · exact absurd hg (b2 g e)
      · exact r
      · exact absurd hg e
    · rcases rT g with ⟨e, _⟩ | ⟨_, e, _⟩ | ⟨_, _, e, _⟩ | ⟨_, _, _, r⟩
      · have := tK.lt; omega
      · have := (t4 g e).lt; omega
      · have := (t5 g e).lt; omega
      · exact r
  · rcases rB k with ⟨e, _⟩ | ⟨_, e, _⟩ | ⟨_, _, e, _⟩ | ⟨_, _, _, r⟩
    · exact absurd e hk
    · right
      rcases rT k with ⟨e', _⟩ | ⟨_, e', _⟩ | ⟨_, _, e', _⟩ | ⟨_, _, _, r⟩
      · exact absurd e' hk
      · exact absurd rfl ((t0 k e).ne (t4 k e') (by decide))
      · exact absurd rfl ((t0 k e).ne (t5 k e') (by decide))
      · exact r
    · right
      rcases rT k with ⟨e', _⟩ | ⟨_, e', _⟩ | ⟨_, _, e', _⟩ | ⟨_, _, _, r⟩
      · exact absurd e' hk
      · exact absurd rfl ((t1 k e).ne (t4 k e') (by decide))
      · exact absurd rfl ((t1 k e).ne (t5 k e') (by decide))
      · exact r
    · exact Or.inl r
  · rcases Nat.eq_zero_or_pos (τ q) with g | g
    · exact g
    · have := (e0 q (by omega)).2; omega
end
end Go.Proofs.YtjbkfppibnlmoaaGreatDoor

/-
  The strong pair behind a call of either box: frames by the parts.
-/
namespace Go.Proofs.YtjbkfppibnlmoaaGreatDoor
open Go.RowKit

/-- What a call may touch, and what new parts there may be. -/
structure XF (τ τ' : Nat → Nat) (w w' : World) : Prop where
  off : Off (fun q => τ q ≠ 0) w w'
  keep : ∀ q, q < w.heap.size → τ' q = 0 ∨ τ' q = τ q
section
variable {τ τ' τ'' : Nat → Nat} {w w' w'' : World} {P : Nat → Prop}
theorem XF.refl (τ : Nat → Nat) (w : World) : XF τ τ w w := ⟨Off.refl _ _, fun _ _ => Or.inr rfl⟩
theorem XF.of_below (hb : Below w.heap.size w w') : XF τ τ w w' := ⟨Off.of_below hb, fun _ _ => Or.inr rfl⟩
theorem XF.trans (h : XF τ τ' w w') (k : XF τ' τ'' w' w'') : XF τ τ'' w w'' := by
  have hs := h.off.size
  refine ⟨h.off.join k.off fun q hq e => ?_, fun q hq => ?_⟩
  · rcases h.keep q hq with g | g <;> omega
  · rcases k.keep q (by omega) with g | g
    · exact Or.inl g
    · rcases h.keep q hq with g2 | g2
      · exact Or.inl (by omega)
      · exact Or.inr (by omega)
theorem XF.below (h : XF τ τ' w w') (hb : Below w'.heap.size w' w'') : XF τ τ' w w'' := h.trans (XF.of_below hb)
theorem XF.from (hb : Below w.heap.size w w') (h : XF τ τ' w' w'') : XF τ τ' w w'' := (XF.of_below hb).trans h
theorem XF.zero (h : XF τ τ' w w') {q : Nat} (hq : q < w.heap.size) (h0 : τ q = 0) : τ' q = 0 := by rcases h.keep q hq with g | g <;> omega
theorem XF.of_tk (h : TkQ τ τ' w w' (fun _ => False)) : XF τ τ' w w' := ⟨h.off.mono fun q e => by omega, fun q hq => Or.inr (h.keep q hq id)⟩
end
section
variable {W w w' : World} {X K n m : Nat} {bv mk ke rm L : Value} {o : Option (Int × Int)} {A A' : List Ent} {τ : Nat → Nat}
open Classical in
noncomputable def tau4 (τ : Nat → Nat) (N : Nat) (G : Nat → Prop) (q : Nat) : Nat := if q < N then τ q else if G q then 4 else 0
theorem tau4_old {τ : Nat → Nat} {N q : Nat} {G : Nat → Prop} (h : q < N) : tau4 τ N G q = τ q := if_pos h
theorem tau4_new {τ : Nat → Nat} {N q : Nat} {G : Nat → Prop} (h : N ≤ q) (hG : G q) : tau4 τ N G q = 4 := by unfold tau4; rw [if_neg (by omega), if_pos hG]
theorem tau4_non {τ : Nat → Nat} {N q : Nat} {G : Nat → Prop} (h : N ≤ q) (hG : ¬ G q) : tau4 τ N G q = 0 := by unfold tau4; rw [if_neg (by omega), if_neg hG]
theorem ro4 {ρ : Nat → Nat} {N : Nat} {G : Nat → Prop} (h : RoB ρ τ) (hn : ∀ q, N ≤ q → ρ q = 0) : RoB ρ (tau4 τ N G) := fun q => by
  rcases Nat.lt_or_ge q N with g | g
  · rw [tau4_old g]; exact h q
  · rw [hn q g]; exact ⟨fun h => by omega, fun h => absurd rfl h⟩
/-- What new parts are of. -/
def NewTy (τ' : Nat → Nat) (w w' : World) : Prop := ∀ q, w.heap.size ≤ q → τ' q = 0 ∨ ∃ t, Ty w' q t ∧ (t = 5 ∨ t = 30)
theorem own_ty {B : Nat} {e : Ent} (h : Own w B e) {q : Nat} (hq : Blk e q) : Ty w q 5 := by
  rcases hq with g | g | g
  · exact erow_type h.t g
  · exact erow_type h.c g
  · exact erow_type h.a g
/-- Behind a call of the program's box. -/
theorem SS.up {K0 R : Int} {b sb M : Nat} {v : Value} {es es' es1 A1 : List Ent} (h : SS W X K bv (.bool true) (.int .i64 K0) (.int .i64 R) L (some (K0, R)) A A' τ n m w) (hbv : bv = .pointer (some ⟨b, 0, none⟩)) (hs : Sm w W.heap.size 0 0 0 X b sb M v L K0 R es A es' A') (hf : ∀ q, (q = b ∨ Ft sb M v q ∨ (∃ e ∈ es, Blk e q) ∨ L.ownBlock = some q ∨ ∃ e ∈ es', Blk e q) → τ q = 4) (hq : BxQ w W.heap.size b sb M v K0 R es1 w') (ht : Tws es1 A1) (hn : ∀ e ∈ es1, ∀ q, Blk e q → (∃ e0 ∈ es, Blk e0 q) ∨ w.heap.size ≤ q) :
    ∃ τ', SS W X K bv (.bool true) (.int .i64 K0) (.int .i64 R) L (some (K0, R)) A1 A' τ' n m w' ∧ XF τ τ' w w' ∧ NewTy τ' w w' := by
  obtain ⟨v6, v7, gs, ρ, σ, es0, ts, hX, hb, h1, h2, h3, h4, ⟨g1, g2, g3, g4, g5⟩, g6⟩ := h.ex
  obtain ⟨v', b1, ho, hv'⟩ := hq
  have hsz := ho.size
  have hXl := blk_lt hX
  have hP : ∀ q, Ft sb M v q → τ q = 4 := fun q hq => hf q (Or.inr (Or.inl hq))
  have hro0 : ∀ {ρ : Nat → Nat}, RoB ρ τ → ∀ q, τ q = 4 → ρ q = 0 := fun {ρ} hr q hq => by
    rcases Nat.eq_zero_or_pos (ρ q) with g | g
    · exact g
    · have := (hr q).2 (by omega); omega
  obtain ⟨vb, vw, vt, vu, bb1, bb2⟩ := hb.ex
  obtain ⟨G, hG⟩ : ∃ G : Nat → Prop, G = fun q => v'.ownBlock = some q ∨ ∃ e ∈ es1, Blk e q := ⟨_, rfl⟩
  have hGt : ∀ q, G q → q < w'.heap.size ∧ ∃ t, Ty w' q t ∧ (t = 5 ∨ t = 30) := fun q hq => by
    rw [hG] at hq
    rcases hq with e | ⟨e, he, g⟩
    · exact ⟨b1.ftlt (Or.inr (Or.inr e)), _, row_type b1.sh.row e, Or.inr rfl⟩
    · exact ⟨((b1.own e he).blk g).2, _, own_ty (b1.own e he) g, Or.inl rfl⟩
  have old4 : ∀ q, q < w.heap.size → τ q = 4 → tau4 τ w.heap.size G q = 4 := fun q hq e => by rw [tau4_old hq]; exact e
  have hfo : ∀ q, (q = b ∨ Ft sb M v' q ∨ (∃ e ∈ es1, Blk e q) ∨ L.ownBlock = some q ∨ ∃ e ∈ es', Blk e q) → tau4 τ w.heap.size G q = 4 := fun q hq => by
    rcases hq with rfl | g | ⟨e, he, g⟩ | g | ⟨e, he, g⟩
    · exact old4 _ hs.bx.lt (hf _ (Or.inl rfl))
    · rcases g with g | g | g
      · exact old4 _ (hs.bx.ftlt (Or.inl g)) (hP q (Or.inl g))
      · exact old4 _ (hs.bx.ftlt (Or.inr (Or.inl g))) (hP q (Or.inr (Or.inl g)))
      · rcases Nat.lt_or_ge q w.heap.size with z | z
        · rcases hv' q g with g2 | g2
          · exact old4 _ z (hP q (Or.inr (Or.inr g2)))
          · omega
        · exact tau4_new z (by rw [hG]; exact Or.inl g)
    · rcases Nat.lt_or_ge q w.heap.size with z | z
      · rcases hn e he q g with ⟨e0, he0, g2⟩ | g2
        · exact old4 _ z (hf q (Or.inr (Or.inr (Or.inl ⟨e0, he0, g2⟩))))
        · omega
      · exact tau4_new z (by rw [hG]; exact Or.inr ⟨e, he, g⟩)
    · exact old4 _ (ERow.lt hs.row g).2 (hf q (Or.inr (Or.inr (Or.inr (Or.inl g)))))
    · exact old4 _ ((hs.own e he).blk g).2 (hf q (Or.inr (Or.inr (Or.inr (Or.inr ⟨e, he, g⟩)))))
  have hsm : Sm w' W.heap.size 0 0 0 X b sb M v' L K0 R es1 A1 es' A' := ⟨b1, ht, ERow.off hs.row ho fun g hg => hs.notF hg, fun e he => (hs.own e he).byType ho hs.bx.sh.notBytes, hs.t', hs.inv, fun q hq hq' => (by
      rcases hv' q hq with g | g
      · exact hs.ap q g hq'
      · have := (ERow.lt hs.row hq').2; omega), fun _ _ => Or.inr (Nat.zero_le _), fun _ _ => Or.inr (Nat.zero_le _)⟩
  refine ⟨tau4 τ w.heap.size G, ⟨⟨v6, v7, gs, ρ, σ, es0, ts, (ho.block X hXl fun p => by have := hP X p; have := h.tX; omega).trans hX, hb.off (to_bt ho) fun q p => ⟨hro0 h3 q (hP q p), hro0 h4 q (hP q p)⟩, h1, h2, ro4 h3 bb1.new, ro4 h4 bb2.new, ⟨ERow.off g1 ho fun q hq p => by have := hP q p; have := g4 q (Or.inl hq); omega, ERow.off g2 ho fun q hq p => by have := hP q p; have := g4 q (Or.inr hq); omega, g3, fun q hq => ?_, g5⟩, g6.off ho (fun q _ p => by rw [hP q p]; decide) fun q hq _ => tau4_old hq⟩, ?_, fun q hq => ?_, fun q hq => ?_, ⟨rfl, rfl, rfl, b, sb, M, v', es1, es', hbv, hsm, hfo⟩, h.bel.trans (ho.below h.bel.size fun q p => h.old q (by rw [hP q p]; decide)), h.lX⟩, ⟨ho.mono fun q p => by rw [hP q p]; decide, fun q hq => Or.inr (tau4_old hq)⟩, fun q hq => ?_⟩
  · have : q < w.heap.size := by
      rcases hq with e | e
      · exact (ERow.lt g1 e).2
      · exact (ERow.lt g2 e).2
    rw [tau4_old this]
    exact g4 q hq
  · rw [tau4_old hXl]; exact h.tX
  · exact tau4_non (by omega) fun g => by have := (hGt q g).1; omega
  · rcases Nat.lt_or_ge q w.heap.size with z | z
    · rw [tau4_old z] at hq; exact h.old q hq
    · have := h.bel.size; omega
  · rcases Classical.em (G q) with g | g
    · exact Or.inr (hGt q g).2
    · exact Or.inl (tau4_non hq g)
/-- Behind a call of the document's. -/
theorem SS.dn {K0 R : Int} {b sb M : Nat} {v : Value} {es es' es1 A1 : List Ent} (h : SS W X K bv (.bool true) (.int .i64 K0) (.int .i64 R) L (some (K0, R)) A A' τ n m w) (hbv : bv = .pointer (some ⟨b, 0, none⟩)) (hs : Sm w W.heap.size 0 0 0 X b sb M v L K0 R es A es' A') (hf : ∀ q, (q = b ∨ Ft sb M v q ∨ (∃ e ∈ es, Blk e q) ∨ L.ownBlock = some q ∨ ∃ e ∈ es', Blk e q) → τ q = 4) (hq : RBQ w W.heap.size X L K0 R es1 w') (ht : Tws es1 A1) (hn : ∀ e ∈ es1, ∀ q, Blk e q → (∃ e0 ∈ es', Blk e0 q) ∨ w.heap.size ≤ q) :
    ∃ L' τ', SS W X K bv (.bool true) (.int .i64 K0) (.int .i64 R) L' (some (K0, R)) A A1 τ' n m w' ∧ XF τ τ' w w' ∧ NewTy τ' w w' := by
  obtain ⟨v6, v7, gs, ρ, σ, es0, ts, hX, hb, h1, h2, h3, h4, ⟨g1, g2, g3, g4, g5⟩, g6⟩ := h.ex
  obtain ⟨L', b1, ho, hv', hxk⟩ := hq
  have hsz := ho.size
  have hXl := blk_lt hX
  have hP : ∀ q, (q = X ∨ L.ownBlock = some q) → τ q = 4 ∨ τ q = 5 := fun q hq => by
    rcases hq with rfl | g
    · exact Or.inr h.tX
    · exact Or.inl (hf q (Or.inr (Or.inr (Or.inr (Or.inl g)))))
  have nb : ¬ (b = X ∨ L.ownBlock = some b) := by
    rintro (g | g)
    · have := hs.bx.blk
      rw [g, hX] at this
      simp at this
    · obtain ⟨cs, hc⟩ := row_type hs.row g
      rw [hs.bx.blk] at hc
      simp at hc
  have nF : ∀ q, Ft sb M v q → ¬ (q = X ∨ L.ownBlock = some q) := fun q hq => by
    rintro (g | g)
    · exact hs.bx.sh.notType (by decide) (by decide) hX (g ▸ hq)
    · exact hs.notF g hq
  have nB : ∀ q cs, w.heap[q]? = some (.cells cs 5 (0, 0)) → ¬ (q = X ∨ L.ownBlock = some q) := fun q cs hc => by
    rintro (g | g)
    · rw [g, hX] at hc
      simp at hc
    · obtain ⟨cs', hc'⟩ := row_type hs.row g
      rw [hc] at hc'
      simp at hc'
  have hX1 : w'.heap[X]? = some (.cells #[bv, .bool true, .int .i64 K0, .int .i64 R, L', .pointer (some ⟨K, 0, none⟩), v6, v7] 55 (0, 0)) := by
    obtain ⟨u, hu⟩ := hxk _ _ hX
    have hc := hcell hu 4
    rw [b1.c4] at hc
    have e1 : u = L' := by simpa using hc.symm
    rw [hu, e1]
    simp
  have hro0 : ∀ {ρ : Nat → Nat}, RoB ρ τ → ∀ q, τ q = 4 ∨ τ q = 5 → ρ q = 0 := fun {ρ} hr q hq => by
    rcases Nat.eq_zero_or_pos (ρ q) with g | g
    · exact g
    · have := (hr q).2 (by omega); omega
  obtain ⟨vb, vw, vt, vu, bb1, bb2⟩ := hb.ex
  obtain ⟨G, hG⟩ : ∃ G : Nat → Prop, G = fun q => L'.ownBlock = some q ∨ ∃ e ∈ es1, Blk e q := ⟨_, rfl⟩
  have hGt : ∀ q, G q → q < w'.heap.size ∧ ∃ t, Ty w' q t ∧ (t = 5 ∨ t = 30) := fun q hq => by
    rw [hG] at hq
    rcases hq with e | ⟨e, he, g⟩
    · exact ⟨(ERow.lt b1.row e).2, _, row_type b1.row e, Or.inr rfl⟩
    · exact ⟨((b1.own e he).blk g).2, _, own_ty (b1.own e he) g, Or.inl rfl⟩
  have old4 : ∀ q, q < w.heap.size → τ q = 4 → tau4 τ w.heap.size G q = 4 := fun q hq e => by rw [tau4_old hq]; exact e
  have hfo : ∀ q, (q = b ∨ Ft sb M v q ∨ (∃ e ∈ es, Blk e q) ∨ L'.ownBlock = some q ∨ ∃ e ∈ es1, Blk e q) → tau4 τ w.heap.size G q = 4 := fun q hq => by
    rcases hq with rfl | g | ⟨e, he, g⟩ | g | ⟨e, he, g⟩
    · exact old4 _ hs.bx.lt (hf _ (Or.inl rfl))
    · exact old4 _ (hs.bx.ftlt g) (hf q (Or.inr (Or.inl g)))
    · exact old4 _ ((hs.bx.own e he).blk g).2 (hf q (Or.inr (Or.inr (Or.inl ⟨e, he, g⟩))))
    · rcases Nat.lt_or_ge q w.heap.size with z | z
      · rcases hv' q g with g2 | g2
        · exact old4 _ z (hf q (Or.inr (Or.inr (Or.inr (Or.inl g2)))))
        · omega
      · exact tau4_new z (by rw [hG]; exact Or.inl g)
    · rcases Nat.lt_or_ge q w.heap.size with z | z
      · rcases hn e he q g with ⟨e0, he0, g2⟩ | g2
        · exact old4 _ z (hf q (Or.inr (Or.inr (Or.inr (Or.inr ⟨e0, he0, g2⟩)))))
        · omega
      · exact tau4_new z (by rw [hG]; exact Or.inr ⟨e, he, g⟩)
  have hsm : Sm w' W.heap.size 0 0 0 X b sb M v L' K0 R es A es1 A1 := ⟨hs.bx.off ho nb nF nB, hs.t, b1.row, b1.own, ht, b1.inv, fun q hq hq' => (by
      rcases hv' q hq' with g | g
      · exact hs.ap q hq g
      · have := hs.bx.ftlt (Or.inr (Or.inr hq)); omega), fun _ _ => Or.inr (Nat.zero_le _), fun _ _ => Or.inr (Nat.zero_le _)⟩
  have o6 : Off (fun q => (q = X ∨ L.ownBlock = some q) ∧ q ≠ X) w w' → True := fun _ => trivial
  refine ⟨L', tau4 τ w.heap.size G, ⟨⟨v6, v7, gs, ρ, σ, es0, ts, hX1, hb.off (to_bt ho) fun q p => ⟨hro0 h3 q (hP q p), hro0 h4 q (hP q p)⟩, h1, h2, ro4 h3 bb1.new, ro4 h4 bb2.new, ⟨ERow.off g1 ho fun q hq p => ?_, ERow.off g2 ho fun q hq p => ?_, g3, fun q hq => ?_, g5⟩, g6.off ho (fun q _ p => by have := hP q p; omega) fun q hq _ => tau4_old hq⟩, ?_, fun q hq => ?_, fun q hq => ?_, ⟨rfl, rfl, rfl, b, sb, M, v, es, es1, hbv, hsm, hfo⟩, h.bel.trans (ho.below h.bel.size fun q p => h.old q (by have := hP q p; omega)), h.lX⟩, ⟨ho.mono fun q p => by have := hP q p; omega, fun q hq => Or.inr (tau4_old hq)⟩, fun q hq => ?_⟩
  · obtain ⟨cs, hc⟩ := erow_type g1 hq
    rcases p with rfl | p
    · rw [hX] at hc; simp at hc
    · have := hf q (Or.inr (Or.inr (Or.inr (Or.inl p)))); have := g4 q (Or.inl hq); omega
  · obtain ⟨cs, hc⟩ := erow_type g2 hq
    rcases p with rfl | p
    · rw [hX] at hc; simp at hc
    · have := hf q (Or.inr (Or.inr (Or.inr (Or.inl p)))); have := g4 q (Or.inr hq); omega
  · have : q < w.heap.size := by
      rcases hq with e | e
      · exact (ERow.lt g1 e).2
      · exact (ERow.lt g2 e).2
    rw [tau4_old this]
    exact g4 q hq
  · rw [tau4_old hXl]; exact h.tX
  · exact tau4_non (by omega) fun g => by have := (hGt q g).1; omega
  · rcases Nat.lt_or_ge q w.heap.size with z | z
    · rw [tau4_old z] at hq; exact h.old q hq
    · have := h.bel.size; omega
  · rcases Classical.em (G q) with g | g
    · exact Or.inr (hGt q g).2
    · exact Or.inl (tau4_non hq g)
/-- An error that stays by the parts. -/
def EvK (τ : Nat → Nat) (w : World) (B : Nat) (ev : Value) (c : Int) : Prop := (ev = .nilIface ∧ c = 0) ∨ (OEv w B ev 0 c ∧ ∀ q, B ≤ q → τ q = 0)
theorem EvK.at_ {B : Nat} {ev : Value} {c : Int} (h : EvK τ w B ev c) (ho : Off (fun q => τ q ≠ 0) w w') : OEv w' B ev 0 c := by
  rcases h with ⟨rfl, rfl⟩ | ⟨h, h0⟩
  · exact Or.inl ⟨rfl, rfl⟩
  · exact h.keep fun b o hl hB => ho.cell (p := ⟨b, o, none⟩) hl (by rw [h0 b hB]; decide)
end
end Go.Proofs.YtjbkfppibnlmoaaGreatDoor
