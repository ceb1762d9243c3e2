/-
  The program's link as a whole: nil, plain or made by New; every call at every side.
-/
import Derived.Test.YtpcickhellkiaaaDoorLpCall2
import Derived.Test.YtpcickhellkiaaaDoorLpFly
import Derived.Test.YtpcickhellkiaaaDoorLpNo
import Derived.Test.YtpcickhellkiaaaDoorLkLike
namespace Go.Proofs.YtpcickhellkiaaaDoor
open Go.RowKit

/-- What a link holds: nothing, where New did not make it; else its two sides. -/
abbrev LSt := Option (Sd × Sd)
def cV {α : Type} (z b : α) (f : Sd → α) (σ : LSt) (s : Int) : α := match σ with | none => z | some c => if s = 0 then f c.1 else if s = 1 then f c.2 else b
def cS (g : Sd → Sd) (σ : LSt) (s : Int) : LSt := match σ with | none => none | some c => if s = 0 then some (g c.1, c.2) else if s = 1 then some (c.1, g c.2) else some c
/-- There is no such side, and why. -/
def NW (σ : LSt) (s code : Int) : Prop := (σ = none ∧ code = 3) ∨ ∃ c, σ = some c ∧ ¬ (s = 0 ∨ s = 1) ∧ code = 1
def csd (c : Sd × Sd) (k : Nat) : Sd := if k = 0 then c.1 else c.2
def SOk (σ : LSt) : Prop := ∀ c, σ = some c → SdOk c.1 ∧ SdOk c.2
section
variable {σ : LSt} {s code : Int} {α : Type}
theorem NW.v (h : NW σ s code) (f : Sd → Int) : cV 3 1 f σ s = code := by
  rcases h with ⟨rfl, rfl⟩ | ⟨c, rfl, hs, rfl⟩
  · rfl
  · unfold cV; simp only; rw [if_neg (by omega), if_neg (by omega)]
theorem NW.v2 (h : NW σ s code) (z : α) (f : Sd → α) : cV z z f σ s = z := by
  rcases h with ⟨rfl, rfl⟩ | ⟨c, rfl, hs, rfl⟩
  · rfl
  · unfold cV; simp only; rw [if_neg (by omega), if_neg (by omega)]
theorem NW.p (h : NW σ s code) (f : Sd → Int × Int) : cV (0, 3) (0, 1) f σ s = (0, code) := by
  rcases h with ⟨rfl, rfl⟩ | ⟨c, rfl, hs, rfl⟩
  · rfl
  · unfold cV; simp only; rw [if_neg (by omega), if_neg (by omega)]
theorem NW.st (h : NW σ s code) (g : Sd → Sd) : cS g σ s = σ := by
  rcases h with ⟨rfl, rfl⟩ | ⟨c, rfl, hs, rfl⟩
  · rfl
  · unfold cS; simp only; rw [if_neg (by omega), if_neg (by omega)]
theorem NW.cd (h : NW σ s code) : (code == 0) = false := by
  rcases h with ⟨rfl, rfl⟩ | ⟨c, rfl, hs, rfl⟩ <;> rfl
theorem cV_at {z b : α} {f : Sd → α} {c : Sd × Sd} {k : Nat} (hk : k < 2) : cV z b f (some c) (k : Int) = f (csd c k) := by
  rcases (by omega : k = 0 ∨ k = 1) with rfl | rfl <;> rfl
theorem side_cases (σ : LSt) (s : Int) : (∃ code, NW σ s code) ∨ ∃ (c : Sd × Sd) (k : Nat), σ = some c ∧ k < 2 ∧ s = (k : Int) := by
  cases σ with
  | none => exact Or.inl ⟨3, Or.inl ⟨rfl, rfl⟩⟩
  | some c =>
    by_cases h : s = 0 ∨ s = 1
    · rcases h with rfl | rfl
      · exact Or.inr ⟨c, 0, rfl, by omega, rfl⟩
      · exact Or.inr ⟨c, 1, rfl, by omega, rfl⟩
    · exact Or.inl ⟨1, Or.inr ⟨c, rfl, h, rfl⟩⟩
theorem SOk.at_ {c : Sd × Sd} (h : SOk (some c)) (k : Nat) : SdOk (csd c k) := by
  unfold csd
  split
  · exact (h c rfl).1
  · exact (h c rfl).2
theorem SOk.step (h : SOk σ) {g : Sd → Sd} (hg : ∀ c, SdOk c → SdOk (g c)) (s : Int) : SOk (cS g σ s) := by
  cases σ with
  | none => exact fun c e => by cases e
  | some c =>
    obtain ⟨h1, h2⟩ := h c rfl
    unfold cS
    simp only
    split
    · rintro c' e; injection e with e; subst e; exact ⟨hg _ h1, h2⟩
    · split
      · rintro c' e; injection e with e; subst e; exact ⟨h1, hg _ h2⟩
      · rintro c' e; injection e with e; subst e; exact ⟨h1, h2⟩
end
/-- The program's link. -/
def PL (w : World) (l : Option Addr) (F : Nat → Prop) : LSt → Prop
  | none => (∀ b, ¬ F b) ∧ (l = none ∨ ∃ lb, l = some ⟨lb, 0, none⟩ ∧ w.heap[lb]? = some (.cells #[.slice none 0 0, .slice none 0 0, .bool false] 53 (0, 0)))
  | some c => ∃ lb x y, l = some ⟨lb, 0, none⟩ ∧ Lk w lb F x y ∧ sdL x = c.1 ∧ sdL y = c.2
/-- What a call leaves of it. -/
def PQ (w : World) (l : Option Addr) (F : Nat → Prop) (σ : LSt) (w' : World) : Prop := ∃ F', PL w' l F' σ ∧ Off (fun q => l = some ⟨q, 0, none⟩) w w' ∧ ∀ b, F' b → F b ∨ (w.heap.size ≤ b ∧ b < w'.heap.size)
section
variable {w w' : World} {l : Option Addr} {F : Nat → Prop} {σ : LSt} {s code : Int}
theorem PL.off {P : Nat → Prop} (h : PL w l F σ) (o : Off P w w') (hl : ∀ lb, l = some ⟨lb, 0, none⟩ → ¬ P lb) (hF : ∀ b, F b → ¬ P b) : PL w' l F σ := by
  cases σ with
  | none =>
    obtain ⟨h1, h2⟩ := h
    refine ⟨h1, ?_⟩
    rcases h2 with e | ⟨lb, e, hb⟩
    · exact Or.inl e
    · exact Or.inr ⟨lb, e, (o.block lb (blk_lt hb) (hl lb e)).trans hb⟩
  | some c =>
    obtain ⟨lb, x, y, e, h1, h2, h3⟩ := h
    exact ⟨lb, x, y, e, h1.off o (hl lb e) hF, h2, h3⟩
theorem PL.below (h : PL w l F σ) (hb : Below w.heap.size w w') : PL w' l F σ := h.off (P := fun _ => False) (Off.of_below hb) (fun _ _ => id) (fun _ _ => id)
theorem PL.lt (h : PL w l F σ) : (∀ b, F b → b < w.heap.size) ∧ ∀ lb, l = some ⟨lb, 0, none⟩ → lb < w.heap.size ∧ ¬ F lb := by
  cases σ with
  | none =>
    obtain ⟨h1, h2⟩ := h
    refine ⟨fun b hb => (h1 b hb).elim, fun lb e => ⟨?_, h1 lb⟩⟩
    rcases h2 with e' | ⟨lb', e', hb⟩
    · rw [e'] at e; cases e
    · rw [e'] at e; injection e with e; injection e with e; subst e; exact blk_lt hb
  | some c =>
    obtain ⟨lb, x, y, e, h1, _⟩ := h
    refine ⟨h1.lt, fun lb' e' => ?_⟩
    rw [e] at e'; injection e' with e'; injection e' with e'; subst e'
    exact ⟨blk_lt h1.blk, h1.nl⟩
theorem PL.no (h : PL w l F σ) (hn : NW σ s code) : NoWay w l s code := by
  rcases hn with ⟨rfl, rfl⟩ | ⟨c, rfl, hs, rfl⟩
  · obtain ⟨_, h2⟩ := h
    rcases h2 with rfl | ⟨lb, rfl, hb⟩
    · exact way_nil s
    · exact way_plain (hcell hb 2) s
  · obtain ⟨lb, x, y, rfl, h1, _⟩ := h
    exact way_bad h1 hs
theorem PL.same (h : PL w l F σ) (hb : Below w.heap.size w w') : PQ w l F σ w' := ⟨F, h.below hb, Off.of_below hb, fun _ hb' => Or.inl hb'⟩
theorem PL.at_ {c : Sd × Sd} {k : Nat} (h : PL w l F (some c)) (hk : k < 2) : ∃ lb x y, l = some ⟨lb, 0, none⟩ ∧ Lk w lb F x y ∧ sdL (dwS x y k) = csd c k ∧ ∀ (g : Sd → Sd) w', (LQ w lb F x y k (g (csd c k)) w' → PQ w l F (cS g (some c) (k : Int)) w') ∧ ∀ N, LQA w lb F x y k (g (csd c k)) N w' → ∃ F', PL w' l F' (cS g (some c) (k : Int)) ∧ Off (fun q => l = some ⟨q, 0, none⟩) w w' ∧ (∀ b, F' b → F b ∨ (w.heap.size ≤ b ∧ b < w'.heap.size)) ∧ ¬ F' N := by
  obtain ⟨lb, x, y, rfl, h1, h2, h3⟩ := h
  refine ⟨lb, x, y, rfl, h1, ?_, fun g w' => ⟨fun hq => ?_, fun N hq => ?_⟩⟩
  · unfold dwS csd
    split
    · exact h2
    · exact h3
  · obtain ⟨F', z', q1, q2, q3, q4⟩ := hq
    refine ⟨F', ?_, q3.mono fun q e => by rw [e], q4⟩
    rcases (by omega : k = 0 ∨ k = 1) with rfl | rfl
    · exact ⟨lb, z', y, rfl, q1, q2, h3⟩
    · exact ⟨lb, x, z', rfl, q1, h2, q2⟩
  · obtain ⟨F', z', q1, q2, q3, q4, q5⟩ := hq
    refine ⟨F', ?_, q3.mono fun q e => by rw [e], q4, q5⟩
    rcases (by omega : k = 0 ∨ k = 1) with rfl | rfl
    · exact ⟨lb, z', y, rfl, q1, q2, h3⟩
    · exact ⟨lb, x, z', rfl, q1, h2, q2⟩
theorem qSend (h : PL w l F σ) {po : Option Addr} {m c : Nat} {bs : List Int} (hb : Byts w po m bs) (s : Int) : Calls Tryd.prog 11 #[.pointer l, .int .i64 s, .slice po m c] w fun e w' => ∃ v, e = .returned v ∧ Hid (EvIs w' v 0 (cV 3 1 (fun c => sendE c bs) σ s) ∧ PQ w l F (cS (fun c => sendC c bs) σ s) w') := by
  rcases side_cases σ s with ⟨code, hn⟩ | ⟨cc, k, rfl, hk, rfl⟩
  · rw [hn.v, hn.st]
    exact (pSend_no (h.no hn)).mono fun e w' ⟨v, e1, e2⟩ => ⟨v, e1, e2.out.1, h.same e2.out.2⟩
  · obtain ⟨lb, x, y, rfl, h1, h2, h3⟩ := h.at_ hk
    rw [cV_at hk, ← h2]
    refine (psend_ok h1 hk hb).mono fun e w' ⟨v, e1, e2⟩ => ⟨v, e1, e2.out.1, (h3 (fun c => sendC c bs) w').1 ?_⟩
    rw [← h2]; exact e2.out.2
theorem qRaw (h : PL w l F σ) {po : Option Addr} {m c : Nat} {bs : List Int} (hb : Byts w po m bs) (s : Int) : Calls Tryd.prog 18 #[.pointer l, .int .i64 s, .slice po m c] w fun e w' => ∃ v, e = .returned v ∧ Hid (EvIs w' v 0 (cV 3 1 (fun c => sendE c bs) σ s) ∧ PQ w l F (cS (fun c => sendC c bs) σ s) w') := pRaw_of (P := fun v w' => EvIs w' v 0 (cV 3 1 (fun c => sendE c bs) σ s) ∧ PQ w l F (cS (fun c => sendC c bs) σ s) w') (qSend h hb s)
theorem qNoise (h : PL w l F σ) {po : Option Addr} {m c : Nat} {bs : List Int} (hb : Byts w po m bs) (s : Int) : Calls Tryd.prog 19 #[.pointer l, .int .i64 s, .slice po m c] w fun e w' => ∃ v, e = .returned v ∧ Hid (EvIs w' v (cV (0, 3) (0, 1) (fun c => noiseE c bs) σ s).1 (cV (0, 3) (0, 1) (fun c => noiseE c bs) σ s).2 ∧ PQ w l F (cS (fun c => noiseC c bs) σ s) w') := by
  rcases side_cases σ s with ⟨code, hn⟩ | ⟨cc, k, rfl, hk, rfl⟩
  · rw [hn.p, hn.st]
    exact (pNoise_no (h.no hn)).mono fun e w' ⟨v, e1, e2⟩ => ⟨v, e1, e2.out.1, h.same e2.out.2⟩
  · obtain ⟨lb, x, y, rfl, h1, h2, h3⟩ := h.at_ hk
    rw [cV_at hk, ← h2]
    refine (pnoise_ok h1 hk hb).mono fun e w' ⟨v, e1, e2⟩ => ⟨v, e1, e2.out.1, (h3 (fun c => noiseC c bs) w').1 ?_⟩
    rw [← h2]; exact e2.out.2
theorem qDrop (h : PL w l F σ) (s i : Int) : Calls Tryd.prog 22 #[.pointer l, .int .i64 s, .int .i64 i] w fun e w' => ∃ v, e = .returned v ∧ Hid (EvIs w' v 0 (cV 3 1 (fun c => dropE c i) σ s) ∧ PQ w l F (cS (fun c => dropC c i) σ s) w') := by
  rcases side_cases σ s with ⟨code, hn⟩ | ⟨cc, k, rfl, hk, rfl⟩
  · rw [hn.v, hn.st]
    exact (pDrop_no (h.no hn) i).mono fun e w' ⟨v, e1, e2⟩ => ⟨v, e1, e2.out.1, h.same e2.out.2⟩
  · obtain ⟨lb, x, y, rfl, h1, h2, h3⟩ := h.at_ hk
    rw [cV_at hk, ← h2]
    refine (pdrop_ok h1 hk i).mono fun e w' ⟨v, e1, e2⟩ => ⟨v, e1, e2.out.1, (h3 (fun c => dropC c i) w').1 ?_⟩
    rw [← h2]; exact e2.out.2
theorem qDouble (h : PL w l F σ) (s i : Int) : Calls Tryd.prog 21 #[.pointer l, .int .i64 s, .int .i64 i] w fun e w' => ∃ v, e = .returned v ∧ Hid (EvIs w' v 0 (cV 3 1 (fun c => dblE c i) σ s) ∧ PQ w l F (cS (fun c => dblC c i) σ s) w') := by
  rcases side_cases σ s with ⟨code, hn⟩ | ⟨cc, k, rfl, hk, rfl⟩
  · rw [hn.v, hn.st]
    exact (pDouble_no (h.no hn) i).mono fun e w' ⟨v, e1, e2⟩ => ⟨v, e1, e2.out.1, h.same e2.out.2⟩
  · obtain ⟨lb, x, y, rfl, h1, h2, h3⟩ := h.at_ hk
    rw [cV_at hk, ← h2]
    refine (pdbl_ok h1 hk i).mono fun e w' ⟨v, e1, e2⟩ => ⟨v, e1, e2.out.1, (h3 (fun c => dblC c i) w').1 ?_⟩
    rw [← h2]; exact e2.out.2
theorem qClip (h : PL w l F σ) (s i n : Int) : Calls Tryd.prog 23 #[.pointer l, .int .i64 s, .int .i64 i, .int .i64 n] w fun e w' => ∃ v, e = .returned v ∧ Hid (EvIs w' v 0 (cV 3 1 (fun c => clipE c i n) σ s) ∧ PQ w l F (cS (fun c => clipC c i n) σ s) w') := by
  rcases side_cases σ s with ⟨code, hn⟩ | ⟨cc, k, rfl, hk, rfl⟩
  · rw [hn.v, hn.st]
    exact (pClip_no (h.no hn) i n).mono fun e w' ⟨v, e1, e2⟩ => ⟨v, e1, e2.out.1, h.same e2.out.2⟩
  · obtain ⟨lb, x, y, rfl, h1, h2, h3⟩ := h.at_ hk
    rw [cV_at hk, ← h2]
    refine (pclips_ok h1 hk i n).mono fun e w' ⟨v, e1, e2⟩ => ⟨v, e1, e2.out.1, (h3 (fun c => clipC c i n) w').1 ?_⟩
    rw [← h2]; exact e2.out.2
/-- What Carry answers and leaves. -/
def CarQ (w : World) (l : Option Addr) (F : Nat → Prop) (σ : LSt) (bs : List Int) (code : Int) (a : Option Addr) (m c : Nat) (v : Value) (w' : World) : Prop :=
  BRow w' w.heap.size (.slice a m c) bs ∧ m ≤ 8195 ∧ EvIs w' v 0 code ∧ ∃ F', PL w' l F' σ ∧ Off (fun q => l = some ⟨q, 0, none⟩) w w' ∧ (∀ b, F' b → F b ∨ (w.heap.size ≤ b ∧ b < w'.heap.size)) ∧ ∀ g, (Value.slice a m c).ownBlock = some g → ¬ F' g
theorem CarQ.q {bs : List Int} {code : Int} {a : Option Addr} {m c : Nat} {v : Value} (h : CarQ w l F σ bs code a m c v w') : PQ w l F σ w' := by
  obtain ⟨_, _, _, F', h1, h2, h3, _⟩ := h
  exact ⟨F', h1, h2, h3⟩
theorem car_ne {c : Sd} {i n : Int} (h : carE c i n ≠ 0) : carE c i n = 2 ∧ carR c i n = [] ∧ carC c i n = c := by
  refine ⟨?_, by unfold carR; rw [if_neg h], by unfold carC; rw [if_neg h]⟩
  unfold carE at h ⊢
  split
  · rename_i g; rw [if_pos g] at h; exact (h rfl).elim
  · rfl
theorem qCarry (h : PL w l F σ) (s i n : Int) : Calls Tryd.prog 12 #[.pointer l, .int .i64 s, .int .i64 i, .int .i64 n] w fun e w' => ∃ a m c v, e = .returned (.tuple #[.slice a m c, v]) ∧ Hid (CarQ w l F (cS (fun c => carC c i n) σ s) (cV [] [] (fun c => carR c i n) σ s) (cV 3 1 (fun c => carE c i n) σ s) a m c v w') := by
  rcases side_cases σ s with ⟨code, hn⟩ | ⟨cc, k, rfl, hk, rfl⟩
  · rw [hn.v, hn.st, hn.v2]
    refine (pCarry_no (h.no hn) i n).mono fun e w' ⟨v, e1, e2⟩ => ⟨none, 0, 0, v, e1, ERow.nil _ _ _ _ _, by omega, e2.out.1, F, h.below e2.out.2, Off.of_below e2.out.2, fun b hb => Or.inl hb, fun g hg => by simp [Value.ownBlock] at hg⟩
  · obtain ⟨lb, x, y, rfl, h1, h2, h3⟩ := h.at_ hk
    rw [cV_at hk, cV_at hk]
    by_cases hc : carE (csd cc k) i n = 0
    · rw [← h2] at hc
      refine (pcar_yes h1 hk i n hc).mono fun e w' ⟨N, m, e1, e2⟩ => ⟨some ⟨N, 0, none⟩, m, m, .nilIface, e1, ?_, e2.out.2.2, ?_, ?_⟩
      · rw [← h2]; exact e2.out.1
      · rw [← h2, hc]; exact Or.inl ⟨rfl, rfl⟩
      · obtain ⟨F', q1, q2, q3, q4⟩ := (h3 (fun c => carC c i n) w').2 N (by rw [← h2]; exact e2.out.2.1)
        refine ⟨F', q1, q2, q3, fun g hg => ?_⟩
        simp only [Value.ownBlock, Option.some.injEq] at hg
        subst hg; exact q4
    · obtain ⟨c1, c2, c3⟩ := car_ne hc
      rw [c1, c2]
      have hc' := hc
      rw [← h2] at hc'
      refine (pcar_no h1 hk i n hc').mono fun e w' ⟨b, e1, e2⟩ => ⟨none, 0, 0, _, e1, ERow.nil _ _ _ _ _, by omega, e2.out.1, ?_⟩
      obtain ⟨F', p1, p2, p3⟩ := (h3 (fun c => carC c i n) w').1 (by rw [c3, ← h2]; exact e2.out.2)
      exact ⟨F', p1, p2, p3, fun g hg => by simp [Value.ownBlock] at hg⟩
theorem qHalf (h : PL w l F σ) (s : Int) : Calls Tryd.prog 14 #[.pointer l, .int .i64 s] w fun e w' => e = .returned (.int .i64 (cV (-1) (-1) (fun c => c.2) σ s)) ∧ Below w.heap.size w w' := by
  rcases side_cases σ s with ⟨code, hn⟩ | ⟨cc, k, rfl, hk, rfl⟩
  · rw [hn.v2]
    exact pHalf_no (h.no hn)
  · obtain ⟨lb, x, y, rfl, h1, h2, h3⟩ := h.at_ hk
    rw [cV_at hk, ← h2]
    exact phalfs_ok h1 hk
theorem qLen (h : PL w l F σ) (s : Int) : Calls Tryd.prog 17 #[.pointer l, .int .i64 s] w fun e w' => e = .returned (.int .i64 ((cV [] [] (fun c => c.1) σ s).length : Int)) ∧ Below w.heap.size w w' := by
  rcases side_cases σ s with ⟨code, hn⟩ | ⟨cc, k, rfl, hk, rfl⟩
  · rw [hn.v2]
    exact pLen_no (h.no hn)
  · obtain ⟨lb, x, y, rfl, h1, h2, h3⟩ := h.at_ hk
    rw [cV_at hk, ← h2]
    exact (plen_ok h1 hk).mono fun e w' ⟨e1, e2⟩ => ⟨e1, by rw [e2]; exact Below.refl _ _⟩
theorem qFlight (h : PL w l F σ) (s : Int) : Calls Tryd.prog 16 #[.pointer l, .int .i64 s] w (FlQ w (cV [] [] (fun c => c.1) σ s)) := by
  rcases side_cases σ s with ⟨code, hn⟩ | ⟨cc, k, rfl, hk, rfl⟩
  · rw [hn.v2]
    exact (pFlight_no (h.no hn)).mono fun e w' ⟨e1, e2⟩ => ⟨none, 0, [], e1, ⟨ERow.nil _ _ _ _ _, rfl, fun p hp => (List.not_mem_nil hp).elim, List.Pairwise.nil⟩, e2⟩
  · obtain ⟨lb, x, y, rfl, h1, h2, h3⟩ := h.at_ hk
    rw [cV_at hk, ← h2]
    exact pfly_ok h1 hk
end
end Go.Proofs.YtpcickhellkiaaaDoor
