import Derived.Test.YtpcickhellkiaaaDoorLxOps
import Derived.Test.YtpcickhellkiaaaDoorBookAlone
import Derived.Deep.DeepCutAuto
import Derived.Test.YtpcickhellkiaaaDoorCards
import Derived.Test.YtpcickhellkiaaaDoorTie
import Derived.ProofKit
import Derived.OpenShut
import Derived.Deep.DeepHandedRow
import Derived.Deep.Slices
import Derived.Lib.LaidTab
import Derived.LaidHandle
import Derived.LaidMore
import Derived.ChangeMaps5
import Derived.SizedLaws
import Derived.Carry
/-
  LinkOwn's state: both links, the book beside them, what was told.
-/
namespace Go.Proofs.YtpcickhellkiaaaDoor
open Go.RowKit

theorem off_bo {P : Nat → Prop} {w w' : World} (h : Off P w w') : Bo.Off P w w' := ⟨h.os, h.tape, h.output, h.size, h.block⟩
theorem bo_off {P : Nat → Prop} {w w' : World} (h : Bo.Off P w w') : Off P w w' := ⟨h.os, h.tape, h.output, h.size, h.block⟩
theorem row_bo {w : World} {B : Nat} {v : Value} {xs : List Int} (h : BRow w B v xs) : Bo.Row w B v xs := by
  unfold Bo.Row Bo.u8s
  rw [← flatBm]
  exact h
/-- All that the book keeps is as it came. -/
def BkS (es : List Bo.Ent) : Prop := ∀ (i : Nat) (e : Bo.Ent), es[i]? = some e → e.old = e.bs ∧ e.bs.length ≤ 70368744177664
theorem BkS.snoc {es : List Bo.Ent} (h : BkS es) {v w : Value} {bs : List Int} (hl : bs.length ≤ 70368744177664) : BkS (es ++ [⟨v, w, bs, bs⟩]) := fun i e he => by
  rcases Nat.lt_or_ge i es.length with g | g
  · rw [List.getElem?_append_left g] at he; exact h i e he
  · rw [List.getElem?_append_right g] at he
    rcases Nat.eq_zero_or_pos (i - es.length) with g1 | g1
    · rw [g1] at he
      simp only [List.getElem?_cons_zero, Option.some.injEq] at he
      subst he; exact ⟨rfl, hl⟩
    · rw [List.getElem?_eq_none (by simp; omega)] at he; cases he
/-- Both links and the book, since X1: what has been written since is the book's alone. -/
structure KS (w0 X1 : World) (l : Option Addr) (rb : Nat) (F G : Nat → Prop) (σ : LSt) (K : Nat) (ρ1 ρ : Nat → Nat) (es : List Bo.Ent) (X : World) : Prop where
  pr : PR w0 X l rb F G σ σ
  ok : SOk σ
  bk : ∃ vb vw, Bo.Bk X w0.heap.size K ρ vb vw es
  bo : BkS es
  ap : ∀ q, F q ∨ PRw l rb G q → ρ q = 0 ∧ q < X1.heap.size
  off : Off (fun q => ρ1 q ≠ 0) X1 X
  rl : ∀ q, q < X1.heap.size → ρ1 q = 0 → ρ q = 0
  lo : ∀ q, ρ q ≠ 0 → w0.heap.size ≤ q
section
variable {w0 X1 X Y : World} {l : Option Addr} {rb : Nat} {F G : Nat → Prop} {σ : LSt} {K : Nat} {ρ1 ρ : Nat → Nat} {es : List Bo.Ent}
theorem KS.below (h : KS w0 X1 l rb F G σ K ρ1 ρ es X) (hb : Below X.heap.size X Y) : KS w0 X1 l rb F G σ K ρ1 ρ es Y := by
  obtain ⟨vb, vw, hk⟩ := h.bk
  exact ⟨h.pr.below hb, h.ok, ⟨vb, vw, hk.off (off_bo (Off.of_below (P := fun _ => False) hb)) (fun _ e => e.elim)⟩, h.bo, h.ap, h.off.trans (Off.of_below hb), h.rl, h.lo⟩
/-- A block that is none of theirs, made since X1, is written. -/
theorem KS.write {P : Nat → Prop} (h : KS w0 X1 l rb F G σ K ρ1 ρ es X) (o : Off P X Y) (hP : ∀ q, P q → X1.heap.size ≤ q ∧ ρ q = 0) : KS w0 X1 l rb F G σ K ρ1 ρ es Y := by
  obtain ⟨vb, vw, hk⟩ := h.bk
  have hs := h.off.size
  have hb := h.pr.b.size
  refine ⟨h.pr.write o (fun q e => ?_) (fun q e => ⟨fun g => ?_, fun g => ?_⟩), h.ok, ⟨vb, vw, hk.off (off_bo o) (fun q e => (hP q e).2)⟩, h.bo, h.ap, h.off.join o (fun q hq e => ?_), h.rl, h.lo⟩
  · have h1 := (hP q e).1
    have h2 : w0.heap.size ≤ X1.heap.size := by
      have h3 := h.pr.lo rb (Or.inr (Or.inr rfl))
      have h4 := (h.ap rb (Or.inr (Or.inr (Or.inl rfl)))).2
      omega
    omega
  · have := (h.ap q (Or.inl g)).2; have := (hP q e).1; omega
  · have := (h.ap q (Or.inr g)).2; have := (hP q e).1; omega
  · have := (hP q e).1; omega
theorem kTake (h : KS w0 X1 l rb F G σ K ρ1 ρ es X) {B : Nat} {a : Option Addr} {n c : Nat} {bs : List Int} (hr : BRow X B (.slice a n c) bs) (hB : w0.heap.size ≤ B) (hn : n ≤ 8195) (hz : ∀ g, (Value.slice a n c).ownBlock = some g → ρ g = 0 ∧ X1.heap.size ≤ g) (hl : es.length ≤ 2000) : Calls Tryd.prog 55 #[.pointer (some ⟨K, 0, none⟩), .slice a n c] X fun e w' => e = .returned (.tuple #[]) ∧ Hid (∃ ρ' es', KS w0 X1 l rb F G σ K ρ1 ρ' es' w' ∧ es'.length = es.length + 1 ∧ Off (fun q => ρ q = 1 ∨ ρ q = 2 ∨ ρ q = 3) X w' ∧ (∀ q, q < X.heap.size → (Value.slice a n c).ownBlock ≠ some q → ρ' q = ρ q) ∧ ∀ q, (Value.slice a n c).ownBlock = some q → 6 ≤ ρ' q) := by
  obtain ⟨vb, vw, hk⟩ := h.bk
  have hlen := ERow.len hr
  refine (Bo.Take_any hk (row_bo (ERow.base hr hB)) (fun g hg => (hz g hg).1) (by omega) (by omega)).mono fun e w' ⟨e1, ρ', vb', vw', was, q1, q2, q3⟩ => ⟨e1, ρ', es ++ [⟨.slice a n c, was, bs, bs⟩], ?_, by simp, bo_off q2, q3, fun q hq => by
    have := q1.pval es.length ⟨.slice a n c, was, bs, bs⟩ (by simp) q hq
    omega⟩
  have o := bo_off q2
  have hx := h.off.size
  have hrole : ∀ q, q < X.heap.size → ρ q = 0 → (Value.slice a n c).ownBlock ≠ some q → ρ' q = 0 := fun q h1 h2 h3 => by rw [q3 q h1 h3]; exact h2
  refine ⟨?_, h.ok, ⟨vb', vw', q1⟩, h.bo.snoc (by omega), fun q hq => ?_, h.off.join o (fun q hq e g => ?_), fun q hq h0 => ?_, fun q hq => ?_⟩
  · have key : ∀ q, F q ∨ PRw l rb G q → ¬ (ρ q = 1 ∨ ρ q = 2 ∨ ρ q = 3) := fun q hq => by have := (h.ap q hq).1; omega
    refine h.pr.write o (fun q e => ?_) (fun q e => ⟨fun g => key q (Or.inl g) e, fun g => key q (Or.inr g) e⟩)
    exact h.lo q (by omega)
  · have h1 := h.ap q hq
    exact ⟨hrole q (by omega) h1.1 fun e => by have := (hz q e).2; omega, h1.2⟩
  · have := h.rl q hq g; omega
  · exact hrole q (by omega) (h.rl q hq h0) fun e => by have := (hz q e).2; omega
  · have hb := h.pr.b.size
    rcases Nat.lt_or_ge q X.heap.size with g | g
    · by_cases e : (Value.slice a n c).ownBlock = some q
      · have := (ERow.lt hr e).1; omega
      · rw [q3 q g e] at hq; exact h.lo q hq
    · omega
theorem kStill (h : KS w0 X1 l rb F G σ K ρ1 ρ es X) (hl : es.length ≤ 2000) : Calls Tryd.prog 56 #[.pointer (some ⟨K, 0, none⟩)] X fun e w' => e = .returned (.bool true) ∧ Hid (KS w0 X1 l rb F G σ K ρ1 ρ es w') := by
  obtain ⟨vb, vw, hk⟩ := h.bk
  exact (Bo.Still_true hk h.bo (by omega)).mono fun e w' ⟨e1, k, e2⟩ => ⟨e1, by rw [e2]; exact h.below (below_drewN (Below.refl _ _) k)⟩
theorem kAlone (h : KS w0 X1 l rb F G σ K ρ1 ρ es X) (hl : es.length ≤ 2000) (hK1 : ρ1 K ≠ 0) : Calls Tryd.prog 28 #[.pointer (some ⟨K, 0, none⟩)] X fun e w' => e = .returned (.bool true) ∧ Hid (∃ ρ', KS w0 X1 l rb F G σ K ρ1 ρ' [] w') := by
  obtain ⟨vb, vw, hk⟩ := h.bk
  refine (Bo.Alone_true hk h.bo (by omega)).mono fun e w' ⟨e1, q1, q2⟩ => ⟨e1, fun k => if k = K then 1 else 0, ?_⟩
  have o := bo_off q2
  have key : ∀ q, F q ∨ PRw l rb G q → ¬ (ρ q = 1 ∨ ∃ j, ρ q = 6 + 2 * j) := fun q hq => by
    have := (h.ap q hq).1
    rintro (e | ⟨j, e⟩) <;> omega
  refine ⟨h.pr.write o (fun q e => h.lo q ?_) (fun q e => ⟨fun g => key q (Or.inl g) e, fun g => key q (Or.inr g) e⟩), h.ok, ⟨_, _, q1⟩, fun i e he => (by cases he), fun q hq => ⟨?_, (h.ap q hq).2⟩, h.off.join o (fun q hq e g => ?_), fun q hq h0 => ?_, fun q hq => ?_⟩
  · rcases e with e | ⟨j, e⟩ <;> omega
  · show (if q = K then 1 else 0) = 0
    rw [if_neg fun e => by have := (h.ap q hq).1; have := hk.pK; rw [e] at *; omega]
  · have := h.rl q hq g
    rcases e with e | ⟨j, e⟩ <;> omega
  · show (if q = K then 1 else 0) = 0
    rw [if_neg fun e => hK1 (by rw [← e]; exact h0)]
  · have e : q = K := by
      by_cases e : q = K
      · exact e
      · exact (hq (by show (if q = K then 1 else 0) = 0; rw [if_neg e])).elim
    have := hk.pK
    rw [e]
    exact h.lo K (by omega)
theorem kStands (h : KS w0 X1 l rb F G σ K ρ1 ρ es X) (s : Int) : Calls Tryd.prog 25 #[.pointer l, .pointer (some ⟨rb, 0, none⟩), .int .i64 s] X fun e w' => e = .returned (.bool true) ∧ Hid (KS w0 X1 l rb F G σ K ρ1 ρ es w') :=
  (stands_any h.pr h.ok s).mono fun _ _ ⟨e1, e2⟩ => ⟨e1, h.below e2⟩
/-- The book's list, as its length is asked. -/
theorem KS.bytes (h : KS w0 X1 l rb F G σ K ρ1 ρ es X) : ∃ a c, X.cell? ⟨K, 0, none⟩ = some (.slice a es.length c) := by
  obtain ⟨vb, vw, hk⟩ := h.bk
  obtain ⟨a, c, e, _⟩ := hk.rb.isSlice
  rw [List.length_map] at e
  exact ⟨a, c, by rw [← e]; exact hk.c0⟩
end
end Go.Proofs.YtpcickhellkiaaaDoor

/-
  LinkOwn: the two lists that Flight told, beside both links and the book.
-/
namespace Go.Proofs.YtpcickhellkiaaaDoor
open Go.RowKit

/-- Two lists of new texts of the same bytes, all apart; from place i on none is in the book. -/
structure TI (X1 : World) (ρ : Nat → Nat) (i j : Nat) (ax ay : Option Addr) (n cx cy : Nat) (lx ly : List Pc) (t : List (List Int)) (X : World) : Prop where
  fx : FlL X X1.heap.size (.slice ax n cx) lx t
  fy : FlL X X1.heap.size (.slice ay n cy) ly t
  xy : ∀ p ∈ lx, ∀ q ∈ ly, p.a ≠ q.a
  rx : ∀ (m : Nat) (p : Pc), i ≤ m → lx[m]? = some p → ∀ b, p.a = some ⟨b, 0, none⟩ → ρ b = 0
  ry : ∀ (m : Nat) (p : Pc), j ≤ m → ly[m]? = some p → ∀ b, p.a = some ⟨b, 0, none⟩ → ρ b = 0
  tx : ∀ (m : Nat) (p : Pc), lx[m]? = some p → ∀ b, p.a = some ⟨b, 0, none⟩ → ρ b = 0 ∨ 6 ≤ ρ b
  ty : ∀ (m : Nat) (p : Pc), ly[m]? = some p → ∀ b, p.a = some ⟨b, 0, none⟩ → ρ b = 0 ∨ 6 ≤ ρ b
  gx : ∀ g, (Value.slice ax n cx).ownBlock = some g → ρ g = 0
  gy : ∀ g, (Value.slice ay n cy).ownBlock = some g → ρ g = 0
  gg : ∀ g, (Value.slice ax n cx).ownBlock = some g → (Value.slice ay n cy).ownBlock ≠ some g
section
variable {w0 X1 X Y : World} {l : Option Addr} {rb : Nat} {F G : Nat → Prop} {σ : LSt} {K : Nat} {ρ1 ρ ρ' : Nat → Nat} {es : List Bo.Ent} {i j : Nat} {ax ay : Option Addr} {n cx cy : Nat} {lx ly : List Pc} {t : List (List Int)}
theorem FlL.foff {P : Nat → Prop} {n₀ : Nat} {v : Value} {ls : List Pc} (h : FlL X n₀ v ls t) (o : Off P X Y) (h1 : ∀ g, v.ownBlock = some g → ¬ P g) (h2 : ∀ (j : Nat) (p : Pc), ls[j]? = some p → ∀ b, p.a = some ⟨b, 0, none⟩ → ¬ P b) : FlL Y n₀ v ls t := by
  refine ⟨ERow.off h.row o h1, h.bs, fun p hp => ⟨⟨ERow.off (h.pcs p hp).1.1 o fun g hg => ?_, (h.pcs p hp).1.2⟩, (h.pcs p hp).2⟩, h.ap⟩
  obtain ⟨b, hb⟩ := (h.pcs p hp).2
  obtain ⟨j, hj, e⟩ := List.mem_iff_getElem.1 hp
  rw [hb] at hg
  simp only [Value.ownBlock, Option.some.injEq] at hg
  subst hg
  exact h2 j p (by rw [List.getElem?_eq_getElem hj, e]) b hb
theorem TI.below (h : TI X1 ρ i j ax ay n cx cy lx ly t X) (hb : Below X.heap.size X Y) : TI X1 ρ i j ax ay n cx cy lx ly t Y := ⟨h.fx.below hb, h.fy.below hb, h.xy, h.rx, h.ry, h.tx, h.ty, h.gx, h.gy, h.gg⟩
theorem pw_ne {ls : List Pc} (h : ls.Pairwise fun p q => p.a ≠ q.a) {i j : Nat} {p q : Pc} (hi : ls[i]? = some p) (hj : ls[j]? = some q) (hne : i ≠ j) : p.a ≠ q.a := by
  obtain ⟨h1, e1⟩ := List.getElem?_eq_some_iff.1 hi
  obtain ⟨h2, e2⟩ := List.getElem?_eq_some_iff.1 hj
  subst e1; subst e2
  rw [List.pairwise_iff_getElem] at h
  rcases Nat.lt_or_ge i j with g | g
  · exact h i j h1 h2 g
  · exact fun e => h j i h2 h1 (by omega) e.symm
/-- Where a text of a told list lies. -/
theorem FlL.text {n₀ : Nat} {v : Value} {ls : List Pc} (h : FlL X n₀ v ls t) {j : Nat} {p : Pc} (hp : ls[j]? = some p) : ∃ b, p.a = some ⟨b, 0, none⟩ ∧ BRow X n₀ (.slice (some ⟨b, 0, none⟩) p.n p.c) p.bs ∧ p.n ≤ 8195 ∧ n₀ ≤ b ∧ b < X.heap.size ∧ ∃ cs, X.heap[b]? = some (.cells cs 5 (0, 0)) := by
  obtain ⟨hok, b, eb⟩ := h.pcs p (List.mem_of_getElem? hp)
  have hr := hok.1
  rw [eb] at hr
  have hl := ERow.lt hr (g := b) rfl
  exact ⟨b, eb, hr, hok.2, hl.1, hl.2, row_b hr rfl⟩
theorem FlL.cell_ {n₀ : Nat} {a : Option Addr} {n c : Nat} {ls : List Pc} (h : FlL X n₀ (.slice a n c) ls t) {j : Nat} (hj : j < n) : ∃ g p, a = some ⟨g, 0, none⟩ ∧ ls[j]? = some p ∧ X.cell? ⟨g, j, none⟩ = some (.slice p.a p.n p.c) ∧ X.frozen? ⟨g, j, none⟩ = false := by
  have hl := ERow.len h.row
  obtain ⟨p, hp⟩ : ∃ p, ls[j]? = some p := ⟨_, List.getElem?_eq_getElem (by omega)⟩
  obtain ⟨g, eg, hg, hc⟩ := ERow.at_ encPc_len h.row hp
  have d1 := hc 0 (by decide)
  simp only [encPc, List.getElem?_cons_zero, Nat.mul_one, Nat.add_zero] at d1
  subst eg
  exact ⟨g, p, rfl, hp, d1, ERow.thaw h.row j⟩
theorem X1_lo (hK : KS w0 X1 l rb F G σ K ρ1 ρ es X) : w0.heap.size ≤ X1.heap.size := by
  have h3 := hK.pr.lo rb (Or.inr (Or.inr rfl))
  have h4 := (hK.ap rb (Or.inr (Or.inr (Or.inl rfl)))).2
  omega
/-- A text of the first list is taken. -/
theorem tkX (hK : KS w0 X1 l rb F G σ K ρ1 ρ es X) (h : TI X1 ρ i j ax ay n cx cy lx ly t X) (hl : es.length ≤ 2000) {p : Pc} (hp : lx[i]? = some p) : Calls Tryd.prog 55 #[.pointer (some ⟨K, 0, none⟩), .slice p.a p.n p.c] X fun e w' => e = .returned (.tuple #[]) ∧ Hid (∃ ρ' es', KS w0 X1 l rb F G σ K ρ1 ρ' es' w' ∧ es'.length = es.length + 1 ∧ TI X1 ρ' (i + 1) j ax ay n cx cy lx ly t w') := by
  obtain ⟨b, eb, hr, hn, hb1, hb2, cs, hbt⟩ := h.fx.text hp
  rw [eb]
  refine (kTake hK hr (X1_lo hK) hn (fun g hg => ?_) hl).mono fun e w' ⟨e1, e2⟩ => ⟨e1, ?_⟩
  · simp only [Value.ownBlock, Option.some.injEq] at hg
    subst hg
    exact ⟨h.rx i p (Nat.le_refl _) hp b eb, hb1⟩
  · obtain ⟨ρ', es', k1, k2, k3, k4, k5⟩ := e2.out
    have k4' : ∀ q, q < X.heap.size → q ≠ b → ρ' q = ρ q := fun q h1 h2 => k4 q h1 (fun e => by simp only [Value.ownBlock, Option.some.injEq] at e; exact h2 e.symm)
    have k5' : 6 ≤ ρ' b := k5 b rfl
    have nrow : ∀ {a : Option Addr} {n c : Nat} {ls : List Pc}, FlL X X1.heap.size (.slice a n c) ls t → ∀ g, (Value.slice a n c).ownBlock = some g → g ≠ b ∧ g < X.heap.size := fun {a n c ls} hf g hg => by
      refine ⟨fun e => ?_, (ERow.lt hf.row hg).2⟩
      obtain ⟨cs2, e2⟩ := row_pc hf.row hg
      rw [e, hbt] at e2
      simp at e2
    have n3 : ∀ q, ρ q = 0 ∨ 6 ≤ ρ q → ¬ (ρ q = 1 ∨ ρ q = 2 ∨ ρ q = 3) := fun q hq => by omega
    refine ⟨ρ', es', k1, k2, ⟨h.fx.foff k3 (fun g hg => n3 g (Or.inl (h.gx g hg))) (fun m p' hp' b' hb' => n3 b' (h.tx m p' hp' b' hb')), h.fy.foff k3 (fun g hg => n3 g (Or.inl (h.gy g hg))) (fun m p' hp' b' hb' => n3 b' (h.ty m p' hp' b' hb')), h.xy, fun m p' hm hp' b' hb' => ?_, fun m p' hm hp' b' hb' => ?_, fun m p' hp' b' hb' => ?_, fun m p' hp' b' hb' => ?_, fun g hg => ?_, fun g hg => ?_, h.gg⟩⟩
    · have hne : b' ≠ b := fun e => pw_ne h.fx.ap hp' hp (by omega) (by rw [hb', eb, e])
      obtain ⟨b2, e2, _, _, _, h5, _⟩ := h.fx.text hp'
      rw [hb'] at e2; injection e2 with e2; injection e2 with e2; subst e2
      rw [k4' b' h5 hne]
      exact h.rx m p' (by omega) hp' b' hb'
    · have hne : b' ≠ b := fun e => h.xy p (List.mem_of_getElem? hp) p' (List.mem_of_getElem? hp') (by rw [hb', eb, e])
      obtain ⟨b2, e2, _, _, _, h5, _⟩ := h.fy.text hp'
      rw [hb'] at e2; injection e2 with e2; injection e2 with e2; subst e2
      rw [k4' b' h5 hne]
      exact h.ry m p' hm hp' b' hb'
    · by_cases hne : b' = b
      · subst hne; exact Or.inr k5'
      · obtain ⟨b2, e2, _, _, _, h5, _⟩ := h.fx.text hp'
        rw [hb'] at e2; injection e2 with e2; injection e2 with e2; subst e2
        rw [k4' b' h5 hne]
        exact h.tx m p' hp' b' hb'
    · by_cases hne : b' = b
      · subst hne; exact Or.inr k5'
      · obtain ⟨b2, e2, _, _, _, h5, _⟩ := h.fy.text hp'
        rw [hb'] at e2; injection e2 with e2; injection e2 with e2; subst e2
        rw [k4' b' h5 hne]
        exact h.ty m p' hp' b' hb'
    · have := nrow h.fx g hg
      rw [k4' g this.2 this.1]; exact h.gx g hg
    · have := nrow h.fy g hg
      rw [k4' g this.2 this.1]; exact h.gy g hg
theorem TI.swap (h : TI X1 ρ i j ax ay n cx cy lx ly t X) : TI X1 ρ j i ay ax n cy cx ly lx t X := ⟨h.fy, h.fx, fun p hp q hq e => h.xy q hq p hp e.symm, h.ry, h.rx, h.ty, h.tx, h.gy, h.gx, fun g h1 h2 => h.gg g h2 h1⟩
theorem tkY (hK : KS w0 X1 l rb F G σ K ρ1 ρ es X) (h : TI X1 ρ i j ax ay n cx cy lx ly t X) (hl : es.length ≤ 2000) {p : Pc} (hp : ly[j]? = some p) : Calls Tryd.prog 55 #[.pointer (some ⟨K, 0, none⟩), .slice p.a p.n p.c] X fun e w' => e = .returned (.tuple #[]) ∧ Hid (∃ ρ' es', KS w0 X1 l rb F G σ K ρ1 ρ' es' w' ∧ es'.length = es.length + 1 ∧ TI X1 ρ' i (j + 1) ax ay n cx cy lx ly t w') :=
  (tkX hK h.swap hl hp).mono fun e w' ⟨e1, e2⟩ => ⟨e1, by
    obtain ⟨ρ', es', k1, k2, k3⟩ := e2.out
    exact ⟨ρ', es', k1, k2, k3.swap⟩⟩
/-! ### lists that are written over and grown -/
/-- A list's block may be written at its first n places. -/
def Wrt (w : World) (q n : Nat) : Prop := ∃ cs, w.heap[q]? = some (.cells cs 27 (0, 0)) ∧ n ≤ cs.size
theorem Wrt.cell {q n m : Nat} (h : Wrt X q n) (hm : m < n) : (∃ u, X.cell? ⟨q, m, none⟩ = some u) ∧ X.frozen? ⟨q, m, none⟩ = false := by
  obtain ⟨cs, e, hn⟩ := h
  exact ⟨⟨cs[m]'(by omega), by rw [hcell e]; exact Array.getElem?_eq_getElem (by omega)⟩, hfroz e m⟩
theorem Wrt.put {q n m : Nat} (h : Wrt X q n) (v : Value) : Wrt (X.setCell ⟨q, m, none⟩ v) q n := by
  obtain ⟨cs, e, hn⟩ := h
  exact ⟨_, set_heap e m v, by simpa using hn⟩
theorem wrt_row {B : Nat} {a : Option Addr} {n c : Nat} {ls : List Pc} (h : PcRow X B (.slice a n c) ls) {q : Nat} (hq : (Value.slice a n c).ownBlock = some q) : Wrt X q n := by
  have hn := ERow.len h
  rcases h.2 with ⟨e, _⟩ | ⟨g1, c1, u1, e, _, b1, h3, _, h5, _⟩
  · rw [e] at hq; cases hq
  · rw [e] at hq
    simp only [Value.ownBlock, Option.some.injEq] at hq
    subst hq
    exact ⟨u1, b1, by simp at h5; omega⟩
/-- A list that grows: where it lies, what else may have been written. -/
structure GI (w0 X5 : World) (xv : Value) (n i : Nat) (v : Value) (wx : World) : Prop where
  row : ∃ us : List Value, us.length = n + i ∧ Bo.VRow wx w0.heap.size 27 v us
  own : ∀ g, v.ownBlock = some g → xv.ownBlock = some g ∨ X5.heap.size ≤ g
  off : Off (fun q => xv.ownBlock = some q) X5 wx
  wr : ∀ q, xv.ownBlock = some q → Wrt wx q n
theorem flat_pc (ls : List Pc) : ls.flatMap encPc = ls.map fun p => Value.slice p.a p.n p.c := by
  induction ls with
  | nil => rfl
  | cons y r ih => rw [List.flatMap_cons, ih]; rfl
theorem vrow_pc {B : Nat} {v : Value} {ls : List Pc} (h : PcRow X B v ls) : Bo.VRow X B 27 v (ls.map fun p => .slice p.a p.n p.c) := by
  unfold Bo.VRow
  rw [List.length_map]
  have e := flat_pc ls
  rw [← e]
  exact h
theorem GI.start {X5 : World} {a : Option Addr} {n c : Nat} {ls : List Pc} {B : Nat} (h : PcRow X5 B (.slice a n c) ls) (hB : w0.heap.size ≤ B) : GI w0 X5 (.slice a n c) n 0 (.slice a n c) X5 :=
  ⟨⟨_, by rw [List.length_map]; exact (ERow.len h).symm, vrow_pc (ERow.base h hB)⟩, fun g hg => Or.inl hg, Off.refl _ _, fun q hq => wrt_row h hq⟩
theorem GI.push {X5 wx : World} {xv : Value} {n i : Nat} {v : Value} (h : GI w0 X5 xv n i v wx) (hw : w0.heap.size ≤ X5.heap.size) (hn : n + i ≤ 1000) : ∃ a' c' W2, (Builtin.append_ #[22, 22] 22 #[v, .slice (some ⟨wx.heap.size, 0, none⟩) 1 1]).run Tryd.prog (wx.alloc (.cells #[.slice none 0 0] 27)) = .ok (.slice a' (n + i + 1) c') W2 ∧ Hid (GI w0 X5 xv n (i + 1) (.slice a' (n + i + 1) c') W2) := by
  obtain ⟨us, hu, hr⟩ := h.row
  have b1 := (Below.refl wx.heap.size wx).alloc (Nat.le_refl _) (.cells #[.slice none 0 0] 27)
  obtain ⟨ti, hti, hz, hs, hby⟩ := Bo.slinfo
  have h5 := h.off.size
  have hrow : Bo.VRow (wx.alloc (.cells #[.slice none 0 0] 27)) w0.heap.size 27 v us := hr.keep (fun g e => b1.block g (hr.lt e).2)
  obtain ⟨v', W2, hap, r2, p⟩ := Bo.run_append_two (P := Tryd.prog) (wx.alloc (.cells #[.slice none 0 0] 27)) w0.heap.size 22 22 27 ti _ 24 Tryd.underlying22 hti hz hs hby rfl v us hrow ⟨wx.heap.size, 0, none⟩ 1 1 [.slice none 0 0] rfl (fun m u hm => by
    rw [show (⟨wx.heap.size, 0, none⟩ : Addr).add m = ⟨wx.heap.size, m, none⟩ by rw [Addr.add_lit, Nat.zero_add], cell_new]
    simpa using hm) (fun u hm => by simp only [List.mem_singleton] at hm; subst hm; rfl) (by unfold maxLen; omega) (by omega) (by simp; omega)
  have hlen : (us ++ [Value.slice none 0 0]).length = n + (i + 1) := by rw [List.length_append]; simp; omega
  cases p with
  | idle hv hm hw => omega
  | same g cap hv hv' hg =>
    rw [hu] at hv'
    subst hv'
    refine ⟨some ⟨g, 0, none⟩, cap, W2, hap, ⟨⟨_, hlen, r2⟩, fun g' hg' => ?_, ?_, fun q hq => ?_⟩⟩
    · exact h.own g' (by rw [hv]; exact hg')
    · refine h.off.join ((Off.of_below (P := fun q => q = g) b1).trans ((Off.of_grown hg).mono fun q e => (Option.some.inj e).symm)) (fun q hq e => ?_)
      rcases h.own g (by rw [hv]; rfl) with e' | e'
      · rw [e]; exact e'
      · omega
    · by_cases e : q = g
      · subst e
        rcases r2.2 with ⟨e1, _⟩ | ⟨g1, c1, u1, e1, _, b2, h3, _, h6, _⟩
        · cases e1
        · simp only [Value.slice.injEq, Option.some.injEq, Addr.mk.injEq, and_true] at e1
          obtain ⟨e1, e2, e3⟩ := e1
          subst e1
          exact ⟨u1, b2, by simp at h6; omega⟩
      · obtain ⟨cs, e1, e2⟩ := h.wr q hq
        have hl := blk_lt e1
        refine ⟨cs, ?_, e2⟩
        rw [hg.block q (by simp; omega) (fun e' => by injection e' with e'; exact e e'), b1.block q hl, e1]
  | fresh cap hv' hg hsz =>
    rw [hu] at hv'
    subst hv'
    refine ⟨_, cap, W2, hap, ⟨⟨_, hlen, r2⟩, fun g' hg' => ?_, ?_, fun q hq => ?_⟩⟩
    · simp only [Value.ownBlock, Option.some.injEq, World.size_alloc] at hg'
      exact Or.inr (by omega)
    · exact h.off.trans ((Off.of_below b1).trans ((Off.of_grown hg).mono fun q e => by cases e))
    · obtain ⟨cs, e1, e2⟩ := h.wr q hq
      have hl := blk_lt e1
      refine ⟨cs, ?_, e2⟩
      rw [hg.block q (by simp; omega) (fun e' => by cases e'), b1.block q hl, e1]
end
end Go.Proofs.YtpcickhellkiaaaDoor

/-
  LinkOwn: both links and the book from call to call.
-/
namespace Go.Proofs.YtpcickhellkiaaaDoor
open Go.RowKit

/-- Both links, the book. -/
structure OB (w0 X : World) (l : Option Addr) (rb : Nat) (F G : Nat → Prop) (σ : LSt) (K : Nat) (ρ : Nat → Nat) (es : List Bo.Ent) : Prop where
  pr : PR w0 X l rb F G σ σ
  ok : SOk σ
  bk : ∃ vb vw, Bo.Bk X w0.heap.size K ρ vb vw es
  bo : BkS es
  ap : ∀ q, F q ∨ PRw l rb G q → ρ q = 0
  lo : ∀ q, ρ q ≠ 0 → w0.heap.size ≤ q
/-- What is left of them behind some calls that began at V. -/
def OBq (w0 V : World) (l : Option Addr) (rb : Nat) (F G : Nat → Prop) (K : Nat) (ρ : Nat → Nat) (n : Nat) (X : World) : Prop :=
  ∃ F' G' σ' ρ' es', OB w0 X l rb F' G' σ' K ρ' es' ∧ es'.length ≤ n ∧ Off (fun q => PRw l rb G q ∨ ρ q ≠ 0) V X ∧ (∀ b, F' b → F b ∨ V.heap.size ≤ b) ∧ (∀ b, G' b → G b ∨ V.heap.size ≤ b) ∧ ∀ q, q < V.heap.size → ρ q = 0 → ρ' q = 0
section
variable {w0 V X Y : World} {l : Option Addr} {rb : Nat} {F G : Nat → Prop} {σ σ' : LSt} {K : Nat} {ρ : Nat → Nat} {es : List Bo.Ent} {n : Nat}
theorem OB.below (h : OB w0 X l rb F G σ K ρ es) (hb : Below X.heap.size X Y) : OB w0 Y l rb F G σ K ρ es := by
  obtain ⟨vb, vw, hk⟩ := h.bk
  exact ⟨h.pr.below hb, h.ok, ⟨vb, vw, hk.off (off_bo (Off.of_below (P := fun _ => False) hb)) (fun _ e => e.elim)⟩, h.bo, h.ap, h.lo⟩
theorem OB.lt (h : OB w0 X l rb F G σ K ρ es) {q : Nat} (hq : F q ∨ PRw l rb G q) : q < X.heap.size := by
  rcases hq with e | e
  · exact h.pr.pl.lt.1 q e
  · exact (h.pr.wlt e).1
theorem OB.new (h : OB w0 X l rb F G σ K ρ es) {q : Nat} (hq : X.heap.size ≤ q) : ρ q = 0 := by
  obtain ⟨vb, vw, hk⟩ := h.bk
  exact hk.new q hq
theorem OB.kK (h : OB w0 X l rb F G σ K ρ es) : ρ K = 1 := by
  obtain ⟨vb, vw, hk⟩ := h.bk
  exact hk.pK
theorem OB.ks (h : OB w0 X l rb F G σ K ρ es) : KS w0 X l rb F G σ K ρ ρ es X := ⟨h.pr, h.ok, h.bk, h.bo, fun q hq => ⟨h.ap q hq, h.lt hq⟩, Off.refl _ _, fun _ _ e => e, h.lo⟩
theorem KS.ob {X1 : World} {ρ1 : Nat → Nat} (h : KS w0 X1 l rb F G σ K ρ1 ρ es X) : OB w0 X l rb F G σ K ρ es := ⟨h.pr, h.ok, h.bk, h.bo, fun q hq => (h.ap q hq).1, h.lo⟩
/-- Behind the links' own calls. -/
theorem OB.step {F' G' : Nat → Prop} (h : OB w0 V l rb F G σ K ρ es) (h1 : PR w0 X l rb F' G' σ' σ') (ho : SOk σ') (h2 : Off (PRw l rb G) V X) (h3 : ∀ b, F' b → F b ∨ (V.heap.size ≤ b ∧ b < X.heap.size)) (h4 : ∀ b, G' b → G b ∨ (V.heap.size ≤ b ∧ b < X.heap.size)) : OB w0 X l rb F' G' σ' K ρ es := by
  obtain ⟨vb, vw, hk⟩ := h.bk
  refine ⟨h1, ho, ⟨vb, vw, hk.off (off_bo h2) (fun q e => h.ap q (Or.inr e))⟩, h.bo, fun q hq => ?_, h.lo⟩
  rcases hq with e | e | e | e
  · rcases h3 q e with g | g
    · exact h.ap q (Or.inl g)
    · exact h.new g.1
  · rcases h4 q e with g | g
    · exact h.ap q (Or.inr (Or.inl g))
    · exact h.new g.1
  · exact h.ap q (Or.inr (Or.inr (Or.inl e)))
  · exact h.ap q (Or.inr (Or.inr (Or.inr e)))
theorem OB.q (h : OB w0 V l rb F G σ K ρ es) (hq : PRq w0 V l rb F G σ' σ' X) (ho : SOk σ') (hn : es.length ≤ n) : OBq w0 V l rb F G K ρ n X := by
  obtain ⟨F', G', h1, h2, h3, h4⟩ := hq
  exact ⟨F', G', σ', ρ, es, h.step h1 ho h2 h3 h4, hn, h2.mono fun q e => Or.inl e, fun b hb => (h3 b hb).imp id And.left, fun b hb => (h4 b hb).imp id And.left, fun _ _ e => e⟩
theorem obTake (h : OB w0 V l rb F G σ K ρ es) {B m c : Nat} {a : Option Addr} {bs : List Int} (hc : CJ w0 V l rb F G σ' σ' B a m c bs X) (hB : V.heap.size ≤ B) (ho : SOk σ') (hn : es.length ≤ 60) : Calls Tryd.prog 55 #[.pointer (some ⟨K, 0, none⟩), .slice a m c] X fun e w' => e = .returned (.tuple #[]) ∧ Hid (OBq w0 V l rb F G K ρ 61 w') := by
  obtain ⟨F', G', h1, h2, h3, h4, h5, h6, h7⟩ := hc
  have hob := h.step h1 ho h2 h3 h4
  obtain ⟨vb, vw, hk⟩ := hob.bk
  have hw : w0.heap.size ≤ V.heap.size := h.pr.b.size
  have hlen := ERow.len h5
  refine (Bo.Take_any hk (row_bo (ERow.base h5 (by omega))) (fun g hg => h.new (by have := (ERow.lt h5 hg).1; omega)) (by omega) (by omega)).mono fun e w' ⟨e1, ρ', vb', vw', was, q1, q2, q3⟩ => ⟨e1, ?_⟩
  have o := bo_off q2
  have s2 := h2.size
  have hrole : ∀ q, q < X.heap.size → ρ q = 0 → (Value.slice a m c).ownBlock ≠ some q → ρ' q = 0 := fun q g1 g2 g3 => by rw [q3 q g1 g3]; exact g2
  have key : ∀ q, F' q ∨ PRw l rb G' q → ¬ (ρ q = 1 ∨ ρ q = 2 ∨ ρ q = 3) := fun q hq => by have := hob.ap q hq; omega
  refine ⟨F', G', σ', ρ', es ++ [⟨.slice a m c, was, bs, bs⟩], ⟨h1.write o (fun q e => hob.lo q (by omega)) (fun q e => ⟨fun g => key q (Or.inl g) e, fun g => key q (Or.inr g) e⟩), ho, ⟨vb', vw', q1⟩, hob.bo.snoc (by omega), fun q hq => hrole q (hob.lt hq) (hob.ap q hq) fun e => ?_, fun q hq => ?_⟩, by rw [List.length_append]; simp; omega, ?_, fun b hb => (h3 b hb).imp id And.left, fun b hb => (h4 b hb).imp id And.left, fun q hq h0 => hrole q (by omega) h0 fun e => by have := (ERow.lt h5 e).1; omega⟩
  · rcases hq with g | g
    · exact (h7 q e).1 g
    · exact (h7 q e).2 g
  · rcases Nat.lt_or_ge q X.heap.size with g | g
    · by_cases e : (Value.slice a m c).ownBlock = some q
      · have := (ERow.lt h5 e).1; omega
      · rw [q3 q g e] at hq; exact h.lo q hq
    · omega
  · exact (h2.mono fun q e => Or.inl e).trans (o.mono fun q e => Or.inr (by omega))
theorem OBq.cell {q : Nat} (h : OBq w0 V l rb F G K ρ n X) (hq : q < V.heap.size) (hP : ¬ PRw l rb G q) (h0 : ρ q = 0) (j : Nat) : X.cell? ⟨q, j, none⟩ = V.cell? ⟨q, j, none⟩ := by
  obtain ⟨F', G', σ', ρ', es', h1, h2, h3, h4, h5, h6⟩ := h
  exact h3.cell (p := ⟨q, j, none⟩) hq fun e => by
    rcases e with e | e
    · exact hP e
    · exact e h0
theorem KS.cell {X1 : World} {ρ1 : Nat → Nat} (h : KS w0 X1 l rb F G σ K ρ1 ρ es X) {q : Nat} (hq : q < X1.heap.size) (h0 : ρ1 q = 0) (j : Nat) : X.cell? ⟨q, j, none⟩ = X1.cell? ⟨q, j, none⟩ := h.off.cell (p := ⟨q, j, none⟩) hq fun e => e h0
/-- The end of owns, told from its start. -/
theorem OBq.last {X1 : World} {F1 G1 : Nat → Prop} {σ1 : LSt} {ρ1 ρ2 : Nat → Nat} {es2 : List Bo.Ent} (h3 : Off (fun q => PRw l rb G q ∨ ρ q ≠ 0) V X1) (h4 : ∀ b, F1 b → F b ∨ V.heap.size ≤ b) (h5 : ∀ b, G1 b → G b ∨ V.heap.size ≤ b) (h6 : ∀ q, q < V.heap.size → ρ q = 0 → ρ1 q = 0) (hk : KS w0 X1 l rb F1 G1 σ1 K ρ1 ρ2 es2 X) (hn : es2.length ≤ n) : OBq w0 V l rb F G K ρ n X :=
  ⟨F1, G1, σ1, ρ2, es2, hk.ob, hn, h3.join hk.off (fun q hq e => Or.inr fun g => e (h6 q hq g)), h4, h5, fun q hq h0 => hk.rl q (Nat.lt_of_lt_of_le hq h3.size) (h6 q hq h0)⟩
theorem OBq.from_ {X0 : World} (hb : Below X0.heap.size X0 V) (h : OBq w0 V l rb F G K ρ n X) : OBq w0 X0 l rb F G K ρ n X := by
  obtain ⟨F', G', σ', ρ', es', h1, h2, h3, h4, h5, h6⟩ := h
  have := hb.size
  exact ⟨F', G', σ', ρ', es', h1, h2, (Off.of_below hb).trans h3, fun b hb' => (h4 b hb').imp id fun e => by omega, fun b hb' => (h5 b hb').imp id fun e => by omega, fun q hq h0 => h6 q (by omega) h0⟩
/-- The two lists as Flight told them. -/
theorem TI.start {X1 X2 X3 : World} {ρ1 : Nat → Nat} {a3 a4 : Option Addr} {c3 c4 : Nat} {lx ly : List Pc} {t : List (List Int)} (fx : FlL X2 X1.heap.size (.slice a3 t.length c3) lx t) (hb : Below X2.heap.size X2 X3) (h12 : X1.heap.size ≤ X2.heap.size) (fy : FlL X3 X2.heap.size (.slice a4 t.length c4) ly t) (hnew : ∀ q, X1.heap.size ≤ q → ρ1 q = 0) : TI X1 ρ1 0 0 a3 a4 t.length c3 c4 lx ly t X3 := by
  have lt2 : ∀ p ∈ lx, ∀ b, p.a = some ⟨b, 0, none⟩ → X1.heap.size ≤ b ∧ b < X2.heap.size := fun p hp b hb => by
    have hr := (fx.pcs p hp).1.1
    rw [hb] at hr
    exact ERow.lt hr rfl
  have lt3 : ∀ p ∈ ly, ∀ b, p.a = some ⟨b, 0, none⟩ → X2.heap.size ≤ b := fun p hp b hb => by
    have hr := (fy.pcs p hp).1.1
    rw [hb] at hr
    exact (ERow.lt hr rfl).1
  have fy' : FlL X3 X1.heap.size (.slice a4 t.length c4) ly t := ⟨ERow.base fy.row h12, fy.bs, fun p hp => ⟨⟨ERow.base (fy.pcs p hp).1.1 h12, (fy.pcs p hp).1.2⟩, (fy.pcs p hp).2⟩, fy.ap⟩
  have z : ∀ (ls : List Pc) (m : Nat) (p : Pc), ls[m]? = some p → p ∈ ls := fun ls m p h => List.mem_of_getElem? h
  refine ⟨fx.below hb, fy', fun p hp q hq e => ?_, fun m p _ hp b hb' => hnew b (lt2 p (z _ _ _ hp) b hb').1, fun m p _ hp b hb' => hnew b (by have := lt3 p (z _ _ _ hp) b hb'; omega), fun m p hp b hb' => Or.inl (hnew b (lt2 p (z _ _ _ hp) b hb').1), fun m p hp b hb' => Or.inl (hnew b (by have := lt3 p (z _ _ _ hp) b hb'; omega)), fun g hg => hnew g (ERow.lt fx.row hg).1, fun g hg => hnew g (by have := (ERow.lt fy.row hg).1; omega), fun g h1 h2 => ?_⟩
  · obtain ⟨b, eb⟩ := (fx.pcs p hp).2
    have h1 := lt2 p hp b eb
    have h2 := lt3 q hq b (by rw [← e]; exact eb)
    omega
  · have h3 := (ERow.lt fx.row h1).2
    have h4 := (ERow.lt fy.row h2).1
    omega
end
end Go.Proofs.YtpcickhellkiaaaDoor

/-
  LinkOwn: owns, walked.
-/
namespace Go.Proofs.YtpcickhellkiaaaDoor
open Go.RowKit

theorem SOk.car {σ : LSt} (h : SOk σ) (s i n : Int) : SOk (cS (fun c => carC c i n) σ s) := h.step (fun _ hc => hc.car) s
set_option maxRecDepth 100000 in
set_option maxHeartbeats 16000000 in
theorem owns_any {w0 X : World} {l : Option Addr} {rb : Nat} {F G : Nat → Prop} {σ : LSt} {K : Nat} {ρ : Nat → Nat} {es : List Bo.Ent} (h : OB w0 X l rb F G σ K ρ es) (hl : es.length ≤ 60) (hE : ErrType w0) (kd sd ix nn : Int) {po : Option Addr} {m c : Nat} {bs : List Int} (hb : Byts w0 po m bs) (hm : m + 90 ≤ 140737488355328) : Calls Tryd.prog 27 #[.pointer l, .pointer (some ⟨rb, 0, none⟩), .agg #[.int .i64 kd, .int .i64 sd, .int .i64 ix, .int .i64 nn, .slice po m c], .pointer (some ⟨K, 0, none⟩)] X fun e w' => e = .returned (.bool true) ∧ Hid (OBq w0 X l rb F G K ρ 60 w') := by
  have bV := (Below.refl X.heap.size X).alloc (Nat.le_refl _) (.cells #[.int .i64 kd, .int .i64 sd, .int .i64 ix, .int .i64 nn, .slice po m c] 45)
  have co : ∀ j, (X.alloc (.cells #[.int .i64 kd, .int .i64 sd, .int .i64 ix, .int .i64 nn, .slice po m c] 45)).cell? ⟨X.heap.size, j, none⟩ = (#[.int .i64 kd, .int .i64 sd, .int .i64 ix, .int .i64 nn, .slice po m c] : Array Value)[j]? := fun j => cell_new X _ _ j
  have hV := h.below bV
  have hZ0 : ρ X.heap.size = 0 := h.new (Nat.le_refl _)
  have hZP : ¬ PRw l rb G X.heap.size := fun e => by have := h.lt (Or.inr e); omega
  have hZs : X.heap.size < (X.alloc (.cells #[.int .i64 kd, .int .i64 sd, .int .i64 ix, .int .i64 nn, .slice po m c] 45)).heap.size := by simp
  have HC : Hid (ErrType w0 ∧ Byts w0 po m bs ∧ es.length ≤ 60 ∧ m + 90 ≤ 140737488355328 ∧ ρ X.heap.size = 0 ∧ ¬ PRw l rb G X.heap.size) := ⟨hE, hb, hl, hm, hZ0, hZP⟩
  clear hE hb hl hm hZ0 hZP h
  go_enter Tryd.func27, Tryd.ntmps27
  go_upto_if 23 with fail
  generalize X.alloc (.cells #[.int .i64 kd, .int .i64 sd, .int .i64 ix, .int .i64 nn, .slice po m c] 45) = V at *
  have H0 : Hid (OB w0 V l rb F G σ K ρ es ∧ Below X.heap.size X V ∧ X.heap.size < V.heap.size) := ⟨hV, bV, hZs⟩
  have HV : Hid (∀ j, V.cell? ⟨X.heap.size, j, none⟩ = (#[.int .i64 kd, .int .i64 sd, .int .i64 ix, .int .i64 nn, .slice po m c] : Array Value)[j]?) := co
  clear hV bV hZs
  go_cut [] (fun wx => Hid (OBq w0 V l rb F G K ρ 61 wx))
  case first =>
    have HQ0 : Hid (PRq w0 V l rb F G σ σ V) := H0.out.1.pr.start
    by_cases hk : kd = 2
    · have e2 : (kd == 2) = true := by simp; exact hk
      clear hk
      go_wp2_with fail
      refine (jCarryC HQ0.out sd ix nn).mono ?_
      rintro _ w1 ⟨a1, m1, c1, v1, rfl, H1⟩
      have s1 : ∀ j, w1.cell? ⟨X.heap.size, j, none⟩ = (#[.int .i64 kd, .int .i64 sd, .int .i64 ix, .int .i64 nn, .slice po m c] : Array Value)[j]? := fun j => (H1.out.2.q.cell H0.out.2.2 HC.out.2.2.2.2.2 j).trans (HV.out j)
      clear co HQ0
      go_wp2_with fail
      refine (dCarryC H1.out.2 H0.out.1.ok H1.out.1 sd ix nn).mono ?_
      rintro _ w2 ⟨a2, m2, c2, rfl, H2⟩
      have em : m2 = m1 := by
        have e1 := ERow.len H2.out.2.2.row.1
        have e2 := H2.out.1.len
        omega
      subst em
      have hm2 : m2 ≤ 8195 := H2.out.2.2.row.2
      clear s1 H1
      go_wp2_with fail
      refine (same_true (BRow.byts H2.out.2.2.row.1) H2.out.1 (by omega)).mono ?_
      rintro _ w3 ⟨rfl, k3, rfl⟩
      have b3 : Below w2.heap.size w2 (w2.drewN k3) := below_drewN (Below.refl _ _) k3
      have H3 : Hid (EvIs (w2.drewN k3) v1 0 (cV 3 1 (fun c => carE c ix nn) σ sd) ∧ CJ w0 V l rb F G (cS (fun c => carC c ix nn) σ sd) (cS (fun c => carC c ix nn) σ sd) V.heap.size a1 m2 c1 (cV [] [] (fun c => carR c ix nn) σ sd) (w2.drewN k3)) := ⟨H2.out.2.1.below b3, H2.out.2.2.below b3⟩
      clear H2 b3
      generalize w2.drewN k3 = w4 at *
      go_wp2_with fail
      refine (is_any H3.out.1 (errType_below HC.out.1 H3.out.2.q.b)).mono ?_
      rintro _ w5 ⟨rfl, hb5⟩
      have HT := obTake H0.out.1 (H3.out.2.below hb5) (Nat.le_refl _) (H0.out.1.ok.car sd ix nn) HC.out.2.2.1
      clear H3 hb5
      go_wp2_with fail
      refine HT.mono ?_
      rintro _ w6 ⟨rfl, H6⟩
      clear HT
      go_wp2_with fail
      go_meet
      exact H6
    · have e2 : (kd == 2) = false := by simp; exact hk
      clear hk
      have HP := plays_any H0.out.1.pr H0.out.1.ok HC.out.1 kd sd ix nn HC.out.2.1 HC.out.2.2.2.1 (c := c)
      go_wp2_with fail
      refine HP.mono ?_
      rintro _ w1 ⟨rfl, H1⟩
      have H6 : Hid (OBq w0 V l rb F G K ρ 61 w1) := H0.out.1.q H1.out (H0.out.1.ok.op kd sd ix nn bs) (by have := HC.out.2.2.1; omega)
      clear H1 HP HQ0 co
      go_wp2_with fail
      go_meet
      exact H6
  case rest =>
    obtain ⟨X1, hX1⟩ : ∃ X1, wc = X1 := ⟨_, rfl⟩
    rw [hX1] at hcut ⊢
    clear hX1 co
    have c1 : ∀ j, X1.cell? ⟨X.heap.size, j, none⟩ = (#[.int .i64 kd, .int .i64 sd, .int .i64 ix, .int .i64 nn, .slice po m c] : Array Value)[j]? := fun j => (hcut.out.cell H0.out.2.2 HC.out.2.2.2.2.2 HC.out.2.2.2.2.1 j).trans (HV.out j)
    obtain ⟨F1, G1, σ1, ρ1, es1, hOB, hes, hof, hF1, hG1, hro⟩ := hcut.out
    have HB : Hid ((∀ {n : Nat} {X' : World} {ρ2 : Nat → Nat} {es2 : List Bo.Ent}, KS w0 X1 l rb F1 G1 σ1 K ρ1 ρ2 es2 X' → es2.length ≤ n → OBq w0 X l rb F G K ρ n X') ∧ X.heap.size < X1.heap.size ∧ ρ1 X.heap.size = 0 ∧ ρ1 K ≠ 0) :=
      ⟨fun hk hn => OBq.from_ H0.out.2.1 (OBq.last hof hF1 hG1 hro hk hn), Nat.lt_of_lt_of_le H0.out.2.2 hof.size, hro _ H0.out.2.2 HC.out.2.2.2.2.1, by rw [hOB.kK]; decide⟩
    have HK1 : Hid (KS w0 X1 l rb F1 G1 σ1 K ρ1 ρ1 es1 X1 ∧ es1.length ≤ 61 ∧ ∀ q, X1.heap.size ≤ q → ρ1 q = 0) := ⟨hOB.ks, hes, fun q hq => hOB.new hq⟩
    clear hcut hOB hes hof hF1 hG1 hro H0
    obtain ⟨t, ht⟩ : ∃ t, cV [] [] (fun c : Sd => c.1) σ1 sd = t := ⟨_, rfl⟩
    have hn6 : t.length ≤ 256 := by rw [← ht]; exact fl_len HK1.out.1.ok sd
    have HTT : Hid (cV [] [] (fun c : Sd => c.1) σ1 sd = t) := ht
    obtain ⟨n, hn⟩ : ∃ n, t.length = n := ⟨_, rfl⟩
    have HNN : Hid (t.length = n) := hn
    rw [hn] at hn6
    have HF1 : Hid (∀ z, KS w0 X1 l rb F1 G1 σ1 K ρ1 ρ1 es1 z → Calls Tryd.prog 16 #[.pointer l, .int .i64 sd] z fun e w' => ∃ a c ls, e = .returned (.slice a n c) ∧ Hid (FlL w' z.heap.size (.slice a n c) ls t ∧ Below z.heap.size z w')) := fun z hz => by
      have := qFlight hz.pr.pl sd
      rw [ht] at this
      refine this.mono fun e w' ⟨a, c, ls, e1, e2, e3⟩ => ⟨a, c, ls, by rw [← hn]; exact e1, by rw [← hn]; exact ⟨e2, e3⟩⟩
    have HU : Hid (∀ {ρ2 : Nat → Nat} {es2 : List Bo.Ent} z, KS w0 X1 l rb F1 G1 σ1 K ρ1 ρ2 es2 z → Calls Tryd.prog 54 #[.pointer (some ⟨rb, 0, none⟩), .int .i64 sd] z fun e w' => ∃ a c, e = .returned (.slice a n c) ∧ Hid (Pcs z a n t) ∧ w' = z) := fun z hz => by
      have := uFlight hz.pr.rl sd
      rw [ht, hn] at this
      exact this
    clear ht hn
    go_wp2_with fail
    refine (HF1.out X1 HK1.out.1).mono ?_
    rintro _ X2 ⟨ax, cx, lx, rfl, H2⟩
    have HK2 : Hid (KS w0 X1 l rb F1 G1 σ1 K ρ1 ρ1 es1 X2) := HK1.out.1.below H2.out.2
    have c2 : ∀ j, X2.cell? ⟨X.heap.size, j, none⟩ = (#[.int .i64 kd, .int .i64 sd, .int .i64 ix, .int .i64 nn, .slice po m c] : Array Value)[j]? := fun j => (HK2.out.cell HB.out.2.1 HB.out.2.2.1 j).trans (c1 j)
    have HC1 : Hid (∀ j, X1.cell? ⟨X.heap.size, j, none⟩ = (#[.int .i64 kd, .int .i64 sd, .int .i64 ix, .int .i64 nn, .slice po m c] : Array Value)[j]?) := c1
    clear c1
    go_wp2_with fail
    refine (HF1.out X2 HK2.out).mono ?_
    rintro _ X3 ⟨ay, cy, ly, rfl, H3⟩
    have HK3 : Hid (KS w0 X1 l rb F1 G1 σ1 K ρ1 ρ1 es1 X3 ∧ TI X1 ρ1 0 0 ax ay n cx cy lx ly t X3) := by
      refine ⟨HK2.out.below H3.out.2, ?_⟩
      have e := HNN.out
      subst e
      exact TI.start H2.out.1 H3.out.2 H2.out.2.size H3.out.1 HK1.out.2.2
    have c3 : ∀ j, X3.cell? ⟨X.heap.size, j, none⟩ = (#[.int .i64 kd, .int .i64 sd, .int .i64 ix, .int .i64 nn, .slice po m c] : Array Value)[j]? := fun j => (HK3.out.1.cell HB.out.2.1 HB.out.2.2.1 j).trans (HC1.out j)
    have hes1 : es1.length ≤ 61 := HK1.out.2.1
    clear c2 H2 H3 HK2 HK1 HF1
    go_wp2_with fail
    refine (HU.out X3 HK3.out.1).mono ?_
    rintro _ X4 ⟨a4, c4, rfl, H4, e4⟩
    obtain rfl : X3 = X4 := e4.symm
    clear e4
    go_wp2_with fail
    refine (like_true (HK3.out.2.fx.pcs_ hn6) H4.out).mono ?_
    rintro _ X5 ⟨rfl, k5, rfl⟩
    have HK5 : Hid (KS w0 X1 l rb F1 G1 σ1 K ρ1 ρ1 es1 (X3.drewN k5) ∧ TI X1 ρ1 0 0 ax ay n cx cy lx ly t (X3.drewN k5)) := ⟨HK3.out.1.below (below_drewN (Below.refl _ _) k5), HK3.out.2.below (below_drewN (Below.refl _ _) k5)⟩
    clear HK3 H4 c3
    generalize X3.drewN k5 = X5 at *
    go_wp2_with fail
    refine (like_true (HK5.out.2.fy.pcs_ hn6) (HK5.out.2.fx.pcs_ hn6)).mono ?_
    rintro _ X6 ⟨rfl, k6, rfl⟩
    have HK6 : Hid (KS w0 X1 l rb F1 G1 σ1 K ρ1 ρ1 es1 (X5.drewN k6) ∧ TI X1 ρ1 0 0 ax ay n cx cy lx ly t (X5.drewN k6)) := ⟨HK5.out.1.below (below_drewN (Below.refl _ _) k6), HK5.out.2.below (below_drewN (Below.refl _ _) k6)⟩
    clear HK5
    generalize X5.drewN k6 = X6 at *
    go_wp2_with fail
    go_loopw [16] (fun t16 wx => ∃ i : Nat, i ≤ n ∧ t16 = .int .i64 i ∧ Hid (∃ ρ2 es2, KS w0 X1 l rb F1 G1 σ1 K ρ1 ρ2 es2 wx ∧ TI X1 ρ2 i i ax ay n cx cy lx ly t wx ∧ es2.length = es1.length + 2 * i)) (fun t16 _ => n - (intOf t16).toNat)
    case atStart => exact ⟨0, Nat.zero_le _, rfl, ρ1, es1, HK6.out.1, HK6.out.2, by omega⟩
    case round =>
      clear HK6
      obtain ⟨i, hi, rfl, HI⟩ := hrel
      obtain ⟨ρ2, es2, hk2, ht2, hl2⟩ := HI.out
      by_cases hlt : i < n
      · have hlt1 : (i : Int) < (n : Int) := by omega
        obtain ⟨gx, px, eax, hpx, hcx, _⟩ := ht2.fx.cell_ hlt
        obtain ⟨gy, py, eay, hpy, hcy, _⟩ := ht2.fy.cell_ hlt
        obtain ⟨bx, ebx, _⟩ := ht2.fx.text hpx
        obtain ⟨by_, eby, _⟩ := ht2.fy.text hpy
        have HT := tkX hk2 ht2 (by omega) hpx
        have HPY : Hid (ly[i]? = some py) := hpy
        subst eax
        subst eay
        rw [ebx] at HT hcx
        clear hk2 ht2 HI hpx hpy hcy ebx
        go_wp2_with fail
        refine HT.mono ?_
        rintro _ w7 ⟨rfl, H7⟩
        obtain ⟨ρ3, es3, hk3, hl3, ht3⟩ := H7.out
        obtain ⟨gy2, py2, eay2, hpy2, hcy2, _⟩ := ht3.fy.cell_ hlt
        obtain rfl : gy = gy2 := by injection eay2 with e; injection e
        obtain rfl : py = py2 := by rw [HPY.out] at hpy2; injection hpy2
        have HT2 := tkY hk3 ht3 (by omega) HPY.out
        rw [eby] at HT2 hcy2
        clear hk3 ht3 H7 HT hcx eay2 hpy2
        go_wp2_with fail
        refine HT2.mono ?_
        rintro _ w8 ⟨rfl, H8⟩
        obtain ⟨ρ4, es4, hk4, hl4, ht4⟩ := H8.out
        have H9 : Hid (∃ ρ2 es2, KS w0 X1 l rb F1 G1 σ1 K ρ1 ρ2 es2 w8 ∧ TI X1 ρ2 (i + 1) (i + 1) (some ⟨gx, 0, none⟩) (some ⟨gy, 0, none⟩) n cx cy lx ly t w8 ∧ es2.length = es1.length + 2 * (i + 1)) := ⟨ρ4, es4, hk4, ht4, by omega⟩
        clear hk4 ht4 H8 HT2 hcy2 hl2 hl3 hl4 eby
        go_wp2_with fail
        go_roundw
        case rel => exact ⟨i + 1, by omega, by go_num, H9⟩
        case measure => simp [intOf]; omega
      · have hlt1 : ¬ (i : Int) < (n : Int) := by omega
        obtain ⟨X7, hX7⟩ : ∃ X7, wr = X7 := ⟨_, rfl⟩
        rw [hX7] at hk2 ht2 ⊢
        have HK7 : Hid (KS w0 X1 l rb F1 G1 σ1 K ρ1 ρ2 es2 X7 ∧ FlL X7 X1.heap.size (.slice ay n cy) ly t ∧ (∀ g, (Value.slice ax n cx).ownBlock = some g → ρ2 g = 0 ∧ X1.heap.size ≤ g ∧ (∃ cs, X7.heap[g]? = some (.cells cs 27 (0, 0))) ∧ (Value.slice ay n cy).ownBlock ≠ some g) ∧ (∀ g, (Value.slice ay n cy).ownBlock = some g → ρ2 g = 0 ∧ X1.heap.size ≤ g) ∧ es2.length ≤ 600) := ⟨hk2, ht2.fy, fun g hg => ⟨ht2.gx g hg, (ERow.lt ht2.fx.row hg).1, row_pc ht2.fx.row hg, ht2.gg g hg⟩, fun g hg => ⟨ht2.gy g hg, (ERow.lt ht2.fy.row hg).1⟩, by omega⟩
        have HAX : Hid ((0 < n → ∃ g, ax = some ⟨g, 0, none⟩) ∧ (0 < n → ∃ g, ay = some ⟨g, 0, none⟩)) := ⟨fun h0 => by obtain ⟨g, _, e, _⟩ := ht2.fx.cell_ h0; exact ⟨g, e⟩, fun h0 => by obtain ⟨g, _, e, _⟩ := ht2.fy.cell_ h0; exact ⟨g, e⟩⟩
        have HG : Hid (GI w0 X7 (.slice ax n cx) n 0 (.slice ax n cx) X7 ∧ w0.heap.size ≤ X7.heap.size) := ⟨GI.start ht2.fx.row (X1_lo hk2), by have := X1_lo hk2; have := hk2.off.size; omega⟩
        clear hX7 hk2 ht2 HI hl2
        go_wp2_with fail
        go_loopw [17, 18] (fun t17 t18 wx => ∃ (j : Nat) (a' : Option Addr) (c' : Nat), j ≤ 300 ∧ t18 = .int .i64 j ∧ t17 = .slice a' (n + j) c' ∧ Hid (GI w0 X7 (.slice ax n cx) n j (.slice a' (n + j) c') wx)) (fun _ t18 _ => 300 - (intOf t18).toNat)
        case atStart => exact ⟨0, ax, cx, by omega, rfl, rfl, HG.out.1⟩
        case round =>
          obtain ⟨j, a', c', hj, rfl, rfl, HJ⟩ := hrel
          by_cases hlt2 : j < 300
          · have hlt3 : (j : Int) < 300 := by omega
            obtain ⟨a2, c2, W2, hap, HW2⟩ := HJ.out.push HG.out.2 (by omega)
            have HW3 : Hid (GI w0 X7 (.slice ax n cx) n (j + 1) (.slice a2 (n + j + 1) c2) W2) := HW2
            clear HJ HW2
            go_wp2_with (at_builtin; refine wpList_append_run rfl (.tmp 109) (.tmp 110) 22 _ rfl hap ?_)
            go_roundw
            case rel => exact ⟨j + 1, a2, c2, by omega, by go_num, rfl, HW3⟩
            case measure => simp [intOf]; omega
          · have hlt3 : ¬ (j : Int) < 300 := by omega
            obtain rfl : j = 300 := by omega
            have HX : Hid (Off (fun q => (Value.slice ax n cx).ownBlock = some q) X7 wr ∧ ∀ q, (Value.slice ax n cx).ownBlock = some q → Wrt wr q n) := ⟨HJ.out.off, HJ.out.wr⟩
            clear HJ HG
            go_wp2_with fail
            go_loopw [19] (fun t19 wx => ∃ i : Nat, i ≤ n ∧ t19 = .int .i64 i ∧ Hid (Off (fun q => (Value.slice ax n cx).ownBlock = some q) X7 wx ∧ ∀ q, (Value.slice ax n cx).ownBlock = some q → Wrt wx q n)) (fun t19 _ => n - (intOf t19).toNat)
            case atStart => exact ⟨0, Nat.zero_le _, rfl, HX⟩
            case round =>
              clear HX
              obtain ⟨i3, hi3, rfl, HI3⟩ := hrel
              by_cases hlt4 : i3 < n
              · have hlt5 : (i3 : Int) < (n : Int) := by omega
                obtain ⟨g, eg⟩ := HAX.out.1 (by omega)
                subst eg
                obtain ⟨⟨u, k1⟩, k2⟩ := (HI3.out.2 g rfl).cell hlt4
                have HX4 : Hid (Off (fun q => (Value.slice (some ⟨g, 0, none⟩) n cx).ownBlock = some q) X7 (wr.setCell ⟨g, i3, none⟩ (.slice none 0 0)) ∧ ∀ q, (Value.slice (some ⟨g, 0, none⟩) n cx).ownBlock = some q → Wrt (wr.setCell ⟨g, i3, none⟩ (.slice none 0 0)) q n) := by
                  refine ⟨Off.setCell (P := fun q => (Value.slice (some ⟨g, 0, none⟩) n cx).ownBlock = some q) HI3.out.1 (p := ⟨g, i3, none⟩) rfl _, fun q hq => ?_⟩
                  simp only [Value.ownBlock, Option.some.injEq] at hq
                  subst hq
                  exact (HI3.out.2 g rfl).put _
                clear HI3
                go_wp2_with fail
                go_roundw
                case rel => exact ⟨i3 + 1, by omega, by go_num, HX4⟩
                case measure => simp [intOf]; omega
              · have hlt5 : ¬ (i3 : Int) < (n : Int) := by omega
                obtain ⟨X8, hX8⟩ : ∃ X8, wr = X8 := ⟨_, rfl⟩
                rw [hX8] at HI3 ⊢
                have HK8 : Hid (KS w0 X1 l rb F1 G1 σ1 K ρ1 ρ2 es2 X8 ∧ FlL X8 X1.heap.size (.slice ay n cy) ly t ∧ (∀ g, (Value.slice ay n cy).ownBlock = some g → ρ2 g = 0 ∧ X1.heap.size ≤ g) ∧ es2.length ≤ 600) := by
                  obtain ⟨q1, q2, q3, q4, q5⟩ := HK7.out
                  refine ⟨q1.write HI3.out.1 (fun q e => ⟨(q3 q e).2.1, (q3 q e).1⟩), q2.keep HI3.out.1 (fun g hg e => (q3 g e).2.2.2 hg) (fun q cs hq e => ?_), q4, q5⟩
                  obtain ⟨cs2, e2⟩ := (q3 q e).2.2.1
                  rw [hq] at e2
                  simp at e2
                have c8 : ∀ j, X8.cell? ⟨X.heap.size, j, none⟩ = (#[.int .i64 kd, .int .i64 sd, .int .i64 ix, .int .i64 nn, .slice po m c] : Array Value)[j]? := fun j => (HK8.out.1.cell HB.out.2.1 HB.out.2.2.1 j).trans (HC1.out j)
                clear hX8 HI3 HK7
                go_wp2_with fail
                refine (HU.out X8 HK8.out.1).mono ?_
                rintro _ X9 ⟨a9, c9, rfl, H9, e9⟩
                obtain rfl : X8 = X9 := e9.symm
                clear e9
                go_wp2_with fail
                refine (like_true (HK8.out.2.1.pcs_ hn6) H9.out).mono ?_
                rintro _ X10 ⟨rfl, k10, rfl⟩
                have b10 : Below X8.heap.size X8 (X8.drewN k10) := below_drewN (Below.refl _ _) k10
                have HK10 : Hid (KS w0 X1 l rb F1 G1 σ1 K ρ1 ρ2 es2 (X8.drewN k10) ∧ (∀ g, (Value.slice ay n cy).ownBlock = some g → ρ2 g = 0 ∧ X1.heap.size ≤ g) ∧ es2.length ≤ 600) := ⟨HK8.out.1.below b10, HK8.out.2.2⟩
                have HX10 : Hid (Off (fun q => (Value.slice ay n cy).ownBlock = some q) (X8.drewN k10) (X8.drewN k10) ∧ ∀ q, (Value.slice ay n cy).ownBlock = some q → Wrt (X8.drewN k10) q n) := ⟨Off.refl _ _, fun q hq => wrt_row (HK8.out.2.1.below b10).row hq⟩
                clear HK8 H9 b10 c8
                generalize X8.drewN k10 = X10 at *
                go_wp2_with fail
                go_loopw [20] (fun t20 wx => ∃ i : Nat, i ≤ n ∧ t20 = .int .i64 i ∧ Hid (Off (fun q => (Value.slice ay n cy).ownBlock = some q) X10 wx ∧ ∀ q, (Value.slice ay n cy).ownBlock = some q → Wrt wx q n)) (fun t20 _ => n - (intOf t20).toNat)
                case atStart => exact ⟨0, Nat.zero_le _, rfl, HX10⟩
                case round =>
                  clear HX10
                  obtain ⟨i4, hi4, rfl, HI4⟩ := hrel
                  by_cases hlt6 : i4 < n
                  · have hlt7 : (i4 : Int) < (n : Int) := by omega
                    obtain ⟨g, eg⟩ := HAX.out.2 (by omega)
                    subst eg
                    obtain ⟨⟨u, k1⟩, k2⟩ := (HI4.out.2 g rfl).cell hlt6
                    have HX4 : Hid (Off (fun q => (Value.slice (some ⟨g, 0, none⟩) n cy).ownBlock = some q) X10 (wr.setCell ⟨g, i4, none⟩ (.slice none 0 0)) ∧ ∀ q, (Value.slice (some ⟨g, 0, none⟩) n cy).ownBlock = some q → Wrt (wr.setCell ⟨g, i4, none⟩ (.slice none 0 0)) q n) := by
                      refine ⟨Off.setCell (P := fun q => (Value.slice (some ⟨g, 0, none⟩) n cy).ownBlock = some q) HI4.out.1 (p := ⟨g, i4, none⟩) rfl _, fun q hq => ?_⟩
                      simp only [Value.ownBlock, Option.some.injEq] at hq
                      subst hq
                      exact (HI4.out.2 g rfl).put _
                    clear HI4
                    go_wp2_with fail
                    go_roundw
                    case rel => exact ⟨i4 + 1, by omega, by go_num, HX4⟩
                    case measure => simp [intOf]; omega
                  · have hlt7 : ¬ (i4 : Int) < (n : Int) := by omega
                    obtain ⟨X11, hX11⟩ : ∃ X11, wr = X11 := ⟨_, rfl⟩
                    rw [hX11] at HI4 ⊢
                    have HK11 : Hid (KS w0 X1 l rb F1 G1 σ1 K ρ1 ρ2 es2 X11) := HK10.out.1.write HI4.out.1 (fun q e => ⟨(HK10.out.2.1 q e).2, (HK10.out.2.1 q e).1⟩)
                    have hes6 : es2.length ≤ 600 := HK10.out.2.2
                    have c11 : ∀ j, X11.cell? ⟨X.heap.size, j, none⟩ = (#[.int .i64 kd, .int .i64 sd, .int .i64 ix, .int .i64 nn, .slice po m c] : Array Value)[j]? := fun j => (HK11.out.cell HB.out.2.1 HB.out.2.2.1 j).trans (HC1.out j)
                    obtain ⟨ab, cb, hcb⟩ := HK11.out.bytes
                    clear hX11 HI4 HK10 HAX
                    obtain ⟨ne, hne⟩ : ∃ ne, es2.length = ne := ⟨_, rfl⟩
                    rw [hne] at hcb
                    have HNE : Hid (es2.length = ne) := hne
                    rw [hne] at hes6
                    clear hne
                    by_cases hg6 : (ne : Int) > 60
                    · have HAl := kAlone HK11.out (by rw [HNE.out]; omega) HB.out.2.2.2
                      go_wp2_with fail
                      refine HAl.mono ?_
                      rintro _ X12 ⟨rfl, H12⟩
                      obtain ⟨ρ5, hk5⟩ := H12.out
                      have HK12 : Hid (KS w0 X1 l rb F1 G1 σ1 K ρ1 ρ5 [] X12) := hk5
                      clear hk5 H12 HAl HK11 hcb c11
                      go_wp2_with fail
                      refine (kStands HK12.out 0).mono ?_
                      rintro _ X13 ⟨rfl, HK13⟩
                      clear HK12
                      go_wp2_with fail
                      refine (kStands HK13.out 1).mono ?_
                      rintro _ X14 ⟨rfl, HK14⟩
                      clear HK13
                      go_wp2_with fail
                      go_ret
                      exact ⟨rfl, HB.out.1 HK14.out (by simp)⟩
                    · have HSt := kStill HK11.out (by rw [HNE.out]; omega)
                      go_wp2_with fail
                      refine HSt.mono ?_
                      rintro _ X12 ⟨rfl, HK12⟩
                      have c12 : ∀ j, X12.cell? ⟨X.heap.size, j, none⟩ = (#[.int .i64 kd, .int .i64 sd, .int .i64 ix, .int .i64 nn, .slice po m c] : Array Value)[j]? := fun j => (HK12.out.cell HB.out.2.1 HB.out.2.2.1 j).trans (HC1.out j)
                      clear HSt HK11 hcb c11
                      go_wp2_with fail
                      refine (kStands HK12.out sd).mono ?_
                      rintro _ X13 ⟨rfl, HK13⟩
                      clear HK12 c12
                      go_wp2_with fail
                      go_ret
                      exact ⟨rfl, HB.out.1 HK13.out (by rw [HNE.out]; omega)⟩
end Go.Proofs.YtpcickhellkiaaaDoor

/-
  LinkOwn, walked: two pairs of links, one book.
-/
namespace Go.Proofs.YtpcickhellkiaaaDoor
open Go.RowKit

/-- Two pairs of links and the book between two calls. -/
def TW (w0 : World) (la lb : Option Addr) (ra rb K : Nat) (X : World) : Prop :=
  ∃ F G σ ρ es F2 G2 σ2, OB w0 X la ra F G σ K ρ es ∧ es.length ≤ 60 ∧ PR w0 X lb rb F2 G2 σ2 σ2 ∧ SOk σ2 ∧ (∀ q, F2 q ∨ PRw lb rb G2 q → ρ q = 0) ∧ ∀ q, F q ∨ PRw la ra G q → ¬ (F2 q ∨ PRw lb rb G2 q)
section
variable {w0 X Y : World} {la lb : Option Addr} {ra rb K : Nat}
theorem TW.swap (h : TW w0 la lb ra rb K X) : TW w0 lb la rb ra K X := by
  obtain ⟨F, G, σ, ρ, es, F2, G2, σ2, h1, h2, h3, h4, h5, h6⟩ := h
  exact ⟨F2, G2, σ2, ρ, es, F, G, σ, ⟨h3, h4, h1.bk, h1.bo, h5, h1.lo⟩, h2, h1.pr, h1.ok, h1.ap, fun q g e => h6 q e g⟩
theorem TW.b (h : TW w0 la lb ra rb K X) : Below w0.heap.size w0 X := by
  obtain ⟨F, G, σ, ρ, es, F2, G2, σ2, h1, _⟩ := h
  exact h1.pr.b
theorem PR.ltq {l : Option Addr} {r : Nat} {F G : Nat → Prop} {σ τ : LSt} (h : PR w0 X l r F G σ τ) {q : Nat} (hq : F q ∨ PRw l r G q) : q < X.heap.size := by
  rcases hq with e | e
  · exact h.pl.lt.1 q e
  · exact (h.wlt e).1
theorem twOwns (h : TW w0 la lb ra rb K X) (hE : ErrType w0) (kd sd ix nn : Int) {po : Option Addr} {m c : Nat} {bs : List Int} (hb : Byts w0 po m bs) (hm : m + 90 ≤ 140737488355328) : Calls Tryd.prog 27 #[.pointer la, .pointer (some ⟨ra, 0, none⟩), .agg #[.int .i64 kd, .int .i64 sd, .int .i64 ix, .int .i64 nn, .slice po m c], .pointer (some ⟨K, 0, none⟩)] X fun e w' => e = .returned (.bool true) ∧ Hid (TW w0 la lb ra rb K w') := by
  obtain ⟨F, G, σ, ρ, es, F2, G2, σ2, h1, h2, h3, h4, h5, h6⟩ := h
  refine (owns_any h1 h2 hE kd sd ix nn hb hm).mono fun e w' ⟨e1, e2⟩ => ⟨e1, ?_⟩
  obtain ⟨F', G', σ', ρ', es', q1, q2, q3, q4, q5, q6⟩ := e2.out
  have hlt : ∀ q, F2 q ∨ PRw lb rb G2 q → q < X.heap.size := fun q hq => h3.ltq hq
  refine ⟨F', G', σ', ρ', es', F2, G2, σ2, q1, q2, h3.write q3 (fun q e => ?_) (fun q e => ?_), h4, fun q hq => q6 q (hlt q hq) (h5 q hq), fun q hq g => ?_⟩
  · rcases e with e | e
    · exact (h1.pr.wlt e).2
    · exact h1.lo q e
  · have key : ¬ (F2 q ∨ PRw lb rb G2 q) := fun g => by
      rcases e with e | e
      · exact h6 q (Or.inr e) g
      · exact e (h5 q g)
    exact ⟨fun g => key (Or.inl g), fun g => key (Or.inr g)⟩
  · have hl := hlt q g
    rcases hq with e | e | e | e
    · rcases q4 q e with e' | e'
      · exact h6 q (Or.inl e') g
      · omega
    · rcases q5 q e with e' | e'
      · exact h6 q (Or.inr (Or.inl e')) g
      · omega
    · exact h6 q (Or.inr (Or.inr (Or.inl e))) g
    · exact h6 q (Or.inr (Or.inr (Or.inr e))) g
/-- Both pairs, the book done. -/
def T2 (w0 : World) (la lb : Option Addr) (ra rb : Nat) (X : World) : Prop := PB w0 la ra X ∧ PB w0 lb rb X
theorem twAlone (h : TW w0 la lb ra rb K X) : Calls Tryd.prog 28 #[.pointer (some ⟨K, 0, none⟩)] X fun e w' => e = .returned (.bool true) ∧ Hid (T2 w0 la lb ra rb w') := by
  obtain ⟨F, G, σ, ρ, es, F2, G2, σ2, h1, h2, h3, h4, h5, h6⟩ := h
  refine (kAlone h1.ks (by omega) (by rw [h1.kK]; decide)).mono fun e w' ⟨e1, e2⟩ => ⟨e1, ?_⟩
  obtain ⟨ρ', hk⟩ := e2.out
  refine ⟨⟨F, G, σ, hk.pr, hk.ok⟩, F2, G2, σ2, h3.write hk.off (fun q e => h1.lo q e) (fun q e => ⟨fun g => e (h5 q (Or.inl g)), fun g => e (h5 q (Or.inr g))⟩), h4⟩
theorem t2a (h : T2 w0 la lb ra rb X) (s : Int) : Calls Tryd.prog 25 #[.pointer la, .pointer (some ⟨ra, 0, none⟩), .int .i64 s] X fun e w' => e = .returned (.bool true) ∧ Hid (T2 w0 la lb ra rb w') := by
  obtain ⟨⟨F, G, σ, h1, h2⟩, h3⟩ := h
  exact (stands_any h1 h2 s).mono fun e w' ⟨e1, e2⟩ => ⟨e1, ⟨F, G, σ, h1.below e2, h2⟩, h3.below e2⟩
theorem t2b (h : T2 w0 la lb ra rb X) (s : Int) : Calls Tryd.prog 25 #[.pointer lb, .pointer (some ⟨rb, 0, none⟩), .int .i64 s] X fun e w' => e = .returned (.bool true) ∧ Hid (T2 w0 la lb ra rb w') := by
  obtain ⟨h3, ⟨F, G, σ, h1, h2⟩⟩ := h
  exact (stands_any h1 h2 s).mono fun e w' ⟨e1, e2⟩ => ⟨e1, h3.below e2, ⟨F, G, σ, h1.below e2, h2⟩⟩
/-- A link of nothing beside the document's of nothing. -/
theorem PR.fresh {w2 : World} {l : Nat} (h : PL w2 (some ⟨l, 0, none⟩) (fun _ => False) sg0) (hl : w0.heap.size ≤ l) (hb : Below w0.heap.size w0 w2) : PR w0 (w2.alloc (.cells #[.bool true, .slice none 0 0, .int .i64 (-1), .slice none 0 0, .int .i64 (-1)] 59)) (some ⟨l, 0, none⟩) w2.heap.size (fun _ => False) (fun _ => False) sg0 sg0 := by
  have b3 := (Below.refl w2.heap.size w2).alloc (Nat.le_refl _) (.cells #[.bool true, .slice none 0 0, .int .i64 (-1), .slice none 0 0, .int .i64 (-1)] 59)
  have hs := hb.size
  have hlt := (h.lt.2 l rfl).1
  refine ⟨h.below b3, ⟨wy0, wy0, RLk.new (heap_alloc_new w2 _), rfl, rfl, ⟨fun g hg => by simp [wyOwn, wy0, Value.ownBlock] at hg, fun p hp => (List.not_mem_nil hp).elim⟩, ⟨fun g hg => by simp [wyOwn, wy0, Value.ownBlock] at hg, fun p hp => (List.not_mem_nil hp).elim⟩, fun b => False.elim⟩, fun b _ => id, id, fun lb' e => ⟨id, ?_, ?_⟩, fun b hb' => ?_, below_then hb b3⟩
  · injection e with e; injection e with e; omega
  · injection e with e; injection e with e; omega
  · rcases hb' with e | e | e
    · exact e.elim
    · exact e.elim
    · omega
theorem oNew (w : World) : Calls Tryd.prog 9 #[] w fun e w' => e = .returned (.pointer (some ⟨w.heap.size, 0, none⟩)) ∧ Hid (PL w' (some ⟨w.heap.size, 0, none⟩) (fun _ => False) sg0 ∧ Below w.heap.size w w' ∧ w'.heap.size = w.heap.size + 1) :=
  (pnew_any w).mono fun _ _ ⟨e1, e2⟩ => ⟨e1, ⟨w.heap.size, dw0, dw0, rfl, e2.out.1, rfl, rfl⟩, e2.out.2.1, e2.out.2.2⟩
def bkC : Array Value := #[.slice none 0 0, .slice none 0 0, .slice none 0 0, .slice none 0 0, .slice none 0 0, .slice none 0 0]
/-- All is made. -/
theorem TW.made {w4 : World} {l1 l2 r1 : Nat} (ha : PR w0 w4 (some ⟨l1, 0, none⟩) r1 (fun _ => False) (fun _ => False) sg0 sg0) (hb : PL w4 (some ⟨l2, 0, none⟩) (fun _ => False) sg0) (hl : w0.heap.size ≤ l2) (hn : l1 ≠ l2) (hr : r1 ≠ l2) : TW w0 (some ⟨l1, 0, none⟩) (some ⟨l2, 0, none⟩) r1 w4.heap.size (w4.heap.size + 1) ((w4.alloc (.cells #[.bool true, .slice none 0 0, .int .i64 (-1), .slice none 0 0, .int .i64 (-1)] 59)).alloc (.cells #[.slice none 0 0, .slice none 0 0, .slice none 0 0, .slice none 0 0, .slice none 0 0, .slice none 0 0] 68)) := by
  have b1 := (Below.refl w4.heap.size w4).alloc (Nat.le_refl _) (.cells #[.bool true, .slice none 0 0, .int .i64 (-1), .slice none 0 0, .int .i64 (-1)] 59)
  have hpb := PR.fresh hb hl ha.b
  generalize hw5 : w4.alloc (.cells #[.bool true, .slice none 0 0, .int .i64 (-1), .slice none 0 0, .int .i64 (-1)] 59) = w5 at *
  have hs5 : w5.heap.size = w4.heap.size + 1 := by rw [← hw5]; simp
  have b2 := (Below.refl w5.heap.size w5).alloc (Nat.le_refl _) (.cells #[.slice none 0 0, .slice none 0 0, .slice none 0 0, .slice none 0 0, .slice none 0 0, .slice none 0 0] 68)
  have hblk := heap_alloc_new w5 (.cells #[.slice none 0 0, .slice none 0 0, .slice none 0 0, .slice none 0 0, .slice none 0 0, .slice none 0 0] 68)
  rw [hs5] at hblk
  have hw := ha.b.size
  have la4 := (ha.pl.lt.2 l1 rfl).1
  have lb4 := (hb.lt.2 l2 rfl).1
  have ra4 := ha.rl.lt.2
  have hbk := Bo.Bk.empty (w := w5.alloc (.cells #[.slice none 0 0, .slice none 0 0, .slice none 0 0, .slice none 0 0, .slice none 0 0, .slice none 0 0] 68)) (B := w0.heap.size) (K := w4.heap.size + 1) (fun q hq => by
    rw [hcell hblk]
    rcases (by omega : q = 0 ∨ q = 1 ∨ q = 2 ∨ q = 3 ∨ q = 4 ∨ q = 5) with rfl | rfl | rfl | rfl | rfl | rfl <;> rfl) (fun q => hfroz hblk q) (by rw [World.size_alloc]; omega)
  have inv : ∀ (l r q : Nat), (False ∨ PRw (some ⟨l, 0, none⟩) r (fun _ => False) q) → q = r ∨ q = l := fun l r q e => by
    rcases e with e | e | e | e
    · exact e.elim
    · exact e.elim
    · exact Or.inl e
    · injection e with e; injection e with e; exact Or.inr e.symm
  refine ⟨fun _ => False, fun _ => False, sg0, _, [], fun _ => False, fun _ => False, sg0, ⟨(ha.below b1).below b2, sg0_ok, ⟨_, _, hbk⟩, fun i e he => (by cases he), fun q hq => ?_, fun q hq => ?_⟩, by simp, hpb.below b2, sg0_ok, fun q hq => ?_, fun q hq g => ?_⟩
  · show (if q = w4.heap.size + 1 then 1 else 0) = 0
    rw [if_neg]
    rcases inv _ _ _ hq with e | e <;> omega
  · have e : q = w4.heap.size + 1 := by
      by_cases e : q = w4.heap.size + 1
      · exact e
      · exact (hq (by show (if q = w4.heap.size + 1 then 1 else 0) = 0; rw [if_neg e])).elim
    omega
  · show (if q = w4.heap.size + 1 then 1 else 0) = 0
    rw [if_neg]
    rcases inv _ _ _ hq with e | e <;> omega
  · rcases inv _ _ _ hq with e | e
    · rcases inv _ _ _ g with e' | e' <;> omega
    · rcases inv _ _ _ g with e' | e' <;> omega
end
set_option maxRecDepth 100000 in
set_option maxHeartbeats 16000000 in
theorem own_law (a1 : Option Addr) (cp1 n1 : Nat) (a2 : Option Addr) (cp2 n2 : Nat) (W : World) (hE : ErrType W) (h1 : Ops W a1 n1) (h2 : Ops W a2 n2) : Calls Tryd.prog 8 #[.slice a1 n1 cp1, .slice a2 n2 cp2] W fun e w' => e = .returned (.bool true) ∧ Below W.heap.size W w' := by
  have HE : Hid (ErrType W ∧ Ops W a1 n1 ∧ Ops W a2 n2) := ⟨hE, h1, h2⟩
  have hn1 := h1.len
  have hn2 := h2.len
  have HN := oNew W
  obtain ⟨l1, hl1⟩ : ∃ l1, W.heap.size = l1 := ⟨_, rfl⟩
  rw [hl1] at HN
  have HL1 : Hid (W.heap.size = l1) := hl1
  clear hE h1 h2 hl1
  go_enter Tryd.func8, Tryd.ntmps8
  go_wp2_with fail
  refine HN.mono ?_
  rintro _ w1 ⟨rfl, H1⟩
  have HN2 := oNew w1
  obtain ⟨l2, hl2⟩ : ∃ l2, w1.heap.size = l2 := ⟨_, rfl⟩
  rw [hl2] at HN2
  have HL2 : Hid (w1.heap.size = l2) := hl2
  clear HN hl2
  go_wp2_with fail
  refine HN2.mono ?_
  rintro _ w2 ⟨rfl, H2⟩
  have HR := rnew_any w2
  unfold lk0 at HR
  clear HN2
  go_wp2_with fail
  refine HR.mono ?_
  rintro _ w3 ⟨rfl, hb3⟩
  have hw12 : Below w1.heap.size w1 w2 := by
    have := H2.out.2.1
    rw [HL2.out]
    exact this
  have hW1 : Below W.heap.size W w1 := by
    have := H1.out.2.1
    rw [HL1.out]
    exact this
  have H3 : Hid (PR W (w3.alloc (.cells #[.bool true, .slice none 0 0, .int .i64 (-1), .slice none 0 0, .int .i64 (-1)] 59)) (some ⟨l1, 0, none⟩) w3.heap.size (fun _ => False) (fun _ => False) sg0 sg0 ∧ PL (w3.alloc (.cells #[.bool true, .slice none 0 0, .int .i64 (-1), .slice none 0 0, .int .i64 (-1)] 59)) (some ⟨l2, 0, none⟩) (fun _ => False) sg0 ∧ W.heap.size ≤ l2 ∧ l1 ≠ l2 ∧ w3.heap.size ≠ l2) := by
    have p2 : PL w2 (some ⟨l2, 0, none⟩) (fun _ => False) sg0 := H2.out.1
    have hlt2 := (p2.lt.2 l2 rfl).1
    have hlt1 := (H1.out.1.lt.2 l1 rfl).1
    have e1 := HL1.out
    have e2 := HL2.out
    have s3 := hb3.size
    refine ⟨PR.fresh ((H1.out.1.below hw12).below hb3) (by omega) (below_then (below_then hW1 hw12) hb3), (p2.below hb3).below ((Below.refl _ _).alloc (Nat.le_refl _) _), by have := hW1.size; omega, by omega, by omega⟩
  clear hb3 HR H1 H2 hw12 hW1
  obtain ⟨r1, hr1⟩ : ∃ r1, w3.heap.size = r1 := ⟨_, rfl⟩
  rw [hr1] at H3
  go_wp2_with fail
  generalize w3.alloc (.cells #[.bool true, .slice none 0 0, .int .i64 (-1), .slice none 0 0, .int .i64 (-1)] 59) = w4 at *
  clear hr1
  have HR4 := rnew_any w4
  unfold lk0 at HR4
  refine HR4.mono ?_
  rintro _ w5 ⟨rfl, hb5⟩
  have H5 : Hid (type_of% (TW.made (H3.out.1.below hb5) (H3.out.2.1.below hb5) H3.out.2.2.1 H3.out.2.2.2.1 H3.out.2.2.2.2)) := TW.made (H3.out.1.below hb5) (H3.out.2.1.below hb5) H3.out.2.2.1 H3.out.2.2.2.1 H3.out.2.2.2.2
  clear hb5 HR4 H3
  go_wp2_with fail
  generalize (w5.alloc (.cells #[.bool true, .slice none 0 0, .int .i64 (-1), .slice none 0 0, .int .i64 (-1)] 59)).alloc (.cells #[.slice none 0 0, .slice none 0 0, .slice none 0 0, .slice none 0 0, .slice none 0 0, .slice none 0 0] 68) = w6 at *
  generalize w5.heap.size = r2 at *
  go_loopw [10] (fun t10 wx => ∃ i : Nat, (i ≤ n1 ∨ i ≤ n2) ∧ t10 = .int .i64 i ∧ Hid (TW W (some ⟨l1, 0, none⟩) (some ⟨l2, 0, none⟩) r1 r2 (r2 + 1) wx)) (fun t10 _ => n1 + n2 - (intOf t10).toNat)
  case atStart => exact ⟨0, Or.inl (Nat.zero_le _), rfl, H5⟩
  case round =>
    clear H5
    obtain ⟨i, hi, rfl, HI⟩ := hrel
    by_cases g1 : i < n1
    · have g1' : (i : Int) < (n1 : Int) := by omega
      obtain ⟨b, o, kd, sd, ix, nn, po, m, c, bs, ea, hbl, hat, hby, hm⟩ := HE.out.2.1.at_ i g1
      subst ea
      obtain ⟨c0, c1, c2, c3, c4⟩ := hat.below hbl HI.out.b
      have HOw := twOwns (c := c) HI.out HE.out.1 kd sd ix nn hby hm
      clear hby hat hbl HI
      by_cases g2 : i < n2
      · have g2' : (i : Int) < (n2 : Int) := by omega
        go_wp2_with fail
        refine HOw.mono ?_
        rintro _ w7 ⟨rfl, H7⟩
        clear c0 c1 c2 c3 c4 HOw
        obtain ⟨b', o', kd', sd', ix', nn', po', m', c', bs', ea', hbl', hat', hby', hm'⟩ := HE.out.2.2.at_ i g2
        subst ea'
        obtain ⟨c0, c1, c2, c3, c4⟩ := hat'.below hbl' H7.out.b
        have HOw2 := twOwns (c := c') H7.out.swap HE.out.1 kd' sd' ix' nn' hby' hm'
        clear hby' hat' hbl' H7
        go_wp2_with fail
        refine HOw2.mono ?_
        rintro _ w8 ⟨rfl, H8⟩
        have H9 : Hid (TW W (some ⟨l1, 0, none⟩) (some ⟨l2, 0, none⟩) r1 r2 (r2 + 1) w8) := H8.out.swap
        clear c0 c1 c2 c3 c4 HOw2 H8
        go_wp2_with fail
        go_roundw
        case rel => exact ⟨i + 1, Or.inl (by omega), by go_num, H9⟩
        case measure => simp [intOf]; omega
      · have g2' : ¬ (i : Int) < (n2 : Int) := by omega
        go_wp2_with fail
        refine HOw.mono ?_
        rintro _ w7 ⟨rfl, H7⟩
        clear c0 c1 c2 c3 c4 HOw
        go_wp2_with fail
        go_roundw
        case rel => exact ⟨i + 1, Or.inl (by omega), by go_num, H7⟩
        case measure => simp [intOf]; omega
    · have g1' : ¬ (i : Int) < (n1 : Int) := by omega
      by_cases g2 : i < n2
      · have g2' : (i : Int) < (n2 : Int) := by omega
        obtain ⟨b', o', kd', sd', ix', nn', po', m', c', bs', ea', hbl', hat', hby', hm'⟩ := HE.out.2.2.at_ i g2
        subst ea'
        obtain ⟨c0, c1, c2, c3, c4⟩ := hat'.below hbl' HI.out.b
        have HOw2 := twOwns (c := c') HI.out.swap HE.out.1 kd' sd' ix' nn' hby' hm'
        clear hby' hat' hbl' HI
        go_wp2_with fail
        refine HOw2.mono ?_
        rintro _ w8 ⟨rfl, H8⟩
        have H9 : Hid (TW W (some ⟨l1, 0, none⟩) (some ⟨l2, 0, none⟩) r1 r2 (r2 + 1) w8) := H8.out.swap
        clear c0 c1 c2 c3 c4 HOw2 H8
        go_wp2_with fail
        go_roundw
        case rel => exact ⟨i + 1, Or.inr (by omega), by go_num, H9⟩
        case measure => simp [intOf]; omega
      · have g2' : ¬ (i : Int) < (n2 : Int) := by omega
        go_wp2_with fail
        refine (twAlone HI.out).mono ?_
        rintro _ w7 ⟨rfl, H7⟩
        clear HI
        go_wp2_with fail
        refine (t2a H7.out 0).mono ?_
        rintro _ w8 ⟨rfl, H8⟩
        clear H7
        go_wp2_with fail
        refine (t2a H8.out 1).mono ?_
        rintro _ w9 ⟨rfl, H9⟩
        clear H8
        go_wp2_with fail
        refine (t2b H9.out 0).mono ?_
        rintro _ w10 ⟨rfl, H10⟩
        clear H9
        go_wp2_with fail
        refine (t2b H10.out 1).mono ?_
        rintro _ w11 ⟨rfl, H11⟩
        clear H10
        go_wp2_with fail
        refine (anchor_true _ (errType_below HE.out.1 H11.out.1.b)).mono ?_
        rintro _ w12 ⟨rfl, hb12⟩
        have H12 : Hid (Below W.heap.size W w12) := below_then H11.out.1.b hb12
        clear hb12 H11
        go_wp2_with fail
        go_ret
        exact ⟨rfl, H12.out⟩
end Go.Proofs.YtpcickhellkiaaaDoor

/-
  What came in, opened: the handle of error, calls, lists of calls.
-/
namespace Go.Proofs.YtpcickhellkiaaaDoor
open Go.ChangeShapes Go.WideShapes Go.ChangeAt Go.RowKit Go.Deep

theorem own : ownKnob Tryd.prog.godebug = none := by kernel_rfl
theorem typesSize : Tryd.prog.types.size = 176 := by kernel_rfl
theorem gErr : Tryd.prog.globalNamed "errors.errorType" = some 0 := by kernel_rfl
theorem rtypeAt : (Tryd.prog.cutTypes.find? (·.1 == "internal/reflectlite.rtype")).map (·.2) = some 132 := by kernel_rfl
theorem errorRow : ((List.range 176).filter fun t => Tryd.prog.rowNamed t [101, 114, 114, 111, 114]) = [29] := by kernel_rfl
theorem errType_of {W : World} (h : handlesMet Tryd.prog [("errors.errorType", Rows.laid_errors_errorType)] W) : ErrType W := by
  obtain ⟨name, u, ty, e1, e2, e3, e4, e5⟩ := h _ (List.mem_singleton.2 rfl)
  have en : name = [101, 114, 114, 111, 114] := (Option.some.inj e1).symm
  subst en
  obtain rfl := Option.some.inj (rtypeAt.symm.trans e2)
  have hm : ty ∈ (List.range 176).filter fun t => Tryd.prog.rowNamed t [101, 114, 114, 111, 114] := List.mem_filter.2 ⟨List.mem_range.2 (by rw [← typesSize]; exact e3), e4⟩
  rw [errorRow] at hm
  obtain rfl := List.mem_singleton.1 hm
  have hh : typeHandle Tryd.prog 29 = .pointer (some ⟨1, 29, none⟩) := by kernel_rfl
  rw [hh] at e5
  simpa [ErrType] using World.var?_cell gErr e5 0
theorem cellsInt : Tryd.prog.cellsOf 3 = 1 := by kernel_rfl
theorem cellsU8 : Tryd.prog.cellsOf 5 = 1 := by kernel_rfl
theorem cellsBytes : Tryd.prog.cellsOf 27 = 1 := by kernel_rfl
theorem cellsOp : Tryd.prog.cellsOf 45 = 5 := by kernel_rfl
theorem bytesU8 : Tryd.prog.bytesOf 5 = 1 := by kernel_rfl
theorem bytesBytes : Tryd.prog.bytesOf 27 = 24 := by kernel_rfl
theorem bytesInt : Tryd.prog.bytesOf 3 = 8 := by kernel_rfl
theorem bytesOp : Tryd.prog.bytesOf 45 = 56 := by kernel_rfl
theorem reachBytes_90 : reachBytes + 90 ≤ 140737488355328 := by decide
theorem weights_mem_all {H : Type} {P : Program} {e : TypeId} : ∀ {ds : List (DataW H)} {d : DataW H}, d ∈ ds → ∀ n ∈ d.weights P e, n ∈ DataW.weightsAll P e ds
  | d0 :: ds, d, hd, n, hn => by
    simp only [DataW.weightsAll, List.mem_append]
    rcases List.mem_cons.1 hd with rfl | h
    · exact Or.inl hn
    · exact Or.inr (weights_mem_all h n hn)
theorem five {α : Type} {l : List α} (h : l.length = 5) : ∃ c0 c1 c2 c3 c4, l = [c0, c1, c2, c3, c4] := by
  match l, h with
  | [c0, c1, c2, c3, c4], _ => exact ⟨c0, c1, c2, c3, c4, rfl⟩
section
variable {H : Type} {enc : TypeId × Value → H} {W : World} {base : Nat} {spare : Nat → Bool} {held : Bool}
theorem one_int {n : Nat} {c : Value} {x : DataW H × List MemPlace} (h : DataW.trod enc Tryd.prog W base spare held n 3 [c] = some x) : ∃ k, c = .int .i64 k := by
  obtain ⟨k, e, _, _⟩ := DataW.trod_int Tryd.underlying3 h
  exact ⟨k, List.head_eq_of_cons_eq e⟩
theorem cells_at {a : Addr} {n : Nat} {cs : List Value} (h : W.cells? base a n = some cs) (hn : 0 < n) : ∃ b o, a = ⟨b, o, none⟩ ∧ ∀ j v, cs[j]? = some v → W.cell? ⟨b, o + j, none⟩ = some v := by
  obtain ⟨_, hlen, hc⟩ := World.cells?_some h
  obtain ⟨b, o, sp⟩ := a
  have h0 := hc 0 hn
  rw [List.getElem?_eq_getElem (by omega)] at h0
  have hs : sp = none := by simpa [Addr.add] using World.cell?_spot h0
  subst hs
  refine ⟨b, o, rfl, fun j v hv => ?_⟩
  have hj : j < n := by rw [← hlen]; exact (List.getElem?_eq_some_iff.1 hv).1
  have := hc j hj
  rw [Addr.add_lit] at this
  rw [this, hv]
theorem open_bytes {n : Nat} {cs : List Value} {x : DataW H × List MemPlace} (h : DataW.trod enc Tryd.prog W base spare held n 27 cs = some x) :
    ∃ po pl pc bs, cs = [.slice po pl pc] ∧ Byts W po pl bs ∧ (pl = 0 ∨ ∃ el sp, x.1 = .slice el sp ∧ el.length = pl) ∧ (po = none → pc = 0) ∧ pl ≤ pc ∧ pc ≤ maxLen := by
  rcases open_ints Tryd.underlying27 Tryd.underlying5 cellsU8 h with ⟨rfl, _⟩ | ⟨a, len, cap, zs, rfl, _, hl, hm, hz, hxx, hc, _⟩
  · exact ⟨none, 0, 0, [], rfl, ⟨rfl, fun j hj => (by omega)⟩, Or.inl rfl, fun _ => rfl, Nat.le_refl _, Nat.zero_le _⟩
  · have hzl : len ≤ zs.length := by rw [hz]; split <;> omega
    refine ⟨some a, len, cap, zs.take len, rfl, ⟨by simp; omega, fun j hj => ?_⟩, Or.inr ⟨_, _, by rw [hxx], by simp [lits]; omega⟩, fun e => (by cases e), hl, hm⟩
    · obtain ⟨b, o, sp⟩ := a
      have h0 := hc 0 (by omega)
      have hs : sp = none := by simpa [Addr.add] using World.cell?_spot h0
      subst hs
      have hj' := hc j (by omega)
      rw [Addr.add_lit] at hj'
      refine ⟨b, o, rfl, cell_lt hj', ?_⟩
      rw [hj']
      simp [List.getD_eq_getElem?_getD, hj]
/-- A byte list's weight. -/
theorem weigh {d : DataW H} {pl : Nat} (h : pl = 0 ∨ ∃ el sp, d = .slice el sp ∧ el.length = pl) (hw : ∀ n ∈ d.weights Tryd.prog 27, n ≤ reachBytes) : pl + 90 ≤ 140737488355328 := by
  have hr := reachBytes_90
  rcases h with h0 | ⟨el, sp, e4, hel⟩
  · omega
  · have := hw ((el.length + sp.length) * Tryd.prog.bytesOf 5) (by
      rw [e4]
      simp [DataW.weights, Tryd.underlying27])
    rw [bytesU8] at this
    omega
set_option maxRecDepth 100000 in
set_option maxHeartbeats 1000000 in
theorem open_op {n : Nat} {cs : List Value} {x : DataW H × List MemPlace} (h : DataW.trod enc Tryd.prog W base spare held n 45 cs = some x) :
    ∃ kd sd ix nn po m c bs, cs = [.int .i64 kd, .int .i64 sd, .int .i64 ix, .int .i64 nn, .slice po m c] ∧ Byts W po m bs ∧ ((∀ n ∈ x.1.weights Tryd.prog 45, n ≤ reachBytes) → m + 90 ≤ 140737488355328) := by
  obtain ⟨xs, m, _, hxe, hcl, hlen, hfl⟩ := DataW.trod_struct Tryd.underlying45 h
  obtain ⟨c0, c1, c2, c3, c4, rfl⟩ := five (l := cs) (by rw [hcl, cellsOp])
  obtain ⟨x0, x1, x2, x3, x4, rfl⟩ := five (l := xs) hlen
  have g0 : DataW.trod enc Tryd.prog W base spare held m 3 [c0] = some x0 := by simpa [cellsInt] using hfl 0 _ rfl
  have g1 : DataW.trod enc Tryd.prog W base spare held m 3 [c1] = some x1 := by simpa [cellsInt] using hfl 1 _ rfl
  have g2 : DataW.trod enc Tryd.prog W base spare held m 3 [c2] = some x2 := by simpa [cellsInt] using hfl 2 _ rfl
  have g3 : DataW.trod enc Tryd.prog W base spare held m 3 [c3] = some x3 := by simpa [cellsInt] using hfl 3 _ rfl
  have g4 : DataW.trod enc Tryd.prog W base spare held m 27 [c4] = some x4 := by simpa [cellsInt, cellsBytes] using hfl 4 _ rfl
  obtain ⟨kd, rfl⟩ := one_int g0
  obtain ⟨sd, rfl⟩ := one_int g1
  obtain ⟨ix, rfl⟩ := one_int g2
  obtain ⟨nn, rfl⟩ := one_int g3
  obtain ⟨po, pm, pc, bs, e4, hB, hw4, _⟩ := open_bytes g4
  obtain rfl := List.head_eq_of_cons_eq e4
  refine ⟨kd, sd, ix, nn, po, pm, pc, bs, rfl, hB, fun hw => weigh hw4 fun n hn => hw n ?_⟩
  rw [hxe]
  simp only [DataW.weights, Tryd.underlying45]
  exact DataW.weights_mem_each (j := 4) (t := 27) (d := x4.1) rfl rfl _ hn
set_option maxRecDepth 100000 in
set_option maxHeartbeats 1000000 in
theorem open_ops {n : Nat} {cs : List Value} {x : DataW H × List MemPlace} (h : DataW.trod enc Tryd.prog W base spare held n 43 cs = some x) :
    ∃ ao cap l, cs = [.slice ao l cap] ∧ ((∀ n ∈ x.1.weights Tryd.prog 43, n ≤ reachBytes) → Ops W ao l) := by
  rcases open_slice Tryd.underlying43 h with ⟨rfl, _⟩ | ⟨a, len, cap, m, n', D, Pl, rfl, _, hl, hm, hmm, hxe, hx⟩
  · exact ⟨none, 0, 0, rfl, fun _ => ⟨fun i hi => by omega, by omega⟩⟩
  · have hlm : len ≤ m := by rw [hmm]; split <;> omega
    refine ⟨some a, cap, len, rfl, fun hw => ⟨fun k hk => ?_, ?_⟩⟩
    · have hsp : a.spot = none := by
        obtain ⟨cs', h1, _⟩ := hx 0 (by omega)
        rw [Nat.zero_mul] at h1
        obtain ⟨b, o, e, _⟩ := cells_at h1 (by rw [cellsOp]; decide)
        have : a.add 0 = a := rfl
        rw [this] at e; rw [e]
      obtain ⟨b, off, sp⟩ := a
      obtain rfl : sp = none := hsp
      obtain ⟨cs', h1, h2⟩ := hx k (by omega)
      rw [cellsOp] at h1
      obtain ⟨b', o', e, hc⟩ := cells_at h1 (by decide)
      rw [Addr.add_lit] at e
      obtain ⟨rfl, rfl⟩ : b = b' ∧ off + k * 5 = o' := by simpa using e
      obtain ⟨kd, sd, ix, nn, po, pm, pc, bs, rfl, hB, hp⟩ := open_op h2
      refine ⟨b, off, kd, sd, ix, nn, po, pm, pc, bs, rfl, cell_lt (hc 0 _ rfl), ⟨hc 0 _ rfl, hc 1 _ rfl, hc 2 _ rfl, hc 3 _ rfl, hc 4 _ rfl⟩, hB, hp fun n hn => hw n ?_⟩
      rw [hxe]
      simp only [DataW.weights, Tryd.underlying43]
      exact List.mem_cons_of_mem _ (List.mem_append_left _ (weights_mem_all (List.mem_map_of_mem (List.mem_range.2 hk)) n hn))
    · have hr := reachBytes_90
      have := hw ((((List.range len).map D).length + ((List.range (m - len)).map fun j => D (len + j)).length) * Tryd.prog.bytesOf 45) (by
        rw [hxe]
        simp [DataW.weights, Tryd.underlying43])
      rw [bytesOp] at this
      simp only [List.length_map, List.length_range] at this
      omega
end
end Go.Proofs.YtpcickhellkiaaaDoor

/-
  LinkOwn: the row out of its walk.
-/
namespace Go.Proofs.YtpcickhellkiaaaDoor.linkOwn
open Go.ChangeShapes Go.WideShapes Go.ChangeAt Go.RowKit

theorem laidOut : laidOutB Tryd.prog = true := by kernel_rfl
theorem given {W : World} (h : laidMetH Tryd.prog Rows.linkOwnRow.laid W) : ErrType W := by
  have h' : laidMet Tryd.prog [] W ∧ handlesMet Tryd.prog [("errors.errorType", Rows.laid_errors_errorType)] W := h
  exact errType_of h'.2
theorem trod_block {H : Type} {enc : TypeId × Value → H} {P : Program} {W : World} {base : Nat} {spare : Nat → Bool} {held : Bool} {t : TypeId} {v : Value} {d : DataW H} {ps : List MemPlace} (h : DataW.Trod enc P W base spare held t v d ps) : ∀ x ∈ ps, x.block < W.heap.size := by
  obtain ⟨fuel, hf⟩ := h
  exact fun x hx => DataW.trod_lt _ _ _ _ hf x hx
set_option maxRecDepth 100000 in
theorem contract (H : Type) (enc : TypeId × Value → H) (W : World) (base : Nat) (args : Array Value) (ds gs : List (DataW H)) (before : List MemPlace)
    (hval : ∀ (j : Nat) t v, Tryd.f8.params[j]? = some t → args[j]? = some v → Value.okWide Tryd.prog W .any base t v)
    (hW : DataW.Whole enc Tryd.prog Tryd.f8.params.toList Rows.linkOwnSpec.vars false W args.toList ds gs before)
    (hWt : (DataW.weightsEach Tryd.prog (Tryd.f8.params.toList ++ (OpenSpec.ofChange Rows.linkOwnSpec).bare.plain.varTypes Tryd.prog) (ds ++ gs)).all (· ≤ reachBytes) = true) (hL : laidMetH Tryd.prog Rows.linkOwnRow.laid W) :
    Calls Tryd.prog 8 args W fun e W' => ∃ v, e = .returned v ∧ Rows.linkOwnSpec.post enc Tryd.prog Tryd.f8 false true false false W args v W' := by
  have hW' := hW
  obtain ⟨p, q, hA0, hV, rfl, hfz, hnd⟩ := hW
  have hA : DataW.TrodAll enc Tryd.prog W 0 (fun _ => true) true Tryd.f8.params.toList args.toList ds p := hA0
  rw [Tryd.params8] at hA hval hWt
  obtain ⟨v0, vs0, d0, ds0, p0, q0, hargs, rfl, rfl, h0, r0⟩ := trodAll_cons hA
  obtain ⟨v1, vs1, d1, ds1, p1, q1, rfl, rfl, rfl, h1, r1⟩ := trodAll_cons r0
  obtain ⟨rfl, rfl, rfl⟩ := trodAll_nil r1
  obtain rfl : args = #[v0, v1] := by cases args; simp_all
  obtain ⟨rfl, rfl⟩ := trodVars_none hV
  have ht0 := h0
  obtain ⟨a0, l0, c0, rfl⟩ := okWide_slice Tryd.underlying43 (hval 0 43 v0 rfl rfl)
  obtain ⟨fu0, hf0⟩ := h0
  obtain ⟨ao0, cap0, n0, e0, hO0⟩ := open_ops hf0
  obtain ⟨rfl, rfl, rfl⟩ : a0 = ao0 ∧ l0 = n0 ∧ c0 = cap0 := by simpa [Value.cells] using e0
  have hy0 := hO0 fun n hn => by simpa using List.all_eq_true.1 hWt n (DataW.weights_mem_each (j := 0) rfl rfl n hn)
  have ht1 := h1
  obtain ⟨a1, l1, c1, rfl⟩ := okWide_slice Tryd.underlying43 (hval 1 43 v1 rfl rfl)
  obtain ⟨fu1, hf1⟩ := h1
  obtain ⟨ao1, cap1, n1, e1, hO1⟩ := open_ops hf1
  obtain ⟨rfl, rfl, rfl⟩ : a1 = ao1 ∧ l1 = n1 ∧ c1 = cap1 := by simpa [Value.cells] using e1
  have hy1 := hO1 fun n hn => by simpa using List.all_eq_true.1 hWt n (DataW.weights_mem_each (j := 1) rfl rfl n hn)
  clear hA0
  refine (own_law a0 c0 l0 a1 c1 l1 W (given hL) hy0 hy1).mono fun e W' ⟨he, hg⟩ => ?_
  subst he
  have e1 : Rows.linkOwnSpec.fn H ([d0, d1] ++ []) = { results := [.lit (.bool true)], args := [d0, d1] } := by simp [Rows.linkOwnSpec]
  refine ⟨_, rfl, _, _, _, [], (p0 ++ (p1 ++ [])), [], hW', ?_, ?_, ?_, hg.frame _, fun h => by cases h⟩
  · rw [e1]; exact trodAll_cons_mk (shut_bool Tryd.underlying4 true) trodAll_mk0
  · rw [e1]; exact trodAll_cons_mk (Below.trod laidOut (show Tryd.prog.readableRec 43 = true by kernel_rfl) (show 43 < Tryd.prog.types.size by rw [typesSize]; decide) ht0 hg (trod_block ht0)) (trodAll_cons_mk (Below.trod laidOut (show Tryd.prog.readableRec 43 = true by kernel_rfl) (show 43 < Tryd.prog.types.size by rw [typesSize]; decide) ht1 hg (trod_block ht1)) (trodAll_mk0))
  · rw [e1]; rfl
theorem reads (os : Os) {H : Type} (enc : TypeId × Value → H) : ∃ places, DataW.whole enc Tryd.prog ((World.doorLaid Tryd.prog 400 os).forCall (fun _ _ => 0) ⟨#[], #[.slice none 0 0, .slice none 0 0], []⟩).memory Tryd.f8.params.toList Rows.linkOwnSpec.vars false #[Value.slice none 0 0, Value.slice none 0 0].toList 8 = some ([.nil, .nil], [], places) :=
  ⟨[], by kernel_rfl⟩
theorem door_met (os : Os) : laidMetH Tryd.prog Rows.linkOwnRow.laid ((World.doorLaid Tryd.prog 400 os).forCall (fun _ _ => 0) ⟨#[], #[.slice none 0 0, .slice none 0 0], []⟩).memory :=
  laidMetH_of_parts3 (fuel := 8) (laidMet_of_run' 8 (by kernel_rfl) (by kernel_rfl)) (by kernel_rfl) (by kernel_rfl)
set_option maxRecDepth 100000 in
theorem lifted (os : Os) (started : os.Started) (H : Type) (enc : TypeId × Value → H) (F : Stop.Interp) :
    ReturnsInHanded {} Tryd.checked os 8 .any ((OpenSpec.ofChange Rows.linkOwnSpec).preRow enc Tryd.prog Tryd.f8 Rows.linkOwnRow.domain false Rows.linkOwnRow.laid) (((OpenSpec.ofChange Rows.linkOwnSpec).at F).post enc Tryd.prog Tryd.f8 false true false false) := by
  obtain ⟨places, hx⟩ := reads os enc
  refine returnsInHanded_of_row (C := Tryd.checked) (s := OpenSpec.ofChange Rows.linkOwnSpec) own started (by kernel_rfl) Tryd.func8
    (witness_row_at (enc := enc) (C := Tryd.checked) false (World.doorLaid Tryd.prog 400 os) #[.slice none 0 0, .slice none 0 0] rfl (by kernel_rfl) (by kernel_rfl) (by kernel_rfl)
      (OpenSpec.preRow_of_cond 8 hx (by kernel_rfl) (fun k hk => by cases hk) (by kernel_rfl) (door_met os))) ?_
  intro W base args ds gs before hval hW _ _ hWt hL _ _
  exact contract H enc W base args ds gs before hval hW hWt hL
theorem said : Rows.LinkOwnSaid :=
  OpenClaim.holds_of_cond 8 Tryd.f8 rfl rfl rfl rfl rfl rfl rfl ⟨rfl, rfl, rfl, rfl, rfl⟩ rfl rfl rfl rfl rfl (by kernel_rfl) Tryd.func8 (by kernel_rfl)
    (of_decide_eq_true (by kernel_rfl)) (by unfold Func.isWrapper; first | (rw [if_pos (by decide +kernel)]; kernel_rfl) | (rw [if_neg (by decide +kernel)]; exact ⟨rfl, rfl⟩))
    (fun os started H enc _ F => by rw [OpenClaim.pre_eq_preRow]; exact lifted os started H enc F)
theorem plain (f : FuncId) (fn : Func) (hf : Tryd.pinned.checked.prog.funcNamed "courier/courierlaw19.LinkOwn" = some f) (hfn : Tryd.pinned.checked.prog.funcs[f]? = some fn) :
    true = Tryd.pinned.checked.prog.looks [] ∧ ∀ (j : Nat) t, fn.params[j]? = some t → Tryd.pinned.checked.prog.wantsStandIn t = false := by
  obtain rfl : f = 8 := Option.some.inj ((show Tryd.prog.funcNamed "courier/courierlaw19.LinkOwn" = some 8 by kernel_rfl).symm.trans hf) |>.symm
  obtain rfl : fn = Tryd.f8 := (Option.some.inj (Tryd.func8.symm.trans hfn)).symm
  refine ⟨by kernel_rfl, fun j t ht => ?_⟩
  rw [Tryd.params8] at ht
  have hm : t ∈ [43, 43] := by simpa using Array.mem_of_getElem? ht
  have hall : ([43, 43].all fun u => !Tryd.prog.wantsStandIn u) = true := by kernel_rfl
  exact (show Tryd.prog.wantsStandIn t = false by simpa using List.all_eq_true.1 hall t hm)

theorem card : Rows.LinkOwnCardSaid :=
  Claim7.holds_tied_plain_at .later [] _ _ _ _ said (fun _ h => by cases h) (by kernel_rfl) (fun _ h => by cases h) linkOwn_row_tie rfl ⟨rfl, rfl⟩ (by kernel_rfl) rfl plain (by kernel_rfl)
end Go.Proofs.YtpcickhellkiaaaDoor.linkOwn

namespace Go.Proofs.YtpcickhellkiaaaDoor
theorem linkOwn_of : Rows.LinkOwnCardSaid := linkOwn.card
end Go.Proofs.YtpcickhellkiaaaDoor
