import Derived.Test.YtdglnobapnohmaaDoorWhPlA
import Derived.Test.YtdglnobapnohmaaDoorWhBk4
/-
  A pair of wheels beside the book.
-/
namespace Go.Proofs.YtdglnobapnohmaaDoor
open Go.RowKit

theorem PI.off {P : Nat → Prop} {w0 X Y : World} {W rb now : Nat} {S : List Tm} {F : Nat → Prop} (h : PI w0 X W rb now S F) (o : Off P X Y) (hF : ∀ q, F q → ¬ P q) (hr : ¬ P rb) (hd : ∀ B v (xs : List Tm), RRow X B v xs → ∀ g, v.ownBlock = some g → ¬ P g) (hB : ∀ q, P q → w0.heap.size ≤ q) : PI w0 Y W rb now S F :=
  ⟨h.wh.off o hF, (by obtain ⟨a, n, c, r⟩ := h.rw; exact ⟨a, n, c, r.off o hr (hd _ _ _ r.row)⟩), h.lo, h.nb, h.b.trans (o.below h.b.size hB)⟩
/-- Both wheels and the book. -/
structure OwI (w0 X : World) (W rb now : Nat) (S : List Tm) (F : Nat → Prop) (kb : Nat) (va vm : Value) (ls : List LsE) : Prop where
  p : PI w0 X W rb now S F
  k : BkD X kb va vm ls
  d : ∀ q, BG kb va vm ls q → ¬ F q
  lo : rb < kb
/-- A list that was told, apart from all. -/
structure Apt (X0 X : World) (rb : Nat) (F : Nat → Prop) (kb : Nat) (va vm : Value) (ls : List LsE) (v : Value) (xs : List Tm) : Prop where
  r : TRow X (kb + 1) v xs
  l : xs.length ≤ 4096
  a : ∀ q, v.ownBlock = some q → ¬ F q ∧ q ≠ rb ∧ ¬ BG kb va vm ls q ∧ X0.heap.size ≤ q
theorem Apt.nil (X0 X : World) (rb : Nat) (F : Nat → Prop) (kb : Nat) (va vm : Value) (ls : List LsE) : Apt X0 X rb F kb va vm ls (.slice none 0 0) [] := ⟨ERow.nil _ _ _ _ _, by simp, fun q e => by cases e⟩
/-- In a call: the frame besides, and two lists that were told. -/
structure AlF (w0 X0 : World) (F0 G0 : Nat → Prop) (W rb kb now : Nat) (S : List Tm) (ls : List LsE) (xv yv : Value) (xs ys : List Tm) (F : Nat → Prop) (va vm : Value) (X : World) : Prop where
  i : OwI w0 X W rb now S F kb va vm ls
  fr : Off (fun q => F0 q ∨ q = rb ∨ G0 q) X0 X
  fF : ∀ q, F q → F0 q ∨ X0.heap.size ≤ q
  fG : ∀ q, BG kb va vm ls q → G0 q ∨ X0.heap.size ≤ q
  x : Apt X0 X rb F kb va vm ls xv xs
  y : Apt X0 X rb F kb va vm ls yv ys
  n : ∀ q, xv.ownBlock = some q → yv.ownBlock ≠ some q
def AlI (w0 X0 : World) (F0 G0 : Nat → Prop) (W rb kb now : Nat) (S : List Tm) (ls : List LsE) (xv yv : Value) (xs ys : List Tm) (X : World) : Prop := ∃ F va vm, AlF w0 X0 F0 G0 W rb kb now S ls xv yv xs ys F va vm X
section
variable {w0 X0 X Y : World} {F0 G0 : Nat → Prop} {W rb kb now : Nat} {S : List Tm} {ls : List LsE} {xv yv : Value} {xs ys : List Tm} {F : Nat → Prop} {va vm : Value}
theorem OwI.below (h : OwI w0 X W rb now S F kb va vm ls) (hb : Below X.heap.size X Y) : OwI w0 Y W rb now S F kb va vm ls := ⟨h.p.below hb, h.k.below hb, h.d, h.lo⟩
theorem Apt.below {v : Value} (h : Apt X0 X rb F kb va vm ls v xs) (hb : Below X.heap.size X Y) : Apt X0 Y rb F kb va vm ls v xs := ⟨h.r.below hb, h.l, h.a⟩
theorem AlF.below (h : AlF w0 X0 F0 G0 W rb kb now S ls xv yv xs ys F va vm X) (hb : Below X.heap.size X Y) : AlF w0 X0 F0 G0 W rb kb now S ls xv yv xs ys F va vm Y :=
  ⟨h.i.below hb, h.fr.trans (Off.of_below hb), h.fF, h.fG, h.x.below hb, h.y.below hb, h.n⟩
theorem AlI.below (h : AlI w0 X0 F0 G0 W rb kb now S ls xv yv xs ys X) (hb : Below X.heap.size X Y) : AlI w0 X0 F0 G0 W rb kb now S ls xv yv xs ys Y := by
  obtain ⟨F, va, vm, h⟩ := h
  exact ⟨F, va, vm, h.below hb⟩
theorem AlI.start (h : OwI w0 X W rb now S F kb va vm ls) : AlI w0 X F (BG kb va vm ls) W rb kb now S ls (.slice none 0 0) (.slice none 0 0) [] [] X :=
  ⟨F, va, vm, h, Off.refl _ _, fun _ e => Or.inl e, fun _ e => Or.inl e, Apt.nil _ _ _ _ _ _ _ _, Apt.nil _ _ _ _ _ _ _ _, fun q e => by cases e⟩
/-- plays, beside the book. -/
theorem AlF.play (h : AlF w0 X0 F0 G0 W rb kb now S ls (.slice none 0 0) (.slice none 0 0) [] [] F va vm X) (hq : PQ w0 X F W rb Y) : ∃ now' S', AlI w0 X0 F0 G0 W rb kb now' S' ls (.slice none 0 0) (.slice none 0 0) [] [] Y := by
  obtain ⟨now', S', F', hp, ho, hf⟩ := hq
  have hlt : ∀ {q : Nat}, BG kb va vm ls q → kb ≤ q ∧ q < X.heap.size := fun hq => h.i.k.lt hq
  have hlo := h.i.lo
  have hk : ∀ q, BG kb va vm ls q → ¬ (F q ∨ q = rb) := fun q hq e => by
    rcases e with e | e
    · exact h.i.d q hq e
    · have := (hlt hq).1; omega
  refine ⟨now', S', F', va, vm, ⟨hp, h.i.k.off ho hk, fun q hq e => ?_, hlo⟩, h.fr.join ho (fun i hi e => ?_), fun q e => ?_, h.fG, Apt.nil _ _ _ _ _ _ _ _, Apt.nil _ _ _ _ _ _ _ _, fun q e => by cases e⟩
  · rcases hf q e with g | g
    · exact h.i.d q hq g
    · have := (hlt hq).2; omega
  · rcases e with e | e
    · exact Or.inl ((h.fF i e).resolve_right (by omega))
    · exact Or.inr (Or.inl e)
  · rcases hf q e with g | g
    · exact h.fF q g
    · exact Or.inr (Nat.le_trans h.fr.size g)
/-- take of the first list. -/
theorem AlF.takeX (h : AlF w0 X0 F0 G0 W rb kb now S ls xv yv xs ys F va vm X) (hq : TkQ X kb va vm ls xv Y) : ∃ ls', ls'.length = ls.length + 2 ∧ AlI w0 X0 F0 G0 W rb kb now S ls' (.slice none 0 0) yv [] ys Y := by
  obtain ⟨va', vm', ls', hb, hl, ho, hg⟩ := hq
  have hlt : ∀ {q : Nat}, BG kb va vm ls q → kb ≤ q ∧ q < X.heap.size := fun hq => h.i.k.lt hq
  have hlo := h.i.lo
  have hsz := h.fr.size
  have hd : ∀ B v (zs : List Tm), RRow X B v zs → ∀ g, v.ownBlock = some g → ¬ (BG kb va vm ls g ∨ xv.ownBlock = some g) := fun B v zs hr g hg e => by
    rcases e with e | e
    · exact h.i.k.nrow hr e hg
    · exact own_ne h.x.r hr (by decide) g e hg
  have hB : ∀ q, BG kb va vm ls q ∨ xv.ownBlock = some q → w0.heap.size ≤ q := fun q e => by
    have := h.i.p.lo
    rcases e with e | e
    · have := (hlt e).1; omega
    · have := (h.x.r.lt e).1; omega
  have hp := h.i.p.off ho (fun q hq e => by
    rcases e with e | e
    · exact h.i.d q e hq
    · exact (h.x.a q e).1 hq) (fun e => by
    rcases e with e | e
    · have := (hlt e).1; omega
    · exact (h.x.a rb e).2.1 rfl) hd hB
  refine ⟨ls', hl, F, va', vm', ⟨hp, hb, fun q hq e => ?_, hlo⟩, h.fr.join ho (fun i hi e => ?_), h.fF, fun q hq => ?_, Apt.nil _ _ _ _ _ _ _ _, ⟨ERow.off h.y.r ho (fun q hq e => ?_), h.y.l, fun q hq => ⟨(h.y.a q hq).1, (h.y.a q hq).2.1, fun e => ?_, (h.y.a q hq).2.2.2⟩⟩, fun q e => by cases e⟩
  · rcases hg q hq with g | g | g
    · exact h.i.d q g e
    · exact (h.x.a q g).1 e
    · have := (h.i.p.wh.foot e).2; omega
  · rcases e with e | e
    · exact Or.inr (Or.inr ((h.fG i e).resolve_right (by omega)))
    · have := (h.x.a i e).2.2.2; omega
  · rcases hg q hq with g | g | g
    · exact h.fG q g
    · exact Or.inr (h.x.a q g).2.2.2
    · exact Or.inr (by omega)
  · rcases e with e | e
    · exact (h.y.a q hq).2.2.1 e
    · exact h.n q e hq
  · rcases hg q e with g | g | g
    · exact (h.y.a q hq).2.2.1 g
    · exact h.n q g hq
    · have := (h.y.r.lt hq).2; omega
theorem AlF.swap (h : AlF w0 X0 F0 G0 W rb kb now S ls xv yv xs ys F va vm X) : AlF w0 X0 F0 G0 W rb kb now S ls yv xv ys xs F va vm X := ⟨h.i, h.fr, h.fF, h.fG, h.y, h.x, fun q h1 h2 => h.n q h2 h1⟩
/-! ### the calls -/
theorem ow_take {a : Option Addr} {n c : Nat} (h : AlI w0 X0 F0 G0 W rb kb now S ls (.slice a n c) yv xs ys X) (hl : ls.length ≤ 100000000) : Calls Tryd.prog 19 #[.pointer (some ⟨kb, 0, none⟩), .slice a n c] X fun e w' => e = .returned (.tuple #[]) ∧ Hid (∃ ls', ls'.length = ls.length + 2 ∧ AlI w0 X0 F0 G0 W rb kb now S ls' (.slice none 0 0) yv [] ys w') := by
  obtain ⟨F, va, vm, h⟩ := h
  refine (take_any h.i.k hl h.x.r h.x.l (fun q hq => (h.x.a q hq).2.2.1)).mono ?_
  rintro e w' ⟨he, hq⟩
  exact ⟨he, h.takeX hq⟩
theorem ow_takeY {a : Option Addr} {n c : Nat} (h : AlI w0 X0 F0 G0 W rb kb now S ls xv (.slice a n c) xs ys X) (hl : ls.length ≤ 100000000) : Calls Tryd.prog 19 #[.pointer (some ⟨kb, 0, none⟩), .slice a n c] X fun e w' => e = .returned (.tuple #[]) ∧ Hid (∃ ls', ls'.length = ls.length + 2 ∧ AlI w0 X0 F0 G0 W rb kb now S ls' (.slice none 0 0) xv [] xs w') := by
  obtain ⟨F, va, vm, h⟩ := h
  exact ow_take ⟨F, va, vm, h.swap⟩ hl
theorem ow_still (h : AlI w0 X0 F0 G0 W rb kb now S ls xv yv xs ys X) (hl : ls.length ≤ 100000000) : Calls Tryd.prog 9 #[.pointer (some ⟨kb, 0, none⟩)] X fun e w' => e = .returned (.bool true) ∧ Hid (AlI w0 X0 F0 G0 W rb kb now S ls xv yv xs ys w') := by
  obtain ⟨F, va, vm, g⟩ := h
  refine (still_true g.i.k hl).mono ?_
  rintro e w' ⟨he, q, rfl⟩
  exact ⟨he, F, va, vm, g.below (below_drewN (Below.refl _ _) q)⟩
/-- All, with one list told before. -/
theorem ow_all (h : AlI w0 X0 F0 G0 W rb kb now S ls xv (.slice none 0 0) xs [] X) : Calls Tryd.prog 21 #[.pointer (some ⟨W, 0, none⟩)] X fun e w' => ∃ a n c, e = .returned (.slice a n c) ∧ Hid (AlI w0 X0 F0 G0 W rb kb now S ls xv (.slice a n c) xs S w') := by
  obtain ⟨F, va, vm, g⟩ := h
  refine (alls_ok g.i.p.wh).mono ?_
  rintro e w' ⟨a, n, c, he, hr, hb⟩
  have g' := g.below hb
  have hkl := blk_lt g.i.k.box
  refine ⟨a, n, c, he, F, va, vm, g'.i, g'.fr, g'.fF, g'.fG, g'.x, ⟨ERow.base hr (by omega), g.i.p.wh.held.2, fun q hq => ?_⟩, fun q hq e => ?_⟩
  · have h1 := (ERow.lt hr hq).1
    have h2 := g.fr.size
    obtain ⟨a', n', c', r⟩ := g.i.p.rw
    have h3 := r.lt
    exact ⟨fun e => by have := (g.i.p.wh.foot e).2; omega, by omega, fun e => by have := (g.i.k.lt e).2; omega, by omega⟩
  · have h1 := (ERow.lt hr e).1
    have h2 := (g.x.r.lt hq).2
    omega
theorem ow_all1 (h : AlI w0 X0 F0 G0 W rb kb now S ls (.slice none 0 0) (.slice none 0 0) [] [] X) : Calls Tryd.prog 21 #[.pointer (some ⟨W, 0, none⟩)] X fun e w' => ∃ a n c, e = .returned (.slice a n c) ∧ Hid (AlI w0 X0 F0 G0 W rb kb now S ls (.slice a n c) (.slice none 0 0) S [] w') := by
  refine (ow_all h).mono ?_
  rintro e w' ⟨a, n, c, he, hh⟩
  obtain ⟨F, va, vm, g⟩ := hh.out
  exact ⟨a, n, c, he, F, va, vm, g.swap⟩
/-- What a look at both lists asks. -/
theorem AlI.look (h : AlI w0 X0 F0 G0 W rb kb now S ls xv yv xs ys X) : ∃ a n c va vm, RWl X rb now S a n c ∧ (∀ o, X.cell? ⟨kb, o, none⟩ = (#[va, vm] : Array Value)[o]?) ∧ (∃ Lc La, va = .slice La ls.length Lc) ∧ TRow X (kb + 1) xv xs ∧ TRow X (kb + 1) yv ys ∧ S.length ≤ 4096 := by
  obtain ⟨F, va, vm, g⟩ := h
  obtain ⟨a, n, c, r⟩ := g.i.p.rw
  obtain ⟨La, Lc, e, _⟩ := g.i.k.la.isSlice
  exact ⟨a, n, c, va, vm, r, g.i.k.cell, ⟨Lc, La, e⟩, g.x.r, g.y.r, g.i.p.wh.held.2⟩
/-- How owns leaves all. -/
def OwQ (w0 X0 : World) (F0 G0 : Nat → Prop) (W rb kb N : Nat) (X : World) : Prop := ∃ now S ls F va vm, ls.length ≤ N + 6 ∧ OwI w0 X W rb now S F kb va vm ls ∧ Off (fun q => F0 q ∨ q = rb ∨ G0 q) X0 X ∧ (∀ q, F q → F0 q ∨ X0.heap.size ≤ q) ∧ ∀ q, BG kb va vm ls q → G0 q ∨ X0.heap.size ≤ q
theorem AlI.fin {N : Nat} (h : AlI w0 X0 F0 G0 W rb kb now S ls xv yv xs ys X) (hl : ls.length ≤ N + 6) : OwQ w0 X0 F0 G0 W rb kb N X := by
  obtain ⟨F, va, vm, g⟩ := h
  exact ⟨now, S, ls, F, va, vm, hl, g.i, g.fr, g.fF, g.fG⟩
end
end Go.Proofs.YtdglnobapnohmaaDoor

/-
  Advance beside the book.
-/
namespace Go.Proofs.YtdglnobapnohmaaDoor
open Go.RowKit

theorem ERow.raise {α : Type} {w : World} {B B' k : Nat} {e : TypeId} {enc : α → List Value} {v : Value} {xs : List α} (h : ERow w B e k enc v xs) (hB : ∀ g, v.ownBlock = some g → B' ≤ g) : ERow w B' e k enc v xs :=
  ⟨h.1, h.2.imp id fun ⟨g, cap, cur, e1, _, rest⟩ => ⟨g, cap, cur, e1, hB g (by rw [e1]; rfl), rest⟩⟩
/-- Behind the program's Advance. -/
def AdM (w0 V : World) (F : Nat → Prop) (W rb now : Nat) (S : List Tm) (t : Nat) (lv : Value) (X : World) : Prop := ∃ F', Whl X w0.heap.size W t (S.filter (past t)) F' ∧ (∃ a n c, RWl X rb now S a n c) ∧ ¬ F' rb ∧ TRow X w0.heap.size lv (S.filter (upto t)) ∧ Off F V X ∧ (∀ q, F' q → F q ∨ V.heap.size ≤ q) ∧ ∀ q, lv.ownBlock = some q → V.heap.size ≤ q ∧ ¬ F' q
section
variable {w0 X0 V X : World} {F0 G0 : Nat → Prop} {W rb kb now : Nat} {S : List Tm} {ls : List LsE} {F : Nat → Prop} {va vm : Value} {t : Nat} {lv : Value}
theorem ow_adv (h : PI w0 V W rb now S F) (h1 : now ≤ t) (h2 : t ≤ MaxT) {Z : Nat} (hZ : ¬ F Z) (hZl : Z < V.heap.size) {cs : Array Value} (hc : ∀ j, V.cell? ⟨Z, j, none⟩ = cs[j]?) : Calls Tryd.prog 14 #[.pointer (some ⟨W, 0, none⟩), .int .i64 (t : Int)] V fun e w' => ∃ a1 n1 c1, e = .returned (.tuple #[.slice a1 n1 c1, .nilIface]) ∧ Hid (AdM w0 V F W rb now S t (.slice a1 n1 c1) w') ∧ (∀ j, w'.cell? ⟨Z, j, none⟩ = cs[j]?) := by
  refine (adv_ok h.wh h.b.size h1 h2).mono ?_
  rintro e w' ⟨a1, n1, c1, he, F', hw, hr, ho, hf, hd⟩
  obtain ⟨a, n, c, r⟩ := h.rw
  refine ⟨a1, n1, c1, he, ⟨F', hw, ⟨a, n, c, r.off ho h.nb (fun g hg hF => h.wh.nrow r.row hF hg)⟩, fun e => ?_, hr, ho, hf, hd⟩, fun j => (ho.cell (p := ⟨Z, j, none⟩) hZl hZ).trans (hc j)⟩
  rcases hf rb e with g | g
  · exact h.nb g
  · have := r.lt; omega
/-- Behind both: what was told is the first list. -/
theorem ow_radv (g : AlF w0 X0 F0 G0 W rb kb now S ls (.slice none 0 0) (.slice none 0 0) [] [] F va vm V) (h : AdM w0 V F W rb now S t lv X) (h1 : now ≤ t) (h2 : t ≤ MaxT) : Calls Tryd.prog 16 #[.pointer (some ⟨rb, 0, none⟩), .int .i64 (t : Int)] X fun e w' => ∃ a1 n1 c1, e = .returned (.tuple #[.slice a1 n1 c1, .int .i64 0]) ∧ Hid (AlI w0 X0 F0 G0 W rb kb t (S.filter (past t)) ls lv (.slice none 0 0) (S.filter (upto t)) [] w' ∧ (∃ B, RRow w' B (.slice a1 n1 c1) (S.filter (upto t))) ∧ (S.filter (upto t)).length ≤ 4096) := by
  obtain ⟨F', hw, ⟨a, n, c, r⟩, hnb, hT, ho, hf, hd⟩ := h
  have hS := g.i.p.wh.held.2
  have hll := List.length_filter_le (upto t) S
  refine (radv_ok r t h1 h2 (by omega)).mono ?_
  rintro e w' ⟨a1, n1, c1, he, hr, a3, n3, c3, hr3, hoq⟩
  have hrV : rb < V.heap.size := by obtain ⟨_, _, _, r'⟩ := g.i.p.rw; exact r'.lt
  have oV : Off (fun q => F q ∨ q = rb) V w' := (ho.mono fun q e => Or.inl e).trans (hoq.mono fun q e => Or.inr e)
  have hbX : Below w0.heap.size w0 w' := g.i.p.b.trans (oV.below g.i.p.b.size fun q e => by
    rcases e with e | e
    · exact (g.i.p.wh.foot e).1
    · rw [e]; exact g.i.p.lo)
  have hPI : PI w0 w' W rb t (S.filter (past t)) F' := ⟨hw.off hoq (fun q hq (e : q = rb) => hnb (e ▸ hq)), ⟨a3, n3, c3, hr3⟩, g.i.p.lo, hnb, hbX⟩
  have hlt : ∀ {q : Nat}, BG kb va vm ls q → kb ≤ q ∧ q < V.heap.size := fun hq => g.i.k.lt hq
  have hlo := g.i.lo
  have hkl : kb < V.heap.size := (hlt (Or.inl rfl)).2
  have hkd : ∀ q, BG kb va vm ls q → ¬ (F q ∨ q = rb) := fun q hq e => by
    rcases e with e | e
    · exact g.i.d q hq e
    · have := (hlt hq).1; omega
  have hsz := g.fr.size
  refine ⟨a1, n1, c1, he, ⟨F', va, vm, ⟨hPI, g.i.k.off oV hkd, fun q hq e => ?_, hlo⟩, g.fr.join oV (fun i hi e => ?_), fun q e => ?_, g.fG, ⟨ERow.raise (ERow.off hT hoq (fun q hq (e : q = rb) => ?_)) (fun q hq => ?_), by omega, fun q hq => ⟨(hd q hq).2, ?_, fun e => ?_, ?_⟩⟩, Apt.nil _ _ _ _ _ _ _ _, fun q _ e => by cases e⟩, ⟨_, hr⟩, by omega⟩
  · rcases hf q e with x | x
    · exact g.i.d q hq x
    · have := (hlt hq).2; omega
  · rcases e with e | e
    · exact Or.inl ((g.fF i e).resolve_right (by omega))
    · exact Or.inr (Or.inl e)
  · rcases hf q e with x | x
    · exact g.fF q x
    · exact Or.inr (by omega)
  · have := (hd q hq).1; omega
  · have := (hd q hq).1; omega
  · have := (hd q hq).1; omega
  · have := (hd q hq).1; have := (hlt e).2; omega
  · have := (hd q hq).1; omega
end
end Go.Proofs.YtdglnobapnohmaaDoor
