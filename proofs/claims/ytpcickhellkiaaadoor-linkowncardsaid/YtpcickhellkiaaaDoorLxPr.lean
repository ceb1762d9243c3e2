/-
  Both links in one state: the program's and the document's.
-/
import Derived.Test.YtpcickhellkiaaaDoorLxR
import Derived.Test.YtpcickhellkiaaaDoorLkHand
namespace Go.Proofs.YtpcickhellkiaaaDoor
open Go.RowKit

/-- Both links: the program's holds σ, the document's τ; all of it lies behind w0. -/
structure PR (w0 X : World) (l : Option Addr) (rb : Nat) (F G : Nat → Prop) (σ τ : LSt) : Prop where
  pl : PL X l F σ
  rl : RL X rb G τ
  fg : ∀ b, F b → ¬ G b
  fr : ¬ F rb
  lg : ∀ lb, l = some ⟨lb, 0, none⟩ → ¬ G lb ∧ lb ≠ rb ∧ w0.heap.size ≤ lb
  lo : ∀ b, F b ∨ G b ∨ b = rb → w0.heap.size ≤ b
  b : Below w0.heap.size w0 X
/-- What may be written of them. -/
def PRw (l : Option Addr) (rb : Nat) (G : Nat → Prop) (q : Nat) : Prop := G q ∨ q = rb ∨ l = some ⟨q, 0, none⟩
/-- What is left of them behind some calls that began at V. -/
def PRq (w0 V : World) (l : Option Addr) (rb : Nat) (F G : Nat → Prop) (σ τ : LSt) (X : World) : Prop :=
  ∃ F' G', PR w0 X l rb F' G' σ τ ∧ Off (PRw l rb G) V X ∧ (∀ b, F' b → F b ∨ (V.heap.size ≤ b ∧ b < X.heap.size)) ∧ (∀ b, G' b → G b ∨ (V.heap.size ≤ b ∧ b < X.heap.size))
section
variable {w0 V X Y : World} {l : Option Addr} {rb : Nat} {F G : Nat → Prop} {σ τ : LSt} {s code : Int}
theorem PR.below (h : PR w0 X l rb F G σ τ) (hb : Below X.heap.size X Y) : PR w0 Y l rb F G σ τ := ⟨h.pl.below hb, h.rl.below hb, h.fg, h.fr, h.lg, h.lo, below_then h.b hb⟩
theorem PR.start (h : PR w0 X l rb F G σ τ) : PRq w0 X l rb F G σ τ X := ⟨F, G, h, Off.refl _ _, fun _ => Or.inl, fun _ => Or.inl⟩
theorem PRq.below (h : PRq w0 V l rb F G σ τ X) (hb : Below X.heap.size X Y) : PRq w0 V l rb F G σ τ Y := by
  obtain ⟨F', G', h1, h2, h3, h4⟩ := h
  have := hb.size
  refine ⟨F', G', h1.below hb, h2.trans (Off.of_below hb), fun b hb' => ?_, fun b hb' => ?_⟩
  · exact (h3 b hb').imp id fun e => ⟨e.1, by omega⟩
  · exact (h4 b hb').imp id fun e => ⟨e.1, by omega⟩
theorem PRq.drew (h : PRq w0 V l rb F G σ τ X) : PRq w0 V l rb F G σ τ X.drew := h.below (Below.drew (Below.refl _ _))
theorem PRq.drewN (h : PRq w0 V l rb F G σ τ X) (q : Nat) : PRq w0 V l rb F G σ τ (X.drewN q) := h.below (below_drewN (Below.refl _ _) q)
/-- The program's call. -/
theorem PR.prog {σ' : LSt} (h : PR w0 X l rb F G σ τ) (hq : PQ X l F σ' Y) : PRq w0 X l rb F G σ' τ Y := by
  obtain ⟨F', h1, h2, h3⟩ := hq
  have hr := h.rl.lt
  have hs := h.b.size
  refine ⟨F', G, ⟨h1, h.rl.off h2 (fun e => (h.lg rb e).2.1 rfl) (fun b hb e => (h.lg b e).1 hb), fun b hb hg => ?_, fun e => ?_, h.lg, fun b hb => ?_, h.b.trans (h2.below hs fun q e => (h.lg q e).2.2)⟩, h2.mono fun q e => Or.inr (Or.inr e), fun b hb => h3 b hb, fun b hb => Or.inl hb⟩
  · rcases h3 b hb with e | e
    · exact h.fg b e hg
    · have := (hr.1 b hg).1; omega
  · rcases h3 rb e with e' | e'
    · exact h.fr e'
    · have := hr.2; omega
  · rcases hb with e | e
    · rcases h3 b e with e' | e'
      · exact h.lo b (Or.inl e')
      · omega
    · exact h.lo b (Or.inr e)
/-- The document's call. -/
theorem PR.doc {τ' : LSt} (h : PR w0 X l rb F G σ τ) (hq : RQs X rb G τ' Y) : PRq w0 X l rb F G σ τ' Y := by
  obtain ⟨G', h1, h2, h3⟩ := hq
  have hl := h.pl.lt
  have hs := h.b.size
  refine ⟨F, G', ⟨h.pl.off h2 (fun lb e g => ?_) (fun b hb g => ?_), h1, fun b hb hg => ?_, h.fr, fun lb e => ⟨fun g => ?_, (h.lg lb e).2⟩, fun b hb => ?_, h.b.trans (h2.below hs fun q e => h.lo q (Or.inr e))⟩, h2.mono fun q e => e.elim Or.inl fun e => Or.inr (Or.inl e), fun b hb => Or.inl hb, fun b hb => h3 b hb⟩
  · rcases g with g | g
    · exact (h.lg lb e).1 g
    · exact (h.lg lb e).2.1 g
  · rcases g with g | g
    · exact h.fg b hb g
    · exact h.fr (g ▸ hb)
  · rcases h3 b hg with e | e
    · exact h.fg b hb e
    · have := hl.1 b hb; omega
  · rcases h3 lb g with g' | g'
    · exact (h.lg lb e).1 g'
    · have := (hl.2 lb e).1; omega
  · rcases hb with e | e | e
    · exact h.lo b (Or.inl e)
    · rcases h3 b e with e' | e'
      · exact h.lo b (Or.inr (Or.inl e'))
      · omega
    · exact h.lo b (Or.inr (Or.inr e))
theorem PRq.trans {F1 G1 : Nat → Prop} {σ1 τ1 : LSt} (hV : Off (PRw l rb G) V X) (h3 : ∀ b, F1 b → F b ∨ (V.heap.size ≤ b ∧ b < X.heap.size)) (h4 : ∀ b, G1 b → G b ∨ (V.heap.size ≤ b ∧ b < X.heap.size)) (h : PRq w0 X l rb F1 G1 σ1 τ1 Y) : PRq w0 V l rb F G σ1 τ1 Y := by
  obtain ⟨F', G', k1, k2, k3, k4⟩ := h
  have s1 := hV.size
  have s2 := k2.size
  refine ⟨F', G', k1, hV.join k2 fun b hb e => ?_, fun b hb => ?_, fun b hb => ?_⟩
  · rcases e with e | e | e
    · rcases h4 b e with g | g
      · exact Or.inl g
      · omega
    · exact Or.inr (Or.inl e)
    · exact Or.inr (Or.inr e)
  · rcases k3 b hb with e | e
    · exact (h3 b e).imp id fun e => ⟨e.1, by omega⟩
    · exact Or.inr ⟨by omega, e.2⟩
  · rcases k4 b hb with e | e
    · exact (h4 b e).imp id fun e => ⟨e.1, by omega⟩
    · exact Or.inr ⟨by omega, e.2⟩
theorem PRq.then_ {Y : World} {σ' τ' : LSt} (h : PRq w0 V l rb F G σ τ X) (hn : ∀ F' G', PR w0 X l rb F' G' σ τ → PRq w0 X l rb F' G' σ' τ' Y) : PRq w0 V l rb F G σ' τ' Y := by
  obtain ⟨F', G', h1, h2, h3, h4⟩ := h
  exact PRq.trans h2 h3 h4 (hn F' G' h1)
/-- What is foreign to both stays. -/
theorem PRq.cell (h : PRq w0 V l rb F G σ τ X) {q : Nat} (hq : q < V.heap.size) (hP : ¬ PRw l rb G q) (j : Nat) : X.cell? ⟨q, j, none⟩ = V.cell? ⟨q, j, none⟩ := by
  obtain ⟨F', G', h1, h2, h3, h4⟩ := h
  exact h2.cell (p := ⟨q, j, none⟩) hq hP
theorem PRq.off (h : PRq w0 V l rb F G σ τ X) : Off (PRw l rb G) V X := by
  obtain ⟨F', G', h1, h2, h3, h4⟩ := h
  exact h2
theorem PRq.b (h : PRq w0 V l rb F G σ τ X) : Below w0.heap.size w0 X := by
  obtain ⟨F', G', h1, h2, h3, h4⟩ := h
  exact h1.b
theorem PR.wlt (h : PR w0 X l rb F G σ τ) {q : Nat} (hq : PRw l rb G q) : q < X.heap.size ∧ w0.heap.size ≤ q := by
  rcases hq with e | e | e
  · exact ⟨(h.rl.lt.1 q e).1, h.lo q (Or.inr (Or.inl e))⟩
  · rw [e]; exact ⟨h.rl.lt.2, h.lo rb (Or.inr (Or.inr rfl))⟩
  · exact ⟨(h.pl.lt.2 q e).1, (h.lg q e).2.2⟩
/-- A block that is none of theirs is written. -/
theorem PR.write {P : Nat → Prop} (h : PR w0 X l rb F G σ τ) (o : Off P X Y) (hl : ∀ q, P q → w0.heap.size ≤ q) (hF : ∀ q, P q → ¬ F q ∧ ¬ PRw l rb G q) : PR w0 Y l rb F G σ τ :=
  ⟨h.pl.off o (fun lb e g => (hF lb g).2 (Or.inr (Or.inr e))) (fun b hb g => (hF b g).1 hb), h.rl.off o (fun g => (hF rb g).2 (Or.inr (Or.inl rfl))) (fun b hb g => (hF b g).2 (Or.inl hb)), h.fg, h.fr, h.lg, h.lo, h.b.trans (o.below h.b.size hl)⟩
end
/-! ### the calls, in the state -/
section
variable {w0 V z : World} {l : Option Addr} {rb : Nat} {F G : Nat → Prop} {σ τ : LSt}
theorem jSend (h : PRq w0 V l rb F G σ τ z) {po : Option Addr} {m c : Nat} {bs : List Int} (hb : Byts z po m bs) (s : Int) : Calls Tryd.prog 11 #[.pointer l, .int .i64 s, .slice po m c] z fun e w' => ∃ v, e = .returned v ∧ Hid (EvIs w' v 0 (cV 3 1 (fun c => sendE c bs) σ s) ∧ PRq w0 V l rb F G (cS (fun c => sendC c bs) σ s) τ w') := by
  obtain ⟨F', G', h1, h2, h3, h4⟩ := h
  exact (qSend h1.pl hb s).mono fun e w' ⟨v, e1, e2⟩ => ⟨v, e1, e2.out.1, PRq.trans h2 h3 h4 (h1.prog e2.out.2)⟩
theorem jRaw (h : PRq w0 V l rb F G σ τ z) {po : Option Addr} {m c : Nat} {bs : List Int} (hb : Byts z po m bs) (s : Int) : Calls Tryd.prog 18 #[.pointer l, .int .i64 s, .slice po m c] z fun e w' => ∃ v, e = .returned v ∧ Hid (EvIs w' v 0 (cV 3 1 (fun c => sendE c bs) σ s) ∧ PRq w0 V l rb F G (cS (fun c => sendC c bs) σ s) τ w') := by
  obtain ⟨F', G', h1, h2, h3, h4⟩ := h
  exact (qRaw h1.pl hb s).mono fun e w' ⟨v, e1, e2⟩ => ⟨v, e1, e2.out.1, PRq.trans h2 h3 h4 (h1.prog e2.out.2)⟩
theorem jNoise (h : PRq w0 V l rb F G σ τ z) {po : Option Addr} {m c : Nat} {bs : List Int} (hb : Byts z po m bs) (s : Int) : Calls Tryd.prog 19 #[.pointer l, .int .i64 s, .slice po m c] z fun e w' => ∃ v, e = .returned v ∧ Hid (EvIs w' v (cV (0, 3) (0, 1) (fun c => noiseE c bs) σ s).1 (cV (0, 3) (0, 1) (fun c => noiseE c bs) σ s).2 ∧ PRq w0 V l rb F G (cS (fun c => noiseC c bs) σ s) τ w') := by
  obtain ⟨F', G', h1, h2, h3, h4⟩ := h
  exact (qNoise h1.pl hb s).mono fun e w' ⟨v, e1, e2⟩ => ⟨v, e1, e2.out.1, PRq.trans h2 h3 h4 (h1.prog e2.out.2)⟩
theorem jDrop (h : PRq w0 V l rb F G σ τ z) (s i : Int) : Calls Tryd.prog 22 #[.pointer l, .int .i64 s, .int .i64 i] z fun e w' => ∃ v, e = .returned v ∧ Hid (EvIs w' v 0 (cV 3 1 (fun c => dropE c i) σ s) ∧ PRq w0 V l rb F G (cS (fun c => dropC c i) σ s) τ w') := by
  obtain ⟨F', G', h1, h2, h3, h4⟩ := h
  exact (qDrop h1.pl s i).mono fun e w' ⟨v, e1, e2⟩ => ⟨v, e1, e2.out.1, PRq.trans h2 h3 h4 (h1.prog e2.out.2)⟩
theorem jDouble (h : PRq w0 V l rb F G σ τ z) (s i : Int) : Calls Tryd.prog 21 #[.pointer l, .int .i64 s, .int .i64 i] z fun e w' => ∃ v, e = .returned v ∧ Hid (EvIs w' v 0 (cV 3 1 (fun c => dblE c i) σ s) ∧ PRq w0 V l rb F G (cS (fun c => dblC c i) σ s) τ w') := by
  obtain ⟨F', G', h1, h2, h3, h4⟩ := h
  exact (qDouble h1.pl s i).mono fun e w' ⟨v, e1, e2⟩ => ⟨v, e1, e2.out.1, PRq.trans h2 h3 h4 (h1.prog e2.out.2)⟩
theorem jClip (h : PRq w0 V l rb F G σ τ z) (s i n : Int) : Calls Tryd.prog 23 #[.pointer l, .int .i64 s, .int .i64 i, .int .i64 n] z fun e w' => ∃ v, e = .returned v ∧ Hid (EvIs w' v 0 (cV 3 1 (fun c => clipE c i n) σ s) ∧ PRq w0 V l rb F G (cS (fun c => clipC c i n) σ s) τ w') := by
  obtain ⟨F', G', h1, h2, h3, h4⟩ := h
  exact (qClip h1.pl s i n).mono fun e w' ⟨v, e1, e2⟩ => ⟨v, e1, e2.out.1, PRq.trans h2 h3 h4 (h1.prog e2.out.2)⟩
theorem jCarry (h : PRq w0 V l rb F G σ τ z) (s i n : Int) : Calls Tryd.prog 12 #[.pointer l, .int .i64 s, .int .i64 i, .int .i64 n] z fun e w' => ∃ a m c v, e = .returned (.tuple #[.slice a m c, v]) ∧ Hid (BRow w' z.heap.size (.slice a m c) (cV [] [] (fun c => carR c i n) σ s) ∧ m ≤ 8195 ∧ EvIs w' v 0 (cV 3 1 (fun c => carE c i n) σ s) ∧ PRq w0 V l rb F G (cS (fun c => carC c i n) σ s) τ w') := by
  obtain ⟨F', G', h1, h2, h3, h4⟩ := h
  exact (qCarry h1.pl s i n).mono fun e w' ⟨a, m, c, v, e1, e2⟩ => ⟨a, m, c, v, e1, e2.out.1, e2.out.2.1, e2.out.2.2.1, PRq.trans h2 h3 h4 (h1.prog e2.out.q)⟩
/-- The document's call, with an error that was told ahead of it. -/
theorem dSend (h : PRq w0 V l rb F G σ τ z) {v : Value} {a c' : Int} (hv : EvIs z v a c') {po : Option Addr} {m c : Nat} {bs : List Int} (hb : Byts z po m bs) (s : Int) : Calls Tryd.prog 46 #[.pointer (some ⟨rb, 0, none⟩), .int .i64 s, .slice po m c] z fun e w' => e = .returned (.int .i64 (cV 3 1 (fun c => sendE c bs) τ s)) ∧ Hid (EvIs w' v a c' ∧ PRq w0 V l rb F G σ (cS (fun c => sendC c bs) τ s) w') := by
  obtain ⟨F', G', h1, h2, h3, h4⟩ := h
  exact (uSend h1.rl hb s).mono fun e w' ⟨e1, e2⟩ => ⟨e1, hv.doc h1.rl (by obtain ⟨_, _, o, _⟩ := e2.out; exact o), PRq.trans h2 h3 h4 (h1.doc e2.out)⟩
theorem dDrop (h : PRq w0 V l rb F G σ τ z) (ho : SOk τ) {v : Value} {a c' : Int} (hv : EvIs z v a c') (s i : Int) : Calls Tryd.prog 48 #[.pointer (some ⟨rb, 0, none⟩), .int .i64 s, .int .i64 i] z fun e w' => e = .returned (.int .i64 (cV 3 1 (fun c => dropE c i) τ s)) ∧ Hid (EvIs w' v a c' ∧ PRq w0 V l rb F G σ (cS (fun c => dropC c i) τ s) w') := by
  obtain ⟨F', G', h1, h2, h3, h4⟩ := h
  exact (uDrop h1.rl ho s i).mono fun e w' ⟨e1, e2⟩ => ⟨e1, hv.doc h1.rl (by obtain ⟨_, _, o, _⟩ := e2.out; exact o), PRq.trans h2 h3 h4 (h1.doc e2.out)⟩
theorem dDouble (h : PRq w0 V l rb F G σ τ z) {v : Value} {a c' : Int} (hv : EvIs z v a c') (s i : Int) : Calls Tryd.prog 49 #[.pointer (some ⟨rb, 0, none⟩), .int .i64 s, .int .i64 i] z fun e w' => e = .returned (.int .i64 (cV 3 1 (fun c => dblE c i) τ s)) ∧ Hid (EvIs w' v a c' ∧ PRq w0 V l rb F G σ (cS (fun c => dblC c i) τ s) w') := by
  obtain ⟨F', G', h1, h2, h3, h4⟩ := h
  exact (uDouble h1.rl s i).mono fun e w' ⟨e1, e2⟩ => ⟨e1, hv.doc h1.rl (by obtain ⟨_, _, o, _⟩ := e2.out; exact o), PRq.trans h2 h3 h4 (h1.doc e2.out)⟩
theorem dClip (h : PRq w0 V l rb F G σ τ z) {v : Value} {a c' : Int} (hv : EvIs z v a c') (s i n : Int) : Calls Tryd.prog 50 #[.pointer (some ⟨rb, 0, none⟩), .int .i64 s, .int .i64 i, .int .i64 n] z fun e w' => e = .returned (.int .i64 (cV 3 1 (fun c => clipE c i n) τ s)) ∧ Hid (EvIs w' v a c' ∧ PRq w0 V l rb F G σ (cS (fun c => clipC c i n) τ s) w') := by
  obtain ⟨F', G', h1, h2, h3, h4⟩ := h
  exact (uClip h1.rl s i n).mono fun e w' ⟨e1, e2⟩ => ⟨e1, hv.doc h1.rl (by obtain ⟨_, _, o, _⟩ := e2.out; exact o), PRq.trans h2 h3 h4 (h1.doc e2.out)⟩
theorem dNoise (h : PRq w0 V l rb F G σ τ z) {po : Option Addr} {m c : Nat} {bs : List Int} (hb : Byts z po m bs) (s : Int) : Calls Tryd.prog 51 #[.pointer (some ⟨rb, 0, none⟩), .int .i64 s, .slice po m c] z fun e w' => e = .returned (.tuple #[.int .i64 (cV (0, 3) (0, 1) (fun c => noiseE c bs) τ s).1, .int .i64 (cV (0, 3) (0, 1) (fun c => noiseE c bs) τ s).2]) ∧ Hid (PRq w0 V l rb F G σ (cS (fun c => noiseC c bs) τ s) w') := by
  obtain ⟨F', G', h1, h2, h3, h4⟩ := h
  exact (uNoise h1.rl hb s).mono fun e w' ⟨e1, e2⟩ => ⟨e1, PRq.trans h2 h3 h4 (h1.doc e2.out)⟩
/-- The document's Carry behind the program's: what that answered stays. -/
theorem dCarry (h : PRq w0 V l rb F G σ τ z) (ho : SOk τ) {v : Value} {a c' : Int} (hv : EvIs z v a c') (s i n : Int) : Calls Tryd.prog 47 #[.pointer (some ⟨rb, 0, none⟩), .int .i64 s, .int .i64 i, .int .i64 n] z fun e w' => ∃ a2 m2 c2, e = .returned (.tuple #[.slice a2 m2 c2, .int .i64 (cV 3 1 (fun c => carE c i n) τ s)]) ∧ Hid (Byts w' a2 m2 (cV [] [] (fun c => carR c i n) τ s) ∧ EvIs w' v a c' ∧ PRq w0 V l rb F G σ (cS (fun c => carC c i n) τ s) w') := by
  obtain ⟨F', G', h1, h2, h3, h4⟩ := h
  exact (uCarry h1.rl ho s i n).mono fun e w' ⟨a2, m2, c2, e1, e2⟩ => ⟨a2, m2, c2, e1, e2.out.1, hv.doc h1.rl (by obtain ⟨_, _, o, _⟩ := e2.out.2; exact o), PRq.trans h2 h3 h4 (h1.doc e2.out.2)⟩
theorem jIs (h : PRq w0 V l rb F G σ τ z) (hE : ErrType w0) {v : Value} {a c : Int} (hv : EvIs z v a c) : Calls Tryd.prog 20 #[v, .int .i64 a, .int .i64 c] z fun e w' => e = .returned (.bool true) ∧ Hid (PRq w0 V l rb F G σ τ w') :=
  (is_any hv (errType_below hE h.b)).mono fun _ _ ⟨e1, e2⟩ => ⟨e1, h.below e2⟩
end
end Go.Proofs.YtpcickhellkiaaaDoor
