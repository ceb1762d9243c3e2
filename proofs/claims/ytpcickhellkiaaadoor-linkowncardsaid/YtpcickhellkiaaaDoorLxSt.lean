/-
  The law's stands; what a call's answer is kept by; the law's call in memory.
-/
import Derived.Test.YtpcickhellkiaaaDoorLxPr
import Derived.Test.YtpcickhellkiaaaDoorLxAnc
namespace Go.Proofs.YtpcickhellkiaaaDoor
open Go.RowKit

theorem fl_len {σ : LSt} (ho : SOk σ) (s : Int) : (cV [] [] (fun c : Sd => c.1) σ s).length ≤ 256 := by
  rcases side_cases σ s with ⟨code, hn⟩ | ⟨cc, k, rfl, hk, rfl⟩
  · rw [hn.v2]; simp
  · rw [cV_at hk]; exact (ho.at_ k).len
set_option maxRecDepth 100000 in
set_option maxHeartbeats 2000000 in
theorem stands_any {w0 X : World} {l : Option Addr} {rb : Nat} {F G : Nat → Prop} {σ : LSt} (h : PR w0 X l rb F G σ σ) (ho : SOk σ) (s : Int) : Calls Tryd.prog 25 #[.pointer l, .pointer (some ⟨rb, 0, none⟩), .int .i64 s] X fun e w' => e = .returned (.bool true) ∧ Below X.heap.size X w' := by
  have hn6 := fl_len ho s
  have H0 : Hid (PR w0 X l rb F G σ σ) := h
  have HA := qHalf h.pl s
  have HB : Hid (∀ v, Below X.heap.size X v → Calls Tryd.prog 53 #[.pointer (some ⟨rb, 0, none⟩), .int .i64 s] v fun e w' => e = .returned (.int .i64 (cV (-1) (-1) (fun c => c.2) σ s)) ∧ w' = v) := fun v hv => uHalf (h.rl.below hv) s
  have HC : Hid (∀ v, Below X.heap.size X v → Calls Tryd.prog 16 #[.pointer l, .int .i64 s] v fun e w' => ∃ a c, e = .returned (.slice a (cV [] [] (fun c : Sd => c.1) σ s).length c) ∧ Hid (Pcs w' a (cV [] [] (fun c : Sd => c.1) σ s).length (cV [] [] (fun c => c.1) σ s) ∧ Below X.heap.size X w')) := fun v hv => (qFlight (h.pl.below hv) s).mono fun e w' ⟨a, c, ls, e1, e2, e3⟩ => ⟨a, c, e1, e2.pcs_ hn6, below_then hv e3⟩
  have HD : Hid (∀ v, Below X.heap.size X v → Calls Tryd.prog 54 #[.pointer (some ⟨rb, 0, none⟩), .int .i64 s] v fun e w' => ∃ a c, e = .returned (.slice a (cV [] [] (fun c : Sd => c.1) σ s).length c) ∧ Hid (Pcs v a (cV [] [] (fun c : Sd => c.1) σ s).length (cV [] [] (fun c => c.1) σ s)) ∧ w' = v) := fun v hv => uFlight (h.rl.below hv) s
  have HE : Hid (∀ v, Below X.heap.size X v → Calls Tryd.prog 17 #[.pointer l, .int .i64 s] v fun e w' => e = .returned (.int .i64 ((cV [] [] (fun c : Sd => c.1) σ s).length : Int)) ∧ Below X.heap.size X w') := fun v hv => (qLen (h.pl.below hv) s).mono fun e w' ⟨e1, e2⟩ => ⟨e1, below_then hv e2⟩
  clear h ho
  generalize cV (-1) (-1) (fun c : Sd => c.2) σ s = hf at *
  generalize cV [] [] (fun c : Sd => c.1) σ s = L at *
  generalize L.length = n at *
  go_enter Tryd.func25, Tryd.ntmps25
  go_wp2_with fail
  refine HA.mono ?_
  rintro _ w1 ⟨rfl, hb1⟩
  have H1 : Hid (Below X.heap.size X w1) := hb1
  clear hb1 HA
  go_wp2_with fail
  refine (HB.out w1 H1.out).mono ?_
  rintro _ w2 ⟨rfl, e2⟩
  obtain rfl : w1 = w2 := e2.symm
  clear e2
  go_wp2_with fail
  refine (HC.out w1 H1.out).mono ?_
  rintro _ w3 ⟨a3, c3, rfl, H3⟩
  go_wp2_with fail
  refine (HD.out w3 H3.out.2).mono ?_
  rintro _ w4 ⟨a4, c4, rfl, H4, e4⟩
  obtain rfl : w3 = w4 := e4.symm
  clear e4
  go_wp2_with fail
  refine (like_true H3.out.1 H4.out).mono ?_
  rintro _ w5 ⟨rfl, k5, rfl⟩
  have H5 : Hid (Below X.heap.size X (w3.drewN k5)) := below_drewN H3.out.2 k5
  clear H3 H4 HB HC
  generalize w3.drewN k5 = w5 at *
  go_wp2_with fail
  refine (HE.out w5 H5.out).mono ?_
  rintro _ w6 ⟨rfl, hb6⟩
  have H6 : Hid (Below X.heap.size X w6) := hb6
  clear hb6 HE
  go_wp2_with fail
  refine (HD.out w6 H6.out).mono ?_
  rintro _ w7 ⟨a7, c7, rfl, H7, e7⟩
  obtain rfl : w6 = w7 := e7.symm
  clear e7 H7 HD
  go_wp2_with fail
  go_ret
  exact ⟨rfl, H6.out⟩
/-! ### an answer beside both links -/
section
variable {w0 V z : World} {l : Option Addr} {rb : Nat} {F G : Nat → Prop} {σ τ : LSt}
/-- Both links, and a text that was told: none of their memory. -/
def CJ (w0 V : World) (l : Option Addr) (rb : Nat) (F G : Nat → Prop) (σ τ : LSt) (B : Nat) (a : Option Addr) (m c : Nat) (bs : List Int) (X : World) : Prop :=
  ∃ F' G', PR w0 X l rb F' G' σ τ ∧ Off (PRw l rb G) V X ∧ (∀ b, F' b → F b ∨ (V.heap.size ≤ b ∧ b < X.heap.size)) ∧ (∀ b, G' b → G b ∨ (V.heap.size ≤ b ∧ b < X.heap.size)) ∧ BRow X B (.slice a m c) bs ∧ m ≤ 8195 ∧ ∀ g, (Value.slice a m c).ownBlock = some g → ¬ F' g ∧ ¬ PRw l rb G' g
theorem CJ.q {B m c : Nat} {a : Option Addr} {bs : List Int} (h : CJ w0 V l rb F G σ τ B a m c bs z) : PRq w0 V l rb F G σ τ z := by
  obtain ⟨F', G', h1, h2, h3, h4, _⟩ := h
  exact ⟨F', G', h1, h2, h3, h4⟩
theorem CJ.row {B m c : Nat} {a : Option Addr} {bs : List Int} (h : CJ w0 V l rb F G σ τ B a m c bs z) : BRow z B (.slice a m c) bs ∧ m ≤ 8195 := by
  obtain ⟨F', G', _, _, _, _, h5, h6, _⟩ := h
  exact ⟨h5, h6⟩
theorem CJ.below {z' : World} {B m c : Nat} {a : Option Addr} {bs : List Int} (h : CJ w0 V l rb F G σ τ B a m c bs z) (hb : Below z.heap.size z z') : CJ w0 V l rb F G σ τ B a m c bs z' := by
  obtain ⟨F', G', h1, h2, h3, h4, h5, h6, h7⟩ := h
  have := hb.size
  refine ⟨F', G', h1.below hb, h2.trans (Off.of_below hb), fun b hb' => ?_, fun b hb' => ?_, ERow.below h5 hb, h6, h7⟩
  · exact (h3 b hb').imp id fun e => ⟨e.1, by omega⟩
  · exact (h4 b hb').imp id fun e => ⟨e.1, by omega⟩
theorem jCarryC (h : PRq w0 V l rb F G σ τ z) (s i n : Int) : Calls Tryd.prog 12 #[.pointer l, .int .i64 s, .int .i64 i, .int .i64 n] z fun e w' => ∃ a m c v, e = .returned (.tuple #[.slice a m c, v]) ∧ Hid (EvIs w' v 0 (cV 3 1 (fun c => carE c i n) σ s) ∧ CJ w0 V l rb F G (cS (fun c => carC c i n) σ s) τ z.heap.size a m c (cV [] [] (fun c => carR c i n) σ s) w') := by
  obtain ⟨F', G', h1, h2, h3, h4⟩ := h
  refine (qCarry h1.pl s i n).mono fun e w' ⟨a, m, c, v, e1, e2⟩ => ⟨a, m, c, v, e1, e2.out.2.2.1, ?_⟩
  obtain ⟨k1, k2, _, F2, k3, k4, k5, k6⟩ := e2.out
  obtain ⟨F3, G3, q1, q2, q3, q4⟩ := h1.prog ⟨F2, k3, k4, k5⟩
  -- the footprint of the program's link is F2 itself
  have hr := h1.rl.lt
  have hs := h1.b.size
  have p1 : PR w0 w' l rb F2 G' (cS (fun c => carC c i n) σ s) τ := by
    refine ⟨k3, h1.rl.off k4 (fun e => (h1.lg rb e).2.1 rfl) (fun b hb e => (h1.lg b e).1 hb), fun b hb hg => ?_, fun e => ?_, h1.lg, fun b hb => ?_, h1.b.trans (k4.below hs fun q e => (h1.lg q e).2.2)⟩
    · rcases k5 b hb with e | e
      · exact h1.fg b e hg
      · have := (hr.1 b hg).1; omega
    · rcases k5 rb e with e' | e'
      · exact h1.fr e'
      · have := hr.2; omega
    · rcases hb with e | e
      · rcases k5 b e with e' | e'
        · exact h1.lo b (Or.inl e')
        · omega
      · exact h1.lo b (Or.inr e)
  obtain ⟨F4, G4, t1, t2, t3, t4⟩ := PRq.trans h2 h3 h4 (⟨F2, G', p1, k4.mono fun q e => Or.inr (Or.inr e), k5, fun b hb => Or.inl hb⟩ : PRq w0 z l rb F' G' (cS (fun c => carC c i n) σ s) τ w')
  have s1 := h2.size
  have s2 := k4.size
  refine ⟨F2, G', p1, t2, fun b hb => ?_, fun b hb => ?_, k1, k2, fun g hg => ⟨k6 g hg, fun e => ?_⟩⟩
  · rcases k5 b hb with e | e
    · exact (h3 b e).imp id fun e => ⟨e.1, by omega⟩
    · exact Or.inr ⟨by omega, e.2⟩
  · exact (h4 b hb).imp id fun e => ⟨e.1, by omega⟩
  · have := (h1.wlt e).1
    have := (ERow.lt k1 hg).1
    omega
theorem dCarryC {B m c : Nat} {a : Option Addr} {bs : List Int} (h : CJ w0 V l rb F G σ τ B a m c bs z) (ho : SOk τ) {v : Value} {av cv : Int} (hv : EvIs z v av cv) (s i n : Int) : Calls Tryd.prog 47 #[.pointer (some ⟨rb, 0, none⟩), .int .i64 s, .int .i64 i, .int .i64 n] z fun e w' => ∃ a2 m2 c2, e = .returned (.tuple #[.slice a2 m2 c2, .int .i64 (cV 3 1 (fun c => carE c i n) τ s)]) ∧ Hid (Byts w' a2 m2 (cV [] [] (fun c => carR c i n) τ s) ∧ EvIs w' v av cv ∧ CJ w0 V l rb F G σ (cS (fun c => carC c i n) τ s) B a m c bs w') := by
  obtain ⟨F', G', h1, h2, h3, h4, h5, h6, h7⟩ := h
  refine (uCarry h1.rl ho s i n).mono fun e w' ⟨a2, m2, c2, e1, e2⟩ => ⟨a2, m2, c2, e1, e2.out.1, ?_⟩
  obtain ⟨G2, k1, k2, k3⟩ := e2.out.2
  refine ⟨hv.doc h1.rl k2, ?_⟩
  have hl := h1.pl.lt
  have hs := h1.b.size
  have s1 := h2.size
  have s2 := k2.size
  obtain ⟨F3, G3, q1, q2, q3, q4⟩ := PRq.trans h2 h3 h4 (h1.doc ⟨G2, k1, k2, k3⟩)
  have p1 : PR w0 w' l rb F' G2 σ (cS (fun c => carC c i n) τ s) := by
    refine ⟨h1.pl.off k2 (fun lb e g => ?_) (fun b hb g => ?_), k1, fun b hb hg => ?_, h1.fr, fun lb e => ⟨fun g => ?_, (h1.lg lb e).2⟩, fun b hb => ?_, h1.b.trans (k2.below hs fun q e => h1.lo q (Or.inr e))⟩
    · rcases g with g | g
      · exact (h1.lg lb e).1 g
      · exact (h1.lg lb e).2.1 g
    · rcases g with g | g
      · exact h1.fg b hb g
      · exact h1.fr (g ▸ hb)
    · rcases k3 b hg with e | e
      · exact h1.fg b hb e
      · have := hl.1 b hb; omega
    · rcases k3 lb g with g' | g'
      · exact (h1.lg lb e).1 g'
      · have := (hl.2 lb e).1; omega
    · rcases hb with e | e | e
      · exact h1.lo b (Or.inl e)
      · rcases k3 b e with e' | e'
        · exact h1.lo b (Or.inr (Or.inl e'))
        · omega
      · exact h1.lo b (Or.inr (Or.inr e))
  refine ⟨F', G2, p1, q2, fun b hb => ?_, fun b hb => ?_, ERow.off h5 k2 fun g hg e => ?_, h6, fun g hg => ⟨(h7 g hg).1, fun e => ?_⟩⟩
  · exact (h3 b hb).imp id fun e => ⟨e.1, by omega⟩
  · rcases k3 b hb with e | e
    · exact (h4 b e).imp id fun e => ⟨e.1, by omega⟩
    · exact Or.inr ⟨by omega, e.2⟩
  · refine (h7 g hg).2 ?_
    rcases e with e | e
    · exact Or.inl e
    · exact Or.inr (Or.inl e)
  · refine (h7 g hg).2 ?_
    rcases e with e | e | e
    · rcases k3 g e with e' | e'
      · exact Or.inl e'
      · have := (ERow.lt h5 hg).2; omega
    · exact Or.inr (Or.inl e)
    · exact Or.inr (Or.inr e)
end
end Go.Proofs.YtpcickhellkiaaaDoor
