/-
  The document's link as a whole: plain or made by New; every call at every side.
-/
import Derived.Test.YtpcickhellkiaaaDoorLxP
import Derived.Test.YtpcickhellkiaaaDoorLkCarP
import Derived.Test.YtpcickhellkiaaaDoorLkNo
import Derived.Test.YtpcickhellkiaaaDoorLkBad
import Derived.Test.YtpcickhellkiaaaDoorLkNoise
import Derived.Test.YtpcickhellkiaaaDoorLkPlain
namespace Go.Proofs.YtpcickhellkiaaaDoor
open Go.RowKit

/-- A side's blocks: its list, its texts. -/
def WyIn (G : Nat → Prop) (z : Wy) : Prop := (∀ g, wyOwn z = some g → G g) ∧ ∀ p ∈ z.ps, ∀ g, (Value.slice p.a p.n p.c).ownBlock = some g → G g
/-- A block of texts, or of bytes. -/
def Bty (w : World) (b : Nat) : Prop := ∃ cs t, w.heap[b]? = some (.cells cs t (0, 0)) ∧ (t = 27 ∨ t = 5)
theorem Bty.lt {w : World} {b : Nat} (h : Bty w b) : b < w.heap.size := by
  obtain ⟨cs, t, e, _⟩ := h
  exact blk_lt e
/-- The document's link. -/
def RL (w : World) (rb : Nat) (G : Nat → Prop) : LSt → Prop
  | none => (∀ b, ¬ G b) ∧ w.heap[rb]? = some (.cells #[.bool false, .slice none 0 0, .int .i64 0, .slice none 0 0, .int .i64 0] 59 (0, 0))
  | some c => ∃ x y, RLk w rb x y ∧ sdOf x = c.1 ∧ sdOf y = c.2 ∧ WyIn G x ∧ WyIn G y ∧ (∀ b, G b → b ≠ rb ∧ Bty w b)
/-- What a call leaves of it. -/
def RQs (w : World) (rb : Nat) (G : Nat → Prop) (σ : LSt) (w' : World) : Prop := ∃ G', RL w' rb G' σ ∧ Off (fun q => G q ∨ q = rb) w w' ∧ ∀ b, G' b → G b ∨ (w.heap.size ≤ b ∧ b < w'.heap.size)
section
variable {w w' : World} {rb : Nat} {G : Nat → Prop} {σ : LSt} {s code : Int}
theorem RL.off {P : Nat → Prop} (h : RL w rb G σ) (o : Off P w w') (hr : ¬ P rb) (hG : ∀ b, G b → ¬ P b) : RL w' rb G σ := by
  cases σ with
  | none => exact ⟨h.1, (o.block rb (blk_lt h.2) hr).trans h.2⟩
  | some c =>
    obtain ⟨x, y, h1, h2, h3, h4, h5, h6⟩ := h
    have key : ∀ z, WyOk w (rb + 1) z → WyIn G z → WyOk w' (rb + 1) z := fun z hz hi =>
      ⟨ERow.off hz.row o fun g hg => hG g (hi.1 g hg), fun p hp => ⟨ERow.off (hz.pcs p hp).1 o fun g hg => hG g (hi.2 p hp g hg), (hz.pcs p hp).2⟩, hz.len⟩
    exact ⟨x, y, ⟨(o.block rb (blk_lt h1.blk) hr).trans h1.blk, key x h1.px h4, key y h1.py h5, h1.ap⟩, h2, h3, h4, h5, fun b hb => ⟨(h6 b hb).1, by
      obtain ⟨cs, t, e, ht⟩ := (h6 b hb).2
      exact ⟨cs, t, (o.block b (blk_lt e) (hG b hb)).trans e, ht⟩⟩⟩
theorem RL.below (h : RL w rb G σ) (hb : Below w.heap.size w w') : RL w' rb G σ := h.off (P := fun _ => False) (Off.of_below hb) id (fun _ _ => id)
theorem RL.lt (h : RL w rb G σ) : (∀ b, G b → b < w.heap.size ∧ b ≠ rb) ∧ rb < w.heap.size := by
  cases σ with
  | none => exact ⟨fun b hb => (h.1 b hb).elim, blk_lt h.2⟩
  | some c =>
    obtain ⟨x, y, h1, _, _, _, _, h6⟩ := h
    exact ⟨fun b hb => ⟨(h6 b hb).2.lt, (h6 b hb).1⟩, blk_lt h1.blk⟩
/-- No block of a fault is one of the document's. -/
theorem RL.nf (h : RL w rb G σ) {b : Nat} {cs : Array Value} (hb : w.heap[b]? = some (.cells cs 92 (0, 0))) : ¬ (G b ∨ b = rb) := fun e => by
  cases σ with
  | none =>
    rcases e with e | rfl
    · exact h.1 b e
    · have := h.2
      rw [hb] at this
      simp at this
  | some c =>
    obtain ⟨x, y, h1, _, _, _, _, h6⟩ := h
    rcases e with e | rfl
    · obtain ⟨_, cs', t, e', ht⟩ := h6 b e
      rw [hb] at e'
      simp only [Option.some.injEq, Obj.cells.injEq] at e'
      rcases ht with ht | ht
      · rw [ht] at e'; exact absurd e'.2.1 (by decide)
      · rw [ht] at e'; exact absurd e'.2.1 (by decide)
    · have := h1.blk
      rw [hb] at this
      simp at this
theorem EvIs.doc {w' : World} {v : Value} {a c : Int} (h : EvIs w v a c) (hr : RL w rb G σ) (o : Off (fun q => G q ∨ q = rb) w w') : EvIs w' v a c := by
  rcases h with h | ⟨h, b, e, f, cs, hc⟩
  · exact Or.inl h
  · have hn := hr.nf hc
    have key : ∀ j, w'.cell? ⟨b, j, none⟩ = w.cell? ⟨b, j, none⟩ := fun j => o.cell (p := ⟨b, j, none⟩) (blk_lt hc) hn
    exact Or.inr ⟨h, b, e, by unfold FaultAt; simp only [key]; exact f, cs, (o.block b (blk_lt hc) hn).trans hc⟩
theorem RL.same (h : RL w rb G σ) (hb : Below w.heap.size w w') : RQs w rb G σ w' := ⟨G, h.below hb, Off.of_below hb, fun _ hb' => Or.inl hb'⟩
theorem RL.plain (h : RL w rb G none) : w.cell? ⟨rb, 0, none⟩ = some (.bool false) := hcell h.2 0
theorem WyIn.new {z z' : Wy} {B : Nat} (h : WyIn G z) (hn : NewP w z z') (ho : ∀ g, wyOwn z' = some g → wyOwn z = some g ∨ w.heap.size ≤ g) (hk : WyOk w' B z') : WyIn (fun b => (G b ∨ (w.heap.size ≤ b ∧ b < w'.heap.size)) ∧ Bty w' b) z' := by
  refine ⟨fun g hg => ⟨?_, ?_⟩, fun p hp g hg => ⟨?_, ?_⟩⟩
  · rcases ho g hg with e | e
    · exact Or.inl (h.1 g e)
    · exact Or.inr ⟨e, (ERow.lt hk.row hg).2⟩
  · obtain ⟨cs, e⟩ := row_pc hk.row hg
    exact ⟨cs, _, e, Or.inl rfl⟩
  · rcases hn p hp with e | e
    · exact Or.inl (h.2 p e g hg)
    · exact Or.inr ⟨e g hg, (ERow.lt (hk.pcs p hp).1 hg).2⟩
  · obtain ⟨cs, e⟩ := row_b (hk.pcs p hp).1 hg
    exact ⟨cs, _, e, Or.inr rfl⟩
/-- A side that is as it was. -/
theorem WyIn.old {z : Wy} {B : Nat} (h : WyIn G z) (hk : WyOk w' B z) : WyIn (fun b => (G b ∨ (w.heap.size ≤ b ∧ b < w'.heap.size)) ∧ Bty w' b) z := by
  refine ⟨fun g hg => ⟨Or.inl (h.1 g hg), ?_⟩, fun p hp g hg => ⟨Or.inl (h.2 p hp g hg), ?_⟩⟩
  · obtain ⟨cs, e⟩ := row_pc hk.row hg
    exact ⟨cs, _, e, Or.inl rfl⟩
  · obtain ⟨cs, e⟩ := row_b (hk.pcs p hp).1 hg
    exact ⟨cs, _, e, Or.inr rfl⟩
theorem RL.at_ {c : Sd × Sd} {k : Nat} (h : RL w rb G (some c)) (hk : k < 2) : ∃ x y, RLk w rb x y ∧ sdOf (sdW x y k) = csd c k ∧ ∀ (g : Sd → Sd) w', RQ w rb x y k (g (csd c k)) w' → RQs w rb G (cS g (some c) (k : Int)) w' := by
  obtain ⟨x, y, h1, h2, h3, h4, h5, h6⟩ := h
  refine ⟨x, y, h1, ?_, fun g w' hq => ?_⟩
  · unfold sdW csd
    split
    · exact h2
    · exact h3
  · obtain ⟨z', q1, q2, q3, q4, q5⟩ := hq
    have hlt := blk_lt h1.blk
    have hne : ∀ b, (G b ∨ (w.heap.size ≤ b ∧ b < w'.heap.size)) ∧ Bty w' b → b ≠ rb ∧ Bty w' b := fun b hb => by
      refine ⟨?_, hb.2⟩
      rcases hb.1 with e | e
      · exact (h6 b e).1
      · omega
    refine ⟨fun b => (G b ∨ (w.heap.size ≤ b ∧ b < w'.heap.size)) ∧ Bty w' b, ?_, q3.mono fun q e => ?_, fun b hb => hb.1⟩
    · rcases (by omega : k = 0 ∨ k = 1) with rfl | rfl
      · exact ⟨z', y, q1, q2, h3, h4.new q5 q4 q1.px, h5.old q1.py, hne⟩
      · exact ⟨x, z', q1, h2, q2, h4.old q1.px, h5.new q5 q4 q1.py, hne⟩
    · rcases e with e | e
      · exact Or.inr e
      · refine Or.inl ?_
        rcases (by omega : k = 0 ∨ k = 1) with rfl | rfl
        · exact h4.1 q e
        · exact h5.1 q e
theorem uSend (h : RL w rb G σ) {po : Option Addr} {m c : Nat} {bs : List Int} (hb : Byts w po m bs) (s : Int) : Calls Tryd.prog 46 #[.pointer (some ⟨rb, 0, none⟩), .int .i64 s, .slice po m c] w fun e w' => e = .returned (.int .i64 (cV 3 1 (fun c => sendE c bs) σ s)) ∧ Hid (RQs w rb G (cS (fun c => sendC c bs) σ s) w') := by
  rcases side_cases σ s with ⟨code, hn⟩ | ⟨cc, k, rfl, hk, rfl⟩
  · rw [hn.v, hn.st]
    rcases hn with ⟨rfl, rfl⟩ | ⟨c, rfl, hs, rfl⟩
    · exact (rSend_plain h.plain).mono fun e w' ⟨e1, e2⟩ => ⟨e1, by rw [e2]; exact h.same (Below.refl _ _)⟩
    · obtain ⟨x, y, h1, _⟩ := h.at_ (k := 0) (by omega)
      exact (rSend_bad h1 hs).mono fun e w' ⟨e1, e2⟩ => ⟨e1, by rw [e2]; exact h.same (Below.refl _ _)⟩
  · obtain ⟨x, y, h1, h2, h3⟩ := h.at_ hk
    rw [cV_at hk, ← h2]
    refine (rsend_any h1 hk hb).mono fun e w' ⟨e1, e2⟩ => ⟨e1, h3 (fun c => sendC c bs) w' ?_⟩
    rw [← h2]; exact e2.out
theorem uNoise (h : RL w rb G σ) {po : Option Addr} {m c : Nat} {bs : List Int} (hb : Byts w po m bs) (s : Int) : Calls Tryd.prog 51 #[.pointer (some ⟨rb, 0, none⟩), .int .i64 s, .slice po m c] w fun e w' => e = .returned (.tuple #[.int .i64 (cV (0, 3) (0, 1) (fun c => noiseE c bs) σ s).1, .int .i64 (cV (0, 3) (0, 1) (fun c => noiseE c bs) σ s).2]) ∧ Hid (RQs w rb G (cS (fun c => noiseC c bs) σ s) w') := by
  rcases side_cases σ s with ⟨code, hn⟩ | ⟨cc, k, rfl, hk, rfl⟩
  · rw [hn.p, hn.st]
    rcases hn with ⟨rfl, rfl⟩ | ⟨c, rfl, hs, rfl⟩
    · exact (rNoise_plain h.plain).mono fun e w' ⟨e1, e2⟩ => ⟨e1, by rw [e2]; exact h.same (Below.refl _ _)⟩
    · obtain ⟨x, y, h1, _⟩ := h.at_ (k := 0) (by omega)
      exact (rNoise_bad h1 hs).mono fun e w' ⟨e1, e2⟩ => ⟨e1, by rw [e2]; exact h.same (Below.refl _ _)⟩
  · obtain ⟨x, y, h1, h2, h3⟩ := h.at_ hk
    rw [cV_at hk, ← h2]
    refine (rnoise_any h1 hk hb).mono fun e w' ⟨e1, e2⟩ => ⟨e1, h3 (fun c => noiseC c bs) w' ?_⟩
    rw [← h2]; exact e2.out
theorem uDrop (h : RL w rb G σ) (ho : SOk σ) (s i : Int) : Calls Tryd.prog 48 #[.pointer (some ⟨rb, 0, none⟩), .int .i64 s, .int .i64 i] w fun e w' => e = .returned (.int .i64 (cV 3 1 (fun c => dropE c i) σ s)) ∧ Hid (RQs w rb G (cS (fun c => dropC c i) σ s) w') := by
  rcases side_cases σ s with ⟨code, hn⟩ | ⟨cc, k, rfl, hk, rfl⟩
  · rw [hn.v, hn.st]
    rcases hn with ⟨rfl, rfl⟩ | ⟨c, rfl, hs, rfl⟩
    · exact (rDrop_plain h.plain i).mono fun e w' ⟨e1, e2⟩ => ⟨e1, by rw [e2]; exact h.same (Below.refl _ _)⟩
    · obtain ⟨x, y, h1, _⟩ := h.at_ (k := 0) (by omega)
      exact (rDrop_bad h1 hs i).mono fun e w' ⟨e1, e2⟩ => ⟨e1, by rw [e2]; exact h.same (Below.refl _ _)⟩
  · obtain ⟨x, y, h1, h2, h3⟩ := h.at_ hk
    rw [cV_at hk, ← h2]
    refine (rdrop_any h1 hk (by rw [h2]; exact ho.at_ k) i).mono fun e w' ⟨e1, e2⟩ => ⟨e1, h3 (fun c => dropC c i) w' ?_⟩
    rw [← h2]; exact e2.out
theorem uDouble (h : RL w rb G σ) (s i : Int) : Calls Tryd.prog 49 #[.pointer (some ⟨rb, 0, none⟩), .int .i64 s, .int .i64 i] w fun e w' => e = .returned (.int .i64 (cV 3 1 (fun c => dblE c i) σ s)) ∧ Hid (RQs w rb G (cS (fun c => dblC c i) σ s) w') := by
  rcases side_cases σ s with ⟨code, hn⟩ | ⟨cc, k, rfl, hk, rfl⟩
  · rw [hn.v, hn.st]
    rcases hn with ⟨rfl, rfl⟩ | ⟨c, rfl, hs, rfl⟩
    · exact (rDouble_plain h.plain i).mono fun e w' ⟨e1, e2⟩ => ⟨e1, by rw [e2]; exact h.same (Below.refl _ _)⟩
    · obtain ⟨x, y, h1, _⟩ := h.at_ (k := 0) (by omega)
      exact (rDouble_bad h1 hs i).mono fun e w' ⟨e1, e2⟩ => ⟨e1, by rw [e2]; exact h.same (Below.refl _ _)⟩
  · obtain ⟨x, y, h1, h2, h3⟩ := h.at_ hk
    rw [cV_at hk, ← h2]
    refine (rdbl_any h1 hk i).mono fun e w' ⟨e1, e2⟩ => ⟨e1, h3 (fun c => dblC c i) w' ?_⟩
    rw [← h2]; exact e2.out
theorem clip_ne {c : Sd} {i n : Int} (h : ¬ clipE c i n = 0) : clipE c i n = 2 := by
  unfold clipE at h ⊢
  split
  · rename_i g; rw [if_pos g] at h; exact (h rfl).elim
  · rfl
theorem clip_yes {c : Sd} {i n : Int} (h : clipE c i n = 0) : isAt c i = true ∧ 1 ≤ n ∧ n ≤ (pcAt c i).length := by
  unfold clipE at h
  split at h
  · assumption
  · omega
theorem uClip (h : RL w rb G σ) (s i n : Int) : Calls Tryd.prog 50 #[.pointer (some ⟨rb, 0, none⟩), .int .i64 s, .int .i64 i, .int .i64 n] w fun e w' => e = .returned (.int .i64 (cV 3 1 (fun c => clipE c i n) σ s)) ∧ Hid (RQs w rb G (cS (fun c => clipC c i n) σ s) w') := by
  rcases side_cases σ s with ⟨code, hn⟩ | ⟨cc, k, rfl, hk, rfl⟩
  · rw [hn.v, hn.st]
    rcases hn with ⟨rfl, rfl⟩ | ⟨c, rfl, hs, rfl⟩
    · exact (rClip_plain h.plain i n).mono fun e w' ⟨e1, e2⟩ => ⟨e1, by rw [e2]; exact h.same (Below.refl _ _)⟩
    · obtain ⟨x, y, h1, _⟩ := h.at_ (k := 0) (by omega)
      exact (rClip_bad h1 hs i n).mono fun e w' ⟨e1, e2⟩ => ⟨e1, by rw [e2]; exact h.same (Below.refl _ _)⟩
  · obtain ⟨x, y, h1, h2, h3⟩ := h.at_ hk
    rw [cV_at hk, ← h2]
    by_cases hc : clipE (sdOf (sdW x y k)) i n = 0
    · obtain ⟨ha, hn1, hn2⟩ := clip_yes hc
      have hi := isAt_iff.1 ha
      have hl := (h1.at_ hk).len
      obtain ⟨j, rfl⟩ : ∃ j : Nat, i = j := ⟨i.toNat, by omega⟩
      obtain ⟨m, rfl⟩ : ∃ m : Nat, n = m := ⟨n.toNat, by omega⟩
      rw [hc]
      refine (rclip_ok h1 hk j m (by omega) (by omega) (by omega)).mono fun e w' ⟨e1, e2⟩ => ⟨e1, h3 (fun c => clipC c j m) w' ?_⟩
      rw [← h2]; exact e2.out
    · rw [clip_ne hc]
      refine (rclip_no h1 hk i n hc).mono fun e w' ⟨e1, e2⟩ => ⟨e1, h3 (fun c => clipC c i n) w' ?_⟩
      rw [← h2]; exact e2.out
theorem car_yes {c : Sd} {i n : Int} (h : carE c i n = 0) : isAt c i = true ∧ 0 ≤ n ∧ n ≤ (pcAt c i).length := by
  unfold carE at h
  split at h
  · rename_i g; exact ⟨g.1, g.2.1, g.2.2.1⟩
  · omega
theorem uCarry (h : RL w rb G σ) (ho : SOk σ) (s i n : Int) : Calls Tryd.prog 47 #[.pointer (some ⟨rb, 0, none⟩), .int .i64 s, .int .i64 i, .int .i64 n] w fun e w' => ∃ a m c, e = .returned (.tuple #[.slice a m c, .int .i64 (cV 3 1 (fun c => carE c i n) σ s)]) ∧ Hid (Byts w' a m (cV [] [] (fun c => carR c i n) σ s) ∧ RQs w rb G (cS (fun c => carC c i n) σ s) w') := by
  rcases side_cases σ s with ⟨code, hn⟩ | ⟨cc, k, rfl, hk, rfl⟩
  · rw [hn.v, hn.st, hn.v2]
    rcases hn with ⟨rfl, rfl⟩ | ⟨c, rfl, hs, rfl⟩
    · exact (rCarry_plain h.plain i n).mono fun e w' ⟨e1, e2⟩ => ⟨none, 0, 0, e1, Byts.nil _ _, by rw [e2]; exact h.same (Below.refl _ _)⟩
    · obtain ⟨x, y, h1, _⟩ := h.at_ (k := 0) (by omega)
      exact (rCarry_bad h1 hs i n).mono fun e w' ⟨e1, e2⟩ => ⟨none, 0, 0, e1, Byts.nil _ _, by rw [e2]; exact h.same (Below.refl _ _)⟩
  · obtain ⟨x, y, h1, h2, h3⟩ := h.at_ hk
    rw [cV_at hk, cV_at hk]
    by_cases hc : carE (csd cc k) i n = 0
    · have hc' := hc
      rw [← h2] at hc'
      obtain ⟨ha, hn1, hn2⟩ := car_yes hc'
      have hi := isAt_iff.1 ha
      have hl := (h1.at_ hk).len
      obtain ⟨j, rfl⟩ : ∃ j : Nat, i = j := ⟨i.toNat, by omega⟩
      obtain ⟨m, rfl⟩ : ∃ m : Nat, n = m := ⟨n.toNat, by omega⟩
      rw [hc]
      have fin : Calls Tryd.prog 47 #[.pointer (some ⟨rb, 0, none⟩), .int .i64 (k : Int), .int .i64 (j : Int), .int .i64 (m : Int)] w fun e w' => ∃ a m' c, e = .returned (.tuple #[.slice a m' c, .int .i64 0]) ∧ Hid (BRow w' w.heap.size (.slice a m' c) (carR (sdOf (sdW x y k)) j m) ∧ RQ w rb x y k (carC (sdOf (sdW x y k)) j m) w') := by
        by_cases hw : carW (sdOf (sdW x y k)) (j : Int) (m : Int) = true
        · exact rcar_whole h1 hk (by rw [h2]; exact ho.at_ k) j m (by omega) hc' hw
        · exact rcar_part h1 hk j m (by omega) hc' hw
      refine fin.mono fun e w' ⟨a, m', c, e1, e2⟩ => ⟨a, m', c, e1, ?_, h3 (fun c => carC c j m) w' ?_⟩
      · rw [← h2]; exact BRow.byts e2.out.1
      · rw [← h2]; exact e2.out.2
    · obtain ⟨c1, c2, c3⟩ := car_ne hc
      rw [c1, c2]
      have hc' := hc
      rw [← h2] at hc'
      refine (rcar_no h1 hk i n hc').mono fun e w' ⟨e1, e2⟩ => ⟨none, 0, 0, e1, Byts.nil _ _, h3 (fun c => carC c i n) w' ?_⟩
      rw [← h2]; exact e2.out
theorem uHalf (h : RL w rb G σ) (s : Int) : Calls Tryd.prog 53 #[.pointer (some ⟨rb, 0, none⟩), .int .i64 s] w fun e w' => e = .returned (.int .i64 (cV (-1) (-1) (fun c => c.2) σ s)) ∧ w' = w := by
  rcases side_cases σ s with ⟨code, hn⟩ | ⟨cc, k, rfl, hk, rfl⟩
  · rw [hn.v2]
    rcases hn with ⟨rfl, rfl⟩ | ⟨c, rfl, hs, rfl⟩
    · exact rHalf_plain h.plain
    · obtain ⟨x, y, h1, _⟩ := h.at_ (k := 0) (by omega)
      exact rHalf_bad h1 hs
  · obtain ⟨x, y, h1, h2, h3⟩ := h.at_ hk
    rw [cV_at hk, ← h2]
    exact rhalf_any h1 hk
theorem uFlight (h : RL w rb G σ) (s : Int) : Calls Tryd.prog 54 #[.pointer (some ⟨rb, 0, none⟩), .int .i64 s] w fun e w' => ∃ a c, e = .returned (.slice a (cV [] [] (fun c => c.1) σ s).length c) ∧ Hid (Pcs w a (cV [] [] (fun c => c.1) σ s).length (cV [] [] (fun c => c.1) σ s)) ∧ w' = w := by
  rcases side_cases σ s with ⟨code, hn⟩ | ⟨cc, k, rfl, hk, rfl⟩
  · rw [hn.v2]
    rcases hn with ⟨rfl, rfl⟩ | ⟨c, rfl, hs, rfl⟩
    · exact (rFlight_plain h.plain).mono fun e w' ⟨e1, e2⟩ => ⟨none, 0, e1, ⟨rfl, by simp, fun j hj => by simp at hj⟩, e2⟩
    · obtain ⟨x, y, h1, _⟩ := h.at_ (k := 0) (by omega)
      exact (rFlight_bad h1 hs).mono fun e w' ⟨e1, e2⟩ => ⟨none, 0, e1, ⟨rfl, by simp, fun j hj => by simp at hj⟩, e2⟩
  · obtain ⟨x, y, h1, h2, h3⟩ := h.at_ hk
    rw [cV_at hk, ← h2]
    have hl := (h1.at_ hk).len
    refine (rflight_any h1 hk).mono fun e w' ⟨e1, e2⟩ => ⟨(sdW x y k).a, (sdW x y k).c, by rw [e1, hl.1], ?_, e2⟩
    have := WyOk.pcs_ (h1.at_ hk).ok
    rw [← hl.1] at this
    exact this
end
end Go.Proofs.YtpcickhellkiaaaDoor
