/-
  A log in memory; its do, ready.
-/
import Derived.Test.YtgminfbhaclbbaaDoorWPlay
namespace Go.Proofs.YtgminfbhaclbbaaDoor
open Go.RowKit Go.BigFrame

/-- A log in memory (block L) over its disk (block K). -/
structure Lg (x : World) (B K L : Nat) (v0 v1 : Value) (σ : Sg) (dd : Bool) (gn ar rc wt by_ : Int) : Prop where
  d : DskS x B K v0 v1 σ
  c0 : x.cell? ⟨L, 0, none⟩ = some (.pointer (some ⟨K, 0, none⟩))
  c1 : x.cell? ⟨L, 1, none⟩ = some (.bool dd)
  c2 : x.cell? ⟨L, 2, none⟩ = some (.int .u64 gn)
  c3 : x.cell? ⟨L, 3, none⟩ = some (.int .i64 ar)
  c4 : x.cell? ⟨L, 4, none⟩ = some (.int .i64 rc)
  c5 : x.cell? ⟨L, 5, none⟩ = some (.int .i64 wt)
  c6 : x.cell? ⟨L, 6, none⟩ = some (.int .i64 by_)
  fr : ∀ o, x.frozen? ⟨L, o, none⟩ = false
  nf : ¬ Foot K v0 v1 L
  ge : B ≤ L
/-- What a call of a log leaves of all else. -/
structure LStep (x x' : World) (K L : Nat) (v0 v1 u0 u1 : Value) : Prop where
  off : Off (fun k => Foot K v0 v1 k ∨ k = L) x x'
  foot : ∀ k, k < x.heap.size → Foot K u0 u1 k → Foot K v0 v1 k
section
variable {x x' x'' : World} {B K L : Nat} {v0 v1 u0 u1 z0 z1 : Value} {σ τ : Sg} {dd : Bool} {gn ar rc wt by_ : Int}
theorem Lg.lt (h : Lg x B K L v0 v1 σ dd gn ar rc wt by_) : L < x.heap.size := cell_lt h.c0
theorem Lg.below (h : Lg x B K L v0 v1 σ dd gn ar rc wt by_) (hb : Below x.heap.size x x') : Lg x' B K L v0 v1 σ dd gn ar rc wt by_ := by
  have hl := h.lt
  have hc : ∀ o, x'.cell? ⟨L, o, none⟩ = x.cell? ⟨L, o, none⟩ := fun o => hb.cell (p := ⟨L, o, none⟩) hl
  exact ⟨h.d.off (P := fun _ => False) (Off.of_below hb) (fun _ _ => id), (hc 0).trans h.c0, (hc 1).trans h.c1, (hc 2).trans h.c2, (hc 3).trans h.c3, (hc 4).trans h.c4, (hc 5).trans h.c5, (hc 6).trans h.c6, fun o => (hb.frozen (p := ⟨L, o, none⟩) hl).trans (h.fr o), h.nf, h.ge⟩
theorem Lg.step (h : Lg x B K L v0 v1 σ dd gn ar rc wt by_) (d : DskS x' B K u0 u1 τ) (s : DStep x x' K v0 v1 u0 u1) : Lg x' B K L u0 u1 τ dd gn ar rc wt by_ := by
  have hl := h.lt
  have hc : ∀ o, x'.cell? ⟨L, o, none⟩ = x.cell? ⟨L, o, none⟩ := fun o => s.off.cell (p := ⟨L, o, none⟩) hl h.nf
  exact ⟨d, (hc 0).trans h.c0, (hc 1).trans h.c1, (hc 2).trans h.c2, (hc 3).trans h.c3, (hc 4).trans h.c4, (hc 5).trans h.c5, (hc 6).trans h.c6, fun o => (s.off.frozen (p := ⟨L, o, none⟩) hl h.nf).trans (h.fr o), fun g => h.nf (s.foot _ hl g), h.ge⟩
theorem LStep.refl (x : World) (K L : Nat) (v0 v1 : Value) : LStep x x K L v0 v1 v0 v1 := ⟨Off.refl _ _, fun _ _ h => h⟩
theorem LStep.of_below (K L : Nat) (v0 v1 : Value) (h : Below x.heap.size x x') : LStep x x' K L v0 v1 v0 v1 := ⟨Off.of_below h, fun _ _ g => g⟩
theorem LStep.trans (h : LStep x x' K L v0 v1 u0 u1) (k : LStep x' x'' K L u0 u1 z0 z1) : LStep x x'' K L v0 v1 z0 z1 :=
  ⟨h.off.join k.off (fun i hi g => g.imp (h.foot i hi) id), fun i hi g => h.foot i hi (k.foot i (Nat.lt_of_lt_of_le hi h.off.size) g)⟩
theorem LStep.of_step (L : Nat) (s : DStep x x' K v0 v1 u0 u1) : LStep x x' K L v0 v1 u0 u1 := ⟨s.off.mono (fun _ g => Or.inl g), s.foot⟩
theorem LStep.setCell (x : World) (K L : Nat) (v0 v1 : Value) (o : Nat) (u : Value) : LStep x (x.setCell ⟨L, o, none⟩ u) K L v0 v1 v0 v1 := ⟨(Off.refl _ _).setCell (p := ⟨L, o, none⟩) (Or.inr rfl) u, fun _ _ g => g⟩
theorem Lg.put (h : Lg x B K L v0 v1 σ dd gn ar rc wt by_) (o : Nat) (u : Value) : DskS (x.setCell ⟨L, o, none⟩ u) B K v0 v1 σ ∧ (∀ q, q ≠ o → (x.setCell ⟨L, o, none⟩ u).cell? ⟨L, q, none⟩ = x.cell? ⟨L, q, none⟩) ∧ (∀ q, (x.setCell ⟨L, o, none⟩ u).frozen? ⟨L, q, none⟩ = false) :=
  have off : Off (fun k => k = L) x (x.setCell ⟨L, o, none⟩ u) := (Off.refl (fun k => k = L) x).setCell (p := ⟨L, o, none⟩) rfl u
  ⟨h.d.off off (fun k g e => h.nf (e ▸ g)), fun q hq => World.cell?_setCell_other _ _ _ _ (by simp; first | done | omega), fun q => by rw [World.frozen?_setCell]; exact h.fr q⟩
theorem Lg.putDead (h : Lg x B K L v0 v1 σ dd gn ar rc wt by_) (q : Bool) : Lg (x.setCell ⟨L, 1, none⟩ (.bool q)) B K L v0 v1 σ q gn ar rc wt by_ := by
  obtain ⟨d, hc, hf⟩ := h.put 1 (.bool q)
  exact ⟨d, (hc 0 (by omega)).trans h.c0, World.cell?_setCell_same' _ _ _ (by rw [h.c1]; rfl), (hc 2 (by omega)).trans h.c2, (hc 3 (by omega)).trans h.c3, (hc 4 (by omega)).trans h.c4, (hc 5 (by omega)).trans h.c5, (hc 6 (by omega)).trans h.c6, hf, h.nf, h.ge⟩
theorem Lg.putRec (h : Lg x B K L v0 v1 σ dd gn ar rc wt by_) (q : Int) : Lg (x.setCell ⟨L, 4, none⟩ (.int .i64 q)) B K L v0 v1 σ dd gn ar q wt by_ := by
  obtain ⟨d, hc, hf⟩ := h.put 4 (.int .i64 q)
  exact ⟨d, (hc 0 (by omega)).trans h.c0, (hc 1 (by omega)).trans h.c1, (hc 2 (by omega)).trans h.c2, (hc 3 (by omega)).trans h.c3, World.cell?_setCell_same' _ _ _ (by rw [h.c4]; rfl), (hc 5 (by omega)).trans h.c5, (hc 6 (by omega)).trans h.c6, hf, h.nf, h.ge⟩
theorem Lg.putWait (h : Lg x B K L v0 v1 σ dd gn ar rc wt by_) (q : Int) : Lg (x.setCell ⟨L, 5, none⟩ (.int .i64 q)) B K L v0 v1 σ dd gn ar rc q by_ := by
  obtain ⟨d, hc, hf⟩ := h.put 5 (.int .i64 q)
  exact ⟨d, (hc 0 (by omega)).trans h.c0, (hc 1 (by omega)).trans h.c1, (hc 2 (by omega)).trans h.c2, (hc 3 (by omega)).trans h.c3, (hc 4 (by omega)).trans h.c4, World.cell?_setCell_same' _ _ _ (by rw [h.c5]; rfl), (hc 6 (by omega)).trans h.c6, hf, h.nf, h.ge⟩
theorem Lg.putBytes (h : Lg x B K L v0 v1 σ dd gn ar rc wt by_) (q : Int) : Lg (x.setCell ⟨L, 6, none⟩ (.int .i64 q)) B K L v0 v1 σ dd gn ar rc wt q := by
  obtain ⟨d, hc, hf⟩ := h.put 6 (.int .i64 q)
  exact ⟨d, (hc 0 (by omega)).trans h.c0, (hc 1 (by omega)).trans h.c1, (hc 2 (by omega)).trans h.c2, (hc 3 (by omega)).trans h.c3, (hc 4 (by omega)).trans h.c4, (hc 5 (by omega)).trans h.c5, World.cell?_setCell_same' _ _ _ (by rw [h.c6]; rfl), hf, h.nf, h.ge⟩
set_option maxHeartbeats 1000000 in
theorem ready_ok (h : Lg x B K L v0 v1 σ false gn ar rc wt by_) : Calls Tryd.prog 26 #[.pointer (some ⟨L, 0, none⟩)] x fun e w' => e = .returned .nilIface ∧ w' = x := by
  have c0 := h.c0
  have c1 := h.c1
  clear h
  go_enter Tryd.func26, Tryd.ntmps26
  go_wp2_with fail
  go_ret
  exact ⟨rfl, rfl⟩
set_option maxHeartbeats 1000000 in
theorem ready_dead (h : Lg x B K L v0 v1 σ true gn ar rc wt by_) : Calls Tryd.prog 26 #[.pointer (some ⟨L, 0, none⟩)] x fun e w' => ∃ v, e = .returned v ∧ WErr x 8 v w' := by
  have c0 := h.c0
  have c1 := h.c1
  clear h
  go_enter Tryd.func26, Tryd.ntmps26
  go_wp2_with fail
  refine (wfault_any _ _).mono ?_
  rintro e w' ⟨v, rfl, hv⟩
  go_wp2_with fail
  go_ret
  exact ⟨v, rfl, hv⟩
/-- What one step leaves of a log. -/
def OneQ (x : World) (B K L : Nat) (v0 v1 : Value) (σ : Sg) (c gn ar rc wt by_ : Int) (e : Ending) (x' : World) : Prop :=
  ∃ ev u0 u1, e = .returned ev ∧ LStep x x' K L v0 v1 u0 u1 ∧ ((c = 0 ∧ ev = .nilIface ∧ Lg x' B K L u0 u1 σ false gn ar rc wt by_) ∨ (c ≠ 0 ∧ (∃ b, ev = .iface 98 (.pointer (some ⟨b, 0, none⟩))) ∧ Lg x' B K L u0 u1 σ true gn ar rc wt by_))
set_option maxRecDepth 100000 in
set_option maxHeartbeats 4000000 in
theorem do_one {g cap f : Nat} {caps : Array Value} {c : Int} (h : Lg x B K L v0 v1 σ false gn ar rc wt by_) (hg : x.cell? ⟨g, 0, none⟩ = some (.func (.func f) #[] caps)) (hen : Enters Tryd.prog f) (hc : Calls Tryd.prog f caps x (StepQ x B K v0 v1 τ c)) :
    Calls Tryd.prog 28 #[.pointer (some ⟨L, 0, none⟩), .slice (some ⟨g, 0, none⟩) 1 cap] x (OneQ x B K L v0 v1 τ c gn ar rc wt by_) := by
  have HP : Hid (Calls Tryd.prog 35 #[.slice (some ⟨g, 0, none⟩) 1 cap] x fun e w' => ∃ u0 u1, LStep x w' K L v0 v1 u0 u1 ∧ Lg w' B K L u0 u1 τ false gn ar rc wt by_ ∧ ((c = 0 ∧ e = .returned .nilIface) ∨ (c ≠ 0 ∧ ∃ b, e = .returned (.iface 98 (.pointer (some ⟨b, 0, none⟩)))))) := by
    refine (play_any (I := fun j y => if j = 0 then y = x else (c = 0 ∧ ∃ u0 u1, DskS y B K u0 u1 τ ∧ DStep x y K v0 v1 u0 u1)) (F := fun _ _ y => c ≠ 0 ∧ ∃ u0 u1, DskS y B K u0 u1 τ ∧ DStep x y K v0 v1 u0 u1) ?_ (by omega) (by simp)).mono ?_
    · intro j y hj hy
      obtain rfl : j = 0 := by omega
      simp only [if_true] at hy
      subst hy
      refine ⟨f, caps, hg, hen, hc.mono ?_⟩
      rintro e y' ⟨ev, u0, u1, rfl, hv, hd, hs⟩
      rcases hv with ⟨rfl, h0⟩ | ⟨b, rfl, _, h0, _⟩
      · exact Or.inl ⟨rfl, by simp; exact ⟨h0, u0, u1, hd, hs⟩⟩
      · exact Or.inr ⟨b, rfl, by simpa using h0, u0, u1, hd, hs⟩
    · rintro e y' (⟨rfl, hi⟩ | ⟨j, b, y, _, ⟨hc0, u0, u1, hd, hs⟩, rfl, rfl⟩)
      · simp at hi
        obtain ⟨hc0, u0, u1, hd, hs⟩ := hi
        exact ⟨u0, u1, LStep.of_step L hs, h.step hd hs, Or.inl ⟨hc0, rfl⟩⟩
      · have hb : Below y.heap.size y (y.alloc (.cells #[.string ⟨#[119, 97, 108]⟩, .int .i64 0, .int .i64 63, .iface 98 (.pointer (some ⟨b, 0, none⟩))] 102)) := (Below.refl _ _).alloc (Nat.le_refl _) _
        exact ⟨u0, u1, (LStep.of_step L hs).trans (LStep.of_below K L u0 u1 hb), (h.step hd hs).below hb, Or.inr ⟨hc0, _, rfl⟩⟩
  clear h hg hen hc
  go_enter Tryd.func28, Tryd.ntmps28
  go_wp2_with fail
  refine HP.out.mono ?_
  rintro e y ⟨u0, u1, hs, hl, hr⟩
  have k1 := hl.c1
  have z1 := hl.fr 1
  have HL : Hid (LStep x y K L v0 v1 u0 u1 ∧ Lg y B K L u0 u1 τ false gn ar rc wt by_) := ⟨hs, hl⟩
  clear hs hl HP
  rcases hr with ⟨hc, rfl⟩ | ⟨hc, b, rfl⟩
  · go_wp2_with fail
    go_ret
    exact ⟨_, u0, u1, rfl, HL.out.1.trans (LStep.setCell _ K L u0 u1 1 _), Or.inl ⟨hc, rfl, HL.out.2.putDead false⟩⟩
  · go_wp2_with fail
    go_ret
    exact ⟨_, u0, u1, rfl, HL.out.1.trans (LStep.setCell _ K L u0 u1 1 _), Or.inr ⟨hc, ⟨b, rfl⟩, HL.out.2.putDead true⟩⟩
end
end Go.Proofs.YtgminfbhaclbbaaDoor
