import Derived.Test.YthnpckmgnompiaaGreatDoorWOpenB
import Derived.Test.YthnpckmgnompiaaGreatDoorWOpen3
import Derived.Test.YthnpckmgnompiaaGreatDoorWEq
/-
  The law's begin: a log with nothing in it.
-/
namespace Go.Proofs.YthnpckmgnompiaaGreatDoor
open Go.RowKit Go.BigFrame

theorem ps_new : psS (headB 1 ++ recB []) 1 = some (1, [], []) := by decide +kernel
theorem len_new : (headB 1 ++ recB []).length = 30 := by decide +kernel
theorem rng_new : Rng (headB 1 ++ recB []) := rng_app (hdR 1 (by omega) (by omega)) (rng_rec (fun z hz => by cases hz))
def sgN : Sg := ⟨[], [], 0, 0, false, -1, 0, 0, 0⟩
/-- The disk of an empty log. -/
def sgB : Sg := ⟨[], headB 1 ++ recB [], 0, 30, false, -1, 1, 1, 2⟩
theorem run_new : runS sgN (fmtOps []) = (sgB, 0) := by
  unfold sgB
  obtain ⟨hd, hh⟩ : ∃ l, headB 1 ++ recB [] = l := ⟨_, rfl⟩
  have h1 : hd.length = 30 := by rw [← hh]; exact len_new
  unfold fmtOps
  rw [hh]
  simp [runS, opC, opS, cutC, cutS, appC, appS, synC, synS, sgN, Sg.goes, goesOn, Sg.wr, leftOn, oneMore, h1]
end Go.Proofs.YthnpckmgnompiaaGreatDoor

/-
  What Compact's writes leave of a disk; of no program.
-/
namespace Go.Proofs.YthnpckmgnompiaaGreatDoor
open Go.RowKit Go.BigFrame

/-- The writes of a Compact to generation G, from area ar. -/
def folOps (G ar : Int) (bs : List Int) : List Dop := [.cut (G % 2) 0, .app (G % 2) (headB G ++ recB bs), .syn (G % 2), .cut ar 0]
/-- The disk that holds these bytes in one area, synced, and nothing in the other. -/
def sgG (a : Int) (hd : List Int) (na ns nc : Int) : Sg := if a = 0 then ⟨hd, [], hd.length, 0, false, -1, na, ns, nc⟩ else ⟨[], hd, 0, hd.length, false, -1, na, ns, nc⟩
theorem head_rec_len {G : Int} {bs : List Int} : (headB G ++ recB bs).length = 30 + bs.length := by
  rw [List.length_append, recB_len]
  have := headB_len G
  omega
theorem run_fol {σ : Sg} {G ar : Int} {bs : List Int} (h1 : σ.dead = false) (h2 : σ.fuse = -1) (hl : (headB G ++ recB bs).length ≤ 16777216) (ha : ar = (G + 1) % 2) :
    ∃ na ns nc, runS σ (folOps G ar bs) = (sgG (G % 2) (headB G ++ recB bs) na ns nc, 0) := by
  obtain ⟨x0, x1, s0, s1, dead, fuse, na, ns, nc⟩ := σ
  simp only at h1 h2
  subst h1 h2
  unfold folOps
  obtain ⟨hd, hh⟩ : ∃ l, headB G ++ recB bs = l := ⟨_, rfl⟩
  rw [hh] at hl ⊢
  have hg : ¬ 16777216 < hd.length := by omega
  have n0 : ¬ ((x0.length : Int) < 0) := by omega
  have n1 : ¬ ((x1.length : Int) < 0) := by omega
  rcases (show G % 2 = 0 ∨ G % 2 = 1 by omega) with h | h
  · obtain rfl : ar = 1 := by omega
    rw [h]
    simp [runS, opC, opS, cutC, cutS, appC, appS, synC, synS, Sg.goes, goesOn, Sg.wr, leftOn, hg, sgG, n0, n1]
  · obtain rfl : ar = 0 := by omega
    rw [h]
    simp [runS, opC, opS, cutC, cutS, appC, appS, synC, synS, Sg.goes, goesOn, Sg.wr, leftOn, hg, sgG, n0, n1]
theorem run_syn {σ : Sg} {ar : Int} {os : List Dop} (h1 : σ.dead = false) (h2 : σ.fuse = -1) (ha : ar = 0 ∨ ar = 1) : runS σ (.syn ar :: os) = runS (synS σ ar) os ∧ (synS σ ar).dead = false ∧ (synS σ ar).fuse = -1 := by
  have hg := goes_of h1 h2
  have hc : opC σ (.syn ar) = 0 := by simp [opC, synC, hg, ha]
  have hf : leftOn σ.fuse = -1 := by unfold leftOn; rw [h2]; rfl
  refine ⟨by rw [runS, if_pos hc]; rfl, ?_⟩
  rcases ha with rfl | rfl
  · simp [synS, hg, Sg.wr, h1, hf]
  · simp [synS, hg, Sg.wr, h1, hf]
end Go.Proofs.YthnpckmgnompiaaGreatDoor

/-
  The log's Compact.
-/
namespace Go.Proofs.YthnpckmgnompiaaGreatDoor
open Go.RowKit Go.BigFrame

section
variable {x : World} {B K L : Nat} {v0 v1 : Value} {σ : Sg} {gn ar rc wt by_ : Int} {po : Option Addr} {m k : Nat} {bs : List Int}
/-- A refusal of the disk, as the log tells it. -/
def WDisk (N : Nat) (c : Int) (ev : Value) (y : World) : Prop := ∃ b b', ev = .iface 86 (.pointer (some ⟨b, 0, none⟩)) ∧ y.cell? ⟨b, 0, none⟩ = some (.string ⟨#[119, 97, 108]⟩) ∧ y.cell? ⟨b, 1, none⟩ = some (.int .i64 0) ∧ y.cell? ⟨b, 2, none⟩ = some (.int .i64 63) ∧ y.cell? ⟨b, 3, none⟩ = some (.iface 86 (.pointer (some ⟨b', 0, none⟩))) ∧ FaultAt y b' 0 c ∧ N ≤ b ∧ N ≤ b'
theorem WDisk.off {P : Nat → Prop} {N : Nat} {c : Int} {ev : Value} {y y' : World} (h : WDisk N c ev y) (ho : Off P y y') (hP : ∀ k, N ≤ k → ¬ P k) : WDisk N c ev y' := by
  obtain ⟨b, b', e, c0, c1, c2, c3, hF, l1, l2⟩ := h
  exact ⟨b, b', e, off_cell ho c0 (hP _ l1), off_cell ho c1 (hP _ l1), off_cell ho c2 (hP _ l1), off_cell ho c3 (hP _ l1), hF.off ho (hP _ l2), l1, l2⟩
/-- What a list of writes leaves of a log. -/
def RunQ (x : World) (B K L : Nat) (v0 v1 : Value) (σ : Sg) (os : List Dop) (gn ar rc wt by_ : Int) (e : Ending) (x' : World) : Prop :=
  ∃ ev u0 u1, e = .returned ev ∧ LStep x x' K L v0 v1 u0 u1 ∧ (((runS σ os).2 = 0 ∧ ev = .nilIface ∧ Lg x' B K L u0 u1 (runS σ os).1 false gn ar rc wt by_) ∨ ((runS σ os).2 ≠ 0 ∧ WDisk x.heap.size (runS σ os).2 ev x' ∧ Lg x' B K L u0 u1 (runS σ os).1 true gn ar rc wt by_))
theorem RunQ.pre {y : World} {os : List Dop} {e : Ending} {x' : World} (h : RunQ y B K L v0 v1 σ os gn ar rc wt by_ e x') (hb : Below x.heap.size x y) : RunQ x B K L v0 v1 σ os gn ar rc wt by_ e x' := by
  have hs := hb.size
  obtain ⟨ev, u0, u1, he, hst, hr⟩ := h
  refine ⟨ev, u0, u1, he, (LStep.of_below K L v0 v1 hb).trans hst, hr.imp id ?_⟩
  rintro ⟨h0, ⟨b, b', e, c0, c1, c2, c3, hF, l1, l2⟩, hl⟩
  exact ⟨h0, ⟨b, b', e, c0, c1, c2, c3, hF, by omega, by omega⟩, hl⟩
set_option maxRecDepth 100000 in
set_option maxHeartbeats 4000000 in
theorem do_run {g cap n : Nat} {os : List Dop} (h : Lg x B K L v0 v1 σ false gn ar rc wt by_) (hs : StepsAt x B K g v0 v1 os) (hg : ¬ Foot K v0 v1 g) (hn : os.length = n) (hn1 : n ≤ 1000) :
    Calls Tryz.prog 28 #[.pointer (some ⟨L, 0, none⟩), .slice (some ⟨g, 0, none⟩) n cap] x (RunQ x B K L v0 v1 σ os gn ar rc wt by_) := by
  have HP : Hid (Calls Tryz.prog 16 #[.slice (some ⟨g, 0, none⟩) n cap] x fun e y => ∃ u0 u1, LStep x y K L v0 v1 u0 u1 ∧ Lg y B K L u0 u1 (runS σ os).1 false gn ar rc wt by_ ∧ (((runS σ os).2 = 0 ∧ e = .returned .nilIface) ∨ ((runS σ os).2 ≠ 0 ∧ ∃ b, e = .returned (.iface 86 (.pointer (some ⟨b, 0, none⟩))) ∧ WDisk x.heap.size (runS σ os).2 (.iface 86 (.pointer (some ⟨b, 0, none⟩))) y))) := by
    subst hn
    refine (play_disk h.d hs hg (by omega)).mono ?_
    rintro e y ⟨ev, u0, u1, rfl, hd, hst, hr⟩
    refine ⟨u0, u1, LStep.of_step L hst, h.step hd hst, hr.imp (fun ⟨a, b⟩ => ⟨a, by rw [b]⟩) ?_⟩
    rintro ⟨h0, b, b', rfl, r⟩
    exact ⟨h0, b, rfl, b, b', rfl, r⟩
  have hLl : L < x.heap.size := h.lt
  clear h hs hg
  go_enter Tryz.func28, Tryz.ntmps28
  go_wp2_with fail
  refine HP.out.mono ?_
  rintro e y ⟨u0, u1, hs, hl, hr⟩
  have k1 := hl.c1
  have z1 := hl.fr 1
  have HL : Hid (LStep x y K L v0 v1 u0 u1 ∧ Lg y B K L u0 u1 (runS σ os).1 false gn ar rc wt by_) := ⟨hs, hl⟩
  clear hs hl HP
  rcases hr with ⟨hc, rfl⟩ | ⟨hc, b, rfl, hw⟩
  · go_wp2_with fail
    go_ret
    exact ⟨_, u0, u1, rfl, HL.out.1.trans (LStep.setCell _ K L u0 u1 1 _), Or.inl ⟨hc, rfl, HL.out.2.putDead false⟩⟩
  · have HW : Hid (WDisk x.heap.size (runS σ os).2 (.iface 86 (.pointer (some ⟨b, 0, none⟩))) y) := hw
    clear hw
    go_wp2_with fail
    go_ret
    refine ⟨_, u0, u1, rfl, HL.out.1.trans (LStep.setCell _ K L u0 u1 1 _), Or.inr ⟨hc, HW.out.off ((Off.refl (fun k => k = L) _).setCell (p := ⟨L, 1, none⟩) rfl _) (fun k h1 e => by omega), HL.out.2.putDead true⟩⟩
/-- The log's numbers written anew. -/
theorem Lg.putAll (h : Lg x B K L v0 v1 σ false gn ar rc wt by_) (a b c d e : Int) : Lg (((((x.setCell ⟨L, 2, none⟩ (.int .u64 a)).setCell ⟨L, 3, none⟩ (.int .i64 b)).setCell ⟨L, 4, none⟩ (.int .i64 c)).setCell ⟨L, 5, none⟩ (.int .i64 d)).setCell ⟨L, 6, none⟩ (.int .i64 e)) B K L v0 v1 σ false a b c d e := by
  have h1 : Lg (x.setCell ⟨L, 2, none⟩ (.int .u64 a)) B K L v0 v1 σ false a ar rc wt by_ := by
    obtain ⟨d, hc, hf⟩ := h.put 2 (.int .u64 a)
    exact ⟨d, (hc 0 (by omega)).trans h.c0, (hc 1 (by omega)).trans h.c1, World.cell?_setCell_same' _ _ _ (by rw [h.c2]; rfl), (hc 3 (by omega)).trans h.c3, (hc 4 (by omega)).trans h.c4, (hc 5 (by omega)).trans h.c5, (hc 6 (by omega)).trans h.c6, hf, h.nf, h.ge⟩
  have h2 : Lg ((x.setCell ⟨L, 2, none⟩ (.int .u64 a)).setCell ⟨L, 3, none⟩ (.int .i64 b)) B K L v0 v1 σ false a b rc wt by_ := by
    obtain ⟨d, hc, hf⟩ := h1.put 3 (.int .i64 b)
    exact ⟨d, (hc 0 (by omega)).trans h1.c0, (hc 1 (by omega)).trans h1.c1, (hc 2 (by omega)).trans h1.c2, World.cell?_setCell_same' _ _ _ (by rw [h1.c3]; rfl), (hc 4 (by omega)).trans h1.c4, (hc 5 (by omega)).trans h1.c5, (hc 6 (by omega)).trans h1.c6, hf, h1.nf, h1.ge⟩
  exact ((h2.putRec c).putWait d).putBytes e
end
end Go.Proofs.YthnpckmgnompiaaGreatDoor
