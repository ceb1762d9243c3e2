/-
  What Compact's writes leave of a disk; of no program.
-/
import Derived.Test.YtfkcnnjkflomkaaDoorWBeg
namespace Go.Proofs.YtfkcnnjkflomkaaDoor
open Go.RowKit Go.BigFrame

/-- The writes of a Compact to generation G, from area ar. -/
def folOps (G ar : Int) (bs : List Int) : List Dop := [.cut (G % 2) 0, .app (G % 2) (headB G ++ recB bs), .syn (G % 2), .cut ar 0]
/-- The disk that holds these bytes in one area, synced, and nothing in the other. -/
def sgG (a : Int) (hd : List Int) (na ns nc : Int) : Sg := if a = 0 then ⟨hd, [], hd.length, 0, false, -1, na, ns, nc⟩ else ⟨[], hd, 0, hd.length, false, -1, na, ns, nc⟩
theorem head_rec_len {G : Int} {bs : List Int} : (headB G ++ recB bs).length = 30 + bs.length := by
  rw [List.length_append, recB_len]
  have := headB_len G
  omega
theorem run_fol {σ : Sg} {G ar : Int} {bs : List Int} (h1 : σ.dead = false) (h2 : σ.fuse = -1) (hl : (headB G ++ recB bs).length ≤ 16777216) (ha : ar = (G + 1) % 2) :
    ∃ na ns nc, runS σ (folOps G ar bs) = (sgG (G % 2) (headB G ++ recB bs) na ns nc, 0) := by
  obtain ⟨x0, x1, s0, s1, dead, fuse, na, ns, nc⟩ := σ
  simp only at h1 h2
  subst h1 h2
  unfold folOps
  obtain ⟨hd, hh⟩ : ∃ l, headB G ++ recB bs = l := ⟨_, rfl⟩
  rw [hh] at hl ⊢
  have hg : ¬ 16777216 < hd.length := by omega
  have n0 : ¬ ((x0.length : Int) < 0) := by omega
  have n1 : ¬ ((x1.length : Int) < 0) := by omega
  rcases (show G % 2 = 0 ∨ G % 2 = 1 by omega) with h | h
  · obtain rfl : ar = 1 := by omega
    rw [h]
    simp [runS, opC, opS, cutC, cutS, appC, appS, synC, synS, Sg.goes, goesOn, Sg.wr, leftOn, hg, sgG, n0, n1]
  · obtain rfl : ar = 0 := by omega
    rw [h]
    simp [runS, opC, opS, cutC, cutS, appC, appS, synC, synS, Sg.goes, goesOn, Sg.wr, leftOn, hg, sgG, n0, n1]
theorem run_syn {σ : Sg} {ar : Int} {os : List Dop} (h1 : σ.dead = false) (h2 : σ.fuse = -1) (ha : ar = 0 ∨ ar = 1) : runS σ (.syn ar :: os) = runS (synS σ ar) os ∧ (synS σ ar).dead = false ∧ (synS σ ar).fuse = -1 := by
  have hg := goes_of h1 h2
  have hc : opC σ (.syn ar) = 0 := by simp [opC, synC, hg, ha]
  have hf : leftOn σ.fuse = -1 := by unfold leftOn; rw [h2]; rfl
  refine ⟨by rw [runS, if_pos hc]; rfl, ?_⟩
  rcases ha with rfl | rfl
  · simp [synS, hg, Sg.wr, h1, hf]
  · simp [synS, hg, Sg.wr, h1, hf]
end Go.Proofs.YtfkcnnjkflomkaaDoor
