/-
  A list of writes, played: what the disk is then, and whether one was refused.
-/
import Derived.Test.YtfkcnnjkflomkaaDoorWApp
namespace Go.Proofs.YtfkcnnjkflomkaaDoor
open Go.RowKit Go.BigFrame

/-- A write of the disk. -/
inductive Dop where
  | cut (ar n : Int)
  | syn (ar : Int)
  | app (ar : Int) (bs : List Int)
def opC (σ : Sg) : Dop → Int
  | .cut ar n => cutC σ ar n
  | .syn ar => synC σ ar
  | .app ar bs => appC σ ar bs.length
def opS (σ : Sg) : Dop → Sg
  | .cut ar n => cutS σ ar n
  | .syn ar => synS σ ar
  | .app ar bs => appS σ ar bs
/-- What the writes leave, and the number of the refusal (0: none). -/
def runS (σ : Sg) : List Dop → Sg × Int
  | [] => (σ, 0)
  | o :: os => if opC σ o = 0 then runS (opS σ o) os else (opS σ o, opC σ o)
/-- A function value that is this write, in this world and in every one that writes of the disk lead to. -/
def StepF (y : World) (B K : Nat) (v0 v1 : Value) (o : Dop) (f : Nat) (caps : Array Value) : Prop :=
  ∀ y' u0 u1 σ, DStep y y' K v0 v1 u0 u1 → DskS y' B K u0 u1 σ → Calls Tryd.prog f caps y' (StepQ y' B K u0 u1 (opS σ o) (opC σ o))
/-- A list of such function values in memory. -/
def StepsAt (y : World) (B K g : Nat) (v0 v1 : Value) (os : List Dop) : Prop :=
  ∀ j o, os[j]? = some o → ∃ f caps, y.cell? ⟨g, j, none⟩ = some (.func (.func f) #[] caps) ∧ Enters Tryd.prog f ∧ StepF y B K v0 v1 o f caps
theorem foot_kept {y y' : World} {K : Nat} {v0 v1 u0 u1 : Value} (s : DStep y y' K v0 v1 u0 u1) {b : Nat} (hb : b < y.heap.size) (hn : ¬ Foot K v0 v1 b) : ¬ Foot K u0 u1 b := fun g => hn (s.foot b hb g)
theorem cell_kept {y y' : World} {K : Nat} {v0 v1 u0 u1 : Value} (s : DStep y y' K v0 v1 u0 u1) {b o : Nat} {u : Value} (hc : y.cell? ⟨b, o, none⟩ = some u) (hn : ¬ Foot K v0 v1 b) : y'.cell? ⟨b, o, none⟩ = some u := (s.off.cell (p := ⟨b, o, none⟩) (cell_lt hc) hn).trans hc
section
variable {y : World} {B K : Nat} {v0 v1 : Value} {σ : Sg} {b1 b2 b3 : Nat} {ar : Int}
theorem stepF_cut {n : Int} (c1 : y.cell? ⟨b1, 0, none⟩ = some (.pointer (some ⟨K, 0, none⟩))) (c2 : y.cell? ⟨b2, 0, none⟩ = some (.int .i64 ar)) (c3 : y.cell? ⟨b3, 0, none⟩ = some (.int .i64 n)) (f1 : ¬ Foot K v0 v1 b1) (f2 : ¬ Foot K v0 v1 b2) (f3 : ¬ Foot K v0 v1 b3) :
    StepF y B K v0 v1 (.cut ar n) 65 #[.pointer (some ⟨b1, 0, none⟩), .pointer (some ⟨b2, 0, none⟩), .pointer (some ⟨b3, 0, none⟩)] := fun _ _ _ _ s d =>
  cutF d (cell_kept s c1 f1) (cell_kept s c2 f2) (cell_kept s c3 f3) (foot_kept s (cell_lt c1) f1) (foot_kept s (cell_lt c2) f2) (foot_kept s (cell_lt c3) f3)
theorem stepF_syn (c1 : y.cell? ⟨b1, 0, none⟩ = some (.pointer (some ⟨K, 0, none⟩))) (c2 : y.cell? ⟨b2, 0, none⟩ = some (.int .i64 ar)) (f1 : ¬ Foot K v0 v1 b1) (f2 : ¬ Foot K v0 v1 b2) :
    StepF y B K v0 v1 (.syn ar) 51 #[.pointer (some ⟨b1, 0, none⟩), .pointer (some ⟨b2, 0, none⟩)] := fun _ _ _ _ s d =>
  syncF d (cell_kept s c1 f1) (cell_kept s c2 f2) (foot_kept s (cell_lt c1) f1) (foot_kept s (cell_lt c2) f2)
theorem runS_drop {os : List Dop} {j : Nat} {o : Dop} (ho : os[j]? = some o) : os.drop j = o :: os.drop (j + 1) := by
  obtain ⟨hl, he⟩ := List.getElem?_eq_some_iff.1 ho
  rw [List.drop_eq_getElem_cons hl, he]
theorem play_disk {g cap : Nat} {os : List Dop} (h : DskS y B K v0 v1 σ) (hs : StepsAt y B K g v0 v1 os) (hg : ¬ Foot K v0 v1 g) (hn : os.length ≤ 1048576) :
    Calls Tryd.prog 35 #[.slice (some ⟨g, 0, none⟩) os.length cap] y fun e y' => ∃ ev u0 u1, e = .returned ev ∧ DskS y' B K u0 u1 (runS σ os).1 ∧ DStep y y' K v0 v1 u0 u1 ∧ (((runS σ os).2 = 0 ∧ ev = .nilIface) ∨ ((runS σ os).2 ≠ 0 ∧ ∃ b b', ev = .iface 98 (.pointer (some ⟨b, 0, none⟩)) ∧ y'.cell? ⟨b, 0, none⟩ = some (.string ⟨#[119, 97, 108]⟩) ∧ y'.cell? ⟨b, 1, none⟩ = some (.int .i64 0) ∧ y'.cell? ⟨b, 2, none⟩ = some (.int .i64 63) ∧ y'.cell? ⟨b, 3, none⟩ = some (.iface 98 (.pointer (some ⟨b', 0, none⟩))) ∧ FaultAt y' b' 0 (runS σ os).2 ∧ y.heap.size ≤ b ∧ y.heap.size ≤ b')) := by
  refine (play_any (I := fun j z => ∃ u0 u1 τ, DskS z B K u0 u1 τ ∧ DStep y z K v0 v1 u0 u1 ∧ runS σ os = runS τ (os.drop j)) (F := fun _ b z => ∃ u0 u1, DskS z B K u0 u1 (runS σ os).1 ∧ DStep y z K v0 v1 u0 u1 ∧ (runS σ os).2 ≠ 0 ∧ FaultAt z b 0 (runS σ os).2 ∧ y.heap.size ≤ b) ?_ hn ⟨v0, v1, σ, h, DStep.refl _ _ _ _, by simp⟩).mono ?_
  · rintro j z hj ⟨u0, u1, τ, hd, hst, hr⟩
    obtain ⟨o, ho⟩ : ∃ o, os[j]? = some o := ⟨_, List.getElem?_eq_getElem hj⟩
    obtain ⟨f, caps, hc, hen, hf⟩ := hs j o ho
    refine ⟨f, caps, cell_kept hst hc hg, hen, (hf z u0 u1 τ hst hd).mono ?_⟩
    rintro e z' ⟨ev, w0, w1, rfl, hv, hd', hst'⟩
    rw [runS_drop ho] at hr
    rcases hv with ⟨rfl, h0⟩ | ⟨b, rfl, hF, h0, hb⟩
    · refine Or.inl ⟨rfl, w0, w1, _, hd', hst.trans hst', ?_⟩
      rw [hr, runS, if_pos h0]
    · have h0' : opC τ o ≠ 0 := by simpa using h0
      have e1 : runS σ os = (opS τ o, opC τ o) := by rw [hr, runS, if_neg h0']
      refine Or.inr ⟨b, rfl, w0, w1, ?_, hst.trans hst', ?_, ?_, Nat.le_trans hst.off.size hb⟩
      · rw [e1]; exact hd'
      · rw [e1]; exact h0'
      · rw [e1]; exact hF
  · rintro e z (⟨rfl, u0, u1, τ, hd, hst, hr⟩ | ⟨j, b, z0, _, ⟨u0, u1, hd, hst, h0, hF, hb⟩, rfl, rfl⟩)
    · rw [List.drop_length] at hr
      have e1 : runS σ os = (τ, 0) := by rw [hr, runS]
      refine ⟨_, u0, u1, rfl, by rw [e1]; exact hd, hst, Or.inl ⟨by rw [e1], rfl⟩⟩
    · have hbl : Below z0.heap.size z0 (z0.alloc (.cells #[.string ⟨#[119, 97, 108]⟩, .int .i64 0, .int .i64 63, .iface 98 (.pointer (some ⟨b, 0, none⟩))] 102)) := (Below.refl _ _).alloc (Nat.le_refl _) _
      refine ⟨_, u0, u1, rfl, hd.off (P := fun _ => False) (Off.of_below hbl) (fun _ _ => id), hst.trans (DStep.of_below K u0 u1 hbl), Or.inr ⟨h0, z0.heap.size, b, rfl, by simp, by simp, by simp, by simp, hF.off (P := fun _ => False) (Off.of_below hbl) id, hst.off.size, hb⟩⟩
end
end Go.Proofs.YtfkcnnjkflomkaaDoor
