import Derived.Test.YtfkcnnjkflomkaaDoorDkMore3
import Derived.Test.YtfkcnnjkflomkaaDoorRfNew
import Derived.Test.YtfkcnnjkflomkaaDoorDkFrom
/-
  The writes of both disks: one number, one new state. (Typed by gen/mkpr.py.)
-/
namespace Go.Proofs.YtfkcnnjkflomkaaDoor
open Go.RowKit

/-- An error of the program's disk that is just that number. -/
def EvD (w : World) (N : Nat) (ev : Value) (code : Int) : Prop := (ev = .nilIface ∧ code = 0) ∨ (∃ b, ev = .iface 98 (.pointer (some ⟨b, 0, none⟩)) ∧ FaultAt w b 0 code ∧ (code == 0) = false ∧ N ≤ b)
theorem EvD.off {P : Nat → Prop} {w w' : World} {N : Nat} {ev : Value} {c : Int} (h : EvD w N ev c) (o : Off P w w') (hP : ∀ k, N ≤ k → ¬ P k) : EvD w' N ev c := by
  rcases h with h | ⟨b, h1, h2, h3, h4⟩
  · exact Or.inl h
  · exact Or.inr ⟨b, h1, h2.off o (hP b h4), h3, h4⟩
theorem EvD.nil (w : World) (N : Nat) : EvD w N .nilIface 0 := Or.inl ⟨rfl, rfl⟩
theorem EvD.mk {w : World} {N : Nat} {c : Int} (h : FaultAt w N 0 c) (hc : (c == 0) = false) : EvD w N (.iface 98 (.pointer (some ⟨N, 0, none⟩))) c := Or.inr ⟨N, rfl, h, hc, Nat.le_refl _⟩
/-- A write that is done. -/
def Sg.wr (σ : Sg) : Sg := { σ with fuse := leftOn σ.fuse }
def Sg.kill (σ : Sg) : Sg := { σ with dead := true }
def Sg.goes (σ : Sg) : Bool := goesOn σ.dead σ.fuse
def appC (σ : Sg) (ar : Int) (m : Nat) : Int := if ar = 0 then (if 16777216 < σ.x0.length + m then 7 else if σ.goes then 0 else 8) else if ar = 1 then (if 16777216 < σ.x1.length + m then 7 else if σ.goes then 0 else 8) else 2
def appS (σ : Sg) (ar : Int) (bs : List Int) : Sg := if ar = 0 then (if 16777216 < σ.x0.length + bs.length then σ else if σ.goes then { σ.wr with x0 := σ.x0 ++ bs, na := oneMore σ.na } else σ.kill) else if ar = 1 then (if 16777216 < σ.x1.length + bs.length then σ else if σ.goes then { σ.wr with x1 := σ.x1 ++ bs, na := oneMore σ.na } else σ.kill) else σ
def synC (σ : Sg) (ar : Int) : Int := if ar = 0 ∨ ar = 1 then (if σ.goes then 0 else 8) else 2
def synS (σ : Sg) (ar : Int) : Sg := if ar = 0 then (if σ.goes then { σ.wr with s0 := σ.x0.length, ns := oneMore σ.ns } else σ.kill) else if ar = 1 then (if σ.goes then { σ.wr with s1 := σ.x1.length, ns := oneMore σ.ns } else σ.kill) else σ
theorem goes_iff (σ : Sg) : σ.goes = true ↔ σ.dead = false ∧ σ.fuse ≠ 0 := by unfold Sg.goes goesOn; cases σ.dead <;> simp
theorem goes_not (σ : Sg) (h : σ.goes ≠ true) : stOf σ.dead = 2 ∨ σ.fuse = 0 := by
  unfold Sg.goes goesOn at h; cases hd : σ.dead <;> simp [hd] at h ⊢
  · exact Or.inr h
  · exact Or.inl (by simp [stOf])
section
variable {w : World} {B K : Nat} {v0 v1 : Value} {σ : Sg}
abbrev DskS (w : World) (B K : Nat) (v0 v1 : Value) (σ : Sg) : Prop := Dsk w B K v0 v1 σ.x0 σ.x1 σ.s0 σ.s1 (stOf σ.dead) σ.fuse σ.na σ.ns σ.nc
theorem dAppend (h : DskS w B K v0 v1 σ) (ar : Int) {po : Option Addr} {m c : Nat} {bs : List Int} (hb : Byts w po m bs) (hpo : po = none → c = 0) (hfar : ∀ b o, po = some ⟨b, o, none⟩ → ¬ Foot K v0 v1 b) :
    Calls Tryd.prog 49 #[.pointer (some ⟨K, 0, none⟩), .int .i64 ar, .slice po m c] w fun e w' => ∃ ev v0' v1', e = .returned ev ∧ EvD w' w.heap.size ev (appC σ ar m) ∧ DskS w' B K v0' v1' (appS σ ar bs) ∧ DStep w w' K v0 v1 v0' v1' := by
  have hl := hb.len
  unfold appC appS
  rw [hl]
  have hbn := h.bn
  by_cases h0 : ar = 0
  · subst h0
    simp only [if_true]
    by_cases h7 : 16777216 < σ.x0.length + m
    · rw [if_pos h7, if_pos h7]
      refine (Append0_fullN h (stOf_any _) h7).mono ?_
      rintro e w' ⟨he, hf, hbl⟩
      exact ⟨_, v0, v1, he, EvD.mk hf rfl, h.below hbl, DStep.of_below _ _ _ hbl⟩
    · rw [if_neg h7, if_neg h7]
      by_cases hg : σ.goes = true
      · rw [if_pos hg, if_pos hg]
        obtain ⟨hd, hz⟩ := (goes_iff σ).1 hg
        unfold DskS at h ⊢
        rw [hd] at h
        refine (Append0_ok hb hpo hfar h hz (by omega)).mono ?_
        rintro e w' ⟨he, v', hd', hs⟩
        refine ⟨_, v', v1, he, EvD.nil _ _, ?_, hs⟩
        simp only [Sg.wr, hd]
        rw [fz_left, ct_more _ ⟨hbn.2.2.1, hbn.2.2.2.1⟩] at hd'
        exact hd'
      · rw [if_neg hg, if_neg hg]
        refine (Append0_deadN h (stOf_any _) (goes_not σ hg) (by omega)).mono ?_
        rintro e w' ⟨he, hf, hd', hs⟩
        exact ⟨_, v0, v1, he, EvD.mk hf rfl, hd', hs⟩
  · rw [if_neg h0, if_neg h0]
    by_cases h1 : ar = 1
    · subst h1
      simp only [if_true]
      by_cases h7 : 16777216 < σ.x1.length + m
      · rw [if_pos h7, if_pos h7]
        refine (Append1_fullN h (stOf_any _) h7).mono ?_
        rintro e w' ⟨he, hf, hbl⟩
        exact ⟨_, v0, v1, he, EvD.mk hf rfl, h.below hbl, DStep.of_below _ _ _ hbl⟩
      · rw [if_neg h7, if_neg h7]
        by_cases hg : σ.goes = true
        · rw [if_pos hg, if_pos hg]
          obtain ⟨hd, hz⟩ := (goes_iff σ).1 hg
          unfold DskS at h ⊢
          rw [hd] at h
          refine (Append1_ok hb hpo hfar h hz (by omega)).mono ?_
          rintro e w' ⟨he, v', hd', hs⟩
          refine ⟨_, v0, v', he, EvD.nil _ _, ?_, hs⟩
          simp only [Sg.wr, hd]
          rw [fz_left, ct_more _ ⟨hbn.2.2.1, hbn.2.2.2.1⟩] at hd'
          exact hd'
        · rw [if_neg hg, if_neg hg]
          refine (Append1_deadN h (stOf_any _) (goes_not σ hg) (by omega)).mono ?_
          rintro e w' ⟨he, hf, hd', hs⟩
          exact ⟨_, v0, v1, he, EvD.mk hf rfl, hd', hs⟩
    · rw [if_neg h1, if_neg h1]
      refine (Append_bad ar h (stOf_any _) h0 h1).mono ?_
      rintro e w' ⟨he, hf, hbl⟩
      exact ⟨_, v0, v1, he, EvD.mk hf rfl, h.below hbl, DStep.of_below _ _ _ hbl⟩
end

section
variable {w : World} {B K R : Nat} {v0 v1 : Value} {v : Nat → Value} {σ : Sg}
abbrev RkS (w : World) (B R : Nat) (v : Nat → Value) (σ : Sg) : Prop := Rk w B R v (rx σ) σ.dead σ.fuse σ.na σ.ns σ.nc
/-- No more is synced than there is, and there is room. -/
structure Sg.Ok (σ : Sg) : Prop where
  s0 : σ.s0 ≤ σ.x0.length
  s1 : σ.s1 ≤ σ.x1.length
  l0 : σ.x0.length ≤ 16777216
  l1 : σ.x1.length ≤ 16777216
theorem rx_sum0 (σ : Sg) : (rx σ 0).length + (rx σ 1).length = σ.x0.length := by simp only [rx, if_true, if_neg (show ¬ (1 : Nat) = 0 by decide)]; rw [List.length_take, List.length_drop]; omega
theorem rx_sum1 (σ : Sg) : (rx σ 2).length + (rx σ 3).length = σ.x1.length := by simp [rx]; omega
theorem rx_put0 (σ τ : Sg) (h0 : rx τ 0 = rx σ 0) (y : List Int) (h1 : rx τ 1 = y) (h2 : τ.x1 = σ.x1) (h3 : τ.s1 = σ.s1) : ∀ q, q < 4 → upd (rx σ) 1 y q = rx τ q := fun q hq => by
  match q, hq with
  | 0, _ => simp [upd, h0]
  | 1, _ => simp [upd, h1]
  | 2, _ => simp [upd, rx, h2, h3]
  | 3, _ => simp [upd, rx, h2, h3]
theorem rx_put1 (σ τ : Sg) (h0 : rx τ 2 = rx σ 2) (y : List Int) (h1 : rx τ 3 = y) (h2 : τ.x0 = σ.x0) (h3 : τ.s0 = σ.s0) : ∀ q, q < 4 → upd (rx σ) 3 y q = rx τ q := fun q hq => by
  match q, hq with
  | 0, _ => simp [upd, rx, h2, h3]
  | 1, _ => simp [upd, rx, h2, h3]
  | 2, _ => simp [upd, h0]
  | 3, _ => simp [upd, h1]
theorem rx_both0 (σ τ : Sg) (y z : List Int) (h0 : rx τ 0 = y) (h1 : rx τ 1 = z) (h2 : τ.x1 = σ.x1) (h3 : τ.s1 = σ.s1) : ∀ q, q < 4 → upd (upd (rx σ) 0 y) 1 z q = rx τ q := fun q hq => by
  match q, hq with
  | 0, _ => simp [upd, h0]
  | 1, _ => simp [upd, h1]
  | 2, _ => simp [upd, rx, h2, h3]
  | 3, _ => simp [upd, rx, h2, h3]
theorem rx_both1 (σ τ : Sg) (y z : List Int) (h0 : rx τ 2 = y) (h1 : rx τ 3 = z) (h2 : τ.x0 = σ.x0) (h3 : τ.s0 = σ.s0) : ∀ q, q < 4 → upd (upd (rx σ) 2 y) 3 z q = rx τ q := fun q hq => by
  match q, hq with
  | 0, _ => simp [upd, rx, h2, h3]
  | 1, _ => simp [upd, rx, h2, h3]
  | 2, _ => simp [upd, h0]
  | 3, _ => simp [upd, h1]
theorem rx_kill (σ : Sg) : rx σ.kill = rx σ := rfl
theorem rkS_drew {τ : Sg} (h : RkS w B R v τ) {w' : World} (hw : ∃ k, w' = w.drewN k) : RkS w' B R v τ ∧ RStep w w' R v v := by
  obtain ⟨k, rfl⟩ := hw
  exact ⟨h.drewN k, RStep.drewN _ _ _ _⟩
end
end Go.Proofs.YtfkcnnjkflomkaaDoor

/-
  Sync and Cut of both disks: one number, one new state. (Typed by gen/mkpr2.py.)
-/
namespace Go.Proofs.YtfkcnnjkflomkaaDoor
open Go.RowKit

def cutC (σ : Sg) (ar n : Int) : Int := if ar = 0 then (if n < 0 ∨ (σ.x0.length : Int) < n then 2 else if σ.goes then 0 else 8) else if ar = 1 then (if n < 0 ∨ (σ.x1.length : Int) < n then 2 else if σ.goes then 0 else 8) else 2
def cutS (σ : Sg) (ar n : Int) : Sg := if ar = 0 then (if n < 0 ∨ (σ.x0.length : Int) < n then σ else if σ.goes then { σ.wr with x0 := σ.x0.take n.toNat, s0 := min σ.s0 n.toNat, nc := oneMore σ.nc } else σ.kill) else if ar = 1 then (if n < 0 ∨ (σ.x1.length : Int) < n then σ else if σ.goes then { σ.wr with x1 := σ.x1.take n.toNat, s1 := min σ.s1 n.toNat, nc := oneMore σ.nc } else σ.kill) else σ
section
variable {w : World} {B K R : Nat} {v0 v1 : Value} {v : Nat → Value} {σ : Sg}
theorem dSync0 (h : DskS w B K v0 v1 σ) : Calls Tryd.prog 52 #[.pointer (some ⟨K, 0, none⟩), .int .i64 0] w fun e w' => ∃ ev v0' v1', e = .returned ev ∧ EvD w' w.heap.size ev (synC σ 0) ∧ DskS w' B K v0' v1' (synS σ 0) ∧ DStep w w' K v0 v1 v0' v1' := by
  have hbn := h.bn
  have e1 : synC σ 0 = if σ.goes then 0 else 8 := by simp [synC]
  have e2 : synS σ 0 = if σ.goes then { σ.wr with s0 := σ.x0.length, ns := oneMore σ.ns } else σ.kill := by simp [synS]
  rw [e1, e2]
  by_cases hg : σ.goes = true
  · rw [if_pos hg, if_pos hg]
    obtain ⟨hd, hz⟩ := (goes_iff σ).1 hg
    unfold DskS at h ⊢
    rw [hd] at h
    refine (Sync0_ok h hz).mono ?_
    rintro e w' ⟨he, hd', hs⟩
    refine ⟨_, v0, v1, he, EvD.nil _ _, ?_, hs⟩
    simp only [Sg.wr, hd]
    rw [fz_left, ct_more _ ⟨hbn.2.2.2.2.1, hbn.2.2.2.2.2.1⟩] at hd'
    exact hd'
  · rw [if_neg hg, if_neg hg]
    refine (Sync0_deadN h (stOf_any _) (goes_not σ hg)).mono ?_
    rintro e w' ⟨he, hf, hd', hs⟩
    exact ⟨_, v0, v1, he, EvD.mk hf rfl, hd', hs⟩
theorem dCut0 (h : DskS w B K v0 v1 σ) (n : Int) : Calls Tryd.prog 66 #[.pointer (some ⟨K, 0, none⟩), .int .i64 0, .int .i64 n] w fun e w' => ∃ ev v0' v1', e = .returned ev ∧ EvD w' w.heap.size ev (cutC σ 0 n) ∧ DskS w' B K v0' v1' (cutS σ 0 n) ∧ DStep w w' K v0 v1 v0' v1' := by
  have hbn := h.bn
  have e1 : cutC σ 0 n = if n < 0 ∨ (σ.x0.length : Int) < n then 2 else if σ.goes then 0 else 8 := by simp [cutC]
  have e2 : cutS σ 0 n = if n < 0 ∨ (σ.x0.length : Int) < n then σ else if σ.goes then { σ.wr with x0 := σ.x0.take n.toNat, s0 := min σ.s0 n.toNat, nc := oneMore σ.nc } else σ.kill := by simp [cutS]
  rw [e1, e2]
  by_cases ho : n < 0 ∨ (σ.x0.length : Int) < n
  · rw [if_pos ho, if_pos ho]
    refine (Cut0_outN h (stOf_any _) ho).mono ?_
    rintro e w' ⟨he, hf, hbl⟩
    exact ⟨_, v0, v1, he, EvD.mk hf rfl, h.below hbl, DStep.of_below _ _ _ hbl⟩
  · rw [if_neg ho, if_neg ho]
    by_cases hg : σ.goes = true
    · rw [if_pos hg, if_pos hg]
      obtain ⟨hd, hz⟩ := (goes_iff σ).1 hg
      unfold DskS at h ⊢
      rw [hd] at h
      refine (Cut0_ok n.toNat h hz (by omega) (by omega)).mono ?_
      rintro e w' ⟨he, v', hd', hs⟩
      refine ⟨_, v', v1, he, EvD.nil _ _, ?_, hs⟩
      simp only [Sg.wr, hd]
      rw [fz_left, ct_more _ ⟨hbn.2.2.2.2.2.2.1, hbn.2.2.2.2.2.2.2⟩] at hd'
      exact hd'
    · rw [if_neg hg, if_neg hg]
      refine (Cut0_deadN h (stOf_any _) (goes_not σ hg) (by omega)).mono ?_
      rintro e w' ⟨he, hf, hd', hs⟩
      exact ⟨_, v0, v1, he, EvD.mk hf rfl, hd', hs⟩
theorem dSync1 (h : DskS w B K v0 v1 σ) : Calls Tryd.prog 52 #[.pointer (some ⟨K, 0, none⟩), .int .i64 1] w fun e w' => ∃ ev v0' v1', e = .returned ev ∧ EvD w' w.heap.size ev (synC σ 1) ∧ DskS w' B K v0' v1' (synS σ 1) ∧ DStep w w' K v0 v1 v0' v1' := by
  have hbn := h.bn
  have e1 : synC σ 1 = if σ.goes then 0 else 8 := by simp [synC]
  have e2 : synS σ 1 = if σ.goes then { σ.wr with s1 := σ.x1.length, ns := oneMore σ.ns } else σ.kill := by simp [synS]
  rw [e1, e2]
  by_cases hg : σ.goes = true
  · rw [if_pos hg, if_pos hg]
    obtain ⟨hd, hz⟩ := (goes_iff σ).1 hg
    unfold DskS at h ⊢
    rw [hd] at h
    refine (Sync1_ok h hz).mono ?_
    rintro e w' ⟨he, hd', hs⟩
    refine ⟨_, v0, v1, he, EvD.nil _ _, ?_, hs⟩
    simp only [Sg.wr, hd]
    rw [fz_left, ct_more _ ⟨hbn.2.2.2.2.1, hbn.2.2.2.2.2.1⟩] at hd'
    exact hd'
  · rw [if_neg hg, if_neg hg]
    refine (Sync1_deadN h (stOf_any _) (goes_not σ hg)).mono ?_
    rintro e w' ⟨he, hf, hd', hs⟩
    exact ⟨_, v0, v1, he, EvD.mk hf rfl, hd', hs⟩
theorem dCut1 (h : DskS w B K v0 v1 σ) (n : Int) : Calls Tryd.prog 66 #[.pointer (some ⟨K, 0, none⟩), .int .i64 1, .int .i64 n] w fun e w' => ∃ ev v0' v1', e = .returned ev ∧ EvD w' w.heap.size ev (cutC σ 1 n) ∧ DskS w' B K v0' v1' (cutS σ 1 n) ∧ DStep w w' K v0 v1 v0' v1' := by
  have hbn := h.bn
  have e1 : cutC σ 1 n = if n < 0 ∨ (σ.x1.length : Int) < n then 2 else if σ.goes then 0 else 8 := by simp [cutC]
  have e2 : cutS σ 1 n = if n < 0 ∨ (σ.x1.length : Int) < n then σ else if σ.goes then { σ.wr with x1 := σ.x1.take n.toNat, s1 := min σ.s1 n.toNat, nc := oneMore σ.nc } else σ.kill := by simp [cutS]
  rw [e1, e2]
  by_cases ho : n < 0 ∨ (σ.x1.length : Int) < n
  · rw [if_pos ho, if_pos ho]
    refine (Cut1_outN h (stOf_any _) ho).mono ?_
    rintro e w' ⟨he, hf, hbl⟩
    exact ⟨_, v0, v1, he, EvD.mk hf rfl, h.below hbl, DStep.of_below _ _ _ hbl⟩
  · rw [if_neg ho, if_neg ho]
    by_cases hg : σ.goes = true
    · rw [if_pos hg, if_pos hg]
      obtain ⟨hd, hz⟩ := (goes_iff σ).1 hg
      unfold DskS at h ⊢
      rw [hd] at h
      refine (Cut1_ok n.toNat h hz (by omega) (by omega)).mono ?_
      rintro e w' ⟨he, v', hd', hs⟩
      refine ⟨_, v0, v', he, EvD.nil _ _, ?_, hs⟩
      simp only [Sg.wr, hd]
      rw [fz_left, ct_more _ ⟨hbn.2.2.2.2.2.2.1, hbn.2.2.2.2.2.2.2⟩] at hd'
      exact hd'
    · rw [if_neg hg, if_neg hg]
      refine (Cut1_deadN h (stOf_any _) (goes_not σ hg) (by omega)).mono ?_
      rintro e w' ⟨he, hf, hd', hs⟩
      exact ⟨_, v0, v1, he, EvD.mk hf rfl, hd', hs⟩
end
end Go.Proofs.YtfkcnnjkflomkaaDoor

/-
  The law's 'refused', 'appends'.
-/
namespace Go.Proofs.YtfkcnnjkflomkaaDoor
open Go.RowKit

theorem appS_ok {σ : Sg} (ok : σ.Ok) (ar : Int) (bs : List Int) : (appS σ ar bs).Ok := by
  unfold appS
  split
  · split
    · exact ok
    · split
      · exact ⟨by simp [Sg.wr]; have := ok.s0; omega, ok.s1, by simp; omega, ok.l1⟩
      · exact ⟨ok.s0, ok.s1, ok.l0, ok.l1⟩
  · split
    · split
      · exact ok
      · split
        · exact ⟨ok.s0, by simp [Sg.wr]; have := ok.s1; omega, ok.l0, by simp; omega⟩
        · exact ⟨ok.s0, ok.s1, ok.l0, ok.l1⟩
    · exact ok
theorem PStep.of_below {a b : World} (K R : Nat) (v0 v1 : Value) (v : Nat → Value) (h : Below a.heap.size a b) : PStep a b K R v0 v1 v v0 v1 v := ⟨Off.of_below h, fun _ _ g => g⟩
theorem Pr.below {w w1 : World} {B K R : Nat} {v0 v1 : Value} {v : Nat → Value} {σ : Sg} (h : Pr w B K R v0 v1 v σ) (hb : Below w.heap.size w w1) : Pr w1 B K R v0 v1 v σ := h.off (Off.of_below (P := fun _ => False) hb) (fun _ _ => id)
theorem Pr.foot_lt {w : World} {B K R : Nat} {v0 v1 : Value} {v : Nat → Value} {σ : Sg} (h : Pr w B K R v0 v1 v σ) {k : Nat} (hk : Foot K v0 v1 k ∨ RFoot R v k) : k < w.heap.size := by
  rcases hk with hk | hk
  · exact (h.d.foot_lt hk).2
  · exact (h.r.foot_lt hk).2
end Go.Proofs.YtfkcnnjkflomkaaDoor

/-
  Book.Take.
-/
namespace Go.Proofs.YtfkcnnjkflomkaaDoor
open Go.RowKit

theorem Row.asByts {w : World} {B n c : Nat} {a : Option Addr} {xs : List Int} (h : Row w B (.slice a n c) xs) : Byts w a n xs := by
  rcases h.form with ⟨e, rfl⟩ | ⟨g, cap, e, _⟩
  · cases e; exact ⟨rfl, fun j hj => by omega⟩
  · cases e; exact h.bytes
theorem Row.len {w : World} {B n c : Nat} {a : Option Addr} {xs : List Int} (h : Row w B (.slice a n c) xs) : xs.length = n := h.asByts.len
theorem slice_one (a : Option Addr) (n c : Nat) : (Value.slice a n c).oneCell' = true := rfl
/-- The roles behind a Take. -/
def roleT (ρ : Nat → Nat) (N g b v : Nat) (l : Option Nat) (n : Nat) (k : Nat) : Nat := if l = some k then 6 + 2 * n else if k < N then ρ k else if k = g then 4 else if k = b then 2 else if k = v then 3 else 0
theorem take_done {w wr w2 w3 w4 : World} {B K : Nat} {ρ : Nat → Nat} {vb vw : Value} {es : List Ent} {a ab aw : Option Addr} {n c nb cb nw cw : Nat} {bs : List Int} (h : Bk w B K ρ vb vw es) (hl : Row w B (.slice a n c) bs) (hz : ∀ g, (Value.slice a n c).ownBlock = some g → ρ g = 0)
    (hrow : Row wr w.heap.size (.slice (some ⟨w.heap.size, 0, none⟩) n n) bs) (hbel : Below w.heap.size w wr) (hb1 : Bk wr B K ρ vb vw es) (r2 : VRow w2 B 28 (.slice ab nb cb) (es.map Ent.val ++ [.slice a n c])) (o2 : Off (fun k => vb.ownBlock = some k) wr w2) (s2 : (Value.slice ab nb cb).ownBlock = vb.ownBlock ∨ ∃ g, (Value.slice ab nb cb).ownBlock = some g ∧ wr.heap.size ≤ g)
    (hw3 : w2.setCell ⟨K, 0, none⟩ (.slice ab nb cb) = w3) (r4 : VRow w4 B 28 (.slice aw nw cw) (es.map Ent.was ++ [.slice (some ⟨w.heap.size, 0, none⟩) n n])) (o4 : Off (fun k => vw.ownBlock = some k) w3 w4) (s4 : (Value.slice aw nw cw).ownBlock = vw.ownBlock ∨ ∃ g, (Value.slice aw nw cw).ownBlock = some g ∧ w3.heap.size ≤ g) :
    ∃ ρ' vb' vw' was, Bk (w4.setCell ⟨K, 1, none⟩ (.slice aw nw cw)) B K ρ' vb' vw' (es ++ [⟨.slice a n c, was, bs, bs⟩]) ∧ Off (fun k => ρ k = 1 ∨ ρ k = 2 ∨ ρ k = 3) w (w4.setCell ⟨K, 1, none⟩ (.slice aw nw cw)) ∧ (∀ k, k < w.heap.size → (Value.slice a n c).ownBlock ≠ some k → ρ' k = ρ k) := by
  have hK := h.lt
  have hg1 : w.heap.size < wr.heap.size := (hrow.lt (g := w.heap.size) rfl).2
  have hs12 : wr.heap.size ≤ w2.heap.size := o2.size
  have hs23 : w2.heap.size = w3.heap.size := by rw [← hw3]; simp
  have hs34 : w3.heap.size ≤ w4.heap.size := o4.size
  obtain ⟨w5, hw5⟩ : ∃ x, w4.setCell ⟨K, 1, none⟩ (.slice aw nw cw) = x := ⟨_, rfl⟩
  have hs45 : w4.heap.size = w5.heap.size := by rw [← hw5]; simp
  have o23 : Off (fun k => k = K) w2 w3 := by rw [← hw3]; exact Off.setCell (P := fun k => k = K) (Off.refl _ _) (p := ⟨K, 0, none⟩) rfl _
  have o45 : Off (fun k => k = K) w4 w5 := by rw [← hw5]; exact Off.setCell (P := fun k => k = K) (Off.refl _ _) (p := ⟨K, 1, none⟩) rfl _
  have or5 : Off (fun k => ρ k = 1 ∨ ρ k = 2 ∨ ρ k = 3) wr w5 := by
    refine ((o2.mono (fun k e => Or.inr (Or.inl (hb1.pb k e)))).trans (o23.mono (fun k e => Or.inl (by rw [e]; exact h.pK)))).trans ((o4.mono (fun k e => Or.inr (Or.inr (hb1.pw k e)))).trans (o45.mono (fun k e => Or.inl (by rw [e]; exact h.pK))))
  have o05 : Off (fun k => ρ k = 1 ∨ ρ k = 2 ∨ ρ k = 3) w w5 := (Off.of_below hbel).trans or5
  have nK2 : vb.ownBlock ≠ some K := fun e => by have h1 := hb1.pb K e; have h2 := hb1.pK; omega
  have nK3 : vw.ownBlock ≠ some K := fun e => by have h1 := hb1.pw K e; have h2 := hb1.pK; omega
  -- the numbers of the new blocks
  obtain ⟨gb, hgb⟩ : ∃ g, ∀ k, (Value.slice ab nb cb).ownBlock = some k → (k < w.heap.size ∧ ρ k = 2) ∨ (k = g ∧ wr.heap.size ≤ k ∧ k < w3.heap.size) := by
    rcases s2 with e | ⟨g, e, hg⟩
    · refine ⟨0, fun k hk => Or.inl ?_⟩
      rw [e] at hk
      exact ⟨(h.rb.lt hk).2, h.pb k hk⟩
    · refine ⟨g, fun k hk => Or.inr ?_⟩
      have h1 := (r2.lt hk).2
      rw [e] at hk
      simp only [Option.some.injEq] at hk
      omega
  obtain ⟨gw, hgw⟩ : ∃ g, ∀ k, (Value.slice aw nw cw).ownBlock = some k → (k < w.heap.size ∧ ρ k = 3) ∨ (k = g ∧ w3.heap.size ≤ k ∧ k < w4.heap.size) := by
    rcases s4 with e | ⟨g, e, hg⟩
    · refine ⟨0, fun k hk => Or.inl ?_⟩
      rw [e] at hk
      exact ⟨(h.rws.lt hk).2, h.pw k hk⟩
    · refine ⟨g, fun k hk => Or.inr ?_⟩
      have h1 := (r4.lt hk).2
      rw [e] at hk
      simp only [Option.some.injEq] at hk
      omega
  have hlb : ∀ k, (Value.slice a n c).ownBlock = some k → k < w.heap.size ∧ ρ k = 0 := fun k e => ⟨(hl.lt e).2, hz k e⟩
  refine ⟨roleT ρ w.heap.size w.heap.size (if wr.heap.size ≤ gb ∧ gb < w3.heap.size then gb else 0) (if w3.heap.size ≤ gw ∧ gw < w4.heap.size then gw else 0) (Value.slice a n c).ownBlock es.length, .slice ab nb cb, .slice aw nw cw, .slice (some ⟨w.heap.size, 0, none⟩) n n, ?_, by rw [hw5]; exact o05, fun k hk hn => by simp only [roleT, if_neg hn, if_pos hk]⟩
  rw [hw5]
  have hold : ∀ k, k < w.heap.size → ρ k ≠ 0 → roleT ρ w.heap.size w.heap.size (if wr.heap.size ≤ gb ∧ gb < w3.heap.size then gb else 0) (if w3.heap.size ≤ gw ∧ gw < w4.heap.size then gw else 0) (Value.slice a n c).ownBlock es.length k = ρ k := fun k hk hr => by
    have hn : (Value.slice a n c).ownBlock ≠ some k := fun e => hr (hlb k e).2
    simp only [roleT, if_neg hn, if_pos hk]
  have hat : ∀ (j : Nat) (x : Ent), (es ++ [⟨.slice a n c, .slice (some ⟨w.heap.size, 0, none⟩) n n, bs, bs⟩])[j]? = some x → (j < es.length ∧ es[j]? = some x) ∨ (j = es.length ∧ x = ⟨.slice a n c, .slice (some ⟨w.heap.size, 0, none⟩) n n, bs, bs⟩) := fun j x hx => by
    rcases Nat.lt_or_ge j es.length with g | g
    · rw [List.getElem?_append_left g] at hx; exact Or.inl ⟨g, hx⟩
    · rw [List.getElem?_append_right g] at hx
      rcases Nat.eq_or_lt_of_le g with e | e
      · subst e; simp at hx; exact Or.inr ⟨rfl, hx.symm⟩
      · rw [List.getElem?_eq_none (by simp; omega)] at hx; cases hx
  have cK : ∀ q, q ≠ 0 → q ≠ 1 → w5.cell? ⟨K, q, none⟩ = w.cell? ⟨K, q, none⟩ := fun q h0 h1 => by
    rw [← hw5, World.cell?_setCell_other _ _ _ _ (by simp only [ne_eq, Addr.mk.injEq, not_and]; intro _ e; omega), o4.cell (p := ⟨K, q, none⟩) (by show K < _; omega) nK3, ← hw3, World.cell?_setCell_other _ _ _ _ (by simp only [ne_eq, Addr.mk.injEq, not_and]; intro _ e; omega), o2.cell (p := ⟨K, q, none⟩) (by show K < _; omega) nK2, hbel.cell (p := ⟨K, q, none⟩) hK]
  have fK : ∀ q, w5.frozen? ⟨K, q, none⟩ = w.frozen? ⟨K, q, none⟩ := fun q => by
    rw [← hw5, World.frozen?_setCell, o4.frozen (p := ⟨K, q, none⟩) (by show K < _; omega) nK3, ← hw3, World.frozen?_setCell, o2.frozen (p := ⟨K, q, none⟩) (by show K < _; omega) nK2, hbel.frozen (p := ⟨K, q, none⟩) hK]
  have c03 : w3.cell? ⟨K, 0, none⟩ = some (.slice ab nb cb) := by
    rw [← hw3]
    exact World.cell?_setCell_same _ _ _ (show _ = some vb by rw [o2.cell (p := ⟨K, 0, none⟩) (by show K < _; omega) nK2]; exact hb1.c0)
  have c05 : w5.cell? ⟨K, 0, none⟩ = some (.slice ab nb cb) := by
    rw [← hw5, World.cell?_setCell_other _ _ _ _ (by simp), o4.cell (p := ⟨K, 0, none⟩) (by show K < _; omega) nK3]; exact c03
  have c15 : w5.cell? ⟨K, 1, none⟩ = some (.slice aw nw cw) := by
    rw [← hw5]
    refine World.cell?_setCell_same _ _ _ (?_ : _ = some vw)
    rw [o4.cell (p := ⟨K, 1, none⟩) (by show K < _; omega) nK3, ← hw3, World.cell?_setCell_other _ _ _ _ (by simp), o2.cell (p := ⟨K, 1, none⟩) (by show K < _; omega) nK2]; exact hb1.c1
  have row5 : ∀ {v : Value} {xs : List Int}, Row w B v xs → (∀ g, v.ownBlock = some g → ρ g ≠ 1 ∧ ρ g ≠ 2 ∧ ρ g ≠ 3) → Row w5 B v xs := fun {v xs} hr hn => hr.off o05 (fun g e p => by have := hn g e; omega)
  refine ⟨c05, c15, by rw [cK 2 (by decide) (by decide)]; exact h.c2, by rw [cK 3 (by decide) (by decide)]; exact h.c3, by rw [cK 4 (by decide) (by decide)]; exact h.c4, by rw [cK 5 (by decide) (by decide)]; exact h.c5, fun q => by rw [fK]; exact h.fz q, by have := h.hB; omega,
    ?_, ?_, fun j x hx => ?_, fun j x hx => ?_, by rw [hold K hK (by rw [h.pK]; decide)]; exact h.pK, fun g e => ?_, fun g e => ?_, fun j x hx g e => ?_, fun j x hx g e => ?_, fun g hg => ?_⟩
  · rw [List.map_append]
    refine ((r2.off o23 (fun g e p => ?_)).off o4 (fun g e p => ?_)).off o45 (fun g e p => ?_)
    · subst p; rcases hgb _ e with q | q
      · have := h.pK; omega
      · omega
    · have hp := hb1.pw g p
      rcases hgb _ e with q | q
      · omega
      · have := h.new g (by omega); omega
    · subst p; rcases hgb _ e with q | q
      · have := h.pK; omega
      · omega
  · rw [List.map_append]
    refine r4.off o45 (fun g e p => ?_)
    subst p; rcases hgw _ e with q | q
    · have := h.pK; omega
    · omega
  · rcases hat j x hx with ⟨_, hx'⟩ | ⟨rfl, rfl⟩
    · exact row5 (h.val j x hx') (fun g e => by have := h.pval j x hx' g e; omega)
    · exact row5 hl (fun g e => by have := (hlb g e).2; omega)
  · rcases hat j x hx with ⟨_, hx'⟩ | ⟨rfl, rfl⟩
    · exact row5 (h.was j x hx') (fun g e => by have := h.pwas j x hx' g e; omega)
    · have r5 := hrow.off or5 (fun g e p => by
        simp only [Value.ownBlock, Option.some.injEq] at e; subst e
        have := h.new w.heap.size (Nat.le_refl _); omega)
      exact ⟨r5.1, by
        rcases r5.2 with q | ⟨g', c', u', e1, hb, rest⟩
        · exact Or.inl q
        · exact Or.inr ⟨g', c', u', e1, Nat.le_trans h.hB hb, rest⟩⟩
  · rcases hgb g e with ⟨q1, q2⟩ | ⟨q1, q2, q3⟩
    · rw [hold g q1 (by omega)]; exact q2
    · have hn : (Value.slice a n c).ownBlock ≠ some g := fun e' => by have := (hlb g e').1; omega
      subst q1
      simp only [roleT, if_neg hn, if_pos (And.intro q2 q3)]
      rw [if_neg (by omega), if_neg (by omega), if_pos trivial]
  · rcases hgw g e with ⟨q1, q2⟩ | ⟨q1, q2, q3⟩
    · rw [hold g q1 (by omega)]; exact q2
    · have hn : (Value.slice a n c).ownBlock ≠ some g := fun e' => by have := (hlb g e').1; omega
      subst q1
      simp only [roleT, if_neg hn, if_pos (And.intro q2 q3)]
      rw [if_neg (by omega), if_neg (by omega), if_neg (by split <;> omega), if_pos trivial]
  · rcases hat j x hx with ⟨_, hx'⟩ | ⟨rfl, rfl⟩
    · have hp := h.pwas j x hx' g e
      rw [hold g ((h.was j x hx').lt e).2 (by omega)]; exact hp
    · simp only [Value.ownBlock, Option.some.injEq] at e; subst e
      have hn : (Value.slice a n c).ownBlock ≠ some w.heap.size := fun e' => by have := (hlb _ e').1; omega
      simp only [roleT, if_neg hn]
      rw [if_neg (by omega), if_pos trivial]
  · rcases hat j x hx with ⟨_, hx'⟩ | ⟨rfl, rfl⟩
    · have hp := h.pval j x hx' g e
      rw [hold g ((h.val j x hx').lt e).2 (by omega)]; exact hp
    · simp only [roleT, if_pos e]
  · have hn : (Value.slice a n c).ownBlock ≠ some g := fun e' => by have := (hlb g e').1; omega
    simp only [roleT, if_neg hn]
    rw [if_neg (by omega), if_neg (by omega), if_neg (by split <;> omega), if_neg (by split <;> omega)]
end Go.Proofs.YtfkcnnjkflomkaaDoor

/-
  Book.Still: what is kept is as it came.
-/
namespace Go.Proofs.YtfkcnnjkflomkaaDoor
open Go.RowKit

theorem Row.isSlice {w : World} {B : Nat} {v : Value} {xs : List Int} (h : Row w B v xs) : ∃ a c, v = .slice a xs.length c ∧ (0 < xs.length → ∃ g, a = some ⟨g, 0, none⟩) := by
  rcases h.form with ⟨rfl, rfl⟩ | ⟨g, cap, rfl, _⟩
  · exact ⟨_, _, rfl, fun h => by simp at h⟩
  · exact ⟨_, _, rfl, fun _ => ⟨g, rfl⟩⟩
theorem VRow.isSlice {w : World} {B : Nat} {e : TypeId} {v : Value} {xs : List Value} (h : VRow w B e v xs) : ∃ a c, v = .slice a xs.length c ∧ (0 < xs.length → ∃ g, a = some ⟨g, 0, none⟩) := by
  rcases h.form with ⟨rfl, rfl⟩ | ⟨g, cap, rfl, _⟩
  · exact ⟨_, _, rfl, fun h => by simp at h⟩
  · exact ⟨_, _, rfl, fun _ => ⟨g, rfl⟩⟩
end Go.Proofs.YtfkcnnjkflomkaaDoor

/-
  couriermem.markByte: some byte of the two numbers.
-/
namespace Go.Proofs.YtfkcnnjkflomkaaDoor
open Go.RowKit

/-- The mark of place k in the list of number i. -/
def markI (i k : Nat) : Int := bits BinOp.xor IntKind.u8 ((i : Int) / 2 ^ (8 * (k % 3)) % 256) (53 * ((k : Int) % 3) + 1)
def mk (i n : Nat) : List Int := (List.range n).map (markI i)
theorem mk_length (i n : Nat) : (mk i n).length = n := by simp [mk]
theorem mk_succ (i n : Nat) : mk i (n + 1) = mk i n ++ [markI i n] := by simp [mk, List.range_succ]
theorem mk_getD (i n k : Nat) (h : k < n) : (mk i n).getD k 0 = markI i k := by
  rw [List.getD_eq_getElem?_getD, mk, List.getElem?_map, List.getElem?_range h]; rfl
theorem mk_take (i n k : Nat) (h : k ≤ n) : (mk i n).take k = mk i k := by
  rw [mk, mk, ← List.map_take, List.take_range, Nat.min_eq_left h]
end Go.Proofs.YtfkcnnjkflomkaaDoor

/-
  Book.write: each list with marks of its own.
-/
namespace Go.Proofs.YtfkcnnjkflomkaaDoor
open Go.RowKit

/-- The first i lists are written over. -/
def wrote (i : Nat) (es : List Ent) : List Ent := es.mapIdx fun j e => if j < i then { e with bs := mk j e.bs.length } else e
theorem wrote_length (i : Nat) (es : List Ent) : (wrote i es).length = es.length := by simp [wrote]
theorem wrote_get (i j : Nat) (es : List Ent) (e : Ent) (h : es[j]? = some e) : (wrote i es)[j]? = some (if j < i then { e with bs := mk j e.bs.length } else e) := by simp [wrote, h]
theorem wrote_zero (es : List Ent) : wrote 0 es = es := by
  refine List.ext_getElem? fun j => ?_
  simp [wrote]
theorem wrote_set (i : Nat) (es : List Ent) (e : Ent) (h : es[i]? = some e) : (wrote i es).set i { e with bs := mk i e.bs.length } = wrote (i + 1) es := by
  refine List.ext_getElem? fun j => ?_
  have hi := (List.getElem?_eq_some_iff.1 h).1
  by_cases hj : i = j
  · subst hj
    rw [List.getElem?_set_self (by rw [wrote_length]; exact hi), wrote_get (i + 1) i es e h, if_pos (Nat.lt_succ_self _)]
  · rw [List.getElem?_set_ne hj]
    simp only [wrote, List.getElem?_mapIdx]
    cases es[j]? with
    | none => rfl
    | some x =>
      simp only [Option.map_some]
      by_cases hl : j < i
      · rw [if_pos hl, if_pos (by omega)]
      · rw [if_neg hl, if_neg (by omega)]
theorem wrote_same (i : Nat) (es : List Ent) (e : Ent) (h : es[i]? = some e) : (wrote i es).set i { e with bs := e.bs } = wrote i es := by
  refine List.ext_getElem? fun j => ?_
  have hi := (List.getElem?_eq_some_iff.1 h).1
  by_cases hj : i = j
  · subst hj
    rw [List.getElem?_set_self (by rw [wrote_length]; exact hi), wrote_get i i es e h, if_neg (Nat.lt_irrefl _)]
  · rw [List.getElem?_set_ne hj]
theorem over_next (i : Nat) (bs : List Int) (k : Nat) (h : k < bs.length) : (mk i k ++ bs.drop k).set k (markI i k) = mk i (k + 1) ++ bs.drop (k + 1) := by
  rw [List.set_append_right _ _ (by rw [mk_length]; omega), mk_length, Nat.sub_self, List.drop_eq_getElem_cons h, List.set_cons_zero, mk_succ, List.append_assoc]
  rfl
theorem ents_map (f : Ent → Value) (i : Nat) (es : List Ent) (hf : ∀ (e : Ent) bs, f { e with bs := bs } = f e) : (wrote i es).map f = es.map f := by
  refine List.ext_getElem? fun j => ?_
  simp only [wrote, List.getElem?_map, List.getElem?_mapIdx]
  cases es[j]? with
  | none => rfl
  | some x =>
    simp only [Option.map_some]
    by_cases hl : j < i
    · rw [if_pos hl, hf]
    · rw [if_neg hl]
theorem write_step {w wr : World} {B K g gv n cb i k lb d1 : Nat} {ρ : Nat → Nat} {vw : Value} {es : List Ent} {e : Ent} (h : Bk wr B K ρ (.slice (some ⟨g, 0, none⟩) n cb) vw (es.set i { e with bs := mk i k ++ e.bs.drop k })) (ho : Off (fun k => ∃ j, ρ k = 6 + 2 * j) w wr) (hi : i < es.length) (he : e.val = .slice (some ⟨gv, 0, none⟩) e.bs.length d1) (hl : e.bs.length = lb) (hk : k < lb) (hr : Row wr B (.slice (some ⟨gv, 0, none⟩) lb d1) (mk i k ++ e.bs.drop k)) :
    Bk (wr.setCell ⟨gv, k, none⟩ (.int .u8 (markI i k))) B K ρ (.slice (some ⟨g, 0, none⟩) n cb) vw (es.set i { e with bs := mk i (k + 1) ++ e.bs.drop (k + 1) }) ∧ Off (fun k => ∃ j, ρ k = 6 + 2 * j) w (wr.setCell ⟨gv, k, none⟩ (.int .u8 (markI i k))) := by
  have hat : (es.set i { e with bs := mk i k ++ e.bs.drop k })[i]? = some { e with bs := mk i k ++ e.bs.drop k } := List.getElem?_set_self hi
  have hp : ρ gv = 6 + 2 * i := h.pval i _ hat gv (by show e.val.ownBlock = some gv; rw [he]; rfl)
  have hrow := hr.stored k (markI i k)
  rw [over_next i e.bs k (by omega)] at hrow
  have o1 : Off (fun k => ρ k = 6 + 2 * i) wr (wr.setCell ⟨gv, k, none⟩ (.int .u8 (markI i k))) := Off.setCell (P := fun k => ρ k = 6 + 2 * i) (Off.refl _ _) (p := ⟨gv, k, none⟩) hp _
  have hb := h.touch hat o1 (bs' := mk i (k + 1) ++ e.bs.drop (k + 1)) (by
    show Row _ B e.val _
    rw [he, hl]; exact hrow)
  rw [List.set_set] at hb
  exact ⟨hb, ho.trans (o1.mono (fun k e => ⟨i, e⟩))⟩
end Go.Proofs.YtfkcnnjkflomkaaDoor

/-
  Lists of the book, grown by marks of their own.
-/
namespace Go.Proofs.YtfkcnnjkflomkaaDoor
open Go.RowKit

/-- l has grown out of v: it holds ys, v still holds bs. -/
structure Grew (w : World) (B : Nat) (v l : Value) (bs ys : List Int) : Prop where
  row : Row w B l ys
  val : Row w B v bs
  pre : ys.take bs.length = bs
  way : (∃ g n m cap, v = .slice (some ⟨g, 0, none⟩) n cap ∧ l = .slice (some ⟨g, 0, none⟩) m cap) ∨ (∀ g, l.ownBlock = some g → v.ownBlock ≠ some g)
theorem Grew.refl {w : World} {B : Nat} {v : Value} {bs : List Int} (h : Row w B v bs) : Grew w B v v bs bs := by
  refine ⟨h, h, List.take_length, ?_⟩
  rcases h.form with ⟨rfl, _⟩ | ⟨g, cap, rfl, _⟩
  · exact Or.inr (fun g e => by cases e)
  · exact Or.inl ⟨_, _, _, _, rfl, rfl⟩
theorem vrow_of_row {w : World} {B : Nat} {v : Value} {xs : List Int} (h : Row w B v xs) : VRow w B 5 v (u8s xs) := by
  unfold VRow; rw [u8s_length]; exact h
theorem row_of_vrow {w : World} {B : Nat} {v : Value} {xs : List Int} (h : VRow w B 5 v (u8s xs)) : Row w B v xs := by
  unfold VRow at h; rw [u8s_length] at h; exact h
theorem run_grow {w : World} {B : Nat} {v l : Value} {bs ys : List Int} (h : Grew w B v l bs ys) (hB : B ≤ w.heap.size) (hl : ys.length + 1 ≤ 140737488355328) (z : Int) :
    ∃ a n c w', (Builtin.append_ #[28, 28] 28 #[l, .slice (some ⟨w.heap.size, 0, none⟩) 1 1]).run Tryd.prog (w.alloc (.cells #[.int .u8 z] 5)) = .ok (.slice a n c) w' ∧ Grew w' B v (.slice a n c) bs (ys ++ [z]) ∧ Off (fun k => l.ownBlock = some k) w w' ∧ ((Value.slice a n c).ownBlock = l.ownBlock ∨ ∃ g, (Value.slice a n c).ownBlock = some g ∧ w.heap.size ≤ g) := by
  obtain ⟨i, hi, hz, hs, hby⟩ := u8info
  have hbl : Below w.heap.size w (w.alloc (.cells #[.int .u8 z] 5)) := (Below.refl w.heap.size w).alloc (Nat.le_refl _) _
  have hrow : Row (w.alloc (.cells #[.int .u8 z] 5)) B l ys := h.row.keep (fun g e => hbl.block g (h.row.lt e).2)
  have hval : Row (w.alloc (.cells #[.int .u8 z] 5)) B v bs := h.val.keep (fun g e => hbl.block g (h.val.lt e).2)
  have hbl2 : bs.length ≤ ys.length := by have := congrArg List.length h.pre; rw [List.length_take] at this; omega
  obtain ⟨v', w', hr, r, p⟩ := run_append_two (P := Tryd.prog) (w.alloc (.cells #[.int .u8 z] 5)) B 28 28 5 i _ 1 Tryd.underlying28 hi hz hs hby rfl l (u8s ys) (vrow_of_row hrow) ⟨w.heap.size, 0, none⟩ 1 1 [.int .u8 z] rfl (cell_one_new w _ _) (fun x hx => by simp only [List.mem_singleton] at hx; subst hx; rfl) (by rw [u8s_length]; unfold maxLen; omega) (by rw [u8s_length]; omega) (by simp; omega)
  have r2 : Row w' B v' (ys ++ [z]) := row_of_vrow (by rw [u8s_append]; exact r)
  have hof : Off (fun k => l.ownBlock = some k) w w' := by
    refine ((Off.refl _ w).alloc (.cells #[.int .u8 z] 5)).trans ?_
    cases p with
    | same g cap hv hv' hg => rw [hv]; exact Off.of_grown hg
    | idle hv hm hw => omega
    | fresh cap hv' hg hs => exact (Off.of_grown hg).mono (fun k e => by cases e)
  have hpre : (ys ++ [z]).take bs.length = bs := by rw [List.take_append_of_le_length hbl2]; exact h.pre
  cases p with
  | same g cap hv hv' hg =>
    subst hv; subst hv'
    refine ⟨_, _, _, w', hr, ⟨r2, ?_, hpre, ?_⟩, hof, Or.inl rfl⟩
    · rcases h.way with ⟨g1, n1, m1, c1, e1, e2⟩ | hne
      · simp only [Value.slice.injEq, Option.some.injEq, Addr.mk.injEq, and_true] at e2
        obtain ⟨rfl, _, rfl⟩ := e2
        subst e1
        have hn := h.val.len
        have hp := r2.prefix (m := n1) (by rw [u8s_length]; omega)
        rw [← hn, hpre] at hp
        rw [← hn]
        exact hp
      · exact hval.off (Off.of_grown hg) (fun k e p => by simp only [Option.some.injEq] at p; subst p; exact hne _ rfl e)
    · rcases h.way with ⟨g1, n1, m1, c1, e1, e2⟩ | hne
      · simp only [Value.slice.injEq, Option.some.injEq, Addr.mk.injEq, and_true] at e2
        obtain ⟨rfl, _, rfl⟩ := e2
        exact Or.inl ⟨_, _, _, _, e1, rfl⟩
      · exact Or.inr (fun k e => hne k e)
  | idle hv hm hw => omega
  | fresh cap hv' hg hs =>
    subst hv'
    refine ⟨_, _, _, w', hr, ⟨r2, hval.off (Off.of_grown hg) (fun k e p => by cases p), hpre, Or.inr (fun k e e2 => ?_)⟩, hof, Or.inr ⟨_, rfl, by simp⟩⟩
    simp only [Value.ownBlock, Option.some.injEq] at e
    have := (h.val.lt e2).2
    simp at e
    omega
/-- The book, and beside it the grown lists. -/
structure Gw (w : World) (B K : Nat) (ρ : Nat → Nat) (vb vw vl : Value) (es : List Ent) (ls : List Value) : Prop where
  bk : Bk w B K ρ vb vw es
  rl : VRow w B 28 vl ls
  pl : ∀ g, vl.ownBlock = some g → ρ g = 5
  ll : ∀ (j : Nat) (l : Value) (e : Ent), ls[j]? = some l → es[j]? = some e → Row w B l (mk j (e.bs.length + 90)) ∧ ∀ g, l.ownBlock = some g → ρ g = 6 + 2 * j ∨ ρ g = 7 + 2 * j
theorem set_self (es : List Ent) (i : Nat) (e : Ent) (h : es[i]? = some e) : es.set i { e with bs := e.bs } = es := by
  refine List.ext_getElem? fun j => ?_
  have hi := (List.getElem?_eq_some_iff.1 h).1
  by_cases hj : i = j
  · subst hj; rw [List.getElem?_set_self hi, h]
  · rw [List.getElem?_set_ne hj]
theorem gw_step {w w1 w2 : World} {B K i : Nat} {ρ : Nat → Nat} {vb vw vl l : Value} {a : Option Addr} {n c : Nat} {es : List Ent} {ls : List Value} {e : Ent} (h : Gw w B K ρ vb vw vl es ls) (hi : ls.length = i) (he : es[i]? = some e)
    (o1 : Off (fun k => ρ k = 6 + 2 * i) w w1) (hg : Grew w1 B e.val l e.bs (mk i (e.bs.length + 90))) (hlb : ∀ g, l.ownBlock = some g → e.val.ownBlock = some g ∨ w.heap.size ≤ g)
    (v2 : VRow w2 B 28 (.slice a n c) (ls ++ [l])) (o2 : Off (fun k => vl.ownBlock = some k) w1 w2) (s2 : (Value.slice a n c).ownBlock = vl.ownBlock ∨ ∃ g, (Value.slice a n c).ownBlock = some g ∧ w1.heap.size ≤ g) :
    ∃ ρ', Gw w2 B K ρ' vb vw (.slice a n c) es (ls ++ [l]) ∧ Off (fun k => ρ k = 6 + 2 * i ∨ vl.ownBlock = some k) w w2 ∧ (∀ k, k < w.heap.size → ρ' k = ρ k) := by
  obtain ⟨l2, hl2⟩ : ∃ x, Value.slice a n c = x := ⟨_, rfl⟩
  rw [hl2] at v2 s2 ⊢
  have hs1 := o1.size
  have hs2 := o2.size
  have hvl : ∀ g, vl.ownBlock = some g → g < w.heap.size ∧ ρ g = 5 := fun g e => ⟨(h.rl.lt e).2, h.pl g e⟩
  have b1 : Bk w1 B K ρ vb vw es := by
    have := h.bk.touch he o1 hg.val
    rw [set_self es i e he] at this
    exact this
  have hll : ∀ g, l.ownBlock = some g → (g < w.heap.size ∧ ρ g = 6 + 2 * i) ∨ (w.heap.size ≤ g ∧ g < w1.heap.size) := fun g eg => by
    rcases hlb g eg with q | q
    · exact Or.inl ⟨(h.bk.val i e he |>.lt q).2, h.bk.pval i e he g q⟩
    · exact Or.inr ⟨q, (hg.row.lt eg).2⟩
  have hl2b : ∀ g, l2.ownBlock = some g → (g < w.heap.size ∧ ρ g = 5) ∨ (w1.heap.size ≤ g ∧ g < w2.heap.size) := fun g eg => by
    rcases s2 with q | ⟨k, q, hk⟩
    · rw [q] at eg; exact Or.inl (hvl g eg)
    · have := (v2.lt eg).2
      rw [q] at eg; simp only [Option.some.injEq] at eg
      exact Or.inr ⟨by omega, this⟩
  refine ⟨fun k => if k < w.heap.size then ρ k else if l.ownBlock = some k then 7 + 2 * i else if l2.ownBlock = some k then 5 else 0, ⟨?_, v2, fun g eg => ?_, fun j x y hx hy => ?_⟩, (o1.mono (fun _ p => Or.inl p)).trans (o2.mono (fun k p => Or.inr p)), fun k hk => if_pos hk⟩
  · refine b1.role o2 (fun k p => Or.inr (hvl k p).2) (fun k _ h0 _ => ?_) (fun g hgs => ?_)
    · have hk : k < w.heap.size := by
        rcases Nat.lt_or_ge k w.heap.size with q | q
        · exact q
        · exact absurd (h.bk.new k q) h0
      exact if_pos hk
    · rw [if_neg (by omega), if_neg (fun q => by rcases hll g q with z | z <;> omega), if_neg (fun q => by rcases hl2b g q with z | z <;> omega)]
  · rcases hl2b g eg with q | q
    · rw [if_pos q.1]; exact q.2
    · rw [if_neg (by omega), if_neg (fun z => by rcases hll g z with z | z <;> omega), if_pos eg]
  · rcases Nat.lt_or_ge j ls.length with q | q
    · rw [List.getElem?_append_left q] at hx
      obtain ⟨r, p⟩ := h.ll j x y hx hy
      have hb : ∀ g, x.ownBlock = some g → g < w.heap.size := fun g eg => (r.lt eg).2
      refine ⟨(r.off o1 (fun g eg z => by have := p g eg; omega)).off o2 (fun g eg z => by have := p g eg; have := (hvl g z).2; omega), fun g eg => ?_⟩
      rw [if_pos (hb g eg)]; exact p g eg
    · rw [List.getElem?_append_right q] at hx
      have hj : j = ls.length := by
        rcases Nat.eq_or_lt_of_le q with z | z
        · exact z.symm
        · rw [List.getElem?_eq_none (by simp; omega)] at hx; cases hx
      subst hj
      rw [hi, he] at hy
      simp only [Nat.sub_self, List.getElem?_cons_zero, Option.some.injEq] at hx hy
      subst hx; subst hy
      rw [hi]
      refine ⟨hg.row.off o2 (fun g eg z => ?_), fun g eg => ?_⟩
      · have := hvl g z
        rcases hll g eg with z2 | z2 <;> omega
      · rcases hll g eg with z | z
        · rw [if_pos z.1]; exact Or.inl z.2
        · rw [if_neg (by omega), if_pos eg]; exact Or.inr rfl
end Go.Proofs.YtfkcnnjkflomkaaDoor

/-
  Book.shows: no list shows in another.
-/
namespace Go.Proofs.YtfkcnnjkflomkaaDoor
open Go.RowKit

end Go.Proofs.YtfkcnnjkflomkaaDoor

/-
  Book.Alone: as they came; written over, grown, none shows in another; the book is empty then.
-/
namespace Go.Proofs.YtfkcnnjkflomkaaDoor
open Go.RowKit

/-- A book of nothing at block K. -/
theorem Bk.empty {w : World} {B K : Nat} (h : ∀ q, q < 6 → w.cell? ⟨K, q, none⟩ = some (.slice none 0 0)) (hf : ∀ q, w.frozen? ⟨K, q, none⟩ = false) (hB : B ≤ w.heap.size) : Bk w B K (fun k => if k = K then 1 else 0) (.slice none 0 0) (.slice none 0 0) [] := by
  have hK : K < w.heap.size := by
    rcases Nat.lt_or_ge K w.heap.size with g | g
    · exact g
    · have := h 0 (by decide); simp [World.cell?, Array.getElem?_eq_none g] at this
  exact ⟨h 0 (by decide), h 1 (by decide), h 2 (by decide), h 3 (by decide), h 4 (by decide), h 5 (by decide), hf, hB, VRow.nil _ _ _, VRow.nil _ _ _, fun i e he => (by simp at he), fun i e he => (by simp at he), if_pos rfl, fun g e => (by cases e), fun g e => (by cases e), fun i e he => (by simp at he), fun i e he => (by simp at he), fun g hg => if_neg (by omega)⟩
theorem clear_one {w : World} {K j : Nat} (h : ∀ q, q < 6 → ∃ v, w.cell? ⟨K, q, none⟩ = some v) (hn : ∀ q, q < j → w.cell? ⟨K, q, none⟩ = some (.slice none 0 0)) (hj : j < 6) : (∀ q, q < 6 → ∃ v, (w.setCell ⟨K, j, none⟩ (.slice none 0 0)).cell? ⟨K, q, none⟩ = some v) ∧ (∀ q, q < j + 1 → (w.setCell ⟨K, j, none⟩ (.slice none 0 0)).cell? ⟨K, q, none⟩ = some (.slice none 0 0)) := by
  obtain ⟨v, hv⟩ := h j hj
  have hs : (w.setCell ⟨K, j, none⟩ (.slice none 0 0)).cell? ⟨K, j, none⟩ = some (.slice none 0 0) := World.cell?_setCell_same _ _ _ hv
  have ho : ∀ q, q ≠ j → (w.setCell ⟨K, j, none⟩ (.slice none 0 0)).cell? ⟨K, q, none⟩ = w.cell? ⟨K, q, none⟩ := fun q hq => World.cell?_setCell_other _ _ _ _ (by simp only [ne_eq, Addr.mk.injEq, not_and]; intro _ e; omega)
  refine ⟨fun q hq => ?_, fun q hq => ?_⟩
  · by_cases e : q = j
    · subst e; exact ⟨_, hs⟩
    · rw [ho q e]; exact h q hq
  · by_cases e : q = j
    · subst e; exact hs
    · rw [ho q e]; exact hn q (by omega)
theorem clear_book {w : World} {B K : Nat} {ρ : Nat → Nat} {vb vw : Value} {es : List Ent} (h : Bk w B K ρ vb vw es) :
    Bk ((((((w.setCell ⟨K, 0, none⟩ (.slice none 0 0)).setCell ⟨K, 1, none⟩ (.slice none 0 0)).setCell ⟨K, 2, none⟩ (.slice none 0 0)).setCell ⟨K, 3, none⟩ (.slice none 0 0)).setCell ⟨K, 4, none⟩ (.slice none 0 0)).setCell ⟨K, 5, none⟩ (.slice none 0 0)) B K (fun k => if k = K then 1 else 0) (.slice none 0 0) (.slice none 0 0) [] ∧
    Off (fun k => k = K) w ((((((w.setCell ⟨K, 0, none⟩ (.slice none 0 0)).setCell ⟨K, 1, none⟩ (.slice none 0 0)).setCell ⟨K, 2, none⟩ (.slice none 0 0)).setCell ⟨K, 3, none⟩ (.slice none 0 0)).setCell ⟨K, 4, none⟩ (.slice none 0 0)).setCell ⟨K, 5, none⟩ (.slice none 0 0)) := by
  have z : ∀ q, q < 6 → ∃ v, w.cell? ⟨K, q, none⟩ = some v := fun q hq => by
    match q, hq with
    | 0, _ => exact ⟨_, h.c0⟩
    | 1, _ => exact ⟨_, h.c1⟩
    | 2, _ => exact ⟨_, h.c2⟩
    | 3, _ => exact ⟨_, h.c3⟩
    | 4, _ => exact ⟨_, h.c4⟩
    | 5, _ => exact ⟨_, h.c5⟩
  obtain ⟨a0, b0⟩ := clear_one z (fun q hq => absurd hq (by omega)) (j := 0) (by decide)
  obtain ⟨a1, b1⟩ := clear_one a0 b0 (by decide)
  obtain ⟨a2, b2⟩ := clear_one a1 b1 (by decide)
  obtain ⟨a3, b3⟩ := clear_one a2 b2 (by decide)
  obtain ⟨a4, b4⟩ := clear_one a3 b3 (by decide)
  obtain ⟨a5, b5⟩ := clear_one a4 b4 (by decide)
  refine ⟨Bk.empty b5 (fun q => ?_) (by simpa using h.hB), ?_⟩
  · simp only [World.frozen?_setCell]; exact h.fz q
  · exact ((((((Off.refl (fun k => k = K) w).setCell (p := ⟨K, 0, none⟩) rfl _).setCell (p := ⟨K, 1, none⟩) rfl _).setCell (p := ⟨K, 2, none⟩) rfl _).setCell (p := ⟨K, 3, none⟩) rfl _).setCell (p := ⟨K, 4, none⟩) rfl _).setCell (p := ⟨K, 5, none⟩) rfl _
end Go.Proofs.YtfkcnnjkflomkaaDoor

/-
  Read of both disks: one number, the same bytes. (Typed by gen/mkpr3.py.)
-/
namespace Go.Proofs.YtfkcnnjkflomkaaDoor
open Go.RowKit

def rdC1 (xs : List Int) (dead : Bool) (p n : Int) : Int := if hasB xs.length p n = true then (if dead then 8 else 0) else 2
def rdX1 (xs : List Int) (dead : Bool) (p n : Int) : List Int := if hasB xs.length p n = true then (if dead then [] else (xs.drop p.toNat).take n.toNat) else []
def rdC (σ : Sg) (ar p n : Int) : Int := if ar = 0 then rdC1 σ.x0 σ.dead p n else if ar = 1 then rdC1 σ.x1 σ.dead p n else 2
def rdX (σ : Sg) (ar p n : Int) : List Int := if ar = 0 then rdX1 σ.x0 σ.dead p n else if ar = 1 then rdX1 σ.x1 σ.dead p n else []
theorem hasB_yes {l : Nat} {p n : Int} (h : hasB (l : Int) p n = true) : ∃ a b : Nat, p = (a : Int) ∧ n = (b : Int) ∧ a + b ≤ l := by
  unfold hasB at h
  simp at h
  exact ⟨p.toNat, n.toNat, by omega, by omega, by omega⟩
theorem hasB_no {l : Nat} {p n : Int} (h : ¬ hasB (l : Int) p n = true) : p < 0 ∨ n < 0 ∨ (l : Int) < p ∨ (l : Int) - p < n := by
  unfold hasB at h
  simp at h
  omega
section
variable {w : World} {B K R : Nat} {v0 v1 : Value} {v : Nat → Value} {σ : Sg}
theorem dRead0 (h : DskS w B K v0 v1 σ) (p n : Int) (hp : -9223372036854775808 ≤ p ∧ p ≤ 9223372036854775807) : Calls Tryd.prog 77 #[.pointer (some ⟨K, 0, none⟩), .int .i64 0, .int .i64 p, .int .i64 n] w fun e w' => ∃ a k c ev, e = .returned (.tuple #[.slice a k c, ev]) ∧ Row w' w.heap.size (.slice a k c) (rdX σ 0 p n) ∧ EvD w' w.heap.size ev (rdC σ 0 p n) ∧ Below w.heap.size w w' := by
  have e1 : rdC σ 0 p n = rdC1 σ.x0 σ.dead p n := by simp [rdC]
  have e2 : rdX σ 0 p n = rdX1 σ.x0 σ.dead p n := by simp [rdX]
  rw [e1, e2]
  unfold rdC1 rdX1
  by_cases hh : hasB σ.x0.length p n = true
  · rw [if_pos hh, if_pos hh]
    obtain ⟨i, j, rfl, rfl, hij⟩ := hasB_yes hh
    rw [Int.toNat_natCast, Int.toNat_natCast]
    unfold DskS at h
    cases hd : σ.dead with
    | true =>
      rw [hd] at h
      refine (Read0_dead i j h hij).mono ?_
      rintro e w' ⟨he, hf, hb⟩
      exact ⟨_, _, _, _, he, Row.nil _ _, EvD.mk hf rfl, hb⟩
    | false =>
      rw [hd] at h
      refine (Read0_at i j h hij).mono ?_
      rintro e w' ⟨a, k, c, he, hr, hb⟩
      exact ⟨a, k, c, _, he, hr, EvD.nil _ _, hb⟩
  · rw [if_neg hh, if_neg hh]
    refine (Read0_out p n h (stOf_any _) (by simpa using hh) hp).mono ?_
    rintro e w' ⟨he, hf, hb⟩
    exact ⟨_, _, _, _, he, Row.nil _ _, EvD.mk hf rfl, hb⟩
theorem dRead1 (h : DskS w B K v0 v1 σ) (p n : Int) (hp : -9223372036854775808 ≤ p ∧ p ≤ 9223372036854775807) : Calls Tryd.prog 77 #[.pointer (some ⟨K, 0, none⟩), .int .i64 1, .int .i64 p, .int .i64 n] w fun e w' => ∃ a k c ev, e = .returned (.tuple #[.slice a k c, ev]) ∧ Row w' w.heap.size (.slice a k c) (rdX σ 1 p n) ∧ EvD w' w.heap.size ev (rdC σ 1 p n) ∧ Below w.heap.size w w' := by
  have e1 : rdC σ 1 p n = rdC1 σ.x1 σ.dead p n := by simp [rdC]
  have e2 : rdX σ 1 p n = rdX1 σ.x1 σ.dead p n := by simp [rdX]
  rw [e1, e2]
  unfold rdC1 rdX1
  by_cases hh : hasB σ.x1.length p n = true
  · rw [if_pos hh, if_pos hh]
    obtain ⟨i, j, rfl, rfl, hij⟩ := hasB_yes hh
    rw [Int.toNat_natCast, Int.toNat_natCast]
    unfold DskS at h
    cases hd : σ.dead with
    | true =>
      rw [hd] at h
      refine (Read1_dead i j h hij).mono ?_
      rintro e w' ⟨he, hf, hb⟩
      exact ⟨_, _, _, _, he, Row.nil _ _, EvD.mk hf rfl, hb⟩
    | false =>
      rw [hd] at h
      refine (Read1_at i j h hij).mono ?_
      rintro e w' ⟨a, k, c, he, hr, hb⟩
      exact ⟨a, k, c, _, he, hr, EvD.nil _ _, hb⟩
  · rw [if_neg hh, if_neg hh]
    refine (Read1_out p n h (stOf_any _) (by simpa using hh) hp).mono ?_
    rintro e w' ⟨he, hf, hb⟩
    exact ⟨_, _, _, _, he, Row.nil _ _, EvD.mk hf rfl, hb⟩
theorem dRead (h : DskS w B K v0 v1 σ) (ar p n : Int) (hp : -9223372036854775808 ≤ p ∧ p ≤ 9223372036854775807) : Calls Tryd.prog 77 #[.pointer (some ⟨K, 0, none⟩), .int .i64 ar, .int .i64 p, .int .i64 n] w fun e w' => ∃ a k c ev, e = .returned (.tuple #[.slice a k c, ev]) ∧ Row w' w.heap.size (.slice a k c) (rdX σ ar p n) ∧ EvD w' w.heap.size ev (rdC σ ar p n) ∧ Below w.heap.size w w' := by
  by_cases h0 : ar = 0
  · subst h0; exact dRead0 h p n hp
  · by_cases h1 : ar = 1
    · subst h1; exact dRead1 h p n hp
    · unfold rdC rdX
      rw [if_neg h0, if_neg h1, if_neg h0, if_neg h1]
      refine (Read_bad ar p n h (stOf_any _) h0 h1).mono ?_
      rintro e w' ⟨he, hf, hb⟩
      exact ⟨_, _, _, _, he, Row.nil _ _, EvD.mk hf rfl, hb⟩
theorem dSync (h : DskS w B K v0 v1 σ) (ar : Int) : Calls Tryd.prog 52 #[.pointer (some ⟨K, 0, none⟩), .int .i64 ar] w fun e w' => ∃ ev v0' v1', e = .returned ev ∧ EvD w' w.heap.size ev (synC σ ar) ∧ DskS w' B K v0' v1' (synS σ ar) ∧ DStep w w' K v0 v1 v0' v1' := by
  by_cases h0 : ar = 0
  · subst h0; exact dSync0 h
  · by_cases h1 : ar = 1
    · subst h1; exact dSync1 h
    · have e1 : synC σ ar = 2 := by simp [synC, h0, h1]
      have e2 : synS σ ar = σ := by simp [synS, h0, h1]
      rw [e1, e2]
      refine (Sync_bad ar h (stOf_any _) h0 h1).mono ?_
      rintro e w' ⟨he, hf, hbl⟩
      exact ⟨_, v0, v1, he, EvD.mk hf rfl, h.below hbl, DStep.of_below _ _ _ hbl⟩
theorem dCut (h : DskS w B K v0 v1 σ) (ar n : Int) : Calls Tryd.prog 66 #[.pointer (some ⟨K, 0, none⟩), .int .i64 ar, .int .i64 n] w fun e w' => ∃ ev v0' v1', e = .returned ev ∧ EvD w' w.heap.size ev (cutC σ ar n) ∧ DskS w' B K v0' v1' (cutS σ ar n) ∧ DStep w w' K v0 v1 v0' v1' := by
  by_cases h0 : ar = 0
  · subst h0; exact dCut0 h n
  · by_cases h1 : ar = 1
    · subst h1; exact dCut1 h n
    · have e1 : cutC σ ar n = 2 := by simp [cutC, h0, h1]
      have e2 : cutS σ ar n = σ := by simp [cutS, h0, h1]
      rw [e1, e2]
      refine (Cut_bad ar n h (stOf_any _) h0 h1).mono ?_
      rintro e w' ⟨he, hf, hbl⟩
      exact ⟨_, v0, v1, he, EvD.mk hf rfl, h.below hbl, DStep.of_below _ _ _ hbl⟩
end
end Go.Proofs.YtfkcnnjkflomkaaDoor

/-
  The law's 'reads': both disks and the book.
-/
namespace Go.Proofs.YtfkcnnjkflomkaaDoor
open Go.RowKit

/-- Both disks, and a book that knows nothing of them. -/
structure Jt (w : World) (B K R : Nat) (v0 v1 : Value) (v : Nat → Value) (σ : Sg) (Q : Nat) (ρ : Nat → Nat) (vb vw : Value) (es : List Ent) : Prop where
  pr : Pr w B K R v0 v1 v σ
  ok : σ.Ok
  bk : Bk w B Q ρ vb vw es
  ze : ∀ k, (Foot K v0 v1 k ∨ RFoot R v k) → ρ k = 0
  eq : ∀ (i : Nat) (e : Ent), es[i]? = some e → e.old = e.bs ∧ e.bs.length ≤ 70368744177664
  hQ : B ≤ Q
  lo : ∀ k, k < B → ρ k = 0
theorem Jt.below {w w' : World} {B K R : Nat} {v0 v1 : Value} {v : Nat → Value} {σ : Sg} {Q : Nat} {ρ : Nat → Nat} {vb vw : Value} {es : List Ent} (h : Jt w B K R v0 v1 v σ Q ρ vb vw es) (hb : Below w.heap.size w w') : Jt w' B K R v0 v1 v σ Q ρ vb vw es :=
  ⟨h.pr.below hb, h.ok, h.bk.off (Off.of_below (P := fun _ => False) hb) (fun _ p => p.elim), h.ze, h.eq, h.hQ, h.lo⟩
theorem Jt.hB {w : World} {B K R : Nat} {v0 v1 : Value} {v : Nat → Value} {σ : Sg} {Q : Nat} {ρ : Nat → Nat} {vb vw : Value} {es : List Ent} (h : Jt w B K R v0 v1 v σ Q ρ vb vw es) : B ≤ w.heap.size := h.bk.hB
end Go.Proofs.YtfkcnnjkflomkaaDoor

/-
  Both disks: Len and Synced, Fuse, Crash, Alive.
-/
namespace Go.Proofs.YtfkcnnjkflomkaaDoor
open Go.RowKit

def lnV (σ : Sg) (ar : Int) : Int := if ar = 0 then σ.x0.length else if ar = 1 then σ.x1.length else 0
def snV (σ : Sg) (ar : Int) : Int := if ar = 0 then σ.s0 else if ar = 1 then σ.s1 else 0
def lnC (ar : Int) : Int := if ar = 0 ∨ ar = 1 then 0 else 2
def fusS (σ : Sg) (n : Int) : Sg := if σ.dead then σ else { σ with fuse := max n (-1) }
/-- What a crash leaves. -/
def crS (σ : Sg) (tk0 tz0 tk1 tz1 : Int) : Sg :=
  let k0 := (betw tk0 ((σ.x0.length - σ.s0 : Nat) : Int)).toNat
  let z0 := (betw tz0 ((σ.x0.length - σ.s0 - k0 : Nat) : Int)).toNat
  let k1 := (betw tk1 ((σ.x1.length - σ.s1 : Nat) : Int)).toNat
  let z1 := (betw tz1 ((σ.x1.length - σ.s1 - k1 : Nat) : Int)).toNat
  { σ with x0 := torn σ.x0 σ.s0 k0 z0, x1 := torn σ.x1 σ.s1 k1 z1, s0 := (torn σ.x0 σ.s0 k0 z0).length, s1 := (torn σ.x1 σ.s1 k1 z1).length, dead := false, fuse := -1 }
section
variable {w : World} {B K R : Nat} {v0 v1 : Value} {v : Nat → Value} {σ : Sg}
theorem dLen (h : DskS w B K v0 v1 σ) (ar : Int) : Calls Tryd.prog 44 #[.pointer (some ⟨K, 0, none⟩), .int .i64 ar] w fun e w' => ∃ ev, e = .returned (.tuple #[.int .i64 (lnV σ ar), ev]) ∧ EvD w' w.heap.size ev (lnC ar) ∧ Below w.heap.size w w' := by
  by_cases h0 : ar = 0
  · subst h0
    refine (Len0_ok h (stOf_any _)).mono ?_
    rintro e w' ⟨he, rfl⟩
    exact ⟨_, by simpa [lnV] using he, by simpa [lnC] using EvD.nil _ _, Below.refl _ _⟩
  · by_cases h1 : ar = 1
    · subst h1
      refine (Len1_ok h (stOf_any _)).mono ?_
      rintro e w' ⟨he, rfl⟩
      exact ⟨_, by simpa [lnV] using he, by simpa [lnC] using EvD.nil _ _, Below.refl _ _⟩
    · refine (Len_bad ar h (stOf_any _) h0 h1).mono ?_
      rintro e w' ⟨he, hf, hb⟩
      have e1 : lnV σ ar = 0 := by simp [lnV, h0, h1]
      have e2 : lnC ar = 2 := by simp [lnC, h0, h1]
      rw [e1, e2]
      exact ⟨_, he, EvD.mk hf rfl, hb⟩
theorem dSynced (h : DskS w B K v0 v1 σ) (ar : Int) : Calls Tryd.prog 76 #[.pointer (some ⟨K, 0, none⟩), .int .i64 ar] w fun e w' => ∃ ev, e = .returned (.tuple #[.int .i64 (snV σ ar), ev]) ∧ EvD w' w.heap.size ev (lnC ar) ∧ Below w.heap.size w w' := by
  by_cases h0 : ar = 0
  · subst h0
    refine (Synced0_ok h (stOf_any _)).mono ?_
    rintro e w' ⟨he, rfl⟩
    exact ⟨_, by simpa [snV] using he, by simpa [lnC] using EvD.nil _ _, Below.refl _ _⟩
  · by_cases h1 : ar = 1
    · subst h1
      refine (Synced1_ok h (stOf_any _)).mono ?_
      rintro e w' ⟨he, rfl⟩
      exact ⟨_, by simpa [snV] using he, by simpa [lnC] using EvD.nil _ _, Below.refl _ _⟩
    · refine (Synced_bad ar h (stOf_any _) h0 h1).mono ?_
      rintro e w' ⟨he, hf, hb⟩
      have e1 : snV σ ar = 0 := by simp [snV, h0, h1]
      have e2 : lnC ar = 2 := by simp [lnC, h0, h1]
      rw [e1, e2]
      exact ⟨_, he, EvD.mk hf rfl, hb⟩
theorem drewB (w : World) (k : Nat) : Below w.heap.size w (w.drewN k) := ((Off.refl (fun _ => False) w).drewN k).below (Nat.le_refl _) (fun _ p => p.elim)
theorem dFuse (h : DskS w B K v0 v1 σ) (n : Int) (hn : n ≤ 9223372036854775807) : Calls Tryd.prog 18 #[.pointer (some ⟨K, 0, none⟩), .int .i64 n] w fun e w' => e = .returned (.tuple #[]) ∧ DskS w' B K v0 v1 (fusS σ n) ∧ DStep w w' K v0 v1 v0 v1 := by
  unfold fusS
  cases hd : σ.dead with
  | true =>
    have h' := h
    unfold DskS at h'
    rw [hd] at h'
    refine (Fuse_dead n h').mono ?_
    rintro e w' ⟨he, rfl⟩
    exact ⟨he, h, DStep.refl _ _ _ _⟩
  | false =>
    have h' := h
    unfold DskS at h'
    rw [hd] at h'
    refine (Fuse_ok n h' hn).mono ?_
    rintro e w' ⟨he, hk, hs⟩
    refine ⟨he, ?_, hs⟩
    simp only [DskS]
    exact hk
end
end Go.Proofs.YtfkcnnjkflomkaaDoor

/-
  Both disks: Crash.
-/
namespace Go.Proofs.YtfkcnnjkflomkaaDoor
open Go.RowKit

theorem betw_back (n : Int) (m : Nat) : ((betw n (m : Int)).toNat : Int) = betw n (m : Int) := by unfold betw; omega
theorem torn_parts (xs : List Int) (s k z : Nat) : xs.take s ++ (xs.drop s).take k ++ List.replicate z 0 = torn xs s k z := by
  unfold torn; rw [List.take_add]
section
variable {w : World} {B K R : Nat} {v0 v1 : Value} {v : Nat → Value} {σ : Sg}
theorem dCrash (h : DskS w B K v0 v1 σ) (ok : σ.Ok) (tk0 tz0 tk1 tz1 : Int) : Calls Tryd.prog 16 #[.pointer (some ⟨K, 0, none⟩), .agg #[.int .i64 tk0, .int .i64 tz0, .int .i64 tk1, .int .i64 tz1]] w fun e w' => e = .returned (.tuple #[]) ∧ ∃ v0' v1', DskS w' B K v0' v1' (crS σ tk0 tz0 tk1 tz1) ∧ DStep w w' K v0 v1 v0' v1' := by
  have s0 := ok.s0
  have s1 := ok.s1
  obtain ⟨k0, hk0⟩ : ∃ k, (betw tk0 ((σ.x0.length - σ.s0 : Nat) : Int)).toNat = k := ⟨_, rfl⟩
  obtain ⟨k1, hk1⟩ : ∃ k, (betw tk1 ((σ.x1.length - σ.s1 : Nat) : Int)).toNat = k := ⟨_, rfl⟩
  obtain ⟨z0, hz0⟩ : ∃ k, (betw tz0 ((σ.x0.length - σ.s0 - k0 : Nat) : Int)).toNat = k := ⟨_, rfl⟩
  obtain ⟨z1, hz1⟩ : ∃ k, (betw tz1 ((σ.x1.length - σ.s1 - k1 : Nat) : Int)).toNat = k := ⟨_, rfl⟩
  have b0 : betw tk0 ((σ.x0.length : Int) - σ.s0) = (k0 : Int) := by rw [← hk0, betw_back]; congr 1; omega
  have b1 : betw tk1 ((σ.x1.length : Int) - σ.s1) = (k1 : Int) := by rw [← hk1, betw_back]; congr 1; omega
  have l0 : (k0 : Int) ≤ (σ.x0.length : Int) - σ.s0 := by rw [← b0]; unfold betw; omega
  have l1 : (k1 : Int) ≤ (σ.x1.length : Int) - σ.s1 := by rw [← b1]; unfold betw; omega
  have c0 : betw tz0 ((σ.x0.length : Int) - σ.s0 - k0) = (z0 : Int) := by rw [← hz0, betw_back]; congr 1; omega
  have c1 : betw tz1 ((σ.x1.length : Int) - σ.s1 - k1) = (z1 : Int) := by rw [← hz1, betw_back]; congr 1; omega
  refine (Crash_ok h (stOf_any _) b0 c0 b1 c1).mono ?_
  rintro e w' ⟨he, v0', v1', hd, hs⟩
  refine ⟨he, v0', v1', ?_, hs⟩
  simp only [DskS, crS, hk0, hk1, hz0, hz1]
  exact hd
end
end Go.Proofs.YtfkcnnjkflomkaaDoor

/-
  Image, with the two lists apart.
-/
namespace Go.Proofs.YtfkcnnjkflomkaaDoor
open Go.RowKit

end Go.Proofs.YtfkcnnjkflomkaaDoor
