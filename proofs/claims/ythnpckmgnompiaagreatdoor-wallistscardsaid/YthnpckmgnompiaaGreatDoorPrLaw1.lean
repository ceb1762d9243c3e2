import Derived.Test.YthnpckmgnompiaaGreatDoorDkMore3
/-
  The writes of both disks: one number, one new state. (Typed by gen/mkpr.py.)
-/
namespace Go.Proofs.YthnpckmgnompiaaGreatDoor
open Go.RowKit

/-- An error of the program's disk that is just that number. -/
def EvD (w : World) (N : Nat) (ev : Value) (code : Int) : Prop := (ev = .nilIface ∧ code = 0) ∨ (∃ b, ev = .iface 86 (.pointer (some ⟨b, 0, none⟩)) ∧ FaultAt w b 0 code ∧ (code == 0) = false ∧ N ≤ b)
theorem EvD.off {P : Nat → Prop} {w w' : World} {N : Nat} {ev : Value} {c : Int} (h : EvD w N ev c) (o : Off P w w') (hP : ∀ k, N ≤ k → ¬ P k) : EvD w' N ev c := by
  rcases h with h | ⟨b, h1, h2, h3, h4⟩
  · exact Or.inl h
  · exact Or.inr ⟨b, h1, h2.off o (hP b h4), h3, h4⟩
theorem EvD.nil (w : World) (N : Nat) : EvD w N .nilIface 0 := Or.inl ⟨rfl, rfl⟩
theorem EvD.mk {w : World} {N : Nat} {c : Int} (h : FaultAt w N 0 c) (hc : (c == 0) = false) : EvD w N (.iface 86 (.pointer (some ⟨N, 0, none⟩))) c := Or.inr ⟨N, rfl, h, hc, Nat.le_refl _⟩
/-- A write that is done. -/
def Sg.wr (σ : Sg) : Sg := { σ with fuse := leftOn σ.fuse }
def Sg.kill (σ : Sg) : Sg := { σ with dead := true }
def Sg.goes (σ : Sg) : Bool := goesOn σ.dead σ.fuse
def appC (σ : Sg) (ar : Int) (m : Nat) : Int := if ar = 0 then (if 16777216 < σ.x0.length + m then 7 else if σ.goes then 0 else 8) else if ar = 1 then (if 16777216 < σ.x1.length + m then 7 else if σ.goes then 0 else 8) else 2
def appS (σ : Sg) (ar : Int) (bs : List Int) : Sg := if ar = 0 then (if 16777216 < σ.x0.length + bs.length then σ else if σ.goes then { σ.wr with x0 := σ.x0 ++ bs, na := oneMore σ.na } else σ.kill) else if ar = 1 then (if 16777216 < σ.x1.length + bs.length then σ else if σ.goes then { σ.wr with x1 := σ.x1 ++ bs, na := oneMore σ.na } else σ.kill) else σ
def synC (σ : Sg) (ar : Int) : Int := if ar = 0 ∨ ar = 1 then (if σ.goes then 0 else 8) else 2
def synS (σ : Sg) (ar : Int) : Sg := if ar = 0 then (if σ.goes then { σ.wr with s0 := σ.x0.length, ns := oneMore σ.ns } else σ.kill) else if ar = 1 then (if σ.goes then { σ.wr with s1 := σ.x1.length, ns := oneMore σ.ns } else σ.kill) else σ
theorem goes_iff (σ : Sg) : σ.goes = true ↔ σ.dead = false ∧ σ.fuse ≠ 0 := by unfold Sg.goes goesOn; cases σ.dead <;> simp
theorem goes_not (σ : Sg) (h : σ.goes ≠ true) : stOf σ.dead = 2 ∨ σ.fuse = 0 := by
  unfold Sg.goes goesOn at h; cases hd : σ.dead <;> simp [hd] at h ⊢
  · exact Or.inr h
  · exact Or.inl (by simp [stOf])
section
variable {w : World} {B K : Nat} {v0 v1 : Value} {σ : Sg}
abbrev DskS (w : World) (B K : Nat) (v0 v1 : Value) (σ : Sg) : Prop := Dsk w B K v0 v1 σ.x0 σ.x1 σ.s0 σ.s1 (stOf σ.dead) σ.fuse σ.na σ.ns σ.nc
theorem dAppend (h : DskS w B K v0 v1 σ) (ar : Int) {po : Option Addr} {m c : Nat} {bs : List Int} (hb : Byts w po m bs) (hpo : po = none → c = 0) (hfar : ∀ b o, po = some ⟨b, o, none⟩ → ¬ Foot K v0 v1 b) :
    Calls Tryz.prog 54 #[.pointer (some ⟨K, 0, none⟩), .int .i64 ar, .slice po m c] w fun e w' => ∃ ev v0' v1', e = .returned ev ∧ EvD w' w.heap.size ev (appC σ ar m) ∧ DskS w' B K v0' v1' (appS σ ar bs) ∧ DStep w w' K v0 v1 v0' v1' := by
  have hl := hb.len
  unfold appC appS
  rw [hl]
  have hbn := h.bn
  by_cases h0 : ar = 0
  · subst h0
    simp only [if_true]
    by_cases h7 : 16777216 < σ.x0.length + m
    · rw [if_pos h7, if_pos h7]
      refine (Append0_fullN h (stOf_any _) h7).mono ?_
      rintro e w' ⟨he, hf, hbl⟩
      exact ⟨_, v0, v1, he, EvD.mk hf rfl, h.below hbl, DStep.of_below _ _ _ hbl⟩
    · rw [if_neg h7, if_neg h7]
      by_cases hg : σ.goes = true
      · rw [if_pos hg, if_pos hg]
        obtain ⟨hd, hz⟩ := (goes_iff σ).1 hg
        unfold DskS at h ⊢
        rw [hd] at h
        refine (Append0_ok hb hpo hfar h hz (by omega)).mono ?_
        rintro e w' ⟨he, v', hd', hs⟩
        refine ⟨_, v', v1, he, EvD.nil _ _, ?_, hs⟩
        simp only [Sg.wr, hd]
        rw [fz_left, ct_more _ ⟨hbn.2.2.1, hbn.2.2.2.1⟩] at hd'
        exact hd'
      · rw [if_neg hg, if_neg hg]
        refine (Append0_deadN h (stOf_any _) (goes_not σ hg) (by omega)).mono ?_
        rintro e w' ⟨he, hf, hd', hs⟩
        exact ⟨_, v0, v1, he, EvD.mk hf rfl, hd', hs⟩
  · rw [if_neg h0, if_neg h0]
    by_cases h1 : ar = 1
    · subst h1
      simp only [if_true]
      by_cases h7 : 16777216 < σ.x1.length + m
      · rw [if_pos h7, if_pos h7]
        refine (Append1_fullN h (stOf_any _) h7).mono ?_
        rintro e w' ⟨he, hf, hbl⟩
        exact ⟨_, v0, v1, he, EvD.mk hf rfl, h.below hbl, DStep.of_below _ _ _ hbl⟩
      · rw [if_neg h7, if_neg h7]
        by_cases hg : σ.goes = true
        · rw [if_pos hg, if_pos hg]
          obtain ⟨hd, hz⟩ := (goes_iff σ).1 hg
          unfold DskS at h ⊢
          rw [hd] at h
          refine (Append1_ok hb hpo hfar h hz (by omega)).mono ?_
          rintro e w' ⟨he, v', hd', hs⟩
          refine ⟨_, v0, v', he, EvD.nil _ _, ?_, hs⟩
          simp only [Sg.wr, hd]
          rw [fz_left, ct_more _ ⟨hbn.2.2.1, hbn.2.2.2.1⟩] at hd'
          exact hd'
        · rw [if_neg hg, if_neg hg]
          refine (Append1_deadN h (stOf_any _) (goes_not σ hg) (by omega)).mono ?_
          rintro e w' ⟨he, hf, hd', hs⟩
          exact ⟨_, v0, v1, he, EvD.mk hf rfl, hd', hs⟩
    · rw [if_neg h1, if_neg h1]
      refine (Append_bad ar h (stOf_any _) h0 h1).mono ?_
      rintro e w' ⟨he, hf, hbl⟩
      exact ⟨_, v0, v1, he, EvD.mk hf rfl, h.below hbl, DStep.of_below _ _ _ hbl⟩
end

section
variable {w : World} {B K R : Nat} {v0 v1 : Value} {v : Nat → Value} {σ : Sg}
abbrev RkS (w : World) (B R : Nat) (v : Nat → Value) (σ : Sg) : Prop := Rk w B R v (rx σ) σ.dead σ.fuse σ.na σ.ns σ.nc
/-- No more is synced than there is, and there is room. -/
structure Sg.Ok (σ : Sg) : Prop where
  s0 : σ.s0 ≤ σ.x0.length
  s1 : σ.s1 ≤ σ.x1.length
  l0 : σ.x0.length ≤ 16777216
  l1 : σ.x1.length ≤ 16777216
theorem rx_sum0 (σ : Sg) : (rx σ 0).length + (rx σ 1).length = σ.x0.length := by simp only [rx, if_true, if_neg (show ¬ (1 : Nat) = 0 by decide)]; rw [List.length_take, List.length_drop]; omega
theorem rx_sum1 (σ : Sg) : (rx σ 2).length + (rx σ 3).length = σ.x1.length := by simp [rx]; omega
theorem rx_put0 (σ τ : Sg) (h0 : rx τ 0 = rx σ 0) (y : List Int) (h1 : rx τ 1 = y) (h2 : τ.x1 = σ.x1) (h3 : τ.s1 = σ.s1) : ∀ q, q < 4 → upd (rx σ) 1 y q = rx τ q := fun q hq => by
  match q, hq with
  | 0, _ => simp [upd, h0]
  | 1, _ => simp [upd, h1]
  | 2, _ => simp [upd, rx, h2, h3]
  | 3, _ => simp [upd, rx, h2, h3]
theorem rx_put1 (σ τ : Sg) (h0 : rx τ 2 = rx σ 2) (y : List Int) (h1 : rx τ 3 = y) (h2 : τ.x0 = σ.x0) (h3 : τ.s0 = σ.s0) : ∀ q, q < 4 → upd (rx σ) 3 y q = rx τ q := fun q hq => by
  match q, hq with
  | 0, _ => simp [upd, rx, h2, h3]
  | 1, _ => simp [upd, rx, h2, h3]
  | 2, _ => simp [upd, h0]
  | 3, _ => simp [upd, h1]
theorem rx_both0 (σ τ : Sg) (y z : List Int) (h0 : rx τ 0 = y) (h1 : rx τ 1 = z) (h2 : τ.x1 = σ.x1) (h3 : τ.s1 = σ.s1) : ∀ q, q < 4 → upd (upd (rx σ) 0 y) 1 z q = rx τ q := fun q hq => by
  match q, hq with
  | 0, _ => simp [upd, h0]
  | 1, _ => simp [upd, h1]
  | 2, _ => simp [upd, rx, h2, h3]
  | 3, _ => simp [upd, rx, h2, h3]
theorem rx_both1 (σ τ : Sg) (y z : List Int) (h0 : rx τ 2 = y) (h1 : rx τ 3 = z) (h2 : τ.x0 = σ.x0) (h3 : τ.s0 = σ.s0) : ∀ q, q < 4 → upd (upd (rx σ) 2 y) 3 z q = rx τ q := fun q hq => by
  match q, hq with
  | 0, _ => simp [upd, rx, h2, h3]
  | 1, _ => simp [upd, rx, h2, h3]
  | 2, _ => simp [upd, h0]
  | 3, _ => simp [upd, h1]
theorem rx_kill (σ : Sg) : rx σ.kill = rx σ := rfl
theorem rkS_drew {τ : Sg} (h : RkS w B R v τ) {w' : World} (hw : ∃ k, w' = w.drewN k) : RkS w' B R v τ ∧ RStep w w' R v v := by
  obtain ⟨k, rfl⟩ := hw
  exact ⟨h.drewN k, RStep.drewN _ _ _ _⟩
end
end Go.Proofs.YthnpckmgnompiaaGreatDoor

/-
  Sync and Cut of both disks: one number, one new state. (Typed by gen/mkpr2.py.)
-/
namespace Go.Proofs.YthnpckmgnompiaaGreatDoor
open Go.RowKit

def cutC (σ : Sg) (ar n : Int) : Int := if ar = 0 then (if n < 0 ∨ (σ.x0.length : Int) < n then 2 else if σ.goes then 0 else 8) else if ar = 1 then (if n < 0 ∨ (σ.x1.length : Int) < n then 2 else if σ.goes then 0 else 8) else 2
def cutS (σ : Sg) (ar n : Int) : Sg := if ar = 0 then (if n < 0 ∨ (σ.x0.length : Int) < n then σ else if σ.goes then { σ.wr with x0 := σ.x0.take n.toNat, s0 := min σ.s0 n.toNat, nc := oneMore σ.nc } else σ.kill) else if ar = 1 then (if n < 0 ∨ (σ.x1.length : Int) < n then σ else if σ.goes then { σ.wr with x1 := σ.x1.take n.toNat, s1 := min σ.s1 n.toNat, nc := oneMore σ.nc } else σ.kill) else σ
section
variable {w : World} {B K R : Nat} {v0 v1 : Value} {v : Nat → Value} {σ : Sg}
theorem dSync0 (h : DskS w B K v0 v1 σ) : Calls Tryz.prog 58 #[.pointer (some ⟨K, 0, none⟩), .int .i64 0] w fun e w' => ∃ ev v0' v1', e = .returned ev ∧ EvD w' w.heap.size ev (synC σ 0) ∧ DskS w' B K v0' v1' (synS σ 0) ∧ DStep w w' K v0 v1 v0' v1' := by
  have hbn := h.bn
  have e1 : synC σ 0 = if σ.goes then 0 else 8 := by simp [synC]
  have e2 : synS σ 0 = if σ.goes then { σ.wr with s0 := σ.x0.length, ns := oneMore σ.ns } else σ.kill := by simp [synS]
  rw [e1, e2]
  by_cases hg : σ.goes = true
  · rw [if_pos hg, if_pos hg]
    obtain ⟨hd, hz⟩ := (goes_iff σ).1 hg
    unfold DskS at h ⊢
    rw [hd] at h
    refine (Sync0_ok h hz).mono ?_
    rintro e w' ⟨he, hd', hs⟩
    refine ⟨_, v0, v1, he, EvD.nil _ _, ?_, hs⟩
    simp only [Sg.wr, hd]
    rw [fz_left, ct_more _ ⟨hbn.2.2.2.2.1, hbn.2.2.2.2.2.1⟩] at hd'
    exact hd'
  · rw [if_neg hg, if_neg hg]
    refine (Sync0_deadN h (stOf_any _) (goes_not σ hg)).mono ?_
    rintro e w' ⟨he, hf, hd', hs⟩
    exact ⟨_, v0, v1, he, EvD.mk hf rfl, hd', hs⟩
theorem dCut0 (h : DskS w B K v0 v1 σ) (n : Int) : Calls Tryz.prog 52 #[.pointer (some ⟨K, 0, none⟩), .int .i64 0, .int .i64 n] w fun e w' => ∃ ev v0' v1', e = .returned ev ∧ EvD w' w.heap.size ev (cutC σ 0 n) ∧ DskS w' B K v0' v1' (cutS σ 0 n) ∧ DStep w w' K v0 v1 v0' v1' := by
  have hbn := h.bn
  have e1 : cutC σ 0 n = if n < 0 ∨ (σ.x0.length : Int) < n then 2 else if σ.goes then 0 else 8 := by simp [cutC]
  have e2 : cutS σ 0 n = if n < 0 ∨ (σ.x0.length : Int) < n then σ else if σ.goes then { σ.wr with x0 := σ.x0.take n.toNat, s0 := min σ.s0 n.toNat, nc := oneMore σ.nc } else σ.kill := by simp [cutS]
  rw [e1, e2]
  by_cases ho : n < 0 ∨ (σ.x0.length : Int) < n
  · rw [if_pos ho, if_pos ho]
    refine (Cut0_outN h (stOf_any _) ho).mono ?_
    rintro e w' ⟨he, hf, hbl⟩
    exact ⟨_, v0, v1, he, EvD.mk hf rfl, h.below hbl, DStep.of_below _ _ _ hbl⟩
  · rw [if_neg ho, if_neg ho]
    by_cases hg : σ.goes = true
    · rw [if_pos hg, if_pos hg]
      obtain ⟨hd, hz⟩ := (goes_iff σ).1 hg
      unfold DskS at h ⊢
      rw [hd] at h
      refine (Cut0_ok n.toNat h hz (by omega) (by omega)).mono ?_
      rintro e w' ⟨he, v', hd', hs⟩
      refine ⟨_, v', v1, he, EvD.nil _ _, ?_, hs⟩
      simp only [Sg.wr, hd]
      rw [fz_left, ct_more _ ⟨hbn.2.2.2.2.2.2.1, hbn.2.2.2.2.2.2.2⟩] at hd'
      exact hd'
    · rw [if_neg hg, if_neg hg]
      refine (Cut0_deadN h (stOf_any _) (goes_not σ hg) (by omega)).mono ?_
      rintro e w' ⟨he, hf, hd', hs⟩
      exact ⟨_, v0, v1, he, EvD.mk hf rfl, hd', hs⟩
theorem dSync1 (h : DskS w B K v0 v1 σ) : Calls Tryz.prog 58 #[.pointer (some ⟨K, 0, none⟩), .int .i64 1] w fun e w' => ∃ ev v0' v1', e = .returned ev ∧ EvD w' w.heap.size ev (synC σ 1) ∧ DskS w' B K v0' v1' (synS σ 1) ∧ DStep w w' K v0 v1 v0' v1' := by
  have hbn := h.bn
  have e1 : synC σ 1 = if σ.goes then 0 else 8 := by simp [synC]
  have e2 : synS σ 1 = if σ.goes then { σ.wr with s1 := σ.x1.length, ns := oneMore σ.ns } else σ.kill := by simp [synS]
  rw [e1, e2]
  by_cases hg : σ.goes = true
  · rw [if_pos hg, if_pos hg]
    obtain ⟨hd, hz⟩ := (goes_iff σ).1 hg
    unfold DskS at h ⊢
    rw [hd] at h
    refine (Sync1_ok h hz).mono ?_
    rintro e w' ⟨he, hd', hs⟩
    refine ⟨_, v0, v1, he, EvD.nil _ _, ?_, hs⟩
    simp only [Sg.wr, hd]
    rw [fz_left, ct_more _ ⟨hbn.2.2.2.2.1, hbn.2.2.2.2.2.1⟩] at hd'
    exact hd'
  · rw [if_neg hg, if_neg hg]
    refine (Sync1_deadN h (stOf_any _) (goes_not σ hg)).mono ?_
    rintro e w' ⟨he, hf, hd', hs⟩
    exact ⟨_, v0, v1, he, EvD.mk hf rfl, hd', hs⟩
theorem dCut1 (h : DskS w B K v0 v1 σ) (n : Int) : Calls Tryz.prog 52 #[.pointer (some ⟨K, 0, none⟩), .int .i64 1, .int .i64 n] w fun e w' => ∃ ev v0' v1', e = .returned ev ∧ EvD w' w.heap.size ev (cutC σ 1 n) ∧ DskS w' B K v0' v1' (cutS σ 1 n) ∧ DStep w w' K v0 v1 v0' v1' := by
  have hbn := h.bn
  have e1 : cutC σ 1 n = if n < 0 ∨ (σ.x1.length : Int) < n then 2 else if σ.goes then 0 else 8 := by simp [cutC]
  have e2 : cutS σ 1 n = if n < 0 ∨ (σ.x1.length : Int) < n then σ else if σ.goes then { σ.wr with x1 := σ.x1.take n.toNat, s1 := min σ.s1 n.toNat, nc := oneMore σ.nc } else σ.kill := by simp [cutS]
  rw [e1, e2]
  by_cases ho : n < 0 ∨ (σ.x1.length : Int) < n
  · rw [if_pos ho, if_pos ho]
    refine (Cut1_outN h (stOf_any _) ho).mono ?_
    rintro e w' ⟨he, hf, hbl⟩
    exact ⟨_, v0, v1, he, EvD.mk hf rfl, h.below hbl, DStep.of_below _ _ _ hbl⟩
  · rw [if_neg ho, if_neg ho]
    by_cases hg : σ.goes = true
    · rw [if_pos hg, if_pos hg]
      obtain ⟨hd, hz⟩ := (goes_iff σ).1 hg
      unfold DskS at h ⊢
      rw [hd] at h
      refine (Cut1_ok n.toNat h hz (by omega) (by omega)).mono ?_
      rintro e w' ⟨he, v', hd', hs⟩
      refine ⟨_, v0, v', he, EvD.nil _ _, ?_, hs⟩
      simp only [Sg.wr, hd]
      rw [fz_left, ct_more _ ⟨hbn.2.2.2.2.2.2.1, hbn.2.2.2.2.2.2.2⟩] at hd'
      exact hd'
    · rw [if_neg hg, if_neg hg]
      refine (Cut1_deadN h (stOf_any _) (goes_not σ hg) (by omega)).mono ?_
      rintro e w' ⟨he, hf, hd', hs⟩
      exact ⟨_, v0, v1, he, EvD.mk hf rfl, hd', hs⟩
end
end Go.Proofs.YthnpckmgnompiaaGreatDoor

/-
  The law's 'refused', 'appends'.
-/
namespace Go.Proofs.YthnpckmgnompiaaGreatDoor
open Go.RowKit

theorem appS_ok {σ : Sg} (ok : σ.Ok) (ar : Int) (bs : List Int) : (appS σ ar bs).Ok := by
  unfold appS
  split
  · split
    · exact ok
    · split
      · exact ⟨by simp [Sg.wr]; have := ok.s0; omega, ok.s1, by simp; omega, ok.l1⟩
      · exact ⟨ok.s0, ok.s1, ok.l0, ok.l1⟩
  · split
    · split
      · exact ok
      · split
        · exact ⟨ok.s0, by simp [Sg.wr]; have := ok.s1; omega, ok.l0, by simp; omega⟩
        · exact ⟨ok.s0, ok.s1, ok.l0, ok.l1⟩
    · exact ok
theorem PStep.of_below {a b : World} (K R : Nat) (v0 v1 : Value) (v : Nat → Value) (h : Below a.heap.size a b) : PStep a b K R v0 v1 v v0 v1 v := ⟨Off.of_below h, fun _ _ g => g⟩
theorem Pr.below {w w1 : World} {B K R : Nat} {v0 v1 : Value} {v : Nat → Value} {σ : Sg} (h : Pr w B K R v0 v1 v σ) (hb : Below w.heap.size w w1) : Pr w1 B K R v0 v1 v σ := h.off (Off.of_below (P := fun _ => False) hb) (fun _ _ => id)
theorem Pr.foot_lt {w : World} {B K R : Nat} {v0 v1 : Value} {v : Nat → Value} {σ : Sg} (h : Pr w B K R v0 v1 v σ) {k : Nat} (hk : Foot K v0 v1 k ∨ RFoot R v k) : k < w.heap.size := by
  rcases hk with hk | hk
  · exact (h.d.foot_lt hk).2
  · exact (h.r.foot_lt hk).2
end Go.Proofs.YthnpckmgnompiaaGreatDoor
