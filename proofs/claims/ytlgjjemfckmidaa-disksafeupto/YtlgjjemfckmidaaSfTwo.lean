import Derived.Test.YtlgjjemfckmidaaDkDoes
import Derived.Test.YtlgjjemfckmidaaDkImage2
import Derived.Test.YtlgjjemfckmidaaPrPlays
/-
  The law's 'does', whatever the call: on the program's disk, told in one state.
-/
namespace Go.Proofs.Ytlgjjemfckmidaa
open Go.RowKit Go.BigFrame

def doS (σ : Sg) (y : Opv) : Sg := if y.kd = 1 then appS σ y.ar y.bs else if y.kd = 2 then synS σ y.ar else if y.kd = 3 then cutS σ y.ar y.n else if y.kd = 7 then crS σ y.t0 y.t1 y.t2 y.t3 else σ
def doB (σ : Sg) (y : Opv) : Bool := if y.kd = 1 then appC σ y.ar y.pl == 0 else if y.kd = 2 then synC σ y.ar == 0 else if y.kd = 3 then cutC σ y.ar y.n == 0 else false
def DoQ (w : World) (B K : Nat) (v0 v1 : Value) (σ : Sg) (w' : World) : Prop := ∃ v0' v1', DskS w' B K v0' v1' σ ∧ DStep w w' K v0 v1 v0' v1'
theorem DoQ.drewN {w : World} {B K : Nat} {v0 v1 : Value} {σ : Sg} {w' : World} (h : DoQ w B K v0 v1 σ w') (m : Nat) : DoQ w B K v0 v1 σ (w'.drewN m) := by
  obtain ⟨a, b, d, s⟩ := h
  have o : Off (fun _ => False) w' (w'.drewN m) := (Off.refl _ _).drewN m
  exact ⟨a, b, d.off o (fun _ _ => id), s.trans ⟨o.mono (fun _ f => f.elim), fun _ _ g => g⟩⟩
theorem evd_ok {w : World} {N : Nat} {ev : Value} {c : Int} (h : EvD w N ev c) (hc : c = 0) : ev = .nilIface := by
  rcases h with h | ⟨b, _, _, h3, _⟩
  · exact h.1
  · subst hc; simp at h3
theorem evd_no {w : World} {N : Nat} {ev : Value} {c : Int} (h : EvD w N ev c) (hc : c ≠ 0) : ∃ b, ev = .iface 113 (.pointer (some ⟨b, 0, none⟩)) := by
  rcases h with h | ⟨b, h1, _⟩
  · exact absurd h.2 hc
  · exact ⟨b, h1⟩
section
variable {w : World} {B K : Nat} {v0 v1 : Value} {σ : Sg}
theorem does_1 (h : DskS w B K v0 v1 σ) (x : Opv) (hk : x.kd = 1) (hb : Byts w x.po x.pl x.bs) (hpo : x.po = none → x.pc = 0) (hl : x.pl ≤ 140737488355328) :
    Calls Try.prog 11 #[.pointer (some ⟨K, 0, none⟩), .agg #[.int .i64 x.kd, .int .i64 x.ar, .int .i64 x.at_, .int .i64 x.n, .slice x.po x.pl x.pc, .int .i64 x.t0, .int .i64 x.t1, .int .i64 x.t2, .int .i64 x.t3]] w fun e w' => e = .returned (.bool (doB σ x)) ∧ DoQ w B K v0 v1 (doS σ x) w' := by
  have e1 : doB σ x = (appC σ x.ar x.pl == 0) := by simp [doB, hk]
  have e2 : doS σ x = appS σ x.ar x.bs := by simp [doS, hk]
  rw [e1, e2]
  have key : ∀ a n c w1, Row w1 (w.heap.size + 1) (.slice a n c) x.bs → Below w.heap.size w w1 → Calls Try.prog 21 #[.pointer (some ⟨K, 0, none⟩), .int .i64 x.ar, .slice a n c] w1 fun e w' => ∃ ev, e = .returned ev ∧ EvD w' w1.heap.size ev (appC σ x.ar x.pl) ∧ DoQ w B K v0 v1 (appS σ x.ar x.bs) w' := fun a n c w1 hr hbw => by
    have hd1 : DskS w1 B K v0 v1 σ := h.off (Off.of_below (P := fun _ => False) hbw) (fun _ _ => id)
    obtain ⟨_, hby, hno, hfa⟩ := hr.byts'
    refine (dAppend hd1 x.ar hby hno (fun b o e hf => by have := (h.foot_lt hf).2; have := hfa b o e; omega)).mono ?_
    rintro e w' ⟨ev, a0, a1, he, hev, hd, hs⟩
    have hn : n = x.pl := by have := hby.len; have := hb.len; omega
    rw [hn] at hev
    exact ⟨ev, he, hev, a0, a1, hd, (DStep.of_below K v0 v1 hbw).trans hs⟩
  by_cases hc : appC σ x.ar x.pl = 0
  · rw [hc]
    refine (does_append_ok (Q := DoQ w B K v0 v1 (appS σ x.ar x.bs)) hk hb hpo hl (fun a n c w1 hr hbw => (key a n c w1 hr hbw).mono ?_)).mono ?_
    · rintro e w' ⟨ev, he, hev, hq⟩
      exact ⟨by rw [he, evd_ok hev hc], hq⟩
    · rintro e w' ⟨he, w2, m, hq, rfl⟩
      exact ⟨he, hq.drewN m⟩
  · have e3 : (appC σ x.ar x.pl == 0) = false := by simpa using hc
    rw [e3]
    refine (does_append_no (Q := DoQ w B K v0 v1 (appS σ x.ar x.bs)) hk hb hpo hl (fun a n c w1 hr hbw => (key a n c w1 hr hbw).mono ?_)).mono ?_
    · rintro e w' ⟨ev, he, hev, hq⟩
      obtain ⟨b, rfl⟩ := evd_no hev hc
      exact ⟨⟨b, he⟩, hq⟩
    · rintro e w' ⟨he, w2, m, hq, rfl⟩
      exact ⟨he, hq.drewN m⟩
theorem does_2 (h : DskS w B K v0 v1 σ) (x : Opv) (hk : x.kd = 2) :
    Calls Try.prog 11 #[.pointer (some ⟨K, 0, none⟩), .agg #[.int .i64 x.kd, .int .i64 x.ar, .int .i64 x.at_, .int .i64 x.n, .slice x.po x.pl x.pc, .int .i64 x.t0, .int .i64 x.t1, .int .i64 x.t2, .int .i64 x.t3]] w fun e w' => e = .returned (.bool (doB σ x)) ∧ DoQ w B K v0 v1 (doS σ x) w' := by
  have e1 : doB σ x = (synC σ x.ar == 0) := by simp [doB, hk]
  have e2 : doS σ x = synS σ x.ar := by simp [doS, hk]
  rw [e1, e2]
  have key : ∀ w1, Below w.heap.size w w1 → Calls Try.prog 22 #[.pointer (some ⟨K, 0, none⟩), .int .i64 x.ar] w1 fun e w' => ∃ ev, e = .returned ev ∧ EvD w' w1.heap.size ev (synC σ x.ar) ∧ DoQ w B K v0 v1 (synS σ x.ar) w' := fun w1 hbw => by
    have hd1 : DskS w1 B K v0 v1 σ := h.off (Off.of_below (P := fun _ => False) hbw) (fun _ _ => id)
    refine (dSync hd1 x.ar).mono ?_
    rintro e w' ⟨ev, a0, a1, he, hev, hd, hs⟩
    exact ⟨ev, he, hev, a0, a1, hd, (DStep.of_below K v0 v1 hbw).trans hs⟩
  by_cases hc : synC σ x.ar = 0
  · rw [hc]
    refine (does_sync_ok (Q := DoQ w B K v0 v1 (synS σ x.ar)) hk (fun w1 hbw => (key w1 hbw).mono ?_)).mono ?_
    · rintro e w' ⟨ev, he, hev, hq⟩
      exact ⟨by rw [he, evd_ok hev hc], hq⟩
    · rintro e w' ⟨he, w2, m, hq, rfl⟩
      exact ⟨he, hq.drewN m⟩
  · have e3 : (synC σ x.ar == 0) = false := by simpa using hc
    rw [e3]
    refine (does_sync_no (Q := DoQ w B K v0 v1 (synS σ x.ar)) hk (fun w1 hbw => (key w1 hbw).mono ?_)).mono ?_
    · rintro e w' ⟨ev, he, hev, hq⟩
      obtain ⟨b, rfl⟩ := evd_no hev hc
      exact ⟨⟨b, he⟩, hq⟩
    · rintro e w' ⟨he, w2, m, hq, rfl⟩
      exact ⟨he, hq.drewN m⟩
theorem does_3 (h : DskS w B K v0 v1 σ) (x : Opv) (hk : x.kd = 3) :
    Calls Try.prog 11 #[.pointer (some ⟨K, 0, none⟩), .agg #[.int .i64 x.kd, .int .i64 x.ar, .int .i64 x.at_, .int .i64 x.n, .slice x.po x.pl x.pc, .int .i64 x.t0, .int .i64 x.t1, .int .i64 x.t2, .int .i64 x.t3]] w fun e w' => e = .returned (.bool (doB σ x)) ∧ DoQ w B K v0 v1 (doS σ x) w' := by
  have e1 : doB σ x = (cutC σ x.ar x.n == 0) := by simp [doB, hk]
  have e2 : doS σ x = cutS σ x.ar x.n := by simp [doS, hk]
  rw [e1, e2]
  have key : ∀ w1, Below w.heap.size w w1 → Calls Try.prog 26 #[.pointer (some ⟨K, 0, none⟩), .int .i64 x.ar, .int .i64 x.n] w1 fun e w' => ∃ ev, e = .returned ev ∧ EvD w' w1.heap.size ev (cutC σ x.ar x.n) ∧ DoQ w B K v0 v1 (cutS σ x.ar x.n) w' := fun w1 hbw => by
    have hd1 : DskS w1 B K v0 v1 σ := h.off (Off.of_below (P := fun _ => False) hbw) (fun _ _ => id)
    refine (dCut hd1 x.ar x.n).mono ?_
    rintro e w' ⟨ev, a0, a1, he, hev, hd, hs⟩
    exact ⟨ev, he, hev, a0, a1, hd, (DStep.of_below K v0 v1 hbw).trans hs⟩
  by_cases hc : cutC σ x.ar x.n = 0
  · rw [hc]
    refine (does_cut_ok (Q := DoQ w B K v0 v1 (cutS σ x.ar x.n)) hk (fun w1 hbw => (key w1 hbw).mono ?_)).mono ?_
    · rintro e w' ⟨ev, he, hev, hq⟩
      exact ⟨by rw [he, evd_ok hev hc], hq⟩
    · rintro e w' ⟨he, w2, m, hq, rfl⟩
      exact ⟨he, hq.drewN m⟩
  · have e3 : (cutC σ x.ar x.n == 0) = false := by simpa using hc
    rw [e3]
    refine (does_cut_no (Q := DoQ w B K v0 v1 (cutS σ x.ar x.n)) hk (fun w1 hbw => (key w1 hbw).mono ?_)).mono ?_
    · rintro e w' ⟨ev, he, hev, hq⟩
      obtain ⟨b, rfl⟩ := evd_no hev hc
      exact ⟨⟨b, he⟩, hq⟩
    · rintro e w' ⟨he, w2, m, hq, rfl⟩
      exact ⟨he, hq.drewN m⟩
set_option maxRecDepth 100000 in
set_option maxHeartbeats 4000000 in
theorem does_7 (h : DskS w B K v0 v1 σ) (ok : σ.Ok) (x : Opv) (hk : x.kd = 7) :
    Calls Try.prog 11 #[.pointer (some ⟨K, 0, none⟩), .agg #[.int .i64 x.kd, .int .i64 x.ar, .int .i64 x.at_, .int .i64 x.n, .slice x.po x.pl x.pc, .int .i64 x.t0, .int .i64 x.t1, .int .i64 x.t2, .int .i64 x.t3]] w fun e w' => e = .returned (.bool (doB σ x)) ∧ DoQ w B K v0 v1 (doS σ x) w' := by
  have e1 : doB σ x = false := by simp [doB, hk]
  have e2 : doS σ x = crS σ x.t0 x.t1 x.t2 x.t3 := by simp [doS, hk]
  rw [e1, e2]
  have HQ : Hid (∀ w1, Below w.heap.size w w1 → Calls Try.prog 23 #[.pointer (some ⟨K, 0, none⟩), .agg #[.int .i64 x.t0, .int .i64 x.t1, .int .i64 x.t2, .int .i64 x.t3]] w1 fun e w' => e = .returned (.tuple #[]) ∧ Hid (DoQ w B K v0 v1 (crS σ x.t0 x.t1 x.t2 x.t3) w')) := fun w1 hbw => by
    have hd1 : DskS w1 B K v0 v1 σ := h.off (Off.of_below (P := fun _ => False) hbw) (fun _ _ => id)
    refine (dCrash hd1 ok x.t0 x.t1 x.t2 x.t3).mono ?_
    rintro e w' ⟨he, a0, a1, hd, hs⟩
    exact ⟨he, a0, a1, hd, (DStep.of_below K v0 v1 hbw).trans hs⟩
  clear h ok e1 e2
  go_enter Try.func11, Try.ntmps11
  go_wp2_with fail
  refine (HQ.out _ ((Below.refl _ _).alloc (Nat.le_refl _) _)).mono ?_
  rintro e w2 ⟨rfl, HR⟩
  go_wp2_with fail
  go_ret
  exact ⟨rfl, HR.out⟩
set_option maxRecDepth 100000 in
set_option maxHeartbeats 4000000 in
theorem does_else (h : DskS w B K v0 v1 σ) (x : Opv) (h1 : x.kd ≠ 1) (h2 : x.kd ≠ 2) (h3 : x.kd ≠ 3) (h7 : x.kd ≠ 7) :
    Calls Try.prog 11 #[.pointer (some ⟨K, 0, none⟩), .agg #[.int .i64 x.kd, .int .i64 x.ar, .int .i64 x.at_, .int .i64 x.n, .slice x.po x.pl x.pc, .int .i64 x.t0, .int .i64 x.t1, .int .i64 x.t2, .int .i64 x.t3]] w fun e w' => e = .returned (.bool (doB σ x)) ∧ DoQ w B K v0 v1 (doS σ x) w' := by
  have e1 : doB σ x = false := by simp [doB, h1, h2, h3]
  have e2 : doS σ x = σ := by simp [doS, h1, h2, h3, h7]
  rw [e1, e2]
  have HQ : Hid (∀ w1, Below w.heap.size w w1 → DoQ w B K v0 v1 σ w1) := fun w1 hbw => ⟨v0, v1, h.off (Off.of_below (P := fun _ => False) hbw) (fun _ _ => id), DStep.of_below K v0 v1 hbw⟩
  clear h e1 e2
  go_enter Try.func11, Try.ntmps11
  go_wp2_with fail
  go_ret
  exact ⟨rfl, HQ.out _ ((Below.refl _ _).alloc (Nat.le_refl _) _)⟩
end
theorem does_sg {w : World} {B K : Nat} {v0 v1 : Value} {σ : Sg} (h : DskS w B K v0 v1 σ) (ok : σ.Ok) (x : Opv) (hb : Byts w x.po x.pl x.bs) (hpo : x.po = none → x.pc = 0) (hl : x.pl ≤ 140737488355328) :
    Calls Try.prog 11 #[.pointer (some ⟨K, 0, none⟩), .agg #[.int .i64 x.kd, .int .i64 x.ar, .int .i64 x.at_, .int .i64 x.n, .slice x.po x.pl x.pc, .int .i64 x.t0, .int .i64 x.t1, .int .i64 x.t2, .int .i64 x.t3]] w fun e w' => e = .returned (.bool (doB σ x)) ∧ DoQ w B K v0 v1 (doS σ x) w' := by
  by_cases h1 : x.kd = 1
  · exact does_1 h x h1 hb hpo hl
  by_cases h2 : x.kd = 2
  · exact does_2 h x h2
  by_cases h3 : x.kd = 3
  · exact does_3 h x h3
  by_cases h7 : x.kd = 7
  · exact does_7 h ok x h7
  · exact does_else h x h1 h2 h3 h7
end Go.Proofs.Ytlgjjemfckmidaa

/-
  What a call leaves of the two areas' bytes and of what is synced.
-/
namespace Go.Proofs.Ytlgjjemfckmidaa

theorem doS_ok {σ : Sg} (ok : σ.Ok) (y : Opv) : (doS σ y).Ok := by
  unfold doS
  by_cases h1 : y.kd = 1
  · rw [if_pos h1]; exact appS_ok ok _ _
  · rw [if_neg h1]
    by_cases h2 : y.kd = 2
    · rw [if_pos h2]; exact synS_ok ok _
    · rw [if_neg h2]
      by_cases h3 : y.kd = 3
      · rw [if_pos h3]; exact cutS_ok ok _ _
      · rw [if_neg h3]
        by_cases h7 : y.kd = 7
        · rw [if_pos h7]; exact crS_ok ok _ _ _ _
        · rw [if_neg h7]; exact ok
/-- The four things that the law knows of. -/
def Alike (σ τ : Sg) : Prop := τ.x0 = σ.x0 ∧ τ.x1 = σ.x1 ∧ τ.s0 = σ.s0 ∧ τ.s1 = σ.s1
theorem alike_kill (σ : Sg) : Alike σ σ.kill := ⟨rfl, rfl, rfl, rfl⟩
theorem alike_refl (σ : Sg) : Alike σ σ := ⟨rfl, rfl, rfl, rfl⟩
set_option linter.unusedSimpArgs false in
theorem do_no {σ : Sg} {y : Opv} (h7 : y.kd ≠ 7) (hp : y.pl = y.bs.length) (hb : doB σ y = false) : Alike σ (doS σ y) := by
  unfold doB at hb
  unfold doS
  by_cases h1 : y.kd = 1
  · rw [if_pos h1] at hb ⊢
    unfold appC at hb
    unfold appS
    rw [hp] at hb
    split at hb <;> split at hb <;> (try split at hb) <;> simp_all [alike_kill, alike_refl] <;> (split <;> first | exact alike_refl _ | exact alike_kill _)
  · rw [if_neg h1] at hb ⊢
    by_cases h2 : y.kd = 2
    · rw [if_pos h2] at hb ⊢
      unfold synC at hb
      unfold synS
      by_cases a0 : y.ar = 0
      · rw [if_pos (Or.inl a0)] at hb
        rw [if_pos a0]
        split at hb <;> simp_all [alike_kill, alike_refl] <;> (split <;> first | exact alike_refl _ | exact alike_kill _)
      · by_cases a1 : y.ar = 1
        · rw [if_pos (Or.inr a1)] at hb
          rw [if_neg a0, if_pos a1]
          split at hb <;> simp_all [alike_kill, alike_refl] <;> (split <;> first | exact alike_refl _ | exact alike_kill _)
        · rw [if_neg a0, if_neg a1]; exact alike_refl _
    · rw [if_neg h2] at hb ⊢
      by_cases h3 : y.kd = 3
      · rw [if_pos h3] at hb ⊢
        unfold cutC at hb
        unfold cutS
        split at hb <;> split at hb <;> (try split at hb) <;> simp_all [alike_kill, alike_refl] <;> (split <;> first | exact alike_refl _ | exact alike_kill _)
      · rw [if_neg h3, if_neg h7]; exact alike_refl _
theorem do_app0 {σ : Sg} {y : Opv} (hk : y.kd = 1) (ha : y.ar = 0) (hp : y.pl = y.bs.length) (hb : doB σ y = true) : (doS σ y).x0 = σ.x0 ++ y.bs ∧ (doS σ y).x1 = σ.x1 ∧ (doS σ y).s0 = σ.s0 ∧ (doS σ y).s1 = σ.s1 ∧ σ.x0.length + y.pl ≤ 16777216 := by
  simp only [doB, doS, hk, if_true, appC, appS, ha, hp] at hb ⊢
  by_cases h : 16777216 < σ.x0.length + y.bs.length
  · rw [if_pos h] at hb; simp at hb
  · rw [if_neg h] at hb ⊢
    by_cases g : σ.goes = true
    · rw [if_pos g]; exact ⟨rfl, rfl, rfl, rfl, by omega⟩
    · rw [if_neg g] at hb; simp at hb
theorem do_app1 {σ : Sg} {y : Opv} (hk : y.kd = 1) (ha : y.ar = 1) (hp : y.pl = y.bs.length) (hb : doB σ y = true) : (doS σ y).x1 = σ.x1 ++ y.bs ∧ (doS σ y).x0 = σ.x0 ∧ (doS σ y).s0 = σ.s0 ∧ (doS σ y).s1 = σ.s1 ∧ σ.x1.length + y.pl ≤ 16777216 := by
  have h10 : ¬ (1 : Int) = 0 := by decide
  simp only [doB, doS, hk, if_true, appC, appS, ha, hp, if_neg h10] at hb ⊢
  by_cases h : 16777216 < σ.x1.length + y.bs.length
  · rw [if_pos h] at hb; simp at hb
  · rw [if_neg h] at hb ⊢
    by_cases g : σ.goes = true
    · rw [if_pos g]; exact ⟨rfl, rfl, rfl, rfl, by omega⟩
    · rw [if_neg g] at hb; simp at hb
theorem do_syn0 {σ : Sg} {y : Opv} (hk : y.kd = 2) (ha : y.ar = 0) (hb : doB σ y = true) : (doS σ y).x0 = σ.x0 ∧ (doS σ y).x1 = σ.x1 ∧ (doS σ y).s0 = σ.x0.length ∧ (doS σ y).s1 = σ.s1 := by
  have h21 : ¬ (2 : Int) = 1 := by decide
  simp only [doB, doS, hk, if_true, synC, synS, ha, if_neg h21, true_or] at hb ⊢
  by_cases g : σ.goes = true
  · rw [if_pos g]; exact ⟨rfl, rfl, rfl, rfl⟩
  · rw [if_neg g] at hb; simp at hb
theorem do_syn1 {σ : Sg} {y : Opv} (hk : y.kd = 2) (ha : y.ar = 1) (hb : doB σ y = true) : (doS σ y).x0 = σ.x0 ∧ (doS σ y).x1 = σ.x1 ∧ (doS σ y).s0 = σ.s0 ∧ (doS σ y).s1 = σ.x1.length := by
  have h21 : ¬ (2 : Int) = 1 := by decide
  have h10 : ¬ (1 : Int) = 0 := by decide
  simp only [doB, doS, hk, if_true, synC, synS, ha, if_neg h21, if_neg h10, or_true] at hb ⊢
  by_cases g : σ.goes = true
  · rw [if_pos g]; exact ⟨rfl, rfl, rfl, rfl⟩
  · rw [if_neg g] at hb; simp at hb
theorem do_cut0 {σ : Sg} {y : Opv} (hk : y.kd = 3) (ha : y.ar = 0) (hb : doB σ y = true) : ∃ n : Nat, y.n = n ∧ n ≤ σ.x0.length ∧ (doS σ y).x0 = σ.x0.take n ∧ (doS σ y).x1 = σ.x1 ∧ (doS σ y).s0 = min σ.s0 n ∧ (doS σ y).s1 = σ.s1 := by
  have h31 : ¬ (3 : Int) = 1 := by decide
  have h32 : ¬ (3 : Int) = 2 := by decide
  simp only [doB, doS, hk, if_true, cutC, cutS, ha, if_neg h31, if_neg h32] at hb ⊢
  by_cases h : y.n < 0 ∨ (σ.x0.length : Int) < y.n
  · rw [if_pos h] at hb; simp at hb
  · rw [if_neg h] at hb ⊢
    by_cases g : σ.goes = true
    · rw [if_pos g]; exact ⟨y.n.toNat, by omega, by omega, rfl, rfl, rfl, rfl⟩
    · rw [if_neg g] at hb; simp at hb
theorem do_cut1 {σ : Sg} {y : Opv} (hk : y.kd = 3) (ha : y.ar = 1) (hb : doB σ y = true) : ∃ n : Nat, y.n = n ∧ n ≤ σ.x1.length ∧ (doS σ y).x1 = σ.x1.take n ∧ (doS σ y).x0 = σ.x0 ∧ (doS σ y).s0 = σ.s0 ∧ (doS σ y).s1 = min σ.s1 n := by
  have h31 : ¬ (3 : Int) = 1 := by decide
  have h32 : ¬ (3 : Int) = 2 := by decide
  have h10 : ¬ (1 : Int) = 0 := by decide
  simp only [doB, doS, hk, if_true, cutC, cutS, ha, if_neg h31, if_neg h32, if_neg h10] at hb ⊢
  by_cases h : y.n < 0 ∨ (σ.x1.length : Int) < y.n
  · rw [if_pos h] at hb; simp at hb
  · rw [if_neg h] at hb ⊢
    by_cases g : σ.goes = true
    · rw [if_pos g]; exact ⟨y.n.toNat, by omega, by omega, rfl, rfl, rfl, rfl⟩
    · rw [if_neg g] at hb; simp at hb
theorem torn_begins (xs : List Int) (s k z : Nat) (hs : s ≤ xs.length) : s ≤ (torn xs s k z).length ∧ (torn xs s k z).take s = xs.take s := by
  unfold torn
  refine ⟨by simp; omega, ?_⟩
  rw [List.take_append_of_le_length (by simp; omega), List.take_take]
  congr 1; omega
theorem do_crash {σ : Sg} {y : Opv} (ok : σ.Ok) (hk : y.kd = 7) : doB σ y = false ∧ (doS σ y).s0 = (doS σ y).x0.length ∧ (doS σ y).s1 = (doS σ y).x1.length ∧ (doS σ y).x0.length ≤ σ.x0.length ∧ (doS σ y).x1.length ≤ σ.x1.length ∧ (σ.s0 ≤ (doS σ y).x0.length ∧ (doS σ y).x0.take σ.s0 = σ.x0.take σ.s0) ∧ (σ.s1 ≤ (doS σ y).x1.length ∧ (doS σ y).x1.take σ.s1 = σ.x1.take σ.s1) := by
  have h71 : ¬ (7 : Int) = 1 := by decide
  have h72 : ¬ (7 : Int) = 2 := by decide
  have h73 : ¬ (7 : Int) = 3 := by decide
  simp only [doB, doS, hk, if_true, if_neg h71, if_neg h72, if_neg h73, crS, true_and]
  exact ⟨torn_le _ _ _ _ ok.s0, torn_le _ _ _ _ ok.s1, torn_begins _ _ _ _ ok.s0, torn_begins _ _ _ _ ok.s1⟩
end Go.Proofs.Ytlgjjemfckmidaa

/-
  DiskSafe's state: the disk, and the two arrays of two lists beside it.
-/
namespace Go.Proofs.Ytlgjjemfckmidaa
open Go.RowKit Go.BigFrame

/-- A list in memory. -/
structure Slc where
  a : Option Addr
  n : Nat
  c : Nat
def Slc.val (s : Slc) : Value := .slice s.a s.n s.c
structure Sl (x : World) (F : Nat → Prop) (s : Slc) (bs : List Int) : Prop where
  by' : Byts x s.a s.n bs
  le : s.n ≤ s.c
  mx : s.c ≤ maxLen
  no : s.a = none → s.c = 0
  fa : ∀ b o, s.a = some ⟨b, o, none⟩ → b < x.heap.size ∧ ¬ F b
theorem Sl.off {x x' : World} {F F' P : Nat → Prop} {s : Slc} {bs : List Int} (h : Sl x F s bs) (o : Off P x x') (hP : ∀ k, k < x.heap.size → P k → F k) (hF : ∀ k, k < x.heap.size → F' k → F k) : Sl x' F' s bs :=
  ⟨h.by'.off o (fun b q e g => (h.fa b q e).2 (hP b (h.fa b q e).1 g)), h.le, h.mx, h.no, fun b q e => ⟨Nat.lt_of_lt_of_le (h.fa b q e).1 o.size, fun g => (h.fa b q e).2 (hF b (h.fa b q e).1 g)⟩⟩
theorem Sl.nil (x : World) (F : Nat → Prop) : Sl x F ⟨none, 0, 0⟩ [] := ⟨⟨rfl, fun j hj => absurd hj (Nat.not_lt_zero _)⟩, Nat.le_refl _, Nat.zero_le _, fun _ => rfl, fun b o e => by cases e⟩
/-- A list of one's own, made since. -/
theorem Sl.row {x : World} {B : Nat} {F : Nat → Prop} {a : Option Addr} {n c : Nat} {bs : List Int} (h : Row x B (.slice a n c) bs) (hF : ∀ k, B ≤ k → ¬ F k) : Sl x F ⟨a, n, c⟩ bs := by
  obtain ⟨hn, hb, hno, hge⟩ := h.byts'
  obtain ⟨a', cp, e, h1, h2, _⟩ := h.slice
  obtain ⟨rfl, rfl, rfl⟩ : a = a' ∧ n = bs.length ∧ c = cp := by simpa using e
  refine ⟨hb, h1, h2, hno, fun b o e => ⟨?_, hF b (hge b o e)⟩⟩
  exact (h.lt (g := b) (by show Value.ownBlock (.slice a _ _) = _; rw [show a = some ⟨b, o, none⟩ from e]; rfl)).2
/-- The blocks that are written. -/
def Fz (K S6 S7 : Nat) (v0 v1 : Value) (k : Nat) : Prop := Foot K v0 v1 k ∨ k = S6 ∨ k = S7
structure Sfv (w2 x : World) (K S6 S7 : Nat) (v0 v1 : Value) (σ : Sg) (p0 p1 q0 q1 : Slc) (P0 P1 Q0 Q1 : List Int) : Prop where
  d : DskS x w2.heap.size K v0 v1 σ
  ok : σ.Ok
  be : Below w2.heap.size w2 x
  c60 : x.cell? ⟨S6, 0, none⟩ = some p0.val
  c61 : x.cell? ⟨S6, 1, none⟩ = some p1.val
  c70 : x.cell? ⟨S7, 0, none⟩ = some q0.val
  c71 : x.cell? ⟨S7, 1, none⟩ = some q1.val
  f6 : ∀ o, x.frozen? ⟨S6, o, none⟩ = false
  f7 : ∀ o, x.frozen? ⟨S7, o, none⟩ = false
  l6 : w2.heap.size ≤ S6 ∧ S6 < x.heap.size ∧ ¬ Foot K v0 v1 S6
  l7 : w2.heap.size ≤ S7 ∧ S7 < x.heap.size ∧ ¬ Foot K v0 v1 S7
  ne : S6 ≠ S7
  sp0 : Sl x (Fz K S6 S7 v0 v1) p0 P0
  sp1 : Sl x (Fz K S6 S7 v0 v1) p1 P1
  sq0 : Sl x (Fz K S6 S7 v0 v1) q0 Q0
  sq1 : Sl x (Fz K S6 S7 v0 v1) q1 Q1
section
variable {w2 x x' : World} {K S6 S7 : Nat} {v0 v1 : Value} {σ τ : Sg} {p0 p1 q0 q1 : Slc} {P0 P1 Q0 Q1 : List Int}
theorem Sfv.below (h : Sfv w2 x K S6 S7 v0 v1 σ p0 p1 q0 q1 P0 P1 Q0 Q1) (hb : Below x.heap.size x x') : Sfv w2 x' K S6 S7 v0 v1 σ p0 p1 q0 q1 P0 P1 Q0 Q1 := by
  have o : Off (fun _ => False) x x' := Off.of_below hb
  have hs := hb.size
  have h6 := h.l6
  have h7 := h.l7
  have c6 : ∀ q, x'.cell? ⟨S6, q, none⟩ = x.cell? ⟨S6, q, none⟩ := fun q => hb.cell (p := ⟨S6, q, none⟩) h6.2.1
  have c7 : ∀ q, x'.cell? ⟨S7, q, none⟩ = x.cell? ⟨S7, q, none⟩ := fun q => hb.cell (p := ⟨S7, q, none⟩) h7.2.1
  exact ⟨h.d.off o (fun _ _ => id), h.ok, h.be.trans (hb.mono h.be.size), (c6 0).trans h.c60, (c6 1).trans h.c61, (c7 0).trans h.c70, (c7 1).trans h.c71, fun q => (hb.frozen (p := ⟨S6, q, none⟩) h6.2.1).trans (h.f6 q), fun q => (hb.frozen (p := ⟨S7, q, none⟩) h7.2.1).trans (h.f7 q), ⟨h6.1, by omega, h6.2.2⟩, ⟨h7.1, by omega, h7.2.2⟩, h.ne, h.sp0.off o (fun _ _ f => f.elim) (fun _ _ g => g), h.sp1.off o (fun _ _ f => f.elim) (fun _ _ g => g), h.sq0.off o (fun _ _ f => f.elim) (fun _ _ g => g), h.sq1.off o (fun _ _ f => f.elim) (fun _ _ g => g)⟩
theorem Sfv.does (h : Sfv w2 x K S6 S7 v0 v1 σ p0 p1 q0 q1 P0 P1 Q0 Q1) (hd : DoQ x w2.heap.size K v0 v1 τ x') (ok : τ.Ok) : ∃ u0 u1, Sfv w2 x' K S6 S7 u0 u1 τ p0 p1 q0 q1 P0 P1 Q0 Q1 := by
  obtain ⟨u0, u1, d, s⟩ := hd
  have o := s.off
  have hs := o.size
  have h6 := h.l6
  have h7 := h.l7
  have hF : ∀ k, k < x.heap.size → Fz K S6 S7 u0 u1 k → Fz K S6 S7 v0 v1 k := fun k hk g => g.imp (s.foot k hk) id
  have hP : ∀ k, k < x.heap.size → Foot K v0 v1 k → Fz K S6 S7 v0 v1 k := fun k _ g => Or.inl g
  have c6 : ∀ q, x'.cell? ⟨S6, q, none⟩ = x.cell? ⟨S6, q, none⟩ := fun q => o.cell (p := ⟨S6, q, none⟩) h6.2.1 h6.2.2
  have c7 : ∀ q, x'.cell? ⟨S7, q, none⟩ = x.cell? ⟨S7, q, none⟩ := fun q => o.cell (p := ⟨S7, q, none⟩) h7.2.1 h7.2.2
  exact ⟨u0, u1, d, ok, h.be.trans (o.below h.be.size (fun k g => (h.d.foot_lt g).1)), (c6 0).trans h.c60, (c6 1).trans h.c61, (c7 0).trans h.c70, (c7 1).trans h.c71, fun q => (o.frozen (p := ⟨S6, q, none⟩) h6.2.1 h6.2.2).trans (h.f6 q), fun q => (o.frozen (p := ⟨S7, q, none⟩) h7.2.1 h7.2.2).trans (h.f7 q), ⟨h6.1, by omega, fun g => h6.2.2 (s.foot _ h6.2.1 g)⟩, ⟨h7.1, by omega, fun g => h7.2.2 (s.foot _ h7.2.1 g)⟩, h.ne, h.sp0.off o hP hF, h.sp1.off o hP hF, h.sq0.off o hP hF, h.sq1.off o hP hF⟩
theorem Sfv.alike (h : Sfv w2 x K S6 S7 v0 v1 σ p0 p1 q0 q1 P0 P1 Q0 Q1) {r : Slc} {R : List Int} (hr : Sl x (Fz K S6 S7 v0 v1) r R) (S q : Nat) (hS : S = S6 ∨ S = S7) : Off (fun k => k = S) x (x.setCell ⟨S, q, none⟩ r.val) ∧ DskS (x.setCell ⟨S, q, none⟩ r.val) w2.heap.size K v0 v1 σ ∧ Below w2.heap.size w2 (x.setCell ⟨S, q, none⟩ r.val) ∧ Sl (x.setCell ⟨S, q, none⟩ r.val) (Fz K S6 S7 v0 v1) r R ∧ Sl (x.setCell ⟨S, q, none⟩ r.val) (Fz K S6 S7 v0 v1) p0 P0 ∧ Sl (x.setCell ⟨S, q, none⟩ r.val) (Fz K S6 S7 v0 v1) p1 P1 ∧ Sl (x.setCell ⟨S, q, none⟩ r.val) (Fz K S6 S7 v0 v1) q0 Q0 ∧ Sl (x.setCell ⟨S, q, none⟩ r.val) (Fz K S6 S7 v0 v1) q1 Q1 := by
  have o : Off (fun k => k = S) x (x.setCell ⟨S, q, none⟩ r.val) := (Off.refl (fun k => k = S) x).setCell (p := ⟨S, q, none⟩) rfl _
  have hP : ∀ k, k < x.heap.size → k = S → Fz K S6 S7 v0 v1 k := fun k _ g => Or.inr (by rcases hS with e | e <;> subst e <;> simp [g])
  have h6 := h.l6
  have h7 := h.l7
  have hn : ∀ k, Foot K v0 v1 k → ¬ k = S := fun k g e => by rcases hS with e' | e' <;> subst e' <;> subst e <;> first | exact h6.2.2 g | exact h7.2.2 g
  exact ⟨o, h.d.off o hn, h.be.trans (o.below h.be.size (fun k g => by rcases hS with e | e <;> omega)), hr.off o hP (fun _ _ g => g), h.sp0.off o hP (fun _ _ g => g), h.sp1.off o hP (fun _ _ g => g), h.sq0.off o hP (fun _ _ g => g), h.sq1.off o hP (fun _ _ g => g)⟩
theorem Sfv.put60 (h : Sfv w2 x K S6 S7 v0 v1 σ p0 p1 q0 q1 P0 P1 Q0 Q1) {r : Slc} {R : List Int} (hr : Sl x (Fz K S6 S7 v0 v1) r R) : Sfv w2 (x.setCell ⟨S6, 0, none⟩ r.val) K S6 S7 v0 v1 σ r p1 q0 q1 R P1 Q0 Q1 := by
  obtain ⟨o, d, be, a1, a2, a3, a4, a5⟩ := h.alike hr S6 0 (Or.inl rfl)
  have hs : (x.setCell ⟨S6, 0, none⟩ r.val).heap.size = x.heap.size := by simp
  have hne := h.ne
  exact ⟨d, h.ok, be, World.cell?_setCell_same' _ _ _ (by rw [h.c60]; rfl), by rw [World.cell?_setCell_other _ _ _ _ (by simp)]; exact h.c61, by rw [World.cell?_setCell_other _ _ _ _ (by simp; first | done | omega)]; exact h.c70, by rw [World.cell?_setCell_other _ _ _ _ (by simp)]; exact h.c71, fun q => by rw [World.frozen?_setCell]; exact h.f6 q, fun q => by rw [World.frozen?_setCell]; exact h.f7 q, by rw [hs]; exact h.l6, by rw [hs]; exact h.l7, hne, a1, a3, a4, a5⟩
theorem Sfv.put61 (h : Sfv w2 x K S6 S7 v0 v1 σ p0 p1 q0 q1 P0 P1 Q0 Q1) {r : Slc} {R : List Int} (hr : Sl x (Fz K S6 S7 v0 v1) r R) : Sfv w2 (x.setCell ⟨S6, 1, none⟩ r.val) K S6 S7 v0 v1 σ p0 r q0 q1 P0 R Q0 Q1 := by
  obtain ⟨o, d, be, a1, a2, a3, a4, a5⟩ := h.alike hr S6 1 (Or.inl rfl)
  have hs : (x.setCell ⟨S6, 1, none⟩ r.val).heap.size = x.heap.size := by simp
  have hne := h.ne
  exact ⟨d, h.ok, be, by rw [World.cell?_setCell_other _ _ _ _ (by simp)]; exact h.c60, World.cell?_setCell_same' _ _ _ (by rw [h.c61]; rfl), by rw [World.cell?_setCell_other _ _ _ _ (by simp)]; exact h.c70, by rw [World.cell?_setCell_other _ _ _ _ (by simp; first | done | omega)]; exact h.c71, fun q => by rw [World.frozen?_setCell]; exact h.f6 q, fun q => by rw [World.frozen?_setCell]; exact h.f7 q, by rw [hs]; exact h.l6, by rw [hs]; exact h.l7, hne, a2, a1, a4, a5⟩
theorem Sfv.put70 (h : Sfv w2 x K S6 S7 v0 v1 σ p0 p1 q0 q1 P0 P1 Q0 Q1) {r : Slc} {R : List Int} (hr : Sl x (Fz K S6 S7 v0 v1) r R) : Sfv w2 (x.setCell ⟨S7, 0, none⟩ r.val) K S6 S7 v0 v1 σ p0 p1 r q1 P0 P1 R Q1 := by
  obtain ⟨o, d, be, a1, a2, a3, a4, a5⟩ := h.alike hr S7 0 (Or.inr rfl)
  have hs : (x.setCell ⟨S7, 0, none⟩ r.val).heap.size = x.heap.size := by simp
  have hne := h.ne
  exact ⟨d, h.ok, be, by rw [World.cell?_setCell_other _ _ _ _ (by simp; first | done | omega)]; exact h.c60, by rw [World.cell?_setCell_other _ _ _ _ (by simp)]; exact h.c61, World.cell?_setCell_same' _ _ _ (by rw [h.c70]; rfl), by rw [World.cell?_setCell_other _ _ _ _ (by simp)]; exact h.c71, fun q => by rw [World.frozen?_setCell]; exact h.f6 q, fun q => by rw [World.frozen?_setCell]; exact h.f7 q, by rw [hs]; exact h.l6, by rw [hs]; exact h.l7, hne, a2, a3, a1, a5⟩
theorem Sfv.put71 (h : Sfv w2 x K S6 S7 v0 v1 σ p0 p1 q0 q1 P0 P1 Q0 Q1) {r : Slc} {R : List Int} (hr : Sl x (Fz K S6 S7 v0 v1) r R) : Sfv w2 (x.setCell ⟨S7, 1, none⟩ r.val) K S6 S7 v0 v1 σ p0 p1 q0 r P0 P1 Q0 R := by
  obtain ⟨o, d, be, a1, a2, a3, a4, a5⟩ := h.alike hr S7 1 (Or.inr rfl)
  have hs : (x.setCell ⟨S7, 1, none⟩ r.val).heap.size = x.heap.size := by simp
  have hne := h.ne
  exact ⟨d, h.ok, be, by rw [World.cell?_setCell_other _ _ _ _ (by simp)]; exact h.c60, by rw [World.cell?_setCell_other _ _ _ _ (by simp; first | done | omega)]; exact h.c61, by rw [World.cell?_setCell_other _ _ _ _ (by simp)]; exact h.c70, World.cell?_setCell_same' _ _ _ (by rw [h.c71]; rfl), fun q => by rw [World.frozen?_setCell]; exact h.f6 q, fun q => by rw [World.frozen?_setCell]; exact h.f7 q, by rw [hs]; exact h.l6, by rw [hs]; exact h.l7, hne, a2, a3, a4, a1⟩
end
end Go.Proofs.Ytlgjjemfckmidaa

/-
  DiskSafe: what holds ahead of each round, at the start, and behind each way through a round.
-/
namespace Go.Proofs.Ytlgjjemfckmidaa
open Go.RowKit Go.BigFrame

/-- What holds ahead of each round: the lists are what the disk's areas hold. -/
def Sfx (w2 : World) (K S6 S7 : Nat) (x : World) : Prop := ∃ v0 v1 σ p0 p1 q0 q1, Sfv w2 x K S6 S7 v0 v1 σ p0 p1 q0 q1 (σ.x0.take σ.s0) (σ.x1.take σ.s1) σ.x0 σ.x1
theorem sfx_start {w2 w4 : World} {K : Nat} {σ : Sg} (d : DskS w4 w2.heap.size K (.slice none 0 0) (.slice none 0 0) σ) (be : Below w2.heap.size w2 w4) (e0 : σ.x0 = []) (e1 : σ.x1 = []) (ok : σ.Ok) :
    Sfx w2 K w4.heap.size (w4.heap.size + 1) ((w4.alloc (.cells #[.slice none 0 0, .slice none 0 0] 26)).alloc (.cells #[.slice none 0 0, .slice none 0 0] 26)) := by
  have hs := be.size
  have oW : Off (fun _ => False) w4 ((w4.alloc (.cells #[.slice none 0 0, .slice none 0 0] 26)).alloc (.cells #[.slice none 0 0, .slice none 0 0] 26)) := ((Off.refl _ _).alloc _).alloc _
  have hn : ∀ k, w4.heap.size ≤ k → ¬ Foot K (.slice none 0 0) (.slice none 0 0) k := fun k hk g => by have := (d.foot_lt g).2; omega
  refine ⟨.slice none 0 0, .slice none 0 0, σ, ⟨none, 0, 0⟩, ⟨none, 0, 0⟩, ⟨none, 0, 0⟩, ⟨none, 0, 0⟩, ?_⟩
  rw [e0, e1, List.take_nil, List.take_nil]
  refine ⟨d.off oW (fun _ _ => id), ok, be.trans (oW.below hs (fun _ g => g.elim)), ?_, ?_, ?_, ?_, ?_, ?_, ⟨hs, by simp; omega, hn _ (Nat.le_refl _)⟩, ⟨by omega, by simp, hn _ (by omega)⟩, by omega, Sl.nil _ _, Sl.nil _ _, Sl.nil _ _, Sl.nil _ _⟩
  · rw [World.cell?_alloc_lt _ _ ⟨w4.heap.size, 0, none⟩ (by simp)]; simp [Slc.val]
  · rw [World.cell?_alloc_lt _ _ ⟨w4.heap.size, 1, none⟩ (by simp)]; simp [Slc.val]
  · have e : w4.heap.size + 1 = (w4.alloc (.cells #[.slice none 0 0, .slice none 0 0] 26)).heap.size := by simp
    rw [e]; simp [Slc.val]
  · have e : w4.heap.size + 1 = (w4.alloc (.cells #[.slice none 0 0, .slice none 0 0] 26)).heap.size := by simp
    rw [e]; simp [Slc.val]
  · intro o; rw [World.frozen?_alloc_old _ _ ⟨w4.heap.size, o, none⟩ (by simp)]; simp
  · intro o
    have e : w4.heap.size + 1 = (w4.alloc (.cells #[.slice none 0 0, .slice none 0 0] 26)).heap.size := by simp
    rw [e]; simp
section
variable {w2 x x3 : World} {K S6 S7 : Nat} {v0 v1 : Value} {σ τ : Sg} {p0 p1 q0 q1 : Slc} {P0 P1 Q0 Q1 : List Int}
theorem sfx_of (h : Sfv w2 x K S6 S7 v0 v1 τ p0 p1 q0 q1 P0 P1 Q0 Q1) (e0 : P0 = τ.x0.take τ.s0) (e1 : P1 = τ.x1.take τ.s1) (e2 : Q0 = τ.x0) (e3 : Q1 = τ.x1) : Sfx w2 K S6 S7 x := by
  subst e0 e1 e2 e3
  exact ⟨_, _, _, _, _, _, _, h⟩
theorem sfx_no (h : Sfv w2 x K S6 S7 v0 v1 τ p0 p1 q0 q1 (σ.x0.take σ.s0) (σ.x1.take σ.s1) σ.x0 σ.x1) (a : Alike σ τ) : Sfx w2 K S6 S7 x :=
  sfx_of h (by rw [a.1, a.2.2.1]) (by rw [a.2.1, a.2.2.2]) a.1.symm a.2.1.symm
/-- The way of a list of one's own into one of the four places. -/
theorem Sfv.new (h : Sfv w2 x K S6 S7 v0 v1 τ p0 p1 q0 q1 P0 P1 Q0 Q1) (hb : Below x.heap.size x x3) {a : Option Addr} {n c : Nat} {R : List Int} (hr : Row x3 x.heap.size (.slice a n c) R) : Sfv w2 x3 K S6 S7 v0 v1 τ p0 p1 q0 q1 P0 P1 Q0 Q1 ∧ Sl x3 (Fz K S6 S7 v0 v1) ⟨a, n, c⟩ R :=
  ⟨h.below hb, Sl.row hr (fun k hk g => by
    have h6 := h.l6.2.1
    have h7 := h.l7.2.1
    rcases g with g | g | g
    · have := (h.d.foot_lt g).2; omega
    · omega
    · omega)⟩
theorem Sfv.to60 (h : Sfv w2 x K S6 S7 v0 v1 τ p0 p1 q0 q1 P0 P1 Q0 Q1) (hb : Below x.heap.size x x3) {a : Option Addr} {n c : Nat} {R : List Int} (hr : Row x3 x.heap.size (.slice a n c) R) : Sfv w2 (x3.setCell ⟨S6, 0, none⟩ (.slice a n c)) K S6 S7 v0 v1 τ ⟨a, n, c⟩ p1 q0 q1 R P1 Q0 Q1 :=
  (h.new hb hr).1.put60 (h.new hb hr).2
theorem Sfv.to61 (h : Sfv w2 x K S6 S7 v0 v1 τ p0 p1 q0 q1 P0 P1 Q0 Q1) (hb : Below x.heap.size x x3) {a : Option Addr} {n c : Nat} {R : List Int} (hr : Row x3 x.heap.size (.slice a n c) R) : Sfv w2 (x3.setCell ⟨S6, 1, none⟩ (.slice a n c)) K S6 S7 v0 v1 τ p0 ⟨a, n, c⟩ q0 q1 P0 R Q0 Q1 :=
  (h.new hb hr).1.put61 (h.new hb hr).2
theorem Sfv.to70 (h : Sfv w2 x K S6 S7 v0 v1 τ p0 p1 q0 q1 P0 P1 Q0 Q1) (hb : Below x.heap.size x x3) {a : Option Addr} {n c : Nat} {R : List Int} (hr : Row x3 x.heap.size (.slice a n c) R) : Sfv w2 (x3.setCell ⟨S7, 0, none⟩ (.slice a n c)) K S6 S7 v0 v1 τ p0 p1 ⟨a, n, c⟩ q1 P0 P1 R Q1 :=
  (h.new hb hr).1.put70 (h.new hb hr).2
theorem Sfv.to71 (h : Sfv w2 x K S6 S7 v0 v1 τ p0 p1 q0 q1 P0 P1 Q0 Q1) (hb : Below x.heap.size x x3) {a : Option Addr} {n c : Nat} {R : List Int} (hr : Row x3 x.heap.size (.slice a n c) R) : Sfv w2 (x3.setCell ⟨S7, 1, none⟩ (.slice a n c)) K S6 S7 v0 v1 τ p0 p1 q0 ⟨a, n, c⟩ P0 P1 Q0 R :=
  (h.new hb hr).1.put71 (h.new hb hr).2
theorem take_min (xs : List Int) (s n : Nat) : (xs.take n).take (min s n) = xs.take (min s n) := by rw [List.take_take]; congr 1; omega
theorem take_keep (xs : List Int) {s n : Nat} (h : ¬ n < (xs.take s).length) (hs : s ≤ xs.length) : xs.take s = (xs.take n).take (min s n) := by
  rw [List.length_take] at h
  rw [take_min]; congr 1; omega
theorem take_less (xs : List Int) {s n : Nat} (h : n < (xs.take s).length) : xs.take n = (xs.take n).take (min s n) := by
  rw [List.length_take] at h
  rw [take_min]; congr 1; omega
end
end Go.Proofs.Ytlgjjemfckmidaa

/-
  DiskSafe: two lists copied in one statement.
-/
namespace Go.Proofs.Ytlgjjemfckmidaa
open Go.RowKit Go.BigFrame

theorem heap_two_first (w : World) (o o' : Obj) : ((w.alloc o).alloc o').heap[w.heap.size]? = some o := by
  rw [Below.heap_alloc _ _ _ (by simp)]
  show (w.heap.push o)[w.heap.size]? = _
  rw [Array.getElem?_push_size]
theorem heap_two_snd (w : World) (o o' : Obj) : ((w.alloc o).alloc o').heap[w.heap.size + 1]? = some o' := by
  have e : (w.alloc o).heap.size = w.heap.size + 1 := by simp
  show ((w.alloc o).heap.push o')[w.heap.size + 1]? = _
  rw [← e, Array.getElem?_push_size]
theorem own_some {n k : Nat} : (Value.slice (some ⟨n, 0, none⟩) 0 0).ownBlock = some k ↔ n = k := by simp [Value.ownBlock]
theorem two_app {X W W' : World} {n : Nat} (ho : Off (fun _ => False) X W) (h : Off (fun k => (Value.slice (some ⟨n, 0, none⟩) 0 0).ownBlock = some k) W W') (hn : X.heap.size ≤ n) : Below X.heap.size X W' :=
  (ho.below (Nat.le_refl _) (fun _ g => g.elim)).trans (h.below ho.size (fun k g => by rw [own_some] at g; omega))
theorem two_left {W W' : World} {n m : Nat} {o : Obj} (h : Off (fun k => (Value.slice (some ⟨n, 0, none⟩) 0 0).ownBlock = some k) W W') (hm : W.heap[m]? = some o) (hne : m ≠ n) : W'.heap[m]? = some o := by
  have hl : m < W.heap.size := by
    rcases Nat.lt_or_ge m W.heap.size with g | g
    · exact g
    · rw [Array.getElem?_eq_none g] at hm; cases hm
  rw [h.block m hl (fun g => by rw [own_some] at g; exact hne g.symm)]
  exact hm
theorem row_alloc {x3 x4 : World} {B : Nat} {v : Value} {xs : List Int} {o : Obj} {n : Nat} (h : Row x3 B v xs) (h4 : Off (fun k => (Value.slice (some ⟨n, 0, none⟩) 0 0).ownBlock = some k) (x3.alloc o) x4) (hn : x3.heap.size ≤ n) : Row x4 B v xs :=
  (h.off ((Off.refl (fun _ => False) x3).alloc o) (fun _ _ => id)).off h4 (fun g hg e => by have := (h.lt hg).2; rw [own_some] at e; omega)
theorem row_left {W x3 x4 : World} {B : Nat} {v : Value} {xs : List Int} {n m : Nat} (h : Row x3 B v xs) (hG : ∀ g, v.ownBlock = some g → (Value.slice (some ⟨n, 0, none⟩) 0 0).ownBlock = some g ∨ W.heap.size ≤ g) (h4 : Off (fun k => (Value.slice (some ⟨m, 0, none⟩) 0 0).ownBlock = some k) x3 x4) (hm : m < W.heap.size) (hne : m ≠ n) : Row x4 B v xs :=
  h.off h4 (fun g hg e => by
    rw [own_some] at e
    rcases hG g hg with h | h
    · rw [own_some] at h; omega
    · omega)
section
variable {w2 x x3 x4 : World} {K S6 S7 : Nat} {v0 v1 : Value} {σ τ : Sg} {p0 p1 q0 q1 : Slc} {P0 P1 Q0 Q1 R0 R1 : List Int}
theorem Sfv.both6 (h : Sfv w2 x K S6 S7 v0 v1 τ p0 p1 q0 q1 P0 P1 Q0 Q1) {a0 a1 : Option Addr} {n0 c0 n1 c1 : Nat} (r0 : Sl x (Fz K S6 S7 v0 v1) ⟨a0, n0, c0⟩ R0) (r1 : Sl x (Fz K S6 S7 v0 v1) ⟨a1, n1, c1⟩ R1) :
    Sfv w2 ((x.setCell ⟨S6, 0, none⟩ (.slice a0 n0 c0)).setCell ⟨S6, 1, none⟩ (.slice a1 n1 c1)) K S6 S7 v0 v1 τ ⟨a0, n0, c0⟩ ⟨a1, n1, c1⟩ q0 q1 R0 R1 Q0 Q1 := by
  have o := (h.alike r0 S6 0 (Or.inl rfl)).1
  exact (h.put60 r0).put61 (r1.off o (fun k _ g => Or.inr (Or.inl g)) (fun _ _ g => g))
theorem Sfv.both7 (h : Sfv w2 x K S6 S7 v0 v1 τ p0 p1 q0 q1 P0 P1 Q0 Q1) (hb : Below x.heap.size x x4) {a0 a1 : Option Addr} {n0 c0 n1 c1 : Nat} (r0 : Row x4 x.heap.size (.slice a0 n0 c0) R0) (r1 : Row x4 x.heap.size (.slice a1 n1 c1) R1) :
    Sfv w2 ((x4.setCell ⟨S7, 0, none⟩ (.slice a0 n0 c0)).setCell ⟨S7, 1, none⟩ (.slice a1 n1 c1)) K S6 S7 v0 v1 τ p0 p1 ⟨a0, n0, c0⟩ ⟨a1, n1, c1⟩ P0 P1 R0 R1 := by
  have o := ((h.below hb).alike (h.new hb r0).2 S7 0 (Or.inr rfl)).1
  exact ((h.below hb).put70 (h.new hb r0).2).put71 ((h.new hb r1).2.off o (fun k _ g => Or.inr (Or.inr g)) (fun _ _ g => g))
end
end Go.Proofs.Ytlgjjemfckmidaa
