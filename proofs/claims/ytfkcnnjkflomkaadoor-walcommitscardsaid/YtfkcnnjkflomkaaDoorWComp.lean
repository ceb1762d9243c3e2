/-
  The log's Compact.
-/
import Derived.Test.YtfkcnnjkflomkaaDoorWFol2
import Derived.Test.YtfkcnnjkflomkaaDoorWGenP
namespace Go.Proofs.YtfkcnnjkflomkaaDoor
open Go.RowKit Go.BigFrame

section
variable {x : World} {B K L : Nat} {v0 v1 : Value} {σ : Sg} {gn ar rc wt by_ : Int} {po : Option Addr} {m k : Nat} {bs : List Int}
/-- A refusal of the disk, as the log tells it. -/
def WDisk (N : Nat) (c : Int) (ev : Value) (y : World) : Prop := ∃ b b', ev = .iface 98 (.pointer (some ⟨b, 0, none⟩)) ∧ y.cell? ⟨b, 0, none⟩ = some (.string ⟨#[119, 97, 108]⟩) ∧ y.cell? ⟨b, 1, none⟩ = some (.int .i64 0) ∧ y.cell? ⟨b, 2, none⟩ = some (.int .i64 63) ∧ y.cell? ⟨b, 3, none⟩ = some (.iface 98 (.pointer (some ⟨b', 0, none⟩))) ∧ FaultAt y b' 0 c ∧ N ≤ b ∧ N ≤ b'
theorem WDisk.off {P : Nat → Prop} {N : Nat} {c : Int} {ev : Value} {y y' : World} (h : WDisk N c ev y) (ho : Off P y y') (hP : ∀ k, N ≤ k → ¬ P k) : WDisk N c ev y' := by
  obtain ⟨b, b', e, c0, c1, c2, c3, hF, l1, l2⟩ := h
  exact ⟨b, b', e, off_cell ho c0 (hP _ l1), off_cell ho c1 (hP _ l1), off_cell ho c2 (hP _ l1), off_cell ho c3 (hP _ l1), hF.off ho (hP _ l2), l1, l2⟩
/-- What a list of writes leaves of a log. -/
def RunQ (x : World) (B K L : Nat) (v0 v1 : Value) (σ : Sg) (os : List Dop) (gn ar rc wt by_ : Int) (e : Ending) (x' : World) : Prop :=
  ∃ ev u0 u1, e = .returned ev ∧ LStep x x' K L v0 v1 u0 u1 ∧ (((runS σ os).2 = 0 ∧ ev = .nilIface ∧ Lg x' B K L u0 u1 (runS σ os).1 false gn ar rc wt by_) ∨ ((runS σ os).2 ≠ 0 ∧ WDisk x.heap.size (runS σ os).2 ev x' ∧ Lg x' B K L u0 u1 (runS σ os).1 true gn ar rc wt by_))
theorem RunQ.pre {y : World} {os : List Dop} {e : Ending} {x' : World} (h : RunQ y B K L v0 v1 σ os gn ar rc wt by_ e x') (hb : Below x.heap.size x y) : RunQ x B K L v0 v1 σ os gn ar rc wt by_ e x' := by
  have hs := hb.size
  obtain ⟨ev, u0, u1, he, hst, hr⟩ := h
  refine ⟨ev, u0, u1, he, (LStep.of_below K L v0 v1 hb).trans hst, hr.imp id ?_⟩
  rintro ⟨h0, ⟨b, b', e, c0, c1, c2, c3, hF, l1, l2⟩, hl⟩
  exact ⟨h0, ⟨b, b', e, c0, c1, c2, c3, hF, by omega, by omega⟩, hl⟩
set_option maxRecDepth 100000 in
set_option maxHeartbeats 4000000 in
theorem do_run {g cap n : Nat} {os : List Dop} (h : Lg x B K L v0 v1 σ false gn ar rc wt by_) (hs : StepsAt x B K g v0 v1 os) (hg : ¬ Foot K v0 v1 g) (hn : os.length = n) (hn1 : n ≤ 1000) :
    Calls Tryd.prog 28 #[.pointer (some ⟨L, 0, none⟩), .slice (some ⟨g, 0, none⟩) n cap] x (RunQ x B K L v0 v1 σ os gn ar rc wt by_) := by
  have HP : Hid (Calls Tryd.prog 35 #[.slice (some ⟨g, 0, none⟩) n cap] x fun e y => ∃ u0 u1, LStep x y K L v0 v1 u0 u1 ∧ Lg y B K L u0 u1 (runS σ os).1 false gn ar rc wt by_ ∧ (((runS σ os).2 = 0 ∧ e = .returned .nilIface) ∨ ((runS σ os).2 ≠ 0 ∧ ∃ b, e = .returned (.iface 98 (.pointer (some ⟨b, 0, none⟩))) ∧ WDisk x.heap.size (runS σ os).2 (.iface 98 (.pointer (some ⟨b, 0, none⟩))) y))) := by
    subst hn
    refine (play_disk h.d hs hg (by omega)).mono ?_
    rintro e y ⟨ev, u0, u1, rfl, hd, hst, hr⟩
    refine ⟨u0, u1, LStep.of_step L hst, h.step hd hst, hr.imp (fun ⟨a, b⟩ => ⟨a, by rw [b]⟩) ?_⟩
    rintro ⟨h0, b, b', rfl, r⟩
    exact ⟨h0, b, rfl, b, b', rfl, r⟩
  have hLl : L < x.heap.size := h.lt
  clear h hs hg
  go_enter Tryd.func28, Tryd.ntmps28
  go_wp2_with fail
  refine HP.out.mono ?_
  rintro e y ⟨u0, u1, hs, hl, hr⟩
  have k1 := hl.c1
  have z1 := hl.fr 1
  have HL : Hid (LStep x y K L v0 v1 u0 u1 ∧ Lg y B K L u0 u1 (runS σ os).1 false gn ar rc wt by_) := ⟨hs, hl⟩
  clear hs hl HP
  rcases hr with ⟨hc, rfl⟩ | ⟨hc, b, rfl, hw⟩
  · go_wp2_with fail
    go_ret
    exact ⟨_, u0, u1, rfl, HL.out.1.trans (LStep.setCell _ K L u0 u1 1 _), Or.inl ⟨hc, rfl, HL.out.2.putDead false⟩⟩
  · have HW : Hid (WDisk x.heap.size (runS σ os).2 (.iface 98 (.pointer (some ⟨b, 0, none⟩))) y) := hw
    clear hw
    go_wp2_with fail
    go_ret
    refine ⟨_, u0, u1, rfl, HL.out.1.trans (LStep.setCell _ K L u0 u1 1 _), Or.inr ⟨hc, HW.out.off ((Off.refl (fun k => k = L) _).setCell (p := ⟨L, 1, none⟩) rfl _) (fun k h1 e => by omega), HL.out.2.putDead true⟩⟩
/-- The log's numbers written anew. -/
theorem Lg.putAll (h : Lg x B K L v0 v1 σ false gn ar rc wt by_) (a b c d e : Int) : Lg (((((x.setCell ⟨L, 2, none⟩ (.int .u64 a)).setCell ⟨L, 3, none⟩ (.int .i64 b)).setCell ⟨L, 4, none⟩ (.int .i64 c)).setCell ⟨L, 5, none⟩ (.int .i64 d)).setCell ⟨L, 6, none⟩ (.int .i64 e)) B K L v0 v1 σ false a b c d e := by
  have h1 : Lg (x.setCell ⟨L, 2, none⟩ (.int .u64 a)) B K L v0 v1 σ false a ar rc wt by_ := by
    obtain ⟨d, hc, hf⟩ := h.put 2 (.int .u64 a)
    exact ⟨d, (hc 0 (by omega)).trans h.c0, (hc 1 (by omega)).trans h.c1, World.cell?_setCell_same' _ _ _ (by rw [h.c2]; rfl), (hc 3 (by omega)).trans h.c3, (hc 4 (by omega)).trans h.c4, (hc 5 (by omega)).trans h.c5, (hc 6 (by omega)).trans h.c6, hf, h.nf, h.ge⟩
  have h2 : Lg ((x.setCell ⟨L, 2, none⟩ (.int .u64 a)).setCell ⟨L, 3, none⟩ (.int .i64 b)) B K L v0 v1 σ false a b rc wt by_ := by
    obtain ⟨d, hc, hf⟩ := h1.put 3 (.int .i64 b)
    exact ⟨d, (hc 0 (by omega)).trans h1.c0, (hc 1 (by omega)).trans h1.c1, (hc 2 (by omega)).trans h1.c2, World.cell?_setCell_same' _ _ _ (by rw [h1.c3]; rfl), (hc 4 (by omega)).trans h1.c4, (hc 5 (by omega)).trans h1.c5, (hc 6 (by omega)).trans h1.c6, hf, h1.nf, h1.ge⟩
  exact ((h2.putRec c).putWait d).putBytes e
set_option maxRecDepth 100000 in
set_option maxHeartbeats 8000000 in
theorem lCompact (h : Lg x B K L v0 v1 σ false gn ar rc wt by_) (hwt : 0 < wt) (hb : Byts x po m bs) (hfar : ∀ b o, 0 < m → po = some ⟨b, o, none⟩ → ¬ Foot K v0 v1 b) (hlow : ∀ b o, 0 < m → po = some ⟨b, o, none⟩ → b < x.heap.size) (hpo : po = none → k = 0) (hm : m ≤ 2097152) (hH : Halves x) (hG : ¬ Foot K v0 v1 1) (hg0 : 0 ≤ gn) (hg1 : gn < 4611686018427387904) :
    Calls Tryd.prog 13 #[.pointer (some ⟨L, 0, none⟩), .slice po m k] x fun e x' => ∃ ev u0 u1, e = .returned ev ∧ LStep x x' K L v0 v1 u0 u1 ∧ (((runS σ (.syn ar :: folOps (gn + 1) ar bs)).2 = 0 ∧ ev = .nilIface ∧ Lg x' B K L u0 u1 (runS σ (.syn ar :: folOps (gn + 1) ar bs)).1 false (gn + 1) ((gn + 1) % 2) 0 0 (30 + m)) ∨ ((runS σ (.syn ar :: folOps (gn + 1) ar bs)).2 ≠ 0 ∧ WDisk x.heap.size (runS σ (.syn ar :: folOps (gn + 1) ar bs)).2 ev x' ∧ Lg x' B K L u0 u1 (runS σ (.syn ar :: folOps (gn + 1) ar bs)).1 true gn ar rc wt by_)) := by
  have HR : Hid (Calls Tryd.prog 26 #[.pointer (some ⟨L, 0, none⟩)] x fun e w' => e = .returned .nilIface ∧ w' = x) := ready_ok h
  obtain ⟨OS, hOS⟩ : ∃ l, Dop.syn ar :: folOps (gn + 1) ar bs = l := ⟨_, rfl⟩
  have HF : Hid (∀ y, Below x.heap.size x y → x.heap.size < y.heap.size → Calls Tryd.prog 32 #[.pointer (some ⟨L, 0, none⟩), .agg #[.int .u64 (gn + 1), .int .i64 ((gn + 1) % 2), .int .i64 0, .int .i64 0, .int .i64 (30 + m)], .slice po m k] y fun e z => ∃ g c, e = .returned (.slice (some ⟨g, 0, none⟩) 5 c) ∧ Calls Tryd.prog 28 #[.pointer (some ⟨L, 0, none⟩), .slice (some ⟨g, 0, none⟩) 5 c] z fun e x' => RunQ x B K L v0 v1 σ OS gn ar rc wt by_ e x' ∧ ∀ q v, y.cell? ⟨x.heap.size, q, none⟩ = some v → x'.cell? ⟨x.heap.size, q, none⟩ = some v) := fun y hy hly => by
    refine (follow_one (h.below hy) hwt (hb.below hy) hfar (fun b o h0 e => Nat.lt_of_lt_of_le (hlow b o h0 e) hy.size) hpo hm (hH.under hy) hG (by omega) (by omega)).mono ?_
    rintro e z ⟨g, c, rfl, hs, hyz, hgg⟩
    have hxz := below_then hy hyz
    have hLx := h.lt
    rw [← hOS]
    refine ⟨g, c, rfl, (do_run (os := .syn ar :: folOps (gn + 1) ar bs) (h.below hxz) hs (fun gf => ?_) rfl (by simp [folOps])).mono fun e x' hq => ⟨hq.pre hxz, fun q v hv => ?_⟩⟩
    · have := (h.d.foot_lt gf).2
      have := hy.size
      omega
    · obtain ⟨ev, u0, u1, he, hst, hr⟩ := hq
      refine off_cell hst.off (below_cell hyz hv) (fun gg => gg.elim (fun gf => ?_) (fun e => by omega))
      have := (h.d.foot_lt gf).2
      omega
  rw [hOS]
  have c2 := h.c2
  have hl := h.lt
  have h1 : ¬ (2097152 : Int) < m := by omega
  have hb1 : decide ((2097152 : Int) < m) = false := by simp; omega
  have h2 : IntKind.u64.wrap (gn + 1) = gn + 1 := by simp [IntKind.wrap, IntKind.bits, IntKind.signed]; omega
  have h3 : IntKind.i64.wrap (30 + (m : Int)) = 30 + m := wrap_id (by omega) (by omega)
  have h4 : ¬ gn = 4611686018427387904 := by omega
  have hb4 : (gn == 4611686018427387904) = false := by simp; omega
  have hAr : ∀ y, Calls Tryd.prog 31 #[.int .u64 (gn + 1)] y fun e w' => e = .returned (.int .i64 ((gn + 1) % 2)) ∧ w' = y := fun y => areaOf_any y (by omega)
  clear h hb hfar hlow hpo hH hG
  go_enter Tryd.func13, Tryd.ntmps13
  go_wp2_with fail
  refine HR.out.mono ?_
  rintro e w1 ⟨rfl, hw1⟩
  rw [hw1]
  clear hw1 HR
  go_wp2_with fail
  go_region_held3 (fun y => y.cell? ⟨L, 2, none⟩ = some (.int .u64 gn)) (simp [*, World.cell?_alloc_lt _ _ ⟨L, 2, none⟩ hl]) (first | (go_at_call 31; refine (hAr _).mono ?_; rintro e wx ⟨rfl, hwx⟩; rw [hwx]))
  all_goals
    have bA : Below x.heap.size x (x.alloc (.cells #[.int .u64 (gn + 1), .int .i64 ((gn + 1) % 2), .int .i64 0, .int .i64 0, .int .i64 (30 + m)] 40)).drew := below_drewN' ((Below.refl _ _).alloc (Nat.le_refl _) _)
    have cA : ∀ q, (x.alloc (.cells #[.int .u64 (gn + 1), .int .i64 ((gn + 1) % 2), .int .i64 0, .int .i64 0, .int .i64 (30 + m)] 40)).drew.cell? ⟨x.heap.size, q, none⟩ = (#[Value.int .u64 (gn + 1), .int .i64 ((gn + 1) % 2), .int .i64 0, .int .i64 0, .int .i64 (30 + m)] : Array Value)[q]? := fun q => World.cell?_alloc_new _ _ _ _
    have lA : x.heap.size < (x.alloc (.cells #[.int .u64 (gn + 1), .int .i64 ((gn + 1) % 2), .int .i64 0, .int .i64 0, .int .i64 (30 + m)] 40)).drew.heap.size := by simp
    obtain ⟨W5, hW5⟩ : ∃ W, (x.alloc (.cells #[.int .u64 (gn + 1), .int .i64 ((gn + 1) % 2), .int .i64 0, .int .i64 0, .int .i64 (30 + m)] 40)).drew = W := ⟨_, rfl⟩
    rw [hW5] at bA cA lA ⊢
    clear hW5 c2 hAr
    have d0 : W5.cell? ⟨x.heap.size, 0, none⟩ = some (.int .u64 (gn + 1)) := cA 0
    have d1 : W5.cell? ⟨x.heap.size, 1, none⟩ = some (.int .i64 ((gn + 1) % 2)) := cA 1
    have d2 : W5.cell? ⟨x.heap.size, 2, none⟩ = some (.int .i64 0) := cA 2
    have d3 : W5.cell? ⟨x.heap.size, 3, none⟩ = some (.int .i64 0) := cA 3
    have d4 : W5.cell? ⟨x.heap.size, 4, none⟩ = some (.int .i64 (30 + m)) := cA 4
    clear cA
    go_wp2_with fail
    refine (HF.out W5 bA lA).mono ?_
    rintro e z ⟨g, c, rfl, hdo⟩
    have HDo : Hid (Calls Tryd.prog 28 #[.pointer (some ⟨L, 0, none⟩), .slice (some ⟨g, 0, none⟩) 5 c] z fun e x' => RunQ x B K L v0 v1 σ OS gn ar rc wt by_ e x' ∧ ∀ q v, W5.cell? ⟨x.heap.size, q, none⟩ = some v → x'.cell? ⟨x.heap.size, q, none⟩ = some v) := hdo
    clear hdo HF
    go_wp2_with fail
    refine HDo.out.mono ?_
    rintro e y2 ⟨⟨ev, u0, u1, rfl, hst, hr⟩, hcc⟩
    have e0 := hcc 0 _ d0
    have e1 := hcc 1 _ d1
    have e2 := hcc 2 _ d2
    have e3 := hcc 3 _ d3
    have e4 := hcc 4 _ d4
    have HS : Hid (LStep x y2 K L v0 v1 u0 u1) := hst
    clear hcc d0 d1 d2 d3 d4 hst HDo bA lA
    rcases hr with ⟨hc, rfl, hg⟩ | ⟨hc, hw, hg⟩
    · have k2 := hg.c2
      have k3 := hg.c3
      have k4 := hg.c4
      have k5 := hg.c5
      have k6 := hg.c6
      have z2 := hg.fr 2
      have z3 := hg.fr 3
      have z4 := hg.fr 4
      have z5 := hg.fr 5
      have z6 := hg.fr 6
      have HG : Hid (Lg y2 B K L u0 u1 (runS σ OS).1 false gn ar rc wt by_) := hg
      clear hg
      go_wp2_with fail
      go_ret
      exact ⟨_, u0, u1, rfl, ((((HS.out.trans (LStep.setCell _ K L u0 u1 2 _)).trans (LStep.setCell _ K L u0 u1 3 _)).trans (LStep.setCell _ K L u0 u1 4 _)).trans (LStep.setCell _ K L u0 u1 5 _)).trans (LStep.setCell _ K L u0 u1 6 _), Or.inl ⟨hc, rfl, HG.out.putAll _ _ _ _ _⟩⟩
    · obtain ⟨b, hb⟩ : ∃ b, ev = .iface 98 (.pointer (some ⟨b, 0, none⟩)) := by obtain ⟨b, b', e, _⟩ := hw; exact ⟨b, e⟩
      subst hb
      have HG : Hid (WDisk x.heap.size (runS σ OS).2 (.iface 98 (.pointer (some ⟨b, 0, none⟩))) y2 ∧ Lg y2 B K L u0 u1 (runS σ OS).1 true gn ar rc wt by_) := ⟨hw, hg⟩
      clear hg hw
      go_wp2_with fail
      go_ret
      exact ⟨_, u0, u1, rfl, HS.out, Or.inr ⟨hc, HG.out.1, HG.out.2⟩⟩
end
end Go.Proofs.YtfkcnnjkflomkaaDoor
