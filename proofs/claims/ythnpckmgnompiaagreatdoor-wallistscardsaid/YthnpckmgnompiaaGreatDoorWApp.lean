/-
  The log's Append, Sync, Stat.
-/
import Derived.Test.YthnpckmgnompiaaGreatDoorWShort
namespace Go.Proofs.YthnpckmgnompiaaGreatDoor
open Go.RowKit Go.BigFrame

theorem enters_put : Enters Tryz.prog 67 := enters_of Tryz.func67 (by kernel_rfl) rfl
theorem enters_sync : Enters Tryz.prog 57 := enters_of Tryz.func57 (by kernel_rfl) rfl
set_option maxHeartbeats 1000000 in
theorem put_mk {K : Nat} {ar : Int} {po : Option Addr} {m k : Nat} (w : World) : Calls Tryz.prog 29 #[.pointer (some ⟨K, 0, none⟩), .int .i64 ar, .slice po m k] w fun e w' => e = .returned (.func (.func 67) #[] #[.pointer (some ⟨w.heap.size, 0, none⟩), .pointer (some ⟨w.heap.size + 1, 0, none⟩), .pointer (some ⟨w.heap.size + 2, 0, none⟩)]) ∧ w' = ((w.alloc (.cells #[.pointer (some ⟨K, 0, none⟩)] 24)).alloc (.cells #[.int .i64 ar] 3)).alloc (.cells #[.slice po m k] 22) := by
  go_enter Tryz.func29, Tryz.ntmps29
  go_wp2_with fail
  go_ret
  exact ⟨rfl, rfl⟩
set_option maxHeartbeats 1000000 in
theorem sync_mk {K : Nat} {ar : Int} (w : World) : Calls Tryz.prog 19 #[.pointer (some ⟨K, 0, none⟩), .int .i64 ar] w fun e w' => e = .returned (.func (.func 57) #[] #[.pointer (some ⟨w.heap.size, 0, none⟩), .pointer (some ⟨w.heap.size + 1, 0, none⟩)]) ∧ w' = (w.alloc (.cells #[.pointer (some ⟨K, 0, none⟩)] 24)).alloc (.cells #[.int .i64 ar] 3) := by
  go_enter Tryz.func19, Tryz.ntmps19
  go_wp2_with fail
  go_ret
  exact ⟨rfl, rfl⟩
theorem wrap_id {z : Int} (h0 : -9223372036854775808 ≤ z) (h1 : z ≤ 9223372036854775807) : IntKind.i64.wrap z = z := by
  simp [IntKind.wrap, IntKind.bits, IntKind.signed]
  omega
/-- What the maker of a step leaves: three cells of its own. -/
def PutQ (x : World) (K : Nat) (ar : Int) (po : Option Addr) (m k : Nat) (e : Ending) (y : World) : Prop :=
  e = .returned (.func (.func 67) #[] #[.pointer (some ⟨x.heap.size, 0, none⟩), .pointer (some ⟨x.heap.size + 1, 0, none⟩), .pointer (some ⟨x.heap.size + 2, 0, none⟩)]) ∧ Below x.heap.size x y ∧ y.cell? ⟨x.heap.size, 0, none⟩ = some (.pointer (some ⟨K, 0, none⟩)) ∧ y.cell? ⟨x.heap.size + 1, 0, none⟩ = some (.int .i64 ar) ∧ y.cell? ⟨x.heap.size + 2, 0, none⟩ = some (.slice po m k)
theorem put_q {K : Nat} {ar : Int} {po : Option Addr} {m k : Nat} {x z : World} (hz : z = x ∨ z = x.drew) : Calls Tryz.prog 29 #[.pointer (some ⟨K, 0, none⟩), .int .i64 ar, .slice po m k] z (PutQ x K ar po m k) := by
  have hs : z.heap.size = x.heap.size := by rcases hz with rfl | rfl <;> rfl
  have hb : Below x.heap.size x z := by rcases hz with rfl | rfl <;> first | exact Below.refl _ _ | exact (Below.refl _ _).drew
  refine (put_mk z).mono ?_
  rintro e y ⟨rfl, rfl⟩
  refine ⟨by rw [hs], ((hb.alloc (by omega) _).alloc (by simp; omega) _).alloc (by simp; omega) _, ?_, ?_, ?_⟩
  · rw [World.cell?_alloc_lt _ _ ⟨x.heap.size, 0, none⟩ (by simp; omega), World.cell?_alloc_lt _ _ ⟨x.heap.size, 0, none⟩ (by simp; omega), ← hs]; simp
  · rw [World.cell?_alloc_lt _ _ ⟨x.heap.size + 1, 0, none⟩ (by simp; omega), ← hs, show z.heap.size + 1 = (z.alloc (.cells #[.pointer (some ⟨K, 0, none⟩)] 24)).heap.size by simp]; simp
  · rw [← hs, show z.heap.size + 2 = ((z.alloc (.cells #[.pointer (some ⟨K, 0, none⟩)] 24)).alloc (.cells #[.int .i64 ar] 3)).heap.size by simp, World.cell?_alloc_new]; rfl
def SyncQ (x : World) (K : Nat) (ar : Int) (e : Ending) (y : World) : Prop :=
  e = .returned (.func (.func 57) #[] #[.pointer (some ⟨x.heap.size, 0, none⟩), .pointer (some ⟨x.heap.size + 1, 0, none⟩)]) ∧ Below x.heap.size x y ∧ y.cell? ⟨x.heap.size, 0, none⟩ = some (.pointer (some ⟨K, 0, none⟩)) ∧ y.cell? ⟨x.heap.size + 1, 0, none⟩ = some (.int .i64 ar)
theorem sync_q {K : Nat} {ar : Int} {x z : World} (hz : z = x ∨ z = x.drew) : Calls Tryz.prog 19 #[.pointer (some ⟨K, 0, none⟩), .int .i64 ar] z (SyncQ x K ar) := by
  have hs : z.heap.size = x.heap.size := by rcases hz with rfl | rfl <;> rfl
  have hb : Below x.heap.size x z := by rcases hz with rfl | rfl <;> first | exact Below.refl _ _ | exact (Below.refl _ _).drew
  refine (sync_mk z).mono ?_
  rintro e y ⟨rfl, rfl⟩
  refine ⟨by rw [hs], (hb.alloc (by omega) _).alloc (by simp; omega) _, ?_, ?_⟩
  · rw [World.cell?_alloc_lt _ _ ⟨x.heap.size, 0, none⟩ (by simp; omega), ← hs]; simp
  · rw [← hs, show z.heap.size + 1 = (z.alloc (.cells #[.pointer (some ⟨K, 0, none⟩)] 24)).heap.size by simp]; simp
section
variable {x : World} {B K L : Nat} {v0 v1 : Value} {σ : Sg} {gn ar rc wt by_ : Int} {po : Option Addr} {m k : Nat} {bs : List Int}
theorem OneQ.pre {y : World} {τ : Sg} {c : Int} {e : Ending} {x' : World} (h : OneQ y B K L v0 v1 τ c gn ar rc wt by_ e x') (hb : Below x.heap.size x y) : OneQ x B K L v0 v1 τ c gn ar rc wt by_ e x' := by
  obtain ⟨ev, u0, u1, he, hs, hr⟩ := h
  exact ⟨ev, u0, u1, he, (LStep.of_below K L v0 v1 hb).trans hs, hr⟩
theorem append_do (h : Lg x B K L v0 v1 σ false gn ar rc wt by_) (hb : Byts x po m bs) (hpo : po = none → k = 0) (hm : m ≤ 16777216) (hH : Halves x) {y : World} (hy : Below x.heap.size x y) {b1 b2 b3 g : Nat} (l1 : x.heap.size ≤ b1) (l2 : x.heap.size ≤ b2) (l3 : x.heap.size ≤ b3) (c1 : y.cell? ⟨b1, 0, none⟩ = some (.pointer (some ⟨K, 0, none⟩))) (c2 : y.cell? ⟨b2, 0, none⟩ = some (.int .i64 ar)) (c3 : y.cell? ⟨b3, 0, none⟩ = some (.slice po m k)) (cg : y.cell? ⟨g, 0, none⟩ = some (.func (.func 67) #[] #[.pointer (some ⟨b1, 0, none⟩), .pointer (some ⟨b2, 0, none⟩), .pointer (some ⟨b3, 0, none⟩)])) :
    Calls Tryz.prog 28 #[.pointer (some ⟨L, 0, none⟩), .slice (some ⟨g, 0, none⟩) 1 1] y (OneQ x B K L v0 v1 (appS σ ar (recB bs)) (appC σ ar (bs.length + 13)) gn ar rc wt by_) := by
  have hF : ∀ b, x.heap.size ≤ b → ¬ Foot K v0 v1 b := fun b hb g => by have := (h.d.foot_lt g).2; omega
  exact (do_one (h.below hy) cg enters_put (putF (h.below hy).d c1 c2 c3 (hF _ l1) (hF _ l2) (hF _ l3) (hb.below hy) hpo hm (fun j hj => (hy.cell (p := ⟨1, j, none⟩) (cell_lt (hH j hj))).trans (hH j hj)))).mono fun e x' hq => hq.pre hy
theorem sync_do (h : Lg x B K L v0 v1 σ false gn ar rc wt by_) {y : World} (hy : Below x.heap.size x y) {b1 b2 g : Nat} (l1 : x.heap.size ≤ b1) (l2 : x.heap.size ≤ b2) (c1 : y.cell? ⟨b1, 0, none⟩ = some (.pointer (some ⟨K, 0, none⟩))) (c2 : y.cell? ⟨b2, 0, none⟩ = some (.int .i64 ar)) (cg : y.cell? ⟨g, 0, none⟩ = some (.func (.func 57) #[] #[.pointer (some ⟨b1, 0, none⟩), .pointer (some ⟨b2, 0, none⟩)])) :
    Calls Tryz.prog 28 #[.pointer (some ⟨L, 0, none⟩), .slice (some ⟨g, 0, none⟩) 1 1] y (OneQ x B K L v0 v1 (synS σ ar) (synC σ ar) gn ar rc wt by_) := by
  have hF : ∀ b, x.heap.size ≤ b → ¬ Foot K v0 v1 b := fun b hb g => by have := (h.d.foot_lt g).2; omega
  exact (do_one (h.below hy) cg enters_sync (syncF (h.below hy).d c1 c2 (hF _ l1) (hF _ l2))).mono fun e x' hq => hq.pre hy
set_option maxRecDepth 100000 in
set_option maxHeartbeats 4000000 in
theorem lAppend_bad (h : Lg x B K L v0 v1 σ false gn ar rc wt by_) (hm : m = 0 ∨ 20000 < m) : Calls Tryz.prog 8 #[.pointer (some ⟨L, 0, none⟩), .slice po m k] x fun e w' => ∃ v, e = .returned v ∧ WErr x 62 v w' := by
  have HR : Hid (Calls Tryz.prog 27 #[.pointer (some ⟨L, 0, none⟩)] x fun e w' => e = .returned .nilIface ∧ w' = x) := ready_ok h
  clear h
  go_enter Tryz.func8, Tryz.ntmps8
  go_wp2_with fail
  refine HR.out.mono ?_
  rintro e w1 ⟨rfl, hw1⟩
  rw [hw1]
  clear hw1
  rcases hm with rfl | hm
  · go_wp2_with fail
    refine (wfault_any _ _).mono ?_
    rintro e w' ⟨v, rfl, hv⟩
    go_wp2_with fail
    go_ret
    exact ⟨v, rfl, hv⟩
  · have h0 : ¬ (m : Int) = 0 := by omega
    have h1 : (20000 : Int) < m := by omega
    have h2 : ¬ m = 0 := by omega
    go_wp2_with fail
    refine (wfault_any _ _).mono ?_
    rintro e w' ⟨v, rfl, hv⟩
    go_wp2_with fail
    go_ret
    exact ⟨v, rfl, hv⟩
set_option maxRecDepth 100000 in
set_option maxHeartbeats 8000000 in
theorem lAppend_go (h : Lg x B K L v0 v1 σ false gn ar rc wt by_) (hb : Byts x po m bs) (hpo : po = none → k = 0) (hH : Halves x) (hm0 : 0 < m) (hm1 : m ≤ 20000) (hy0 : 0 ≤ by_) (hy1 : by_ + (m + 13) ≤ 16777216) (hr0 : 0 ≤ rc) (hr1 : rc ≤ 1099511627776) (ht0 : 0 ≤ wt) (ht1 : wt ≤ 1099511627776) :
    Calls Tryz.prog 8 #[.pointer (some ⟨L, 0, none⟩), .slice po m k] x fun e x' => ∃ u0 u1, LStep x x' K L v0 v1 u0 u1 ∧ ((appC σ ar (bs.length + 13) = 0 ∧ e = .returned .nilIface ∧ Lg x' B K L u0 u1 (appS σ ar (recB bs)) false gn ar (rc + 1) (wt + 1) (by_ + (m + 13))) ∨ (appC σ ar (bs.length + 13) ≠ 0 ∧ (∃ b, e = .returned (.iface 86 (.pointer (some ⟨b, 0, none⟩)))) ∧ Lg x' B K L u0 u1 (appS σ ar (recB bs)) true gn ar rc wt by_)) := by
  have HR : Hid (Calls Tryz.prog 27 #[.pointer (some ⟨L, 0, none⟩)] x fun e w' => e = .returned .nilIface ∧ w' = x) := ready_ok h
  have HP : Hid (∀ z, z = x ∨ z = x.drew → Calls Tryz.prog 29 #[.pointer (some ⟨K, 0, none⟩), .int .i64 ar, .slice po m k] z (PutQ x K ar po m k)) := fun z hz => put_q hz
  have HD : Hid (∀ y T, Below x.heap.size x y → y.cell? ⟨x.heap.size, 0, none⟩ = some (.pointer (some ⟨K, 0, none⟩)) → y.cell? ⟨x.heap.size + 1, 0, none⟩ = some (.int .i64 ar) → y.cell? ⟨x.heap.size + 2, 0, none⟩ = some (.slice po m k) → Calls Tryz.prog 28 #[.pointer (some ⟨L, 0, none⟩), .slice (some ⟨y.heap.size, 0, none⟩) 1 1] (y.alloc (.cells #[.func (.func 67) #[] #[.pointer (some ⟨x.heap.size, 0, none⟩), .pointer (some ⟨x.heap.size + 1, 0, none⟩), .pointer (some ⟨x.heap.size + 2, 0, none⟩)]] T)) (OneQ x B K L v0 v1 (appS σ ar (recB bs)) (appC σ ar (bs.length + 13)) gn ar rc wt by_)) := fun y T hy c1 c2 c3 =>
    append_do h hb hpo (by omega) hH (hy.alloc hy.size _) (Nat.le_refl _) (by omega) (by omega) ((World.cell?_alloc_lt _ _ ⟨x.heap.size, 0, none⟩ (cell_lt c1)).trans c1) ((World.cell?_alloc_lt _ _ ⟨x.heap.size + 1, 0, none⟩ (cell_lt c2)).trans c2) ((World.cell?_alloc_lt _ _ ⟨x.heap.size + 2, 0, none⟩ (cell_lt c3)).trans c3) (by simp)
  have c0 := h.c0
  have c3 := h.c3
  have c6 := h.c6
  have hl := h.lt
  have h0 : ¬ (m : Int) = 0 := by omega
  have h1 : ¬ (20000 : Int) < m := by omega
  have h2 : ¬ m = 0 := by omega
  have hb0 : ((m : Int) == 0) = false := by simp [h2]
  have hb1 : decide ((20000 : Int) < m) = false := by simp; omega
  have h3 : IntKind.i64.wrap (13 + (m : Int)) = 13 + m := wrap_id (by omega) (by omega)
  have h4 : IntKind.i64.wrap (by_ + (13 + (m : Int))) = by_ + (m + 13) := by rw [show by_ + (13 + (m : Int)) = by_ + (m + 13) by omega]; exact wrap_id (by omega) (by omega)
  have h5 : ¬ (16777216 : Int) < by_ + (m + 13) := by omega
  clear h hb hH hpo
  go_enter Tryz.func8, Tryz.ntmps8
  go_wp2_with fail
  refine HR.out.mono ?_
  rintro e w1 ⟨rfl, hw1⟩
  rw [hw1]
  clear hw1
  go_wp2_with fail
  go_region_held3 (fun y => y.cell? ⟨L, 0, none⟩ = some (.pointer (some ⟨K, 0, none⟩)) ∧ y.cell? ⟨L, 3, none⟩ = some (.int .i64 ar)) (first | (simp [*]; done) | simp [*, World.cell?_alloc_some]) (first | (go_at_call 29; refine (HP.out _ (by first | exact Or.inl rfl | exact Or.inr rfl)).mono ?_; rintro e y ⟨rfl, hby, m1, m2, m3⟩; have e0 : y.cell? ⟨L, 0, none⟩ = some (.pointer (some ⟨K, 0, none⟩)) := (hby.cell (p := ⟨L, 0, none⟩) hl).trans c0; have e3 : y.cell? ⟨L, 3, none⟩ = some (.int .i64 ar) := (hby.cell (p := ⟨L, 3, none⟩) hl).trans c3; have hly : L < y.heap.size := Nat.lt_of_lt_of_le hl hby.size) | (go_at_call 28; refine (HD.out _ _ hby m1 m2 m3).mono ?_; rintro e y2 ⟨ev, u0, u1, rfl, hs, hr⟩; have HQ : Hid (LStep x y2 K L v0 v1 u0 u1) := hs; clear hs; have d0 : y2.cell? ⟨L, 0, none⟩ = some (.pointer (some ⟨K, 0, none⟩)) := (by rcases hr with ⟨_, _, h⟩ | ⟨_, _, h⟩ <;> exact h.c0); have d3 : y2.cell? ⟨L, 3, none⟩ = some (.int .i64 ar) := (by rcases hr with ⟨_, _, h⟩ | ⟨_, _, h⟩ <;> exact h.c3)))
  all_goals
    rcases hr with ⟨hc, rfl, hg⟩ | ⟨hc, ⟨b, rfl⟩, hg⟩
    · have k4 := hg.c4
      have k5 := hg.c5
      have k6 := hg.c6
      have z4 := hg.fr 4
      have z5 := hg.fr 5
      have z6 := hg.fr 6
      have HG : Hid (Lg y2 B K L u0 u1 (appS σ ar (recB bs)) false gn ar rc wt by_) := hg
      have q4 : IntKind.i64.wrap (rc + 1) = rc + 1 := wrap_id (by omega) (by omega)
      have q5 : IntKind.i64.wrap (wt + 1) = wt + 1 := wrap_id (by omega) (by omega)
      have s45 : ∀ (X : World) (u : Value), (X.setCell ⟨L, 4, none⟩ u).cell? ⟨L, 5, none⟩ = X.cell? ⟨L, 5, none⟩ := fun X u => World.cell?_setCell_other _ _ _ _ (by simp)
      have s46 : ∀ (X : World) (u : Value), (X.setCell ⟨L, 4, none⟩ u).cell? ⟨L, 6, none⟩ = X.cell? ⟨L, 6, none⟩ := fun X u => World.cell?_setCell_other _ _ _ _ (by simp)
      have s56 : ∀ (X : World) (u : Value), (X.setCell ⟨L, 5, none⟩ u).cell? ⟨L, 6, none⟩ = X.cell? ⟨L, 6, none⟩ := fun X u => World.cell?_setCell_other _ _ _ _ (by simp)
      clear hg
      go_wp2_with fail
      go_ret
      exact ⟨u0, u1, ((HQ.out.trans (LStep.setCell _ K L u0 u1 4 _)).trans (LStep.setCell _ K L u0 u1 5 _)).trans (LStep.setCell _ K L u0 u1 6 _), Or.inl ⟨hc, rfl, ((HG.out.putRec _).putWait _).putBytes _⟩⟩
    · have HG : Hid (Lg y2 B K L u0 u1 (appS σ ar (recB bs)) true gn ar rc wt by_) := hg
      clear hg
      go_wp2_with fail
      go_ret
      exact ⟨u0, u1, HQ.out, Or.inr ⟨hc, ⟨b, rfl⟩, HG.out⟩⟩
end
end Go.Proofs.YthnpckmgnompiaaGreatDoor
