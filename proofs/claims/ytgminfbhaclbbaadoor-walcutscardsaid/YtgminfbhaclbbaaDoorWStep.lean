/-
  The log's steps: the closures that write.
-/
import Derived.Test.YtgminfbhaclbbaaDoorWHead
import Derived.Test.YtgminfbhaclbbaaDoorDkImage2
import Derived.Deep.RegionHeld3
namespace Go.Proofs.YtgminfbhaclbbaaDoor
open Go.RowKit Go.BigFrame

theorem EvD.low {w : World} {N M : Nat} {ev : Value} {c : Int} (h : EvD w N ev c) (hM : M ≤ N) : EvD w M ev c := by
  rcases h with h | ⟨b, h1, h2, h3, h4⟩
  · exact Or.inl h
  · exact Or.inr ⟨b, h1, h2, h3, by omega⟩
/-- What a write leaves: its error, the disk, all else as it was. -/
def StepQ (w : World) (B K : Nat) (v0 v1 : Value) (σ : Sg) (code : Int) (e : Ending) (w' : World) : Prop := ∃ ev v0' v1', e = .returned ev ∧ EvD w' w.heap.size ev code ∧ DskS w' B K v0' v1' σ ∧ DStep w w' K v0 v1 v0' v1'
theorem StepQ.pre {w x : World} {B K : Nat} {v0 v1 : Value} {σ : Sg} {code : Int} {e : Ending} {w' : World} (h : StepQ x B K v0 v1 σ code e w') (hb : Below w.heap.size w x) : StepQ w B K v0 v1 σ code e w' := by
  obtain ⟨ev, u0, u1, he, hv, hd, hs⟩ := h
  exact ⟨ev, u0, u1, he, hv.low hb.size, hd, (DStep.of_below K v0 v1 hb).trans hs⟩
theorem record_new {po : Option Addr} {m k : Nat} {bs : List Int} (w : World) (hb : Byts w po m bs) (hpo : po = none → k = 0) (hm : m ≤ 16777216) (hH : Halves w) :
    Calls Tryd.prog 50 #[.slice none 0 0, .slice po m k] w fun e w' => ∃ a n c, e = .returned (.slice a n c) ∧ Row w' w.heap.size (.slice a n c) (recB bs) ∧ Below w.heap.size w w' :=
  (record_any w (Row.nil w w.heap.size) (Nat.le_refl _) hb hpo (fun b o _ _ h => by simp [Value.ownBlock] at h) (by omega) (by simp; omega) hH (cell_lt (hH 0 (by omega)))).mono fun e w' ⟨a, n, c, he, L⟩ =>
    ⟨a, n, c, he, by simpa using L.1, L.2.1.below (Nat.le_refl _) (fun k g => by simp [Value.ownBlock] at g)⟩
section
variable {w : World} {B K : Nat} {v0 v1 : Value} {σ : Sg} {b1 b2 b3 : Nat} {ar : Int}
set_option maxRecDepth 100000 in
set_option maxHeartbeats 4000000 in
theorem syncF (h : DskS w B K v0 v1 σ) (c1 : w.cell? ⟨b1, 0, none⟩ = some (.pointer (some ⟨K, 0, none⟩))) (c2 : w.cell? ⟨b2, 0, none⟩ = some (.int .i64 ar)) (f1 : ¬ Foot K v0 v1 b1) (f2 : ¬ Foot K v0 v1 b2) :
    Calls Tryd.prog 51 #[.pointer (some ⟨b1, 0, none⟩), .pointer (some ⟨b2, 0, none⟩)] w (StepQ w B K v0 v1 (synS σ ar) (synC σ ar)) := by
  have l1 : b1 < w.heap.size := cell_lt c1
  have l2 : b2 < w.heap.size := cell_lt c2
  have HC : Hid (∀ x, Below w.heap.size w x → Calls Tryd.prog 52 #[.pointer (some ⟨K, 0, none⟩), .int .i64 ar] x fun e x' => ∃ ev, e = .returned ev ∧ StepQ w B K v0 v1 (synS σ ar) (synC σ ar) (.returned ev) x' ∧ x'.cell? ⟨b1, 0, none⟩ = some (.pointer (some ⟨K, 0, none⟩)) ∧ x'.cell? ⟨b2, 0, none⟩ = some (.int .i64 ar)) := fun x hx =>
    (dSync (h.off (P := fun _ => False) (Off.of_below hx) (fun _ _ => id)) ar).mono fun e x' ⟨ev, u0, u1, he, hv, hd, hs⟩ =>
      ⟨ev, he, (show StepQ x B K v0 v1 _ _ (.returned ev) x' from ⟨ev, u0, u1, rfl, hv, hd, hs⟩).pre hx, (hs.off.cell (p := ⟨b1, 0, none⟩) (Nat.lt_of_lt_of_le l1 hx.size) f1).trans ((hx.cell (p := ⟨b1, 0, none⟩) l1).trans c1), (hs.off.cell (p := ⟨b2, 0, none⟩) (Nat.lt_of_lt_of_le l2 hx.size) f2).trans ((hx.cell (p := ⟨b2, 0, none⟩) l2).trans c2)⟩
  clear h
  go_enter Tryd.func51, Tryd.ntmps51
  go_wp2_with fail
  refine (HC.out _ (Below.refl _ _)).mono ?_
  rintro e x2 ⟨ev, rfl, hq, k1, k2⟩
  go_wp2_with fail
  go_ret
  exact hq
set_option maxRecDepth 100000 in
set_option maxHeartbeats 4000000 in
theorem cutF {n : Int} (h : DskS w B K v0 v1 σ) (c1 : w.cell? ⟨b1, 0, none⟩ = some (.pointer (some ⟨K, 0, none⟩))) (c2 : w.cell? ⟨b2, 0, none⟩ = some (.int .i64 ar)) (c3 : w.cell? ⟨b3, 0, none⟩ = some (.int .i64 n)) (f1 : ¬ Foot K v0 v1 b1) (f2 : ¬ Foot K v0 v1 b2) (f3 : ¬ Foot K v0 v1 b3) :
    Calls Tryd.prog 65 #[.pointer (some ⟨b1, 0, none⟩), .pointer (some ⟨b2, 0, none⟩), .pointer (some ⟨b3, 0, none⟩)] w (StepQ w B K v0 v1 (cutS σ ar n) (cutC σ ar n)) := by
  have l1 : b1 < w.heap.size := cell_lt c1
  have l2 : b2 < w.heap.size := cell_lt c2
  have l3 : b3 < w.heap.size := cell_lt c3
  have HC : Hid (∀ x, Below w.heap.size w x → Calls Tryd.prog 66 #[.pointer (some ⟨K, 0, none⟩), .int .i64 ar, .int .i64 n] x fun e x' => ∃ ev, e = .returned ev ∧ StepQ w B K v0 v1 (cutS σ ar n) (cutC σ ar n) (.returned ev) x' ∧ x'.cell? ⟨b1, 0, none⟩ = some (.pointer (some ⟨K, 0, none⟩)) ∧ x'.cell? ⟨b2, 0, none⟩ = some (.int .i64 ar) ∧ x'.cell? ⟨b3, 0, none⟩ = some (.int .i64 n)) := fun x hx =>
    (dCut (h.off (P := fun _ => False) (Off.of_below hx) (fun _ _ => id)) ar n).mono fun e x' ⟨ev, u0, u1, he, hv, hd, hs⟩ =>
      ⟨ev, he, (show StepQ x B K v0 v1 _ _ (.returned ev) x' from ⟨ev, u0, u1, rfl, hv, hd, hs⟩).pre hx, (hs.off.cell (p := ⟨b1, 0, none⟩) (Nat.lt_of_lt_of_le l1 hx.size) f1).trans ((hx.cell (p := ⟨b1, 0, none⟩) l1).trans c1), (hs.off.cell (p := ⟨b2, 0, none⟩) (Nat.lt_of_lt_of_le l2 hx.size) f2).trans ((hx.cell (p := ⟨b2, 0, none⟩) l2).trans c2), (hs.off.cell (p := ⟨b3, 0, none⟩) (Nat.lt_of_lt_of_le l3 hx.size) f3).trans ((hx.cell (p := ⟨b3, 0, none⟩) l3).trans c3)⟩
  clear h
  go_enter Tryd.func65, Tryd.ntmps65
  go_wp2_with fail
  refine (HC.out _ (Below.refl _ _)).mono ?_
  rintro e x2 ⟨ev, rfl, hq, k1, k2, k3⟩
  go_wp2_with fail
  go_ret
  exact hq
set_option maxRecDepth 100000 in
set_option maxHeartbeats 4000000 in
theorem putF {po : Option Addr} {m k : Nat} {bs : List Int} (h : DskS w B K v0 v1 σ) (c1 : w.cell? ⟨b1, 0, none⟩ = some (.pointer (some ⟨K, 0, none⟩))) (c2 : w.cell? ⟨b2, 0, none⟩ = some (.int .i64 ar)) (c3 : w.cell? ⟨b3, 0, none⟩ = some (.slice po m k)) (f1 : ¬ Foot K v0 v1 b1) (f2 : ¬ Foot K v0 v1 b2) (f3 : ¬ Foot K v0 v1 b3) (hb : Byts w po m bs) (hpo : po = none → k = 0) (hm : m ≤ 16777216) (hH : Halves w) :
    Calls Tryd.prog 48 #[.pointer (some ⟨b1, 0, none⟩), .pointer (some ⟨b2, 0, none⟩), .pointer (some ⟨b3, 0, none⟩)] w (StepQ w B K v0 v1 (appS σ ar (recB bs)) (appC σ ar (bs.length + 13))) := by
  have l1 : b1 < w.heap.size := cell_lt c1
  have l2 : b2 < w.heap.size := cell_lt c2
  have l3 : b3 < w.heap.size := cell_lt c3
  have HR : Hid (∀ x, Below w.heap.size w x → Calls Tryd.prog 50 #[.slice none 0 0, .slice po m k] x fun e x' => ∃ a n c, e = .returned (.slice a n c) ∧ Row x' w.heap.size (.slice a n c) (recB bs) ∧ Below w.heap.size w x') := fun x hx =>
    (record_new x (hb.below hx) hpo hm (fun j hj => (hx.cell (p := ⟨1, j, none⟩) (cell_lt (hH j hj))).trans (hH j hj))).mono fun e x' ⟨a, n, c, he, hr, hbl⟩ => ⟨a, n, c, he, hr.base hx.size, hx.trans (hbl.mono hx.size)⟩
  have HC : Hid (∀ x, Below w.heap.size w x → ∀ a n c, Row x w.heap.size (.slice a n c) (recB bs) → Calls Tryd.prog 49 #[.pointer (some ⟨K, 0, none⟩), .int .i64 ar, .slice a n c] x fun e x' => ∃ ev, e = .returned ev ∧ StepQ w B K v0 v1 (appS σ ar (recB bs)) (appC σ ar (bs.length + 13)) (.returned ev) x' ∧ x'.cell? ⟨b1, 0, none⟩ = some (.pointer (some ⟨K, 0, none⟩)) ∧ x'.cell? ⟨b2, 0, none⟩ = some (.int .i64 ar) ∧ x'.cell? ⟨b3, 0, none⟩ = some (.slice po m k)) := fun x hx a n c hr => by
    obtain ⟨hn, hby, hno, hge⟩ := hr.byts'
    have hlen : n = bs.length + 13 := by rw [hn, recB_len]
    refine (dAppend (h.off (P := fun _ => False) (Off.of_below hx) (fun _ _ => id)) ar hby hno (fun b o e g => by have := (h.foot_lt g).2; have := hge b o e; omega)).mono fun e x' ⟨ev, u0, u1, he, hv, hd, hs⟩ => ?_
    rw [hlen] at hv
    exact ⟨ev, he, (show StepQ x B K v0 v1 _ _ (.returned ev) x' from ⟨ev, u0, u1, rfl, hv, hd, hs⟩).pre hx, (hs.off.cell (p := ⟨b1, 0, none⟩) (Nat.lt_of_lt_of_le l1 hx.size) f1).trans ((hx.cell (p := ⟨b1, 0, none⟩) l1).trans c1), (hs.off.cell (p := ⟨b2, 0, none⟩) (Nat.lt_of_lt_of_le l2 hx.size) f2).trans ((hx.cell (p := ⟨b2, 0, none⟩) l2).trans c2), (hs.off.cell (p := ⟨b3, 0, none⟩) (Nat.lt_of_lt_of_le l3 hx.size) f3).trans ((hx.cell (p := ⟨b3, 0, none⟩) l3).trans c3)⟩
  clear h hb hH hpo
  go_enter Tryd.func48, Tryd.ntmps48
  go_wp2_with fail
  go_region_held3 (fun x => x.cell? ⟨b1, 0, none⟩ = some (.pointer (some ⟨K, 0, none⟩)) ∧ x.cell? ⟨b2, 0, none⟩ = some (.int .i64 ar) ∧ x.cell? ⟨b3, 0, none⟩ = some (.slice po m k)) (simp [*]) (first | (go_at_call 50; refine (HR.out _ ?_).mono ?_; (first | exact Below.refl _ _ | exact Below.drew (Below.refl _ _)); rintro e x1 ⟨a, n, c, rfl, hr, hx1⟩; have e1 : x1.cell? ⟨b1, 0, none⟩ = some (.pointer (some ⟨K, 0, none⟩)) := (hx1.cell (p := ⟨b1, 0, none⟩) l1).trans c1; have e2 : x1.cell? ⟨b2, 0, none⟩ = some (.int .i64 ar) := (hx1.cell (p := ⟨b2, 0, none⟩) l2).trans c2; have e3 : x1.cell? ⟨b3, 0, none⟩ = some (.slice po m k) := (hx1.cell (p := ⟨b3, 0, none⟩) l3).trans c3) | (go_at_call 49; refine (HC.out _ hx1 _ _ _ hr).mono ?_; rintro e x2 ⟨ev, rfl, hq, k1, k2, k3⟩))
  all_goals
    go_wp2_with fail
    go_ret
    exact hq
end
end Go.Proofs.YtgminfbhaclbbaaDoor
