import Derived.Test.YthnpckmgnompiaaGreatDoorWHead
import Derived.Test.YthnpckmgnompiaaGreatDoorDkImage2
import Derived.Deep.RegionHeld3
import Derived.Test.YthnpckmgnompiaaGreatDoorDkRow
import Derived.Shelf.Abstract
/-
  The log's steps: the closures that write.
-/
namespace Go.Proofs.YthnpckmgnompiaaGreatDoor
open Go.RowKit Go.BigFrame

theorem EvD.low {w : World} {N M : Nat} {ev : Value} {c : Int} (h : EvD w N ev c) (hM : M ≤ N) : EvD w M ev c := by
  rcases h with h | ⟨b, h1, h2, h3, h4⟩
  · exact Or.inl h
  · exact Or.inr ⟨b, h1, h2, h3, by omega⟩
/-- What a write leaves: its error, the disk, all else as it was. -/
def StepQ (w : World) (B K : Nat) (v0 v1 : Value) (σ : Sg) (code : Int) (e : Ending) (w' : World) : Prop := ∃ ev v0' v1', e = .returned ev ∧ EvD w' w.heap.size ev code ∧ DskS w' B K v0' v1' σ ∧ DStep w w' K v0 v1 v0' v1'
theorem StepQ.pre {w x : World} {B K : Nat} {v0 v1 : Value} {σ : Sg} {code : Int} {e : Ending} {w' : World} (h : StepQ x B K v0 v1 σ code e w') (hb : Below w.heap.size w x) : StepQ w B K v0 v1 σ code e w' := by
  obtain ⟨ev, u0, u1, he, hv, hd, hs⟩ := h
  exact ⟨ev, u0, u1, he, hv.low hb.size, hd, (DStep.of_below K v0 v1 hb).trans hs⟩
theorem record_new {po : Option Addr} {m k : Nat} {bs : List Int} (w : World) (hb : Byts w po m bs) (hpo : po = none → k = 0) (hm : m ≤ 16777216) (hH : Halves w) :
    Calls Tryz.prog 55 #[.slice none 0 0, .slice po m k] w fun e w' => ∃ a n c, e = .returned (.slice a n c) ∧ Row w' w.heap.size (.slice a n c) (recB bs) ∧ Below w.heap.size w w' :=
  (record_any w (Row.nil w w.heap.size) (Nat.le_refl _) hb hpo (fun b o _ _ h => by simp [Value.ownBlock] at h) (by omega) (by simp; omega) hH (cell_lt (hH 0 (by omega)))).mono fun e w' ⟨a, n, c, he, L⟩ =>
    ⟨a, n, c, he, by simpa using L.1, L.2.1.below (Nat.le_refl _) (fun k g => by simp [Value.ownBlock] at g)⟩
section
variable {w : World} {B K : Nat} {v0 v1 : Value} {σ : Sg} {b1 b2 b3 : Nat} {ar : Int}
set_option maxRecDepth 100000 in
set_option maxHeartbeats 4000000 in
theorem syncF (h : DskS w B K v0 v1 σ) (c1 : w.cell? ⟨b1, 0, none⟩ = some (.pointer (some ⟨K, 0, none⟩))) (c2 : w.cell? ⟨b2, 0, none⟩ = some (.int .i64 ar)) (f1 : ¬ Foot K v0 v1 b1) (f2 : ¬ Foot K v0 v1 b2) :
    Calls Tryz.prog 57 #[.pointer (some ⟨b1, 0, none⟩), .pointer (some ⟨b2, 0, none⟩)] w (StepQ w B K v0 v1 (synS σ ar) (synC σ ar)) := by
  have l1 : b1 < w.heap.size := cell_lt c1
  have l2 : b2 < w.heap.size := cell_lt c2
  have HC : Hid (∀ x, Below w.heap.size w x → Calls Tryz.prog 58 #[.pointer (some ⟨K, 0, none⟩), .int .i64 ar] x fun e x' => ∃ ev, e = .returned ev ∧ StepQ w B K v0 v1 (synS σ ar) (synC σ ar) (.returned ev) x' ∧ x'.cell? ⟨b1, 0, none⟩ = some (.pointer (some ⟨K, 0, none⟩)) ∧ x'.cell? ⟨b2, 0, none⟩ = some (.int .i64 ar)) := fun x hx =>
    (dSync (h.off (P := fun _ => False) (Off.of_below hx) (fun _ _ => id)) ar).mono fun e x' ⟨ev, u0, u1, he, hv, hd, hs⟩ =>
      ⟨ev, he, (show StepQ x B K v0 v1 _ _ (.returned ev) x' from ⟨ev, u0, u1, rfl, hv, hd, hs⟩).pre hx, (hs.off.cell (p := ⟨b1, 0, none⟩) (Nat.lt_of_lt_of_le l1 hx.size) f1).trans ((hx.cell (p := ⟨b1, 0, none⟩) l1).trans c1), (hs.off.cell (p := ⟨b2, 0, none⟩) (Nat.lt_of_lt_of_le l2 hx.size) f2).trans ((hx.cell (p := ⟨b2, 0, none⟩) l2).trans c2)⟩
  clear h
  go_enter Tryz.func57, Tryz.ntmps57
  go_wp2_with fail
  refine (HC.out _ (Below.refl _ _)).mono ?_
  rintro e x2 ⟨ev, rfl, hq, k1, k2⟩
  go_wp2_with fail
  go_ret
  exact hq
set_option maxRecDepth 100000 in
set_option maxHeartbeats 4000000 in
theorem cutF {n : Int} (h : DskS w B K v0 v1 σ) (c1 : w.cell? ⟨b1, 0, none⟩ = some (.pointer (some ⟨K, 0, none⟩))) (c2 : w.cell? ⟨b2, 0, none⟩ = some (.int .i64 ar)) (c3 : w.cell? ⟨b3, 0, none⟩ = some (.int .i64 n)) (f1 : ¬ Foot K v0 v1 b1) (f2 : ¬ Foot K v0 v1 b2) (f3 : ¬ Foot K v0 v1 b3) :
    Calls Tryz.prog 51 #[.pointer (some ⟨b1, 0, none⟩), .pointer (some ⟨b2, 0, none⟩), .pointer (some ⟨b3, 0, none⟩)] w (StepQ w B K v0 v1 (cutS σ ar n) (cutC σ ar n)) := by
  have l1 : b1 < w.heap.size := cell_lt c1
  have l2 : b2 < w.heap.size := cell_lt c2
  have l3 : b3 < w.heap.size := cell_lt c3
  have HC : Hid (∀ x, Below w.heap.size w x → Calls Tryz.prog 52 #[.pointer (some ⟨K, 0, none⟩), .int .i64 ar, .int .i64 n] x fun e x' => ∃ ev, e = .returned ev ∧ StepQ w B K v0 v1 (cutS σ ar n) (cutC σ ar n) (.returned ev) x' ∧ x'.cell? ⟨b1, 0, none⟩ = some (.pointer (some ⟨K, 0, none⟩)) ∧ x'.cell? ⟨b2, 0, none⟩ = some (.int .i64 ar) ∧ x'.cell? ⟨b3, 0, none⟩ = some (.int .i64 n)) := fun x hx =>
    (dCut (h.off (P := fun _ => False) (Off.of_below hx) (fun _ _ => id)) ar n).mono fun e x' ⟨ev, u0, u1, he, hv, hd, hs⟩ =>
      ⟨ev, he, (show StepQ x B K v0 v1 _ _ (.returned ev) x' from ⟨ev, u0, u1, rfl, hv, hd, hs⟩).pre hx, (hs.off.cell (p := ⟨b1, 0, none⟩) (Nat.lt_of_lt_of_le l1 hx.size) f1).trans ((hx.cell (p := ⟨b1, 0, none⟩) l1).trans c1), (hs.off.cell (p := ⟨b2, 0, none⟩) (Nat.lt_of_lt_of_le l2 hx.size) f2).trans ((hx.cell (p := ⟨b2, 0, none⟩) l2).trans c2), (hs.off.cell (p := ⟨b3, 0, none⟩) (Nat.lt_of_lt_of_le l3 hx.size) f3).trans ((hx.cell (p := ⟨b3, 0, none⟩) l3).trans c3)⟩
  clear h
  go_enter Tryz.func51, Tryz.ntmps51
  go_wp2_with fail
  refine (HC.out _ (Below.refl _ _)).mono ?_
  rintro e x2 ⟨ev, rfl, hq, k1, k2, k3⟩
  go_wp2_with fail
  go_ret
  exact hq
set_option maxRecDepth 100000 in
set_option maxHeartbeats 4000000 in
theorem putF {po : Option Addr} {m k : Nat} {bs : List Int} (h : DskS w B K v0 v1 σ) (c1 : w.cell? ⟨b1, 0, none⟩ = some (.pointer (some ⟨K, 0, none⟩))) (c2 : w.cell? ⟨b2, 0, none⟩ = some (.int .i64 ar)) (c3 : w.cell? ⟨b3, 0, none⟩ = some (.slice po m k)) (f1 : ¬ Foot K v0 v1 b1) (f2 : ¬ Foot K v0 v1 b2) (f3 : ¬ Foot K v0 v1 b3) (hb : Byts w po m bs) (hpo : po = none → k = 0) (hm : m ≤ 16777216) (hH : Halves w) :
    Calls Tryz.prog 67 #[.pointer (some ⟨b1, 0, none⟩), .pointer (some ⟨b2, 0, none⟩), .pointer (some ⟨b3, 0, none⟩)] w (StepQ w B K v0 v1 (appS σ ar (recB bs)) (appC σ ar (bs.length + 13))) := by
  have l1 : b1 < w.heap.size := cell_lt c1
  have l2 : b2 < w.heap.size := cell_lt c2
  have l3 : b3 < w.heap.size := cell_lt c3
  have HR : Hid (∀ x, Below w.heap.size w x → Calls Tryz.prog 55 #[.slice none 0 0, .slice po m k] x fun e x' => ∃ a n c, e = .returned (.slice a n c) ∧ Row x' w.heap.size (.slice a n c) (recB bs) ∧ Below w.heap.size w x') := fun x hx =>
    (record_new x (hb.below hx) hpo hm (fun j hj => (hx.cell (p := ⟨1, j, none⟩) (cell_lt (hH j hj))).trans (hH j hj))).mono fun e x' ⟨a, n, c, he, hr, hbl⟩ => ⟨a, n, c, he, hr.base hx.size, hx.trans (hbl.mono hx.size)⟩
  have HC : Hid (∀ x, Below w.heap.size w x → ∀ a n c, Row x w.heap.size (.slice a n c) (recB bs) → Calls Tryz.prog 54 #[.pointer (some ⟨K, 0, none⟩), .int .i64 ar, .slice a n c] x fun e x' => ∃ ev, e = .returned ev ∧ StepQ w B K v0 v1 (appS σ ar (recB bs)) (appC σ ar (bs.length + 13)) (.returned ev) x' ∧ x'.cell? ⟨b1, 0, none⟩ = some (.pointer (some ⟨K, 0, none⟩)) ∧ x'.cell? ⟨b2, 0, none⟩ = some (.int .i64 ar) ∧ x'.cell? ⟨b3, 0, none⟩ = some (.slice po m k)) := fun x hx a n c hr => by
    obtain ⟨hn, hby, hno, hge⟩ := hr.byts'
    have hlen : n = bs.length + 13 := by rw [hn, recB_len]
    refine (dAppend (h.off (P := fun _ => False) (Off.of_below hx) (fun _ _ => id)) ar hby hno (fun b o e g => by have := (h.foot_lt g).2; have := hge b o e; omega)).mono fun e x' ⟨ev, u0, u1, he, hv, hd, hs⟩ => ?_
    rw [hlen] at hv
    exact ⟨ev, he, (show StepQ x B K v0 v1 _ _ (.returned ev) x' from ⟨ev, u0, u1, rfl, hv, hd, hs⟩).pre hx, (hs.off.cell (p := ⟨b1, 0, none⟩) (Nat.lt_of_lt_of_le l1 hx.size) f1).trans ((hx.cell (p := ⟨b1, 0, none⟩) l1).trans c1), (hs.off.cell (p := ⟨b2, 0, none⟩) (Nat.lt_of_lt_of_le l2 hx.size) f2).trans ((hx.cell (p := ⟨b2, 0, none⟩) l2).trans c2), (hs.off.cell (p := ⟨b3, 0, none⟩) (Nat.lt_of_lt_of_le l3 hx.size) f3).trans ((hx.cell (p := ⟨b3, 0, none⟩) l3).trans c3)⟩
  clear h hb hH hpo
  go_enter Tryz.func67, Tryz.ntmps67
  go_wp2_with fail
  go_region_held3 (fun x => x.cell? ⟨b1, 0, none⟩ = some (.pointer (some ⟨K, 0, none⟩)) ∧ x.cell? ⟨b2, 0, none⟩ = some (.int .i64 ar) ∧ x.cell? ⟨b3, 0, none⟩ = some (.slice po m k)) (simp [*]) (first | (go_at_call 55; refine (HR.out _ ?_).mono ?_; (first | exact Below.refl _ _ | exact Below.drew (Below.refl _ _)); rintro e x1 ⟨a, n, c, rfl, hr, hx1⟩; have e1 : x1.cell? ⟨b1, 0, none⟩ = some (.pointer (some ⟨K, 0, none⟩)) := (hx1.cell (p := ⟨b1, 0, none⟩) l1).trans c1; have e2 : x1.cell? ⟨b2, 0, none⟩ = some (.int .i64 ar) := (hx1.cell (p := ⟨b2, 0, none⟩) l2).trans c2; have e3 : x1.cell? ⟨b3, 0, none⟩ = some (.slice po m k) := (hx1.cell (p := ⟨b3, 0, none⟩) l3).trans c3) | (go_at_call 54; refine (HC.out _ hx1 _ _ _ hr).mono ?_; rintro e x2 ⟨ev, rfl, hq, k1, k2, k3⟩))
  all_goals
    go_wp2_with fail
    go_ret
    exact hq
end
end Go.Proofs.YthnpckmgnompiaaGreatDoor

/-
  The log's play: steps one behind the other.
-/
namespace Go.Proofs.YthnpckmgnompiaaGreatDoor
open Go.RowKit Go.BigFrame

theorem wrefused_any {b : Nat} (w : World) : Calls Tryz.prog 50 #[.iface 86 (.pointer (some ⟨b, 0, none⟩))] w fun e w' => e = .returned (.iface 86 (.pointer (some ⟨w.heap.size, 0, none⟩))) ∧ w' = w.alloc (.cells #[.string ⟨#[119, 97, 108]⟩, .int .i64 0, .int .i64 63, .iface 86 (.pointer (some ⟨b, 0, none⟩))] 90) := by
  go_enter Tryz.func50, Tryz.ntmps50
  go_wp2_with fail
  go_ret
  exact ⟨rfl, rfl⟩
/-- An error of play's: a step's, and it stands under. -/
def PErr (F : Nat → Nat → World → Prop) (n : Nat) (e : Ending) (w' : World) : Prop := ∃ j b x, j < n ∧ F j b x ∧ e = .returned (.iface 86 (.pointer (some ⟨x.heap.size, 0, none⟩))) ∧ w' = x.alloc (.cells #[.string ⟨#[119, 97, 108]⟩, .int .i64 0, .int .i64 63, .iface 86 (.pointer (some ⟨b, 0, none⟩))] 90)
set_option maxRecDepth 100000 in
set_option maxHeartbeats 4000000 in
theorem play_any {w : World} {g n cap : Nat} {I : Nat → World → Prop} {F : Nat → Nat → World → Prop} (hI : ∀ j x, j < n → I j x → ∃ f caps, x.cell? ⟨g, j, none⟩ = some (.func (.func f) #[] caps) ∧ Enters Tryz.prog f ∧ Calls Tryz.prog f caps x fun e x' => (e = .returned .nilIface ∧ I (j + 1) x') ∨ (∃ b, e = .returned (.iface 86 (.pointer (some ⟨b, 0, none⟩))) ∧ F j b x')) (hn : n ≤ 1048576) (h0 : I 0 w) :
    Calls Tryz.prog 16 #[.slice (some ⟨g, 0, none⟩) n cap] w fun e w' => (e = .returned .nilIface ∧ I n w') ∨ PErr F n e w' := by
  have HI : Hid (∀ j x, j < n → I j x → ∃ f caps, x.cell? ⟨g, j, none⟩ = some (.func (.func f) #[] caps) ∧ Enters Tryz.prog f ∧ Calls Tryz.prog f caps x fun e x' => (e = .returned .nilIface ∧ I (j + 1) x') ∨ (∃ b, e = .returned (.iface 86 (.pointer (some ⟨b, 0, none⟩))) ∧ F j b x')) := hI
  have H0 : Hid (I 0 w) := h0
  clear hI h0
  go_enter Tryz.func16, Tryz.ntmps16
  go_wp2_with fail
  go_loopw [4, 5, 8] (fun t4 t5 t8 wx => ∃ i : Nat, i ≤ n ∧ t8 = .int .i64 i ∧ Hid (I i wx)) (fun _ _ t8 _ => n - (intOf t8).toNat)
  case atStart => exact ⟨0, Nat.zero_le _, rfl, H0⟩
  case round =>
    obtain ⟨i, hi, rfl, HR⟩ := hrel
    by_cases hlt : i < n
    · have hlti : (i : Int) < n := by omega
      obtain ⟨f, caps, hc, hen, hcall⟩ := HI.out i wr hlt HR.out
      have hen' : ∀ (args : Array Value) (x : World), (callFunc f args).run Tryz.prog x = .ok (.enter f args) x := hen
      clear hen
      have HC : Hid (Calls Tryz.prog f caps wr fun e x' => (e = .returned .nilIface ∧ I (i + 1) x') ∨ (∃ b, e = .returned (.iface 86 (.pointer (some ⟨b, 0, none⟩))) ∧ F i b x')) := hcall
      clear hcall
      go_wp2_with fail
      refine HC.out.mono ?_
      rintro e x' (⟨rfl, hx⟩ | ⟨b, rfl, hf⟩)
      · have HX : Hid (I (i + 1) x') := hx
        clear hx HC HR
        go_wp2_with fail
        go_roundw
        case rel => exact ⟨i + 1, hlt, by go_num, HX⟩
        case measure => simp [intOf]; omega
      · have HX : Hid (F i b x') := hf
        clear hf HC HR
        go_wp2_with fail
        refine (wrefused_any _).mono ?_
        rintro e x2 ⟨rfl, hx2⟩
        go_wp2_with fail
        go_ret
        exact Or.inr ⟨i, b, x', hlt, HX.out, rfl, rfl⟩
    · have hlti : ¬ (i : Int) < n := by omega
      have hin : i = n := by omega
      subst hin
      go_wp2_with fail
      go_ret
      exact Or.inl ⟨rfl, HR.out⟩
end Go.Proofs.YthnpckmgnompiaaGreatDoor

/-
  A log in memory; its do, ready.
-/
namespace Go.Proofs.YthnpckmgnompiaaGreatDoor
open Go.RowKit Go.BigFrame

/-- A log in memory (block L) over its disk (block K). -/
structure Lg (x : World) (B K L : Nat) (v0 v1 : Value) (σ : Sg) (dd : Bool) (gn ar rc wt by_ : Int) : Prop where
  d : DskS x B K v0 v1 σ
  c0 : x.cell? ⟨L, 0, none⟩ = some (.pointer (some ⟨K, 0, none⟩))
  c1 : x.cell? ⟨L, 1, none⟩ = some (.bool dd)
  c2 : x.cell? ⟨L, 2, none⟩ = some (.int .u64 gn)
  c3 : x.cell? ⟨L, 3, none⟩ = some (.int .i64 ar)
  c4 : x.cell? ⟨L, 4, none⟩ = some (.int .i64 rc)
  c5 : x.cell? ⟨L, 5, none⟩ = some (.int .i64 wt)
  c6 : x.cell? ⟨L, 6, none⟩ = some (.int .i64 by_)
  fr : ∀ o, x.frozen? ⟨L, o, none⟩ = false
  nf : ¬ Foot K v0 v1 L
  ge : B ≤ L
/-- What a call of a log leaves of all else. -/
structure LStep (x x' : World) (K L : Nat) (v0 v1 u0 u1 : Value) : Prop where
  off : Off (fun k => Foot K v0 v1 k ∨ k = L) x x'
  foot : ∀ k, k < x.heap.size → Foot K u0 u1 k → Foot K v0 v1 k
section
variable {x x' x'' : World} {B K L : Nat} {v0 v1 u0 u1 z0 z1 : Value} {σ τ : Sg} {dd : Bool} {gn ar rc wt by_ : Int}
theorem Lg.lt (h : Lg x B K L v0 v1 σ dd gn ar rc wt by_) : L < x.heap.size := cell_lt h.c0
theorem Lg.below (h : Lg x B K L v0 v1 σ dd gn ar rc wt by_) (hb : Below x.heap.size x x') : Lg x' B K L v0 v1 σ dd gn ar rc wt by_ := by
  have hl := h.lt
  have hc : ∀ o, x'.cell? ⟨L, o, none⟩ = x.cell? ⟨L, o, none⟩ := fun o => hb.cell (p := ⟨L, o, none⟩) hl
  exact ⟨h.d.off (P := fun _ => False) (Off.of_below hb) (fun _ _ => id), (hc 0).trans h.c0, (hc 1).trans h.c1, (hc 2).trans h.c2, (hc 3).trans h.c3, (hc 4).trans h.c4, (hc 5).trans h.c5, (hc 6).trans h.c6, fun o => (hb.frozen (p := ⟨L, o, none⟩) hl).trans (h.fr o), h.nf, h.ge⟩
theorem Lg.step (h : Lg x B K L v0 v1 σ dd gn ar rc wt by_) (d : DskS x' B K u0 u1 τ) (s : DStep x x' K v0 v1 u0 u1) : Lg x' B K L u0 u1 τ dd gn ar rc wt by_ := by
  have hl := h.lt
  have hc : ∀ o, x'.cell? ⟨L, o, none⟩ = x.cell? ⟨L, o, none⟩ := fun o => s.off.cell (p := ⟨L, o, none⟩) hl h.nf
  exact ⟨d, (hc 0).trans h.c0, (hc 1).trans h.c1, (hc 2).trans h.c2, (hc 3).trans h.c3, (hc 4).trans h.c4, (hc 5).trans h.c5, (hc 6).trans h.c6, fun o => (s.off.frozen (p := ⟨L, o, none⟩) hl h.nf).trans (h.fr o), fun g => h.nf (s.foot _ hl g), h.ge⟩
theorem LStep.refl (x : World) (K L : Nat) (v0 v1 : Value) : LStep x x K L v0 v1 v0 v1 := ⟨Off.refl _ _, fun _ _ h => h⟩
theorem LStep.of_below (K L : Nat) (v0 v1 : Value) (h : Below x.heap.size x x') : LStep x x' K L v0 v1 v0 v1 := ⟨Off.of_below h, fun _ _ g => g⟩
theorem LStep.trans (h : LStep x x' K L v0 v1 u0 u1) (k : LStep x' x'' K L u0 u1 z0 z1) : LStep x x'' K L v0 v1 z0 z1 :=
  ⟨h.off.join k.off (fun i hi g => g.imp (h.foot i hi) id), fun i hi g => h.foot i hi (k.foot i (Nat.lt_of_lt_of_le hi h.off.size) g)⟩
theorem LStep.of_step (L : Nat) (s : DStep x x' K v0 v1 u0 u1) : LStep x x' K L v0 v1 u0 u1 := ⟨s.off.mono (fun _ g => Or.inl g), s.foot⟩
theorem LStep.setCell (x : World) (K L : Nat) (v0 v1 : Value) (o : Nat) (u : Value) : LStep x (x.setCell ⟨L, o, none⟩ u) K L v0 v1 v0 v1 := ⟨(Off.refl _ _).setCell (p := ⟨L, o, none⟩) (Or.inr rfl) u, fun _ _ g => g⟩
theorem Lg.put (h : Lg x B K L v0 v1 σ dd gn ar rc wt by_) (o : Nat) (u : Value) : DskS (x.setCell ⟨L, o, none⟩ u) B K v0 v1 σ ∧ (∀ q, q ≠ o → (x.setCell ⟨L, o, none⟩ u).cell? ⟨L, q, none⟩ = x.cell? ⟨L, q, none⟩) ∧ (∀ q, (x.setCell ⟨L, o, none⟩ u).frozen? ⟨L, q, none⟩ = false) :=
  have off : Off (fun k => k = L) x (x.setCell ⟨L, o, none⟩ u) := (Off.refl (fun k => k = L) x).setCell (p := ⟨L, o, none⟩) rfl u
  ⟨h.d.off off (fun k g e => h.nf (e ▸ g)), fun q hq => World.cell?_setCell_other _ _ _ _ (by simp; first | done | omega), fun q => by rw [World.frozen?_setCell]; exact h.fr q⟩
theorem Lg.putDead (h : Lg x B K L v0 v1 σ dd gn ar rc wt by_) (q : Bool) : Lg (x.setCell ⟨L, 1, none⟩ (.bool q)) B K L v0 v1 σ q gn ar rc wt by_ := by
  obtain ⟨d, hc, hf⟩ := h.put 1 (.bool q)
  exact ⟨d, (hc 0 (by omega)).trans h.c0, World.cell?_setCell_same' _ _ _ (by rw [h.c1]; rfl), (hc 2 (by omega)).trans h.c2, (hc 3 (by omega)).trans h.c3, (hc 4 (by omega)).trans h.c4, (hc 5 (by omega)).trans h.c5, (hc 6 (by omega)).trans h.c6, hf, h.nf, h.ge⟩
theorem Lg.putRec (h : Lg x B K L v0 v1 σ dd gn ar rc wt by_) (q : Int) : Lg (x.setCell ⟨L, 4, none⟩ (.int .i64 q)) B K L v0 v1 σ dd gn ar q wt by_ := by
  obtain ⟨d, hc, hf⟩ := h.put 4 (.int .i64 q)
  exact ⟨d, (hc 0 (by omega)).trans h.c0, (hc 1 (by omega)).trans h.c1, (hc 2 (by omega)).trans h.c2, (hc 3 (by omega)).trans h.c3, World.cell?_setCell_same' _ _ _ (by rw [h.c4]; rfl), (hc 5 (by omega)).trans h.c5, (hc 6 (by omega)).trans h.c6, hf, h.nf, h.ge⟩
theorem Lg.putWait (h : Lg x B K L v0 v1 σ dd gn ar rc wt by_) (q : Int) : Lg (x.setCell ⟨L, 5, none⟩ (.int .i64 q)) B K L v0 v1 σ dd gn ar rc q by_ := by
  obtain ⟨d, hc, hf⟩ := h.put 5 (.int .i64 q)
  exact ⟨d, (hc 0 (by omega)).trans h.c0, (hc 1 (by omega)).trans h.c1, (hc 2 (by omega)).trans h.c2, (hc 3 (by omega)).trans h.c3, (hc 4 (by omega)).trans h.c4, World.cell?_setCell_same' _ _ _ (by rw [h.c5]; rfl), (hc 6 (by omega)).trans h.c6, hf, h.nf, h.ge⟩
theorem Lg.putBytes (h : Lg x B K L v0 v1 σ dd gn ar rc wt by_) (q : Int) : Lg (x.setCell ⟨L, 6, none⟩ (.int .i64 q)) B K L v0 v1 σ dd gn ar rc wt q := by
  obtain ⟨d, hc, hf⟩ := h.put 6 (.int .i64 q)
  exact ⟨d, (hc 0 (by omega)).trans h.c0, (hc 1 (by omega)).trans h.c1, (hc 2 (by omega)).trans h.c2, (hc 3 (by omega)).trans h.c3, (hc 4 (by omega)).trans h.c4, (hc 5 (by omega)).trans h.c5, World.cell?_setCell_same' _ _ _ (by rw [h.c6]; rfl), hf, h.nf, h.ge⟩
set_option maxHeartbeats 1000000 in
theorem ready_ok (h : Lg x B K L v0 v1 σ false gn ar rc wt by_) : Calls Tryz.prog 27 #[.pointer (some ⟨L, 0, none⟩)] x fun e w' => e = .returned .nilIface ∧ w' = x := by
  have c0 := h.c0
  have c1 := h.c1
  clear h
  go_enter Tryz.func27, Tryz.ntmps27
  go_wp2_with fail
  go_ret
  exact ⟨rfl, rfl⟩
set_option maxHeartbeats 1000000 in
theorem ready_dead (h : Lg x B K L v0 v1 σ true gn ar rc wt by_) : Calls Tryz.prog 27 #[.pointer (some ⟨L, 0, none⟩)] x fun e w' => ∃ v, e = .returned v ∧ WErr x 8 v w' := by
  have c0 := h.c0
  have c1 := h.c1
  clear h
  go_enter Tryz.func27, Tryz.ntmps27
  go_wp2_with fail
  refine (wfault_any _ _).mono ?_
  rintro e w' ⟨v, rfl, hv⟩
  go_wp2_with fail
  go_ret
  exact ⟨v, rfl, hv⟩
/-- What one step leaves of a log. -/
def OneQ (x : World) (B K L : Nat) (v0 v1 : Value) (σ : Sg) (c gn ar rc wt by_ : Int) (e : Ending) (x' : World) : Prop :=
  ∃ ev u0 u1, e = .returned ev ∧ LStep x x' K L v0 v1 u0 u1 ∧ ((c = 0 ∧ ev = .nilIface ∧ Lg x' B K L u0 u1 σ false gn ar rc wt by_) ∨ (c ≠ 0 ∧ (∃ b, ev = .iface 86 (.pointer (some ⟨b, 0, none⟩))) ∧ Lg x' B K L u0 u1 σ true gn ar rc wt by_))
set_option maxRecDepth 100000 in
set_option maxHeartbeats 4000000 in
theorem do_one {g cap f : Nat} {caps : Array Value} {c : Int} (h : Lg x B K L v0 v1 σ false gn ar rc wt by_) (hg : x.cell? ⟨g, 0, none⟩ = some (.func (.func f) #[] caps)) (hen : Enters Tryz.prog f) (hc : Calls Tryz.prog f caps x (StepQ x B K v0 v1 τ c)) :
    Calls Tryz.prog 28 #[.pointer (some ⟨L, 0, none⟩), .slice (some ⟨g, 0, none⟩) 1 cap] x (OneQ x B K L v0 v1 τ c gn ar rc wt by_) := by
  have HP : Hid (Calls Tryz.prog 16 #[.slice (some ⟨g, 0, none⟩) 1 cap] x fun e w' => ∃ u0 u1, LStep x w' K L v0 v1 u0 u1 ∧ Lg w' B K L u0 u1 τ false gn ar rc wt by_ ∧ ((c = 0 ∧ e = .returned .nilIface) ∨ (c ≠ 0 ∧ ∃ b, e = .returned (.iface 86 (.pointer (some ⟨b, 0, none⟩)))))) := by
    refine (play_any (I := fun j y => if j = 0 then y = x else (c = 0 ∧ ∃ u0 u1, DskS y B K u0 u1 τ ∧ DStep x y K v0 v1 u0 u1)) (F := fun _ _ y => c ≠ 0 ∧ ∃ u0 u1, DskS y B K u0 u1 τ ∧ DStep x y K v0 v1 u0 u1) ?_ (by omega) (by simp)).mono ?_
    · intro j y hj hy
      obtain rfl : j = 0 := by omega
      simp only [if_true] at hy
      subst hy
      refine ⟨f, caps, hg, hen, hc.mono ?_⟩
      rintro e y' ⟨ev, u0, u1, rfl, hv, hd, hs⟩
      rcases hv with ⟨rfl, h0⟩ | ⟨b, rfl, _, h0, _⟩
      · exact Or.inl ⟨rfl, by simp; exact ⟨h0, u0, u1, hd, hs⟩⟩
      · exact Or.inr ⟨b, rfl, by simpa using h0, u0, u1, hd, hs⟩
    · rintro e y' (⟨rfl, hi⟩ | ⟨j, b, y, _, ⟨hc0, u0, u1, hd, hs⟩, rfl, rfl⟩)
      · simp at hi
        obtain ⟨hc0, u0, u1, hd, hs⟩ := hi
        exact ⟨u0, u1, LStep.of_step L hs, h.step hd hs, Or.inl ⟨hc0, rfl⟩⟩
      · have hb : Below y.heap.size y (y.alloc (.cells #[.string ⟨#[119, 97, 108]⟩, .int .i64 0, .int .i64 63, .iface 86 (.pointer (some ⟨b, 0, none⟩))] 90)) := (Below.refl _ _).alloc (Nat.le_refl _) _
        exact ⟨u0, u1, (LStep.of_step L hs).trans (LStep.of_below K L u0 u1 hb), (h.step hd hs).below hb, Or.inr ⟨hc0, _, rfl⟩⟩
  clear h hg hen hc
  go_enter Tryz.func28, Tryz.ntmps28
  go_wp2_with fail
  refine HP.out.mono ?_
  rintro e y ⟨u0, u1, hs, hl, hr⟩
  have k1 := hl.c1
  have z1 := hl.fr 1
  have HL : Hid (LStep x y K L v0 v1 u0 u1 ∧ Lg y B K L u0 u1 τ false gn ar rc wt by_) := ⟨hs, hl⟩
  clear hs hl HP
  rcases hr with ⟨hc, rfl⟩ | ⟨hc, b, rfl⟩
  · go_wp2_with fail
    go_ret
    exact ⟨_, u0, u1, rfl, HL.out.1.trans (LStep.setCell _ K L u0 u1 1 _), Or.inl ⟨hc, rfl, HL.out.2.putDead false⟩⟩
  · go_wp2_with fail
    go_ret
    exact ⟨_, u0, u1, rfl, HL.out.1.trans (LStep.setCell _ K L u0 u1 1 _), Or.inr ⟨hc, ⟨b, rfl⟩, HL.out.2.putDead true⟩⟩
end
end Go.Proofs.YthnpckmgnompiaaGreatDoor

/-
  Lists of byte strings that came in; the law's short.
-/
namespace Go.Proofs.YthnpckmgnompiaaGreatDoor
open Go.RowKit Go.BigFrame

structure Blv where
  po : Option Addr
  pl : Nat
  pc : Nat
  bs : List Int
/-- A list of byte strings that came in. -/
def Bls (w : World) (ao : Option Addr) (xs : List Blv) : Prop := ∀ k y, xs[k]? = some y → ∃ b off, ao = some ⟨b, off, none⟩ ∧ b < w.heap.size ∧ w.cell? ⟨b, off + k, none⟩ = some (.slice y.po y.pl y.pc) ∧ Byts w y.po y.pl y.bs
theorem Bls.below {w w' : World} {ao : Option Addr} {xs : List Blv} (h : Bls w ao xs) (hb : Below w.heap.size w w') : Bls w' ao xs := fun k y hk => by
  obtain ⟨b, off, e, hl, hc, hy⟩ := h k y hk
  exact ⟨b, off, e, Nat.lt_of_lt_of_le hl hb.size, (hb.cell (p := ⟨b, off + k, none⟩) hl).trans hc, hy.below hb⟩
def tot (xs : List Blv) : Nat := (xs.map fun y => y.pl + 13).sum
theorem tot_snoc {xs : List Blv} {k : Nat} {y : Blv} (h : xs[k]? = some y) : tot (xs.take (k + 1)) = tot (xs.take k) + y.pl + 13 := by
  unfold tot
  rw [List.take_add_one, h]
  simp [List.sum_append]
  omega
theorem tot_le (xs : List Blv) (k : Nat) : tot (xs.take k) ≤ tot xs := by
  have : tot xs = tot (xs.take k) + tot (xs.drop k) := by
    unfold tot; rw [← List.sum_append, ← List.map_append, List.take_append_drop]
  omega
theorem tot_thirteen : ∀ (xs : List Blv) (k : Nat), k ≤ xs.length → k * 13 ≤ tot (xs.take k)
  | _, 0, _ => by omega
  | [], k + 1, h => by simp at h
  | x :: xs, k + 1, h => by
    have := tot_thirteen xs k (by simpa using h)
    unfold tot at this ⊢
    simp only [List.take_succ_cons, List.map_cons, List.sum_cons]
    omega
theorem Halves.under' {w w' : World} (h : Halves w) (hb : Below w.heap.size w w') : Halves w' := fun j hj => (hb.cell (p := ⟨1, j, none⟩) (cell_lt (h j hj))).trans (h j hj)
/-- What short answers. -/
def ShQ (xs : List Blv) (w : World) (e : Ending) (w' : World) : Prop := ∃ q, e = .returned (.bool q) ∧ (q = true → tot xs ≤ 4194304) ∧ w' = w
end Go.Proofs.YthnpckmgnompiaaGreatDoor
