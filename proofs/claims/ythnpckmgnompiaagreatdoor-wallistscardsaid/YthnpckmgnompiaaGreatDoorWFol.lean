import Derived.Test.YthnpckmgnompiaaGreatDoorWOpen3
import Derived.Test.YthnpckmgnompiaaGreatDoorBook
import Derived.Deep.RegionHeld3
import Derived.Deep.DeepCutAuto
/-
  The log's begin: a generation's head and snapshot, in one write; the makers of steps.
-/
namespace Go.Proofs.YthnpckmgnompiaaGreatDoor
open Go.RowKit Go.BigFrame

set_option maxHeartbeats 1000000 in
theorem areaOf_any {x : Int} (w : World) (h0 : 0 ≤ x) : Calls Tryz.prog 20 #[.int .u64 x] w fun e w' => e = .returned (.int .i64 (x % 2)) ∧ w' = w := by
  have hm : 0 ≤ x % 2 ∧ x % 2 ≤ 1 := by omega
  have e1 : x.tmod 2 = x % 2 := by rw [Int.tmod_eq_emod_of_nonneg h0]
  have e2 : IntKind.u64.wrap (x % 2) = x % 2 := by simp [IntKind.wrap, IntKind.bits, IntKind.signed]; omega
  have e3 : IntKind.i64.wrap (x % 2) = x % 2 := wrap_id (by omega) (by omega)
  go_enter Tryz.func20, Tryz.ntmps20
  go_wp2_with fail
  go_ret
  exact ⟨rfl, rfl⟩
section
variable {w : World} {B K : Nat} {v0 v1 : Value} {σ : Sg} {b1 b2 b3 : Nat} {gn : Int} {po : Option Addr} {m k : Nat} {bs : List Int}
set_option maxRecDepth 100000 in
set_option maxHeartbeats 4000000 in
theorem beginF (h : DskS w B K v0 v1 σ) (c1 : w.cell? ⟨b1, 0, none⟩ = some (.pointer (some ⟨K, 0, none⟩))) (c2 : w.cell? ⟨b2, 0, none⟩ = some (.int .u64 gn)) (c3 : w.cell? ⟨b3, 0, none⟩ = some (.slice po m k)) (f1 : ¬ Foot K v0 v1 b1) (f2 : ¬ Foot K v0 v1 b2) (f3 : ¬ Foot K v0 v1 b3) (hb : Byts w po m bs) (hpo : po = none → k = 0) (hm : m ≤ 16777216) (hg0 : 0 ≤ gn) (hg1 : gn ≤ 18446744073709551615) (hH : Halves w) :
    Calls Tryz.prog 53 #[.pointer (some ⟨b1, 0, none⟩), .pointer (some ⟨b2, 0, none⟩), .pointer (some ⟨b3, 0, none⟩)] w (StepQ w B K v0 v1 (opS σ (.app (gn % 2) (headB gn ++ recB bs))) (opC σ (.app (gn % 2) (headB gn ++ recB bs)))) := by
  have l1 : b1 < w.heap.size := cell_lt c1
  have l2 : b2 < w.heap.size := cell_lt c2
  have l3 : b3 < w.heap.size := cell_lt c3
  have hHx : ∀ x, Below w.heap.size w x → Halves x := fun x hx j hj => (hx.cell (p := ⟨1, j, none⟩) (cell_lt (hH j hj))).trans (hH j hj)
  have hG : 1 < w.heap.size := cell_lt (hH 0 (by omega))
  have HA : Hid (∀ x, Calls Tryz.prog 20 #[.int .u64 gn] x fun e x' => e = .returned (.int .i64 (gn % 2)) ∧ x' = x) := fun x => areaOf_any x hg0
  have HE : Hid (∀ x, Below w.heap.size w x → Calls Tryz.prog 56 #[.int .u64 gn] x fun e x' => ∃ a n c, e = .returned (.slice a n c) ∧ Row x' w.heap.size (.slice a n c) (headB gn) ∧ Below w.heap.size w x') := fun x hx =>
    (head_any x ⟨hg0, hg1⟩ (hHx x hx)).mono fun e x' ⟨a, n, c, he, hr, hbl⟩ => ⟨a, n, c, he, hr.base hx.size, hx.trans (hbl.mono hx.size)⟩
  have HR : Hid (∀ x, Below w.heap.size w x → ∀ a n c, Row x w.heap.size (.slice a n c) (headB gn) → Calls Tryz.prog 55 #[.slice a n c, .slice po m k] x fun e x' => ∃ a n c, e = .returned (.slice a n c) ∧ Row x' w.heap.size (.slice a n c) (headB gn ++ recB bs) ∧ Below w.heap.size w x') := fun x hx a n c hr =>
    (record_any x hr hx.size (hb.below hx) hpo (fun b o hm e hq => by have h1 := byts_in hb hm e; have h2 := (hr.lt hq).1; omega) (by omega) (by rw [headB_len]; omega) (hHx x hx) hG).mono fun e x' ⟨a', n', c', he, L⟩ =>
      ⟨a', n', c', he, L.1, hx.trans (L.2.1.below hx.size (fun q g => (hr.lt g).1))⟩
  have HC : Hid (∀ x, Below w.heap.size w x → ∀ a n c, Row x w.heap.size (.slice a n c) (headB gn ++ recB bs) → Calls Tryz.prog 54 #[.pointer (some ⟨K, 0, none⟩), .int .i64 (gn % 2), .slice a n c] x fun e x' => ∃ ev, e = .returned ev ∧ StepQ w B K v0 v1 (opS σ (.app (gn % 2) (headB gn ++ recB bs))) (opC σ (.app (gn % 2) (headB gn ++ recB bs))) (.returned ev) x' ∧ x'.cell? ⟨b1, 0, none⟩ = some (.pointer (some ⟨K, 0, none⟩)) ∧ x'.cell? ⟨b2, 0, none⟩ = some (.int .u64 gn) ∧ x'.cell? ⟨b3, 0, none⟩ = some (.slice po m k)) := fun x hx a n c hr => by
    obtain ⟨hn, hby, hno, hge⟩ := hr.byts'
    refine (dAppend (h.off (P := fun _ => False) (Off.of_below hx) (fun _ _ => id)) (gn % 2) hby hno (fun b o e g => by have := (h.foot_lt g).2; have := hge b o e; omega)).mono fun e x' ⟨ev, u0, u1, he, hv, hd, hs⟩ => ?_
    rw [hn] at hv
    exact ⟨ev, he, (show StepQ x B K v0 v1 _ _ (.returned ev) x' from ⟨ev, u0, u1, rfl, hv, hd, hs⟩).pre hx, (hs.off.cell (p := ⟨b1, 0, none⟩) (Nat.lt_of_lt_of_le l1 hx.size) f1).trans ((hx.cell (p := ⟨b1, 0, none⟩) l1).trans c1), (hs.off.cell (p := ⟨b2, 0, none⟩) (Nat.lt_of_lt_of_le l2 hx.size) f2).trans ((hx.cell (p := ⟨b2, 0, none⟩) l2).trans c2), (hs.off.cell (p := ⟨b3, 0, none⟩) (Nat.lt_of_lt_of_le l3 hx.size) f3).trans ((hx.cell (p := ⟨b3, 0, none⟩) l3).trans c3)⟩
  clear h hb hH hpo hHx
  go_enter Tryz.func53, Tryz.ntmps53
  go_wp2_with fail
  go_region_held3 (fun x => x.cell? ⟨b1, 0, none⟩ = some (.pointer (some ⟨K, 0, none⟩)) ∧ x.cell? ⟨b2, 0, none⟩ = some (.int .u64 gn) ∧ x.cell? ⟨b3, 0, none⟩ = some (.slice po m k)) (simp [*]) (first | (go_at_call 20; refine (HA.out _).mono ?_; rintro e x1 ⟨rfl, rfl⟩) | (go_at_call 56; refine (HE.out _ ?_).mono ?_; (first | exact Below.refl _ _ | exact Below.drew (Below.refl _ _)); rintro e x2 ⟨a2, n2, k2, rfl, hr2, hx2⟩; have e1 : x2.cell? ⟨b1, 0, none⟩ = some (.pointer (some ⟨K, 0, none⟩)) := (hx2.cell (p := ⟨b1, 0, none⟩) l1).trans c1; have e2 : x2.cell? ⟨b2, 0, none⟩ = some (.int .u64 gn) := (hx2.cell (p := ⟨b2, 0, none⟩) l2).trans c2; have e3 : x2.cell? ⟨b3, 0, none⟩ = some (.slice po m k) := (hx2.cell (p := ⟨b3, 0, none⟩) l3).trans c3) | (go_at_call 55; refine (HR.out _ hx2 _ _ _ hr2).mono ?_; rintro e x3 ⟨a3, n3, k3, rfl, hr3, hx3⟩; have g1 : x3.cell? ⟨b1, 0, none⟩ = some (.pointer (some ⟨K, 0, none⟩)) := (hx3.cell (p := ⟨b1, 0, none⟩) l1).trans c1; have g2 : x3.cell? ⟨b2, 0, none⟩ = some (.int .u64 gn) := (hx3.cell (p := ⟨b2, 0, none⟩) l2).trans c2; have g3 : x3.cell? ⟨b3, 0, none⟩ = some (.slice po m k) := (hx3.cell (p := ⟨b3, 0, none⟩) l3).trans c3) | (go_at_call 54; refine (HC.out _ hx3 _ _ _ hr3).mono ?_; rintro e x4 ⟨ev, rfl, hq, k1, k2', k3'⟩))
  all_goals
    go_wp2_with fail
    go_ret
    exact hq
theorem stepF_begin (c1 : w.cell? ⟨b1, 0, none⟩ = some (.pointer (some ⟨K, 0, none⟩))) (c2 : w.cell? ⟨b2, 0, none⟩ = some (.int .u64 gn)) (c3 : w.cell? ⟨b3, 0, none⟩ = some (.slice po m k)) (f1 : ¬ Foot K v0 v1 b1) (f2 : ¬ Foot K v0 v1 b2) (f3 : ¬ Foot K v0 v1 b3) (hb : Byts w po m bs) (hfar : ∀ b o, 0 < m → po = some ⟨b, o, none⟩ → ¬ Foot K v0 v1 b) (hpo : po = none → k = 0) (hm : m ≤ 16777216) (hg0 : 0 ≤ gn) (hg1 : gn ≤ 18446744073709551615) (hH : Halves w) (hG : ¬ Foot K v0 v1 1) :
    StepF w B K v0 v1 (.app (gn % 2) (headB gn ++ recB bs)) 53 #[.pointer (some ⟨b1, 0, none⟩), .pointer (some ⟨b2, 0, none⟩), .pointer (some ⟨b3, 0, none⟩)] := fun _ _ _ _ s d =>
  beginF d (cell_kept s c1 f1) (cell_kept s c2 f2) (cell_kept s c3 f3) (foot_kept s (cell_lt c1) f1) (foot_kept s (cell_lt c2) f2) (foot_kept s (cell_lt c3) f3) (byts_off hb s.off hfar) hpo hm hg0 hg1 (fun j hj => cell_kept s (hH j hj) hG)
end
theorem enters_cut : Enters Tryz.prog 51 := enters_of Tryz.func51 (by kernel_rfl) rfl
theorem enters_begin : Enters Tryz.prog 53 := enters_of Tryz.func53 (by kernel_rfl) rfl
set_option maxHeartbeats 1000000 in
theorem cut_mk {K : Nat} {ar n : Int} (w : World) : Calls Tryz.prog 17 #[.pointer (some ⟨K, 0, none⟩), .int .i64 ar, .int .i64 n] w fun e w' => e = .returned (.func (.func 51) #[] #[.pointer (some ⟨w.heap.size, 0, none⟩), .pointer (some ⟨w.heap.size + 1, 0, none⟩), .pointer (some ⟨w.heap.size + 2, 0, none⟩)]) ∧ w' = ((w.alloc (.cells #[.pointer (some ⟨K, 0, none⟩)] 24)).alloc (.cells #[.int .i64 ar] 3)).alloc (.cells #[.int .i64 n] 3) := by
  go_enter Tryz.func17, Tryz.ntmps17
  go_wp2_with fail
  go_ret
  exact ⟨rfl, rfl⟩
set_option maxHeartbeats 1000000 in
theorem begin_mk {K : Nat} {gn : Int} {po : Option Addr} {m k : Nat} (w : World) : Calls Tryz.prog 18 #[.pointer (some ⟨K, 0, none⟩), .int .u64 gn, .slice po m k] w fun e w' => e = .returned (.func (.func 53) #[] #[.pointer (some ⟨w.heap.size, 0, none⟩), .pointer (some ⟨w.heap.size + 1, 0, none⟩), .pointer (some ⟨w.heap.size + 2, 0, none⟩)]) ∧ w' = ((w.alloc (.cells #[.pointer (some ⟨K, 0, none⟩)] 24)).alloc (.cells #[.int .u64 gn] 31)).alloc (.cells #[.slice po m k] 22) := by
  go_enter Tryz.func18, Tryz.ntmps18
  go_wp2_with fail
  go_ret
  exact ⟨rfl, rfl⟩
theorem three_cells (z : World) (u0 u1 u2 : Value) (t0 t1 t2 : TypeId) : (((z.alloc (.cells #[u0] t0)).alloc (.cells #[u1] t1)).alloc (.cells #[u2] t2)).cell? ⟨z.heap.size, 0, none⟩ = some u0 ∧ (((z.alloc (.cells #[u0] t0)).alloc (.cells #[u1] t1)).alloc (.cells #[u2] t2)).cell? ⟨z.heap.size + 1, 0, none⟩ = some u1 ∧ (((z.alloc (.cells #[u0] t0)).alloc (.cells #[u1] t1)).alloc (.cells #[u2] t2)).cell? ⟨z.heap.size + 2, 0, none⟩ = some u2 := by
  refine ⟨?_, ?_, ?_⟩
  · rw [World.cell?_alloc_lt _ _ ⟨z.heap.size, 0, none⟩ (by simp; omega), World.cell?_alloc_lt _ _ ⟨z.heap.size, 0, none⟩ (by simp)]; simp
  · rw [World.cell?_alloc_lt _ _ ⟨z.heap.size + 1, 0, none⟩ (by simp), show z.heap.size + 1 = (z.alloc (.cells #[u0] t0)).heap.size by simp]; simp
  · rw [show z.heap.size + 2 = ((z.alloc (.cells #[u0] t0)).alloc (.cells #[u1] t1)).heap.size by simp, World.cell?_alloc_new]; rfl
/-- A step's maker, whatever step: the function value; it is that step in every world that comes. -/
def MkQ (x : World) (B K : Nat) (v0 v1 : Value) (o : Dop) (e : Ending) (y : World) : Prop := ∃ f caps, e = .returned (.func (.func f) #[] caps) ∧ Below x.heap.size x y ∧ Enters Tryz.prog f ∧ ∀ y', Below y.heap.size y y' → StepF y' B K v0 v1 o f caps
section
variable {x : World} {B K : Nat} {v0 v1 : Value} {σ : Sg} {ar : Int}
theorem below_allocs (x : World) (a b c : Obj) : Below x.heap.size x (((x.alloc a).alloc b).alloc c) := (((Below.refl x.heap.size x).alloc (Nat.le_refl _) a).alloc (by simp) b).alloc (by simp; omega) c
theorem cut_q (h : DskS x B K v0 v1 σ) (n : Int) : Calls Tryz.prog 17 #[.pointer (some ⟨K, 0, none⟩), .int .i64 ar, .int .i64 n] x (MkQ x B K v0 v1 (.cut ar n)) := by
  refine (cut_mk x).mono ?_
  rintro e y ⟨rfl, rfl⟩
  have hF : ∀ b, x.heap.size ≤ b → ¬ Foot K v0 v1 b := fun b hb g => by have := (h.foot_lt g).2; omega
  obtain ⟨c1, c2, c3⟩ := three_cells x (.pointer (some ⟨K, 0, none⟩)) (.int .i64 ar) (.int .i64 n) 24 3 3
  exact ⟨_, _, rfl, below_allocs x _ _ _, enters_cut, fun y' hy => stepF_cut ((hy.cell (p := ⟨x.heap.size, 0, none⟩) (cell_lt c1)).trans c1) ((hy.cell (p := ⟨x.heap.size + 1, 0, none⟩) (cell_lt c2)).trans c2) ((hy.cell (p := ⟨x.heap.size + 2, 0, none⟩) (cell_lt c3)).trans c3) (hF _ (by omega)) (hF _ (by omega)) (hF _ (by omega))⟩
theorem begin_q {gn : Int} {po : Option Addr} {m k : Nat} {bs : List Int} (h : DskS x B K v0 v1 σ) (hb : Byts x po m bs) (hfar : ∀ b o, 0 < m → po = some ⟨b, o, none⟩ → ¬ Foot K v0 v1 b) (hpo : po = none → k = 0) (hm : m ≤ 16777216) (hg0 : 0 ≤ gn) (hg1 : gn ≤ 18446744073709551615) (hH : Halves x) (hG : ¬ Foot K v0 v1 1) :
    Calls Tryz.prog 18 #[.pointer (some ⟨K, 0, none⟩), .int .u64 gn, .slice po m k] x (MkQ x B K v0 v1 (.app (gn % 2) (headB gn ++ recB bs))) := by
  refine (begin_mk x).mono ?_
  rintro e y ⟨rfl, rfl⟩
  have hF : ∀ b, x.heap.size ≤ b → ¬ Foot K v0 v1 b := fun b hb g => by have := (h.foot_lt g).2; omega
  obtain ⟨c1, c2, c3⟩ := three_cells x (.pointer (some ⟨K, 0, none⟩)) (.int .u64 gn) (.slice po m k) 24 31 22
  have hbx := below_allocs x (.cells #[.pointer (some ⟨K, 0, none⟩)] 24) (.cells #[.int .u64 gn] 31) (.cells #[.slice po m k] 22)
  refine ⟨_, _, rfl, hbx, enters_begin, fun y' hy => ?_⟩
  have hxy := hbx.trans (hy.mono hbx.size)
  exact stepF_begin ((hy.cell (p := ⟨x.heap.size, 0, none⟩) (cell_lt c1)).trans c1) ((hy.cell (p := ⟨x.heap.size + 1, 0, none⟩) (cell_lt c2)).trans c2) ((hy.cell (p := ⟨x.heap.size + 2, 0, none⟩) (cell_lt c3)).trans c3) (hF _ (by omega)) (hF _ (by omega)) (hF _ (by omega)) (hb.below hxy) hfar hpo hm hg0 hg1 (fun j hj => (hxy.cell (p := ⟨1, j, none⟩) (cell_lt (hH j hj))).trans (hH j hj)) hG
theorem syn_q (h : DskS x B K v0 v1 σ) : Calls Tryz.prog 19 #[.pointer (some ⟨K, 0, none⟩), .int .i64 ar] x (MkQ x B K v0 v1 (.syn ar)) := by
  refine (sync_q (x := x) (Or.inl rfl)).mono ?_
  rintro e y ⟨rfl, hb, c1, c2⟩
  have hF : ∀ b, x.heap.size ≤ b → ¬ Foot K v0 v1 b := fun b hb g => by have := (h.foot_lt g).2; omega
  exact ⟨_, _, rfl, hb, enters_sync, fun y' hy => stepF_syn ((hy.cell (p := ⟨x.heap.size, 0, none⟩) (cell_lt c1)).trans c1) ((hy.cell (p := ⟨x.heap.size + 1, 0, none⟩) (cell_lt c2)).trans c2) (hF _ (by omega)) (hF _ (by omega))⟩
end
end Go.Proofs.YthnpckmgnompiaaGreatDoor

/-
  The log's Format.
-/
namespace Go.Proofs.YthnpckmgnompiaaGreatDoor
open Go.RowKit Go.BigFrame

/-- What play answers of a list of writes. -/
def PlayQ (y : World) (B K : Nat) (v0 v1 : Value) (σ : Sg) (os : List Dop) (e : Ending) (y' : World) : Prop :=
  ∃ ev u0 u1, e = .returned ev ∧ DskS y' B K u0 u1 (runS σ os).1 ∧ DStep y y' K v0 v1 u0 u1 ∧ (((runS σ os).2 = 0 ∧ ev = .nilIface) ∨ ((runS σ os).2 ≠ 0 ∧ ∃ b b', ev = .iface 86 (.pointer (some ⟨b, 0, none⟩)) ∧ y'.cell? ⟨b, 0, none⟩ = some (.string ⟨#[119, 97, 108]⟩) ∧ y'.cell? ⟨b, 1, none⟩ = some (.int .i64 0) ∧ y'.cell? ⟨b, 2, none⟩ = some (.int .i64 63) ∧ y'.cell? ⟨b, 3, none⟩ = some (.iface 86 (.pointer (some ⟨b', 0, none⟩))) ∧ FaultAt y' b' 0 (runS σ os).2 ∧ y.heap.size ≤ b ∧ y.heap.size ≤ b'))
theorem PlayQ.pre {x y : World} {B K : Nat} {v0 v1 : Value} {σ : Sg} {os : List Dop} {e : Ending} {y' : World} (h : PlayQ y B K v0 v1 σ os e y') (hb : Below x.heap.size x y) : PlayQ x B K v0 v1 σ os e y' := by
  have hs := hb.size
  obtain ⟨ev, u0, u1, he, hd, hst, hr⟩ := h
  refine ⟨ev, u0, u1, he, hd, (DStep.of_below K v0 v1 hb).trans hst, hr.imp id ?_⟩
  rintro ⟨h0, b, b', h1, h2, h3, h4, h5, h6, h7, h8⟩
  exact ⟨h0, b, b', h1, h2, h3, h4, h5, h6, by omega, by omega⟩
def fmtOps (bs : List Int) : List Dop := [.cut 0 0, .cut 1 0, .app (1 % 2) (headB 1 ++ recB bs), .syn 1]
section
variable {x : World} {B K : Nat} {v0 v1 : Value} {σ : Sg} {po : Option Addr} {m k : Nat} {bs : List Int}
theorem DskS.under {y : World} (h : DskS x B K v0 v1 σ) (hb : Below x.heap.size x y) : DskS y B K v0 v1 σ := h.off (P := fun _ => False) (Off.of_below hb) (fun _ _ => id)
theorem Halves.under {y : World} (h : Halves x) (hb : Below x.heap.size x y) : Halves y := fun j hj => (hb.cell (p := ⟨1, j, none⟩) (cell_lt (h j hj))).trans (h j hj)
theorem four_cells (z : World) (u0 u1 u2 u3 : Value) (T : TypeId) (j : Nat) : (z.alloc (.cells #[u0, u1, u2, u3] T)).cell? ⟨z.heap.size, j, none⟩ = #[u0, u1, u2, u3][j]? := World.cell?_alloc_new _ _ _ _
set_option maxRecDepth 100000 in
set_option maxHeartbeats 4000000 in
theorem lFormat (h : DskS x B K v0 v1 σ) (hb : Byts x po m bs) (hfar : ∀ b o, 0 < m → po = some ⟨b, o, none⟩ → ¬ Foot K v0 v1 b) (hpo : po = none → k = 0) (hm : m ≤ 2097152) (hH : Halves x) (hG : ¬ Foot K v0 v1 1) :
    Calls Tryz.prog 5 #[.pointer (some ⟨K, 0, none⟩), .slice po m k] x (PlayQ x B K v0 v1 σ (fmtOps bs)) := by
  have HL : Hid (Calls Tryz.prog 13 #[.pointer (some ⟨K, 0, none⟩), .int .i64 0] x fun e w' => e = .returned (.tuple #[.int .i64 σ.x0.length, .nilIface]) ∧ w' = x) := Len0_ok h (stOf_any _)
  have HS : Hid (DskS x B K v0 v1 σ ∧ Byts x po m bs ∧ Halves x) := ⟨h, hb, hH⟩
  have HC : Hid (∀ y ar n, Below x.heap.size x y → Calls Tryz.prog 17 #[.pointer (some ⟨K, 0, none⟩), .int .i64 ar, .int .i64 n] y (MkQ y B K v0 v1 (.cut ar n))) := fun y ar n hy => cut_q (h.under hy) n
  have HB : Hid (∀ y, Below x.heap.size x y → Calls Tryz.prog 18 #[.pointer (some ⟨K, 0, none⟩), .int .u64 1, .slice po m k] y (MkQ y B K v0 v1 (.app (1 % 2) (headB 1 ++ recB bs)))) := fun y hy => begin_q (h.under hy) (hb.below hy) hfar hpo (by omega) (by omega) (by omega) (hH.under hy) hG
  have HY : Hid (∀ y, Below x.heap.size x y → Calls Tryz.prog 19 #[.pointer (some ⟨K, 0, none⟩), .int .i64 1] y (MkQ y B K v0 v1 (.syn 1))) := fun y hy => syn_q (h.under hy)
  have hbm : decide ((2097152 : Int) < m) = false := by simp; omega
  have hbm2 : ¬ (2097152 : Int) < m := by omega
  clear h hb hH hpo hfar hG
  go_enter Tryz.func5, Tryz.ntmps5
  go_wp2_with fail
  refine HL.out.mono ?_
  rintro e w1 ⟨rfl, hw1⟩
  rw [hw1]
  clear hw1 HL
  go_wp2_with fail
  refine (HC.out x 0 0 (Below.refl _ _)).mono ?_
  rintro e y1 ⟨f1, p1, rfl, b1, n1, s1⟩
  have H1 : Hid (Below x.heap.size x y1 ∧ Enters Tryz.prog f1 ∧ ∀ y', Below y1.heap.size y1 y' → StepF y' B K v0 v1 (.cut 0 0) f1 p1) := ⟨b1, n1, s1⟩
  clear b1 n1 s1
  go_wp2_with fail
  refine (HC.out y1 1 0 H1.out.1).mono ?_
  rintro e y2 ⟨f2, p2, rfl, b2, n2, s2⟩
  have H2 : Hid (Below y1.heap.size y1 y2 ∧ Enters Tryz.prog f2 ∧ (∀ y', Below y2.heap.size y2 y' → StepF y' B K v0 v1 (.cut 1 0) f2 p2) ∧ Below x.heap.size x y2) := ⟨b2, n2, s2, H1.out.1.trans (b2.mono H1.out.1.size)⟩
  clear b2 n2 s2
  go_wp2_with fail
  refine (HB.out y2 H2.out.2.2.2).mono ?_
  rintro e y3 ⟨f3, p3, rfl, b3, n3, s3⟩
  have H3 : Hid (Below y2.heap.size y2 y3 ∧ Enters Tryz.prog f3 ∧ (∀ y', Below y3.heap.size y3 y' → StepF y' B K v0 v1 (.app (1 % 2) (headB 1 ++ recB bs)) f3 p3) ∧ Below x.heap.size x y3) := ⟨b3, n3, s3, H2.out.2.2.2.trans (b3.mono H2.out.2.2.2.size)⟩
  clear b3 n3 s3
  go_wp2_with fail
  refine (areaOf_any (x := 1) _ (by omega)).mono ?_
  rintro e y3' ⟨rfl, hy3⟩
  rw [hy3]
  clear hy3
  go_wp2_with fail
  refine (HY.out y3 H3.out.2.2.2).mono ?_
  rintro e y4 ⟨f4, p4, rfl, b4, n4, s4⟩
  have H4 : Hid (Below y3.heap.size y3 y4 ∧ Enters Tryz.prog f4 ∧ (∀ y', Below y4.heap.size y4 y' → StepF y' B K v0 v1 (.syn 1) f4 p4) ∧ Below x.heap.size x y4) := ⟨b4, n4, s4, H3.out.2.2.2.trans (b4.mono H3.out.2.2.2.size)⟩
  clear b4 n4 s4
  go_wp2_with fail
  have HP : Hid (Calls Tryz.prog 16 #[.slice (some ⟨y4.heap.size, 0, none⟩) 4 4] (y4.alloc (.cells #[.func (.func f1) #[] p1, .func (.func f2) #[] p2, .func (.func f3) #[] p3, .func (.func f4) #[] p4] 80)) (PlayQ x B K v0 v1 σ (fmtOps bs))) := by
    have b45 : Below y4.heap.size y4 (y4.alloc (.cells #[.func (.func f1) #[] p1, .func (.func f2) #[] p2, .func (.func f3) #[] p3, .func (.func f4) #[] p4] 80)) := (Below.refl _ _).alloc (Nat.le_refl _) _
    have b35 := H4.out.1.trans (b45.mono H4.out.1.size)
    have b25 := H3.out.1.trans (b35.mono H3.out.1.size)
    have b15 := H2.out.1.trans (b25.mono H2.out.1.size)
    have b05 := H4.out.2.2.2.trans (b45.mono H4.out.2.2.2.size)
    refine (play_disk (os := fmtOps bs) (HS.out.1.under b05) ?_ ?_ (by simp [fmtOps])).mono fun e y' hq => (show PlayQ _ B K v0 v1 σ (fmtOps bs) e y' from hq).pre b05
    · intro j o ho
      match j, ho with
      | 0, ho => exact ⟨f1, p1, four_cells _ _ _ _ _ _ 0, H1.out.2.1, by cases ho; exact H1.out.2.2 _ b15⟩
      | 1, ho => exact ⟨f2, p2, four_cells _ _ _ _ _ _ 1, H2.out.2.1, by cases ho; exact H2.out.2.2.1 _ b25⟩
      | 2, ho => exact ⟨f3, p3, four_cells _ _ _ _ _ _ 2, H3.out.2.1, by cases ho; exact H3.out.2.2.1 _ b35⟩
      | 3, ho => exact ⟨f4, p4, four_cells _ _ _ _ _ _ 3, H4.out.2.1, by cases ho; exact H4.out.2.2.1 _ b45⟩
      | j + 4, ho => cases ho
    · intro g
      have := (HS.out.1.foot_lt g).2
      have := H4.out.2.2.2.size
      omega
  refine HP.out.mono ?_
  rintro e y5 ⟨ev, u0, u1, rfl, hr⟩
  have HQ : Hid (PlayQ x B K v0 v1 σ (fmtOps bs) (.returned ev) y5) := ⟨ev, u0, u1, rfl, hr⟩
  clear hr HP
  go_wp2_with fail
  go_ret
  exact HQ.out
end
end Go.Proofs.YthnpckmgnompiaaGreatDoor

/-
  append of function values, as one step of a region that draws.
-/
namespace Go.Proofs.YthnpckmgnompiaaGreatDoor
open Go.RowKit Go.BigFrame

theorem infoStep : (Tryz.prog.info? 80).map (fun i => (i.size, i.bytes, i.zero.map (·.cells.size))) = some (1, 8, some 1) := by kernel_rfl
theorem step_fns {w : World} {B : Nat} {ops : Array Oper} {o : Oper} {a : Act} {K : Act → World → Prop} {Q : Exit → Act → World → Prop} {E : Prop} {v : Value} {xs news : List Value} {g n : Nat} (hgd : o.guard = none) (s y : Operand)
    (ho : o.op = .call { callee := .builtin .append, args := #[s, y], argTypes := #[85, 85] }) (hs : a.eval s = v) (hx : a.eval y = .slice (some ⟨g, 0, none⟩) n n)
    (hr : VRow w B 80 v xs) (hl : news.length = n) (hnews : ∀ j u, news[j]? = some u → w.cell? ⟨g, j, none⟩ = some u) (h1 : ∀ u ∈ news, u.oneCell' = true) (hn : 0 < n) (hb : xs.length + n ≤ 1000) (hB : B ≤ w.heap.size)
    (h : ∀ a' c' w', VRow w' B 80 (.slice a' (xs.length + n) c') (xs ++ news) → Off (fun k => v.ownBlock = some k) w w' → K (a.put o.dst (.slice a' (xs.length + n) c')) w') :
    if Region.wanted o (yielded ops a.tmps) = true then Oper.wp Tryz.prog o a w K Q else E := by
  have hw : Region.wanted o (yielded ops a.tmps) = true := by simp [Region.wanted, hgd]
  obtain ⟨i, hi, hm⟩ := Option.map_eq_some_iff.1 infoStep
  simp only [Prod.mk.injEq] at hm
  obtain ⟨m1, m2, m3⟩ := hm
  obtain ⟨z, hz, hzs⟩ := Option.map_eq_some_iff.1 m3
  obtain ⟨v', w', hrn, r, p⟩ := run_append_two (P := Tryz.prog) w B 85 o.type 80 i z 8 Tryz.underlying85 hi hz m1 m2 hzs v xs hr ⟨g, 0, none⟩ n n news hl (fun j u hu => by rw [Addr.add_lit, Nat.zero_add]; exact hnews j u hu) h1 (by unfold maxLen; omega) (by omega) hB
  rw [if_pos hw]
  unfold Oper.wp execOp
  simp only [ho, resolve, invoke, builtin, Sem.run_bind, Sem.run_pure, Result.andThen_ok, List.map_toArray, List.map_cons, List.map_nil, hs, hx, hrn]
  cases p with
  | same g' cap hv hv' hg => subst hv'; exact h _ _ _ r (by rw [hv]; exact Off.of_grown hg)
  | idle hv hm hw => omega
  | fresh cap hv' hg hs' => subst hv'; exact h _ _ _ r ((Off.of_grown hg).mono (fun k e => by cases e))
end Go.Proofs.YthnpckmgnompiaaGreatDoor

/-
  The log's follow: what Compact has to write.
-/
namespace Go.Proofs.YthnpckmgnompiaaGreatDoor
open Go.RowKit Go.BigFrame

/-- A function value that is a step in every world that comes. -/
def Stp (B K : Nat) (v0 v1 : Value) (o : Dop) (f : Nat) (caps : Array Value) (y : World) : Prop := Enters Tryz.prog f ∧ ∀ y', Below y.heap.size y y' → StepF y' B K v0 v1 o f caps
theorem Stp.on {B K : Nat} {v0 v1 : Value} {o : Dop} {f : Nat} {caps : Array Value} {y z : World} (h : Stp B K v0 v1 o f caps y) (hb : Below y.heap.size y z) : Stp B K v0 v1 o f caps z := ⟨h.1, fun y' hy => h.2 y' (below_then hb hy)⟩
theorem below_cell {w w' : World} {p : Addr} {v : Value} (hb : Below w.heap.size w w') (h : w.cell? p = some v) : w'.cell? p = some v := (hb.cell (p := p) (cell_lt h)).trans h
/-- append of four function values to no list, as one step of a region that draws. -/
theorem step_four {w : World} {ops : Array Oper} {o : Oper} {a : Act} {K : Act → World → Prop} {Q : Exit → Act → World → Prop} {E : Prop} {g : Nat} {u0 u1 u2 u3 : Value} (hgd : o.guard = none) (s y : Operand)
    (ho : o.op = .call { callee := .builtin .append, args := #[s, y], argTypes := #[85, 85] }) (hs : a.eval s = .slice none 0 0) (hx : a.eval y = .slice (some ⟨g, 0, none⟩) 4 4)
    (hc : ∀ j, w.cell? ⟨g, j, none⟩ = #[u0, u1, u2, u3][j]?)
    (h : ∀ (c' : Nat) (w' : World), (∀ j, j < 4 → w'.cell? ⟨w.heap.size, j, none⟩ = #[u0, u1, u2, u3][j]?) → Below w.heap.size w w' → K (a.put o.dst (.slice (some ⟨w.heap.size, 0, none⟩) 4 c')) w') :
    if Region.wanted o (yielded ops a.tmps) = true then Oper.wp Tryz.prog o a w K Q else E := by
  have hw : Region.wanted o (yielded ops a.tmps) = true := by simp [Region.wanted, hgd]
  obtain ⟨i, hi, hm⟩ := Option.map_eq_some_iff.1 infoStep
  simp only [Prod.mk.injEq] at hm
  obtain ⟨m1, m2, m3⟩ := hm
  obtain ⟨z, hz, hzs⟩ := Option.map_eq_some_iff.1 m3
  have hrn := run_append_nil (P := Tryz.prog) w 85 o.type 80 i z Tryz.underlying85 hi hz ⟨g, 0, none⟩ 4 4 [u0, u1, u2, u3] (by rw [m1]; rfl) (fun j u hu => by
    rw [Addr.add_lit, Nat.zero_add, hc, ← hu]; simp) (by omega) (by omega) (by omega)
  rw [if_pos hw]
  unfold Oper.wp execOp
  simp only [ho, resolve, invoke, builtin, Sem.run_bind, Sem.run_pure, Result.andThen_ok, List.map_toArray, List.map_cons, List.map_nil, hs, hx, hrn]
  refine h _ _ (fun j hj => ?_) ((Below.drew (Below.refl _ _)).alloc (by simp) _)
  have hb : (w.drew.alloc (.cells ([u0, u1, u2, u3].toArray ++ Builtin.zeroCells z.cells (grownCap w 4 0 80 - 4)) 80)).heap[w.heap.size]? = some (.cells ([u0, u1, u2, u3].toArray ++ Builtin.zeroCells z.cells (grownCap w 4 0 80 - 4)) 80) := by show (w.heap.push _)[w.heap.size]? = _; simp
  unfold World.cell?
  rw [hb]
  exact Array.getElem?_append_left (by simpa using hj)
section
variable {x : World} {B K L : Nat} {v0 v1 : Value} {σ : Sg} {gn ar rc wt by_ : Int} {po : Option Addr} {m k : Nat} {bs : List Int} {G na nb : Int}
end
end Go.Proofs.YthnpckmgnompiaaGreatDoor
