/-
  The log's begin: a generation's head and snapshot, in one write; the makers of steps.
-/
import Derived.Test.YtgminfbhaclbbaaDoorWRun
namespace Go.Proofs.YtgminfbhaclbbaaDoor
open Go.RowKit Go.BigFrame

set_option maxHeartbeats 1000000 in
theorem areaOf_any {x : Int} (w : World) (h0 : 0 ≤ x) : Calls Tryd.prog 31 #[.int .u64 x] w fun e w' => e = .returned (.int .i64 (x % 2)) ∧ w' = w := by
  have hm : 0 ≤ x % 2 ∧ x % 2 ≤ 1 := by omega
  have e1 : x.tmod 2 = x % 2 := by rw [Int.tmod_eq_emod_of_nonneg h0]
  have e2 : IntKind.u64.wrap (x % 2) = x % 2 := by simp [IntKind.wrap, IntKind.bits, IntKind.signed]; omega
  have e3 : IntKind.i64.wrap (x % 2) = x % 2 := wrap_id (by omega) (by omega)
  go_enter Tryd.func31, Tryd.ntmps31
  go_wp2_with fail
  go_ret
  exact ⟨rfl, rfl⟩
section
variable {w : World} {B K : Nat} {v0 v1 : Value} {σ : Sg} {b1 b2 b3 : Nat} {gn : Int} {po : Option Addr} {m k : Nat} {bs : List Int}
set_option maxRecDepth 100000 in
set_option maxHeartbeats 4000000 in
theorem beginF (h : DskS w B K v0 v1 σ) (c1 : w.cell? ⟨b1, 0, none⟩ = some (.pointer (some ⟨K, 0, none⟩))) (c2 : w.cell? ⟨b2, 0, none⟩ = some (.int .u64 gn)) (c3 : w.cell? ⟨b3, 0, none⟩ = some (.slice po m k)) (f1 : ¬ Foot K v0 v1 b1) (f2 : ¬ Foot K v0 v1 b2) (f3 : ¬ Foot K v0 v1 b3) (hb : Byts w po m bs) (hpo : po = none → k = 0) (hm : m ≤ 16777216) (hg0 : 0 ≤ gn) (hg1 : gn ≤ 18446744073709551615) (hH : Halves w) :
    Calls Tryd.prog 67 #[.pointer (some ⟨b1, 0, none⟩), .pointer (some ⟨b2, 0, none⟩), .pointer (some ⟨b3, 0, none⟩)] w (StepQ w B K v0 v1 (opS σ (.app (gn % 2) (headB gn ++ recB bs))) (opC σ (.app (gn % 2) (headB gn ++ recB bs)))) := by
  have l1 : b1 < w.heap.size := cell_lt c1
  have l2 : b2 < w.heap.size := cell_lt c2
  have l3 : b3 < w.heap.size := cell_lt c3
  have hHx : ∀ x, Below w.heap.size w x → Halves x := fun x hx j hj => (hx.cell (p := ⟨1, j, none⟩) (cell_lt (hH j hj))).trans (hH j hj)
  have hG : 1 < w.heap.size := cell_lt (hH 0 (by omega))
  have HA : Hid (∀ x, Calls Tryd.prog 31 #[.int .u64 gn] x fun e x' => e = .returned (.int .i64 (gn % 2)) ∧ x' = x) := fun x => areaOf_any x hg0
  have HE : Hid (∀ x, Below w.heap.size w x → Calls Tryd.prog 68 #[.int .u64 gn] x fun e x' => ∃ a n c, e = .returned (.slice a n c) ∧ Row x' w.heap.size (.slice a n c) (headB gn) ∧ Below w.heap.size w x') := fun x hx =>
    (head_any x ⟨hg0, hg1⟩ (hHx x hx)).mono fun e x' ⟨a, n, c, he, hr, hbl⟩ => ⟨a, n, c, he, hr.base hx.size, hx.trans (hbl.mono hx.size)⟩
  have HR : Hid (∀ x, Below w.heap.size w x → ∀ a n c, Row x w.heap.size (.slice a n c) (headB gn) → Calls Tryd.prog 50 #[.slice a n c, .slice po m k] x fun e x' => ∃ a n c, e = .returned (.slice a n c) ∧ Row x' w.heap.size (.slice a n c) (headB gn ++ recB bs) ∧ Below w.heap.size w x') := fun x hx a n c hr =>
    (record_any x hr hx.size (hb.below hx) hpo (fun b o hm e hq => by have h1 := byts_in hb hm e; have h2 := (hr.lt hq).1; omega) (by omega) (by rw [headB_len]; omega) (hHx x hx) hG).mono fun e x' ⟨a', n', c', he, L⟩ =>
      ⟨a', n', c', he, L.1, hx.trans (L.2.1.below hx.size (fun q g => (hr.lt g).1))⟩
  have HC : Hid (∀ x, Below w.heap.size w x → ∀ a n c, Row x w.heap.size (.slice a n c) (headB gn ++ recB bs) → Calls Tryd.prog 49 #[.pointer (some ⟨K, 0, none⟩), .int .i64 (gn % 2), .slice a n c] x fun e x' => ∃ ev, e = .returned ev ∧ StepQ w B K v0 v1 (opS σ (.app (gn % 2) (headB gn ++ recB bs))) (opC σ (.app (gn % 2) (headB gn ++ recB bs))) (.returned ev) x' ∧ x'.cell? ⟨b1, 0, none⟩ = some (.pointer (some ⟨K, 0, none⟩)) ∧ x'.cell? ⟨b2, 0, none⟩ = some (.int .u64 gn) ∧ x'.cell? ⟨b3, 0, none⟩ = some (.slice po m k)) := fun x hx a n c hr => by
    obtain ⟨hn, hby, hno, hge⟩ := hr.byts'
    refine (dAppend (h.off (P := fun _ => False) (Off.of_below hx) (fun _ _ => id)) (gn % 2) hby hno (fun b o e g => by have := (h.foot_lt g).2; have := hge b o e; omega)).mono fun e x' ⟨ev, u0, u1, he, hv, hd, hs⟩ => ?_
    rw [hn] at hv
    exact ⟨ev, he, (show StepQ x B K v0 v1 _ _ (.returned ev) x' from ⟨ev, u0, u1, rfl, hv, hd, hs⟩).pre hx, (hs.off.cell (p := ⟨b1, 0, none⟩) (Nat.lt_of_lt_of_le l1 hx.size) f1).trans ((hx.cell (p := ⟨b1, 0, none⟩) l1).trans c1), (hs.off.cell (p := ⟨b2, 0, none⟩) (Nat.lt_of_lt_of_le l2 hx.size) f2).trans ((hx.cell (p := ⟨b2, 0, none⟩) l2).trans c2), (hs.off.cell (p := ⟨b3, 0, none⟩) (Nat.lt_of_lt_of_le l3 hx.size) f3).trans ((hx.cell (p := ⟨b3, 0, none⟩) l3).trans c3)⟩
  clear h hb hH hpo hHx
  go_enter Tryd.func67, Tryd.ntmps67
  go_wp2_with fail
  go_region_held3 (fun x => x.cell? ⟨b1, 0, none⟩ = some (.pointer (some ⟨K, 0, none⟩)) ∧ x.cell? ⟨b2, 0, none⟩ = some (.int .u64 gn) ∧ x.cell? ⟨b3, 0, none⟩ = some (.slice po m k)) (simp [*]) (first | (go_at_call 31; refine (HA.out _).mono ?_; rintro e x1 ⟨rfl, rfl⟩) | (go_at_call 68; refine (HE.out _ ?_).mono ?_; (first | exact Below.refl _ _ | exact Below.drew (Below.refl _ _)); rintro e x2 ⟨a2, n2, k2, rfl, hr2, hx2⟩; have e1 : x2.cell? ⟨b1, 0, none⟩ = some (.pointer (some ⟨K, 0, none⟩)) := (hx2.cell (p := ⟨b1, 0, none⟩) l1).trans c1; have e2 : x2.cell? ⟨b2, 0, none⟩ = some (.int .u64 gn) := (hx2.cell (p := ⟨b2, 0, none⟩) l2).trans c2; have e3 : x2.cell? ⟨b3, 0, none⟩ = some (.slice po m k) := (hx2.cell (p := ⟨b3, 0, none⟩) l3).trans c3) | (go_at_call 50; refine (HR.out _ hx2 _ _ _ hr2).mono ?_; rintro e x3 ⟨a3, n3, k3, rfl, hr3, hx3⟩; have g1 : x3.cell? ⟨b1, 0, none⟩ = some (.pointer (some ⟨K, 0, none⟩)) := (hx3.cell (p := ⟨b1, 0, none⟩) l1).trans c1; have g2 : x3.cell? ⟨b2, 0, none⟩ = some (.int .u64 gn) := (hx3.cell (p := ⟨b2, 0, none⟩) l2).trans c2; have g3 : x3.cell? ⟨b3, 0, none⟩ = some (.slice po m k) := (hx3.cell (p := ⟨b3, 0, none⟩) l3).trans c3) | (go_at_call 49; refine (HC.out _ hx3 _ _ _ hr3).mono ?_; rintro e x4 ⟨ev, rfl, hq, k1, k2', k3'⟩))
  all_goals
    go_wp2_with fail
    go_ret
    exact hq
theorem stepF_begin (c1 : w.cell? ⟨b1, 0, none⟩ = some (.pointer (some ⟨K, 0, none⟩))) (c2 : w.cell? ⟨b2, 0, none⟩ = some (.int .u64 gn)) (c3 : w.cell? ⟨b3, 0, none⟩ = some (.slice po m k)) (f1 : ¬ Foot K v0 v1 b1) (f2 : ¬ Foot K v0 v1 b2) (f3 : ¬ Foot K v0 v1 b3) (hb : Byts w po m bs) (hfar : ∀ b o, 0 < m → po = some ⟨b, o, none⟩ → ¬ Foot K v0 v1 b) (hpo : po = none → k = 0) (hm : m ≤ 16777216) (hg0 : 0 ≤ gn) (hg1 : gn ≤ 18446744073709551615) (hH : Halves w) (hG : ¬ Foot K v0 v1 1) :
    StepF w B K v0 v1 (.app (gn % 2) (headB gn ++ recB bs)) 67 #[.pointer (some ⟨b1, 0, none⟩), .pointer (some ⟨b2, 0, none⟩), .pointer (some ⟨b3, 0, none⟩)] := fun _ _ _ _ s d =>
  beginF d (cell_kept s c1 f1) (cell_kept s c2 f2) (cell_kept s c3 f3) (foot_kept s (cell_lt c1) f1) (foot_kept s (cell_lt c2) f2) (foot_kept s (cell_lt c3) f3) (byts_off hb s.off hfar) hpo hm hg0 hg1 (fun j hj => cell_kept s (hH j hj) hG)
end
theorem enters_cut : Enters Tryd.prog 65 := enters_of Tryd.func65 (by kernel_rfl) rfl
theorem enters_begin : Enters Tryd.prog 67 := enters_of Tryd.func67 (by kernel_rfl) rfl
set_option maxHeartbeats 1000000 in
theorem cut_mk {K : Nat} {ar n : Int} (w : World) : Calls Tryd.prog 46 #[.pointer (some ⟨K, 0, none⟩), .int .i64 ar, .int .i64 n] w fun e w' => e = .returned (.func (.func 65) #[] #[.pointer (some ⟨w.heap.size, 0, none⟩), .pointer (some ⟨w.heap.size + 1, 0, none⟩), .pointer (some ⟨w.heap.size + 2, 0, none⟩)]) ∧ w' = ((w.alloc (.cells #[.pointer (some ⟨K, 0, none⟩)] 31)).alloc (.cells #[.int .i64 ar] 3)).alloc (.cells #[.int .i64 n] 3) := by
  go_enter Tryd.func46, Tryd.ntmps46
  go_wp2_with fail
  go_ret
  exact ⟨rfl, rfl⟩
set_option maxHeartbeats 1000000 in
theorem begin_mk {K : Nat} {gn : Int} {po : Option Addr} {m k : Nat} (w : World) : Calls Tryd.prog 47 #[.pointer (some ⟨K, 0, none⟩), .int .u64 gn, .slice po m k] w fun e w' => e = .returned (.func (.func 67) #[] #[.pointer (some ⟨w.heap.size, 0, none⟩), .pointer (some ⟨w.heap.size + 1, 0, none⟩), .pointer (some ⟨w.heap.size + 2, 0, none⟩)]) ∧ w' = ((w.alloc (.cells #[.pointer (some ⟨K, 0, none⟩)] 31)).alloc (.cells #[.int .u64 gn] 38)).alloc (.cells #[.slice po m k] 28) := by
  go_enter Tryd.func47, Tryd.ntmps47
  go_wp2_with fail
  go_ret
  exact ⟨rfl, rfl⟩
theorem three_cells (z : World) (u0 u1 u2 : Value) (t0 t1 t2 : TypeId) : (((z.alloc (.cells #[u0] t0)).alloc (.cells #[u1] t1)).alloc (.cells #[u2] t2)).cell? ⟨z.heap.size, 0, none⟩ = some u0 ∧ (((z.alloc (.cells #[u0] t0)).alloc (.cells #[u1] t1)).alloc (.cells #[u2] t2)).cell? ⟨z.heap.size + 1, 0, none⟩ = some u1 ∧ (((z.alloc (.cells #[u0] t0)).alloc (.cells #[u1] t1)).alloc (.cells #[u2] t2)).cell? ⟨z.heap.size + 2, 0, none⟩ = some u2 := by
  refine ⟨?_, ?_, ?_⟩
  · rw [World.cell?_alloc_lt _ _ ⟨z.heap.size, 0, none⟩ (by simp; omega), World.cell?_alloc_lt _ _ ⟨z.heap.size, 0, none⟩ (by simp)]; simp
  · rw [World.cell?_alloc_lt _ _ ⟨z.heap.size + 1, 0, none⟩ (by simp), show z.heap.size + 1 = (z.alloc (.cells #[u0] t0)).heap.size by simp]; simp
  · rw [show z.heap.size + 2 = ((z.alloc (.cells #[u0] t0)).alloc (.cells #[u1] t1)).heap.size by simp, World.cell?_alloc_new]; rfl
/-- A step's maker, whatever step: the function value; it is that step in every world that comes. -/
def MkQ (x : World) (B K : Nat) (v0 v1 : Value) (o : Dop) (e : Ending) (y : World) : Prop := ∃ f caps, e = .returned (.func (.func f) #[] caps) ∧ Below x.heap.size x y ∧ Enters Tryd.prog f ∧ ∀ y', Below y.heap.size y y' → StepF y' B K v0 v1 o f caps
section
variable {x : World} {B K : Nat} {v0 v1 : Value} {σ : Sg} {ar : Int}
theorem below_allocs (x : World) (a b c : Obj) : Below x.heap.size x (((x.alloc a).alloc b).alloc c) := (((Below.refl x.heap.size x).alloc (Nat.le_refl _) a).alloc (by simp) b).alloc (by simp; omega) c
theorem cut_q (h : DskS x B K v0 v1 σ) (n : Int) : Calls Tryd.prog 46 #[.pointer (some ⟨K, 0, none⟩), .int .i64 ar, .int .i64 n] x (MkQ x B K v0 v1 (.cut ar n)) := by
  refine (cut_mk x).mono ?_
  rintro e y ⟨rfl, rfl⟩
  have hF : ∀ b, x.heap.size ≤ b → ¬ Foot K v0 v1 b := fun b hb g => by have := (h.foot_lt g).2; omega
  obtain ⟨c1, c2, c3⟩ := three_cells x (.pointer (some ⟨K, 0, none⟩)) (.int .i64 ar) (.int .i64 n) 31 3 3
  exact ⟨_, _, rfl, below_allocs x _ _ _, enters_cut, fun y' hy => stepF_cut ((hy.cell (p := ⟨x.heap.size, 0, none⟩) (cell_lt c1)).trans c1) ((hy.cell (p := ⟨x.heap.size + 1, 0, none⟩) (cell_lt c2)).trans c2) ((hy.cell (p := ⟨x.heap.size + 2, 0, none⟩) (cell_lt c3)).trans c3) (hF _ (by omega)) (hF _ (by omega)) (hF _ (by omega))⟩
theorem begin_q {gn : Int} {po : Option Addr} {m k : Nat} {bs : List Int} (h : DskS x B K v0 v1 σ) (hb : Byts x po m bs) (hfar : ∀ b o, 0 < m → po = some ⟨b, o, none⟩ → ¬ Foot K v0 v1 b) (hpo : po = none → k = 0) (hm : m ≤ 16777216) (hg0 : 0 ≤ gn) (hg1 : gn ≤ 18446744073709551615) (hH : Halves x) (hG : ¬ Foot K v0 v1 1) :
    Calls Tryd.prog 47 #[.pointer (some ⟨K, 0, none⟩), .int .u64 gn, .slice po m k] x (MkQ x B K v0 v1 (.app (gn % 2) (headB gn ++ recB bs))) := by
  refine (begin_mk x).mono ?_
  rintro e y ⟨rfl, rfl⟩
  have hF : ∀ b, x.heap.size ≤ b → ¬ Foot K v0 v1 b := fun b hb g => by have := (h.foot_lt g).2; omega
  obtain ⟨c1, c2, c3⟩ := three_cells x (.pointer (some ⟨K, 0, none⟩)) (.int .u64 gn) (.slice po m k) 31 38 28
  have hbx := below_allocs x (.cells #[.pointer (some ⟨K, 0, none⟩)] 31) (.cells #[.int .u64 gn] 38) (.cells #[.slice po m k] 28)
  refine ⟨_, _, rfl, hbx, enters_begin, fun y' hy => ?_⟩
  have hxy := hbx.trans (hy.mono hbx.size)
  exact stepF_begin ((hy.cell (p := ⟨x.heap.size, 0, none⟩) (cell_lt c1)).trans c1) ((hy.cell (p := ⟨x.heap.size + 1, 0, none⟩) (cell_lt c2)).trans c2) ((hy.cell (p := ⟨x.heap.size + 2, 0, none⟩) (cell_lt c3)).trans c3) (hF _ (by omega)) (hF _ (by omega)) (hF _ (by omega)) (hb.below hxy) hfar hpo hm hg0 hg1 (fun j hj => (hxy.cell (p := ⟨1, j, none⟩) (cell_lt (hH j hj))).trans (hH j hj)) hG
theorem syn_q (h : DskS x B K v0 v1 σ) : Calls Tryd.prog 30 #[.pointer (some ⟨K, 0, none⟩), .int .i64 ar] x (MkQ x B K v0 v1 (.syn ar)) := by
  refine (sync_q (x := x) (Or.inl rfl)).mono ?_
  rintro e y ⟨rfl, hb, c1, c2⟩
  have hF : ∀ b, x.heap.size ≤ b → ¬ Foot K v0 v1 b := fun b hb g => by have := (h.foot_lt g).2; omega
  exact ⟨_, _, rfl, hb, enters_sync, fun y' hy => stepF_syn ((hy.cell (p := ⟨x.heap.size, 0, none⟩) (cell_lt c1)).trans c1) ((hy.cell (p := ⟨x.heap.size + 1, 0, none⟩) (cell_lt c2)).trans c2) (hF _ (by omega)) (hF _ (by omega))⟩
end
end Go.Proofs.YtgminfbhaclbbaaDoor
