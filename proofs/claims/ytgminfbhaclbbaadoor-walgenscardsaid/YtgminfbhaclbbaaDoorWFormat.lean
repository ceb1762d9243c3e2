/-
  The log's Format.
-/
import Derived.Test.YtgminfbhaclbbaaDoorWBegin
namespace Go.Proofs.YtgminfbhaclbbaaDoor
open Go.RowKit Go.BigFrame

/-- What play answers of a list of writes. -/
def PlayQ (y : World) (B K : Nat) (v0 v1 : Value) (σ : Sg) (os : List Dop) (e : Ending) (y' : World) : Prop :=
  ∃ ev u0 u1, e = .returned ev ∧ DskS y' B K u0 u1 (runS σ os).1 ∧ DStep y y' K v0 v1 u0 u1 ∧ (((runS σ os).2 = 0 ∧ ev = .nilIface) ∨ ((runS σ os).2 ≠ 0 ∧ ∃ b b', ev = .iface 98 (.pointer (some ⟨b, 0, none⟩)) ∧ y'.cell? ⟨b, 0, none⟩ = some (.string ⟨#[119, 97, 108]⟩) ∧ y'.cell? ⟨b, 1, none⟩ = some (.int .i64 0) ∧ y'.cell? ⟨b, 2, none⟩ = some (.int .i64 63) ∧ y'.cell? ⟨b, 3, none⟩ = some (.iface 98 (.pointer (some ⟨b', 0, none⟩))) ∧ FaultAt y' b' 0 (runS σ os).2 ∧ y.heap.size ≤ b ∧ y.heap.size ≤ b'))
theorem PlayQ.pre {x y : World} {B K : Nat} {v0 v1 : Value} {σ : Sg} {os : List Dop} {e : Ending} {y' : World} (h : PlayQ y B K v0 v1 σ os e y') (hb : Below x.heap.size x y) : PlayQ x B K v0 v1 σ os e y' := by
  have hs := hb.size
  obtain ⟨ev, u0, u1, he, hd, hst, hr⟩ := h
  refine ⟨ev, u0, u1, he, hd, (DStep.of_below K v0 v1 hb).trans hst, hr.imp id ?_⟩
  rintro ⟨h0, b, b', h1, h2, h3, h4, h5, h6, h7, h8⟩
  exact ⟨h0, b, b', h1, h2, h3, h4, h5, h6, by omega, by omega⟩
def fmtOps (bs : List Int) : List Dop := [.cut 0 0, .cut 1 0, .app (1 % 2) (headB 1 ++ recB bs), .syn 1]
section
variable {x : World} {B K : Nat} {v0 v1 : Value} {σ : Sg} {po : Option Addr} {m k : Nat} {bs : List Int}
theorem DskS.under {y : World} (h : DskS x B K v0 v1 σ) (hb : Below x.heap.size x y) : DskS y B K v0 v1 σ := h.off (P := fun _ => False) (Off.of_below hb) (fun _ _ => id)
theorem Halves.under {y : World} (h : Halves x) (hb : Below x.heap.size x y) : Halves y := fun j hj => (hb.cell (p := ⟨1, j, none⟩) (cell_lt (h j hj))).trans (h j hj)
theorem four_cells (z : World) (u0 u1 u2 u3 : Value) (T : TypeId) (j : Nat) : (z.alloc (.cells #[u0, u1, u2, u3] T)).cell? ⟨z.heap.size, j, none⟩ = #[u0, u1, u2, u3][j]? := World.cell?_alloc_new _ _ _ _
set_option maxRecDepth 100000 in
set_option maxHeartbeats 4000000 in
theorem lFormat (h : DskS x B K v0 v1 σ) (hb : Byts x po m bs) (hfar : ∀ b o, 0 < m → po = some ⟨b, o, none⟩ → ¬ Foot K v0 v1 b) (hpo : po = none → k = 0) (hm : m ≤ 2097152) (hH : Halves x) (hG : ¬ Foot K v0 v1 1) :
    Calls Tryd.prog 25 #[.pointer (some ⟨K, 0, none⟩), .slice po m k] x (PlayQ x B K v0 v1 σ (fmtOps bs)) := by
  have HL : Hid (Calls Tryd.prog 44 #[.pointer (some ⟨K, 0, none⟩), .int .i64 0] x fun e w' => e = .returned (.tuple #[.int .i64 σ.x0.length, .nilIface]) ∧ w' = x) := Len0_ok h (stOf_any _)
  have HS : Hid (DskS x B K v0 v1 σ ∧ Byts x po m bs ∧ Halves x) := ⟨h, hb, hH⟩
  have HC : Hid (∀ y ar n, Below x.heap.size x y → Calls Tryd.prog 46 #[.pointer (some ⟨K, 0, none⟩), .int .i64 ar, .int .i64 n] y (MkQ y B K v0 v1 (.cut ar n))) := fun y ar n hy => cut_q (h.under hy) n
  have HB : Hid (∀ y, Below x.heap.size x y → Calls Tryd.prog 47 #[.pointer (some ⟨K, 0, none⟩), .int .u64 1, .slice po m k] y (MkQ y B K v0 v1 (.app (1 % 2) (headB 1 ++ recB bs)))) := fun y hy => begin_q (h.under hy) (hb.below hy) hfar hpo (by omega) (by omega) (by omega) (hH.under hy) hG
  have HY : Hid (∀ y, Below x.heap.size x y → Calls Tryd.prog 30 #[.pointer (some ⟨K, 0, none⟩), .int .i64 1] y (MkQ y B K v0 v1 (.syn 1))) := fun y hy => syn_q (h.under hy)
  have hbm : decide ((2097152 : Int) < m) = false := by simp; omega
  have hbm2 : ¬ (2097152 : Int) < m := by omega
  clear h hb hH hpo hfar hG
  go_enter Tryd.func25, Tryd.ntmps25
  go_wp2_with fail
  refine HL.out.mono ?_
  rintro e w1 ⟨rfl, hw1⟩
  rw [hw1]
  clear hw1 HL
  go_wp2_with fail
  refine (HC.out x 0 0 (Below.refl _ _)).mono ?_
  rintro e y1 ⟨f1, p1, rfl, b1, n1, s1⟩
  have H1 : Hid (Below x.heap.size x y1 ∧ Enters Tryd.prog f1 ∧ ∀ y', Below y1.heap.size y1 y' → StepF y' B K v0 v1 (.cut 0 0) f1 p1) := ⟨b1, n1, s1⟩
  clear b1 n1 s1
  go_wp2_with fail
  refine (HC.out y1 1 0 H1.out.1).mono ?_
  rintro e y2 ⟨f2, p2, rfl, b2, n2, s2⟩
  have H2 : Hid (Below y1.heap.size y1 y2 ∧ Enters Tryd.prog f2 ∧ (∀ y', Below y2.heap.size y2 y' → StepF y' B K v0 v1 (.cut 1 0) f2 p2) ∧ Below x.heap.size x y2) := ⟨b2, n2, s2, H1.out.1.trans (b2.mono H1.out.1.size)⟩
  clear b2 n2 s2
  go_wp2_with fail
  refine (HB.out y2 H2.out.2.2.2).mono ?_
  rintro e y3 ⟨f3, p3, rfl, b3, n3, s3⟩
  have H3 : Hid (Below y2.heap.size y2 y3 ∧ Enters Tryd.prog f3 ∧ (∀ y', Below y3.heap.size y3 y' → StepF y' B K v0 v1 (.app (1 % 2) (headB 1 ++ recB bs)) f3 p3) ∧ Below x.heap.size x y3) := ⟨b3, n3, s3, H2.out.2.2.2.trans (b3.mono H2.out.2.2.2.size)⟩
  clear b3 n3 s3
  go_wp2_with fail
  refine (areaOf_any (x := 1) _ (by omega)).mono ?_
  rintro e y3' ⟨rfl, hy3⟩
  rw [hy3]
  clear hy3
  go_wp2_with fail
  refine (HY.out y3 H3.out.2.2.2).mono ?_
  rintro e y4 ⟨f4, p4, rfl, b4, n4, s4⟩
  have H4 : Hid (Below y3.heap.size y3 y4 ∧ Enters Tryd.prog f4 ∧ (∀ y', Below y4.heap.size y4 y' → StepF y' B K v0 v1 (.syn 1) f4 p4) ∧ Below x.heap.size x y4) := ⟨b4, n4, s4, H3.out.2.2.2.trans (b4.mono H3.out.2.2.2.size)⟩
  clear b4 n4 s4
  go_wp2_with fail
  have HP : Hid (Calls Tryd.prog 35 #[.slice (some ⟨y4.heap.size, 0, none⟩) 4 4] (y4.alloc (.cells #[.func (.func f1) #[] p1, .func (.func f2) #[] p2, .func (.func f3) #[] p3, .func (.func f4) #[] p4] 73)) (PlayQ x B K v0 v1 σ (fmtOps bs))) := by
    have b45 : Below y4.heap.size y4 (y4.alloc (.cells #[.func (.func f1) #[] p1, .func (.func f2) #[] p2, .func (.func f3) #[] p3, .func (.func f4) #[] p4] 73)) := (Below.refl _ _).alloc (Nat.le_refl _) _
    have b35 := H4.out.1.trans (b45.mono H4.out.1.size)
    have b25 := H3.out.1.trans (b35.mono H3.out.1.size)
    have b15 := H2.out.1.trans (b25.mono H2.out.1.size)
    have b05 := H4.out.2.2.2.trans (b45.mono H4.out.2.2.2.size)
    refine (play_disk (os := fmtOps bs) (HS.out.1.under b05) ?_ ?_ (by simp [fmtOps])).mono fun e y' hq => (show PlayQ _ B K v0 v1 σ (fmtOps bs) e y' from hq).pre b05
    · intro j o ho
      match j, ho with
      | 0, ho => exact ⟨f1, p1, four_cells _ _ _ _ _ _ 0, H1.out.2.1, by cases ho; exact H1.out.2.2 _ b15⟩
      | 1, ho => exact ⟨f2, p2, four_cells _ _ _ _ _ _ 1, H2.out.2.1, by cases ho; exact H2.out.2.2.1 _ b25⟩
      | 2, ho => exact ⟨f3, p3, four_cells _ _ _ _ _ _ 2, H3.out.2.1, by cases ho; exact H3.out.2.2.1 _ b35⟩
      | 3, ho => exact ⟨f4, p4, four_cells _ _ _ _ _ _ 3, H4.out.2.1, by cases ho; exact H4.out.2.2.1 _ b45⟩
      | j + 4, ho => cases ho
    · intro g
      have := (HS.out.1.foot_lt g).2
      have := H4.out.2.2.2.size
      omega
  refine HP.out.mono ?_
  rintro e y5 ⟨ev, u0, u1, rfl, hr⟩
  have HQ : Hid (PlayQ x B K v0 v1 σ (fmtOps bs) (.returned ev) y5) := ⟨ev, u0, u1, rfl, hr⟩
  clear hr HP
  go_wp2_with fail
  go_ret
  exact HQ.out
end
end Go.Proofs.YtgminfbhaclbbaaDoor
