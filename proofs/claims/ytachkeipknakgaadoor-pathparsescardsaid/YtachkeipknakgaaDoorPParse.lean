/-
  path.Parse.
-/
import Derived.Test.YtachkeipknakgaaDoorPParts
import Derived.Laws.EntriesVeiled
namespace Go.Proofs.YtachkeipknakgaaDoor
open Go.RowKit

/-- The cells of a fault of layer "path". -/
def PFault (w : World) (b : Nat) (a code : Int) : Prop :=
  w.cell? ⟨b, 0, none⟩ = some (.string ⟨#[112, 97, 116, 104]⟩) ∧ w.cell? ⟨b, 1, none⟩ = some (.int .i64 a) ∧ w.cell? ⟨b, 2, none⟩ = some (.int .i64 code) ∧ w.cell? ⟨b, 3, none⟩ = some .nilIface
theorem PFault.off {P : Nat → Prop} {w w' : World} {b : Nat} {a c : Int} (h : PFault w b a c) (ho : Off P w w') (hn : ¬ P b) : PFault w' b a c := by
  have hl : b < w.heap.size := cell_lt h.1
  have hc : ∀ o, w'.cell? ⟨b, o, none⟩ = w.cell? ⟨b, o, none⟩ := fun o => ho.cell (p := ⟨b, o, none⟩) hl hn
  exact ⟨by rw [hc]; exact h.1, by rw [hc]; exact h.2.1, by rw [hc]; exact h.2.2.1, by rw [hc]; exact h.2.2.2⟩
theorem PFault.below {w w' : World} {b : Nat} {a c : Int} (h : PFault w b a c) (hb : Below w.heap.size w w') : PFault w' b a c := h.off (P := fun _ => False) (Off.of_below hb) id
set_option maxHeartbeats 400000 in
theorem pfault_any (a code : Int) (w : World) : Calls Tryd.prog 14 #[.int .i64 a, .int .i64 code, .nilIface] w fun e w' => e = .returned (.iface 57 (.pointer (some ⟨w.heap.size, 0, none⟩))) ∧ PFault w' w.heap.size a code ∧ Below w.heap.size w w' := by
  go_enter Tryd.func14, Tryd.ntmps14
  go_wp2
  go_ret
  exact ⟨rfl, ⟨by simp, by simp, by simp, by simp⟩, (Below.refl _ _).alloc (Nat.le_refl _) _⟩
/-- A place's text, whole. -/
def F6 (s : ByteArray) (x : St) : Except Nat St := endS s x
def F5 (s : ByteArray) (x : St) : Except Nat St := bind2 (dotS s (sg s) putB x) (F6 s)
def F4 (s : ByteArray) (x : St) : Except Nat St := bind2 (dotS s (sg s) putC x) (F5 s)
def F3 (s : ByteArray) (x : St) : Except Nat St := bind2 (brS s (sg s) putR x) (F4 s)
def F2 (s : ByteArray) (x : St) : Except Nat St := bind2 (fldS s (sg s) putF x) (F3 s)
def F1 (s : ByteArray) (x : St) : Except Nat St := bind2 (brS s (sg s) putO x) (F2 s)
def parseS (s : ByteArray) : Except Nat St := bind2 (if nmC s = 3 then .ok ⟨3, 1, 1, 1, 1, 1⟩ else .error (nmC s)) (F1 s)
/-- What Parse answers. -/
def POut (s : ByteArray) (X : Except Nat St) (e : Ending) (w' : World) : Prop :=
  (∃ x, X = .ok x ∧ e = .returned (.tuple #[plc (sg s) x.o x.f x.r x.c x.b, .nilIface])) ∨ (∃ (p b : Nat), X = .error p ∧ e = .returned (.tuple #[plc ⟨#[]⟩ 0 0 0 0 0, .iface 57 (.pointer (some ⟨b, 0, none⟩))]) ∧ PFault w' b p 10)
/-- The result's block, all zeros. -/
structure Zr (w : World) (N : Nat) : Prop where
  z0 : w.cell? ⟨N, 0, none⟩ = some (.string ⟨#[]⟩)
  z1 : w.cell? ⟨N, 1, none⟩ = some (.int .i64 0)
  z2 : w.cell? ⟨N, 2, none⟩ = some (.int .i64 0)
  z3 : w.cell? ⟨N, 3, none⟩ = some (.int .i64 0)
  z4 : w.cell? ⟨N, 4, none⟩ = some (.int .i64 0)
  z5 : w.cell? ⟨N, 5, none⟩ = some (.int .i64 0)
  fr : ∀ j, w.frozen? ⟨N, j, none⟩ = false
theorem Zr.off {P : Nat → Prop} {w w' : World} {N : Nat} (h : Zr w N) (ho : Off P w w') (hn : ¬ P N) : Zr w' N := by
  have hl : N < w.heap.size := cell_lt h.z0
  have hc : ∀ j, w'.cell? ⟨N, j, none⟩ = w.cell? ⟨N, j, none⟩ := fun j => ho.cell (p := ⟨N, j, none⟩) hl hn
  exact ⟨by rw [hc]; exact h.z0, by rw [hc]; exact h.z1, by rw [hc]; exact h.z2, by rw [hc]; exact h.z3, by rw [hc]; exact h.z4, by rw [hc]; exact h.z5, fun j => by rw [ho.frozen (p := ⟨N, j, none⟩) hl hn]; exact h.fr j⟩
theorem Zr.new (w : World) : Zr (w.alloc (.cells #[.string ⟨#[]⟩, .int .i64 0, .int .i64 0, .int .i64 0, .int .i64 0, .int .i64 0] 23)) w.heap.size :=
  ⟨by simp, by simp, by simp, by simp, by simp, by simp, fun j => by simp⟩
theorem off_six (w : World) (N : Nat) (v0 v1 v2 v3 v4 v5 : Value) : Off (· = N) w ((((((w.setCell ⟨N, 0, none⟩ v0).setCell ⟨N, 1, none⟩ v1).setCell ⟨N, 2, none⟩ v2).setCell ⟨N, 3, none⟩ v3).setCell ⟨N, 4, none⟩ v4).setCell ⟨N, 5, none⟩ v5) :=
  ((((((Off.refl (· = N) w).setCell (p := ⟨N, 0, none⟩) rfl v0).setCell (p := ⟨N, 1, none⟩) rfl v1).setCell (p := ⟨N, 2, none⟩) rfl v2).setCell (p := ⟨N, 3, none⟩) rfl v3).setCell (p := ⟨N, 4, none⟩) rfl v4).setCell (p := ⟨N, 5, none⟩) rfl v5
theorem new_rd {s : ByteArray} (w : World) (n : Nat) (hn : w.heap.size = n) (hs : s.size ≤ maxLen) : PRd (w.alloc (.cells #[.string s, .int .i64 0, .string ⟨#[]⟩, .int .i64 1, .int .i64 1, .int .i64 1, .int .i64 1, .int .i64 1] 35)) n s ⟨#[]⟩ ⟨0, 1, 1, 1, 1, 1⟩ := by
  subst hn
  exact ⟨by simp, by simp, by simp, by simp, by simp, by simp, by simp, by simp, fun j => by simp, Nat.zero_le _, hs⟩
theorem idx0 (p : Value) (w : World) : (Instr.index 37 (.agg #[.func (.func 7) #[p] #[], .func (.func 8) #[p] #[], .func (.func 9) #[p] #[], .func (.func 10) #[p] #[], .func (.func 11) #[p] #[], .func (.func 12) #[p] #[], .func (.func 13) #[p] #[]]) (.int .i64 0)).run Tryd.prog w = .ok (.func (.func 7) #[p] #[]) w := by kernel_rfl
theorem idx1 (p : Value) (w : World) : (Instr.index 37 (.agg #[.func (.func 7) #[p] #[], .func (.func 8) #[p] #[], .func (.func 9) #[p] #[], .func (.func 10) #[p] #[], .func (.func 11) #[p] #[], .func (.func 12) #[p] #[], .func (.func 13) #[p] #[]]) (.int .i64 1)).run Tryd.prog w = .ok (.func (.func 8) #[p] #[]) w := by kernel_rfl
theorem idx2 (p : Value) (w : World) : (Instr.index 37 (.agg #[.func (.func 7) #[p] #[], .func (.func 8) #[p] #[], .func (.func 9) #[p] #[], .func (.func 10) #[p] #[], .func (.func 11) #[p] #[], .func (.func 12) #[p] #[], .func (.func 13) #[p] #[]]) (.int .i64 2)).run Tryd.prog w = .ok (.func (.func 9) #[p] #[]) w := by kernel_rfl
theorem idx3 (p : Value) (w : World) : (Instr.index 37 (.agg #[.func (.func 7) #[p] #[], .func (.func 8) #[p] #[], .func (.func 9) #[p] #[], .func (.func 10) #[p] #[], .func (.func 11) #[p] #[], .func (.func 12) #[p] #[], .func (.func 13) #[p] #[]]) (.int .i64 3)).run Tryd.prog w = .ok (.func (.func 10) #[p] #[]) w := by kernel_rfl
theorem idx4 (p : Value) (w : World) : (Instr.index 37 (.agg #[.func (.func 7) #[p] #[], .func (.func 8) #[p] #[], .func (.func 9) #[p] #[], .func (.func 10) #[p] #[], .func (.func 11) #[p] #[], .func (.func 12) #[p] #[], .func (.func 13) #[p] #[]]) (.int .i64 4)).run Tryd.prog w = .ok (.func (.func 11) #[p] #[]) w := by kernel_rfl
theorem idx5 (p : Value) (w : World) : (Instr.index 37 (.agg #[.func (.func 7) #[p] #[], .func (.func 8) #[p] #[], .func (.func 9) #[p] #[], .func (.func 10) #[p] #[], .func (.func 11) #[p] #[], .func (.func 12) #[p] #[], .func (.func 13) #[p] #[]]) (.int .i64 5)).run Tryd.prog w = .ok (.func (.func 12) #[p] #[]) w := by kernel_rfl
theorem idx6 (p : Value) (w : World) : (Instr.index 37 (.agg #[.func (.func 7) #[p] #[], .func (.func 8) #[p] #[], .func (.func 9) #[p] #[], .func (.func 10) #[p] #[], .func (.func 11) #[p] #[], .func (.func 12) #[p] #[], .func (.func 13) #[p] #[]]) (.int .i64 6)).run Tryd.prog w = .ok (.func (.func 13) #[p] #[]) w := by kernel_rfl
set_option maxRecDepth 100000 in
set_option maxHeartbeats 8000000 in
theorem Parse_any (s : ByteArray) (w : World) (hs : s.size ≤ maxLen) : Calls Tryd.prog 4 #[.string s] w fun e w' => POut s (parseS s) e w' ∧ Below w.heap.size w w' := by
  have HS : Hid (s.size ≤ maxLen) := hs
  clear hs
  have i0 := idx0
  have i1 := idx1
  have i2 := idx2
  have i3 := idx3
  have i4 := idx4
  have i5 := idx5
  have i6 := idx6
  go_enter Tryd.func4, Tryd.ntmps4
  go_wp2_with fail
  obtain ⟨W0, hW0⟩ : ∃ W0, ((w.alloc (.cells #[.string ⟨#[]⟩, .int .i64 0, .int .i64 0, .int .i64 0, .int .i64 0, .int .i64 0] 23)).alloc (.cells #[.string s, .int .i64 0, .string ⟨#[]⟩, .int .i64 1, .int .i64 1, .int .i64 1, .int .i64 1, .int .i64 1] 35)).alloc (.cells #[.func (.func 7) #[.pointer (some ⟨w.heap.size + 1, 0, none⟩)] #[], .func (.func 8) #[.pointer (some ⟨w.heap.size + 1, 0, none⟩)] #[], .func (.func 9) #[.pointer (some ⟨w.heap.size + 1, 0, none⟩)] #[], .func (.func 10) #[.pointer (some ⟨w.heap.size + 1, 0, none⟩)] #[], .func (.func 11) #[.pointer (some ⟨w.heap.size + 1, 0, none⟩)] #[], .func (.func 12) #[.pointer (some ⟨w.heap.size + 1, 0, none⟩)] #[], .func (.func 13) #[.pointer (some ⟨w.heap.size + 1, 0, none⟩)] #[]] 37) = W0 := ⟨_, rfl⟩
  have HR : Hid (PRd W0 (w.heap.size + 1) s ⟨#[]⟩ ⟨0, 1, 1, 1, 1, 1⟩) := by
    have h1 : PRd ((w.alloc (.cells #[.string ⟨#[]⟩, .int .i64 0, .int .i64 0, .int .i64 0, .int .i64 0, .int .i64 0] 23)).alloc (.cells #[.string s, .int .i64 0, .string ⟨#[]⟩, .int .i64 1, .int .i64 1, .int .i64 1, .int .i64 1, .int .i64 1] 35)) (w.heap.size + 1) s ⟨#[]⟩ ⟨0, 1, 1, 1, 1, 1⟩ := new_rd _ _ (by simp) HS.out
    unfold Hid; rw [← hW0]; exact h1.off (P := fun _ => False) ((Off.refl _ _).alloc _) id
  have HZ : Hid (Zr W0 w.heap.size) := by
    unfold Hid; rw [← hW0]; exact (Zr.new w).off (P := fun _ => False) (((Off.refl _ _).alloc _).alloc _) id
  have HB : Hid (Below w.heap.size w W0) := by
    unfold Hid; rw [← hW0]; exact (((Below.refl _ _).alloc (Nat.le_refl _) _).alloc (by simp) _).alloc (by simp; omega) _
  have HNR : Hid (¬ w.heap.size = w.heap.size + 1) := by unfold Hid; omega
  rw [hW0]
  clear hW0
  refine wp_loop_rounds 8 ?_
  rw [rounds_succ]
  go_wp2_with fail
  refine (seg_any _ HR.out).mono ?_
  rintro e w1 ⟨⟨x1, hx, rfl, r⟩ | ⟨p, hp, rfl, r⟩, o⟩
  rotate_left
  · have HP : Hid (parseS s = .error p) := by unfold Hid; unfold parseS; rw [hp]; rfl
    have HZ' : Hid (Zr w1 w.heap.size) := HZ.out.off o HNR.out
    have HB' : Hid (Below w.heap.size w w1) := HB.out.trans (o.below (B := w.heap.size) HB.out.size (by rintro k rfl; omega))
    have r1 := r
    clear hp r o
    go_wp2_with fail
    refine (pfault_any (p : Int) 10 _).mono ?_
    rintro e y ⟨rfl, hF, hb⟩
    have HZ2 : Hid (Zr y w.heap.size) := HZ'.out.off (P := fun _ => False) (Off.of_below hb) id
    have HB2 : Hid (Below w.heap.size w y) := below_then HB'.out hb
    have HF : Hid (PFault y w1.heap.size p 10) := hF
    have HNB : Hid (¬ w1.heap.size = w.heap.size) := by have := cell_lt HZ'.out.z0; simp only at this; unfold Hid; omega
    clear hF hb r1
    have z0 := HZ2.out.z0
    have z1 := HZ2.out.z1
    have z2 := HZ2.out.z2
    have z3 := HZ2.out.z3
    have z4 := HZ2.out.z4
    have z5 := HZ2.out.z5
    have zf := HZ2.out.fr
    go_wp2_with fail
    refine bodyPost_ret (v := .tuple #[plc ⟨#[]⟩ 0 0 0 0 0, .iface 57 (.pointer (some ⟨w1.heap.size, 0, none⟩))]) (by simp [results, Tryd.results4, go_sem, plc, z0, z1, z2, z3, z4, z5]) rfl ⟨Or.inr ⟨p, _, HP.out, rfl, HF.out.off (off_six _ _ _ _ _ _ _ _) HNB.out⟩, HB2.out.trans ((off_six _ _ _ _ _ _ _ _).below (B := w.heap.size) HB2.out.size (by rintro k rfl; omega))⟩
  have HXn : Hid (parseS s = F1 s x1) := by unfold Hid; unfold parseS; rw [hx]; rfl
  have HR1 : Hid (PRd w1 (w.heap.size + 1) s (sg s) x1) := r
  have HZn : Hid (Zr w1 w.heap.size) := HZ.out.off o HNR.out
  have HBn : Hid (Below w.heap.size w w1) := HB.out.trans (o.below (B := w.heap.size) HB.out.size (by rintro k rfl; omega))
  clear hx r o HZ HB
  have HX := HXn
  have HZ := HZn
  have HB := HBn
  clear HXn HZn HBn
  go_wp2_with fail
  rw [rounds_succ]
  go_wp2_with fail
  refine (occur_any _ HR1.out).mono ?_
  rintro e w2 ⟨⟨x2, hx, rfl, r⟩ | ⟨p, hp, rfl, r⟩, o⟩
  rotate_left
  · have HP : Hid (parseS s = .error p) := by unfold Hid; rw [HX.out]; unfold F1; rw [hp]; rfl
    have HZ' : Hid (Zr w2 w.heap.size) := HZ.out.off o HNR.out
    have HB' : Hid (Below w.heap.size w w2) := HB.out.trans (o.below (B := w.heap.size) HB.out.size (by rintro k rfl; omega))
    have r1 := r
    clear hp r o
    go_wp2_with fail
    refine (pfault_any (p : Int) 10 _).mono ?_
    rintro e y ⟨rfl, hF, hb⟩
    have HZ2 : Hid (Zr y w.heap.size) := HZ'.out.off (P := fun _ => False) (Off.of_below hb) id
    have HB2 : Hid (Below w.heap.size w y) := below_then HB'.out hb
    have HF : Hid (PFault y w2.heap.size p 10) := hF
    have HNB : Hid (¬ w2.heap.size = w.heap.size) := by have := cell_lt HZ'.out.z0; simp only at this; unfold Hid; omega
    clear hF hb r1
    have z0 := HZ2.out.z0
    have z1 := HZ2.out.z1
    have z2 := HZ2.out.z2
    have z3 := HZ2.out.z3
    have z4 := HZ2.out.z4
    have z5 := HZ2.out.z5
    have zf := HZ2.out.fr
    go_wp2_with fail
    refine bodyPost_ret (v := .tuple #[plc ⟨#[]⟩ 0 0 0 0 0, .iface 57 (.pointer (some ⟨w2.heap.size, 0, none⟩))]) (by simp [results, Tryd.results4, go_sem, plc, z0, z1, z2, z3, z4, z5]) rfl ⟨Or.inr ⟨p, _, HP.out, rfl, HF.out.off (off_six _ _ _ _ _ _ _ _) HNB.out⟩, HB2.out.trans ((off_six _ _ _ _ _ _ _ _).below (B := w.heap.size) HB2.out.size (by rintro k rfl; omega))⟩
  have HXn : Hid (parseS s = F2 s x2) := by unfold Hid; rw [HX.out]; unfold F1; rw [hx]; rfl
  have HR2 : Hid (PRd w2 (w.heap.size + 1) s (sg s) x2) := r
  have HZn : Hid (Zr w2 w.heap.size) := HZ.out.off o HNR.out
  have HBn : Hid (Below w.heap.size w w2) := HB.out.trans (o.below (B := w.heap.size) HB.out.size (by rintro k rfl; omega))
  clear hx r o HZ HB HX HR1
  have HX := HXn
  have HZ := HZn
  have HB := HBn
  clear HXn HZn HBn
  go_wp2_with fail
  rw [rounds_succ]
  go_wp2_with fail
  refine (field_any _ HR2.out).mono ?_
  rintro e w3 ⟨⟨x3, hx, rfl, r⟩ | ⟨p, hp, rfl, r⟩, o⟩
  rotate_left
  · have HP : Hid (parseS s = .error p) := by unfold Hid; rw [HX.out]; unfold F2; rw [hp]; rfl
    have HZ' : Hid (Zr w3 w.heap.size) := HZ.out.off o HNR.out
    have HB' : Hid (Below w.heap.size w w3) := HB.out.trans (o.below (B := w.heap.size) HB.out.size (by rintro k rfl; omega))
    have r1 := r
    clear hp r o
    go_wp2_with fail
    refine (pfault_any (p : Int) 10 _).mono ?_
    rintro e y ⟨rfl, hF, hb⟩
    have HZ2 : Hid (Zr y w.heap.size) := HZ'.out.off (P := fun _ => False) (Off.of_below hb) id
    have HB2 : Hid (Below w.heap.size w y) := below_then HB'.out hb
    have HF : Hid (PFault y w3.heap.size p 10) := hF
    have HNB : Hid (¬ w3.heap.size = w.heap.size) := by have := cell_lt HZ'.out.z0; simp only at this; unfold Hid; omega
    clear hF hb r1
    have z0 := HZ2.out.z0
    have z1 := HZ2.out.z1
    have z2 := HZ2.out.z2
    have z3 := HZ2.out.z3
    have z4 := HZ2.out.z4
    have z5 := HZ2.out.z5
    have zf := HZ2.out.fr
    go_wp2_with fail
    refine bodyPost_ret (v := .tuple #[plc ⟨#[]⟩ 0 0 0 0 0, .iface 57 (.pointer (some ⟨w3.heap.size, 0, none⟩))]) (by simp [results, Tryd.results4, go_sem, plc, z0, z1, z2, z3, z4, z5]) rfl ⟨Or.inr ⟨p, _, HP.out, rfl, HF.out.off (off_six _ _ _ _ _ _ _ _) HNB.out⟩, HB2.out.trans ((off_six _ _ _ _ _ _ _ _).below (B := w.heap.size) HB2.out.size (by rintro k rfl; omega))⟩
  have HXn : Hid (parseS s = F3 s x3) := by unfold Hid; rw [HX.out]; unfold F2; rw [hx]; rfl
  have HR3 : Hid (PRd w3 (w.heap.size + 1) s (sg s) x3) := r
  have HZn : Hid (Zr w3 w.heap.size) := HZ.out.off o HNR.out
  have HBn : Hid (Below w.heap.size w w3) := HB.out.trans (o.below (B := w.heap.size) HB.out.size (by rintro k rfl; omega))
  clear hx r o HZ HB HX HR2
  have HX := HXn
  have HZ := HZn
  have HB := HBn
  clear HXn HZn HBn
  go_wp2_with fail
  rw [rounds_succ]
  go_wp2_with fail
  refine (rep_any _ HR3.out).mono ?_
  rintro e w4 ⟨⟨x4, hx, rfl, r⟩ | ⟨p, hp, rfl, r⟩, o⟩
  rotate_left
  · have HP : Hid (parseS s = .error p) := by unfold Hid; rw [HX.out]; unfold F3; rw [hp]; rfl
    have HZ' : Hid (Zr w4 w.heap.size) := HZ.out.off o HNR.out
    have HB' : Hid (Below w.heap.size w w4) := HB.out.trans (o.below (B := w.heap.size) HB.out.size (by rintro k rfl; omega))
    have r1 := r
    clear hp r o
    go_wp2_with fail
    refine (pfault_any (p : Int) 10 _).mono ?_
    rintro e y ⟨rfl, hF, hb⟩
    have HZ2 : Hid (Zr y w.heap.size) := HZ'.out.off (P := fun _ => False) (Off.of_below hb) id
    have HB2 : Hid (Below w.heap.size w y) := below_then HB'.out hb
    have HF : Hid (PFault y w4.heap.size p 10) := hF
    have HNB : Hid (¬ w4.heap.size = w.heap.size) := by have := cell_lt HZ'.out.z0; simp only at this; unfold Hid; omega
    clear hF hb r1
    have z0 := HZ2.out.z0
    have z1 := HZ2.out.z1
    have z2 := HZ2.out.z2
    have z3 := HZ2.out.z3
    have z4 := HZ2.out.z4
    have z5 := HZ2.out.z5
    have zf := HZ2.out.fr
    go_wp2_with fail
    refine bodyPost_ret (v := .tuple #[plc ⟨#[]⟩ 0 0 0 0 0, .iface 57 (.pointer (some ⟨w4.heap.size, 0, none⟩))]) (by simp [results, Tryd.results4, go_sem, plc, z0, z1, z2, z3, z4, z5]) rfl ⟨Or.inr ⟨p, _, HP.out, rfl, HF.out.off (off_six _ _ _ _ _ _ _ _) HNB.out⟩, HB2.out.trans ((off_six _ _ _ _ _ _ _ _).below (B := w.heap.size) HB2.out.size (by rintro k rfl; omega))⟩
  have HXn : Hid (parseS s = F4 s x4) := by unfold Hid; rw [HX.out]; unfold F3; rw [hx]; rfl
  have HR4 : Hid (PRd w4 (w.heap.size + 1) s (sg s) x4) := r
  have HZn : Hid (Zr w4 w.heap.size) := HZ.out.off o HNR.out
  have HBn : Hid (Below w.heap.size w w4) := HB.out.trans (o.below (B := w.heap.size) HB.out.size (by rintro k rfl; omega))
  clear hx r o HZ HB HX HR3
  have HX := HXn
  have HZ := HZn
  have HB := HBn
  clear HXn HZn HBn
  go_wp2_with fail
  rw [rounds_succ]
  go_wp2_with fail
  refine (comp_any _ HR4.out).mono ?_
  rintro e w5 ⟨⟨x5, hx, rfl, r⟩ | ⟨p, hp, rfl, r⟩, o⟩
  rotate_left
  · have HP : Hid (parseS s = .error p) := by unfold Hid; rw [HX.out]; unfold F4; rw [hp]; rfl
    have HZ' : Hid (Zr w5 w.heap.size) := HZ.out.off o HNR.out
    have HB' : Hid (Below w.heap.size w w5) := HB.out.trans (o.below (B := w.heap.size) HB.out.size (by rintro k rfl; omega))
    have r1 := r
    clear hp r o
    go_wp2_with fail
    refine (pfault_any (p : Int) 10 _).mono ?_
    rintro e y ⟨rfl, hF, hb⟩
    have HZ2 : Hid (Zr y w.heap.size) := HZ'.out.off (P := fun _ => False) (Off.of_below hb) id
    have HB2 : Hid (Below w.heap.size w y) := below_then HB'.out hb
    have HF : Hid (PFault y w5.heap.size p 10) := hF
    have HNB : Hid (¬ w5.heap.size = w.heap.size) := by have := cell_lt HZ'.out.z0; simp only at this; unfold Hid; omega
    clear hF hb r1
    have z0 := HZ2.out.z0
    have z1 := HZ2.out.z1
    have z2 := HZ2.out.z2
    have z3 := HZ2.out.z3
    have z4 := HZ2.out.z4
    have z5 := HZ2.out.z5
    have zf := HZ2.out.fr
    go_wp2_with fail
    refine bodyPost_ret (v := .tuple #[plc ⟨#[]⟩ 0 0 0 0 0, .iface 57 (.pointer (some ⟨w5.heap.size, 0, none⟩))]) (by simp [results, Tryd.results4, go_sem, plc, z0, z1, z2, z3, z4, z5]) rfl ⟨Or.inr ⟨p, _, HP.out, rfl, HF.out.off (off_six _ _ _ _ _ _ _ _) HNB.out⟩, HB2.out.trans ((off_six _ _ _ _ _ _ _ _).below (B := w.heap.size) HB2.out.size (by rintro k rfl; omega))⟩
  have HXn : Hid (parseS s = F5 s x5) := by unfold Hid; rw [HX.out]; unfold F4; rw [hx]; rfl
  have HR5 : Hid (PRd w5 (w.heap.size + 1) s (sg s) x5) := r
  have HZn : Hid (Zr w5 w.heap.size) := HZ.out.off o HNR.out
  have HBn : Hid (Below w.heap.size w w5) := HB.out.trans (o.below (B := w.heap.size) HB.out.size (by rintro k rfl; omega))
  clear hx r o HZ HB HX HR4
  have HX := HXn
  have HZ := HZn
  have HB := HBn
  clear HXn HZn HBn
  go_wp2_with fail
  rw [rounds_succ]
  go_wp2_with fail
  refine (sub_any _ HR5.out).mono ?_
  rintro e w6 ⟨⟨x6, hx, rfl, r⟩ | ⟨p, hp, rfl, r⟩, o⟩
  rotate_left
  · have HP : Hid (parseS s = .error p) := by unfold Hid; rw [HX.out]; unfold F5; rw [hp]; rfl
    have HZ' : Hid (Zr w6 w.heap.size) := HZ.out.off o HNR.out
    have HB' : Hid (Below w.heap.size w w6) := HB.out.trans (o.below (B := w.heap.size) HB.out.size (by rintro k rfl; omega))
    have r1 := r
    clear hp r o
    go_wp2_with fail
    refine (pfault_any (p : Int) 10 _).mono ?_
    rintro e y ⟨rfl, hF, hb⟩
    have HZ2 : Hid (Zr y w.heap.size) := HZ'.out.off (P := fun _ => False) (Off.of_below hb) id
    have HB2 : Hid (Below w.heap.size w y) := below_then HB'.out hb
    have HF : Hid (PFault y w6.heap.size p 10) := hF
    have HNB : Hid (¬ w6.heap.size = w.heap.size) := by have := cell_lt HZ'.out.z0; simp only at this; unfold Hid; omega
    clear hF hb r1
    have z0 := HZ2.out.z0
    have z1 := HZ2.out.z1
    have z2 := HZ2.out.z2
    have z3 := HZ2.out.z3
    have z4 := HZ2.out.z4
    have z5 := HZ2.out.z5
    have zf := HZ2.out.fr
    go_wp2_with fail
    refine bodyPost_ret (v := .tuple #[plc ⟨#[]⟩ 0 0 0 0 0, .iface 57 (.pointer (some ⟨w6.heap.size, 0, none⟩))]) (by simp [results, Tryd.results4, go_sem, plc, z0, z1, z2, z3, z4, z5]) rfl ⟨Or.inr ⟨p, _, HP.out, rfl, HF.out.off (off_six _ _ _ _ _ _ _ _) HNB.out⟩, HB2.out.trans ((off_six _ _ _ _ _ _ _ _).below (B := w.heap.size) HB2.out.size (by rintro k rfl; omega))⟩
  have HXn : Hid (parseS s = F6 s x6) := by unfold Hid; rw [HX.out]; unfold F5; rw [hx]; rfl
  have HR6 : Hid (PRd w6 (w.heap.size + 1) s (sg s) x6) := r
  have HZn : Hid (Zr w6 w.heap.size) := HZ.out.off o HNR.out
  have HBn : Hid (Below w.heap.size w w6) := HB.out.trans (o.below (B := w.heap.size) HB.out.size (by rintro k rfl; omega))
  clear hx r o HZ HB HX HR5
  have HX := HXn
  have HZ := HZn
  have HB := HBn
  clear HXn HZn HBn
  go_wp2_with fail
  rw [rounds_succ]
  go_wp2_with fail
  refine (pend_any _ HR6.out).mono ?_
  rintro e w7 ⟨⟨x7, hx, rfl, r⟩ | ⟨p, hp, rfl, r⟩, o⟩
  rotate_left
  · have HP : Hid (parseS s = .error p) := by unfold Hid; rw [HX.out]; unfold F6; rw [hp]
    have HZ' : Hid (Zr w7 w.heap.size) := HZ.out.off o HNR.out
    have HB' : Hid (Below w.heap.size w w7) := HB.out.trans (o.below (B := w.heap.size) HB.out.size (by rintro k rfl; omega))
    have r1 := r
    clear hp r o
    go_wp2_with fail
    refine (pfault_any (p : Int) 10 _).mono ?_
    rintro e y ⟨rfl, hF, hb⟩
    have HZ2 : Hid (Zr y w.heap.size) := HZ'.out.off (P := fun _ => False) (Off.of_below hb) id
    have HB2 : Hid (Below w.heap.size w y) := below_then HB'.out hb
    have HF : Hid (PFault y w7.heap.size p 10) := hF
    have HNB : Hid (¬ w7.heap.size = w.heap.size) := by have := cell_lt HZ'.out.z0; simp only at this; unfold Hid; omega
    clear hF hb r1
    have z0 := HZ2.out.z0
    have z1 := HZ2.out.z1
    have z2 := HZ2.out.z2
    have z3 := HZ2.out.z3
    have z4 := HZ2.out.z4
    have z5 := HZ2.out.z5
    have zf := HZ2.out.fr
    go_wp2_with fail
    refine bodyPost_ret (v := .tuple #[plc ⟨#[]⟩ 0 0 0 0 0, .iface 57 (.pointer (some ⟨w7.heap.size, 0, none⟩))]) (by simp [results, Tryd.results4, go_sem, plc, z0, z1, z2, z3, z4, z5]) rfl ⟨Or.inr ⟨p, _, HP.out, rfl, HF.out.off (off_six _ _ _ _ _ _ _ _) HNB.out⟩, HB2.out.trans ((off_six _ _ _ _ _ _ _ _).below (B := w.heap.size) HB2.out.size (by rintro k rfl; omega))⟩
  have HXn : Hid (parseS s = .ok x7) := by unfold Hid; rw [HX.out]; unfold F6; rw [hx]
  have HR7 : Hid (PRd w7 (w.heap.size + 1) s (sg s) x7) := r
  have HZn : Hid (Zr w7 w.heap.size) := HZ.out.off o HNR.out
  have HBn : Hid (Below w.heap.size w w7) := HB.out.trans (o.below (B := w.heap.size) HB.out.size (by rintro k rfl; omega))
  clear hx r o HZ HB HX HR6
  have HX := HXn
  have HZ := HZn
  have HB := HBn
  clear HXn HZn HBn
  have c2 := HR7.out.seg
  have c3 := HR7.out.o
  have c4 := HR7.out.f
  have c5 := HR7.out.r
  have c6 := HR7.out.c
  have c7 := HR7.out.b
  have z0 := HZ.out.z0
  have z1 := HZ.out.z1
  have z2 := HZ.out.z2
  have z3 := HZ.out.z3
  have z4 := HZ.out.z4
  have z5 := HZ.out.z5
  have zf := HZ.out.fr
  go_wp2_with fail
  rw [rounds_succ]
  go_wp2_with fail
  refine bodyPost_ret (v := .tuple #[plc (sg s) x7.o x7.f x7.r x7.c x7.b, .nilIface]) (by simp [results, Tryd.results4, go_sem, plc, z0, z1, z2, z3, z4, z5]) rfl ⟨Or.inl ⟨x7, HX.out, rfl⟩, HB.out.trans ((off_six _ _ _ _ _ _ _ _).below (B := w.heap.size) HB.out.size (by rintro k rfl; omega))⟩
end Go.Proofs.YtachkeipknakgaaDoor
