/-
  The law's does, on a disk of which only the lengths are told.
-/
import Derived.Test.YtgabikgkpgpbbaaDkDoes
namespace Go.Proofs.Ytgabikgkpgpbbaa
open Go.RowKit

/-- A disk with areas of these lengths. -/
def DE (w : World) (B K : Nat) (v0 v1 : Value) (l0 l1 : Nat) (st fu na ns nc : Int) : Prop := ∃ x0 x1 s0 s1, Dsk w B K v0 v1 x0 x1 s0 s1 st fu na ns nc ∧ x0.length = l0 ∧ x1.length = l1
section
variable {w w' : World} {B K : Nat} {v0 v1 : Value} {l0 l1 : Nat} {st fu na ns nc : Int}
theorem DE.off {P : Nat → Prop} (h : DE w B K v0 v1 l0 l1 st fu na ns nc) (ho : Off P w w') (hP : ∀ k, Foot K v0 v1 k → ¬ P k) : DE w' B K v0 v1 l0 l1 st fu na ns nc := by
  obtain ⟨x0, x1, s0, s1, d, e0, e1⟩ := h
  exact ⟨x0, x1, s0, s1, d.off ho hP, e0, e1⟩
theorem DE.below (h : DE w B K v0 v1 l0 l1 st fu na ns nc) (hb : Below w.heap.size w w') : DE w' B K v0 v1 l0 l1 st fu na ns nc := h.off (P := fun _ => False) (Off.of_below hb) (fun _ _ => id)
theorem DE.foot_lt (h : DE w B K v0 v1 l0 l1 st fu na ns nc) {k : Nat} (hk : Foot K v0 v1 k) : B ≤ k ∧ k < w.heap.size := by
  obtain ⟨x0, x1, s0, s1, d, _⟩ := h
  exact d.foot_lt hk
theorem DE.cnt (h : DE w B K v0 v1 l0 l1 st fu na ns nc) : -1 ≤ fu ∧ fu ≤ 9223372036854775807 ∧ 0 ≤ na ∧ na ≤ 9007199254740992 ∧ 0 ≤ ns ∧ ns ≤ 9007199254740992 ∧ 0 ≤ nc ∧ nc ≤ 9007199254740992 ∧ l0 ≤ 16777216 ∧ l1 ≤ 16777216 := by
  obtain ⟨x0, x1, s0, s1, d, rfl, rfl⟩ := h
  have := d.bn; have := d.a0.len; have := d.a1.len
  omega
theorem DStep.drew {v0' v1' : Value} (h : DStep w w' K v0 v1 v0' v1') (n : Nat) : DStep w (w'.drewN n) K v0 v1 v0' v1' := h.trans ⟨(Off.refl _ _).drewN n, fun _ _ g => g⟩
end
theorem doesA0_ok {w : World} {B K : Nat} {v0 v1 : Value} {l0 l1 : Nat} {fu na ns nc : Int} {x : Opv} (hk : x.kd = 1) (har : x.ar = 0) (hb : Byts w x.po x.pl x.bs) (hpo : x.po = none → x.pc = 0) (hl : x.pl ≤ 140737488355328) (h : DE w B K v0 v1 l0 l1 1 fu na ns nc) (hf : fu ≠ 0) (hfit : l0 + x.pl ≤ 16777216) : Calls Try.prog 13 #[.pointer (some ⟨K, 0, none⟩), .agg #[.int .i64 x.kd, .int .i64 x.ar, .int .i64 x.at_, .int .i64 x.n, .slice x.po x.pl x.pc, .int .i64 x.t0, .int .i64 x.t1, .int .i64 x.t2, .int .i64 x.t3]] w fun e w' => e = .returned (.bool true) ∧ ∃ v', DE w' B K v' v1 (l0 + x.pl) l1 1 (fz fu) (ct na) ns nc ∧ DStep w w' K v0 v1 v' v1 := by
  obtain ⟨x0, x1, s0, s1, d, rfl, rfl⟩ := h
  have hbl := hb.len
  refine (does_append_ok (Q := fun w' => ∃ v', DE w' B K v' v1 (x0.length + x.pl) x1.length 1 (fz fu) (ct na) ns nc ∧ DStep w w' K v0 v1 v' v1) hk hb hpo hl ?_).mono ?_
  · intro a n c w1 hR hB
    rw [har]
    have hn := hR.byts'.1
    refine (Append0_ok hR.byts'.2.1 hR.byts'.2.2.1 (fun b o e g => by have h9 := hR.byts'.2.2.2 b o e; have := (d.foot_lt g).2; omega) (d.below hB) hf (by omega)).mono ?_
    rintro e w' ⟨he, v', d', t'⟩
    exact ⟨he, v', ⟨_, _, _, _, d', by simp [hbl], rfl⟩, (DStep.of_below _ _ _ hB).trans t'⟩
  · rintro e w' ⟨he, w2, m, ⟨v', d', t'⟩, rfl⟩
    exact ⟨he, v', d'.off (P := fun _ => False) ((Off.refl _ _).drewN m) (fun _ _ => id), t'.drew m⟩
theorem doesA0_full {w : World} {B K : Nat} {v0 v1 : Value} {l0 l1 : Nat} {st fu na ns nc : Int} {x : Opv} (hk : x.kd = 1) (har : x.ar = 0) (hb : Byts w x.po x.pl x.bs) (hpo : x.po = none → x.pc = 0) (hl : x.pl ≤ 140737488355328) (h : DE w B K v0 v1 l0 l1 st fu na ns nc) (hst : st = 1 ∨ st = 2) (hfit : 16777216 < l0 + x.pl) : Calls Try.prog 13 #[.pointer (some ⟨K, 0, none⟩), .agg #[.int .i64 x.kd, .int .i64 x.ar, .int .i64 x.at_, .int .i64 x.n, .slice x.po x.pl x.pc, .int .i64 x.t0, .int .i64 x.t1, .int .i64 x.t2, .int .i64 x.t3]] w fun e w' => e = .returned (.bool false) ∧ DE w' B K v0 v1 l0 l1 st fu na ns nc ∧ DStep w w' K v0 v1 v0 v1 := by
  obtain ⟨x0, x1, s0, s1, d, rfl, rfl⟩ := h
  have hbl := hb.len
  refine (does_append_no (Q := fun w' => DE w' B K v0 v1 x0.length x1.length st fu na ns nc ∧ DStep w w' K v0 v1 v0 v1) hk hb hpo hl ?_).mono ?_
  · intro a n c w1 hR hB
    rw [har]
    have hn := hR.byts'.1
    refine (Append0_full (d.below hB) hst (by omega)).mono ?_
    rintro e w' ⟨b, he, _, hb'⟩
    exact ⟨⟨b, he⟩, ⟨_, _, _, _, (d.below hB).below hb', rfl, rfl⟩, (DStep.of_below _ _ _ hB).trans (DStep.of_below _ _ _ hb')⟩
  · rintro e w' ⟨he, w2, m, ⟨d', t'⟩, rfl⟩
    exact ⟨he, d'.off (P := fun _ => False) ((Off.refl _ _).drewN m) (fun _ _ => id), t'.drew m⟩
theorem doesA0_dead {w : World} {B K : Nat} {v0 v1 : Value} {l0 l1 : Nat} {st fu na ns nc : Int} {x : Opv} (hk : x.kd = 1) (har : x.ar = 0) (hb : Byts w x.po x.pl x.bs) (hpo : x.po = none → x.pc = 0) (hl : x.pl ≤ 140737488355328) (h : DE w B K v0 v1 l0 l1 st fu na ns nc) (hst : st = 1 ∨ st = 2) (hd : st = 2 ∨ fu = 0) (hfit : l0 + x.pl ≤ 16777216) : Calls Try.prog 13 #[.pointer (some ⟨K, 0, none⟩), .agg #[.int .i64 x.kd, .int .i64 x.ar, .int .i64 x.at_, .int .i64 x.n, .slice x.po x.pl x.pc, .int .i64 x.t0, .int .i64 x.t1, .int .i64 x.t2, .int .i64 x.t3]] w fun e w' => e = .returned (.bool false) ∧ DE w' B K v0 v1 l0 l1 2 fu na ns nc ∧ DStep w w' K v0 v1 v0 v1 := by
  obtain ⟨x0, x1, s0, s1, d, rfl, rfl⟩ := h
  have hbl := hb.len
  refine (does_append_no (Q := fun w' => DE w' B K v0 v1 x0.length x1.length 2 fu na ns nc ∧ DStep w w' K v0 v1 v0 v1) hk hb hpo hl ?_).mono ?_
  · intro a n c w1 hR hB
    rw [har]
    have hn := hR.byts'.1
    refine (Append0_dead (d.below hB) hst hd (by omega)).mono ?_
    rintro e w' ⟨b, he, _, d', t', _⟩
    exact ⟨⟨b, he⟩, ⟨_, _, _, _, d', rfl, rfl⟩, (DStep.of_below _ _ _ hB).trans t'⟩
  · rintro e w' ⟨he, w2, m, ⟨d', t'⟩, rfl⟩
    exact ⟨he, d'.off (P := fun _ => False) ((Off.refl _ _).drewN m) (fun _ _ => id), t'.drew m⟩
theorem doesS0_ok {w : World} {B K : Nat} {v0 v1 : Value} {l0 l1 : Nat} {fu na ns nc : Int} {x : Opv} (hk : x.kd = 2) (har : x.ar = 0) (h : DE w B K v0 v1 l0 l1 1 fu na ns nc) (hf : fu ≠ 0) : Calls Try.prog 13 #[.pointer (some ⟨K, 0, none⟩), .agg #[.int .i64 x.kd, .int .i64 x.ar, .int .i64 x.at_, .int .i64 x.n, .slice x.po x.pl x.pc, .int .i64 x.t0, .int .i64 x.t1, .int .i64 x.t2, .int .i64 x.t3]] w fun e w' => e = .returned (.bool true) ∧ DE w' B K v0 v1 l0 l1 1 (fz fu) na (ct ns) nc ∧ DStep w w' K v0 v1 v0 v1 := by
  obtain ⟨x0, x1, s0, s1, d, rfl, rfl⟩ := h
  refine (does_sync_ok (Q := fun w' => DE w' B K v0 v1 x0.length x1.length 1 (fz fu) na (ct ns) nc ∧ DStep w w' K v0 v1 v0 v1) hk ?_).mono ?_
  · intro w1 hB
    rw [har]
    refine (Sync0_ok (d.below hB) hf).mono ?_
    rintro e w' ⟨he, d', t'⟩
    exact ⟨he, ⟨_, _, _, _, d', rfl, rfl⟩, (DStep.of_below _ _ _ hB).trans t'⟩
  · rintro e w' ⟨he, w2, m, ⟨d', t'⟩, rfl⟩
    exact ⟨he, d'.off (P := fun _ => False) ((Off.refl _ _).drewN m) (fun _ _ => id), t'.drew m⟩
theorem doesS0_dead {w : World} {B K : Nat} {v0 v1 : Value} {l0 l1 : Nat} {st fu na ns nc : Int} {x : Opv} (hk : x.kd = 2) (har : x.ar = 0) (h : DE w B K v0 v1 l0 l1 st fu na ns nc) (hst : st = 1 ∨ st = 2) (hd : st = 2 ∨ fu = 0) : Calls Try.prog 13 #[.pointer (some ⟨K, 0, none⟩), .agg #[.int .i64 x.kd, .int .i64 x.ar, .int .i64 x.at_, .int .i64 x.n, .slice x.po x.pl x.pc, .int .i64 x.t0, .int .i64 x.t1, .int .i64 x.t2, .int .i64 x.t3]] w fun e w' => e = .returned (.bool false) ∧ DE w' B K v0 v1 l0 l1 2 fu na ns nc ∧ DStep w w' K v0 v1 v0 v1 := by
  obtain ⟨x0, x1, s0, s1, d, rfl, rfl⟩ := h
  refine (does_sync_no (Q := fun w' => DE w' B K v0 v1 x0.length x1.length 2 fu na ns nc ∧ DStep w w' K v0 v1 v0 v1) hk ?_).mono ?_
  · intro w1 hB
    rw [har]
    refine (Sync0_dead (d.below hB) hst hd).mono ?_
    rintro e w' ⟨b, he, _, d', t', _⟩
    exact ⟨⟨b, he⟩, ⟨_, _, _, _, d', rfl, rfl⟩, (DStep.of_below _ _ _ hB).trans t'⟩
  · rintro e w' ⟨he, w2, m, ⟨d', t'⟩, rfl⟩
    exact ⟨he, d'.off (P := fun _ => False) ((Off.refl _ _).drewN m) (fun _ _ => id), t'.drew m⟩
theorem doesC0_ok {w : World} {B K : Nat} {v0 v1 : Value} {l0 l1 : Nat} {fu na ns nc : Int} {x : Opv} (n : Nat) (hk : x.kd = 3) (har : x.ar = 0) (hn : x.n = n) (h : DE w B K v0 v1 l0 l1 1 fu na ns nc) (hf : fu ≠ 0) (hfit : n ≤ l0) : Calls Try.prog 13 #[.pointer (some ⟨K, 0, none⟩), .agg #[.int .i64 x.kd, .int .i64 x.ar, .int .i64 x.at_, .int .i64 x.n, .slice x.po x.pl x.pc, .int .i64 x.t0, .int .i64 x.t1, .int .i64 x.t2, .int .i64 x.t3]] w fun e w' => e = .returned (.bool true) ∧ ∃ v', DE w' B K v' v1 n l1 1 (fz fu) na ns (ct nc) ∧ DStep w w' K v0 v1 v' v1 := by
  obtain ⟨x0, x1, s0, s1, d, rfl, rfl⟩ := h
  refine (does_cut_ok (Q := fun w' => ∃ v', DE w' B K v' v1 n x1.length 1 (fz fu) na ns (ct nc) ∧ DStep w w' K v0 v1 v' v1) hk ?_).mono ?_
  · intro w1 hB
    rw [har]
    refine (Cut0_ok n (d.below hB) hf hn hfit).mono ?_
    rintro e w' ⟨he, v', d', t'⟩
    exact ⟨he, v', ⟨_, _, _, _, d', by simp; omega, rfl⟩, (DStep.of_below _ _ _ hB).trans t'⟩
  · rintro e w' ⟨he, w2, m, ⟨v', d', t'⟩, rfl⟩
    exact ⟨he, v', d'.off (P := fun _ => False) ((Off.refl _ _).drewN m) (fun _ _ => id), t'.drew m⟩
theorem doesC0_out {w : World} {B K : Nat} {v0 v1 : Value} {l0 l1 : Nat} {st fu na ns nc : Int} {x : Opv} (hk : x.kd = 3) (har : x.ar = 0) (h : DE w B K v0 v1 l0 l1 st fu na ns nc) (hst : st = 1 ∨ st = 2) (hX : x.n < 0 ∨ (l0 : Int) < x.n) : Calls Try.prog 13 #[.pointer (some ⟨K, 0, none⟩), .agg #[.int .i64 x.kd, .int .i64 x.ar, .int .i64 x.at_, .int .i64 x.n, .slice x.po x.pl x.pc, .int .i64 x.t0, .int .i64 x.t1, .int .i64 x.t2, .int .i64 x.t3]] w fun e w' => e = .returned (.bool false) ∧ DE w' B K v0 v1 l0 l1 st fu na ns nc ∧ DStep w w' K v0 v1 v0 v1 := by
  obtain ⟨x0, x1, s0, s1, d, rfl, rfl⟩ := h
  refine (does_cut_no (Q := fun w' => DE w' B K v0 v1 x0.length x1.length st fu na ns nc ∧ DStep w w' K v0 v1 v0 v1) hk ?_).mono ?_
  · intro w1 hB
    rw [har]
    refine (Cut0_out (d.below hB) hst hX).mono ?_
    rintro e w' ⟨b, he, _, hb'⟩
    exact ⟨⟨b, he⟩, ⟨_, _, _, _, (d.below hB).below hb', rfl, rfl⟩, (DStep.of_below _ _ _ hB).trans (DStep.of_below _ _ _ hb')⟩
  · rintro e w' ⟨he, w2, m, ⟨d', t'⟩, rfl⟩
    exact ⟨he, d'.off (P := fun _ => False) ((Off.refl _ _).drewN m) (fun _ _ => id), t'.drew m⟩
theorem doesC0_dead {w : World} {B K : Nat} {v0 v1 : Value} {l0 l1 : Nat} {st fu na ns nc : Int} {x : Opv} (hk : x.kd = 3) (har : x.ar = 0) (h : DE w B K v0 v1 l0 l1 st fu na ns nc) (hst : st = 1 ∨ st = 2) (hd : st = 2 ∨ fu = 0) (hX : 0 ≤ x.n ∧ x.n ≤ (l0 : Int)) : Calls Try.prog 13 #[.pointer (some ⟨K, 0, none⟩), .agg #[.int .i64 x.kd, .int .i64 x.ar, .int .i64 x.at_, .int .i64 x.n, .slice x.po x.pl x.pc, .int .i64 x.t0, .int .i64 x.t1, .int .i64 x.t2, .int .i64 x.t3]] w fun e w' => e = .returned (.bool false) ∧ DE w' B K v0 v1 l0 l1 2 fu na ns nc ∧ DStep w w' K v0 v1 v0 v1 := by
  obtain ⟨x0, x1, s0, s1, d, rfl, rfl⟩ := h
  refine (does_cut_no (Q := fun w' => DE w' B K v0 v1 x0.length x1.length 2 fu na ns nc ∧ DStep w w' K v0 v1 v0 v1) hk ?_).mono ?_
  · intro w1 hB
    rw [har]
    refine (Cut0_dead (d.below hB) hst hd hX).mono ?_
    rintro e w' ⟨b, he, _, d', t', _⟩
    exact ⟨⟨b, he⟩, ⟨_, _, _, _, d', rfl, rfl⟩, (DStep.of_below _ _ _ hB).trans t'⟩
  · rintro e w' ⟨he, w2, m, ⟨d', t'⟩, rfl⟩
    exact ⟨he, d'.off (P := fun _ => False) ((Off.refl _ _).drewN m) (fun _ _ => id), t'.drew m⟩
theorem doesA1_ok {w : World} {B K : Nat} {v0 v1 : Value} {l0 l1 : Nat} {fu na ns nc : Int} {x : Opv} (hk : x.kd = 1) (har : x.ar = 1) (hb : Byts w x.po x.pl x.bs) (hpo : x.po = none → x.pc = 0) (hl : x.pl ≤ 140737488355328) (h : DE w B K v0 v1 l0 l1 1 fu na ns nc) (hf : fu ≠ 0) (hfit : l1 + x.pl ≤ 16777216) : Calls Try.prog 13 #[.pointer (some ⟨K, 0, none⟩), .agg #[.int .i64 x.kd, .int .i64 x.ar, .int .i64 x.at_, .int .i64 x.n, .slice x.po x.pl x.pc, .int .i64 x.t0, .int .i64 x.t1, .int .i64 x.t2, .int .i64 x.t3]] w fun e w' => e = .returned (.bool true) ∧ ∃ v', DE w' B K v0 v' l0 (l1 + x.pl) 1 (fz fu) (ct na) ns nc ∧ DStep w w' K v0 v1 v0 v' := by
  obtain ⟨x0, x1, s0, s1, d, rfl, rfl⟩ := h
  have hbl := hb.len
  refine (does_append_ok (Q := fun w' => ∃ v', DE w' B K v0 v' x0.length (x1.length + x.pl) 1 (fz fu) (ct na) ns nc ∧ DStep w w' K v0 v1 v0 v') hk hb hpo hl ?_).mono ?_
  · intro a n c w1 hR hB
    rw [har]
    have hn := hR.byts'.1
    refine (Append1_ok hR.byts'.2.1 hR.byts'.2.2.1 (fun b o e g => by have h9 := hR.byts'.2.2.2 b o e; have := (d.foot_lt g).2; omega) (d.below hB) hf (by omega)).mono ?_
    rintro e w' ⟨he, v', d', t'⟩
    exact ⟨he, v', ⟨_, _, _, _, d', rfl, by simp [hbl]⟩, (DStep.of_below _ _ _ hB).trans t'⟩
  · rintro e w' ⟨he, w2, m, ⟨v', d', t'⟩, rfl⟩
    exact ⟨he, v', d'.off (P := fun _ => False) ((Off.refl _ _).drewN m) (fun _ _ => id), t'.drew m⟩
theorem doesA1_full {w : World} {B K : Nat} {v0 v1 : Value} {l0 l1 : Nat} {st fu na ns nc : Int} {x : Opv} (hk : x.kd = 1) (har : x.ar = 1) (hb : Byts w x.po x.pl x.bs) (hpo : x.po = none → x.pc = 0) (hl : x.pl ≤ 140737488355328) (h : DE w B K v0 v1 l0 l1 st fu na ns nc) (hst : st = 1 ∨ st = 2) (hfit : 16777216 < l1 + x.pl) : Calls Try.prog 13 #[.pointer (some ⟨K, 0, none⟩), .agg #[.int .i64 x.kd, .int .i64 x.ar, .int .i64 x.at_, .int .i64 x.n, .slice x.po x.pl x.pc, .int .i64 x.t0, .int .i64 x.t1, .int .i64 x.t2, .int .i64 x.t3]] w fun e w' => e = .returned (.bool false) ∧ DE w' B K v0 v1 l0 l1 st fu na ns nc ∧ DStep w w' K v0 v1 v0 v1 := by
  obtain ⟨x0, x1, s0, s1, d, rfl, rfl⟩ := h
  have hbl := hb.len
  refine (does_append_no (Q := fun w' => DE w' B K v0 v1 x0.length x1.length st fu na ns nc ∧ DStep w w' K v0 v1 v0 v1) hk hb hpo hl ?_).mono ?_
  · intro a n c w1 hR hB
    rw [har]
    have hn := hR.byts'.1
    refine (Append1_full (d.below hB) hst (by omega)).mono ?_
    rintro e w' ⟨b, he, _, hb'⟩
    exact ⟨⟨b, he⟩, ⟨_, _, _, _, (d.below hB).below hb', rfl, rfl⟩, (DStep.of_below _ _ _ hB).trans (DStep.of_below _ _ _ hb')⟩
  · rintro e w' ⟨he, w2, m, ⟨d', t'⟩, rfl⟩
    exact ⟨he, d'.off (P := fun _ => False) ((Off.refl _ _).drewN m) (fun _ _ => id), t'.drew m⟩
theorem doesA1_dead {w : World} {B K : Nat} {v0 v1 : Value} {l0 l1 : Nat} {st fu na ns nc : Int} {x : Opv} (hk : x.kd = 1) (har : x.ar = 1) (hb : Byts w x.po x.pl x.bs) (hpo : x.po = none → x.pc = 0) (hl : x.pl ≤ 140737488355328) (h : DE w B K v0 v1 l0 l1 st fu na ns nc) (hst : st = 1 ∨ st = 2) (hd : st = 2 ∨ fu = 0) (hfit : l1 + x.pl ≤ 16777216) : Calls Try.prog 13 #[.pointer (some ⟨K, 0, none⟩), .agg #[.int .i64 x.kd, .int .i64 x.ar, .int .i64 x.at_, .int .i64 x.n, .slice x.po x.pl x.pc, .int .i64 x.t0, .int .i64 x.t1, .int .i64 x.t2, .int .i64 x.t3]] w fun e w' => e = .returned (.bool false) ∧ DE w' B K v0 v1 l0 l1 2 fu na ns nc ∧ DStep w w' K v0 v1 v0 v1 := by
  obtain ⟨x0, x1, s0, s1, d, rfl, rfl⟩ := h
  have hbl := hb.len
  refine (does_append_no (Q := fun w' => DE w' B K v0 v1 x0.length x1.length 2 fu na ns nc ∧ DStep w w' K v0 v1 v0 v1) hk hb hpo hl ?_).mono ?_
  · intro a n c w1 hR hB
    rw [har]
    have hn := hR.byts'.1
    refine (Append1_dead (d.below hB) hst hd (by omega)).mono ?_
    rintro e w' ⟨b, he, _, d', t', _⟩
    exact ⟨⟨b, he⟩, ⟨_, _, _, _, d', rfl, rfl⟩, (DStep.of_below _ _ _ hB).trans t'⟩
  · rintro e w' ⟨he, w2, m, ⟨d', t'⟩, rfl⟩
    exact ⟨he, d'.off (P := fun _ => False) ((Off.refl _ _).drewN m) (fun _ _ => id), t'.drew m⟩
theorem doesS1_ok {w : World} {B K : Nat} {v0 v1 : Value} {l0 l1 : Nat} {fu na ns nc : Int} {x : Opv} (hk : x.kd = 2) (har : x.ar = 1) (h : DE w B K v0 v1 l0 l1 1 fu na ns nc) (hf : fu ≠ 0) : Calls Try.prog 13 #[.pointer (some ⟨K, 0, none⟩), .agg #[.int .i64 x.kd, .int .i64 x.ar, .int .i64 x.at_, .int .i64 x.n, .slice x.po x.pl x.pc, .int .i64 x.t0, .int .i64 x.t1, .int .i64 x.t2, .int .i64 x.t3]] w fun e w' => e = .returned (.bool true) ∧ DE w' B K v0 v1 l0 l1 1 (fz fu) na (ct ns) nc ∧ DStep w w' K v0 v1 v0 v1 := by
  obtain ⟨x0, x1, s0, s1, d, rfl, rfl⟩ := h
  refine (does_sync_ok (Q := fun w' => DE w' B K v0 v1 x0.length x1.length 1 (fz fu) na (ct ns) nc ∧ DStep w w' K v0 v1 v0 v1) hk ?_).mono ?_
  · intro w1 hB
    rw [har]
    refine (Sync1_ok (d.below hB) hf).mono ?_
    rintro e w' ⟨he, d', t'⟩
    exact ⟨he, ⟨_, _, _, _, d', rfl, rfl⟩, (DStep.of_below _ _ _ hB).trans t'⟩
  · rintro e w' ⟨he, w2, m, ⟨d', t'⟩, rfl⟩
    exact ⟨he, d'.off (P := fun _ => False) ((Off.refl _ _).drewN m) (fun _ _ => id), t'.drew m⟩
theorem doesS1_dead {w : World} {B K : Nat} {v0 v1 : Value} {l0 l1 : Nat} {st fu na ns nc : Int} {x : Opv} (hk : x.kd = 2) (har : x.ar = 1) (h : DE w B K v0 v1 l0 l1 st fu na ns nc) (hst : st = 1 ∨ st = 2) (hd : st = 2 ∨ fu = 0) : Calls Try.prog 13 #[.pointer (some ⟨K, 0, none⟩), .agg #[.int .i64 x.kd, .int .i64 x.ar, .int .i64 x.at_, .int .i64 x.n, .slice x.po x.pl x.pc, .int .i64 x.t0, .int .i64 x.t1, .int .i64 x.t2, .int .i64 x.t3]] w fun e w' => e = .returned (.bool false) ∧ DE w' B K v0 v1 l0 l1 2 fu na ns nc ∧ DStep w w' K v0 v1 v0 v1 := by
  obtain ⟨x0, x1, s0, s1, d, rfl, rfl⟩ := h
  refine (does_sync_no (Q := fun w' => DE w' B K v0 v1 x0.length x1.length 2 fu na ns nc ∧ DStep w w' K v0 v1 v0 v1) hk ?_).mono ?_
  · intro w1 hB
    rw [har]
    refine (Sync1_dead (d.below hB) hst hd).mono ?_
    rintro e w' ⟨b, he, _, d', t', _⟩
    exact ⟨⟨b, he⟩, ⟨_, _, _, _, d', rfl, rfl⟩, (DStep.of_below _ _ _ hB).trans t'⟩
  · rintro e w' ⟨he, w2, m, ⟨d', t'⟩, rfl⟩
    exact ⟨he, d'.off (P := fun _ => False) ((Off.refl _ _).drewN m) (fun _ _ => id), t'.drew m⟩
theorem doesC1_ok {w : World} {B K : Nat} {v0 v1 : Value} {l0 l1 : Nat} {fu na ns nc : Int} {x : Opv} (n : Nat) (hk : x.kd = 3) (har : x.ar = 1) (hn : x.n = n) (h : DE w B K v0 v1 l0 l1 1 fu na ns nc) (hf : fu ≠ 0) (hfit : n ≤ l1) : Calls Try.prog 13 #[.pointer (some ⟨K, 0, none⟩), .agg #[.int .i64 x.kd, .int .i64 x.ar, .int .i64 x.at_, .int .i64 x.n, .slice x.po x.pl x.pc, .int .i64 x.t0, .int .i64 x.t1, .int .i64 x.t2, .int .i64 x.t3]] w fun e w' => e = .returned (.bool true) ∧ ∃ v', DE w' B K v0 v' l0 n 1 (fz fu) na ns (ct nc) ∧ DStep w w' K v0 v1 v0 v' := by
  obtain ⟨x0, x1, s0, s1, d, rfl, rfl⟩ := h
  refine (does_cut_ok (Q := fun w' => ∃ v', DE w' B K v0 v' x0.length n 1 (fz fu) na ns (ct nc) ∧ DStep w w' K v0 v1 v0 v') hk ?_).mono ?_
  · intro w1 hB
    rw [har]
    refine (Cut1_ok n (d.below hB) hf hn hfit).mono ?_
    rintro e w' ⟨he, v', d', t'⟩
    exact ⟨he, v', ⟨_, _, _, _, d', rfl, by simp; omega⟩, (DStep.of_below _ _ _ hB).trans t'⟩
  · rintro e w' ⟨he, w2, m, ⟨v', d', t'⟩, rfl⟩
    exact ⟨he, v', d'.off (P := fun _ => False) ((Off.refl _ _).drewN m) (fun _ _ => id), t'.drew m⟩
theorem doesC1_out {w : World} {B K : Nat} {v0 v1 : Value} {l0 l1 : Nat} {st fu na ns nc : Int} {x : Opv} (hk : x.kd = 3) (har : x.ar = 1) (h : DE w B K v0 v1 l0 l1 st fu na ns nc) (hst : st = 1 ∨ st = 2) (hX : x.n < 0 ∨ (l1 : Int) < x.n) : Calls Try.prog 13 #[.pointer (some ⟨K, 0, none⟩), .agg #[.int .i64 x.kd, .int .i64 x.ar, .int .i64 x.at_, .int .i64 x.n, .slice x.po x.pl x.pc, .int .i64 x.t0, .int .i64 x.t1, .int .i64 x.t2, .int .i64 x.t3]] w fun e w' => e = .returned (.bool false) ∧ DE w' B K v0 v1 l0 l1 st fu na ns nc ∧ DStep w w' K v0 v1 v0 v1 := by
  obtain ⟨x0, x1, s0, s1, d, rfl, rfl⟩ := h
  refine (does_cut_no (Q := fun w' => DE w' B K v0 v1 x0.length x1.length st fu na ns nc ∧ DStep w w' K v0 v1 v0 v1) hk ?_).mono ?_
  · intro w1 hB
    rw [har]
    refine (Cut1_out (d.below hB) hst hX).mono ?_
    rintro e w' ⟨b, he, _, hb'⟩
    exact ⟨⟨b, he⟩, ⟨_, _, _, _, (d.below hB).below hb', rfl, rfl⟩, (DStep.of_below _ _ _ hB).trans (DStep.of_below _ _ _ hb')⟩
  · rintro e w' ⟨he, w2, m, ⟨d', t'⟩, rfl⟩
    exact ⟨he, d'.off (P := fun _ => False) ((Off.refl _ _).drewN m) (fun _ _ => id), t'.drew m⟩
theorem doesC1_dead {w : World} {B K : Nat} {v0 v1 : Value} {l0 l1 : Nat} {st fu na ns nc : Int} {x : Opv} (hk : x.kd = 3) (har : x.ar = 1) (h : DE w B K v0 v1 l0 l1 st fu na ns nc) (hst : st = 1 ∨ st = 2) (hd : st = 2 ∨ fu = 0) (hX : 0 ≤ x.n ∧ x.n ≤ (l1 : Int)) : Calls Try.prog 13 #[.pointer (some ⟨K, 0, none⟩), .agg #[.int .i64 x.kd, .int .i64 x.ar, .int .i64 x.at_, .int .i64 x.n, .slice x.po x.pl x.pc, .int .i64 x.t0, .int .i64 x.t1, .int .i64 x.t2, .int .i64 x.t3]] w fun e w' => e = .returned (.bool false) ∧ DE w' B K v0 v1 l0 l1 2 fu na ns nc ∧ DStep w w' K v0 v1 v0 v1 := by
  obtain ⟨x0, x1, s0, s1, d, rfl, rfl⟩ := h
  refine (does_cut_no (Q := fun w' => DE w' B K v0 v1 x0.length x1.length 2 fu na ns nc ∧ DStep w w' K v0 v1 v0 v1) hk ?_).mono ?_
  · intro w1 hB
    rw [har]
    refine (Cut1_dead (d.below hB) hst hd hX).mono ?_
    rintro e w' ⟨b, he, _, d', t', _⟩
    exact ⟨⟨b, he⟩, ⟨_, _, _, _, d', rfl, rfl⟩, (DStep.of_below _ _ _ hB).trans t'⟩
  · rintro e w' ⟨he, w2, m, ⟨d', t'⟩, rfl⟩
    exact ⟨he, d'.off (P := fun _ => False) ((Off.refl _ _).drewN m) (fun _ _ => id), t'.drew m⟩
end Go.Proofs.Ytgabikgkpgpbbaa
