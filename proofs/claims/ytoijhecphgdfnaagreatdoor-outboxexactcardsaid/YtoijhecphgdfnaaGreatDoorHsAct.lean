/-
  Held.deeds, Held.sents, strongly.
-/
import Derived.Test.YtoijhecphgdfnaaGreatDoorHsPush
namespace Go.Proofs.YtoijhecphgdfnaaGreatDoor
open Go.RowKit

section
variable {w w' : World} {B hb n : Nat} {σ : Hs}
set_option maxRecDepth 100000 in
set_option maxHeartbeats 8000000 in
theorem deeds_s {C m c : Nat} {a : Option Addr} {ds : List Deed} (h : HS w B hb n σ) (hd : DRow w C (.slice a m c) ds) (hC : B ≤ C) (hn : n + 40 ≤ 1000000000) (hl : ds.length ≤ 100000) (hf : ∀ q, (Value.slice a m c).ownBlock = some q → ¬ HsFt σ q) :
    Calls Tryz.prog 25 #[.pointer (some ⟨hb, 0, none⟩), .slice a m c] w fun e w' => e = .returned (.tuple #[]) ∧ Hid (HSQ w B hb (n + 1) σ (fun g => (Value.slice a m c).ownBlock = some g) w') := by
  have hX0 : (σ.X 0).length ≤ n := by show (List.map _ _).length ≤ n; rw [List.length_map]; exact h.nD
  have hX1 : (σ.X 1).length ≤ n := by show (List.map _ _).length ≤ n; rw [List.length_map]; exact h.nD
  obtain ⟨a0, n0, c0, w0, k1, k2, k3, k4⟩ := h.h0.hr.push (q := 0) (by decide) (a, m, c) (by omega)
  have k1' : (Builtin.append_ #[33, 33] 33 #[σ.f 0, .slice (some ⟨w.heap.size, 0, none⟩) 1 1]).run Tryz.prog (w.alloc (.cells #[.slice a m c] 77)) = .ok (.slice a0 n0 c0) w0 := k1
  have p0 : w.cell? ⟨hb, 0, none⟩ = some (σ.f 0) := h.h0.hr.cell (by decide)
  obtain ⟨W1, hW1⟩ : ∃ W1, w0.setCell ⟨hb, 0, none⟩ (.slice a0 n0 c0) = W1 := ⟨_, rfl⟩
  obtain ⟨f1, hf1⟩ : ∃ f1 : Nat → Value, (fun k => if k = 0 then Value.slice a0 n0 c0 else σ.f k) = f1 := ⟨_, rfl⟩
  obtain ⟨X1, hX⟩ : ∃ X1 : Nat → List Sl, (fun k => if k = 0 then σ.X 0 ++ [(a, m, c)] else σ.X k) = X1 := ⟨_, rfl⟩
  have hP1 := k4.out
  rw [hW1, hf1, hX] at hP1
  have o1 : Off (HsW σ) w W1 := hP1.2.1.mono fun k e => by
    rcases e with e | e
    · rw [e]; exact Or.inr (Or.inl h.h0.hr.hb1)
    · exact Or.inl ⟨0, by decide, e⟩
  have HP1 : Hid (HR W1 B hb f1 σ.ρ σ.es X1 ∧ Off (HsW σ) w W1 ∧ (fun k => if k = 0 then Value.slice a0 n0 c0 else σ.f k) = f1 ∧ (fun k => if k = 0 then σ.X 0 ++ [(a, m, c)] else σ.X k) = X1 ∧ ∀ k, (Value.slice a0 n0 c0).ownBlock = some k → (σ.f 0).ownBlock = some k ∨ w.heap.size ≤ k) := ⟨hP1.1, o1, hf1, hX, hP1.2.2⟩
  have HD : Hid (HS w B hb n σ ∧ ERow w B 105 3 encD (.slice a m c) ds ∧ n + 40 ≤ 1000000000 ∧ ds.length ≤ 100000 ∧ (σ.X 1).length ≤ n ∧ ∀ q, (Value.slice a m c).ownBlock = some q → ¬ HsFt σ q) := ⟨h, ERow.base hd hC, by omega, hl, hX1, hf⟩
  clear k1 k4 h hd hl hn hC hX0 hX1 hP1 o1 hf1 hX hf
  go_enter Tryz.func25, Tryz.ntmps25
  go_upto_region 0 with fail
  go_wp2_with (at_builtin; refine wpList_append_run rfl (.tmp 8) (.tmp 10) 33 _ rfl k1' ?_)
  try rw [hW1]
  clear k1' k2 k3 p0 hW1
  obtain ⟨hr1, o1, hf1, hX, hfr1⟩ := HP1.out
  have hd1 : ERow W1 B 105 3 encD (.slice a m c) ds := ERow.off HD.out.2.1 o1 fun q hq e => HD.out.2.2.2.2.2 q hq e.ft
  obtain ⟨a2, c2, w2, hcp, HC2⟩ := run_dcopy hd1 (Nat.le_trans HD.out.2.2.2.1 (by decide)) (W := (W1.alloc (.cells #[] 105)).drew) (Or.inr rfl)
  have hr2 := hr1.below HC2.out.2
  have hX1l : (X1 1).length ≤ n := by rw [← hX]; exact HD.out.2.2.2.2.1
  obtain ⟨a3, n3, c3, w3, j1, j2, j3, j4⟩ := hr2.push (q := 1) (by decide) (a2, m, c2) (by have := HD.out.2.2.1; omega)
  have hap : (Builtin.append_ #[33, 33] 33 #[f1 1, .slice (some ⟨w2.heap.size, 0, none⟩) 1 1]).run Tryz.prog (w2.alloc (.cells #[.slice a2 m c2] 77)) = .ok (.slice a3 n3 c3) w3 := j1
  have p1 : W1.cell? ⟨hb, 1, none⟩ = some (f1 1) := hr1.cell (by decide)
  have p2 : (W1.alloc (.cells #[] 105)).cell? ⟨hb, 1, none⟩ = some (f1 1) := (((Below.refl _ _).alloc (Nat.le_refl _) _).cell (p := ⟨hb, 1, none⟩) hr1.hbl.1).trans p1
  have p3 : w2.cell? ⟨hb, 1, none⟩ = some (f1 1) := hr2.cell (by decide)
  have p4 : (w2.alloc (.cells #[.slice a2 m c2] 77)).cell? ⟨hb, 1, none⟩ = some (f1 1) := (((Below.refl _ _).alloc (Nat.le_refl _) _).cell (p := ⟨hb, 1, none⟩) hr2.hbl.1).trans p3
  have HE : Hid (∃ f', HS0 (w3.setCell ⟨hb, 1, none⟩ (.slice a3 n3 c3)) B hb ⟨f', σ.ρ, σ.D ++ [⟨(a, m, c), (a2, m, c2), ds⟩], σ.S, σ.es⟩ ∧ (∀ g, HsFt ⟨f', σ.ρ, σ.D ++ [⟨(a, m, c), (a2, m, c2), ds⟩], σ.S, σ.es⟩ g → HsFt σ g ∨ (Value.slice a m c).ownBlock = some g ∨ w.heap.size ≤ g) ∧ Off (HsW σ) w (w3.setCell ⟨hb, 1, none⟩ (.slice a3 n3 c3)) ∧ ∀ q g, q < 4 → (f' q).ownBlock = some g → (∃ q', q' < 4 ∧ (σ.f q').ownBlock = some g) ∨ w.heap.size ≤ g) := by
    have hb2 : W1.heap.size ≤ w2.heap.size := HC2.out.2.size
    have fe : ∀ k, k ≠ 0 → f1 k = σ.f k := fun k hk => by rw [← hf1]; exact if_neg hk
    have f0 : f1 0 = .slice a0 n0 c0 := by rw [← hf1]; exact if_pos rfl
    have oT : Off (HsW σ) w (w3.setCell ⟨hb, 1, none⟩ (.slice a3 n3 c3)) := (o1.trans (Off.of_below HC2.out.2)).trans (j4.out.2.1.mono fun k e => by
      rcases e with e | e
      · rw [e]; exact Or.inr (Or.inl HD.out.1.h0.hr.hb1)
      · exact Or.inl ⟨1, by decide, by rw [← fe 1 (by decide)]; exact e⟩)
    have hrw : ∀ q g, q < 4 → ((fun k => if k = 1 then Value.slice a3 n3 c3 else f1 k) q).ownBlock = some g → (∃ q', q' < 4 ∧ (σ.f q').ownBlock = some g) ∨ w.heap.size ≤ g := fun q g hq hg => by
        have hg : (if q = 1 then Value.slice a3 n3 c3 else f1 q).ownBlock = some g := hg
        by_cases e : q = 1
        · rw [if_pos e] at hg
          rcases j4.out.2.2 g hg with e2 | e2
          · exact Or.inl ⟨1, by decide, by rw [← fe 1 (by decide)]; exact e2⟩
          · right; have := o1.size; omega
        · rw [if_neg e] at hg
          by_cases e2 : q = 0
          · rw [e2, f0] at hg
            rcases hfr1 g hg with e3 | e3
            · exact Or.inl ⟨0, by decide, e3⟩
            · exact Or.inr e3
          · rw [fe q e2] at hg
            exact Or.inl ⟨q, hq, hg⟩
    obtain ⟨q1, q2⟩ := HD.out.1.h0.pushD (x := ⟨(a, m, c), (a2, m, c2), ds⟩) j4.out.1 (fun q hq => by
      rw [← hX]
      rcases q with _ | _ | _ | _ | q
      · simp [Hs.X]
      · simp [Hs.X]
      · simp [Hs.X]
      · simp [Hs.X]
      · omega) (oT.mono fun _ e => e.rft) HD.out.2.1 HD.out.2.2.2.2.2 (ERow.base (ERow.off HC2.out.1 j4.out.2.1 fun k hk e => by
        have h1 := (ERow.lt HC2.out.1 hk).1
        rcases e with e | e
        · have := hr1.hbl.1; omega
        · have := (hr1.lt (Or.inr ⟨1, by decide, e⟩)).2; omega) o1.size) hrw
    exact ⟨_, q1, q2, oT, hrw⟩
  clear hr1 o1 hf1 hX hfr1 hd1 hr2 hX1l j1 j4 HP1
  go_region_law (first | (refine step_app_run rfl (.tmp 19) (.tmp 20) 77 rfl rfl rfl hcp ?_) | (refine step_app_run rfl (.tmp 18) (.tmp 22) 33 rfl rfl rfl hap ?_))
  all_goals
    go_wp2_with fail
    go_end0
    refine ⟨rfl, ?_⟩
    obtain ⟨f', q1, q2, q3, q4⟩ := HE.out
    exact ⟨_, ⟨q1, HD.out.1.tx, by have := HD.out.1.nD; simp; omega, by have := HD.out.1.nS; show σ.S.length ≤ _; omega, by have := HD.out.1.nE; show σ.es.length ≤ _; omega, fun y hy => by
      rcases (by simpa using hy : y ∈ σ.D ∨ y = ⟨(a, m, c), (a2, m, c2), ds⟩) with g | rfl
      · exact HD.out.1.bD y g
      · exact HD.out.2.2.2.1, HD.out.1.bS⟩, q2, q3, fun g hg => by
      rcases hg with ⟨q, hq, e⟩ | e
      · rcases q4 q g hq e with e2 | e2
        · exact Or.inl (Or.inl e2)
        · exact Or.inr e2
      · exact Or.inl (Or.inr e)⟩
/-- Messages told, so many texts in the book. -/
structure StI (w : World) (B hb : Nat) (σ : Hs) (T : Nat → Prop) (x : TD Msg) (ds : List Msg) (i : Nat) (wx : World) : Prop where
  st : ∃ f ρ l, HS0 wx B hb ⟨f, ρ, σ.D, σ.S ++ [x], σ.es ++ l⟩ ∧ l.length = i ∧ (∀ j d, j < i → ds[j]? = some d → ∃ e ∈ l, e.val = .slice d.tp d.tn d.tc ∧ e.bs = d.tx) ∧ (∀ g, HsFt ⟨f, ρ, σ.D, σ.S ++ [x], σ.es ++ l⟩ g → HsFt σ g ∨ (T g ∨ ∃ j d, j < i ∧ ds[j]? = some d ∧ d.blk = some g) ∨ w.heap.size ≤ g) ∧ (∀ g, g < w.heap.size → (ρ g = 1 ∨ ρ g = 2 ∨ ρ g = 3) → (σ.ρ g = 1 ∨ σ.ρ g = 2 ∨ σ.ρ g = 3)) ∧ ∀ q g, q < 4 → (f q).ownBlock = some g → (∃ q', q' < 4 ∧ (σ.f q').ownBlock = some g) ∨ w.heap.size ≤ g
  off : Off (HsW σ) w wx
set_option maxRecDepth 100000 in
set_option maxHeartbeats 8000000 in
theorem sents_s {C m c : Nat} {a : Option Addr} {ds ms : List Msg} (h : HS w B hb n σ) (hd : ERow w C 91 10 encM (.slice a m c) ds) (hC : B ≤ C) (hn : n + 40 ≤ 1000000000) (hl : ds.length ≤ 100000) (hf : ∀ q, (Value.slice a m c).ownBlock = some q → ¬ HsFt σ q) (h32 : ds.length ≤ 32) (hcp0 : CpF w C ds ms) (htn : ∀ x ∈ ds, x.tn ≤ 8192) (hft : ∀ x ∈ ds, ∀ q, x.blk = some q → ¬ HsFt σ q) :
    Calls Tryz.prog 36 #[.pointer (some ⟨hb, 0, none⟩), .slice a m c] w fun e w' => e = .returned (.tuple #[]) ∧ Hid (HSQ w B hb (n + 33) σ (fun g => (Value.slice a m c).ownBlock = some g ∨ ∃ x ∈ ds, x.blk = some g) w') := by
  have HT : Hid (CpF w C ds ms ∧ (∀ x ∈ ds, x.tn ≤ 8192) ∧ (∀ x ∈ ds, ∀ q, x.blk = some q → ¬ HsFt σ q) ∧ B ≤ C ∧ ds.length = m ∧ m ≤ 32) := ⟨hcp0, htn, hft, hC, (ERow.len hd).symm, by have := ERow.len hd; omega⟩
  have hm32 : (m : Int) ≤ 32 := by have := HT.out.2.2.2.2.2; omega
  clear hcp0 htn hft h32
  have hX0 : (σ.X 2).length ≤ n := by show (List.map _ _).length ≤ n; rw [List.length_map]; exact h.nS
  have hX1 : (σ.X 3).length ≤ n := by show (List.map _ _).length ≤ n; rw [List.length_map]; exact h.nS
  obtain ⟨a0, n0, c0, w0, k1, k2, k3, k4⟩ := h.h0.hr.push (q := 2) (by decide) (a, m, c) (by omega)
  have k1' : (Builtin.append_ #[34, 34] 34 #[σ.f 2, .slice (some ⟨w.heap.size, 0, none⟩) 1 1]).run Tryz.prog (w.alloc (.cells #[.slice a m c] 97)) = .ok (.slice a0 n0 c0) w0 := k1
  have p0 : w.cell? ⟨hb, 2, none⟩ = some (σ.f 2) := h.h0.hr.cell (by decide)
  obtain ⟨W1, hW1⟩ : ∃ W1, w0.setCell ⟨hb, 2, none⟩ (.slice a0 n0 c0) = W1 := ⟨_, rfl⟩
  obtain ⟨f1, hf1⟩ : ∃ f1 : Nat → Value, (fun k => if k = 2 then Value.slice a0 n0 c0 else σ.f k) = f1 := ⟨_, rfl⟩
  obtain ⟨X1, hX⟩ : ∃ X1 : Nat → List Sl, (fun k => if k = 2 then σ.X 2 ++ [(a, m, c)] else σ.X k) = X1 := ⟨_, rfl⟩
  have hP1 := k4.out
  rw [hW1, hf1, hX] at hP1
  have o1 : Off (HsW σ) w W1 := hP1.2.1.mono fun k e => by
    rcases e with e | e
    · rw [e]; exact Or.inr (Or.inl h.h0.hr.hb1)
    · exact Or.inl ⟨2, by decide, e⟩
  have HP1 : Hid (HR W1 B hb f1 σ.ρ σ.es X1 ∧ Off (HsW σ) w W1 ∧ (fun k => if k = 2 then Value.slice a0 n0 c0 else σ.f k) = f1 ∧ (fun k => if k = 2 then σ.X 2 ++ [(a, m, c)] else σ.X k) = X1 ∧ ∀ k, (Value.slice a0 n0 c0).ownBlock = some k → (σ.f 2).ownBlock = some k ∨ w.heap.size ≤ k) := ⟨hP1.1, o1, hf1, hX, hP1.2.2⟩
  have HD : Hid (HS w B hb n σ ∧ ERow w B 91 10 encM (.slice a m c) ds ∧ n + 40 ≤ 1000000000 ∧ ds.length ≤ 100000 ∧ (σ.X 3).length ≤ n ∧ ∀ q, (Value.slice a m c).ownBlock = some q → ¬ HsFt σ q) := ⟨h, ERow.base hd hC, by omega, hl, hX1, hf⟩
  clear k1 k4 h hd hl hn hC hX0 hX1 hP1 o1 hf1 hX hf
  go_enter Tryz.func36, Tryz.ntmps36
  go_upto_region 0 with fail
  go_wp2_with (at_builtin; refine wpList_append_run rfl (.tmp 9) (.tmp 11) 34 _ rfl k1' ?_)
  try rw [hW1]
  clear k1' k2 k3 p0 hW1
  obtain ⟨hr1, o1, hf1, hX, hfr1⟩ := HP1.out
  have hd1 : ERow W1 B 91 10 encM (.slice a m c) ds := ERow.off HD.out.2.1 o1 fun q hq e => HD.out.2.2.2.2.2 q hq e.ft
  obtain ⟨a2, c2, w2, hcp, HC2⟩ := run_scopy hd1 (Nat.le_trans HD.out.2.2.2.1 (by decide)) (W := (W1.alloc (.cells #[] 91)).drew) (Or.inr rfl)
  have hr2 := hr1.below HC2.out.2
  have hX1l : (X1 3).length ≤ n := by rw [← hX]; exact HD.out.2.2.2.2.1
  obtain ⟨a3, n3, c3, w3, j1, j2, j3, j4⟩ := hr2.push (q := 3) (by decide) (a2, m, c2) (by have := HD.out.2.2.1; omega)
  have hap : (Builtin.append_ #[34, 34] 34 #[f1 3, .slice (some ⟨w2.heap.size, 0, none⟩) 1 1]).run Tryz.prog (w2.alloc (.cells #[.slice a2 m c2] 97)) = .ok (.slice a3 n3 c3) w3 := j1
  have p1 : W1.cell? ⟨hb, 3, none⟩ = some (f1 3) := hr1.cell (by decide)
  have p2 : (W1.alloc (.cells #[] 91)).cell? ⟨hb, 3, none⟩ = some (f1 3) := (((Below.refl _ _).alloc (Nat.le_refl _) _).cell (p := ⟨hb, 3, none⟩) hr1.hbl.1).trans p1
  have p3 : w2.cell? ⟨hb, 3, none⟩ = some (f1 3) := hr2.cell (by decide)
  have p4 : (w2.alloc (.cells #[.slice a2 m c2] 97)).cell? ⟨hb, 3, none⟩ = some (f1 3) := (((Below.refl _ _).alloc (Nat.le_refl _) _).cell (p := ⟨hb, 3, none⟩) hr2.hbl.1).trans p3
  have HE : Hid (∃ f', HS0 (w3.setCell ⟨hb, 3, none⟩ (.slice a3 n3 c3)) B hb ⟨f', σ.ρ, σ.D, σ.S ++ [⟨(a, m, c), (a2, m, c2), ds⟩], σ.es⟩ ∧ (∀ g, HsFt ⟨f', σ.ρ, σ.D, σ.S ++ [⟨(a, m, c), (a2, m, c2), ds⟩], σ.es⟩ g → HsFt σ g ∨ (Value.slice a m c).ownBlock = some g ∨ w.heap.size ≤ g) ∧ Off (HsW σ) w (w3.setCell ⟨hb, 3, none⟩ (.slice a3 n3 c3)) ∧ ∀ q g, q < 4 → (f' q).ownBlock = some g → (∃ q', q' < 4 ∧ (σ.f q').ownBlock = some g) ∨ w.heap.size ≤ g) := by
    have hb2 : W1.heap.size ≤ w2.heap.size := HC2.out.2.size
    have fe : ∀ k, k ≠ 2 → f1 k = σ.f k := fun k hk => by rw [← hf1]; exact if_neg hk
    have f0 : f1 2 = .slice a0 n0 c0 := by rw [← hf1]; exact if_pos rfl
    have oT : Off (HsW σ) w (w3.setCell ⟨hb, 3, none⟩ (.slice a3 n3 c3)) := (o1.trans (Off.of_below HC2.out.2)).trans (j4.out.2.1.mono fun k e => by
      rcases e with e | e
      · rw [e]; exact Or.inr (Or.inl HD.out.1.h0.hr.hb1)
      · exact Or.inl ⟨3, by decide, by rw [← fe 3 (by decide)]; exact e⟩)
    have hrw : ∀ q g, q < 4 → ((fun k => if k = 3 then Value.slice a3 n3 c3 else f1 k) q).ownBlock = some g → (∃ q', q' < 4 ∧ (σ.f q').ownBlock = some g) ∨ w.heap.size ≤ g := fun q g hq hg => by
        have hg : (if q = 3 then Value.slice a3 n3 c3 else f1 q).ownBlock = some g := hg
        by_cases e : q = 3
        · rw [if_pos e] at hg
          rcases j4.out.2.2 g hg with e2 | e2
          · exact Or.inl ⟨3, by decide, by rw [← fe 3 (by decide)]; exact e2⟩
          · right; have := o1.size; omega
        · rw [if_neg e] at hg
          by_cases e2 : q = 2
          · rw [e2, f0] at hg
            rcases hfr1 g hg with e3 | e3
            · exact Or.inl ⟨2, by decide, e3⟩
            · exact Or.inr e3
          · rw [fe q e2] at hg
            exact Or.inl ⟨q, hq, hg⟩
    obtain ⟨q1, q2⟩ := HD.out.1.h0.pushS (x := ⟨(a, m, c), (a2, m, c2), ds⟩) j4.out.1 (fun q hq => by
      rw [← hX]
      rcases q with _ | _ | _ | _ | q
      · simp [Hs.X]
      · simp [Hs.X]
      · simp [Hs.X]
      · simp [Hs.X]
      · omega) (oT.mono fun _ e => e.rft) HD.out.2.1 HD.out.2.2.2.2.2 (ERow.base (ERow.off HC2.out.1 j4.out.2.1 fun k hk e => by
        have h1 := (ERow.lt HC2.out.1 hk).1
        rcases e with e | e
        · have := hr1.hbl.1; omega
        · have := (hr1.lt (Or.inr ⟨3, by decide, e⟩)).2; omega) o1.size) hrw
    exact ⟨_, q1, q2, oT, hrw⟩
  clear hr1 o1 hf1 hX hfr1 hd1 hr2 hX1l j1 j4 HP1
  go_cut [] from 15 to 26 (fun wx => wx = w3.setCell ⟨hb, 3, none⟩ (.slice a3 n3 c3))
  case first =>
    go_region_law (first | (refine step_app_run rfl (.tmp 20) (.tmp 21) 97 rfl rfl rfl hcp ?_) | (refine step_app_run rfl (.tmp 19) (.tmp 23) 34 rfl rfl rfl hap ?_))
    all_goals
      go_wp2_with fail
      go_meet
      rfl
  case rest =>
  have hw := hcut
  rw [hw]
  clear hw hcut hcp hap p1 p2 p3 p4 j2 j3
  obtain ⟨W4, hW4⟩ : ∃ W4, w3.setCell ⟨hb, 3, none⟩ (.slice a3 n3 c3) = W4 := ⟨_, rfl⟩
  rw [hW4] at HE ⊢
  clear hW4
  have HS1 : Hid (StI w B hb σ (fun g => (Value.slice a m c).ownBlock = some g) ⟨(a, m, c), (a2, m, c2), ds⟩ ds 0 W4) := by
    obtain ⟨f', q1, q2, q3, q4⟩ := HE.out
    refine ⟨⟨f', σ.ρ, [], by rw [List.append_nil]; exact q1, rfl, fun j d hj => by omega, fun g hg => ?_, fun g _ hg => hg, q4⟩, q3⟩
    rw [List.append_nil] at hg
    rcases q2 g hg with e | e | e
    · exact Or.inl e
    · exact Or.inr (Or.inl (Or.inl e))
    · exact Or.inr (Or.inr e)
  clear HE HC2
  go_upto_region 3 with fail
  go_loopw [4] (fun t wx => ∃ i : Nat, i ≤ m ∧ t = .int .i64 i ∧ Hid (StI w B hb σ (fun g => (Value.slice a m c).ownBlock = some g) ⟨(a, m, c), (a2, m, c2), ds⟩ ds i wx)) (fun t _ => m - (intOf t).toNat)
  case atStart => exact ⟨0, Nat.zero_le _, rfl, HS1⟩
  case round =>
    obtain ⟨i, hi, rfl, HI⟩ := hrel
    clear HS1
    by_cases hlt : i < m
    · have hlt1 : (i : Int) < m := by omega
      obtain ⟨x, hx⟩ : ∃ x, ds[i]? = some x := ⟨_, List.getElem?_eq_getElem (by have := HT.out.2.2.2.2.1; omega)⟩
      obtain ⟨f4, ρ4, l4, h4, hl4, ht4, hf4, hp4, hq4⟩ := HI.out.st
      have hr4 : ERow wr B 91 10 encM (.slice a m c) ds := h4.ss.val ⟨(a, m, c), (a2, m, c2), ds⟩ (by simp)
      obtain ⟨g, rfl, hg, hc⟩ := erow_cells hr4 hx
      have d1 := hc.c1
      have hxm := List.mem_of_getElem? hx
      have hown := HT.out.1.own x hxm
      have hb4 : BRow wr B (.slice x.tp x.tn x.tc) x.tx := ERow.base (ERow.off hown HI.out.off fun q hq e => HT.out.2.2.1 x hxm q hq e.ft) HT.out.2.2.2.1
      have hz4 : ∀ q, (Value.slice x.tp x.tn x.tc).ownBlock = some q → ¬ HsFt ⟨f4, ρ4, σ.D, σ.S ++ [⟨(some ⟨g, 0, none⟩, m, c), (a2, m, c2), ds⟩], σ.es ++ l4⟩ q := fun q hq e => by
        have hql := (ERow.lt hown hq).2
        rcases hf4 q e with e | (e | ⟨j, d, hj, hd, e⟩) | e
        · exact HT.out.2.2.1 x hxm q hq e
        · exact own_ne hown HD.out.2.1 (by decide) q hq e
        · exact HT.out.1.sep j i d x hj hd hx q hq e
        · omega
      have HJ : Hid (∀ z, Below wr.heap.size wr z → Calls Tryz.prog 20 #[.pointer (some ⟨hb, 4, none⟩), .slice x.tp x.tn x.tc] z fun e w' => e = .returned (.tuple #[]) ∧ Hid (StI w B hb σ (fun q => (Value.slice (some ⟨g, 0, none⟩) m c).ownBlock = some q) ⟨(some ⟨g, 0, none⟩, m, c), (a2, m, c2), ds⟩ ds (i + 1) w')) := fun z hz => ((h4.below hz).take (ERow.below hb4 hz) hz4 (HT.out.2.1 x hxm) (by
          have h1 := HD.out.1.nE
          have h2 := HD.out.2.2.1
          have h3 := HT.out.2.2.2.2.2
          show (σ.es ++ l4).length + 1 ≤ _
          rw [List.length_append, hl4]
          omega)).mono fun e w' ⟨e1, h1⟩ => ⟨e1, by
        obtain ⟨ρ', was, q1, q2, q3, q4, q5⟩ := h1.out
        refine ⟨⟨f4, ρ', l4 ++ [⟨.slice x.tp x.tn x.tc, was, x.tx, x.tx⟩], by rw [← List.append_assoc]; exact q1, by simp; omega, fun j d hj hd => ?_, fun q hq => ?_, fun q hql hq => ?_, hq4⟩, ?_⟩
        · by_cases e2 : j < i
          · obtain ⟨e3, he3, h3⟩ := ht4 j d e2 hd
            exact ⟨e3, List.mem_append_left _ he3, h3⟩
          · obtain rfl : j = i := by omega
            rw [hx] at hd
            cases hd
            exact ⟨_, List.mem_append_right _ (List.mem_singleton.2 rfl), rfl, rfl⟩
        · rw [← List.append_assoc] at hq
          rcases q2 q hq with e2 | e2 | e2
          · rcases hf4 q e2 with e | (e | ⟨j, d, hj, hd, e⟩) | e
            · exact Or.inl e
            · exact Or.inr (Or.inl (Or.inl e))
            · exact Or.inr (Or.inl (Or.inr ⟨j, d, by omega, hd, e⟩))
            · exact Or.inr (Or.inr e)
          · exact Or.inr (Or.inl (Or.inr ⟨i, x, by omega, hx, e2⟩))
          · right; right; have := HI.out.off.size; have := hz.size; omega
        · by_cases e2 : (Value.slice x.tp x.tn x.tc).ownBlock = some q
          · have := q5 q e2; omega
          · rw [q4 q (by have := HI.out.off.size; have := hz.size; omega) e2] at hq
            exact hp4 q hql hq
        · exact (HI.out.off.trans (Off.of_below hz)).join q3 fun q hql hq => Or.inr (hp4 q hql hq)⟩
      clear hb4 hc hr4 hown hz4 h4 hl4 ht4 hf4 hp4 hq4
      go_upto_region 5 with fail
      go_region_law (go_simp; go_at_call 20; refine (HJ.out _ (Below.drew (Below.refl _ _))).mono ?_; rintro _ w6 ⟨rfl, H6⟩; go_wp2_with fail)
      all_goals
        go_wp2_with fail
        go_roundw
        case rel => exact ⟨i + 1, hlt, by go_num, H6⟩
        case measure => simp [intOf]; omega
    · have hlt1 : ¬ (i : Int) < m := by omega
      obtain rfl : i = m := by omega
      go_wp2_with fail
      go_end0
      refine ⟨rfl, ?_⟩
      obtain ⟨f4, ρ4, l4, h4, hl4, ht4, hf4, hp4, hq4⟩ := HI.out.st
      have hdl := HT.out.2.2.2.2
      refine ⟨_, ⟨h4, fun y hy d hd => ?_, ?_, ?_, ?_, HD.out.1.bD, fun y hy => ?_⟩, fun q hq => ?_, HI.out.off, fun q hq => ?_⟩
      · rcases (by simpa using hy : y ∈ σ.S ∨ y = ⟨(a, i, c), (a2, i, c2), ds⟩) with g1 | rfl
        · exact HD.out.1.tx.more l4 y g1 d hd
        · obtain ⟨j, hj, e⟩ := List.getElem_of_mem hd
          have hdj : ds[j]? = some d := by rw [List.getElem?_eq_getElem hj, e]
          obtain ⟨e3, he3, h3⟩ := ht4 j d (by have : j < ds.length := hj; omega) hdj
          exact ⟨HT.out.2.1 d (List.mem_of_getElem? hdj), e3, List.mem_append_right _ he3, h3⟩
      · have := HD.out.1.nD; show σ.D.length ≤ _; omega
      · have := HD.out.1.nS; simp; omega
      · have := HD.out.1.nE; simp; omega
      · rcases (by simpa using hy : y ∈ σ.S ∨ y = ⟨(a, i, c), (a2, i, c2), ds⟩) with g | rfl
        · exact HD.out.1.bS y g
        · exact HD.out.2.2.2.1
      · rcases hf4 q hq with e | (e | ⟨j, d, hj, hd, e⟩) | e
        · exact Or.inl e
        · exact Or.inr (Or.inl (Or.inl e))
        · exact Or.inr (Or.inl (Or.inr ⟨d, List.mem_of_getElem? hd, e⟩))
        · exact Or.inr (Or.inr e)
      · rcases hq with ⟨p, hp, e⟩ | e
        · rcases hq4 p q hp e with e2 | e2
          · exact Or.inl (Or.inl e2)
          · exact Or.inr e2
        · rcases Nat.lt_or_ge q w.heap.size with g1 | g1
          · exact Or.inl (Or.inr (hp4 q g1 e))
          · exact Or.inr g1
end
end Go.Proofs.YtoijhecphgdfnaaGreatDoor
