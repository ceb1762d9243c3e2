/-
  couriermem.Refused; the law PathParses.
-/
import Derived.Test.YtachkeipknakgaaDoorPChain
import Derived.Test.YtachkeipknakgaaDoorPRParse
import Derived.Test.YtachkeipknakgaaDoorPEq
namespace Go.Proofs.YtachkeipknakgaaDoor
open Go.RowKit

set_option maxHeartbeats 400000 in
theorem refused_nil (w : World) : Calls Tryd.prog 6 #[.nilIface, .slice none 0 0] w fun e w' => e = .returned (.bool true) ∧ w' = w := by
  go_enter Tryd.func6, Tryd.ntmps6
  go_wp2
  go_ret
  exact ⟨rfl, rfl⟩
set_option maxRecDepth 100000 in
set_option maxHeartbeats 2000000 in
theorem refused_one (b g : Nat) (a : Int) (w : World) (hE : ErrType w) (hF : PFault w b a 10) (h0 : w.cell? ⟨g, 0, none⟩ = some (.string ⟨#[112, 97, 116, 104]⟩)) (h1 : w.cell? ⟨g, 1, none⟩ = some (.int .i64 a)) (h2 : w.cell? ⟨g, 2, none⟩ = some (.int .i64 10)) :
    Calls Tryd.prog 6 #[.iface 57 (.pointer (some ⟨b, 0, none⟩)), .slice (some ⟨g, 0, none⟩) 1 1] w fun e w' => e = .returned (.bool true) ∧ Below w.heap.size w w' := by
  have HE : Hid (ErrType w) := hE
  have HF : Hid (PFault w b a 10) := hF
  have hg : g < w.heap.size := cell_lt h0
  have HL : Hid (w.cell? ⟨g, 0, none⟩ = some (.string ⟨#[112, 97, 116, 104]⟩) ∧ w.cell? ⟨g, 1, none⟩ = some (.int .i64 a) ∧ w.cell? ⟨g, 2, none⟩ = some (.int .i64 10)) := ⟨h0, h1, h2⟩
  clear hE hF h0 h1 h2
  go_enter Tryd.func6, Tryd.ntmps6
  go_wp2_with fail
  refine (chain_one b a 10 _ HE.out HF.out).mono ?_
  rintro e w1 ⟨G, c, rfl, c0, c1, c2, hb⟩
  have d0 : w1.cell? ⟨g, 0, none⟩ = some (.string ⟨#[112, 97, 116, 104]⟩) := (hb.cell (p := ⟨g, 0, none⟩) hg).trans HL.out.1
  have d1 : w1.cell? ⟨g, 1, none⟩ = some (.int .i64 a) := (hb.cell (p := ⟨g, 1, none⟩) hg).trans HL.out.2.1
  have d2 : w1.cell? ⟨g, 2, none⟩ = some (.int .i64 10) := (hb.cell (p := ⟨g, 2, none⟩) hg).trans HL.out.2.2
  have HF1 : Hid (PFault w1 b a 10) := HF.out.below hb
  have HB : Hid (Below w.heap.size w w1) := hb
  clear hb HF HL HE
  go_wp2_with fail
  refine wp_loop_rounds 2 ?_
  rw [rounds_succ]
  go_wp2_with fail
  go_quiet (fail)
  go_wp2_with fail
  rw [rounds_succ]
  go_wp2_with fail
  have HF2 : Hid (PFault (w1.drewN nq) b a 10) := HF1.out.below (below_drewN (Below.refl _ _) _)
  refine (is_code _ _ _ HF2.out.2.2.1 HF2.out.2.2.2).mono ?_
  rintro e w2 ⟨rfl, rfl⟩
  go_wp2_with fail
  go_ret
  exact ⟨rfl, below_drewN HB.out _⟩
/-- What the document answers is what the program's reading came to. -/
theorem both {s : ByteArray} {e : Ending} {w' : World} (h : RAll s e w') :
    (∃ x, parseS s = .ok x ∧ e = .returned (.tuple #[plc (sg s) x.o x.f x.r x.c x.b, .slice none 0 0])) ∨ (∃ (p b : Nat), parseS s = .error p ∧ e = .returned (.tuple #[plc ⟨#[]⟩ 0 0 0 0 0, .slice (some ⟨b, 0, none⟩) 1 1]) ∧ w'.cell? ⟨b, 0, none⟩ = some (.string ⟨#[112, 97, 116, 104]⟩) ∧ w'.cell? ⟨b, 1, none⟩ = some (.int .i64 (p : Int)) ∧ w'.cell? ⟨b, 2, none⟩ = some (.int .i64 10)) := by
  unfold RAll at h
  by_cases h3 : nmC s = 3
  · rw [if_pos h3] at h
    obtain ⟨h, hin⟩ := h
    have hf := parse_same h3 hin
    cases hX : parseS s with
    | ok x =>
      rw [hX] at hf
      obtain ⟨f0, f1, f2, f3, f4, f5⟩ := hf
      rcases h with ⟨_, he⟩ | ⟨p, b, hp, _⟩
      · exact Or.inl ⟨x, rfl, by rw [he, f1, f2, f3, f4, f5]⟩
      · rw [f0] at hp; cases hp
    | error p =>
      rw [hX] at hf
      have hf' : S6 s (sg s) = some p := hf
      rcases h with ⟨h0, _⟩ | ⟨p', b, hp, he, c0, c1, c2⟩
      · rw [hf'] at h0; cases h0
      · rw [hf'] at hp
        obtain rfl := Option.some.inj hp
        exact Or.inr ⟨p, b, rfl, he, c0, c1, c2⟩
  · rw [if_neg h3] at h
    have hX : parseS s = .error (nmC s) := by unfold parseS; rw [if_neg h3]; rfl
    rcases h with ⟨h0, _⟩ | ⟨p', b, hp, he, c0, c1, c2⟩
    · cases h0
    · obtain rfl := Option.some.inj hp
      exact Or.inr ⟨_, b, hX, he, c0, c1, c2⟩
set_option maxRecDepth 100000 in
set_option maxHeartbeats 4000000 in
theorem parses_law (s : ByteArray) (w : World) (hs : s.size ≤ maxLen) (hE : ErrType w) : Calls Tryd.prog 3 #[.string s] w fun e w' => e = .returned (.bool true) ∧ Below w.heap.size w w' := by
  have HS : Hid (s.size ≤ maxLen) := hs
  have HE : Hid (ErrType w) := hE
  clear hs hE
  go_enter Tryd.func3, Tryd.ntmps3
  go_wp2_with fail
  refine (Parse_any s _ HS.out).mono ?_
  rintro e w1 ⟨hP, hb1⟩
  rcases hP with ⟨x, hx, rfl⟩ | ⟨p, b, hp, rfl, hF⟩
  · have HX : Hid (parseS s = .ok x) := hx
    have HB1 : Hid (Below w.heap.size w w1) := hb1
    clear hx hb1
    simp only [plc]
    go_wp2_with fail
    refine (RParse_any s _ HS.out).mono ?_
    rintro e w2 ⟨hR, hb2⟩
    rcases both hR with ⟨x', hx', rfl⟩ | ⟨p', b', hp', rfl, _⟩
    · rw [HX.out] at hx'
      obtain rfl := Except.ok.inj hx'
      clear hx' hR
      have z0 : w2.cell? ⟨w1.heap.size, 0, none⟩ = some (.string (sg s)) := by rw [hb2.cell (p := ⟨w1.heap.size, 0, none⟩) (by simp)]; simp
      have z1 : w2.cell? ⟨w1.heap.size, 1, none⟩ = some (.int .i64 x.o) := by rw [hb2.cell (p := ⟨w1.heap.size, 1, none⟩) (by simp)]; simp
      have z2 : w2.cell? ⟨w1.heap.size, 2, none⟩ = some (.int .i64 x.f) := by rw [hb2.cell (p := ⟨w1.heap.size, 2, none⟩) (by simp)]; simp
      have z3 : w2.cell? ⟨w1.heap.size, 3, none⟩ = some (.int .i64 x.r) := by rw [hb2.cell (p := ⟨w1.heap.size, 3, none⟩) (by simp)]; simp
      have z4 : w2.cell? ⟨w1.heap.size, 4, none⟩ = some (.int .i64 x.c) := by rw [hb2.cell (p := ⟨w1.heap.size, 4, none⟩) (by simp)]; simp
      have z5 : w2.cell? ⟨w1.heap.size, 5, none⟩ = some (.int .i64 x.b) := by rw [hb2.cell (p := ⟨w1.heap.size, 5, none⟩) (by simp)]; simp
      have HB2 : Hid (Below w.heap.size w w2) := below_then (below_then HB1.out ((Below.refl _ _).alloc (Nat.le_refl _) _)) hb2
      have hsz : w1.heap.size < w2.heap.size := by have := hb2.size; simp at this; omega
      clear hb2
      simp only [plc]
      go_wp2_with fail
      refine (refused_nil _).mono ?_
      rintro e w3 ⟨rfl, rfl⟩
      go_wp2_with fail
      go_ret
      exact ⟨rfl, below_then HB2.out ((Below.refl _ _).alloc (Nat.le_refl _) _)⟩
    · rw [HX.out] at hp'; cases hp'
  · have HX : Hid (parseS s = .error p) := hp
    have HB1 : Hid (Below w.heap.size w w1) := hb1
    have HF : Hid (PFault w1 b p 10) := hF
    clear hp hb1 hF
    simp only [plc]
    go_wp2_with fail
    refine (RParse_any s _ HS.out).mono ?_
    rintro e w2 ⟨hR, hb2⟩
    rcases both hR with ⟨x', hx', rfl⟩ | ⟨p', b', hp', rfl, c0, c1, c2⟩
    · rw [HX.out] at hx'; cases hx'
    · rw [HX.out] at hp'
      obtain rfl := Except.error.inj hp'
      clear hp' hR
      have z0 : w2.cell? ⟨w1.heap.size, 0, none⟩ = some (.string ⟨#[]⟩) := by rw [hb2.cell (p := ⟨w1.heap.size, 0, none⟩) (by simp)]; simp
      have z1 : w2.cell? ⟨w1.heap.size, 1, none⟩ = some (.int .i64 0) := by rw [hb2.cell (p := ⟨w1.heap.size, 1, none⟩) (by simp)]; simp
      have z2 : w2.cell? ⟨w1.heap.size, 2, none⟩ = some (.int .i64 0) := by rw [hb2.cell (p := ⟨w1.heap.size, 2, none⟩) (by simp)]; simp
      have z3 : w2.cell? ⟨w1.heap.size, 3, none⟩ = some (.int .i64 0) := by rw [hb2.cell (p := ⟨w1.heap.size, 3, none⟩) (by simp)]; simp
      have z4 : w2.cell? ⟨w1.heap.size, 4, none⟩ = some (.int .i64 0) := by rw [hb2.cell (p := ⟨w1.heap.size, 4, none⟩) (by simp)]; simp
      have z5 : w2.cell? ⟨w1.heap.size, 5, none⟩ = some (.int .i64 0) := by rw [hb2.cell (p := ⟨w1.heap.size, 5, none⟩) (by simp)]; simp
      have HB2 : Hid (Below w.heap.size w w2) := below_then (below_then HB1.out ((Below.refl _ _).alloc (Nat.le_refl _) _)) hb2
      have HF2 : Hid (PFault w2 b p 10) := (HF.out.below ((Below.refl _ _).alloc (Nat.le_refl _) _)).below hb2
      have HL2 : Hid (w2.cell? ⟨b', 0, none⟩ = some (.string ⟨#[112, 97, 116, 104]⟩) ∧ w2.cell? ⟨b', 1, none⟩ = some (.int .i64 (p : Int)) ∧ w2.cell? ⟨b', 2, none⟩ = some (.int .i64 10)) := ⟨c0, c1, c2⟩
      have hsz : w1.heap.size < w2.heap.size := by have := hb2.size; simp at this; omega
      clear hb2 c0 c1 c2 HF
      simp only [plc]
      go_wp2_with fail
      have ha : Below w2.heap.size w2 (w2.alloc (.cells #[.string ⟨#[]⟩, .int .i64 0, .int .i64 0, .int .i64 0, .int .i64 0, .int .i64 0] 23)) := (Below.refl _ _).alloc (Nat.le_refl _) _
      have hl : b' < w2.heap.size := cell_lt HL2.out.1
      refine (refused_one b b' p _ (errType_below HE.out (below_then HB2.out ha)) (HF2.out.below ha) ((ha.cell (p := ⟨b', 0, none⟩) hl).trans HL2.out.1) ((ha.cell (p := ⟨b', 1, none⟩) hl).trans HL2.out.2.1) ((ha.cell (p := ⟨b', 2, none⟩) hl).trans HL2.out.2.2)).mono ?_
      rintro e w3 ⟨rfl, hb3⟩
      have HB3 : Hid (Below w.heap.size w w3) := below_then (below_then HB2.out ha) hb3
      clear hb3 ha
      go_wp2_with fail
      go_ret
      exact ⟨rfl, HB3.out⟩
end Go.Proofs.YtachkeipknakgaaDoor
