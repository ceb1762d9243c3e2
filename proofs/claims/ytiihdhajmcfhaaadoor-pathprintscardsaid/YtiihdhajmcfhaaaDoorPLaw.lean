/-
  couriermem.Refused; the law PathParses.
-/
import Derived.Test.YtiihdhajmcfhaaaDoorPChain
import Derived.Test.YtiihdhajmcfhaaaDoorPRParse
import Derived.Test.YtiihdhajmcfhaaaDoorPEq
namespace Go.Proofs.YtiihdhajmcfhaaaDoor
open Go.RowKit

set_option maxHeartbeats 400000 in
theorem refused_nil (w : World) : Calls Tryd.prog 6 #[.nilIface, .slice none 0 0] w fun e w' => e = .returned (.bool true) ∧ w' = w := by
  go_enter Tryd.func6, Tryd.ntmps6
  go_wp2
  go_ret
  exact ⟨rfl, rfl⟩
set_option maxRecDepth 100000 in
set_option maxHeartbeats 2000000 in
theorem refused_one (b g : Nat) (a : Int) (w : World) (hE : ErrType w) (hF : PFault w b a 10) (h0 : w.cell? ⟨g, 0, none⟩ = some (.string ⟨#[112, 97, 116, 104]⟩)) (h1 : w.cell? ⟨g, 1, none⟩ = some (.int .i64 a)) (h2 : w.cell? ⟨g, 2, none⟩ = some (.int .i64 10)) :
    Calls Tryd.prog 6 #[.iface 43 (.pointer (some ⟨b, 0, none⟩)), .slice (some ⟨g, 0, none⟩) 1 1] w fun e w' => e = .returned (.bool true) ∧ Below w.heap.size w w' := by
  have HE : Hid (ErrType w) := hE
  have HF : Hid (PFault w b a 10) := hF
  have hg : g < w.heap.size := cell_lt h0
  have HL : Hid (w.cell? ⟨g, 0, none⟩ = some (.string ⟨#[112, 97, 116, 104]⟩) ∧ w.cell? ⟨g, 1, none⟩ = some (.int .i64 a) ∧ w.cell? ⟨g, 2, none⟩ = some (.int .i64 10)) := ⟨h0, h1, h2⟩
  clear hE hF h0 h1 h2
  go_enter Tryd.func6, Tryd.ntmps6
  go_wp2_with fail
  refine (chain_one b a 10 _ HE.out HF.out).mono ?_
  rintro e w1 ⟨G, c, rfl, c0, c1, c2, hb⟩
  have d0 : w1.cell? ⟨g, 0, none⟩ = some (.string ⟨#[112, 97, 116, 104]⟩) := (hb.cell (p := ⟨g, 0, none⟩) hg).trans HL.out.1
  have d1 : w1.cell? ⟨g, 1, none⟩ = some (.int .i64 a) := (hb.cell (p := ⟨g, 1, none⟩) hg).trans HL.out.2.1
  have d2 : w1.cell? ⟨g, 2, none⟩ = some (.int .i64 10) := (hb.cell (p := ⟨g, 2, none⟩) hg).trans HL.out.2.2
  have HF1 : Hid (PFault w1 b a 10) := HF.out.below hb
  have HB : Hid (Below w.heap.size w w1) := hb
  clear hb HF HL HE
  go_wp2_with fail
  refine wp_loop_rounds 2 ?_
  rw [rounds_succ]
  go_wp2_with fail
  go_quiet (fail)
  go_wp2_with fail
  rw [rounds_succ]
  go_wp2_with fail
  have HF2 : Hid (PFault (w1.drewN nq) b a 10) := HF1.out.below (below_drewN (Below.refl _ _) _)
  refine (is_code _ _ _ HF2.out.2.2.1 HF2.out.2.2.2).mono ?_
  rintro e w2 ⟨rfl, rfl⟩
  go_wp2_with fail
  go_ret
  exact ⟨rfl, below_drewN HB.out _⟩
/-- What the document answers is what the program's reading came to. -/
theorem both {s : ByteArray} {e : Ending} {w' : World} (h : RAll s e w') :
    (∃ x, parseS s = .ok x ∧ e = .returned (.tuple #[plc (sg s) x.o x.f x.r x.c x.b, .slice none 0 0])) ∨ (∃ (p b : Nat), parseS s = .error p ∧ e = .returned (.tuple #[plc ⟨#[]⟩ 0 0 0 0 0, .slice (some ⟨b, 0, none⟩) 1 1]) ∧ w'.cell? ⟨b, 0, none⟩ = some (.string ⟨#[112, 97, 116, 104]⟩) ∧ w'.cell? ⟨b, 1, none⟩ = some (.int .i64 (p : Int)) ∧ w'.cell? ⟨b, 2, none⟩ = some (.int .i64 10)) := by
  unfold RAll at h
  by_cases h3 : nmC s = 3
  · rw [if_pos h3] at h
    obtain ⟨h, hin⟩ := h
    have hf := parse_same h3 hin
    cases hX : parseS s with
    | ok x =>
      rw [hX] at hf
      obtain ⟨f0, f1, f2, f3, f4, f5⟩ := hf
      rcases h with ⟨_, he⟩ | ⟨p, b, hp, _⟩
      · exact Or.inl ⟨x, rfl, by rw [he, f1, f2, f3, f4, f5]⟩
      · rw [f0] at hp; cases hp
    | error p =>
      rw [hX] at hf
      have hf' : S6 s (sg s) = some p := hf
      rcases h with ⟨h0, _⟩ | ⟨p', b, hp, he, c0, c1, c2⟩
      · rw [hf'] at h0; cases h0
      · rw [hf'] at hp
        obtain rfl := Option.some.inj hp
        exact Or.inr ⟨p, b, rfl, he, c0, c1, c2⟩
  · rw [if_neg h3] at h
    have hX : parseS s = .error (nmC s) := by unfold parseS; rw [if_neg h3]; rfl
    rcases h with ⟨h0, _⟩ | ⟨p', b, hp, he, c0, c1, c2⟩
    · cases h0
    · obtain rfl := Option.some.inj hp
      exact Or.inr ⟨_, b, hX, he, c0, c1, c2⟩
end Go.Proofs.YtiihdhajmcfhaaaDoor
