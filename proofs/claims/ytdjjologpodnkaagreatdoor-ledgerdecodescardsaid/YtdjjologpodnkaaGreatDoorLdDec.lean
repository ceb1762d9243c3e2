/-
  The end of the bytes; the deferred call of Decode.
-/
import Derived.Test.YtdjjologpodnkaaGreatDoorLdRec
import Derived.Test.YtdjjologpodnkaaGreatDoorLgEnc
import Derived.Defers
import Derived.Recover
import Derived.Deep.RegionHeld3
namespace Go.Proofs.YtdjjologpodnkaaGreatDoor
open Go.RowKit

set_option maxRecDepth 100000 in
set_option maxHeartbeats 1000000 in
theorem end_any {w : World} {fb : Nat} {po : Option Addr} {c : Nat} {bs : List Int} {p : Nat} (h : Rdr w fb po c bs p) :
    Calls Tryz.prog 26 #[.pointer (some ⟨fb, 0, none⟩)] w fun e z => (∃ n : Int, e = gaveUp n ∧ Hid (n = p ∧ p < bs.length ∧ Below w.heap.size w z)) ∨ (e = .returned (.tuple #[]) ∧ Hid (p = bs.length ∧ Below w.heap.size w z)) := by
  have cx := h.box.cell
  have c0 : w.cell? ⟨fb, 0, none⟩ = some (.slice po bs.length c) := cx 0
  have c1 : w.cell? ⟨fb, 1, none⟩ = some (.int .i64 p) := cx 1
  have HP : Hid (p ≤ bs.length) := h.hp
  have HB : Hid (Below w.heap.size w w.drew) := Below.drew (Below.refl _ _)
  have hg := giveUp_any (p : Int)
  clear cx h
  by_cases hlt : (p : Int) < (bs.length : Int)
  · have HL : Hid (p < bs.length) := by unfold Hid; omega
    go_enter Tryz.func26, Tryz.ntmps26
    go_wp2_with fail
    go_region
    all_goals
      go_wp2_with fail
      refine (hg _).mono ?_
      rintro _ w8 ⟨rfl, h8⟩
      subst w8
      exact ⟨rfl, Or.inl ⟨p, rfl, rfl, HL.out, HB.out⟩⟩
  · have HL : Hid (p = bs.length) := by have := HP.out; unfold Hid; omega
    go_enter Tryz.func26, Tryz.ntmps26
    go_wp2_with fail
    go_region
    all_goals
      go_wp2_with fail
      go_end0
      exact Or.inr ⟨rfl, HL.out, HB.out⟩
set_option maxRecDepth 100000 in
set_option maxHeartbeats 1000000 in
theorem catch_idle (rb eb : Nat) (w : World) :
    CallsD Tryz.prog 24 #[.pointer (some ⟨rb, 0, none⟩), .pointer (some ⟨eb, 0, none⟩)] .returning w fun e u' w' => e = .returned (.tuple #[]) ∧ u' = .returning ∧ w' = w := by
  refine callsD_of_wpS Tryz.func24 rfl fun c₀ cs hu => ?_
  apply wpS_seq
  apply wpS_region
  simp [wpOpsS, go_sem, recoverD, hu, Tryz.ntmps24, Exit.thenS]
  apply wpS_of_wp
  go_wp2_with fail
  cases c₀
  simp_all [bodyPostS, results, Tryz.results24]
/-- The zero record. -/
abbrev zeroR : Rec := ⟨0, ⟨#[]⟩, none, 0, 0, [], false, 0, 0, 0, 0, 0, ⟨#[]⟩, none, 0, 0, [], none, 0, 0, []⟩
theorem GFault.off {P : Nat → Prop} {w w' : World} {b : Nat} {a c : Int} (h : GFault w b a c) (ho : Off P w w') (hP : ¬ P b) : GFault w' b a c := by
  have hl : b < w.heap.size := cell_lt h.1
  exact h.keep fun o => ho.cell (p := ⟨b, o, none⟩) hl hP
set_option maxHeartbeats 1000000 in
theorem zero_put {w : World} {b : Nat} {r : Rec} (h : Box w b (#[.int .i64 r.kd, .string r.ct, .slice r.tp r.tn r.tc, .bool r.e, .int .i64 r.a, .int .i64 r.p, .int .i64 r.nu, .int .i64 r.tk, .int .i64 r.st, .string r.cd, .slice r.cp r.cn r.cc, .slice r.ap r.an r.ac])) : Box ((((((((((((w.setCell ⟨b, 0, none⟩ (.int .i64 0)).setCell ⟨b, 1, none⟩ (.string ⟨#[]⟩)).setCell ⟨b, 2, none⟩ (.slice none 0 0)).setCell ⟨b, 3, none⟩ (.bool false)).setCell ⟨b, 4, none⟩ (.int .i64 0)).setCell ⟨b, 5, none⟩ (.int .i64 0)).setCell ⟨b, 6, none⟩ (.int .i64 0)).setCell ⟨b, 7, none⟩ (.int .i64 0)).setCell ⟨b, 8, none⟩ (.int .i64 0)).setCell ⟨b, 9, none⟩ (.string ⟨#[]⟩)).setCell ⟨b, 10, none⟩ (.slice none 0 0)).setCell ⟨b, 11, none⟩ (.slice none 0 0)) b (#[.int .i64 zeroR.kd, .string zeroR.ct, .slice zeroR.tp zeroR.tn zeroR.tc, .bool zeroR.e, .int .i64 zeroR.a, .int .i64 zeroR.p, .int .i64 zeroR.nu, .int .i64 zeroR.tk, .int .i64 zeroR.st, .string zeroR.cd, .slice zeroR.cp zeroR.cn zeroR.cc, .slice zeroR.ap zeroR.an zeroR.ac]) ∧ Off (fun q => q = b) w ((((((((((((w.setCell ⟨b, 0, none⟩ (.int .i64 0)).setCell ⟨b, 1, none⟩ (.string ⟨#[]⟩)).setCell ⟨b, 2, none⟩ (.slice none 0 0)).setCell ⟨b, 3, none⟩ (.bool false)).setCell ⟨b, 4, none⟩ (.int .i64 0)).setCell ⟨b, 5, none⟩ (.int .i64 0)).setCell ⟨b, 6, none⟩ (.int .i64 0)).setCell ⟨b, 7, none⟩ (.int .i64 0)).setCell ⟨b, 8, none⟩ (.int .i64 0)).setCell ⟨b, 9, none⟩ (.string ⟨#[]⟩)).setCell ⟨b, 10, none⟩ (.slice none 0 0)).setCell ⟨b, 11, none⟩ (.slice none 0 0)) := by
  refine ⟨?_, (Off.setCell (P := fun q => q = b) (p := ⟨b, 11, none⟩) (Off.setCell (P := fun q => q = b) (p := ⟨b, 10, none⟩) (Off.setCell (P := fun q => q = b) (p := ⟨b, 9, none⟩) (Off.setCell (P := fun q => q = b) (p := ⟨b, 8, none⟩) (Off.setCell (P := fun q => q = b) (p := ⟨b, 7, none⟩) (Off.setCell (P := fun q => q = b) (p := ⟨b, 6, none⟩) (Off.setCell (P := fun q => q = b) (p := ⟨b, 5, none⟩) (Off.setCell (P := fun q => q = b) (p := ⟨b, 4, none⟩) (Off.setCell (P := fun q => q = b) (p := ⟨b, 3, none⟩) (Off.setCell (P := fun q => q = b) (p := ⟨b, 2, none⟩) (Off.setCell (P := fun q => q = b) (p := ⟨b, 1, none⟩) (Off.setCell (P := fun q => q = b) (p := ⟨b, 0, none⟩) (Off.refl _ w) rfl _) rfl _) rfl _) rfl _) rfl _) rfl _) rfl _) rfl _) rfl _) rfl _) rfl _) rfl _)⟩
  have hb := ((((((((((((h.pPut (j := 0) (by simp) (.int .i64 0)).pPut (j := 1) (by simp) (.string ⟨#[]⟩)).pPut (j := 2) (by simp) (.slice none 0 0)).pPut (j := 3) (by simp) (.bool false)).pPut (j := 4) (by simp) (.int .i64 0)).pPut (j := 5) (by simp) (.int .i64 0)).pPut (j := 6) (by simp) (.int .i64 0)).pPut (j := 7) (by simp) (.int .i64 0)).pPut (j := 8) (by simp) (.int .i64 0)).pPut (j := 9) (by simp) (.string ⟨#[]⟩)).pPut (j := 10) (by simp) (.slice none 0 0)).pPut (j := 11) (by simp) (.slice none 0 0))
  simp only [Array.set!_eq_setIfInBounds, List.setIfInBounds_toArray, List.set_cons_zero, List.set_cons_succ] at hb
  exact hb
/-- What the deferred call leaves behind a panic. -/
def CatQ (w : World) (rb eb : Nat) (n : Int) (w' : World) : Prop := ∃ b, w.heap.size ≤ b ∧ Box w' rb (#[.int .i64 zeroR.kd, .string zeroR.ct, .slice zeroR.tp zeroR.tn zeroR.tc, .bool zeroR.e, .int .i64 zeroR.a, .int .i64 zeroR.p, .int .i64 zeroR.nu, .int .i64 zeroR.tk, .int .i64 zeroR.st, .string zeroR.cd, .slice zeroR.cp zeroR.cn zeroR.cc, .slice zeroR.ap zeroR.an zeroR.ac]) ∧ Box w' eb #[.iface 74 (.pointer (some ⟨b, 0, none⟩))] ∧ GFault w' b n 10 ∧ Off (fun q => q = rb ∨ q = eb) w w'
theorem cat_fin {w w2 Z : World} {rb eb : Nat} {e0 : Value} {n : Int} (z1 : Box Z rb (#[.int .i64 zeroR.kd, .string zeroR.ct, .slice zeroR.tp zeroR.tn zeroR.tc, .bool zeroR.e, .int .i64 zeroR.a, .int .i64 zeroR.p, .int .i64 zeroR.nu, .int .i64 zeroR.tk, .int .i64 zeroR.st, .string zeroR.cd, .slice zeroR.cp zeroR.cn zeroR.cc, .slice zeroR.ap zeroR.an zeroR.ac])) (z2 : Off (fun q => q = rb) w2 Z) (he : Box w2 eb #[e0]) (g : GFault w2 w.heap.size n 10) (b : Below w.heap.size w w2) (hne : rb ≠ eb) (hrl : rb < w.heap.size) (hel : eb < w.heap.size) :
    Hid (CatQ w rb eb n (Z.setCell ⟨eb, 0, none⟩ (.iface 74 (.pointer (some ⟨w.heap.size, 0, none⟩))))) := by
  have z3 := (he.off z2 (fun e => hne e.symm)).pPut (j := 0) (by simp) (.iface 74 (.pointer (some ⟨w.heap.size, 0, none⟩)))
  have o3 : Off (fun q => q = rb ∨ q = eb) w2 (Z.setCell ⟨eb, 0, none⟩ (.iface 74 (.pointer (some ⟨w.heap.size, 0, none⟩)))) := Off.setCell (P := fun q => q = rb ∨ q = eb) (p := ⟨eb, 0, none⟩) (z2.mono fun _ g => Or.inl g) (Or.inr rfl) _
  exact ⟨w.heap.size, Nat.le_refl _, z1.pOff (p := ⟨eb, 0, none⟩) (fun e => hne e.symm) _, z3, GFault.off g o3 (fun e => by omega), (Off.of_below b).join o3 fun _ _ g => g⟩
set_option maxRecDepth 100000 in
set_option maxHeartbeats 1000000 in
theorem catch_panicking {rb eb : Nat} {r : Rec} {e0 : Value} (n : Int) (w : World) (hr : Box w rb (#[.int .i64 r.kd, .string r.ct, .slice r.tp r.tn r.tc, .bool r.e, .int .i64 r.a, .int .i64 r.p, .int .i64 r.nu, .int .i64 r.tk, .int .i64 r.st, .string r.cd, .slice r.cp r.cn r.cc, .slice r.ap r.an r.ac])) (he : Box w eb #[e0]) (hne : rb ≠ eb) :
    CallsD Tryz.prog 24 #[.pointer (some ⟨rb, 0, none⟩), .pointer (some ⟨eb, 0, none⟩)] (.panicking [{ v := .iface 56 (.int .i64 n), recovered := false }]) w fun e u' w' => e = .returned (.tuple #[]) ∧ u' = .panicking [{ v := .iface 56 (.int .i64 n), recovered := true }] ∧ Hid (CatQ w rb eb n w') := by
  refine callsD_of_wpS Tryz.func24 rfl fun c₀ cs hu => ?_
  have hg := gfault_any n 10
  have hrl := hr.lt
  have hel := he.lt
  have hta : ∀ S v W, (Instr.typeAssert (.iface 56 v) S 56 false).run Tryz.prog W = .ok v W := fun S v W => by kernel_rfl
  apply wpS_seq
  apply wpS_region
  simp [wpOpsS, go_sem, recoverD, hu, Tryz.ntmps24, Exit.thenS]
  apply wpS_of_wp
  go_wp2_with fail
  refine (hg _).mono ?_
  rintro _ w2 ⟨rfl, g2, b2⟩
  have hr2 := hr.below b2
  have he2 := he.below b2
  have hrc := hr2.cell
  have hrf := hr2.free
  have hec := he2.cell
  have hef := he2.free
  have HH : Hid (Box w2 rb (#[.int .i64 r.kd, .string r.ct, .slice r.tp r.tn r.tc, .bool r.e, .int .i64 r.a, .int .i64 r.p, .int .i64 r.nu, .int .i64 r.tk, .int .i64 r.st, .string r.cd, .slice r.cp r.cn r.cc, .slice r.ap r.an r.ac]) ∧ Box w2 eb #[e0] ∧ GFault w2 w.heap.size n 10 ∧ Below w.heap.size w w2) := ⟨hr2, he2, g2, b2⟩
  obtain ⟨xb, hxb⟩ : ∃ xb, w.heap.size = xb := ⟨_, rfl⟩
  have HX : Hid (w.heap.size = xb) := hxb
  rw [hxb]
  clear hg hr he g2 b2 hr2 he2 hxb
  go_wp2_with fail
  cases c₀
  obtain ⟨z1, z2⟩ := zero_put HH.out.1
  have HQ := cat_fin z1 z2 HH.out.2.1 HH.out.2.2.1 HH.out.2.2.2 hne hrl hel
  rw [HX.out] at HQ
  clear z1 z2 HH HX hrc hrf hec hef hne hrl hel hta
  simp only [bodyPostS]
  exact ⟨trivial, _, rfl, .tuple #[], results_none rfl _ _ _, rfl, rfl, HQ⟩
end Go.Proofs.YtdjjologpodnkaaGreatDoor
