/-
  A disk that was made: its state in memory; how a call on one area leaves the rest; made, known, check, write.
-/
import Derived.Test.YthnpckmgnompiaaGreatDoorDkTear
namespace Go.Proofs.YthnpckmgnompiaaGreatDoor
open Go.RowKit

/-- A disk: both areas, state, fuse, counts. -/
structure Dsk (w : World) (B K : Nat) (v0 v1 : Value) (x0 x1 : List Int) (s0 s1 : Nat) (st fu na ns nc : Int) : Prop where
  a0 : Ar w B K 0 v0 x0 s0
  a1 : Ar w B K 2 v1 x1 s1
  c4 : w.cell? ⟨K, 4, none⟩ = some (.int .i64 st)
  c5 : w.cell? ⟨K, 5, none⟩ = some (.int .i64 fu)
  c6 : w.cell? ⟨K, 6, none⟩ = some (.int .i64 na)
  c7 : w.cell? ⟨K, 7, none⟩ = some (.int .i64 ns)
  c8 : w.cell? ⟨K, 8, none⟩ = some (.int .i64 nc)
  fr : ∀ q, w.frozen? ⟨K, q, none⟩ = false
  ap : ∀ g, v0.ownBlock = some g → v1.ownBlock ≠ some g
  hB : B ≤ K
  hK : K < w.heap.size
  bn : -1 ≤ fu ∧ fu ≤ 9223372036854775807 ∧ 0 ≤ na ∧ na ≤ 9007199254740992 ∧ 0 ≤ ns ∧ ns ≤ 9007199254740992 ∧ 0 ≤ nc ∧ nc ≤ 9007199254740992
/-- The blocks of a disk. -/
def Foot (K : Nat) (v0 v1 : Value) (k : Nat) : Prop := k = K ∨ v0.ownBlock = some k ∨ v1.ownBlock = some k
/-- What a call leaves of the rest of the memory. -/
structure DStep (w w' : World) (K : Nat) (v0 v1 v0' v1' : Value) : Prop where
  off : Off (Foot K v0 v1) w w'
  foot : ∀ k, k < w.heap.size → Foot K v0' v1' k → Foot K v0 v1 k
theorem DStep.refl (w : World) (K : Nat) (v0 v1 : Value) : DStep w w K v0 v1 v0 v1 := ⟨Off.refl _ _, fun _ _ h => h⟩
theorem DStep.trans {a b c : World} {K : Nat} {u0 u1 v0 v1 z0 z1 : Value} (h : DStep a b K u0 u1 v0 v1) (k : DStep b c K v0 v1 z0 z1) : DStep a c K u0 u1 z0 z1 :=
  ⟨h.off.join k.off h.foot, fun i hi g => h.foot i hi (k.foot i (Nat.lt_of_lt_of_le hi h.off.size) g)⟩
theorem DStep.of_below {a b : World} (K : Nat) (v0 v1 : Value) (h : Below a.heap.size a b) : DStep a b K v0 v1 v0 v1 := ⟨Off.of_below h, fun _ _ g => g⟩
section
variable {w w' : World} {B K : Nat} {v0 v1 v0' v1' : Value} {x0 x1 x0' x1' : List Int} {s0 s1 s0' s1' : Nat} {st fu na ns nc : Int}
theorem Dsk.foot_lt (h : Dsk w B K v0 v1 x0 x1 s0 s1 st fu na ns nc) {k : Nat} (hk : Foot K v0 v1 k) : B ≤ k ∧ k < w.heap.size := by
  rcases hk with rfl | hk | hk
  · exact ⟨h.hB, h.hK⟩
  · exact h.a0.row.lt hk
  · exact h.a1.row.lt hk
theorem Dsk.off {P : Nat → Prop} (h : Dsk w B K v0 v1 x0 x1 s0 s1 st fu na ns nc) (ho : Off P w w') (hP : ∀ k, Foot K v0 v1 k → ¬ P k) : Dsk w' B K v0 v1 x0 x1 s0 s1 st fu na ns nc := by
  have e : ∀ q, w'.cell? ⟨K, q, none⟩ = w.cell? ⟨K, q, none⟩ := fun q => ho.cell (p := ⟨K, q, none⟩) h.hK (hP K (Or.inl rfl))
  exact ⟨h.a0.off ho (hP K (Or.inl rfl)) (fun g hg => hP g (Or.inr (Or.inl hg))), h.a1.off ho (hP K (Or.inl rfl)) (fun g hg => hP g (Or.inr (Or.inr hg))), by rw [e]; exact h.c4, by rw [e]; exact h.c5, by rw [e]; exact h.c6, by rw [e]; exact h.c7, by rw [e]; exact h.c8,
    fun q => (ho.frozen (p := ⟨K, q, none⟩) h.hK (hP K (Or.inl rfl))).trans (h.fr q), h.ap, h.hB, Nat.lt_of_lt_of_le h.hK ho.size, h.bn⟩
theorem Dsk.below (h : Dsk w B K v0 v1 x0 x1 s0 s1 st fu na ns nc) (hb : Below w.heap.size w w') : Dsk w' B K v0 v1 x0 x1 s0 s1 st fu na ns nc := h.off (P := fun _ => False) (Off.of_below hb) (fun _ _ => id)
theorem Dsk.area0 (h : Dsk w B K v0 v1 x0 x1 s0 s1 st fu na ns nc) (a : Ar w' B K 0 v0' x0' s0') (s : ArStep w w' K 0 v0 v0') : Dsk w' B K v0' v1 x0' x1 s0' s1 st fu na ns nc ∧ DStep w w' K v0 v1 v0' v1 := by
  have hc := fun q h1 h2 => s.cells q h1 h2
  refine ⟨⟨a, ⟨by rw [hc 2 (by omega) (by omega)]; exact h.a1.c0, by rw [hc 3 (by omega) (by omega)]; exact h.a1.c1, by rw [s.fr]; exact h.a1.f0, by rw [s.fr]; exact h.a1.f1, h.a1.row.keep fun g hg => s.off.block g (h.a1.row.lt hg).2 (fun e => ?_), h.a1.sep, h.a1.len, h.a1.syn⟩,
    by rw [hc 4 (by omega) (by omega)]; exact h.c4, by rw [hc 5 (by omega) (by omega)]; exact h.c5, by rw [hc 6 (by omega) (by omega)]; exact h.c6, by rw [hc 7 (by omega) (by omega)]; exact h.c7, by rw [hc 8 (by omega) (by omega)]; exact h.c8, fun q => by rw [s.fr]; exact h.fr q, fun g hg e => ?_, h.hB, Nat.lt_of_lt_of_le h.hK s.off.size, h.bn⟩, ⟨s.off.mono fun k e => ?_, fun k hk e => ?_⟩⟩
  · rcases e with rfl | e
    · exact h.a1.sep hg
    · exact h.ap g e hg
  · rcases s.blk g hg with e' | e'
    · exact h.ap g e' e
    · have := (h.a1.row.lt e).2; omega
  · rcases e with e | e
    · exact Or.inl e
    · exact Or.inr (Or.inl e)
  · rcases e with e | e | e
    · exact Or.inl e
    · rcases s.blk k e with e' | e'
      · exact Or.inr (Or.inl e')
      · omega
    · exact Or.inr (Or.inr e)
theorem Dsk.area1 (h : Dsk w B K v0 v1 x0 x1 s0 s1 st fu na ns nc) (a : Ar w' B K 2 v1' x1' s1') (s : ArStep w w' K 2 v1 v1') : Dsk w' B K v0 v1' x0 x1' s0 s1' st fu na ns nc ∧ DStep w w' K v0 v1 v0 v1' := by
  have hc := fun q h1 h2 => s.cells q h1 h2
  refine ⟨⟨⟨by rw [hc 0 (by omega) (by omega)]; exact h.a0.c0, by rw [hc 1 (by omega) (by omega)]; exact h.a0.c1, by rw [s.fr]; exact h.a0.f0, by rw [s.fr]; exact h.a0.f1, h.a0.row.keep fun g hg => s.off.block g (h.a0.row.lt hg).2 (fun e => ?_), h.a0.sep, h.a0.len, h.a0.syn⟩, a,
    by rw [hc 4 (by omega) (by omega)]; exact h.c4, by rw [hc 5 (by omega) (by omega)]; exact h.c5, by rw [hc 6 (by omega) (by omega)]; exact h.c6, by rw [hc 7 (by omega) (by omega)]; exact h.c7, by rw [hc 8 (by omega) (by omega)]; exact h.c8, fun q => by rw [s.fr]; exact h.fr q, fun g hg e => ?_, h.hB, Nat.lt_of_lt_of_le h.hK s.off.size, h.bn⟩, ⟨s.off.mono fun k e => ?_, fun k hk e => ?_⟩⟩
  · rcases e with rfl | e
    · exact h.a0.sep hg
    · exact h.ap g hg e
  · rcases s.blk g e with e' | e'
    · exact h.ap g hg e'
    · have := (h.a0.row.lt hg).2; omega
  · rcases e with e | e
    · exact Or.inl e
    · exact Or.inr (Or.inr e)
  · rcases e with e | e | e
    · exact Or.inl e
    · exact Or.inr (Or.inl e)
    · rcases s.blk k e with e' | e'
      · exact Or.inr (Or.inr e')
      · omega
/-- One of the cells behind the areas is set. -/
theorem Dsk.keepA (h : Dsk w B K v0 v1 x0 x1 s0 s1 st fu na ns nc) {q : Nat} (hq : 4 ≤ q) (u : Value) : Ar (w.setCell ⟨K, q, none⟩ u) B K 0 v0 x0 s0 ∧ Ar (w.setCell ⟨K, q, none⟩ u) B K 2 v1 x1 s1 := by
  have e : ∀ r, r ≠ q → (w.setCell ⟨K, q, none⟩ u).cell? ⟨K, r, none⟩ = w.cell? ⟨K, r, none⟩ := fun r _ => World.cell?_setCell_other _ _ _ _ (by simp)
  exact ⟨⟨by rw [e 0 (by omega)]; exact h.a0.c0, by rw [e 1 (by omega)]; exact h.a0.c1, by simpa using h.a0.f0, by simpa using h.a0.f1, h.a0.row.set h.a0.sep, h.a0.sep, h.a0.len, h.a0.syn⟩,
    ⟨by rw [e 2 (by omega)]; exact h.a1.c0, by rw [e 3 (by omega)]; exact h.a1.c1, by simpa using h.a1.f0, by simpa using h.a1.f1, h.a1.row.set h.a1.sep, h.a1.sep, h.a1.len, h.a1.syn⟩⟩
theorem Dsk.stepSet (_h : Dsk w B K v0 v1 x0 x1 s0 s1 st fu na ns nc) (q : Nat) (u : Value) : DStep w (w.setCell ⟨K, q, none⟩ u) K v0 v1 v0 v1 :=
  ⟨Off.setCell (P := Foot K v0 v1) (Off.refl _ _) (p := ⟨K, q, none⟩) (Or.inl rfl) _, fun _ _ g => g⟩
theorem Dsk.set4 (h : Dsk w B K v0 v1 x0 x1 s0 s1 st fu na ns nc) (X : Int) (_hX : True) : Dsk (w.setCell ⟨K, 4, none⟩ (.int .i64 X)) B K v0 v1 x0 x1 s0 s1 X fu na ns nc :=
  ⟨(h.keepA (by omega) _).1, (h.keepA (by omega) _).2, World.cell?_setCell_same _ _ _ h.c4, by rw [World.cell?_setCell_other _ _ _ _ (by simp)]; exact h.c5, by rw [World.cell?_setCell_other _ _ _ _ (by simp)]; exact h.c6, by rw [World.cell?_setCell_other _ _ _ _ (by simp)]; exact h.c7, by rw [World.cell?_setCell_other _ _ _ _ (by simp)]; exact h.c8, fun q => by simpa using h.fr q, h.ap, h.hB, by simpa using h.hK, by have := h.bn; exact this⟩
theorem Dsk.set5 (h : Dsk w B K v0 v1 x0 x1 s0 s1 st fu na ns nc) (X : Int) (hX : -1 ≤ X ∧ X ≤ 9223372036854775807) : Dsk (w.setCell ⟨K, 5, none⟩ (.int .i64 X)) B K v0 v1 x0 x1 s0 s1 st X na ns nc :=
  ⟨(h.keepA (by omega) _).1, (h.keepA (by omega) _).2, by rw [World.cell?_setCell_other _ _ _ _ (by simp)]; exact h.c4, World.cell?_setCell_same _ _ _ h.c5, by rw [World.cell?_setCell_other _ _ _ _ (by simp)]; exact h.c6, by rw [World.cell?_setCell_other _ _ _ _ (by simp)]; exact h.c7, by rw [World.cell?_setCell_other _ _ _ _ (by simp)]; exact h.c8, fun q => by simpa using h.fr q, h.ap, h.hB, by simpa using h.hK, by have := h.bn; omega⟩
theorem Dsk.set6 (h : Dsk w B K v0 v1 x0 x1 s0 s1 st fu na ns nc) (X : Int) (hX : 0 ≤ X ∧ X ≤ 9007199254740992) : Dsk (w.setCell ⟨K, 6, none⟩ (.int .i64 X)) B K v0 v1 x0 x1 s0 s1 st fu X ns nc :=
  ⟨(h.keepA (by omega) _).1, (h.keepA (by omega) _).2, by rw [World.cell?_setCell_other _ _ _ _ (by simp)]; exact h.c4, by rw [World.cell?_setCell_other _ _ _ _ (by simp)]; exact h.c5, World.cell?_setCell_same _ _ _ h.c6, by rw [World.cell?_setCell_other _ _ _ _ (by simp)]; exact h.c7, by rw [World.cell?_setCell_other _ _ _ _ (by simp)]; exact h.c8, fun q => by simpa using h.fr q, h.ap, h.hB, by simpa using h.hK, by have := h.bn; omega⟩
theorem Dsk.set7 (h : Dsk w B K v0 v1 x0 x1 s0 s1 st fu na ns nc) (X : Int) (hX : 0 ≤ X ∧ X ≤ 9007199254740992) : Dsk (w.setCell ⟨K, 7, none⟩ (.int .i64 X)) B K v0 v1 x0 x1 s0 s1 st fu na X nc :=
  ⟨(h.keepA (by omega) _).1, (h.keepA (by omega) _).2, by rw [World.cell?_setCell_other _ _ _ _ (by simp)]; exact h.c4, by rw [World.cell?_setCell_other _ _ _ _ (by simp)]; exact h.c5, by rw [World.cell?_setCell_other _ _ _ _ (by simp)]; exact h.c6, World.cell?_setCell_same _ _ _ h.c7, by rw [World.cell?_setCell_other _ _ _ _ (by simp)]; exact h.c8, fun q => by simpa using h.fr q, h.ap, h.hB, by simpa using h.hK, by have := h.bn; omega⟩
theorem Dsk.set8 (h : Dsk w B K v0 v1 x0 x1 s0 s1 st fu na ns nc) (X : Int) (hX : 0 ≤ X ∧ X ≤ 9007199254740992) : Dsk (w.setCell ⟨K, 8, none⟩ (.int .i64 X)) B K v0 v1 x0 x1 s0 s1 st fu na ns X :=
  ⟨(h.keepA (by omega) _).1, (h.keepA (by omega) _).2, by rw [World.cell?_setCell_other _ _ _ _ (by simp)]; exact h.c4, by rw [World.cell?_setCell_other _ _ _ _ (by simp)]; exact h.c5, by rw [World.cell?_setCell_other _ _ _ _ (by simp)]; exact h.c6, by rw [World.cell?_setCell_other _ _ _ _ (by simp)]; exact h.c7, World.cell?_setCell_same _ _ _ h.c8, fun q => by simpa using h.fr q, h.ap, h.hB, by simpa using h.hK, by have := h.bn; omega⟩
end
theorem dsk_new (w : World) : Dsk (w.alloc (.cells #[.slice none 0 0, .int .i64 0, .slice none 0 0, .int .i64 0, .int .i64 1, .int .i64 (-1), .int .i64 0, .int .i64 0, .int .i64 0] 72)) w.heap.size w.heap.size (.slice none 0 0) (.slice none 0 0) [] [] 0 0 1 (-1) 0 0 0 :=
  ⟨⟨by simp, by simp, by simp, by simp, Row.nil _ _, (fun e => (by cases e)), Nat.zero_le _, (by simp)⟩, ⟨by simp, by simp, by simp, by simp, Row.nil _ _, (fun e => (by cases e)), Nat.zero_le _, (by simp)⟩, by simp, by simp, by simp, by simp, by simp, fun q => (by simp), fun g e => (by cases e), Nat.le_refl _, by simp, by omega⟩
def fz (fu : Int) : Int := if 0 < fu then fu - 1 else fu
def ct (n : Int) : Int := if n < 9007199254740992 then n + 1 else n
set_option maxHeartbeats 400000 in
theorem made_ok {w : World} {B K : Nat} {v0 v1 : Value} {x0 x1 : List Int} {s0 s1 : Nat} {st fu na ns nc : Int} (h : Dsk w B K v0 v1 x0 x1 s0 s1 st fu na ns nc) (hst : st = 1 ∨ st = 2) : Calls Tryz.prog 74 #[.pointer (some ⟨K, 0, none⟩)] w fun e w' => e = .returned (.bool true) ∧ w' = w := by
  have c4 := h.c4
  clear h
  rcases hst with rfl | rfl
  all_goals
    go_enter Tryz.func74, Tryz.ntmps74
    go_wp2
    go_ret
    exact ⟨rfl, rfl⟩
set_option maxHeartbeats 400000 in
theorem check_ok {w : World} {B K : Nat} {v0 v1 : Value} {x0 x1 : List Int} {s0 s1 : Nat} {st fu na ns nc : Int} (ar : Int) (h : Dsk w B K v0 v1 x0 x1 s0 s1 st fu na ns nc) (hst : st = 1 ∨ st = 2) (har : ar = 0 ∨ ar = 1) : Calls Tryz.prog 49 #[.pointer (some ⟨K, 0, none⟩), .int .i64 ar] w fun e w' => e = .returned .nilIface ∧ w' = w := by
  have H : Hid (Dsk w B K v0 v1 x0 x1 s0 s1 st fu na ns nc) := h
  have HS : Hid (st = 1 ∨ st = 2) := hst
  clear h hst
  rcases har with rfl | rfl
  all_goals
    go_enter Tryz.func49, Tryz.ntmps49
    go_wp2_with fail
    refine (made_ok H.out HS.out).mono ?_
    rintro e w1 ⟨rfl, rfl⟩
    go_wp2
    go_ret
    exact ⟨rfl, rfl⟩
set_option maxHeartbeats 1000000 in
theorem write6_ok {w : World} {B K : Nat} {v0 v1 : Value} {x0 x1 : List Int} {s0 s1 : Nat} {fu na ns nc : Int} (h : Dsk w B K v0 v1 x0 x1 s0 s1 1 fu na ns nc) (hf : fu ≠ 0) : Calls Tryz.prog 78 #[.pointer (some ⟨K, 0, none⟩), .pointer (some ⟨K, 6, none⟩)] w fun e w' => e = .returned .nilIface ∧ Dsk w' B K v0 v1 x0 x1 s0 s1 1 (fz fu) (ct na) ns nc ∧ DStep w w' K v0 v1 v0 v1 := by
  have H : Hid (Dsk w B K v0 v1 x0 x1 s0 s1 1 fu na ns nc) := h
  have c4 := h.c4
  have c5 := h.c5
  have c6 := h.c6
  have f5 := h.fr 5
  have f6 := h.fr 6
  have bn := h.bn
  have hf0 : (fu == 0) = false := by simpa using hf
  clear h
  by_cases g1 : 0 < fu
  · have e1 : fz fu = fu - 1 := by unfold fz; rw [if_pos g1]
    by_cases g2 : na < 9007199254740992
    · have e2 : ct na = na + 1 := by unfold ct; rw [if_pos g2]
      rw [e1, e2]
      clear e1 e2
      go_enter Tryz.func78, Tryz.ntmps78
      go_wp2
      go_ret
      exact ⟨rfl, (H.out.set5 _ (by omega)).set6 _ (by omega), (H.out.stepSet _ _).trans ((H.out.set5 (fu - 1) (by omega)).stepSet _ _)⟩
    · have e2 : ct na = na := by unfold ct; rw [if_neg g2]
      rw [e1, e2]
      clear e1 e2
      go_enter Tryz.func78, Tryz.ntmps78
      go_wp2
      go_ret
      exact ⟨rfl, H.out.set5 _ (by omega), H.out.stepSet _ _⟩
  · have e1 : fz fu = fu := by unfold fz; rw [if_neg g1]
    by_cases g2 : na < 9007199254740992
    · have e2 : ct na = na + 1 := by unfold ct; rw [if_pos g2]
      rw [e1, e2]
      clear e1 e2
      go_enter Tryz.func78, Tryz.ntmps78
      go_wp2
      go_ret
      exact ⟨rfl, H.out.set6 _ (by omega), H.out.stepSet _ _⟩
    · have e2 : ct na = na := by unfold ct; rw [if_neg g2]
      rw [e1, e2]
      clear e1 e2
      go_enter Tryz.func78, Tryz.ntmps78
      go_wp2
      go_ret
      exact ⟨rfl, H.out, DStep.refl _ _ _ _⟩
set_option maxHeartbeats 1000000 in
theorem write7_ok {w : World} {B K : Nat} {v0 v1 : Value} {x0 x1 : List Int} {s0 s1 : Nat} {fu na ns nc : Int} (h : Dsk w B K v0 v1 x0 x1 s0 s1 1 fu na ns nc) (hf : fu ≠ 0) : Calls Tryz.prog 78 #[.pointer (some ⟨K, 0, none⟩), .pointer (some ⟨K, 7, none⟩)] w fun e w' => e = .returned .nilIface ∧ Dsk w' B K v0 v1 x0 x1 s0 s1 1 (fz fu) na (ct ns) nc ∧ DStep w w' K v0 v1 v0 v1 := by
  have H : Hid (Dsk w B K v0 v1 x0 x1 s0 s1 1 fu na ns nc) := h
  have c4 := h.c4
  have c5 := h.c5
  have c7 := h.c7
  have f5 := h.fr 5
  have f7 := h.fr 7
  have bn := h.bn
  have hf0 : (fu == 0) = false := by simpa using hf
  clear h
  by_cases g1 : 0 < fu
  · have e1 : fz fu = fu - 1 := by unfold fz; rw [if_pos g1]
    by_cases g2 : ns < 9007199254740992
    · have e2 : ct ns = ns + 1 := by unfold ct; rw [if_pos g2]
      rw [e1, e2]
      clear e1 e2
      go_enter Tryz.func78, Tryz.ntmps78
      go_wp2
      go_ret
      exact ⟨rfl, (H.out.set5 _ (by omega)).set7 _ (by omega), (H.out.stepSet _ _).trans ((H.out.set5 (fu - 1) (by omega)).stepSet _ _)⟩
    · have e2 : ct ns = ns := by unfold ct; rw [if_neg g2]
      rw [e1, e2]
      clear e1 e2
      go_enter Tryz.func78, Tryz.ntmps78
      go_wp2
      go_ret
      exact ⟨rfl, H.out.set5 _ (by omega), H.out.stepSet _ _⟩
  · have e1 : fz fu = fu := by unfold fz; rw [if_neg g1]
    by_cases g2 : ns < 9007199254740992
    · have e2 : ct ns = ns + 1 := by unfold ct; rw [if_pos g2]
      rw [e1, e2]
      clear e1 e2
      go_enter Tryz.func78, Tryz.ntmps78
      go_wp2
      go_ret
      exact ⟨rfl, H.out.set7 _ (by omega), H.out.stepSet _ _⟩
    · have e2 : ct ns = ns := by unfold ct; rw [if_neg g2]
      rw [e1, e2]
      clear e1 e2
      go_enter Tryz.func78, Tryz.ntmps78
      go_wp2
      go_ret
      exact ⟨rfl, H.out, DStep.refl _ _ _ _⟩
set_option maxHeartbeats 1000000 in
theorem write8_ok {w : World} {B K : Nat} {v0 v1 : Value} {x0 x1 : List Int} {s0 s1 : Nat} {fu na ns nc : Int} (h : Dsk w B K v0 v1 x0 x1 s0 s1 1 fu na ns nc) (hf : fu ≠ 0) : Calls Tryz.prog 78 #[.pointer (some ⟨K, 0, none⟩), .pointer (some ⟨K, 8, none⟩)] w fun e w' => e = .returned .nilIface ∧ Dsk w' B K v0 v1 x0 x1 s0 s1 1 (fz fu) na ns (ct nc) ∧ DStep w w' K v0 v1 v0 v1 := by
  have H : Hid (Dsk w B K v0 v1 x0 x1 s0 s1 1 fu na ns nc) := h
  have c4 := h.c4
  have c5 := h.c5
  have c8 := h.c8
  have f5 := h.fr 5
  have f8 := h.fr 8
  have bn := h.bn
  have hf0 : (fu == 0) = false := by simpa using hf
  clear h
  by_cases g1 : 0 < fu
  · have e1 : fz fu = fu - 1 := by unfold fz; rw [if_pos g1]
    by_cases g2 : nc < 9007199254740992
    · have e2 : ct nc = nc + 1 := by unfold ct; rw [if_pos g2]
      rw [e1, e2]
      clear e1 e2
      go_enter Tryz.func78, Tryz.ntmps78
      go_wp2
      go_ret
      exact ⟨rfl, (H.out.set5 _ (by omega)).set8 _ (by omega), (H.out.stepSet _ _).trans ((H.out.set5 (fu - 1) (by omega)).stepSet _ _)⟩
    · have e2 : ct nc = nc := by unfold ct; rw [if_neg g2]
      rw [e1, e2]
      clear e1 e2
      go_enter Tryz.func78, Tryz.ntmps78
      go_wp2
      go_ret
      exact ⟨rfl, H.out.set5 _ (by omega), H.out.stepSet _ _⟩
  · have e1 : fz fu = fu := by unfold fz; rw [if_neg g1]
    by_cases g2 : nc < 9007199254740992
    · have e2 : ct nc = nc + 1 := by unfold ct; rw [if_pos g2]
      rw [e1, e2]
      clear e1 e2
      go_enter Tryz.func78, Tryz.ntmps78
      go_wp2
      go_ret
      exact ⟨rfl, H.out.set8 _ (by omega), H.out.stepSet _ _⟩
    · have e2 : ct nc = nc := by unfold ct; rw [if_neg g2]
      rw [e1, e2]
      clear e1 e2
      go_enter Tryz.func78, Tryz.ntmps78
      go_wp2
      go_ret
      exact ⟨rfl, H.out, DStep.refl _ _ _ _⟩
set_option maxHeartbeats 1000000 in
theorem write_dead {w : World} {B K : Nat} {v0 v1 : Value} {x0 x1 : List Int} {s0 s1 : Nat} {st fu na ns nc : Int} (q : Nat) (h : Dsk w B K v0 v1 x0 x1 s0 s1 st fu na ns nc) (hst : st = 1 ∨ st = 2) (hd : st = 2 ∨ fu = 0) : Calls Tryz.prog 78 #[.pointer (some ⟨K, 0, none⟩), .pointer (some ⟨K, q, none⟩)] w fun e w' => ∃ b, e = .returned (.iface 86 (.pointer (some ⟨b, 0, none⟩))) ∧ FaultAt w' b 0 8 ∧ Dsk w' B K v0 v1 x0 x1 s0 s1 2 fu na ns nc ∧ DStep w w' K v0 v1 v0 v1 ∧ ¬ Foot K v0 v1 b := by
  have H : Hid (Dsk w B K v0 v1 x0 x1 s0 s1 st fu na ns nc) := h
  have c4 := h.c4
  have c5 := h.c5
  have f4 := h.fr 4
  have H2 : Hid (Dsk (w.setCell ⟨K, 4, none⟩ (.int .i64 2)) B K v0 v1 x0 x1 s0 s1 2 fu na ns nc) := h.set4 2 trivial
  have HT : Hid (DStep w (w.setCell ⟨K, 4, none⟩ (.int .i64 2)) K v0 v1 v0 v1) := h.stepSet _ _
  clear h
  have key : ∀ e w2, (e = Ending.returned (.iface 86 (.pointer (some ⟨(w.setCell ⟨K, 4, none⟩ (.int .i64 2)).heap.size, 0, none⟩))) ∧ FaultAt w2 (w.setCell ⟨K, 4, none⟩ (.int .i64 2)).heap.size 0 8 ∧ Below (w.setCell ⟨K, 4, none⟩ (.int .i64 2)).heap.size (w.setCell ⟨K, 4, none⟩ (.int .i64 2)) w2) →
      FaultAt w2 w.heap.size 0 8 ∧ Dsk w2 B K v0 v1 x0 x1 s0 s1 2 fu na ns nc ∧ DStep w w2 K v0 v1 v0 v1 ∧ ¬ Foot K v0 v1 w.heap.size := by
    rintro e w2 ⟨_, f2, b2⟩
    refine ⟨by simpa using f2, H2.out.below b2, HT.out.trans (.of_below _ _ _ b2), fun e => ?_⟩
    have := (H.out.foot_lt e).2
    omega
  have HKy : Hid (type_of% key) := key
  clear key
  rcases hst with rfl | rfl
  · obtain rfl : fu = 0 := by omega
    go_enter Tryz.func78, Tryz.ntmps78
    go_wp2_with fail
    refine (fault_any 0 8 _).mono ?_
    intro e w2 hp
    have HQ : Hid (FaultAt w2 w.heap.size 0 8 ∧ Dsk w2 B K v0 v1 x0 x1 s0 s1 2 0 na ns nc ∧ DStep w w2 K v0 v1 v0 v1 ∧ ¬ Foot K v0 v1 w.heap.size) := HKy.out e w2 hp
    obtain ⟨rfl, _, _⟩ := hp
    go_wp2_with fail
    go_ret
    exact ⟨_, rfl, HQ.out.1, HQ.out.2.1, HQ.out.2.2⟩
  · go_enter Tryz.func78, Tryz.ntmps78
    go_wp2_with fail
    refine (fault_any 0 8 _).mono ?_
    intro e w2 hp
    have HQ : Hid (FaultAt w2 w.heap.size 0 8 ∧ Dsk w2 B K v0 v1 x0 x1 s0 s1 2 fu na ns nc ∧ DStep w w2 K v0 v1 v0 v1 ∧ ¬ Foot K v0 v1 w.heap.size) := HKy.out e w2 hp
    obtain ⟨rfl, _, _⟩ := hp
    go_wp2_with fail
    go_ret
    exact ⟨_, rfl, HQ.out.1, HQ.out.2.1, HQ.out.2.2⟩
end Go.Proofs.YthnpckmgnompiaaGreatDoor
