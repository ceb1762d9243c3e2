/-
  One call at a pair of senders (the law's plays): both answer the same.
-/
import Derived.Test.YtnabpjfdpelejaaDoorSqSend
namespace Go.Proofs.YtnabpjfdpelejaaDoor
open Go.RowKit

/-- What a call at a pair answers. -/
def PlQ (W w : World) (x : Nat) (so : Option Nat) (r : Ending) (w' : World) : Prop := r = .returned (.bool true) ∧ (∃ n, PS w' x so n) ∧ Off (PF x so) w w' ∧ In W w' (PF x so)
set_option maxHeartbeats 2000000 in
theorem lplays_take {W w : World} {x s : Nat} {n : Int} (h : PS w x (some s) n) (hI : In W w (PF x (some s))) (of m e : Int) : Calls Tryd.prog 20 #[.pointer (some ⟨x, 0, none⟩), .agg #[.int .i64 1, .int .i64 of, .int .i64 m, .int .i64 e]] w fun r w' => PlQ W w x (some s) r w' := by
  have hU : Below w.heap.size w (w.alloc (.cells #[.int .i64 1, .int .i64 of, .int .i64 m, .int .i64 e] 47)) := (Below.refl _ _).alloc (Nat.le_refl _) _
  have hO := Box.new w #[.int .i64 1, .int .i64 of, .int .i64 m, .int .i64 e] 47
  obtain ⟨U, hUe⟩ : ∃ U, w.alloc (.cells #[.int .i64 1, .int .i64 of, .int .i64 m, .int .i64 e] 47) = U := ⟨_, rfl⟩
  have HUe : Hid (w.alloc (.cells #[.int .i64 1, .int .i64 of, .int .i64 m, .int .i64 e] 47) = U) := hUe
  rw [hUe] at hU hO
  have HU : Hid (PS U x (some s) n ∧ In W U (PF x (some s)) ∧ Below w.heap.size w U ∧ Box U w.heap.size #[.int .i64 1, .int .i64 of, .int .i64 m, .int .i64 e]) := ⟨h.below hU, hI.below hU, hU, hO⟩
  have hlt : x < w.heap.size := h.1.lt
  have HL : Hid (x < w.heap.size ∧ s < w.heap.size) := ⟨hlt, h.2.1.lt⟩
  have k0 : w.cell? ⟨x, 0, none⟩ = some (.pointer (some ⟨s, 0, none⟩)) := h.1.cell 0
  have k1 : w.cell? ⟨x, 1, none⟩ = some (.bool true) := h.1.cell 1
  have k2 : w.cell? ⟨x, 2, none⟩ = some (.int .i64 n) := h.1.cell 2
  clear h hI hU hO hUe
  go_enter Tryd.func20, Tryd.ntmps20
  go_wp2_with fail
  rw [HUe.out]
  have HP : Hid (∀ y, Below U.heap.size U y → Calls Tryd.prog 10 #[.pointer (some ⟨s, 0, none⟩)] y fun r w1 => ∃ ev, r = .returned (.tuple #[.int .i64 n, ev]) ∧ Hid (Ev w1 U.heap.size ev (takeC n) ∧ Snd w1 s (takeS n) ∧ Off (fun k => k = s) U w1 ∧ Box w1 x #[.pointer (some ⟨s, 0, none⟩), .bool true, .int .i64 n] ∧ Box w1 w.heap.size #[.int .i64 1, .int .i64 of, .int .i64 m, .int .i64 e])) := fun y hb => by
    have hy : Snd y s n := HU.out.1.2.1.off (P := fun _ => False) (Off.of_below hb) id
    refine (pTake hy).mono ?_
    rintro _ w1 ⟨ev, rfl, hq0⟩
    have hq : Ev w1 U.heap.size ev (takeC n) ∧ Snd w1 s (takeS n) ∧ Off (fun k => k = s) U w1 := ⟨hq0.1.mono hb.size, hq0.2.1, (Off.of_below hb).trans hq0.2.2⟩
    exact ⟨ev, rfl, ⟨hq.1, hq.2.1, hq.2.2, HU.out.1.1.off hq.2.2 (Ne.symm HU.out.1.2.2), HU.out.2.2.2.off hq.2.2 (fun g => by have := HL.out.2; omega)⟩⟩
  refine (HP.out _ (Below.refl _ _)).mono ?_
  rintro _ w1 ⟨ev, rfl, H1⟩
  have hk := H1.out.2.2.2.1.cell
  have hc := H1.out.2.2.2.2.cell
  clear k0 k1 k2 HP
  go_wp2_with fail
  have HR : Hid (∀ y, Below w1.heap.size w1 y → Calls Tryd.prog 39 #[.pointer (some ⟨x, 1, none⟩)] y fun r w2 => r = .returned (.tuple #[.int .i64 n, .int .i64 (takeC n)]) ∧ Hid (Ev w2 U.heap.size ev (takeC n) ∧ PS w2 x (some s) (takeS n) ∧ Off (PF x (some s)) w w2 ∧ In W w2 (PF x (some s)) ∧ Box w2 w.heap.size #[.int .i64 1, .int .i64 of, .int .i64 m, .int .i64 e])) := fun y hb => by
    have hy : Box y x #[.pointer (some ⟨s, 0, none⟩), .bool true, .int .i64 n] := H1.out.2.2.2.1.below hb
    refine (rTake_any hy HU.out.1.2.1.ok).mono ?_
    rintro _ w2 ⟨rfl, hq0⟩
    have hq : Off (fun k => k = x) w1 w2 := (Off.of_below hb).trans hq0.2
    have o1 : Off (PF x (some s)) U w2 := (H1.out.2.2.1.mono (fun k g => Or.inr (by rw [g]))).trans (hq.mono (fun k g => Or.inl g))
    exact ⟨rfl, H1.out.1.off hq (fun k g => by have := HL.out.1; have := HU.out.2.2.1.size; omega), ⟨hq0.1, H1.out.2.1.off hq HU.out.1.2.2, HU.out.1.2.2⟩, (Off.of_below HU.out.2.2.1).trans o1, HU.out.2.1.off o1 HU.out.2.1.ge, H1.out.2.2.2.2.off hq (fun g => by have := HL.out.1; omega)⟩
  refine (HR.out _ (Below.refl _ _)).mono ?_
  rintro _ w2 ⟨rfl, H3⟩
  clear HR hk hc
  go_wp2_with fail
  refine (code_any (w := w2) H3.out.1 H3.out.2.2.2.1.here.err).mono ?_
  rintro _ w3 ⟨rfl, hb⟩
  have HB : Hid (Below w2.heap.size w2 w3) := hb
  clear hb
  go_wp2_with fail
  refine (num_any _ _).mono ?_
  rintro _ _ ⟨rfl, rfl⟩
  go_wp2_with fail
  go_ret
  exact ⟨by simp, ⟨_, H3.out.2.1.below HB.out⟩, H3.out.2.2.1.trans (Off.of_below HB.out), H3.out.2.2.2.1.below HB.out⟩
set_option maxHeartbeats 2000000 in
theorem lplays_back {W w : World} {x s : Nat} {n : Int} (h : PS w x (some s) n) (hI : In W w (PF x (some s))) (of m e : Int) : Calls Tryd.prog 20 #[.pointer (some ⟨x, 0, none⟩), .agg #[.int .i64 2, .int .i64 of, .int .i64 m, .int .i64 e]] w fun r w' => PlQ W w x (some s) r w' := by
  have hU : Below w.heap.size w (w.alloc (.cells #[.int .i64 2, .int .i64 of, .int .i64 m, .int .i64 e] 47)) := (Below.refl _ _).alloc (Nat.le_refl _) _
  have hO := Box.new w #[.int .i64 2, .int .i64 of, .int .i64 m, .int .i64 e] 47
  obtain ⟨U, hUe⟩ : ∃ U, w.alloc (.cells #[.int .i64 2, .int .i64 of, .int .i64 m, .int .i64 e] 47) = U := ⟨_, rfl⟩
  have HUe : Hid (w.alloc (.cells #[.int .i64 2, .int .i64 of, .int .i64 m, .int .i64 e] 47) = U) := hUe
  rw [hUe] at hU hO
  have HU : Hid (PS U x (some s) n ∧ In W U (PF x (some s)) ∧ Below w.heap.size w U ∧ Box U w.heap.size #[.int .i64 2, .int .i64 of, .int .i64 m, .int .i64 e]) := ⟨h.below hU, hI.below hU, hU, hO⟩
  have hlt : x < w.heap.size := h.1.lt
  have HL : Hid (x < w.heap.size ∧ s < w.heap.size) := ⟨hlt, h.2.1.lt⟩
  have k0 : w.cell? ⟨x, 0, none⟩ = some (.pointer (some ⟨s, 0, none⟩)) := h.1.cell 0
  have k1 : w.cell? ⟨x, 1, none⟩ = some (.bool true) := h.1.cell 1
  have k2 : w.cell? ⟨x, 2, none⟩ = some (.int .i64 n) := h.1.cell 2
  clear h hI hU hO hUe
  go_enter Tryd.func20, Tryd.ntmps20
  go_wp2_with fail
  rw [HUe.out]
  have HP : Hid (∀ y, Below U.heap.size U y → Calls Tryd.prog 22 #[.pointer (some ⟨s, 0, none⟩), .int .i64 m, .int .i64 e] y fun r w1 => ∃ ev, r = .returned (.tuple #[.int .i64 (backV m e), ev]) ∧ Hid (Ev w1 U.heap.size ev (backC m e) ∧ Snd w1 s (backS n m e) ∧ Off (fun k => k = s) U w1 ∧ Box w1 x #[.pointer (some ⟨s, 0, none⟩), .bool true, .int .i64 n] ∧ Box w1 w.heap.size #[.int .i64 2, .int .i64 of, .int .i64 m, .int .i64 e])) := fun y hb => by
    have hy : Snd y s n := HU.out.1.2.1.off (P := fun _ => False) (Off.of_below hb) id
    refine (pBack hy m e).mono ?_
    rintro _ w1 ⟨ev, rfl, hq0⟩
    have hq : Ev w1 U.heap.size ev (backC m e) ∧ Snd w1 s (backS n m e) ∧ Off (fun k => k = s) U w1 := ⟨hq0.1.mono hb.size, hq0.2.1, (Off.of_below hb).trans hq0.2.2⟩
    exact ⟨ev, rfl, ⟨hq.1, hq.2.1, hq.2.2, HU.out.1.1.off hq.2.2 (Ne.symm HU.out.1.2.2), HU.out.2.2.2.off hq.2.2 (fun g => by have := HL.out.2; omega)⟩⟩
  have b0 : U.cell? ⟨x, 0, none⟩ = some (.pointer (some ⟨s, 0, none⟩)) := HU.out.1.1.cell 0
  have b2 : U.cell? ⟨w.heap.size, 2, none⟩ = some (.int .i64 m) := HU.out.2.2.2.cell 2
  have b3 : U.cell? ⟨w.heap.size, 3, none⟩ = some (.int .i64 e) := HU.out.2.2.2.cell 3
  clear k0 k1 k2
  go_region_held3 (fun y => y.cell? ⟨x, 0, none⟩ = some (.pointer (some ⟨s, 0, none⟩)) ∧ y.cell? ⟨w.heap.size, 2, none⟩ = some (.int .i64 m) ∧ y.cell? ⟨w.heap.size, 3, none⟩ = some (.int .i64 e)) (simp [*]) (first | (go_at_call 22; refine (HP.out _ ?_).mono ?_; (first | exact Below.refl _ _ | exact Below.drew (Below.refl _ _) | assumption | exact Below.drew (by assumption)); rintro _ w1 ⟨ev, rfl, H1⟩; have c0 : w1.cell? ⟨x, 0, none⟩ = some (.pointer (some ⟨s, 0, none⟩)) := (H1.out.2.2.2.1.cell 0); have c2 : w1.cell? ⟨w.heap.size, 2, none⟩ = some (.int .i64 m) := (H1.out.2.2.2.2.cell 2); have c3 : w1.cell? ⟨w.heap.size, 3, none⟩ = some (.int .i64 e) := (H1.out.2.2.2.2.cell 3); skip))
  clear b0 HP b2 b3
  go_wp2_with fail
  have HR : Hid (∀ y, Below w1.heap.size w1 y → Calls Tryd.prog 40 #[.pointer (some ⟨x, 1, none⟩), .int .i64 m, .int .i64 e] y fun r w2 => r = .returned (.tuple #[.int .i64 (backV m e), .int .i64 (backC m e)]) ∧ Hid (Ev w2 U.heap.size ev (backC m e) ∧ PS w2 x (some s) (backS n m e) ∧ Off (PF x (some s)) w w2 ∧ In W w2 (PF x (some s)) ∧ Box w2 w.heap.size #[.int .i64 2, .int .i64 of, .int .i64 m, .int .i64 e])) := fun y hb => by
    have hy : Box y x #[.pointer (some ⟨s, 0, none⟩), .bool true, .int .i64 n] := H1.out.2.2.2.1.below hb
    refine (rBack_any hy m e).mono ?_
    rintro _ w2 ⟨rfl, hq0⟩
    have hq : Off (fun k => k = x) w1 w2 := (Off.of_below hb).trans hq0.2
    have o1 : Off (PF x (some s)) U w2 := (H1.out.2.2.1.mono (fun k g => Or.inr (by rw [g]))).trans (hq.mono (fun k g => Or.inl g))
    exact ⟨rfl, H1.out.1.off hq (fun k g => by have := HL.out.1; have := HU.out.2.2.1.size; omega), ⟨hq0.1, H1.out.2.1.off hq HU.out.1.2.2, HU.out.1.2.2⟩, (Off.of_below HU.out.2.2.1).trans o1, HU.out.2.1.off o1 HU.out.2.1.ge, H1.out.2.2.2.2.off hq (fun g => by have := HL.out.1; omega)⟩
  go_region_held3 (fun y => y.cell? ⟨w.heap.size, 2, none⟩ = some (.int .i64 m) ∧ y.cell? ⟨w.heap.size, 3, none⟩ = some (.int .i64 e)) (simp [*]) (first | (go_at_call 40; refine (HR.out _ ?_).mono ?_; (first | exact Below.refl _ _ | exact Below.drew (Below.refl _ _) | assumption | exact Below.drew (by assumption)); rintro _ w2 ⟨rfl, H3⟩; have d2 : w2.cell? ⟨w.heap.size, 2, none⟩ = some (.int .i64 m) := (H3.out.2.2.2.2.cell 2); have d3 : w2.cell? ⟨w.heap.size, 3, none⟩ = some (.int .i64 e) := (H3.out.2.2.2.2.cell 3); skip))
  clear HR c0 c2 d2 c3 d3
  go_wp2_with fail
  refine (code_any (w := w2) H3.out.1 H3.out.2.2.2.1.here.err).mono ?_
  rintro _ w3 ⟨rfl, hb⟩
  have HB : Hid (Below w2.heap.size w2 w3) := hb
  clear hb
  go_wp2_with fail
  refine (num_any _ _).mono ?_
  rintro _ _ ⟨rfl, rfl⟩
  go_wp2_with fail
  go_ret
  exact ⟨by simp, ⟨_, H3.out.2.1.below HB.out⟩, H3.out.2.2.1.trans (Off.of_below HB.out), H3.out.2.2.2.1.below HB.out⟩
set_option maxHeartbeats 2000000 in
theorem lplays_set {W w : World} {x s : Nat} {n : Int} (h : PS w x (some s) n) (hI : In W w (PF x (some s))) (of m e : Int) : Calls Tryd.prog 20 #[.pointer (some ⟨x, 0, none⟩), .agg #[.int .i64 3, .int .i64 of, .int .i64 m, .int .i64 e]] w fun r w' => PlQ W w x (some s) r w' := by
  have hU : Below w.heap.size w (w.alloc (.cells #[.int .i64 3, .int .i64 of, .int .i64 m, .int .i64 e] 47)) := (Below.refl _ _).alloc (Nat.le_refl _) _
  have hO := Box.new w #[.int .i64 3, .int .i64 of, .int .i64 m, .int .i64 e] 47
  obtain ⟨U, hUe⟩ : ∃ U, w.alloc (.cells #[.int .i64 3, .int .i64 of, .int .i64 m, .int .i64 e] 47) = U := ⟨_, rfl⟩
  have HUe : Hid (w.alloc (.cells #[.int .i64 3, .int .i64 of, .int .i64 m, .int .i64 e] 47) = U) := hUe
  rw [hUe] at hU hO
  have HU : Hid (PS U x (some s) n ∧ In W U (PF x (some s)) ∧ Below w.heap.size w U ∧ Box U w.heap.size #[.int .i64 3, .int .i64 of, .int .i64 m, .int .i64 e]) := ⟨h.below hU, hI.below hU, hU, hO⟩
  have hlt : x < w.heap.size := h.1.lt
  have HL : Hid (x < w.heap.size ∧ s < w.heap.size) := ⟨hlt, h.2.1.lt⟩
  have k0 : w.cell? ⟨x, 0, none⟩ = some (.pointer (some ⟨s, 0, none⟩)) := h.1.cell 0
  have k1 : w.cell? ⟨x, 1, none⟩ = some (.bool true) := h.1.cell 1
  have k2 : w.cell? ⟨x, 2, none⟩ = some (.int .i64 n) := h.1.cell 2
  clear h hI hU hO hUe
  go_enter Tryd.func20, Tryd.ntmps20
  go_wp2_with fail
  rw [HUe.out]
  have HP : Hid (∀ y, Below U.heap.size U y → Calls Tryd.prog 23 #[.pointer (some ⟨s, 0, none⟩), .int .i64 m] y fun r w1 => ∃ ev, r = .returned (ev) ∧ Hid (Ev w1 U.heap.size ev (newC m) ∧ Snd w1 s (setS n m) ∧ Off (fun k => k = s) U w1 ∧ Box w1 x #[.pointer (some ⟨s, 0, none⟩), .bool true, .int .i64 n] ∧ Box w1 w.heap.size #[.int .i64 3, .int .i64 of, .int .i64 m, .int .i64 e])) := fun y hb => by
    have hy : Snd y s n := HU.out.1.2.1.off (P := fun _ => False) (Off.of_below hb) id
    refine (pSet hy m).mono ?_
    rintro _ w1 ⟨ev, rfl, hq0⟩
    have hq : Ev w1 U.heap.size ev (newC m) ∧ Snd w1 s (setS n m) ∧ Off (fun k => k = s) U w1 := ⟨hq0.1.mono hb.size, hq0.2.1, (Off.of_below hb).trans hq0.2.2⟩
    exact ⟨ev, rfl, ⟨hq.1, hq.2.1, hq.2.2, HU.out.1.1.off hq.2.2 (Ne.symm HU.out.1.2.2), HU.out.2.2.2.off hq.2.2 (fun g => by have := HL.out.2; omega)⟩⟩
  have b0 : U.cell? ⟨x, 0, none⟩ = some (.pointer (some ⟨s, 0, none⟩)) := HU.out.1.1.cell 0
  have b2 : U.cell? ⟨w.heap.size, 2, none⟩ = some (.int .i64 m) := HU.out.2.2.2.cell 2
  clear k0 k1 k2
  go_region_held3 (fun y => y.cell? ⟨x, 0, none⟩ = some (.pointer (some ⟨s, 0, none⟩)) ∧ y.cell? ⟨w.heap.size, 2, none⟩ = some (.int .i64 m)) (simp [*]) (first | (go_at_call 23; refine (HP.out _ ?_).mono ?_; (first | exact Below.refl _ _ | exact Below.drew (Below.refl _ _) | assumption | exact Below.drew (by assumption)); rintro _ w1 ⟨ev, rfl, H1⟩; have c0 : w1.cell? ⟨x, 0, none⟩ = some (.pointer (some ⟨s, 0, none⟩)) := (H1.out.2.2.2.1.cell 0); have c2 : w1.cell? ⟨w.heap.size, 2, none⟩ = some (.int .i64 m) := (H1.out.2.2.2.2.cell 2); skip))
  clear b0 HP b2
  go_wp2_with fail
  have HR : Hid (∀ y, Below w1.heap.size w1 y → Calls Tryd.prog 41 #[.pointer (some ⟨x, 1, none⟩), .int .i64 m] y fun r w2 => r = .returned (.int .i64 (newC m)) ∧ Hid (Ev w2 U.heap.size ev (newC m) ∧ PS w2 x (some s) (setS n m) ∧ Off (PF x (some s)) w w2 ∧ In W w2 (PF x (some s)) ∧ Box w2 w.heap.size #[.int .i64 3, .int .i64 of, .int .i64 m, .int .i64 e])) := fun y hb => by
    have hy : Box y x #[.pointer (some ⟨s, 0, none⟩), .bool true, .int .i64 n] := H1.out.2.2.2.1.below hb
    refine (rSet_any hy m).mono ?_
    rintro _ w2 ⟨rfl, hq0⟩
    have hq : Off (fun k => k = x) w1 w2 := (Off.of_below hb).trans hq0.2
    have o1 : Off (PF x (some s)) U w2 := (H1.out.2.2.1.mono (fun k g => Or.inr (by rw [g]))).trans (hq.mono (fun k g => Or.inl g))
    exact ⟨rfl, H1.out.1.off hq (fun k g => by have := HL.out.1; have := HU.out.2.2.1.size; omega), ⟨hq0.1, H1.out.2.1.off hq HU.out.1.2.2, HU.out.1.2.2⟩, (Off.of_below HU.out.2.2.1).trans o1, HU.out.2.1.off o1 HU.out.2.1.ge, H1.out.2.2.2.2.off hq (fun g => by have := HL.out.1; omega)⟩
  go_region_held3 (fun y => y.cell? ⟨w.heap.size, 2, none⟩ = some (.int .i64 m)) (simp [*]) (first | (go_at_call 41; refine (HR.out _ ?_).mono ?_; (first | exact Below.refl _ _ | exact Below.drew (Below.refl _ _) | assumption | exact Below.drew (by assumption)); rintro _ w2 ⟨rfl, H3⟩; have d2 : w2.cell? ⟨w.heap.size, 2, none⟩ = some (.int .i64 m) := (H3.out.2.2.2.2.cell 2); skip))
  clear HR c0 c2 d2
  go_wp2_with fail
  refine (code_any (w := w2) H3.out.1 H3.out.2.2.2.1.here.err).mono ?_
  rintro _ w3 ⟨rfl, hb⟩
  have HB : Hid (Below w2.heap.size w2 w3) := hb
  clear hb
  go_wp2_with fail
  refine (num_any _ _).mono ?_
  rintro _ _ ⟨rfl, rfl⟩
  go_wp2_with fail
  go_ret
  exact ⟨by simp, ⟨_, H3.out.2.1.below HB.out⟩, H3.out.2.2.1.trans (Off.of_below HB.out), H3.out.2.2.2.1.below HB.out⟩
set_option maxHeartbeats 2000000 in
theorem lplays_no_take {W w : World} {x : Nat} {n : Int} (h : PS w x none n) (hI : In W w (PF x none)) (of m e : Int) : Calls Tryd.prog 20 #[.pointer (some ⟨x, 0, none⟩), .agg #[.int .i64 1, .int .i64 of, .int .i64 m, .int .i64 e]] w fun r w' => PlQ W w x none r w' := by
  have hU : Below w.heap.size w (w.alloc (.cells #[.int .i64 1, .int .i64 of, .int .i64 m, .int .i64 e] 47)) := (Below.refl _ _).alloc (Nat.le_refl _) _
  have hO := Box.new w #[.int .i64 1, .int .i64 of, .int .i64 m, .int .i64 e] 47
  obtain ⟨U, hUe⟩ : ∃ U, w.alloc (.cells #[.int .i64 1, .int .i64 of, .int .i64 m, .int .i64 e] 47) = U := ⟨_, rfl⟩
  have HUe : Hid (w.alloc (.cells #[.int .i64 1, .int .i64 of, .int .i64 m, .int .i64 e] 47) = U) := hUe
  rw [hUe] at hU hO
  have HU : Hid (PS U x none n ∧ In W U (PF x none) ∧ Below w.heap.size w U ∧ Box U w.heap.size #[.int .i64 1, .int .i64 of, .int .i64 m, .int .i64 e]) := ⟨h.below hU, hI.below hU, hU, hO⟩
  have hlt : x < w.heap.size := h.1.lt
  have k0 : w.cell? ⟨x, 0, none⟩ = some (.pointer none) := h.1.cell 0
  have k1 : w.cell? ⟨x, 1, none⟩ = some (.bool false) := h.1.cell 1
  have k2 : w.cell? ⟨x, 2, none⟩ = some (.int .i64 n) := h.1.cell 2
  have hn0 : n = 0 := h.2
  subst hn0
  clear h hI hU hO hUe
  go_enter Tryd.func20, Tryd.ntmps20
  go_wp2_with fail
  rw [HUe.out]
  have HP : Hid (∀ y, Below U.heap.size U y → Calls Tryd.prog 10 #[.pointer none] y fun r w1 => ∃ ev, r = .returned (.tuple #[.int .i64 0, ev]) ∧ Hid (Ev w1 U.heap.size ev 3 ∧ Below U.heap.size U w1 ∧ Box w1 x #[.pointer none, .bool false, .int .i64 0] ∧ Box w1 w.heap.size #[.int .i64 1, .int .i64 of, .int .i64 m, .int .i64 e])) := fun y hb => by
    refine (pTake_no (Or.inl rfl)).mono ?_
    rintro _ w1 ⟨ev, rfl, hev, hb1⟩
    exact ⟨ev, rfl, hev.mono hb.size, below_then hb hb1, HU.out.1.1.below (below_then hb hb1), HU.out.2.2.2.below (below_then hb hb1)⟩
  refine (HP.out _ (Below.refl _ _)).mono ?_
  rintro _ w1 ⟨ev, rfl, H1⟩
  have hk := H1.out.2.2.1.cell
  have hc := H1.out.2.2.2.cell
  clear k0 k1 k2 HP
  go_wp2_with fail
  have HR : Hid (∀ y, Below w1.heap.size w1 y → Calls Tryd.prog 39 #[.pointer (some ⟨x, 1, none⟩)] y fun r w2 => r = .returned (.tuple #[.int .i64 0, .int .i64 3]) ∧ Hid (Ev w2 U.heap.size ev 3 ∧ PS w2 x none 0 ∧ Off (PF x none) w w2 ∧ In W w2 (PF x none) ∧ Box w2 w.heap.size #[.int .i64 1, .int .i64 of, .int .i64 m, .int .i64 e])) := fun y hb => by
    have hy : Box y x #[.pointer none, .bool false, .int .i64 0] := H1.out.2.2.1.below hb
    refine (rTake_no hy).mono ?_
    rintro _ w2 ⟨rfl, hw⟩
    subst w2
    have hb2 := below_then H1.out.2.1 hb
    exact ⟨rfl, H1.out.1.below hb, HU.out.1.below hb2, (Off.of_below HU.out.2.2.1).trans (Off.of_below hb2), HU.out.2.1.below hb2, HU.out.2.2.2.below hb2⟩
  refine (HR.out _ (Below.refl _ _)).mono ?_
  rintro _ w2 ⟨rfl, H3⟩
  clear HR hk hc
  go_wp2_with fail
  refine (code_any (w := w2) H3.out.1 H3.out.2.2.2.1.here.err).mono ?_
  rintro _ w3 ⟨rfl, hb⟩
  have HB : Hid (Below w2.heap.size w2 w3) := hb
  clear hb
  go_wp2_with fail
  refine (num_any _ _).mono ?_
  rintro _ _ ⟨rfl, rfl⟩
  go_wp2_with fail
  go_ret
  exact ⟨by simp, ⟨_, H3.out.2.1.below HB.out⟩, H3.out.2.2.1.trans (Off.of_below HB.out), H3.out.2.2.2.1.below HB.out⟩
set_option maxHeartbeats 2000000 in
theorem lplays_no_back {W w : World} {x : Nat} {n : Int} (h : PS w x none n) (hI : In W w (PF x none)) (of m e : Int) : Calls Tryd.prog 20 #[.pointer (some ⟨x, 0, none⟩), .agg #[.int .i64 2, .int .i64 of, .int .i64 m, .int .i64 e]] w fun r w' => PlQ W w x none r w' := by
  have hU : Below w.heap.size w (w.alloc (.cells #[.int .i64 2, .int .i64 of, .int .i64 m, .int .i64 e] 47)) := (Below.refl _ _).alloc (Nat.le_refl _) _
  have hO := Box.new w #[.int .i64 2, .int .i64 of, .int .i64 m, .int .i64 e] 47
  obtain ⟨U, hUe⟩ : ∃ U, w.alloc (.cells #[.int .i64 2, .int .i64 of, .int .i64 m, .int .i64 e] 47) = U := ⟨_, rfl⟩
  have HUe : Hid (w.alloc (.cells #[.int .i64 2, .int .i64 of, .int .i64 m, .int .i64 e] 47) = U) := hUe
  rw [hUe] at hU hO
  have HU : Hid (PS U x none n ∧ In W U (PF x none) ∧ Below w.heap.size w U ∧ Box U w.heap.size #[.int .i64 2, .int .i64 of, .int .i64 m, .int .i64 e]) := ⟨h.below hU, hI.below hU, hU, hO⟩
  have hlt : x < w.heap.size := h.1.lt
  have k0 : w.cell? ⟨x, 0, none⟩ = some (.pointer none) := h.1.cell 0
  have k1 : w.cell? ⟨x, 1, none⟩ = some (.bool false) := h.1.cell 1
  have k2 : w.cell? ⟨x, 2, none⟩ = some (.int .i64 n) := h.1.cell 2
  have hn0 : n = 0 := h.2
  subst hn0
  clear h hI hU hO hUe
  go_enter Tryd.func20, Tryd.ntmps20
  go_wp2_with fail
  rw [HUe.out]
  have HP : Hid (∀ y, Below U.heap.size U y → Calls Tryd.prog 22 #[.pointer none, .int .i64 m, .int .i64 e] y fun r w1 => ∃ ev, r = .returned (.tuple #[.int .i64 0, ev]) ∧ Hid (Ev w1 U.heap.size ev 3 ∧ Below U.heap.size U w1 ∧ Box w1 x #[.pointer none, .bool false, .int .i64 0] ∧ Box w1 w.heap.size #[.int .i64 2, .int .i64 of, .int .i64 m, .int .i64 e])) := fun y hb => by
    refine (pBack_no (Or.inl rfl) m e).mono ?_
    rintro _ w1 ⟨ev, rfl, hev, hb1⟩
    exact ⟨ev, rfl, hev.mono hb.size, below_then hb hb1, HU.out.1.1.below (below_then hb hb1), HU.out.2.2.2.below (below_then hb hb1)⟩
  have b0 : U.cell? ⟨x, 0, none⟩ = some (.pointer none) := HU.out.1.1.cell 0
  have b2 : U.cell? ⟨w.heap.size, 2, none⟩ = some (.int .i64 m) := HU.out.2.2.2.cell 2
  have b3 : U.cell? ⟨w.heap.size, 3, none⟩ = some (.int .i64 e) := HU.out.2.2.2.cell 3
  clear k0 k1 k2
  go_region_held3 (fun y => y.cell? ⟨x, 0, none⟩ = some (.pointer none) ∧ y.cell? ⟨w.heap.size, 2, none⟩ = some (.int .i64 m) ∧ y.cell? ⟨w.heap.size, 3, none⟩ = some (.int .i64 e)) (simp [*]) (first | (go_at_call 22; refine (HP.out _ ?_).mono ?_; (first | exact Below.refl _ _ | exact Below.drew (Below.refl _ _) | assumption | exact Below.drew (by assumption)); rintro _ w1 ⟨ev, rfl, H1⟩; have c0 : w1.cell? ⟨x, 0, none⟩ = some (.pointer none) := (H1.out.2.2.1.cell 0); have c2 : w1.cell? ⟨w.heap.size, 2, none⟩ = some (.int .i64 m) := (H1.out.2.2.2.cell 2); have c3 : w1.cell? ⟨w.heap.size, 3, none⟩ = some (.int .i64 e) := (H1.out.2.2.2.cell 3); skip))
  clear b0 HP b2 b3
  go_wp2_with fail
  have HR : Hid (∀ y, Below w1.heap.size w1 y → Calls Tryd.prog 40 #[.pointer (some ⟨x, 1, none⟩), .int .i64 m, .int .i64 e] y fun r w2 => r = .returned (.tuple #[.int .i64 0, .int .i64 3]) ∧ Hid (Ev w2 U.heap.size ev 3 ∧ PS w2 x none 0 ∧ Off (PF x none) w w2 ∧ In W w2 (PF x none) ∧ Box w2 w.heap.size #[.int .i64 2, .int .i64 of, .int .i64 m, .int .i64 e])) := fun y hb => by
    have hy : Box y x #[.pointer none, .bool false, .int .i64 0] := H1.out.2.2.1.below hb
    refine (rBack_no hy m e).mono ?_
    rintro _ w2 ⟨rfl, hw⟩
    subst w2
    have hb2 := below_then H1.out.2.1 hb
    exact ⟨rfl, H1.out.1.below hb, HU.out.1.below hb2, (Off.of_below HU.out.2.2.1).trans (Off.of_below hb2), HU.out.2.1.below hb2, HU.out.2.2.2.below hb2⟩
  go_region_held3 (fun y => y.cell? ⟨w.heap.size, 2, none⟩ = some (.int .i64 m) ∧ y.cell? ⟨w.heap.size, 3, none⟩ = some (.int .i64 e)) (simp [*]) (first | (go_at_call 40; refine (HR.out _ ?_).mono ?_; (first | exact Below.refl _ _ | exact Below.drew (Below.refl _ _) | assumption | exact Below.drew (by assumption)); rintro _ w2 ⟨rfl, H3⟩; have d2 : w2.cell? ⟨w.heap.size, 2, none⟩ = some (.int .i64 m) := (H3.out.2.2.2.2.cell 2); have d3 : w2.cell? ⟨w.heap.size, 3, none⟩ = some (.int .i64 e) := (H3.out.2.2.2.2.cell 3); skip))
  clear HR c0 c2 d2 c3 d3
  go_wp2_with fail
  refine (code_any (w := w2) H3.out.1 H3.out.2.2.2.1.here.err).mono ?_
  rintro _ w3 ⟨rfl, hb⟩
  have HB : Hid (Below w2.heap.size w2 w3) := hb
  clear hb
  go_wp2_with fail
  refine (num_any _ _).mono ?_
  rintro _ _ ⟨rfl, rfl⟩
  go_wp2_with fail
  go_ret
  exact ⟨by simp, ⟨_, H3.out.2.1.below HB.out⟩, H3.out.2.2.1.trans (Off.of_below HB.out), H3.out.2.2.2.1.below HB.out⟩
set_option maxHeartbeats 2000000 in
theorem lplays_no_set {W w : World} {x : Nat} {n : Int} (h : PS w x none n) (hI : In W w (PF x none)) (of m e : Int) : Calls Tryd.prog 20 #[.pointer (some ⟨x, 0, none⟩), .agg #[.int .i64 3, .int .i64 of, .int .i64 m, .int .i64 e]] w fun r w' => PlQ W w x none r w' := by
  have hU : Below w.heap.size w (w.alloc (.cells #[.int .i64 3, .int .i64 of, .int .i64 m, .int .i64 e] 47)) := (Below.refl _ _).alloc (Nat.le_refl _) _
  have hO := Box.new w #[.int .i64 3, .int .i64 of, .int .i64 m, .int .i64 e] 47
  obtain ⟨U, hUe⟩ : ∃ U, w.alloc (.cells #[.int .i64 3, .int .i64 of, .int .i64 m, .int .i64 e] 47) = U := ⟨_, rfl⟩
  have HUe : Hid (w.alloc (.cells #[.int .i64 3, .int .i64 of, .int .i64 m, .int .i64 e] 47) = U) := hUe
  rw [hUe] at hU hO
  have HU : Hid (PS U x none n ∧ In W U (PF x none) ∧ Below w.heap.size w U ∧ Box U w.heap.size #[.int .i64 3, .int .i64 of, .int .i64 m, .int .i64 e]) := ⟨h.below hU, hI.below hU, hU, hO⟩
  have hlt : x < w.heap.size := h.1.lt
  have k0 : w.cell? ⟨x, 0, none⟩ = some (.pointer none) := h.1.cell 0
  have k1 : w.cell? ⟨x, 1, none⟩ = some (.bool false) := h.1.cell 1
  have k2 : w.cell? ⟨x, 2, none⟩ = some (.int .i64 n) := h.1.cell 2
  have hn0 : n = 0 := h.2
  subst hn0
  clear h hI hU hO hUe
  go_enter Tryd.func20, Tryd.ntmps20
  go_wp2_with fail
  rw [HUe.out]
  have HP : Hid (∀ y, Below U.heap.size U y → Calls Tryd.prog 23 #[.pointer none, .int .i64 m] y fun r w1 => ∃ ev, r = .returned (ev) ∧ Hid (Ev w1 U.heap.size ev 3 ∧ Below U.heap.size U w1 ∧ Box w1 x #[.pointer none, .bool false, .int .i64 0] ∧ Box w1 w.heap.size #[.int .i64 3, .int .i64 of, .int .i64 m, .int .i64 e])) := fun y hb => by
    refine (pSet_no (Or.inl rfl) m).mono ?_
    rintro _ w1 ⟨ev, rfl, hev, hb1⟩
    exact ⟨ev, rfl, hev.mono hb.size, below_then hb hb1, HU.out.1.1.below (below_then hb hb1), HU.out.2.2.2.below (below_then hb hb1)⟩
  have b0 : U.cell? ⟨x, 0, none⟩ = some (.pointer none) := HU.out.1.1.cell 0
  have b2 : U.cell? ⟨w.heap.size, 2, none⟩ = some (.int .i64 m) := HU.out.2.2.2.cell 2
  clear k0 k1 k2
  go_region_held3 (fun y => y.cell? ⟨x, 0, none⟩ = some (.pointer none) ∧ y.cell? ⟨w.heap.size, 2, none⟩ = some (.int .i64 m)) (simp [*]) (first | (go_at_call 23; refine (HP.out _ ?_).mono ?_; (first | exact Below.refl _ _ | exact Below.drew (Below.refl _ _) | assumption | exact Below.drew (by assumption)); rintro _ w1 ⟨ev, rfl, H1⟩; have c0 : w1.cell? ⟨x, 0, none⟩ = some (.pointer none) := (H1.out.2.2.1.cell 0); have c2 : w1.cell? ⟨w.heap.size, 2, none⟩ = some (.int .i64 m) := (H1.out.2.2.2.cell 2); skip))
  clear b0 HP b2
  go_wp2_with fail
  have HR : Hid (∀ y, Below w1.heap.size w1 y → Calls Tryd.prog 41 #[.pointer (some ⟨x, 1, none⟩), .int .i64 m] y fun r w2 => r = .returned (.int .i64 3) ∧ Hid (Ev w2 U.heap.size ev 3 ∧ PS w2 x none 0 ∧ Off (PF x none) w w2 ∧ In W w2 (PF x none) ∧ Box w2 w.heap.size #[.int .i64 3, .int .i64 of, .int .i64 m, .int .i64 e])) := fun y hb => by
    have hy : Box y x #[.pointer none, .bool false, .int .i64 0] := H1.out.2.2.1.below hb
    refine (rSet_no hy m).mono ?_
    rintro _ w2 ⟨rfl, hw⟩
    subst w2
    have hb2 := below_then H1.out.2.1 hb
    exact ⟨rfl, H1.out.1.below hb, HU.out.1.below hb2, (Off.of_below HU.out.2.2.1).trans (Off.of_below hb2), HU.out.2.1.below hb2, HU.out.2.2.2.below hb2⟩
  go_region_held3 (fun y => y.cell? ⟨w.heap.size, 2, none⟩ = some (.int .i64 m)) (simp [*]) (first | (go_at_call 41; refine (HR.out _ ?_).mono ?_; (first | exact Below.refl _ _ | exact Below.drew (Below.refl _ _) | assumption | exact Below.drew (by assumption)); rintro _ w2 ⟨rfl, H3⟩; have d2 : w2.cell? ⟨w.heap.size, 2, none⟩ = some (.int .i64 m) := (H3.out.2.2.2.2.cell 2); skip))
  clear HR c0 c2 d2
  go_wp2_with fail
  refine (code_any (w := w2) H3.out.1 H3.out.2.2.2.1.here.err).mono ?_
  rintro _ w3 ⟨rfl, hb⟩
  have HB : Hid (Below w2.heap.size w2 w3) := hb
  clear hb
  go_wp2_with fail
  refine (num_any _ _).mono ?_
  rintro _ _ ⟨rfl, rfl⟩
  go_wp2_with fail
  go_ret
  exact ⟨by simp, ⟨_, H3.out.2.1.below HB.out⟩, H3.out.2.2.1.trans (Off.of_below HB.out), H3.out.2.2.2.1.below HB.out⟩
set_option maxHeartbeats 2000000 in
theorem lplays_next {W w : World} {x s : Nat} {n kd : Int} (h : PS w x (some s) n) (hI : In W w (PF x (some s))) (of m e : Int) (h1 : (kd == 1) = false) (h2 : (kd == 2) = false) (h3 : (kd == 3) = false) : Calls Tryd.prog 20 #[.pointer (some ⟨x, 0, none⟩), .agg #[.int .i64 kd, .int .i64 of, .int .i64 m, .int .i64 e]] w fun r w' => PlQ W w x (some s) r w' := by
  have hU : Below w.heap.size w (w.alloc (.cells #[.int .i64 kd, .int .i64 of, .int .i64 m, .int .i64 e] 47)) := (Below.refl _ _).alloc (Nat.le_refl _) _
  have hO := Box.new w #[.int .i64 kd, .int .i64 of, .int .i64 m, .int .i64 e] 47
  obtain ⟨U, hUe⟩ : ∃ U, w.alloc (.cells #[.int .i64 kd, .int .i64 of, .int .i64 m, .int .i64 e] 47) = U := ⟨_, rfl⟩
  have HUe : Hid (w.alloc (.cells #[.int .i64 kd, .int .i64 of, .int .i64 m, .int .i64 e] 47) = U) := hUe
  rw [hUe] at hU hO
  have HU : Hid (PS U x (some s) n ∧ In W U (PF x (some s)) ∧ Below w.heap.size w U ∧ Box U w.heap.size #[.int .i64 kd, .int .i64 of, .int .i64 m, .int .i64 e]) := ⟨h.below hU, hI.below hU, hU, hO⟩
  have hlt : x < w.heap.size := h.1.lt
  have HL : Hid (x < w.heap.size ∧ s < w.heap.size) := ⟨hlt, h.2.1.lt⟩
  have k0 : w.cell? ⟨x, 0, none⟩ = some (.pointer (some ⟨s, 0, none⟩)) := h.1.cell 0
  have k1 : w.cell? ⟨x, 1, none⟩ = some (.bool true) := h.1.cell 1
  have k2 : w.cell? ⟨x, 2, none⟩ = some (.int .i64 n) := h.1.cell 2
  clear h hI hU hO hUe
  go_enter Tryd.func20, Tryd.ntmps20
  go_wp2_with fail
  rw [HUe.out]
  have h1c : ∀ v : Sub U, Calls Tryd.prog 12 #[.pointer (some ⟨s, 0, none⟩)] v.1 fun r x' => r = .returned (.int .i64 n) ∧ ∃ y : Sub U, x' = y.1 := fun v => by
    have hy : Snd v.1 s n := HU.out.1.2.1.off (P := fun _ => False) (Off.of_below v.2) id
    exact (pNext hy).mono fun _ x' ⟨h, hb⟩ => ⟨h, ⟨x', below_then v.2 hb⟩, rfl⟩
  have l0 := sub_box HU.out.1.1
  haveI hne : Nonempty (Sub U) := ⟨⟨U, Below.refl _ _⟩⟩
  clear k0 k1 k2
  refine wp_region_class (V := U) (Below.refl _ _) (by kernel_rfl) (by kernel_rfl) ?_
  repeat (go_big_quiet_step ((go_at_call 12; exact h1c _)))
  refine wpQuiet_nil ?_
  rintro wc ⟨xwc, rfl⟩
  have HB : Hid (Below U.heap.size U xwc.1) := xwc.2
  clear h1c l0 hne
  go_wp2_with fail
  go_ret
  exact ⟨by simp, ⟨_, HU.out.1.below HB.out⟩, (Off.of_below HU.out.2.2.1).trans (Off.of_below HB.out), HU.out.2.1.below HB.out⟩
set_option maxHeartbeats 2000000 in
theorem lplays_no_next {W w : World} {x : Nat} {n kd : Int} (h : PS w x none n) (hI : In W w (PF x none)) (of m e : Int) (h1 : (kd == 1) = false) (h2 : (kd == 2) = false) (h3 : (kd == 3) = false) : Calls Tryd.prog 20 #[.pointer (some ⟨x, 0, none⟩), .agg #[.int .i64 kd, .int .i64 of, .int .i64 m, .int .i64 e]] w fun r w' => PlQ W w x none r w' := by
  have hU : Below w.heap.size w (w.alloc (.cells #[.int .i64 kd, .int .i64 of, .int .i64 m, .int .i64 e] 47)) := (Below.refl _ _).alloc (Nat.le_refl _) _
  have hO := Box.new w #[.int .i64 kd, .int .i64 of, .int .i64 m, .int .i64 e] 47
  obtain ⟨U, hUe⟩ : ∃ U, w.alloc (.cells #[.int .i64 kd, .int .i64 of, .int .i64 m, .int .i64 e] 47) = U := ⟨_, rfl⟩
  have HUe : Hid (w.alloc (.cells #[.int .i64 kd, .int .i64 of, .int .i64 m, .int .i64 e] 47) = U) := hUe
  rw [hUe] at hU hO
  have HU : Hid (PS U x none n ∧ In W U (PF x none) ∧ Below w.heap.size w U ∧ Box U w.heap.size #[.int .i64 kd, .int .i64 of, .int .i64 m, .int .i64 e]) := ⟨h.below hU, hI.below hU, hU, hO⟩
  have hlt : x < w.heap.size := h.1.lt
  have k0 : w.cell? ⟨x, 0, none⟩ = some (.pointer none) := h.1.cell 0
  have k1 : w.cell? ⟨x, 1, none⟩ = some (.bool false) := h.1.cell 1
  have k2 : w.cell? ⟨x, 2, none⟩ = some (.int .i64 n) := h.1.cell 2
  have hn0 : n = 0 := h.2
  subst hn0
  clear h hI hU hO hUe
  go_enter Tryd.func20, Tryd.ntmps20
  go_wp2_with fail
  rw [HUe.out]
  have h1c : ∀ v : Sub U, Calls Tryd.prog 12 #[.pointer none] v.1 fun r x' => r = .returned (.int .i64 0) ∧ ∃ y : Sub U, x' = y.1 := fun v => by
    exact (pNext_no (Or.inl rfl)).mono fun _ x' ⟨h, hb⟩ => ⟨h, ⟨x', below_then v.2 hb⟩, rfl⟩
  have l0 := sub_box HU.out.1.1
  haveI hne : Nonempty (Sub U) := ⟨⟨U, Below.refl _ _⟩⟩
  clear k0 k1 k2
  refine wp_region_class (V := U) (Below.refl _ _) (by kernel_rfl) (by kernel_rfl) ?_
  repeat (go_big_quiet_step ((go_at_call 12; exact h1c _)))
  refine wpQuiet_nil ?_
  rintro wc ⟨xwc, rfl⟩
  have HB : Hid (Below U.heap.size U xwc.1) := xwc.2
  clear h1c l0 hne
  go_wp2_with fail
  go_ret
  exact ⟨by simp, ⟨_, HU.out.1.below HB.out⟩, (Off.of_below HU.out.2.2.1).trans (Off.of_below HB.out), HU.out.2.1.below HB.out⟩
theorem lplays_any {W w : World} {x : Nat} {so : Option Nat} {n : Int} (h : PS w x so n) (hI : In W w (PF x so)) (kd of m e : Int) : Calls Tryd.prog 20 #[.pointer (some ⟨x, 0, none⟩), .agg #[.int .i64 kd, .int .i64 of, .int .i64 m, .int .i64 e]] w fun r w' => PlQ W w x so r w' := by
  by_cases h1 : kd = 1
  · subst h1; cases so with
    | none => exact lplays_no_take h hI of m e
    | some s => exact lplays_take h hI of m e
  by_cases h2 : kd = 2
  · subst h2; cases so with
    | none => exact lplays_no_back h hI of m e
    | some s => exact lplays_back h hI of m e
  by_cases h3 : kd = 3
  · subst h3; cases so with
    | none => exact lplays_no_set h hI of m e
    | some s => exact lplays_set h hI of m e
  have g1 : (kd == 1) = false := by simpa using h1
  have g2 : (kd == 2) = false := by simpa using h2
  have g3 : (kd == 3) = false := by simpa using h3
  cases so with
  | none => exact lplays_no_next h hI of m e g1 g2 g3
  | some s => exact lplays_next h hI of m e g1 g2 g3
end Go.Proofs.YtnabpjfdpelejaaDoor
