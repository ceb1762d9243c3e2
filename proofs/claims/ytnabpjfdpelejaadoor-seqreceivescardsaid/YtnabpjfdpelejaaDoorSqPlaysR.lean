/-
  One call at a pair of receivers (the law's plays): both answer the same.
-/
import Derived.Test.YtnabpjfdpelejaaDoorSqRecvN
import Derived.Test.YtnabpjfdpelejaaDoorSqPlays
namespace Go.Proofs.YtnabpjfdpelejaaDoor
open Go.RowKit

/-- What a call at a pair answers. -/
def PlR (W w : World) (x : Nat) (so : Option Nat) (r : Ending) (w' : World) : Prop := r = .returned (.bool true) ∧ (∃ e l, PR w' x so e l) ∧ Off (PF x so) w w' ∧ In W w' (PF x so)
set_option maxHeartbeats 2000000 in
theorem rplays_accept {W w : World} {x s : Nat} {e l : Int} (h : PR w x (some s) e l) (hI : In W w (PF x (some s))) (of m ee : Int) : Calls Tryd.prog 25 #[.pointer (some ⟨x, 0, none⟩), .agg #[.int .i64 3, .int .i64 of, .int .i64 m, .int .i64 ee]] w fun r w' => PlR W w x (some s) r w' := by
  have hU : Below w.heap.size w (w.alloc (.cells #[.int .i64 3, .int .i64 of, .int .i64 m, .int .i64 ee] 47)) := (Below.refl _ _).alloc (Nat.le_refl _) _
  have hO := Box.new w #[.int .i64 3, .int .i64 of, .int .i64 m, .int .i64 ee] 47
  obtain ⟨U, hUe⟩ : ∃ U, w.alloc (.cells #[.int .i64 3, .int .i64 of, .int .i64 m, .int .i64 ee] 47) = U := ⟨_, rfl⟩
  have HUe : Hid (w.alloc (.cells #[.int .i64 3, .int .i64 of, .int .i64 m, .int .i64 ee] 47) = U) := hUe
  rw [hUe] at hU hO
  have HU : Hid (PR U x (some s) e l ∧ In W U (PF x (some s)) ∧ Below w.heap.size w U ∧ Box U w.heap.size #[.int .i64 3, .int .i64 of, .int .i64 m, .int .i64 ee]) := ⟨h.below hU, hI.below hU, hU, hO⟩
  have hlt : x < w.heap.size := h.1.lt
  have HL : Hid (x < w.heap.size ∧ s < w.heap.size) := ⟨hlt, h.2.1.lt⟩
  have k0 : w.cell? ⟨x, 0, none⟩ = some (.pointer (some ⟨s, 0, none⟩)) := h.1.cell 0
  clear h hI hU hO hUe
  go_enter Tryd.func25, Tryd.ntmps25
  go_wp2_with fail
  rw [HUe.out]
  have HP : Hid (∀ y, Below U.heap.size U y → Calls Tryd.prog 16 #[.pointer (some ⟨s, 0, none⟩), .int .i64 m] y fun r w1 => ∃ ev, r = .returned ev ∧ Hid (Ev w1 U.heap.size ev (accC e m) ∧ Rcv w1 s (accE e m) (accL e l m) ∧ Off (fun k => k = s) U w1 ∧ Box w1 x #[.pointer (some ⟨s, 0, none⟩), .bool true, .int .i64 e, .int .i64 l] ∧ Box w1 w.heap.size #[.int .i64 3, .int .i64 of, .int .i64 m, .int .i64 ee])) := fun y hb => by
    have hy : Rcv y s e l := HU.out.1.2.1.off (P := fun _ => False) (Off.of_below hb) id
    refine (pAccept hy m).mono ?_
    rintro _ w1 ⟨ev, rfl, hq0⟩
    have hq : Ev w1 U.heap.size ev (accC e m) ∧ Rcv w1 s (accE e m) (accL e l m) ∧ Off (fun k => k = s) U w1 := ⟨hq0.1.mono hb.size, hq0.2.1, (Off.of_below hb).trans hq0.2.2⟩
    exact ⟨ev, rfl, ⟨hq.1, hq.2.1, hq.2.2, HU.out.1.1.off hq.2.2 (Ne.symm HU.out.1.2.2), HU.out.2.2.2.off hq.2.2 (fun g => by have := HL.out.2; omega)⟩⟩
  have bp : U.cell? ⟨x, 0, none⟩ = some (.pointer (some ⟨s, 0, none⟩)) := HU.out.1.1.cell 0
  have bo : U.cell? ⟨w.heap.size, 2, none⟩ = some (.int .i64 m) := HU.out.2.2.2.cell 2
  clear k0
  go_region_held3 (fun y => y.cell? ⟨x, 0, none⟩ = some (.pointer (some ⟨s, 0, none⟩)) ∧ y.cell? ⟨w.heap.size, 2, none⟩ = some (.int .i64 m)) (simp [*]) (first | (go_at_call 16; refine (HP.out _ ?_).mono ?_; (first | exact Below.refl _ _ | exact Below.drew (Below.refl _ _) | assumption | exact Below.drew (by assumption)); rintro _ w1 ⟨ev, rfl, H1⟩; have cp : w1.cell? ⟨x, 0, none⟩ = some (.pointer (some ⟨s, 0, none⟩)) := (H1.out.2.2.2.1.cell 0); have co : w1.cell? ⟨w.heap.size, 2, none⟩ = some (.int .i64 m) := (H1.out.2.2.2.2.cell 2); skip))
  clear HP bp bo
  go_wp2_with fail
  have HR : Hid (∀ y, Below w1.heap.size w1 y → Calls Tryd.prog 45 #[.pointer (some ⟨x, 1, none⟩), .int .i64 m] y fun r w2 => r = .returned (.int .i64 (accC e m)) ∧ Hid (Ev w2 U.heap.size ev (accC e m) ∧ PR w2 x (some s) (accE e m) (accL e l m) ∧ Off (PF x (some s)) w w2 ∧ In W w2 (PF x (some s)) ∧ Box w2 w.heap.size #[.int .i64 3, .int .i64 of, .int .i64 m, .int .i64 ee])) := fun y hb => by
    have hy : Box y x #[.pointer (some ⟨s, 0, none⟩), .bool true, .int .i64 e, .int .i64 l] := H1.out.2.2.2.1.below hb
    refine (rAccept_any hy m).mono ?_
    rintro _ w2 ⟨rfl, hq0⟩
    have hq : Off (fun k => k = x) w1 w2 := (Off.of_below hb).trans hq0.2
    have o1 : Off (PF x (some s)) U w2 := (H1.out.2.2.1.mono (fun k g => Or.inr (by rw [g]))).trans (hq.mono (fun k g => Or.inl g))
    exact ⟨rfl, H1.out.1.off hq (fun k g => by have := HL.out.1; have := HU.out.2.2.1.size; omega), ⟨hq0.1, H1.out.2.1.off hq HU.out.1.2.2, HU.out.1.2.2⟩, (Off.of_below HU.out.2.2.1).trans o1, HU.out.2.1.off o1 HU.out.2.1.ge, H1.out.2.2.2.2.off hq (fun g => by have := HL.out.1; omega)⟩
  go_region_held3 (fun y => y.cell? ⟨w.heap.size, 2, none⟩ = some (.int .i64 m)) (simp [*]) (first | (go_at_call 45; refine (HR.out _ ?_).mono ?_; (first | exact Below.refl _ _ | exact Below.drew (Below.refl _ _) | assumption | exact Below.drew (by assumption)); rintro _ w2 ⟨rfl, H3⟩; have ddo : w2.cell? ⟨w.heap.size, 2, none⟩ = some (.int .i64 m) := (H3.out.2.2.2.2.cell 2); skip))
  clear HR cp co ddo
  go_wp2_with fail
  refine (code_any (w := w2) H3.out.1 H3.out.2.2.2.1.here.err).mono ?_
  rintro _ w3 ⟨rfl, hb⟩
  have HB : Hid (Below w2.heap.size w2 w3) := hb
  clear hb
  go_wp2_with fail
  refine (num_any _ _).mono ?_
  rintro _ _ ⟨rfl, rfl⟩
  go_wp2_with fail
  go_ret
  exact ⟨by simp, ⟨_, _, H3.out.2.1.below HB.out⟩, H3.out.2.2.1.trans (Off.of_below HB.out), H3.out.2.2.2.1.below HB.out⟩
set_option maxHeartbeats 2000000 in
theorem rplays_now {W w : World} {x s : Nat} {e l : Int} (h : PR w x (some s) e l) (hI : In W w (PF x (some s))) (of m ee : Int) : Calls Tryd.prog 25 #[.pointer (some ⟨x, 0, none⟩), .agg #[.int .i64 6, .int .i64 of, .int .i64 m, .int .i64 ee]] w fun r w' => PlR W w x (some s) r w' := by
  have hU : Below w.heap.size w (w.alloc (.cells #[.int .i64 6, .int .i64 of, .int .i64 m, .int .i64 ee] 47)) := (Below.refl _ _).alloc (Nat.le_refl _) _
  have hO := Box.new w #[.int .i64 6, .int .i64 of, .int .i64 m, .int .i64 ee] 47
  obtain ⟨U, hUe⟩ : ∃ U, w.alloc (.cells #[.int .i64 6, .int .i64 of, .int .i64 m, .int .i64 ee] 47) = U := ⟨_, rfl⟩
  have HUe : Hid (w.alloc (.cells #[.int .i64 6, .int .i64 of, .int .i64 m, .int .i64 ee] 47) = U) := hUe
  rw [hUe] at hU hO
  have HU : Hid (PR U x (some s) e l ∧ In W U (PF x (some s)) ∧ Below w.heap.size w U ∧ Box U w.heap.size #[.int .i64 6, .int .i64 of, .int .i64 m, .int .i64 ee]) := ⟨h.below hU, hI.below hU, hU, hO⟩
  have hlt : x < w.heap.size := h.1.lt
  have HL : Hid (x < w.heap.size ∧ s < w.heap.size) := ⟨hlt, h.2.1.lt⟩
  have k0 : w.cell? ⟨x, 0, none⟩ = some (.pointer (some ⟨s, 0, none⟩)) := h.1.cell 0
  clear h hI hU hO hUe
  go_enter Tryd.func25, Tryd.ntmps25
  go_wp2_with fail
  rw [HUe.out]
  have HP : Hid (∀ y, Below U.heap.size U y → Calls Tryd.prog 16 #[.pointer (some ⟨s, 0, none⟩), .int .i64 e] y fun r w1 => ∃ ev, r = .returned ev ∧ Hid (Ev w1 U.heap.size ev (accC e e) ∧ Rcv w1 s (accE e e) (accL e l e) ∧ Off (fun k => k = s) U w1 ∧ Box w1 x #[.pointer (some ⟨s, 0, none⟩), .bool true, .int .i64 e, .int .i64 l] ∧ Box w1 w.heap.size #[.int .i64 6, .int .i64 of, .int .i64 m, .int .i64 ee])) := fun y hb => by
    have hy : Rcv y s e l := HU.out.1.2.1.off (P := fun _ => False) (Off.of_below hb) id
    refine (pAccept hy e).mono ?_
    rintro _ w1 ⟨ev, rfl, hq0⟩
    have hq : Ev w1 U.heap.size ev (accC e e) ∧ Rcv w1 s (accE e e) (accL e l e) ∧ Off (fun k => k = s) U w1 := ⟨hq0.1.mono hb.size, hq0.2.1, (Off.of_below hb).trans hq0.2.2⟩
    exact ⟨ev, rfl, ⟨hq.1, hq.2.1, hq.2.2, HU.out.1.1.off hq.2.2 (Ne.symm HU.out.1.2.2), HU.out.2.2.2.off hq.2.2 (fun g => by have := HL.out.2; omega)⟩⟩
  have bp : U.cell? ⟨x, 0, none⟩ = some (.pointer (some ⟨s, 0, none⟩)) := HU.out.1.1.cell 0
  have be : U.cell? ⟨x, 2, none⟩ = some (.int .i64 e) := HU.out.1.1.cell 2
  clear k0
  go_region_held3 (fun y => y.cell? ⟨x, 0, none⟩ = some (.pointer (some ⟨s, 0, none⟩)) ∧ y.cell? ⟨x, 2, none⟩ = some (.int .i64 e)) (simp [*]) (first | (go_at_call 16; refine (HP.out _ ?_).mono ?_; (first | exact Below.refl _ _ | exact Below.drew (Below.refl _ _) | assumption | exact Below.drew (by assumption)); rintro _ w1 ⟨ev, rfl, H1⟩; have cp : w1.cell? ⟨x, 0, none⟩ = some (.pointer (some ⟨s, 0, none⟩)) := (H1.out.2.2.2.1.cell 0); have ce : w1.cell? ⟨x, 2, none⟩ = some (.int .i64 e) := (H1.out.2.2.2.1.cell 2); skip))
  clear HP bp be
  have hk := H1.out.2.2.2.1.cell
  go_wp2_with fail
  have HR : Hid (∀ y, Below w1.heap.size w1 y → Calls Tryd.prog 45 #[.pointer (some ⟨x, 1, none⟩), .int .i64 e] y fun r w2 => r = .returned (.int .i64 (accC e e)) ∧ Hid (Ev w2 U.heap.size ev (accC e e) ∧ PR w2 x (some s) (accE e e) (accL e l e) ∧ Off (PF x (some s)) w w2 ∧ In W w2 (PF x (some s)) ∧ Box w2 w.heap.size #[.int .i64 6, .int .i64 of, .int .i64 m, .int .i64 ee])) := fun y hb => by
    have hy : Box y x #[.pointer (some ⟨s, 0, none⟩), .bool true, .int .i64 e, .int .i64 l] := H1.out.2.2.2.1.below hb
    refine (rAccept_any hy e).mono ?_
    rintro _ w2 ⟨rfl, hq0⟩
    have hq : Off (fun k => k = x) w1 w2 := (Off.of_below hb).trans hq0.2
    have o1 : Off (PF x (some s)) U w2 := (H1.out.2.2.1.mono (fun k g => Or.inr (by rw [g]))).trans (hq.mono (fun k g => Or.inl g))
    exact ⟨rfl, H1.out.1.off hq (fun k g => by have := HL.out.1; have := HU.out.2.2.1.size; omega), ⟨hq0.1, H1.out.2.1.off hq HU.out.1.2.2, HU.out.1.2.2⟩, (Off.of_below HU.out.2.2.1).trans o1, HU.out.2.1.off o1 HU.out.2.1.ge, H1.out.2.2.2.2.off hq (fun g => by have := HL.out.1; omega)⟩
  go_region_with (go_at_call 45; refine (HR.out _ ?_).mono ?_; (first | exact Below.refl _ _ | exact Below.drew (Below.refl _ _) | assumption | exact Below.drew (by assumption)); rintro _ w2 ⟨rfl, H3⟩)
  clear HR hk cp ce
  go_wp2_with fail
  refine (code_any (w := w2) H3.out.1 H3.out.2.2.2.1.here.err).mono ?_
  rintro _ w3 ⟨rfl, hb⟩
  have HB : Hid (Below w2.heap.size w2 w3) := hb
  clear hb
  go_wp2_with fail
  refine (num_any _ _).mono ?_
  rintro _ _ ⟨rfl, rfl⟩
  go_wp2_with fail
  go_ret
  exact ⟨by simp, ⟨_, _, H3.out.2.1.below HB.out⟩, H3.out.2.2.1.trans (Off.of_below HB.out), H3.out.2.2.2.1.below HB.out⟩
set_option maxHeartbeats 2000000 in
theorem rplays_reset {W w : World} {x s : Nat} {e l : Int} (h : PR w x (some s) e l) (hI : In W w (PF x (some s))) (of m ee : Int) : Calls Tryd.prog 25 #[.pointer (some ⟨x, 0, none⟩), .agg #[.int .i64 4, .int .i64 of, .int .i64 m, .int .i64 ee]] w fun r w' => PlR W w x (some s) r w' := by
  have hU : Below w.heap.size w (w.alloc (.cells #[.int .i64 4, .int .i64 of, .int .i64 m, .int .i64 ee] 47)) := (Below.refl _ _).alloc (Nat.le_refl _) _
  have hO := Box.new w #[.int .i64 4, .int .i64 of, .int .i64 m, .int .i64 ee] 47
  obtain ⟨U, hUe⟩ : ∃ U, w.alloc (.cells #[.int .i64 4, .int .i64 of, .int .i64 m, .int .i64 ee] 47) = U := ⟨_, rfl⟩
  have HUe : Hid (w.alloc (.cells #[.int .i64 4, .int .i64 of, .int .i64 m, .int .i64 ee] 47) = U) := hUe
  rw [hUe] at hU hO
  have HU : Hid (PR U x (some s) e l ∧ In W U (PF x (some s)) ∧ Below w.heap.size w U ∧ Box U w.heap.size #[.int .i64 4, .int .i64 of, .int .i64 m, .int .i64 ee]) := ⟨h.below hU, hI.below hU, hU, hO⟩
  have hlt : x < w.heap.size := h.1.lt
  have HL : Hid (x < w.heap.size ∧ s < w.heap.size) := ⟨hlt, h.2.1.lt⟩
  have k0 : w.cell? ⟨x, 0, none⟩ = some (.pointer (some ⟨s, 0, none⟩)) := h.1.cell 0
  clear h hI hU hO hUe
  go_enter Tryd.func25, Tryd.ntmps25
  go_wp2_with fail
  rw [HUe.out]
  have HP : Hid (∀ y, Below U.heap.size U y → Calls Tryd.prog 13 #[.pointer (some ⟨s, 0, none⟩)] y fun r w1 => ∃ ev, r = .returned ev ∧ Hid (Ev w1 U.heap.size ev (0) ∧ Rcv w1 s (0) (0) ∧ Off (fun k => k = s) U w1 ∧ Box w1 x #[.pointer (some ⟨s, 0, none⟩), .bool true, .int .i64 e, .int .i64 l] ∧ Box w1 w.heap.size #[.int .i64 4, .int .i64 of, .int .i64 m, .int .i64 ee])) := fun y hb => by
    have hy : Rcv y s e l := HU.out.1.2.1.off (P := fun _ => False) (Off.of_below hb) id
    refine (pReset hy).mono ?_
    rintro _ w1 ⟨ev, rfl, hq0⟩
    have hq : Ev w1 U.heap.size ev (0) ∧ Rcv w1 s (0) (0) ∧ Off (fun k => k = s) U w1 := ⟨hq0.1.mono hb.size, hq0.2.1, (Off.of_below hb).trans hq0.2.2⟩
    exact ⟨ev, rfl, ⟨hq.1, hq.2.1, hq.2.2, HU.out.1.1.off hq.2.2 (Ne.symm HU.out.1.2.2), HU.out.2.2.2.off hq.2.2 (fun g => by have := HL.out.2; omega)⟩⟩
  refine (HP.out _ (Below.refl _ _)).mono ?_
  rintro _ w1 ⟨ev, rfl, H1⟩
  have hk := H1.out.2.2.2.1.cell
  clear k0 HP
  go_wp2_with fail
  have HR : Hid (∀ y, Below w1.heap.size w1 y → Calls Tryd.prog 46 #[.pointer (some ⟨x, 1, none⟩)] y fun r w2 => r = .returned (.int .i64 (0)) ∧ Hid (Ev w2 U.heap.size ev (0) ∧ PR w2 x (some s) (0) (0) ∧ Off (PF x (some s)) w w2 ∧ In W w2 (PF x (some s)) ∧ Box w2 w.heap.size #[.int .i64 4, .int .i64 of, .int .i64 m, .int .i64 ee])) := fun y hb => by
    have hy : Box y x #[.pointer (some ⟨s, 0, none⟩), .bool true, .int .i64 e, .int .i64 l] := H1.out.2.2.2.1.below hb
    refine (rBegin_any hy).mono ?_
    rintro _ w2 ⟨rfl, hq0⟩
    have hq : Off (fun k => k = x) w1 w2 := (Off.of_below hb).trans hq0.2
    have o1 : Off (PF x (some s)) U w2 := (H1.out.2.2.1.mono (fun k g => Or.inr (by rw [g]))).trans (hq.mono (fun k g => Or.inl g))
    exact ⟨rfl, H1.out.1.off hq (fun k g => by have := HL.out.1; have := HU.out.2.2.1.size; omega), ⟨hq0.1, H1.out.2.1.off hq HU.out.1.2.2, HU.out.1.2.2⟩, (Off.of_below HU.out.2.2.1).trans o1, HU.out.2.1.off o1 HU.out.2.1.ge, H1.out.2.2.2.2.off hq (fun g => by have := HL.out.1; omega)⟩
  refine (HR.out _ (Below.refl _ _)).mono ?_
  rintro _ w2 ⟨rfl, H3⟩
  clear HR hk
  go_wp2_with fail
  refine (code_any (w := w2) H3.out.1 H3.out.2.2.2.1.here.err).mono ?_
  rintro _ w3 ⟨rfl, hb⟩
  have HB : Hid (Below w2.heap.size w2 w3) := hb
  clear hb
  go_wp2_with fail
  refine (num_any _ _).mono ?_
  rintro _ _ ⟨rfl, rfl⟩
  go_wp2_with fail
  go_ret
  exact ⟨by simp, ⟨_, _, H3.out.2.1.below HB.out⟩, H3.out.2.2.1.trans (Off.of_below HB.out), H3.out.2.2.2.1.below HB.out⟩
set_option maxHeartbeats 2000000 in
theorem rplays_no_accept {W w : World} {x : Nat} {e l : Int} (h : PR w x none e l) (hI : In W w (PF x none)) (of m ee : Int) : Calls Tryd.prog 25 #[.pointer (some ⟨x, 0, none⟩), .agg #[.int .i64 3, .int .i64 of, .int .i64 m, .int .i64 ee]] w fun r w' => PlR W w x none r w' := by
  have hU : Below w.heap.size w (w.alloc (.cells #[.int .i64 3, .int .i64 of, .int .i64 m, .int .i64 ee] 47)) := (Below.refl _ _).alloc (Nat.le_refl _) _
  have hO := Box.new w #[.int .i64 3, .int .i64 of, .int .i64 m, .int .i64 ee] 47
  obtain ⟨U, hUe⟩ : ∃ U, w.alloc (.cells #[.int .i64 3, .int .i64 of, .int .i64 m, .int .i64 ee] 47) = U := ⟨_, rfl⟩
  have HUe : Hid (w.alloc (.cells #[.int .i64 3, .int .i64 of, .int .i64 m, .int .i64 ee] 47) = U) := hUe
  rw [hUe] at hU hO
  have HU : Hid (PR U x none e l ∧ In W U (PF x none) ∧ Below w.heap.size w U ∧ Box U w.heap.size #[.int .i64 3, .int .i64 of, .int .i64 m, .int .i64 ee]) := ⟨h.below hU, hI.below hU, hU, hO⟩
  have hlt : x < w.heap.size := h.1.lt
  have k0 : w.cell? ⟨x, 0, none⟩ = some (.pointer none) := h.1.cell 0
  obtain ⟨he0, hl0⟩ := h.2
  subst he0 hl0
  clear h hI hU hO hUe
  go_enter Tryd.func25, Tryd.ntmps25
  go_wp2_with fail
  rw [HUe.out]
  have HP : Hid (∀ y, Below U.heap.size U y → Calls Tryd.prog 16 #[.pointer none, .int .i64 m] y fun r w1 => ∃ ev, r = .returned ev ∧ Hid (Ev w1 U.heap.size ev 3 ∧ Below U.heap.size U w1 ∧ Box w1 x #[.pointer none, .bool false, .int .i64 0, .int .i64 0] ∧ Box w1 w.heap.size #[.int .i64 3, .int .i64 of, .int .i64 m, .int .i64 ee])) := fun y hb => by
    refine (pAccept_no (Or.inl rfl) m).mono ?_
    rintro _ w1 ⟨ev, rfl, hev, hb1⟩
    exact ⟨ev, rfl, hev.mono hb.size, below_then hb hb1, HU.out.1.1.below (below_then hb hb1), HU.out.2.2.2.below (below_then hb hb1)⟩
  have bp : U.cell? ⟨x, 0, none⟩ = some (.pointer none) := HU.out.1.1.cell 0
  have bo : U.cell? ⟨w.heap.size, 2, none⟩ = some (.int .i64 m) := HU.out.2.2.2.cell 2
  clear k0
  go_region_held3 (fun y => y.cell? ⟨x, 0, none⟩ = some (.pointer none) ∧ y.cell? ⟨w.heap.size, 2, none⟩ = some (.int .i64 m)) (simp [*]) (first | (go_at_call 16; refine (HP.out _ ?_).mono ?_; (first | exact Below.refl _ _ | exact Below.drew (Below.refl _ _) | assumption | exact Below.drew (by assumption)); rintro _ w1 ⟨ev, rfl, H1⟩; have cp : w1.cell? ⟨x, 0, none⟩ = some (.pointer none) := (H1.out.2.2.1.cell 0); have co : w1.cell? ⟨w.heap.size, 2, none⟩ = some (.int .i64 m) := (H1.out.2.2.2.cell 2); skip))
  clear HP bp bo
  go_wp2_with fail
  have HR : Hid (∀ y, Below w1.heap.size w1 y → Calls Tryd.prog 45 #[.pointer (some ⟨x, 1, none⟩), .int .i64 m] y fun r w2 => r = .returned (.int .i64 3) ∧ Hid (Ev w2 U.heap.size ev 3 ∧ PR w2 x none 0 0 ∧ Off (PF x none) w w2 ∧ In W w2 (PF x none) ∧ Box w2 w.heap.size #[.int .i64 3, .int .i64 of, .int .i64 m, .int .i64 ee] ∧ Box w2 x #[.pointer none, .bool false, .int .i64 0, .int .i64 0])) := fun y hb => by
    have hy : Box y x #[.pointer none, .bool false, .int .i64 0, .int .i64 0] := H1.out.2.2.1.below hb
    refine (rAccept_no hy m).mono ?_
    rintro _ w2 ⟨rfl, hw⟩
    subst w2
    have hb2 := below_then H1.out.2.1 hb
    exact ⟨rfl, H1.out.1.below hb, HU.out.1.below hb2, (Off.of_below HU.out.2.2.1).trans (Off.of_below hb2), HU.out.2.1.below hb2, HU.out.2.2.2.below hb2, hy⟩
  go_region_held3 (fun y => y.cell? ⟨w.heap.size, 2, none⟩ = some (.int .i64 m)) (simp [*]) (first | (go_at_call 45; refine (HR.out _ ?_).mono ?_; (first | exact Below.refl _ _ | exact Below.drew (Below.refl _ _) | assumption | exact Below.drew (by assumption)); rintro _ w2 ⟨rfl, H3⟩; have ddo : w2.cell? ⟨w.heap.size, 2, none⟩ = some (.int .i64 m) := (H3.out.2.2.2.2.1.cell 2); skip))
  clear HR cp co ddo
  go_wp2_with fail
  refine (code_any (w := w2) H3.out.1 H3.out.2.2.2.1.here.err).mono ?_
  rintro _ w3 ⟨rfl, hb⟩
  have HB : Hid (Below w2.heap.size w2 w3) := hb
  clear hb
  go_wp2_with fail
  refine (num_any _ _).mono ?_
  rintro _ _ ⟨rfl, rfl⟩
  go_wp2_with fail
  go_ret
  exact ⟨by simp, ⟨_, _, H3.out.2.1.below HB.out⟩, H3.out.2.2.1.trans (Off.of_below HB.out), H3.out.2.2.2.1.below HB.out⟩
set_option maxHeartbeats 2000000 in
theorem rplays_no_now {W w : World} {x : Nat} {e l : Int} (h : PR w x none e l) (hI : In W w (PF x none)) (of m ee : Int) : Calls Tryd.prog 25 #[.pointer (some ⟨x, 0, none⟩), .agg #[.int .i64 6, .int .i64 of, .int .i64 m, .int .i64 ee]] w fun r w' => PlR W w x none r w' := by
  have hU : Below w.heap.size w (w.alloc (.cells #[.int .i64 6, .int .i64 of, .int .i64 m, .int .i64 ee] 47)) := (Below.refl _ _).alloc (Nat.le_refl _) _
  have hO := Box.new w #[.int .i64 6, .int .i64 of, .int .i64 m, .int .i64 ee] 47
  obtain ⟨U, hUe⟩ : ∃ U, w.alloc (.cells #[.int .i64 6, .int .i64 of, .int .i64 m, .int .i64 ee] 47) = U := ⟨_, rfl⟩
  have HUe : Hid (w.alloc (.cells #[.int .i64 6, .int .i64 of, .int .i64 m, .int .i64 ee] 47) = U) := hUe
  rw [hUe] at hU hO
  have HU : Hid (PR U x none e l ∧ In W U (PF x none) ∧ Below w.heap.size w U ∧ Box U w.heap.size #[.int .i64 6, .int .i64 of, .int .i64 m, .int .i64 ee]) := ⟨h.below hU, hI.below hU, hU, hO⟩
  have hlt : x < w.heap.size := h.1.lt
  have k0 : w.cell? ⟨x, 0, none⟩ = some (.pointer none) := h.1.cell 0
  obtain ⟨he0, hl0⟩ := h.2
  subst he0 hl0
  clear h hI hU hO hUe
  go_enter Tryd.func25, Tryd.ntmps25
  go_wp2_with fail
  rw [HUe.out]
  have HP : Hid (∀ y, Below U.heap.size U y → Calls Tryd.prog 16 #[.pointer none, .int .i64 0] y fun r w1 => ∃ ev, r = .returned ev ∧ Hid (Ev w1 U.heap.size ev 3 ∧ Below U.heap.size U w1 ∧ Box w1 x #[.pointer none, .bool false, .int .i64 0, .int .i64 0] ∧ Box w1 w.heap.size #[.int .i64 6, .int .i64 of, .int .i64 m, .int .i64 ee])) := fun y hb => by
    refine (pAccept_no (Or.inl rfl) 0).mono ?_
    rintro _ w1 ⟨ev, rfl, hev, hb1⟩
    exact ⟨ev, rfl, hev.mono hb.size, below_then hb hb1, HU.out.1.1.below (below_then hb hb1), HU.out.2.2.2.below (below_then hb hb1)⟩
  have bp : U.cell? ⟨x, 0, none⟩ = some (.pointer none) := HU.out.1.1.cell 0
  have be : U.cell? ⟨x, 2, none⟩ = some (.int .i64 0) := HU.out.1.1.cell 2
  clear k0
  go_region_held3 (fun y => y.cell? ⟨x, 0, none⟩ = some (.pointer none) ∧ y.cell? ⟨x, 2, none⟩ = some (.int .i64 0)) (simp [*]) (first | (go_at_call 16; refine (HP.out _ ?_).mono ?_; (first | exact Below.refl _ _ | exact Below.drew (Below.refl _ _) | assumption | exact Below.drew (by assumption)); rintro _ w1 ⟨ev, rfl, H1⟩; have cp : w1.cell? ⟨x, 0, none⟩ = some (.pointer none) := (H1.out.2.2.1.cell 0); have ce : w1.cell? ⟨x, 2, none⟩ = some (.int .i64 0) := (H1.out.2.2.1.cell 2); skip))
  clear HP bp be
  go_wp2_with fail
  have HR : Hid (∀ y, Below w1.heap.size w1 y → Calls Tryd.prog 45 #[.pointer (some ⟨x, 1, none⟩), .int .i64 0] y fun r w2 => r = .returned (.int .i64 3) ∧ Hid (Ev w2 U.heap.size ev 3 ∧ PR w2 x none 0 0 ∧ Off (PF x none) w w2 ∧ In W w2 (PF x none) ∧ Box w2 w.heap.size #[.int .i64 6, .int .i64 of, .int .i64 m, .int .i64 ee] ∧ Box w2 x #[.pointer none, .bool false, .int .i64 0, .int .i64 0])) := fun y hb => by
    have hy : Box y x #[.pointer none, .bool false, .int .i64 0, .int .i64 0] := H1.out.2.2.1.below hb
    refine (rAccept_no hy 0).mono ?_
    rintro _ w2 ⟨rfl, hw⟩
    subst w2
    have hb2 := below_then H1.out.2.1 hb
    exact ⟨rfl, H1.out.1.below hb, HU.out.1.below hb2, (Off.of_below HU.out.2.2.1).trans (Off.of_below hb2), HU.out.2.1.below hb2, HU.out.2.2.2.below hb2, hy⟩
  go_region_held3 (fun y => y.cell? ⟨x, 2, none⟩ = some (.int .i64 0)) (simp [*]) (first | (go_at_call 45; refine (HR.out _ ?_).mono ?_; (first | exact Below.refl _ _ | exact Below.drew (Below.refl _ _) | assumption | exact Below.drew (by assumption)); rintro _ w2 ⟨rfl, H3⟩; have dde : w2.cell? ⟨x, 2, none⟩ = some (.int .i64 0) := (H3.out.2.2.2.2.2.cell 2); skip))
  clear HR cp ce dde
  go_wp2_with fail
  refine (code_any (w := w2) H3.out.1 H3.out.2.2.2.1.here.err).mono ?_
  rintro _ w3 ⟨rfl, hb⟩
  have HB : Hid (Below w2.heap.size w2 w3) := hb
  clear hb
  go_wp2_with fail
  refine (num_any _ _).mono ?_
  rintro _ _ ⟨rfl, rfl⟩
  go_wp2_with fail
  go_ret
  exact ⟨by simp, ⟨_, _, H3.out.2.1.below HB.out⟩, H3.out.2.2.1.trans (Off.of_below HB.out), H3.out.2.2.2.1.below HB.out⟩
set_option maxHeartbeats 2000000 in
theorem rplays_no_reset {W w : World} {x : Nat} {e l : Int} (h : PR w x none e l) (hI : In W w (PF x none)) (of m ee : Int) : Calls Tryd.prog 25 #[.pointer (some ⟨x, 0, none⟩), .agg #[.int .i64 4, .int .i64 of, .int .i64 m, .int .i64 ee]] w fun r w' => PlR W w x none r w' := by
  have hU : Below w.heap.size w (w.alloc (.cells #[.int .i64 4, .int .i64 of, .int .i64 m, .int .i64 ee] 47)) := (Below.refl _ _).alloc (Nat.le_refl _) _
  have hO := Box.new w #[.int .i64 4, .int .i64 of, .int .i64 m, .int .i64 ee] 47
  obtain ⟨U, hUe⟩ : ∃ U, w.alloc (.cells #[.int .i64 4, .int .i64 of, .int .i64 m, .int .i64 ee] 47) = U := ⟨_, rfl⟩
  have HUe : Hid (w.alloc (.cells #[.int .i64 4, .int .i64 of, .int .i64 m, .int .i64 ee] 47) = U) := hUe
  rw [hUe] at hU hO
  have HU : Hid (PR U x none e l ∧ In W U (PF x none) ∧ Below w.heap.size w U ∧ Box U w.heap.size #[.int .i64 4, .int .i64 of, .int .i64 m, .int .i64 ee]) := ⟨h.below hU, hI.below hU, hU, hO⟩
  have hlt : x < w.heap.size := h.1.lt
  have k0 : w.cell? ⟨x, 0, none⟩ = some (.pointer none) := h.1.cell 0
  obtain ⟨he0, hl0⟩ := h.2
  subst he0 hl0
  clear h hI hU hO hUe
  go_enter Tryd.func25, Tryd.ntmps25
  go_wp2_with fail
  rw [HUe.out]
  have HP : Hid (∀ y, Below U.heap.size U y → Calls Tryd.prog 13 #[.pointer none] y fun r w1 => ∃ ev, r = .returned ev ∧ Hid (Ev w1 U.heap.size ev 3 ∧ Below U.heap.size U w1 ∧ Box w1 x #[.pointer none, .bool false, .int .i64 0, .int .i64 0] ∧ Box w1 w.heap.size #[.int .i64 4, .int .i64 of, .int .i64 m, .int .i64 ee])) := fun y hb => by
    refine (pReset_no (Or.inl rfl)).mono ?_
    rintro _ w1 ⟨ev, rfl, hev, hb1⟩
    exact ⟨ev, rfl, hev.mono hb.size, below_then hb hb1, HU.out.1.1.below (below_then hb hb1), HU.out.2.2.2.below (below_then hb hb1)⟩
  refine (HP.out _ (Below.refl _ _)).mono ?_
  rintro _ w1 ⟨ev, rfl, H1⟩
  have hk := H1.out.2.2.1.cell
  clear k0 HP
  go_wp2_with fail
  have HR : Hid (∀ y, Below w1.heap.size w1 y → Calls Tryd.prog 46 #[.pointer (some ⟨x, 1, none⟩)] y fun r w2 => r = .returned (.int .i64 3) ∧ Hid (Ev w2 U.heap.size ev 3 ∧ PR w2 x none 0 0 ∧ Off (PF x none) w w2 ∧ In W w2 (PF x none) ∧ Box w2 w.heap.size #[.int .i64 4, .int .i64 of, .int .i64 m, .int .i64 ee] ∧ Box w2 x #[.pointer none, .bool false, .int .i64 0, .int .i64 0])) := fun y hb => by
    have hy : Box y x #[.pointer none, .bool false, .int .i64 0, .int .i64 0] := H1.out.2.2.1.below hb
    refine (rBegin_no hy).mono ?_
    rintro _ w2 ⟨rfl, hw⟩
    subst w2
    have hb2 := below_then H1.out.2.1 hb
    exact ⟨rfl, H1.out.1.below hb, HU.out.1.below hb2, (Off.of_below HU.out.2.2.1).trans (Off.of_below hb2), HU.out.2.1.below hb2, HU.out.2.2.2.below hb2, hy⟩
  refine (HR.out _ (Below.refl _ _)).mono ?_
  rintro _ w2 ⟨rfl, H3⟩
  clear HR hk
  go_wp2_with fail
  refine (code_any (w := w2) H3.out.1 H3.out.2.2.2.1.here.err).mono ?_
  rintro _ w3 ⟨rfl, hb⟩
  have HB : Hid (Below w2.heap.size w2 w3) := hb
  clear hb
  go_wp2_with fail
  refine (num_any _ _).mono ?_
  rintro _ _ ⟨rfl, rfl⟩
  go_wp2_with fail
  go_ret
  exact ⟨by simp, ⟨_, _, H3.out.2.1.below HB.out⟩, H3.out.2.2.1.trans (Off.of_below HB.out), H3.out.2.2.2.1.below HB.out⟩
set_option maxHeartbeats 2000000 in
theorem rplays_last {W w : World} {x s : Nat} {e l : Int} (h : PR w x (some s) e l) (hI : In W w (PF x (some s))) (of m ee : Int) : Calls Tryd.prog 25 #[.pointer (some ⟨x, 0, none⟩), .agg #[.int .i64 1, .int .i64 of, .int .i64 m, .int .i64 ee]] w fun r w' => PlR W w x (some s) r w' := by
  have hU : Below w.heap.size w (w.alloc (.cells #[.int .i64 1, .int .i64 of, .int .i64 m, .int .i64 ee] 47)) := (Below.refl _ _).alloc (Nat.le_refl _) _
  have hO := Box.new w #[.int .i64 1, .int .i64 of, .int .i64 m, .int .i64 ee] 47
  obtain ⟨U, hUe⟩ : ∃ U, w.alloc (.cells #[.int .i64 1, .int .i64 of, .int .i64 m, .int .i64 ee] 47) = U := ⟨_, rfl⟩
  have HUe : Hid (w.alloc (.cells #[.int .i64 1, .int .i64 of, .int .i64 m, .int .i64 ee] 47) = U) := hUe
  rw [hUe] at hU hO
  have HU : Hid (PR U x (some s) e l ∧ In W U (PF x (some s)) ∧ Below w.heap.size w U ∧ Box U w.heap.size #[.int .i64 1, .int .i64 of, .int .i64 m, .int .i64 ee]) := ⟨h.below hU, hI.below hU, hU, hO⟩
  have hlt : x < w.heap.size := h.1.lt
  have HL : Hid (x < w.heap.size ∧ s < w.heap.size) := ⟨hlt, h.2.1.lt⟩
  have k0 : w.cell? ⟨x, 0, none⟩ = some (.pointer (some ⟨s, 0, none⟩)) := h.1.cell 0
  clear h hI hU hO hUe
  go_enter Tryd.func25, Tryd.ntmps25
  go_wp2_with fail
  rw [HUe.out]
  have h1c : ∀ v : Sub U, Calls Tryd.prog 17 #[.pointer (some ⟨s, 0, none⟩)] v.1 fun r x' => r = .returned (.int .i64 l) ∧ ∃ y : Sub U, x' = y.1 := fun v => by
    have hy : Rcv v.1 s e l := HU.out.1.2.1.off (P := fun _ => False) (Off.of_below v.2) id
    exact (pLast hy).mono fun _ x' ⟨h, hb⟩ => ⟨h, ⟨x', below_then v.2 hb⟩, rfl⟩
  have l0 := sub_box HU.out.1.1
  have lo := sub_box HU.out.2.2.2
  haveI hne : Nonempty (Sub U) := ⟨⟨U, Below.refl _ _⟩⟩
  clear k0
  refine wp_region_class (V := U) (Below.refl _ _) (by kernel_rfl) (by kernel_rfl) ?_
  repeat (go_big_quiet_step ((go_at_call 17; exact h1c _)))
  refine wpQuiet_nil ?_
  rintro wc ⟨xwc, rfl⟩
  have HB : Hid (Below U.heap.size U xwc.1) := xwc.2
  clear h1c l0 lo hne
  go_wp2_with fail
  go_ret
  exact ⟨by simp, ⟨_, _, HU.out.1.below HB.out⟩, (Off.of_below HU.out.2.2.1).trans (Off.of_below HB.out), HU.out.2.1.below HB.out⟩
set_option maxHeartbeats 2000000 in
theorem rplays_no_last {W w : World} {x : Nat} {e l : Int} (h : PR w x none e l) (hI : In W w (PF x none)) (of m ee : Int) : Calls Tryd.prog 25 #[.pointer (some ⟨x, 0, none⟩), .agg #[.int .i64 1, .int .i64 of, .int .i64 m, .int .i64 ee]] w fun r w' => PlR W w x none r w' := by
  have hU : Below w.heap.size w (w.alloc (.cells #[.int .i64 1, .int .i64 of, .int .i64 m, .int .i64 ee] 47)) := (Below.refl _ _).alloc (Nat.le_refl _) _
  have hO := Box.new w #[.int .i64 1, .int .i64 of, .int .i64 m, .int .i64 ee] 47
  obtain ⟨U, hUe⟩ : ∃ U, w.alloc (.cells #[.int .i64 1, .int .i64 of, .int .i64 m, .int .i64 ee] 47) = U := ⟨_, rfl⟩
  have HUe : Hid (w.alloc (.cells #[.int .i64 1, .int .i64 of, .int .i64 m, .int .i64 ee] 47) = U) := hUe
  rw [hUe] at hU hO
  have HU : Hid (PR U x none e l ∧ In W U (PF x none) ∧ Below w.heap.size w U ∧ Box U w.heap.size #[.int .i64 1, .int .i64 of, .int .i64 m, .int .i64 ee]) := ⟨h.below hU, hI.below hU, hU, hO⟩
  have hlt : x < w.heap.size := h.1.lt
  have k0 : w.cell? ⟨x, 0, none⟩ = some (.pointer none) := h.1.cell 0
  obtain ⟨he0, hl0⟩ := h.2
  subst he0 hl0
  clear h hI hU hO hUe
  go_enter Tryd.func25, Tryd.ntmps25
  go_wp2_with fail
  rw [HUe.out]
  have h1c : ∀ v : Sub U, Calls Tryd.prog 17 #[.pointer none] v.1 fun r x' => r = .returned (.int .i64 0) ∧ ∃ y : Sub U, x' = y.1 := fun v => by
    exact (pLast_no (Or.inl rfl)).mono fun _ x' ⟨h, hb⟩ => ⟨h, ⟨x', below_then v.2 hb⟩, rfl⟩
  have l0 := sub_box HU.out.1.1
  have lo := sub_box HU.out.2.2.2
  haveI hne : Nonempty (Sub U) := ⟨⟨U, Below.refl _ _⟩⟩
  clear k0
  refine wp_region_class (V := U) (Below.refl _ _) (by kernel_rfl) (by kernel_rfl) ?_
  repeat (go_big_quiet_step ((go_at_call 17; exact h1c _)))
  refine wpQuiet_nil ?_
  rintro wc ⟨xwc, rfl⟩
  have HB : Hid (Below U.heap.size U xwc.1) := xwc.2
  clear h1c l0 lo hne
  go_wp2_with fail
  go_ret
  exact ⟨by simp, ⟨_, _, HU.out.1.below HB.out⟩, (Off.of_below HU.out.2.2.1).trans (Off.of_below HB.out), HU.out.2.1.below HB.out⟩
set_option maxHeartbeats 2000000 in
theorem rplays_judge {W w : World} {x s : Nat} {e l : Int} (h : PR w x (some s) e l) (hI : In W w (PF x (some s))) (of m ee : Int) : Calls Tryd.prog 25 #[.pointer (some ⟨x, 0, none⟩), .agg #[.int .i64 2, .int .i64 of, .int .i64 m, .int .i64 ee]] w fun r w' => PlR W w x (some s) r w' := by
  have hU : Below w.heap.size w (w.alloc (.cells #[.int .i64 2, .int .i64 of, .int .i64 m, .int .i64 ee] 47)) := (Below.refl _ _).alloc (Nat.le_refl _) _
  have hO := Box.new w #[.int .i64 2, .int .i64 of, .int .i64 m, .int .i64 ee] 47
  obtain ⟨U, hUe⟩ : ∃ U, w.alloc (.cells #[.int .i64 2, .int .i64 of, .int .i64 m, .int .i64 ee] 47) = U := ⟨_, rfl⟩
  have HUe : Hid (w.alloc (.cells #[.int .i64 2, .int .i64 of, .int .i64 m, .int .i64 ee] 47) = U) := hUe
  rw [hUe] at hU hO
  have HU : Hid (PR U x (some s) e l ∧ In W U (PF x (some s)) ∧ Below w.heap.size w U ∧ Box U w.heap.size #[.int .i64 2, .int .i64 of, .int .i64 m, .int .i64 ee]) := ⟨h.below hU, hI.below hU, hU, hO⟩
  have hlt : x < w.heap.size := h.1.lt
  have HL : Hid (x < w.heap.size ∧ s < w.heap.size) := ⟨hlt, h.2.1.lt⟩
  have k0 : w.cell? ⟨x, 0, none⟩ = some (.pointer (some ⟨s, 0, none⟩)) := h.1.cell 0
  clear h hI hU hO hUe
  go_enter Tryd.func25, Tryd.ntmps25
  go_wp2_with fail
  rw [HUe.out]
  have h1c : ∀ v : Sub U, Calls Tryd.prog 14 #[.pointer (some ⟨s, 0, none⟩), .int .i64 m] v.1 fun r x' => r = .returned (.int .i64 (judK e l m)) ∧ ∃ y : Sub U, x' = y.1 := fun v => by
    have hy : Rcv v.1 s e l := HU.out.1.2.1.off (P := fun _ => False) (Off.of_below v.2) id
    exact (pJudge hy m).mono fun _ x' ⟨h, hb⟩ => ⟨h, ⟨x', below_then v.2 hb⟩, rfl⟩
  have h2c : ∀ v : Sub U, Calls Tryd.prog 44 #[.pointer (some ⟨x, 1, none⟩), .int .i64 m] v.1 fun r x' => r = .returned (.int .i64 (judK e l m)) ∧ ∃ y : Sub U, x' = y.1 := fun v => by
    have hz := HU.out.1.1.below v.2
    exact (rJudge_any hz m).mono fun _ x' ⟨h, hb⟩ => ⟨h, ⟨x', below_then v.2 hb⟩, rfl⟩
  have l0 := sub_box HU.out.1.1
  have lo := sub_box HU.out.2.2.2
  haveI hne : Nonempty (Sub U) := ⟨⟨U, Below.refl _ _⟩⟩
  clear k0
  refine wp_region_class (V := U) (Below.refl _ _) (by kernel_rfl) (by kernel_rfl) ?_
  repeat (go_big_quiet_step ((first | (go_at_call 14; exact h1c _) | (go_at_call 44; exact h2c _))))
  refine wpQuiet_nil ?_
  rintro wc ⟨xwc, rfl⟩
  have HB : Hid (Below U.heap.size U xwc.1) := xwc.2
  clear h1c l0 lo hne h2c
  go_wp2_with fail
  go_ret
  exact ⟨by simp, ⟨_, _, HU.out.1.below HB.out⟩, (Off.of_below HU.out.2.2.1).trans (Off.of_below HB.out), HU.out.2.1.below HB.out⟩
set_option maxHeartbeats 2000000 in
theorem rplays_no_judge {W w : World} {x : Nat} {e l : Int} (h : PR w x none e l) (hI : In W w (PF x none)) (of m ee : Int) : Calls Tryd.prog 25 #[.pointer (some ⟨x, 0, none⟩), .agg #[.int .i64 2, .int .i64 of, .int .i64 m, .int .i64 ee]] w fun r w' => PlR W w x none r w' := by
  have hU : Below w.heap.size w (w.alloc (.cells #[.int .i64 2, .int .i64 of, .int .i64 m, .int .i64 ee] 47)) := (Below.refl _ _).alloc (Nat.le_refl _) _
  have hO := Box.new w #[.int .i64 2, .int .i64 of, .int .i64 m, .int .i64 ee] 47
  obtain ⟨U, hUe⟩ : ∃ U, w.alloc (.cells #[.int .i64 2, .int .i64 of, .int .i64 m, .int .i64 ee] 47) = U := ⟨_, rfl⟩
  have HUe : Hid (w.alloc (.cells #[.int .i64 2, .int .i64 of, .int .i64 m, .int .i64 ee] 47) = U) := hUe
  rw [hUe] at hU hO
  have HU : Hid (PR U x none e l ∧ In W U (PF x none) ∧ Below w.heap.size w U ∧ Box U w.heap.size #[.int .i64 2, .int .i64 of, .int .i64 m, .int .i64 ee]) := ⟨h.below hU, hI.below hU, hU, hO⟩
  have hlt : x < w.heap.size := h.1.lt
  have k0 : w.cell? ⟨x, 0, none⟩ = some (.pointer none) := h.1.cell 0
  obtain ⟨he0, hl0⟩ := h.2
  subst he0 hl0
  clear h hI hU hO hUe
  go_enter Tryd.func25, Tryd.ntmps25
  go_wp2_with fail
  rw [HUe.out]
  have h1c : ∀ v : Sub U, Calls Tryd.prog 14 #[.pointer none, .int .i64 m] v.1 fun r x' => r = .returned (.int .i64 0) ∧ ∃ y : Sub U, x' = y.1 := fun v => by
    exact (pJudge_no (Or.inl rfl) m).mono fun _ x' ⟨h, hb⟩ => ⟨h, ⟨x', below_then v.2 hb⟩, rfl⟩
  have h2c : ∀ v : Sub U, Calls Tryd.prog 44 #[.pointer (some ⟨x, 1, none⟩), .int .i64 m] v.1 fun r x' => r = .returned (.int .i64 0) ∧ ∃ y : Sub U, x' = y.1 := fun v => by
    have hz := HU.out.1.1.below v.2
    exact (rJudge_no hz m).mono fun _ x' ⟨h, hb⟩ => ⟨h, v, hb⟩
  have l0 := sub_box HU.out.1.1
  have lo := sub_box HU.out.2.2.2
  haveI hne : Nonempty (Sub U) := ⟨⟨U, Below.refl _ _⟩⟩
  clear k0
  refine wp_region_class (V := U) (Below.refl _ _) (by kernel_rfl) (by kernel_rfl) ?_
  repeat (go_big_quiet_step ((first | (go_at_call 14; exact h1c _) | (go_at_call 44; exact h2c _))))
  refine wpQuiet_nil ?_
  rintro wc ⟨xwc, rfl⟩
  have HB : Hid (Below U.heap.size U xwc.1) := xwc.2
  clear h1c l0 lo hne h2c
  go_wp2_with fail
  go_ret
  exact ⟨by simp, ⟨_, _, HU.out.1.below HB.out⟩, (Off.of_below HU.out.2.2.1).trans (Off.of_below HB.out), HU.out.2.1.below HB.out⟩
set_option maxHeartbeats 2000000 in
theorem rplays_tell {W w : World} {x s : Nat} {e l : Int} (h : PR w x (some s) e l) (hI : In W w (PF x (some s))) (of m ee : Int) : Calls Tryd.prog 25 #[.pointer (some ⟨x, 0, none⟩), .agg #[.int .i64 5, .int .i64 of, .int .i64 m, .int .i64 ee]] w fun r w' => PlR W w x (some s) r w' := by
  have hU : Below w.heap.size w (w.alloc (.cells #[.int .i64 5, .int .i64 of, .int .i64 m, .int .i64 ee] 47)) := (Below.refl _ _).alloc (Nat.le_refl _) _
  have hO := Box.new w #[.int .i64 5, .int .i64 of, .int .i64 m, .int .i64 ee] 47
  obtain ⟨U, hUe⟩ : ∃ U, w.alloc (.cells #[.int .i64 5, .int .i64 of, .int .i64 m, .int .i64 ee] 47) = U := ⟨_, rfl⟩
  have HUe : Hid (w.alloc (.cells #[.int .i64 5, .int .i64 of, .int .i64 m, .int .i64 ee] 47) = U) := hUe
  rw [hUe] at hU hO
  have HU : Hid (PR U x (some s) e l ∧ In W U (PF x (some s)) ∧ Below w.heap.size w U ∧ Box U w.heap.size #[.int .i64 5, .int .i64 of, .int .i64 m, .int .i64 ee]) := ⟨h.below hU, hI.below hU, hU, hO⟩
  have hlt : x < w.heap.size := h.1.lt
  have HL : Hid (x < w.heap.size ∧ s < w.heap.size) := ⟨hlt, h.2.1.lt⟩
  have k0 : w.cell? ⟨x, 0, none⟩ = some (.pointer (some ⟨s, 0, none⟩)) := h.1.cell 0
  clear h hI hU hO hUe
  go_enter Tryd.func25, Tryd.ntmps25
  go_wp2_with fail
  rw [HUe.out]
  have h1c : ∀ v : Sub U, Calls Tryd.prog 15 #[.pointer (some ⟨s, 0, none⟩)] v.1 fun r x' => r = .returned (.int .i64 (tellV e)) ∧ ∃ y : Sub U, x' = y.1 := fun v => by
    have hy : Rcv v.1 s e l := HU.out.1.2.1.off (P := fun _ => False) (Off.of_below v.2) id
    exact (pTell hy).mono fun _ x' ⟨h, hb⟩ => ⟨h, ⟨x', below_then v.2 hb⟩, rfl⟩
  have h2c : ∀ v : Sub U, Calls Tryd.prog 47 #[.pointer (some ⟨x, 1, none⟩)] v.1 fun r x' => r = .returned (.int .i64 (tellV e)) ∧ ∃ y : Sub U, x' = y.1 := fun v => by
    have hz := HU.out.1.1.below v.2
    exact (rTell_any hz).mono fun _ x' ⟨h, hb⟩ => ⟨h, ⟨x', below_then v.2 hb⟩, rfl⟩
  have l0 := sub_box HU.out.1.1
  have lo := sub_box HU.out.2.2.2
  haveI hne : Nonempty (Sub U) := ⟨⟨U, Below.refl _ _⟩⟩
  clear k0
  refine wp_region_class (V := U) (Below.refl _ _) (by kernel_rfl) (by kernel_rfl) ?_
  repeat (go_big_quiet_step ((first | (go_at_call 15; exact h1c _) | (go_at_call 47; exact h2c _))))
  refine wpQuiet_nil ?_
  rintro wc ⟨xwc, rfl⟩
  have HB : Hid (Below U.heap.size U xwc.1) := xwc.2
  clear h1c l0 lo hne h2c
  go_wp2_with fail
  go_ret
  exact ⟨by simp, ⟨_, _, HU.out.1.below HB.out⟩, (Off.of_below HU.out.2.2.1).trans (Off.of_below HB.out), HU.out.2.1.below HB.out⟩
set_option maxHeartbeats 2000000 in
theorem rplays_no_tell {W w : World} {x : Nat} {e l : Int} (h : PR w x none e l) (hI : In W w (PF x none)) (of m ee : Int) : Calls Tryd.prog 25 #[.pointer (some ⟨x, 0, none⟩), .agg #[.int .i64 5, .int .i64 of, .int .i64 m, .int .i64 ee]] w fun r w' => PlR W w x none r w' := by
  have hU : Below w.heap.size w (w.alloc (.cells #[.int .i64 5, .int .i64 of, .int .i64 m, .int .i64 ee] 47)) := (Below.refl _ _).alloc (Nat.le_refl _) _
  have hO := Box.new w #[.int .i64 5, .int .i64 of, .int .i64 m, .int .i64 ee] 47
  obtain ⟨U, hUe⟩ : ∃ U, w.alloc (.cells #[.int .i64 5, .int .i64 of, .int .i64 m, .int .i64 ee] 47) = U := ⟨_, rfl⟩
  have HUe : Hid (w.alloc (.cells #[.int .i64 5, .int .i64 of, .int .i64 m, .int .i64 ee] 47) = U) := hUe
  rw [hUe] at hU hO
  have HU : Hid (PR U x none e l ∧ In W U (PF x none) ∧ Below w.heap.size w U ∧ Box U w.heap.size #[.int .i64 5, .int .i64 of, .int .i64 m, .int .i64 ee]) := ⟨h.below hU, hI.below hU, hU, hO⟩
  have hlt : x < w.heap.size := h.1.lt
  have k0 : w.cell? ⟨x, 0, none⟩ = some (.pointer none) := h.1.cell 0
  obtain ⟨he0, hl0⟩ := h.2
  subst he0 hl0
  clear h hI hU hO hUe
  go_enter Tryd.func25, Tryd.ntmps25
  go_wp2_with fail
  rw [HUe.out]
  have h1c : ∀ v : Sub U, Calls Tryd.prog 15 #[.pointer none] v.1 fun r x' => r = .returned (.int .i64 0) ∧ ∃ y : Sub U, x' = y.1 := fun v => by
    exact (pTell_no (Or.inl rfl)).mono fun _ x' ⟨h, hb⟩ => ⟨h, ⟨x', below_then v.2 hb⟩, rfl⟩
  have h2c : ∀ v : Sub U, Calls Tryd.prog 47 #[.pointer (some ⟨x, 1, none⟩)] v.1 fun r x' => r = .returned (.int .i64 0) ∧ ∃ y : Sub U, x' = y.1 := fun v => by
    have hz := HU.out.1.1.below v.2
    exact (rTell_any hz).mono fun _ x' ⟨h, hb⟩ => ⟨h, ⟨x', below_then v.2 hb⟩, rfl⟩
  have l0 := sub_box HU.out.1.1
  have lo := sub_box HU.out.2.2.2
  haveI hne : Nonempty (Sub U) := ⟨⟨U, Below.refl _ _⟩⟩
  clear k0
  refine wp_region_class (V := U) (Below.refl _ _) (by kernel_rfl) (by kernel_rfl) ?_
  repeat (go_big_quiet_step ((first | (go_at_call 15; exact h1c _) | (go_at_call 47; exact h2c _))))
  refine wpQuiet_nil ?_
  rintro wc ⟨xwc, rfl⟩
  have HB : Hid (Below U.heap.size U xwc.1) := xwc.2
  clear h1c l0 lo hne h2c
  go_wp2_with fail
  go_ret
  exact ⟨by simp, ⟨_, _, HU.out.1.below HB.out⟩, (Off.of_below HU.out.2.2.1).trans (Off.of_below HB.out), HU.out.2.1.below HB.out⟩
set_option maxHeartbeats 2000000 in
theorem rplays_exp {W w : World} {x s : Nat} {e l kd : Int} (h : PR w x (some s) e l) (hI : In W w (PF x (some s))) (of m ee : Int) (h1 : (kd == 1) = false) (h2 : (kd == 2) = false) (h3 : (kd == 3) = false) (h4 : (kd == 4) = false) (h5 : (kd == 5) = false) (h6 : (kd == 6) = false) : Calls Tryd.prog 25 #[.pointer (some ⟨x, 0, none⟩), .agg #[.int .i64 kd, .int .i64 of, .int .i64 m, .int .i64 ee]] w fun r w' => PlR W w x (some s) r w' := by
  have hU : Below w.heap.size w (w.alloc (.cells #[.int .i64 kd, .int .i64 of, .int .i64 m, .int .i64 ee] 47)) := (Below.refl _ _).alloc (Nat.le_refl _) _
  have hO := Box.new w #[.int .i64 kd, .int .i64 of, .int .i64 m, .int .i64 ee] 47
  obtain ⟨U, hUe⟩ : ∃ U, w.alloc (.cells #[.int .i64 kd, .int .i64 of, .int .i64 m, .int .i64 ee] 47) = U := ⟨_, rfl⟩
  have HUe : Hid (w.alloc (.cells #[.int .i64 kd, .int .i64 of, .int .i64 m, .int .i64 ee] 47) = U) := hUe
  rw [hUe] at hU hO
  have HU : Hid (PR U x (some s) e l ∧ In W U (PF x (some s)) ∧ Below w.heap.size w U ∧ Box U w.heap.size #[.int .i64 kd, .int .i64 of, .int .i64 m, .int .i64 ee]) := ⟨h.below hU, hI.below hU, hU, hO⟩
  have hlt : x < w.heap.size := h.1.lt
  have HL : Hid (x < w.heap.size ∧ s < w.heap.size) := ⟨hlt, h.2.1.lt⟩
  have k0 : w.cell? ⟨x, 0, none⟩ = some (.pointer (some ⟨s, 0, none⟩)) := h.1.cell 0
  clear h hI hU hO hUe
  go_enter Tryd.func25, Tryd.ntmps25
  go_wp2_with fail
  rw [HUe.out]
  have h1c : ∀ v : Sub U, Calls Tryd.prog 18 #[.pointer (some ⟨s, 0, none⟩)] v.1 fun r x' => r = .returned (.int .i64 e) ∧ ∃ y : Sub U, x' = y.1 := fun v => by
    have hy : Rcv v.1 s e l := HU.out.1.2.1.off (P := fun _ => False) (Off.of_below v.2) id
    exact (pExp hy).mono fun _ x' ⟨h, hb⟩ => ⟨h, ⟨x', below_then v.2 hb⟩, rfl⟩
  have l0 := sub_box HU.out.1.1
  have lo := sub_box HU.out.2.2.2
  haveI hne : Nonempty (Sub U) := ⟨⟨U, Below.refl _ _⟩⟩
  clear k0
  refine wp_region_class (V := U) (Below.refl _ _) (by kernel_rfl) (by kernel_rfl) ?_
  repeat (go_big_quiet_step ((go_at_call 18; exact h1c _)))
  refine wpQuiet_nil ?_
  rintro wc ⟨xwc, rfl⟩
  have HB : Hid (Below U.heap.size U xwc.1) := xwc.2
  clear h1c l0 lo hne
  go_wp2_with fail
  go_ret
  exact ⟨by simp, ⟨_, _, HU.out.1.below HB.out⟩, (Off.of_below HU.out.2.2.1).trans (Off.of_below HB.out), HU.out.2.1.below HB.out⟩
set_option maxHeartbeats 2000000 in
theorem rplays_no_exp {W w : World} {x : Nat} {e l kd : Int} (h : PR w x none e l) (hI : In W w (PF x none)) (of m ee : Int) (h1 : (kd == 1) = false) (h2 : (kd == 2) = false) (h3 : (kd == 3) = false) (h4 : (kd == 4) = false) (h5 : (kd == 5) = false) (h6 : (kd == 6) = false) : Calls Tryd.prog 25 #[.pointer (some ⟨x, 0, none⟩), .agg #[.int .i64 kd, .int .i64 of, .int .i64 m, .int .i64 ee]] w fun r w' => PlR W w x none r w' := by
  have hU : Below w.heap.size w (w.alloc (.cells #[.int .i64 kd, .int .i64 of, .int .i64 m, .int .i64 ee] 47)) := (Below.refl _ _).alloc (Nat.le_refl _) _
  have hO := Box.new w #[.int .i64 kd, .int .i64 of, .int .i64 m, .int .i64 ee] 47
  obtain ⟨U, hUe⟩ : ∃ U, w.alloc (.cells #[.int .i64 kd, .int .i64 of, .int .i64 m, .int .i64 ee] 47) = U := ⟨_, rfl⟩
  have HUe : Hid (w.alloc (.cells #[.int .i64 kd, .int .i64 of, .int .i64 m, .int .i64 ee] 47) = U) := hUe
  rw [hUe] at hU hO
  have HU : Hid (PR U x none e l ∧ In W U (PF x none) ∧ Below w.heap.size w U ∧ Box U w.heap.size #[.int .i64 kd, .int .i64 of, .int .i64 m, .int .i64 ee]) := ⟨h.below hU, hI.below hU, hU, hO⟩
  have hlt : x < w.heap.size := h.1.lt
  have k0 : w.cell? ⟨x, 0, none⟩ = some (.pointer none) := h.1.cell 0
  obtain ⟨he0, hl0⟩ := h.2
  subst he0 hl0
  clear h hI hU hO hUe
  go_enter Tryd.func25, Tryd.ntmps25
  go_wp2_with fail
  rw [HUe.out]
  have h1c : ∀ v : Sub U, Calls Tryd.prog 18 #[.pointer none] v.1 fun r x' => r = .returned (.int .i64 0) ∧ ∃ y : Sub U, x' = y.1 := fun v => by
    exact (pExp_no (Or.inl rfl)).mono fun _ x' ⟨h, hb⟩ => ⟨h, ⟨x', below_then v.2 hb⟩, rfl⟩
  have l0 := sub_box HU.out.1.1
  have lo := sub_box HU.out.2.2.2
  haveI hne : Nonempty (Sub U) := ⟨⟨U, Below.refl _ _⟩⟩
  clear k0
  refine wp_region_class (V := U) (Below.refl _ _) (by kernel_rfl) (by kernel_rfl) ?_
  repeat (go_big_quiet_step ((go_at_call 18; exact h1c _)))
  refine wpQuiet_nil ?_
  rintro wc ⟨xwc, rfl⟩
  have HB : Hid (Below U.heap.size U xwc.1) := xwc.2
  clear h1c l0 lo hne
  go_wp2_with fail
  go_ret
  exact ⟨by simp, ⟨_, _, HU.out.1.below HB.out⟩, (Off.of_below HU.out.2.2.1).trans (Off.of_below HB.out), HU.out.2.1.below HB.out⟩
theorem rplays_any {W w : World} {x : Nat} {so : Option Nat} {e l : Int} (h : PR w x so e l) (hI : In W w (PF x so)) (kd of m ee : Int) : Calls Tryd.prog 25 #[.pointer (some ⟨x, 0, none⟩), .agg #[.int .i64 kd, .int .i64 of, .int .i64 m, .int .i64 ee]] w fun r w' => PlR W w x so r w' := by
  by_cases h1 : kd = 1
  · subst h1; cases so with
    | none => exact rplays_no_last h hI of m ee
    | some s => exact rplays_last h hI of m ee
  by_cases h2 : kd = 2
  · subst h2; cases so with
    | none => exact rplays_no_judge h hI of m ee
    | some s => exact rplays_judge h hI of m ee
  by_cases h3 : kd = 3
  · subst h3; cases so with
    | none => exact rplays_no_accept h hI of m ee
    | some s => exact rplays_accept h hI of m ee
  by_cases h4 : kd = 4
  · subst h4; cases so with
    | none => exact rplays_no_reset h hI of m ee
    | some s => exact rplays_reset h hI of m ee
  by_cases h5 : kd = 5
  · subst h5; cases so with
    | none => exact rplays_no_tell h hI of m ee
    | some s => exact rplays_tell h hI of m ee
  by_cases h6 : kd = 6
  · subst h6; cases so with
    | none => exact rplays_no_now h hI of m ee
    | some s => exact rplays_now h hI of m ee
  have g1 : (kd == 1) = false := by simpa using h1
  have g2 : (kd == 2) = false := by simpa using h2
  have g3 : (kd == 3) = false := by simpa using h3
  have g4 : (kd == 4) = false := by simpa using h4
  have g5 : (kd == 5) = false := by simpa using h5
  have g6 : (kd == 6) = false := by simpa using h6
  cases so with
  | none => exact rplays_no_exp h hI of m ee g1 g2 g3 g4 g5 g6
  | some s => exact rplays_exp h hI of m ee g1 g2 g3 g4 g5 g6
end Go.Proofs.YtnabpjfdpelejaaDoor
