import Derived.Test.YtdglnobapnohmaaDoorWhPlC
import Derived.Deep.RegionHeld3
import Derived.Test.YtdglnobapnohmaaDoorWhPl1f
import Derived.Test.YtdglnobapnohmaaDoorWhPl1
import Derived.Test.YtdglnobapnohmaaDoorWhPl3
import Derived.Test.YtdglnobapnohmaaDoorWhPl5
import Derived.Test.YtdglnobapnohmaaDoorWhPl6
/-
  The law's plays of both wheels: one kind.
-/
namespace Go.Proofs.YtdglnobapnohmaaDoor
open Go.RowKit

set_option maxRecDepth 100000 in
set_option maxHeartbeats 2000000 in
theorem pl_7 {w0 X : World} {W rb now : Nat} {S : List Tm} {F : Nat → Prop} (h : PI w0 X W rb now S F) (ky : Int) (s : ByteArray) (tk : Int) : Calls Tryd.prog 20 #[.pointer (some ⟨W, 0, none⟩), .pointer (some ⟨rb, 0, none⟩), .agg #[.int .i64 (7), .int .i64 ky, .string s, .int .i64 tk]] X fun e w' => e = .returned (.bool true) ∧ PQ w0 X F W rb w' := by
  have HI : Hid (type_of% (Jq.start (7) ky s tk h)) := Jq.start (7) ky s tk h
  have HL : Hid (S.length ≤ 4096 ∧ Uniq S) := ⟨h.wh.held.2, h.wh.held.1.uq⟩
  have co := HI.out.o
  have ck := HI.out.k
  clear h
  go_enter Tryd.func20, Tryd.ntmps20
  go_wp2_with fail
  generalize ((X.alloc (.cells #[.int .i64 (7), .int .i64 ky, .string s, .int .i64 tk] 44)).alloc (.cells #[.int .i64 ky, .string ⟨#[]⟩] 98)) = V at HI co ck ⊢
  obtain ⟨a, n, c, HRW⟩ : ∃ a n c, Hid (RWl V rb now S a n c) := by obtain ⟨F', g⟩ := HI.out; obtain ⟨a, n, c, r⟩ := g.rw; exact ⟨a, n, c, r⟩
  have cr := HRW.out.cell
  obtain ⟨N, hN⟩ : ∃ N : Int, N = (now : Int) := ⟨_, rfl⟩
  rw [← hN] at cr
  have HS : Hid (∀ z, Below V.heap.size V z → Calls Tryd.prog 21 #[.pointer (some ⟨W, 0, none⟩)] z fun e w' => ∃ a1 n1 c1, e = .returned (.slice a1 n1 c1) ∧ Hid (NmS w0 X F W rb (7) ky s tk now S S (.slice a1 n1 c1) (.slice a n c) w' ∧ RWl w' rb now S a n c) ∧ (∀ o, w'.cell? ⟨rb, o, none⟩ = (#[.bool true, .int .i64 N, .slice a n c] : Array Value)[o]?)) := fun z hz => (jall (HI.out.below hz) (HRW.out.below hz)).mono fun e w' ⟨a1, n1, c1, he, hh⟩ => ⟨a1, n1, c1, he, ⟨hh.out.1, (HRW.out.below hz).below hh.out.2⟩, by rw [hN]; exact ((HRW.out.below hz).below hh.out.2).cell⟩
  have HR : Hid (∀ z a1 n1 c1, NmS w0 X F W rb (7) ky s tk now S S (.slice a1 n1 c1) (.slice a n c) z → RWl z rb now S a n c → Calls Tryd.prog 18 #[.slice a1 n1 c1] z fun e w' => ∃ a1 n1 c1, e = .returned (.slice a1 n1 c1) ∧ Hid (LkS w0 X F W rb (7) ky s tk now S S (.slice a1 n1 c1) (.slice a n c) w' ∧ RWl w' rb now S a n c) ∧ (∀ o, w'.cell? ⟨rb, o, none⟩ = (#[.bool true, .int .i64 N, .slice a n c] : Array Value)[o]?)) := fun z a1 n1 c1 hz hr => (jnum hz).mono fun e w' ⟨a1, n1, c1, he, hh⟩ => ⟨a1, n1, c1, he, ⟨hh.out.1, hr.below hh.out.2⟩, by rw [hN]; exact (hr.below hh.out.2).cell⟩
  have HT : Hid (∀ z a1 n1 c1, LkS w0 X F W rb (7) ky s tk now S S (.slice a1 n1 c1) (.slice a n c) z → RWl z rb now S a n c → Calls Tryd.prog 17 #[.slice a1 n1 c1, .slice a n c] z fun e w' => e = .returned (.bool true) ∧ Hid (PQ w0 X F W rb w') ∧ (∀ o, w'.cell? ⟨rb, o, none⟩ = (#[.bool true, .int .i64 N, .slice a n c] : Array Value)[o]?)) := fun z a1 n1 c1 hz hr => (jlike hz).mono fun e w' ⟨he, hh⟩ => by
    obtain ⟨h1, q, h2⟩ := hh.out
    refine ⟨he, h1, ?_⟩
    rw [h2, hN]
    exact (hr.below (below_drewN (Below.refl _ _) q)).cell
  clear HI HRW hN HL
  go_region_held3 (fun z => (∀ o, z.cell? ⟨rb, o, none⟩ = (#[.bool true, .int .i64 N, .slice a n c] : Array Value)[o]?)) (simp [*]) (first | (go_at_call 21; refine (HS.out _ ?_).mono ?_; (first | (with_reducible exact Below.refl _ _) | exact Below.drew (Below.refl _ _) | exact below_drewN (Below.refl _ _) _); clear HS; rintro _ w1 ⟨a1, n1, c1, rfl, H1, s1⟩) | (go_at_call 18; refine (HR.out _ a1 n1 c1 ?_ ?_).mono ?_; (first | (with_reducible exact H1.out.1) | (with_reducible exact H1.out.1.drew) | exact H1.out.1.drewN _); (first | exact H1.out.2 | exact H1.out.2.below (Below.drew (Below.refl _ _)) | exact H1.out.2.below (below_drewN (Below.refl _ _) _)); clear HR; rintro _ w2 ⟨a2, n2, c2, rfl, H2, s2⟩) | (go_at_call 17; refine (HT.out _ a2 n2 c2 ?_ ?_).mono ?_; (first | (with_reducible exact H2.out.1) | (with_reducible exact H2.out.1.drew) | exact H2.out.1.drewN _); (first | exact H2.out.2 | exact H2.out.2.below (Below.drew (Below.refl _ _)) | exact H2.out.2.below (below_drewN (Below.refl _ _) _)); clear HT; rintro _ w3 ⟨rfl, H3, s3⟩))
  go_wp2_with fail
  go_ret
  exact ⟨rfl, H3.out⟩
end Go.Proofs.YtdglnobapnohmaaDoor

/-
  The law's plays of both wheels: one kind.
-/
namespace Go.Proofs.YtdglnobapnohmaaDoor
open Go.RowKit

set_option maxRecDepth 100000 in
set_option maxHeartbeats 2000000 in
theorem pl_o {w0 X : World} {W rb now : Nat} {S : List Tm} {F : Nat → Prop} (h : PI w0 X W rb now S F) (kd : Int) (ky : Int) (s : ByteArray) (tk : Int) (q1 : (kd == 1) = false) (q2 : (kd == 2) = false) (q3 : (kd == 3) = false) (q4 : (kd == 4) = false) (q5 : (kd == 5) = false) (q6 : (kd == 6) = false) (q7 : (kd == 7) = false) : Calls Tryd.prog 20 #[.pointer (some ⟨W, 0, none⟩), .pointer (some ⟨rb, 0, none⟩), .agg #[.int .i64 kd, .int .i64 ky, .string s, .int .i64 tk]] X fun e w' => e = .returned (.bool true) ∧ PQ w0 X F W rb w' := by
  have HI : Hid (type_of% (Jq.start kd ky s tk h)) := Jq.start kd ky s tk h
  have HL : Hid (S.length ≤ 4096 ∧ Uniq S) := ⟨h.wh.held.2, h.wh.held.1.uq⟩
  have co := HI.out.o
  have ck := HI.out.k
  clear h
  go_enter Tryd.func20, Tryd.ntmps20
  go_wp2_with fail
  go_ret
  exact ⟨rfl, HI.out.fin⟩
end Go.Proofs.YtdglnobapnohmaaDoor

/-
  The law's plays of both wheels, whatever the call.
-/
namespace Go.Proofs.YtdglnobapnohmaaDoor
open Go.RowKit

theorem pl_any {w0 X : World} {W rb now : Nat} {S : List Tm} {F : Nat → Prop} (h : PI w0 X W rb now S F) (hE : ErrType w0) (kd ky : Int) (s : ByteArray) (tk : Int) (hky : KeyI ky) : Calls Tryd.prog 20 #[.pointer (some ⟨W, 0, none⟩), .pointer (some ⟨rb, 0, none⟩), .agg #[.int .i64 kd, .int .i64 ky, .string s, .int .i64 tk]] X fun e w' => e = .returned (.bool true) ∧ PQ w0 X F W rb w' := by
  by_cases q1 : kd = 1
  · subst q1
    by_cases hc : setE now S ky tk = 0
    · exact pl_1 h ky s tk hky hc
    · exact pl_1f h ky s tk hE hky rfl (by simpa using hc)
  by_cases q2 : kd = 2
  · subst q2; exact pl_2 h ky s tk hky
  by_cases q3 : kd = 3
  · subst q3
    by_cases ht : tk < (now : Int) ∨ 1099511627776 < tk
    · exact pl_3f h ky s tk hE ht
    · exact pl_3 h ky s tk tk.toNat (by omega) (by omega) (by unfold MaxT; omega)
  by_cases q4 : kd = 4
  · subst q4; exact pl_4 h ky s tk
  by_cases q5 : kd = 5
  · subst q5; exact pl_5 h ky s tk hky
  by_cases q6 : kd = 6
  · subst q6; exact pl_6 h ky s tk
  by_cases q7 : kd = 7
  · subst q7; exact pl_7 h ky s tk
  exact pl_o h kd ky s tk (by simpa using q1) (by simpa using q2) (by simpa using q3) (by simpa using q4) (by simpa using q5) (by simpa using q6) (by simpa using q7)
end Go.Proofs.YtdglnobapnohmaaDoor
