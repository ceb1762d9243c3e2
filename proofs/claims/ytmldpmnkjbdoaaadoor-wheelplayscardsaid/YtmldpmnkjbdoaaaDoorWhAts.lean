/-
  Wheel.At of a wheel that New made.
-/
import Derived.Test.YtmldpmnkjbdoaaaDoorWhNextA
import Derived.Test.YtmldpmnkjbdoaaaDoorWhRef4
namespace Go.Proofs.YtmldpmnkjbdoaaaDoor
open Go.RowKit

theorem pl_ne {k : Int} {S : List Tm} (h : plI k S = -1) : ∀ x ∈ S, x.1 ≠ k := fun x hx e => by
  have h1 := filter_key h
  have h2 := List.filter_eq_self.1 h1 x hx
  unfold keyNe at h2
  exact of_decide_eq_true h2 e
set_option maxHeartbeats 1000000 in
theorem ats_no {w : World} {B W now : Nat} {F : Nat → Prop} {S : List Tm} (h : Whl w B W now S F) {k : Int} (hky : KeyI k) (hq : plI k S = -1) :
    Calls Tryd.prog 24 #[.pointer (some ⟨W, 0, none⟩), .int .i64 k] w fun e w' => e = .returned (.tuple #[.int .i64 0, .bool false]) ∧ Below w.heap.size w w' := by
  obtain ⟨T, M, v, L, f, n, hW, hB, hT, hk, hh, hp, hl, hF⟩ := h
  have c := wcell hW
  have hm := made_yes c
  have HN : Hid (type_of% (at_no hT hky (hk.none_ fun x hx => pl_ne hq x (hp.subset hx)))) := at_no hT hky (hk.none_ fun x hx => pl_ne hq x (hp.subset hx))
  clear hT hk hh hp hl hF hW hq
  go_enter Tryd.func24, Tryd.ntmps24
  go_wp2_with (first | (go_at_call 27; refine hm.mono ?_; rintro _ w9 ⟨rfl, h9⟩; subst w9))
  refine HN.out.mono ?_
  rintro _ w1 ⟨rfl, hb⟩
  go_wp2_with fail
  refine bodyPost_ret ?_ rfl ⟨rfl, hb⟩
  simp [results, Tryd.results24, go_sem]
set_option maxHeartbeats 1000000 in
theorem ats_yes {w : World} {B W now : Nat} {F : Nat → Prop} {S : List Tm} (h : Whl w B W now S F) {k : Int} (hky : KeyI k) {t : Nat} (hx : (k, t) ∈ S) :
    Calls Tryd.prog 24 #[.pointer (some ⟨W, 0, none⟩), .int .i64 k] w fun e w' => e = .returned (.tuple #[.int .i64 (t : Int), .bool true]) ∧ Below w.heap.size w w' := by
  obtain ⟨T, M, v, L, f, n, hW, hB, hT, hk, hh, hp, hl, hF⟩ := h
  have c := wcell hW
  have hm := made_yes c
  have HN : Hid (Calls Tryd.prog 37 #[.pointer (some ⟨T, 0, none⟩), .int .i64 k] w fun e w' => e = .returned (.tuple #[.int .i64 (t : Int), .bool true]) ∧ Below w.heap.size w w') := by
    obtain ⟨j, hj, hxj⟩ := mem_allL.1 (hp.symm.subset hx)
    obtain ⟨p, hpx⟩ := List.getElem?_of_mem hxj
    have hf : f k = some (j, p) := (hk.mp k (fun x hx => by cases hx) j p).2 ⟨hj, t, hpx⟩
    have e : 64 * (j / 64) + j % 64 = j := by omega
    exact at_yes (l := j / 64) (s := j % 64) hT hky (by omega) (by omega) (by rw [e]; exact hf) (by rw [e]; exact hpx)
  clear hT hk hh hp hl hF hW hx
  go_enter Tryd.func24, Tryd.ntmps24
  go_wp2_with (first | (go_at_call 27; refine hm.mono ?_; rintro _ w9 ⟨rfl, h9⟩; subst w9))
  refine HN.out.mono ?_
  rintro _ w1 ⟨rfl, hb⟩
  go_wp2_with fail
  refine bodyPost_ret ?_ rfl ⟨rfl, hb⟩
  simp [results, Tryd.results24, go_sem]
end Go.Proofs.YtmldpmnkjbdoaaaDoor
