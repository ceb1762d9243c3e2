/-
  The law's sent, where no sender is made.
-/
import Derived.Test.YtnabpjfdpelejaaDoorSqSend
namespace Go.Proofs.YtnabpjfdpelejaaDoor
open Go.RowKit

theorem stq_no {w V y : World} (h1 : Below w.heap.size w V) (h2 : Below V.heap.size V y) {x : Nat} {r : Value} (hx : V.heap.size ≤ x) (hB : Box y x #[.pointer none, .bool false, .int .i64 0]) (hr : r = .tuple #[.pointer (some ⟨x, 0, none⟩), .bool true]) : StQ w (.returned r) y :=
  ⟨x, none, 0, by rw [hr], fun k hk => (by
    have := h1.size
    rcases hk with rfl | hk
    · omega
    · cases hk), ⟨hB, rfl⟩, below_then h1 h2⟩
set_option maxHeartbeats 4000000 in
theorem sent_no (n : Int) (h : ¬ SOk n) (w : World) (hV : PV w) : Calls Tryd.prog 19 #[.int .i64 n] w fun r w' => StQ w r w' := by
  have e1 : newC n = 2 := if_neg h
  have e2 : setS 0 n = 0 := if_neg h
  go_enter Tryd.func19, Tryd.ntmps19
  go_wp2_with fail
  refine (pNewS_no n h w hV).mono ?_
  rintro _ w1 ⟨ev, rfl, hev, hb⟩
  have H1 : Hid (Ev w1 w.heap.size ev 2 ∧ Below w.heap.size w w1) := ⟨hev, hb⟩
  have HV : Hid (PV w) := hV
  clear hev hb hV h
  go_wp2_with fail
  refine (rNewS_any n _).mono ?_
  rw [e1, e2]
  rintro _ w2 ⟨rfl, hb⟩
  have H2 : Hid (Below w1.heap.size w1 w2) := hb
  clear hb e1 e2
  have hbV : Below w2.heap.size w2 (w2.alloc (.cells #[.bool false, .int .i64 0] 86)) := (Below.refl _ _).alloc (Nat.le_refl _) _
  have hBV := Box.new w2 #[.bool false, .int .i64 0] 86
  obtain ⟨V, hVe⟩ : ∃ V, w2.alloc (.cells #[.bool false, .int .i64 0] 86) = V := ⟨_, rfl⟩
  have HVe : Hid (w2.alloc (.cells #[.bool false, .int .i64 0] 86) = V) := hVe
  rw [hVe] at hbV hBV
  have HQ : Hid (Below w.heap.size w V ∧ Box V w2.heap.size #[.bool false, .int .i64 0]) := ⟨below_then H1.out.2 (below_then H2.out hbV), hBV⟩
  have HC : Hid (∀ x, Below V.heap.size V x → Calls Tryd.prog 11 #[ev] x fun r x' => r = .returned (.int .i64 2) ∧ Hid (Below V.heap.size V x' ∧ Below x.heap.size x x')) := fun x hx =>
    (code_any ((H1.out.1.below (below_then H2.out hbV)).below hx) ((HV.out.below HQ.out.1).below hx).err).mono fun _ _ ⟨h, hb⟩ => ⟨h, below_then hx hb, hb⟩
  have KC1 : Hid (∀ x, Below V.heap.size V x → ∀ o, x.cell? ⟨w2.heap.size, o, none⟩ = (#[.bool false, .int .i64 0] : Array Value)[o]?) := fun x hx o => (hBV.below hx).cell o
  have hlt : w2.heap.size < V.heap.size := hBV.lt
  clear hVe hbV hBV
  go_wp2_with fail
  rw [HVe.out]
  have hq0 : ∀ o, V.cell? ⟨w2.heap.size, o, none⟩ = (#[.bool false, .int .i64 0] : Array Value)[o]? := HQ.out.2.cell
  go_region_law (go_simp; first | (go_at_call 11; refine (HC.out _ ?_).mono ?_; (repeat' (first | exact Below.refl _ _ | exact Below.drew (Below.refl _ _) | exact Below.drew (bl_alloc (Below.refl _ _) _) | exact bl_alloc (Below.refl _ _) _ | exact bl_alloc (Below.drew (Below.refl _ _)) _)); rintro _ w5 ⟨rfl, hh5⟩; have hq5 := KC1.out w5 hh5.out.1; have hl5 := Nat.lt_of_lt_of_le hlt hh5.out.1.size; go_wp2_with fail) | (go_at_call 38; refine (num_any _ _).mono ?_; rintro _ _ ⟨rfl, rfl⟩; go_wp2_with fail))
  all_goals
    go_wp2_with fail
    first
      | refine bodyPost_ret ?_ rfl (stq_no HQ.out.1 (bl_alloc (And.left (Hid.out (by assumption : Hid (Below V.heap.size V _ ∧ Below _ _ _)))) _) (And.left (Hid.out (by assumption : Hid (Below V.heap.size V _ ∧ Below _ _ _)))).size (Box.new _ _ _) rfl)
      | refine bodyPost_ret ?_ rfl (stq_no HQ.out.1 (And.left (Hid.out (by assumption : Hid (Below V.heap.size V _ ∧ Below _ _ _)))) (Nat.le_refl V.heap.size) (Box.below (Box.drew (Box.new V _ _)) (And.right (Hid.out (by assumption : Hid (Below V.heap.size V _ ∧ Below _ _ _))))) rfl)
    simp [results, Tryd.results19, go_sem, Act.put]
theorem sent_any (n : Int) (w : World) (hV : PV w) : Calls Tryd.prog 19 #[.int .i64 n] w fun r w' => StQ w r w' := by
  by_cases h : SOk n
  · exact sent_ok n h w hV
  · exact sent_no n h w hV
end Go.Proofs.YtnabpjfdpelejaaDoor
