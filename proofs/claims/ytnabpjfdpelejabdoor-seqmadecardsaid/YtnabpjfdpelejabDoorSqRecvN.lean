/-
  The law's received, where no receiver is made.
-/
import Derived.Test.YtnabpjfdpelejabDoorSqRecv
namespace Go.Proofs.YtnabpjfdpelejabDoor
open Go.RowKit

theorem rvq_no {w V y : World} (h1 : Below w.heap.size w V) (h2 : Below V.heap.size V y) {x : Nat} {r : Value} (hx : V.heap.size ≤ x) (hB : Box y x #[.pointer none, .bool false, .int .i64 0, .int .i64 0]) (hr : r = .tuple #[.pointer (some ⟨x, 0, none⟩), .bool true]) : RvQ w (.returned r) y :=
  ⟨x, none, 0, 0, by rw [hr], fun k hk => (by
    have := h1.size
    rcases hk with rfl | hk
    · omega
    · cases hk), ⟨hB, rfl, rfl⟩, below_then h1 h2⟩
set_option maxHeartbeats 4000000 in
theorem received_no (e l : Int) (h : newR e l = 2) (w : World) (hV : PV w) : Calls Tryd.prog 5 #[.int .i64 e, .int .i64 l] w fun r w' => RvQ w r w' := by
  have e1 : newR e l = 2 := h
  have e2 : rE e l = 0 := if_neg (by rw [h]; decide)
  have e3 : rL e l = 0 := if_neg (by rw [h]; decide)
  go_enter Tryd.func5, Tryd.ntmps5
  go_wp2_with fail
  refine (pNewR_no e l h w hV).mono ?_
  rintro _ w1 ⟨ev, rfl, hev, hb⟩
  have H1 : Hid (Ev w1 w.heap.size ev 2 ∧ Below w.heap.size w w1) := ⟨hev, hb⟩
  have HV : Hid (PV w) := hV
  clear hev hb hV h
  go_wp2_with fail
  refine (rNewR_any e l _).mono ?_
  rw [e1, e2, e3]
  rintro _ w2 ⟨rfl, hb⟩
  have H2 : Hid (Below w1.heap.size w1 w2) := hb
  clear hb e1 e2 e3
  have hbV : Below w2.heap.size w2 (w2.alloc (.cells #[.bool false, .int .i64 0, .int .i64 0] 61)) := (Below.refl _ _).alloc (Nat.le_refl _) _
  have hBV := Box.new w2 #[.bool false, .int .i64 0, .int .i64 0] 61
  obtain ⟨V, hVe⟩ : ∃ V, w2.alloc (.cells #[.bool false, .int .i64 0, .int .i64 0] 61) = V := ⟨_, rfl⟩
  have HVe : Hid (w2.alloc (.cells #[.bool false, .int .i64 0, .int .i64 0] 61) = V) := hVe
  rw [hVe] at hbV hBV
  have HQ : Hid (Below w.heap.size w V ∧ Box V w2.heap.size #[.bool false, .int .i64 0, .int .i64 0]) := ⟨below_then H1.out.2 (below_then H2.out hbV), hBV⟩
  have HC : Hid (∀ x, Below V.heap.size V x → Calls Tryd.prog 8 #[ev] x fun r x' => r = .returned (.int .i64 2) ∧ Hid (Below V.heap.size V x' ∧ Below x.heap.size x x')) := fun x hx =>
    (code_any ((H1.out.1.below (below_then H2.out hbV)).below hx) ((HV.out.below HQ.out.1).below hx).err).mono fun _ _ ⟨h, hb⟩ => ⟨h, below_then hx hb, hb⟩
  have KC1 : Hid (∀ x, Below V.heap.size V x → ∀ o, x.cell? ⟨w2.heap.size, o, none⟩ = (#[.bool false, .int .i64 0, .int .i64 0] : Array Value)[o]?) := fun x hx o => (hBV.below hx).cell o
  have hlt : w2.heap.size < V.heap.size := hBV.lt
  clear hVe hbV hBV
  go_wp2_with fail
  rw [HVe.out]
  have hq0 : ∀ o, V.cell? ⟨w2.heap.size, o, none⟩ = (#[.bool false, .int .i64 0, .int .i64 0] : Array Value)[o]? := HQ.out.2.cell
  go_region_law (go_simp; first | (go_at_call 8; refine (HC.out _ ?_).mono ?_; (repeat' (first | exact Below.refl _ _ | exact Below.drew (Below.refl _ _) | exact Below.drew (bl_alloc (Below.refl _ _) _) | exact bl_alloc (Below.refl _ _) _ | exact bl_alloc (Below.drew (Below.refl _ _)) _)); rintro _ w5 ⟨rfl, hh5⟩; have hq5 := KC1.out w5 hh5.out.1; have hl5 := Nat.lt_of_lt_of_le hlt hh5.out.1.size; go_wp2_with fail) | (go_at_call 19; refine (num_any _ _).mono ?_; rintro _ _ ⟨rfl, rfl⟩; go_wp2_with fail))
  all_goals
    go_wp2_with fail
    first
      | refine bodyPost_ret ?_ rfl (rvq_no HQ.out.1 (bl_alloc (And.left (Hid.out (by assumption : Hid (Below V.heap.size V _ ∧ Below _ _ _)))) _) (And.left (Hid.out (by assumption : Hid (Below V.heap.size V _ ∧ Below _ _ _)))).size (Box.new _ _ _) rfl)
      | refine bodyPost_ret ?_ rfl (rvq_no HQ.out.1 (And.left (Hid.out (by assumption : Hid (Below V.heap.size V _ ∧ Below _ _ _)))) (Nat.le_refl V.heap.size) (Box.below (Box.drew (Box.new V _ _)) (And.right (Hid.out (by assumption : Hid (Below V.heap.size V _ ∧ Below _ _ _))))) rfl)
    simp [results, Tryd.results5, go_sem, Act.put]
theorem received_any (e l : Int) (w : World) (hV : PV w) : Calls Tryd.prog 5 #[.int .i64 e, .int .i64 l] w fun r w' => RvQ w r w' := by
  rcases newR_01 e l with h | h
  · exact received_ok e l h w hV
  · exact received_no e l h w hV
end Go.Proofs.YtnabpjfdpelejabDoor
