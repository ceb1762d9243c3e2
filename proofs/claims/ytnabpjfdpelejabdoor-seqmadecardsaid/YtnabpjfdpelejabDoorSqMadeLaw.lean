/-
  SeqMade.
-/
import Derived.Test.YtnabpjfdpelejabDoorSqSent
import Derived.Test.YtnabpjfdpelejabDoorSqRecvN
namespace Go.Proofs.YtnabpjfdpelejabDoor
open Go.RowKit

theorem NoS.below {w w' : World} {p : Value} (h : NoS w p) (hb : Below w.heap.size w w') : NoS w' p := by
  rcases h with h | ⟨b, h, hB⟩
  · exact Or.inl h
  · exact Or.inr ⟨b, h, hB.below hb⟩
theorem NoR.below {w w' : World} {p : Value} (h : NoR w p) (hb : Below w.heap.size w w') : NoR w' p := by
  rcases h with h | ⟨b, h, hB⟩
  · exact Or.inl h
  · exact Or.inr ⟨b, h, hB.below hb⟩
/-- Counters that nobody made: one of each in memory, and none. -/
structure MK (W w : World) (s r : Value) : Prop where
  s : NoS w s
  r : NoR w r
  pv : PV W
  bl : Below W.heap.size W w
section
variable {W w w' : World} {s r p : Value}
theorem MK.below (h : MK W w s r) (hb : Below w.heap.size w w') : MK W w' s r := ⟨h.s.below hb, h.r.below hb, h.pv, below_then h.bl hb⟩
theorem MK.ns (h : MK W w s r) (hp : p = s ∨ p = .pointer none) : NoS w p := by
  rcases hp with rfl | rfl
  · exact h.s
  · exact Or.inl rfl
theorem MK.nr (h : MK W w s r) (hp : p = r ∨ p = .pointer none) : NoR w p := by
  rcases hp with rfl | rfl
  · exact h.r
  · exact Or.inl rfl
theorem MK.code (h : MK W w s r) {N : Nat} {ev : Value} {c : Int} (hev : Ev w N ev c) : Calls Tryd.prog 8 #[ev] w fun v w' => v = .returned (.int .i64 c) ∧ Hid (MK W w' s r ∧ Below w.heap.size w w') := (code_any hev (h.pv.below h.bl).err).mono fun _ _ ⟨a, b⟩ => ⟨a, h.below b, b⟩
theorem MK.take (h : MK W w s r) (hp : p = s ∨ p = .pointer none) : Calls Tryd.prog 6 #[p] w fun v w' => ∃ ev, v = .returned (.tuple #[.int .i64 0, ev]) ∧ Hid (MK W w' s r ∧ Below w.heap.size w w' ∧ Ev w' w.heap.size ev 3) := (pTake_no (h.ns hp)).mono fun _ _ ⟨ev, a, b, c⟩ => ⟨ev, a, h.below c, c, b⟩
theorem MK.back (h : MK W w s r) (hp : p = s ∨ p = .pointer none) (m k : Int) : Calls Tryd.prog 7 #[p, .int .i64 m, .int .i64 k] w fun v w' => ∃ ev, v = .returned (.tuple #[.int .i64 0, ev]) ∧ Hid (MK W w' s r ∧ Below w.heap.size w w' ∧ Ev w' w.heap.size ev 3) := (pBack_no (h.ns hp) m k).mono fun _ _ ⟨ev, a, b, c⟩ => ⟨ev, a, h.below c, c, b⟩
theorem MK.set (h : MK W w s r) (hp : p = s ∨ p = .pointer none) (m : Int) : Calls Tryd.prog 9 #[p, .int .i64 m] w fun v w' => ∃ ev, v = .returned (ev) ∧ Hid (MK W w' s r ∧ Below w.heap.size w w' ∧ Ev w' w.heap.size ev 3) := (pSet_no (h.ns hp) m).mono fun _ _ ⟨ev, a, b, c⟩ => ⟨ev, a, h.below c, c, b⟩
theorem MK.accept (h : MK W w s r) (hp : p = r ∨ p = .pointer none) (m : Int) : Calls Tryd.prog 11 #[p, .int .i64 m] w fun v w' => ∃ ev, v = .returned (ev) ∧ Hid (MK W w' s r ∧ Below w.heap.size w w' ∧ Ev w' w.heap.size ev 3) := (pAccept_no (h.nr hp) m).mono fun _ _ ⟨ev, a, b, c⟩ => ⟨ev, a, h.below c, c, b⟩
theorem MK.reset (h : MK W w s r) (hp : p = r ∨ p = .pointer none) : Calls Tryd.prog 12 #[p] w fun v w' => ∃ ev, v = .returned (ev) ∧ Hid (MK W w' s r ∧ Below w.heap.size w w' ∧ Ev w' w.heap.size ev 3) := (pReset_no (h.nr hp)).mono fun _ _ ⟨ev, a, b, c⟩ => ⟨ev, a, h.below c, c, b⟩
theorem MK.next (h : MK W w s r) (hp : p = s ∨ p = .pointer none) : Calls Tryd.prog 10 #[p] w fun v w' => v = .returned (.int .i64 0) ∧ Hid (MK W w' s r ∧ Below w.heap.size w w') := (pNext_no (h.ns hp)).mono fun _ _ ⟨a, b⟩ => ⟨a, h.below b, b⟩
theorem MK.exp (h : MK W w s r) (hp : p = r ∨ p = .pointer none) : Calls Tryd.prog 14 #[p] w fun v w' => v = .returned (.int .i64 0) ∧ Hid (MK W w' s r ∧ Below w.heap.size w w') := (pExp_no (h.nr hp)).mono fun _ _ ⟨a, b⟩ => ⟨a, h.below b, b⟩
theorem MK.last (h : MK W w s r) (hp : p = r ∨ p = .pointer none) : Calls Tryd.prog 15 #[p] w fun v w' => v = .returned (.int .i64 0) ∧ Hid (MK W w' s r ∧ Below w.heap.size w w') := (pLast_no (h.nr hp)).mono fun _ _ ⟨a, b⟩ => ⟨a, h.below b, b⟩
theorem MK.tell (h : MK W w s r) (hp : p = r ∨ p = .pointer none) : Calls Tryd.prog 16 #[p] w fun v w' => v = .returned (.int .i64 0) ∧ Hid (MK W w' s r ∧ Below w.heap.size w w') := (pTell_no (h.nr hp)).mono fun _ _ ⟨a, b⟩ => ⟨a, h.below b, b⟩
theorem MK.judge (h : MK W w s r) (hp : p = r ∨ p = .pointer none) (m : Int) : Calls Tryd.prog 13 #[p, .int .i64 m] w fun v w' => v = .returned (.int .i64 0) ∧ Hid (MK W w' s r ∧ Below w.heap.size w w') := (pJudge_no (h.nr hp) m).mono fun _ _ ⟨a, b⟩ => ⟨a, h.below b, b⟩
end
set_option maxRecDepth 100000 in
set_option maxHeartbeats 8000000 in
theorem made_law (a b c n : Int) (w : World) (hV : PV w) : Calls Tryd.prog 3 #[.int .i64 a, .int .i64 b, .int .i64 c, .int .i64 n] w fun r w' => r = .returned (.bool true) ∧ Below w.heap.size w w' := by
  have HV : Hid (PV w) := hV
  clear hV
  go_enter Tryd.func3, Tryd.ntmps3
  go_wp2_with fail
  refine (sent_any a _ HV.out).mono ?_
  rintro _ w1 ⟨x, sx, nx, rfl, _, _, b1⟩
  have H1 : Hid (Below w.heap.size w w1) := b1
  clear b1
  go_wp2_with fail
  refine (received_any b c _ (HV.out.below H1.out)).mono ?_
  rintro _ w2 ⟨y, sy, ey, ly, rfl, _, _, b2⟩
  have hV2 : Below w.heap.size w ((w2.alloc (.cells #[.int .i64 0, .bool false] 31)).alloc (.cells #[.int .i64 0, .bool false, .int .i64 0] 33)) := below_then H1.out (below_then b2 (bl_alloc (bl_alloc (Below.refl _ _) _) _))
  have hBs : Box ((w2.alloc (.cells #[.int .i64 0, .bool false] 31)).alloc (.cells #[.int .i64 0, .bool false, .int .i64 0] 33)) w2.heap.size #[.int .i64 0, .bool false] := (Box.new _ _ _).alloc _
  have hBr : Box ((w2.alloc (.cells #[.int .i64 0, .bool false] 31)).alloc (.cells #[.int .i64 0, .bool false, .int .i64 0] 33)) (w2.heap.size + 1) #[.int .i64 0, .bool false, .int .i64 0] := by
    have := Box.new (w2.alloc (.cells #[.int .i64 0, .bool false] 31)) #[.int .i64 0, .bool false, .int .i64 0] 33
    simpa using this
  obtain ⟨V, hVe⟩ : ∃ V, (w2.alloc (.cells #[.int .i64 0, .bool false] 31)).alloc (.cells #[.int .i64 0, .bool false, .int .i64 0] 33) = V := ⟨_, rfl⟩
  have HVe : Hid ((w2.alloc (.cells #[.int .i64 0, .bool false] 31)).alloc (.cells #[.int .i64 0, .bool false, .int .i64 0] 33) = V) := hVe
  rw [hVe] at hV2 hBs hBr
  have M0 : Hid (MK w V (.pointer (some ⟨w2.heap.size, 0, none⟩)) (.pointer (some ⟨w2.heap.size + 1, 0, none⟩))) := ⟨Or.inr ⟨_, rfl, hBs⟩, Or.inr ⟨_, rfl, hBr⟩, HV.out, hV2⟩
  clear hV2 hBs hBr hVe b2 H1
  go_wp2_with fail
  rw [HVe.out]
  refine (M0.out.take (Or.inl rfl)).mono ?_
  rintro _ v1 ⟨ev1, rfl, M1⟩
  have E1 : Hid (Ev v1 0 ev1 3) := M1.out.2.2.mono (Nat.zero_le _)
  go_wp2_with fail
  refine (M1.out.1.back (Or.inl rfl) n a).mono ?_
  rintro _ v2 ⟨ev2, rfl, M2⟩
  replace E1 : Hid (Ev v2 0 ev1 3) := E1.out.below (by first | exact M2.out.2 | exact M2.out.2.1)
  have E2 : Hid (Ev v2 0 ev2 3) := M2.out.2.2.mono (Nat.zero_le _)
  go_wp2_with fail
  refine (M2.out.1.take (Or.inr rfl)).mono ?_
  rintro _ v3 ⟨ev3, rfl, M3⟩
  replace E1 : Hid (Ev v3 0 ev1 3) := E1.out.below (by first | exact M3.out.2 | exact M3.out.2.1)
  replace E2 : Hid (Ev v3 0 ev2 3) := E2.out.below (by first | exact M3.out.2 | exact M3.out.2.1)
  have E3 : Hid (Ev v3 0 ev3 3) := M3.out.2.2.mono (Nat.zero_le _)
  go_wp2_with fail
  refine (M3.out.1.code E1.out).mono ?_
  rintro _ v4 ⟨rfl, M4⟩
  replace E2 : Hid (Ev v4 0 ev2 3) := E2.out.below (by first | exact M4.out.2 | exact M4.out.2.1)
  replace E3 : Hid (Ev v4 0 ev3 3) := E3.out.below (by first | exact M4.out.2 | exact M4.out.2.1)
  go_wp2_with fail
  refine (M4.out.1.code E2.out).mono ?_
  rintro _ v5 ⟨rfl, M5⟩
  replace E3 : Hid (Ev v5 0 ev3 3) := E3.out.below (by first | exact M5.out.2 | exact M5.out.2.1)
  go_wp2_with fail
  refine (M5.out.1.code E3.out).mono ?_
  rintro _ v6 ⟨rfl, M6⟩
  go_wp2_with fail
  refine (M6.out.1.set (Or.inl rfl) n).mono ?_
  rintro _ v7 ⟨ev7, rfl, M7⟩
  have E7 : Hid (Ev v7 0 ev7 3) := M7.out.2.2.mono (Nat.zero_le _)
  go_wp2_with fail
  refine (M7.out.1.code E7.out).mono ?_
  rintro _ v8 ⟨rfl, M8⟩
  go_wp2_with fail
  refine (M8.out.1.set (Or.inr rfl) n).mono ?_
  rintro _ v9 ⟨ev9, rfl, M9⟩
  have E9 : Hid (Ev v9 0 ev9 3) := M9.out.2.2.mono (Nat.zero_le _)
  go_wp2_with fail
  refine (M9.out.1.code E9.out).mono ?_
  rintro _ v10 ⟨rfl, M10⟩
  go_wp2_with fail
  refine (M10.out.1.next (Or.inl rfl)).mono ?_
  rintro _ v11 ⟨rfl, M11⟩
  go_wp2_with fail
  refine (M11.out.1.next (Or.inr rfl)).mono ?_
  rintro _ v12 ⟨rfl, M12⟩
  go_wp2_with fail
  refine (M12.out.1.accept (Or.inl rfl) n).mono ?_
  rintro _ v13 ⟨ev13, rfl, M13⟩
  have E13 : Hid (Ev v13 0 ev13 3) := M13.out.2.2.mono (Nat.zero_le _)
  go_wp2_with fail
  refine (M13.out.1.code E13.out).mono ?_
  rintro _ v14 ⟨rfl, M14⟩
  go_wp2_with fail
  refine (M14.out.1.reset (Or.inl rfl)).mono ?_
  rintro _ v15 ⟨ev15, rfl, M15⟩
  have E15 : Hid (Ev v15 0 ev15 3) := M15.out.2.2.mono (Nat.zero_le _)
  go_wp2_with fail
  refine (M15.out.1.code E15.out).mono ?_
  rintro _ v16 ⟨rfl, M16⟩
  go_wp2_with fail
  refine (M16.out.1.accept (Or.inr rfl) n).mono ?_
  rintro _ v17 ⟨ev17, rfl, M17⟩
  have E17 : Hid (Ev v17 0 ev17 3) := M17.out.2.2.mono (Nat.zero_le _)
  go_wp2_with fail
  refine (M17.out.1.code E17.out).mono ?_
  rintro _ v18 ⟨rfl, M18⟩
  go_wp2_with fail
  refine (M18.out.1.reset (Or.inr rfl)).mono ?_
  rintro _ v19 ⟨ev19, rfl, M19⟩
  have E19 : Hid (Ev v19 0 ev19 3) := M19.out.2.2.mono (Nat.zero_le _)
  go_wp2_with fail
  refine (M19.out.1.code E19.out).mono ?_
  rintro _ v20 ⟨rfl, M20⟩
  go_wp2_with fail
  refine (M20.out.1.judge (Or.inl rfl) n).mono ?_
  rintro _ v21 ⟨rfl, M21⟩
  go_wp2_with fail
  refine (M21.out.1.judge (Or.inr rfl) n).mono ?_
  rintro _ v22 ⟨rfl, M22⟩
  go_wp2_with fail
  refine (M22.out.1.exp (Or.inl rfl)).mono ?_
  rintro _ v23 ⟨rfl, M23⟩
  go_wp2_with fail
  refine (M23.out.1.last (Or.inl rfl)).mono ?_
  rintro _ v24 ⟨rfl, M24⟩
  go_wp2_with fail
  refine (M24.out.1.tell (Or.inl rfl)).mono ?_
  rintro _ v25 ⟨rfl, M25⟩
  go_wp2_with fail
  refine (M25.out.1.exp (Or.inr rfl)).mono ?_
  rintro _ v26 ⟨rfl, M26⟩
  go_wp2_with fail
  refine (M26.out.1.last (Or.inr rfl)).mono ?_
  rintro _ v27 ⟨rfl, M27⟩
  go_wp2_with fail
  refine (M27.out.1.tell (Or.inr rfl)).mono ?_
  rintro _ v28 ⟨rfl, M28⟩
  go_wp2_with fail
  go_ret
  exact ⟨by simp, M28.out.1.bl⟩
end Go.Proofs.YtnabpjfdpelejabDoor
