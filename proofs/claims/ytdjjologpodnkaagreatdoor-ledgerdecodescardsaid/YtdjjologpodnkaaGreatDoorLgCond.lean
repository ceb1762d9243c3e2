/-
  decide.Texts, as far as the ledger asks: is there an error?
-/
import Derived.Test.YtdjjologpodnkaaGreatDoorLgLeaf
namespace Go.Proofs.YtdjjologpodnkaaGreatDoor
open Go.RowKit

/-- The words' table: four texts, whatever they are. -/
def PVx (w : World) : Prop := ∀ j, j < 4 → ∃ s, w.cell? ⟨1, j, none⟩ = some (.string s)
theorem PVx.below {w w' : World} (h : PVx w) (hb : Below w.heap.size w w') : PVx w' := fun j hj => by
  obtain ⟨s, hs⟩ := h j hj
  exact ⟨s, by rw [hb.cell (p := ⟨1, j, none⟩) (cell_lt hs)]; exact hs⟩
theorem ok_of {e : Bool} {a p : Int} (h : okB e a p = true) : 0 ≤ a ∧ a ≤ 3 ∧ 0 ≤ p ∧ p ≤ 3 ∧ (e = true ∨ (a = 0 ∧ p = 0)) := by
  unfold okB at h
  simp at h
  obtain ⟨⟨h1, h2, h3, h4⟩, h5⟩ := h
  exact ⟨h1, h2, h3, h4, h5⟩
def DfQ (w : World) (r : Ending) (w' : World) : Prop := ∃ b, r = .returned (.iface 74 (.pointer (some ⟨b, 0, none⟩))) ∧ Below w.heap.size w w'
theorem dfault_any (w : World) : Calls Tryz.prog 129 #[.int .i64 0, .int .i64 220] w (DfQ w) := by
  go_enter Tryz.func129, Tryz.ntmps129
  go_wp2
  go_ret
  exact ⟨_, rfl, (Below.refl _ _).alloc (Nat.le_refl _) _⟩
theorem isCond_any (n : Int) (w : World) : Calls Tryz.prog 128 #[.int .i64 n] w fun r w' => r = .returned (.bool (decide (0 ≤ n) && decide (n < 4))) ∧ w' = w := by
  go_enter Tryz.func128, Tryz.ntmps128
  go_wp2
  all_goals (go_ret; exact ⟨ret_bool (by rw [Bool.eq_iff_iff]; simp; try (first | omega | (intros; omega))), rfl⟩)
set_option maxHeartbeats 1000000 in
theorem refuse_ok (e : Bool) (a p : Int) (w : World) (h : okB e a p = true) : Calls Tryz.prog 127 #[.agg #[.bool e, .int .i64 a, .int .i64 p]] w fun r w' => r = .returned .nilIface ∧ Below w.heap.size w w' := by
  obtain ⟨h1, h2, h3, h4, h5⟩ := ok_of h
  have c1 : ∀ w, Calls Tryz.prog 128 #[.int .i64 a] w fun r w' => r = .returned (.bool true) ∧ w' = w := fun w => by
    have := isCond_any a w; rw [show (decide (0 ≤ a) && decide (a < 4)) = true by simp; omega] at this; exact this
  have c2 : ∀ w, Calls Tryz.prog 128 #[.int .i64 p] w fun r w' => r = .returned (.bool true) ∧ w' = w := fun w => by
    have := isCond_any p w; rw [show (decide (0 ≤ p) && decide (p < 4)) = true by simp; omega] at this; exact this
  clear h
  cases e with
  | true =>
    clear h1 h2 h3 h4 h5
    go_enter Tryz.func127, Tryz.ntmps127
    go_wp2_with fail
    refine (c1 _).mono ?_
    rintro _ w1 ⟨rfl, rfl⟩
    go_wp2_with fail
    refine (c2 _).mono ?_
    rintro _ w2 ⟨rfl, rfl⟩
    go_wp2_with fail
    go_ret
    exact ⟨rfl, (Below.refl _ _).alloc (Nat.le_refl _) _⟩
  | false =>
    obtain ⟨rfl, rfl⟩ : a = 0 ∧ p = 0 := by rcases h5 with h5 | h5; cases h5; exact h5
    clear h1 h2 h3 h4 h5 c1 c2
    go_enter Tryz.func127, Tryz.ntmps127
    go_wp2_with fail
    go_ret
    exact ⟨rfl, (Below.refl _ _).alloc (Nat.le_refl _) _⟩
set_option maxHeartbeats 1000000 in
theorem refuse_no (e : Bool) (a p : Int) (w : World) (h : okB e a p = false) : Calls Tryz.prog 127 #[.agg #[.bool e, .int .i64 a, .int .i64 p]] w (DfQ w) := by
  have fl := dfault_any
  have ho : ¬ (0 ≤ a ∧ a ≤ 3 ∧ 0 ≤ p ∧ p ≤ 3 ∧ (e = true ∨ (a = 0 ∧ p = 0))) := fun g => by
    have : okB e a p = true := by unfold okB; obtain ⟨g1, g2, g3, g4, g5⟩ := g; simp [g1, g2, g3, g4]; exact g5
    rw [h] at this; cases this
  clear h
  have i1 := isCond_any a
  have i2 := isCond_any p
  cases e with
  | true =>
    cases ha : (decide (0 ≤ a) && decide (a < 4)) with
    | false =>
      rw [ha] at i1
      clear i2 ho ha
      go_enter Tryz.func127, Tryz.ntmps127
      go_wp2_with fail
      refine (i1 _).mono ?_
      rintro _ w1 ⟨rfl, rfl⟩
      go_wp2_with fail
      refine (fl _).mono ?_
      rintro _ w2 ⟨b, rfl, hb⟩
      have HF : Hid (Below _ _ w2) := hb
      clear hb
      go_wp2_with fail
      go_ret
      exact ⟨_, rfl, below_then ((Below.refl _ _).alloc (Nat.le_refl _) _) HF.out⟩
    | true =>
      have hp : (decide (0 ≤ p) && decide (p < 4)) = false := by simp at ha ⊢; intro; false_or_by_contra; exact ho ⟨by omega, by omega, by omega, by omega, Or.inl rfl⟩
      rw [ha] at i1
      rw [hp] at i2
      clear ho ha hp
      go_enter Tryz.func127, Tryz.ntmps127
      go_wp2_with fail
      refine (i1 _).mono ?_
      rintro _ w1 ⟨rfl, rfl⟩
      go_wp2_with fail
      refine (i2 _).mono ?_
      rintro _ w1 ⟨rfl, rfl⟩
      go_wp2_with fail
      refine (fl _).mono ?_
      rintro _ w2 ⟨b, rfl, hb⟩
      have HF : Hid (Below _ _ w2) := hb
      clear hb
      go_wp2_with fail
      go_ret
      exact ⟨_, rfl, below_then ((Below.refl _ _).alloc (Nat.le_refl _) _) HF.out⟩
  | false =>
    clear i1 i2
    by_cases ha : a = 0
    · subst ha
      have hp : ¬ p = 0 := fun g => ho (by subst g; exact ⟨by omega, by omega, by omega, by omega, Or.inr ⟨rfl, rfl⟩⟩)
      clear ho
      go_enter Tryz.func127, Tryz.ntmps127
      go_wp2_with fail
      refine (fl _).mono ?_
      rintro _ w2 ⟨b, rfl, hb⟩
      have HF : Hid (Below _ _ w2) := hb
      clear hb
      go_wp2_with fail
      go_ret
      exact ⟨_, rfl, below_then ((Below.refl _ _).alloc (Nat.le_refl _) _) HF.out⟩
    · clear ho
      go_enter Tryz.func127, Tryz.ntmps127
      go_wp2_with fail
      refine (fl _).mono ?_
      rintro _ w2 ⟨b, rfl, hb⟩
      have HF : Hid (Below _ _ w2) := hb
      clear hb
      go_wp2_with fail
      go_ret
      exact ⟨_, rfl, below_then ((Below.refl _ _).alloc (Nat.le_refl _) _) HF.out⟩
set_option maxRecDepth 100000 in
set_option maxHeartbeats 2000000 in
theorem Texts_no (e : Bool) (a p : Int) (w : World) (ok : okB e a p = false) : Calls Tryz.prog 125 #[.agg #[.bool e, .int .i64 a, .int .i64 p]] w (fun r w' => ∃ z, r = .returned (.tuple #[.string ⟨#[]⟩, .string ⟨#[]⟩, .iface 74 (.pointer (some ⟨z, 0, none⟩))]) ∧ Below w.heap.size w w') := by
  have c1 := fun x => refuse_no e a p x ok
  go_enter Tryz.func125, Tryz.ntmps125
  go_wp2_with fail
  refine (c1 _).mono ?_
  rintro _ w1 ⟨z, rfl, b1⟩
  have HB1 : Hid (Below w.heap.size w w1) := below_then ((Below.refl _ _).alloc (Nat.le_refl _) _) b1
  have X1_0 : Hid (Box w1 (w.heap.size) #[.bool e, .int .i64 a, .int .i64 p]) := (Box.new _ #[.bool e, .int .i64 a, .int .i64 p] 24).below b1
  obtain ⟨l1_0, k1_0, f1_0⟩ := X1_0.out
  clear b1
  go_wp2_with fail
  refine bodyPost_ret (v := .tuple #[.string ⟨#[]⟩, .string ⟨#[]⟩, .iface 74 (.pointer (some ⟨z, 0, none⟩))]) ?_ rfl ⟨z, rfl, HB1.out⟩
  simp [results, Tryz.results125, go_sem]
set_option maxRecDepth 100000 in
set_option maxHeartbeats 2000000 in
theorem Texts_f (a p : Int) (w : World) (ok : okB false a p = true) : Calls Tryz.prog 125 #[.agg #[.bool false, .int .i64 a, .int .i64 p]] w (fun r w' => r = .returned (.tuple #[.string ⟨#[]⟩, .string ⟨#[]⟩, .nilIface]) ∧ Below w.heap.size w w') := by
  have c1 := fun x => refuse_ok false a p x ok
  go_enter Tryz.func125, Tryz.ntmps125
  go_wp2_with fail
  refine (c1 _).mono ?_
  rintro _ w1 ⟨rfl, b1⟩
  have HB1 : Hid (Below w.heap.size w w1) := below_then ((Below.refl _ _).alloc (Nat.le_refl _) _) b1
  have X1_0 : Hid (Box w1 (w.heap.size) #[.bool false, .int .i64 a, .int .i64 p]) := (Box.new _ #[.bool false, .int .i64 a, .int .i64 p] 24).below b1
  obtain ⟨l1_0, k1_0, f1_0⟩ := X1_0.out
  clear b1
  go_wp2_with fail
  refine bodyPost_ret (v := .tuple #[.string ⟨#[]⟩, .string ⟨#[]⟩, .nilIface]) ?_ rfl ⟨rfl, HB1.out⟩
  simp [results, Tryz.results125, go_sem]
set_option maxRecDepth 100000 in
set_option maxHeartbeats 4000000 in
theorem Texts_t (x y : Nat) (w : World) (s t : ByteArray) (hs : w.cell? ⟨1, x, none⟩ = some (.string s)) (ht : w.cell? ⟨1, y, none⟩ = some (.string t)) (hx : x < 4) (hy : y < 4) (ok : okB true x y = true) : Calls Tryz.prog 125 #[.agg #[.bool true, .int .i64 (x : Int), .int .i64 (y : Int)]] w (fun r w' => r = .returned (.tuple #[.string s, .string t, .nilIface]) ∧ Below w.heap.size w w') := by
  have HV : Hid (w.cell? ⟨1, x, none⟩ = some (.string s) ∧ w.cell? ⟨1, y, none⟩ = some (.string t)) := ⟨hs, ht⟩
  clear hs ht
  have c1 := fun z => refuse_ok true x y z ok
  clear ok
  go_enter Tryz.func125, Tryz.ntmps125
  go_wp2_with fail
  refine (c1 _).mono ?_
  rintro _ w1 ⟨rfl, b1⟩
  have HB1 : Hid (Below w.heap.size w w1) := below_then ((Below.refl _ _).alloc (Nat.le_refl _) _) b1
  have X1_0 : Hid (Box w1 (w.heap.size) #[.bool true, .int .i64 (x : Int), .int .i64 (y : Int)]) := (Box.new _ #[.bool true, .int .i64 (x : Int), .int .i64 (y : Int)] 24).below b1
  obtain ⟨l1_0, k1_0, f1_0⟩ := X1_0.out
  clear b1
  have kx : w1.cell? ⟨1, x, none⟩ = some (.string s) := (HB1.out.cell (p := ⟨1, x, none⟩) (cell_lt HV.out.1)).trans HV.out.1
  have ky : w1.cell? ⟨1, y, none⟩ = some (.string t) := (HB1.out.cell (p := ⟨1, y, none⟩) (cell_lt HV.out.2)).trans HV.out.2
  have ix : (x : Int) < 4 := by omega
  have iy : (y : Int) < 4 := by omega
  go_upto_region 6 with fail
  go_region
  go_wp2_with fail
  refine bodyPost_ret (v := .tuple #[.string s, .string t, .nilIface]) ?_ rfl ⟨rfl, Below.drew HB1.out⟩
  simp [results, Tryz.results125, go_sem]

/-- Texts answers an error just if the conditions are not right. -/
def TxQ (ok : Bool) (w : World) (r : Ending) (w' : World) : Prop := ∃ s t ev, r = .returned (.tuple #[.string s, .string t, ev]) ∧ ((ok = true ∧ ev = .nilIface) ∨ (ok = false ∧ ∃ z, ev = .iface 74 (.pointer (some ⟨z, 0, none⟩)))) ∧ Below w.heap.size w w'
theorem texts_any (e : Bool) (a p : Int) (w : World) (hV : PVx w) : Calls Tryz.prog 125 #[.agg #[.bool e, .int .i64 a, .int .i64 p]] w (TxQ (okB e a p) w) := by
  cases ok : okB e a p with
  | false => exact (Texts_no e a p w ok).mono fun _ _ ⟨z, h, hb⟩ => ⟨_, _, _, h, Or.inr ⟨rfl, z, rfl⟩, hb⟩
  | true =>
    cases e with
    | false => exact (Texts_f a p w ok).mono fun _ _ ⟨h, hb⟩ => ⟨_, _, _, h, Or.inl ⟨rfl, rfl⟩, hb⟩
    | true =>
      obtain ⟨h1, h2, h3, h4, _⟩ := ok_of ok
      obtain ⟨x, rfl⟩ : ∃ x : Nat, a = x := ⟨a.toNat, by omega⟩
      obtain ⟨y, rfl⟩ : ∃ y : Nat, p = y := ⟨p.toNat, by omega⟩
      obtain ⟨s, hs⟩ := hV x (by omega)
      obtain ⟨t, ht⟩ := hV y (by omega)
      exact (Texts_t x y w s t hs ht (by omega) (by omega) ok).mono fun _ _ ⟨h, hb⟩ => ⟨_, _, _, h, Or.inl ⟨rfl, rfl⟩, hb⟩
set_option maxHeartbeats 1000000 in
theorem cond_well (B : Nat) (e : Bool) (a p : Int) (w : World) (hV : PVx w) (h0 : w.cell? ⟨B, 3, none⟩ = some (.bool e)) (h1 : w.cell? ⟨B, 4, none⟩ = some (.int .i64 a)) (h2 : w.cell? ⟨B, 5, none⟩ = some (.int .i64 p)) :
    Calls Tryz.prog 122 #[.agg #[.pointer (some ⟨B, 3, none⟩)]] w fun r w' => r = .returned (.bool (okB e a p)) ∧ Below w.heap.size w w' := by
  have hb : B < w.heap.size := cell_lt h0
  have bv := (Below.refl w.heap.size w).alloc (Nat.le_refl _) (.cells #[.pointer (some ⟨B, 3, none⟩)] 136)
  have c0 := (bv.cell (p := ⟨B, 3, none⟩) hb).trans h0
  have c1 := (bv.cell (p := ⟨B, 4, none⟩) hb).trans h1
  have c2 := (bv.cell (p := ⟨B, 5, none⟩) hb).trans h2
  have ct := texts_any e a p _ (hV.below bv)
  have HB : Hid (Below w.heap.size w (w.alloc (.cells #[.pointer (some ⟨B, 3, none⟩)] 136))) := bv
  clear bv hV h0 h1 h2
  go_enter Tryz.func122, Tryz.ntmps122
  go_wp2_with fail
  refine ct.mono ?_
  rintro _ w1 ⟨s, t, ev, rfl, hev, hb1⟩
  have HB1 : Hid (Below w.heap.size w w1) := below_then HB.out hb1
  clear ct hb1 c0 c1 c2
  rcases hev with ⟨hk, rfl⟩ | ⟨hk, z, rfl⟩
  · have HK : Hid (okB e a p = _) := hk
    clear hk
    go_wp2_with fail
    go_ret
    exact ⟨ret_bool HK.out.symm, HB1.out⟩
  · have HK : Hid (okB e a p = _) := hk
    clear hk
    go_wp2_with fail
    go_ret
    exact ⟨ret_bool HK.out.symm, HB1.out⟩
end Go.Proofs.YtdjjologpodnkaaGreatDoor
