/-
  Both Valid.
-/
import Derived.Test.YtkpebmhokdckfaaDoorEsMk
namespace Go.Proofs.YtkpebmhokdckfaaDoor
open Go.RowKit

set_option maxRecDepth 100000 in
set_option maxHeartbeats 2000000 in
theorem Valid_bad (m : Mk) (n : Nat) (w : World) (hn : Wrong m.l 5 n) (h5 : n < 5) : Calls Tryd.prog 7 #[.agg #[.int .u8 (m.f.toNat : Int), .int .u8 (m.c.toNat : Int), .int .u8 (m.r.toNat : Int), .int .u8 (m.x.toNat : Int), .int .u8 (m.s.toNat : Int)]] w fun e w' => ∃ v, e = .returned v ∧ Ev w' v n 100 ∧ Below w.heap.size w w' := by
  have HN : Hid (Wrong m.l 5 n) := hn
  have h5i : (n : Int) < 5 := by omega
  have hsz := m.str_size
  clear hn
  go_enter Tryd.func7, Tryd.ntmps7
  go_wp2_with fail
  refine (of_any m _).mono ?_
  rintro e w1 ⟨rfl, b1⟩
  have HB1 : Hid (Below w.heap.size w w1) := below_then ((Below.refl _ _).alloc (Nat.le_refl _) _) b1
  clear b1
  go_wp2_with fail
  refine (wrong_any m.str _).mono ?_
  rintro e w2 ⟨⟨k, rfl, hk⟩, b2⟩
  have HB2 : Hid (Below w.heap.size w w2) := below_then HB1.out b2
  obtain rfl : n = k := HN.out.one hk.out
  clear hk b2 HB1
  go_wp2_with fail
  refine (efault_any _ _ _).mono ?_
  rintro e w3 ⟨rfl, f3, b3⟩
  have H3 : Hid (EFault w3 w2.heap.size n 100 ∧ Below w.heap.size w w3) := ⟨f3, below_then HB2.out b3⟩
  clear f3 b3
  go_wp2_with fail
  go_ret
  exact ⟨_, rfl, Or.inr ⟨by decide, _, rfl, H3.out.1⟩, H3.out.2⟩
set_option maxRecDepth 100000 in
set_option maxHeartbeats 2000000 in
theorem Valid_ok (m : Mk) (w : World) (hn : Wrong m.l 5 5) : Calls Tryd.prog 7 #[.agg #[.int .u8 (m.f.toNat : Int), .int .u8 (m.c.toNat : Int), .int .u8 (m.r.toNat : Int), .int .u8 (m.x.toNat : Int), .int .u8 (m.s.toNat : Int)]] w fun e w' => e = .returned .nilIface ∧ Below w.heap.size w w' := by
  have HN : Hid (Wrong m.l 5 5) := hn
  have hsz := m.str_size
  clear hn
  go_enter Tryd.func7, Tryd.ntmps7
  go_wp2_with fail
  refine (of_any m _).mono ?_
  rintro e w1 ⟨rfl, b1⟩
  have HB1 : Hid (Below w.heap.size w w1) := below_then ((Below.refl _ _).alloc (Nat.le_refl _) _) b1
  clear b1
  go_wp2_with fail
  refine (wrong_any m.str _).mono ?_
  rintro e w2 ⟨⟨k, rfl, hk⟩, b2⟩
  have HB2 : Hid (Below w.heap.size w w2) := below_then HB1.out b2
  obtain rfl : 5 = k := HN.out.one hk.out
  clear hk b2 HB1
  go_wp2_with fail
  go_ret
  exact ⟨rfl, HB2.out⟩

/-- The array of the five in memory. -/
def Arr (w : World) (B : Nat) (l : List UInt8) : Prop := ∀ j, j < l.length → w.cell? ⟨B, j, none⟩ = some (.int .u8 ((l.getD j 0).toNat : Int))
theorem arr_new (w : World) (m : Mk) (t : TypeId) : Arr (w.alloc (.cells #[.int .u8 (m.f.toNat : Int), .int .u8 (m.c.toNat : Int), .int .u8 (m.r.toNat : Int), .int .u8 (m.x.toNat : Int), .int .u8 (m.s.toNat : Int)] t)) w.heap.size m.l := fun j hj => by
  rw [cell_new]
  have hj : j < 5 := hj
  rcases (by omega : j = 0 ∨ j = 1 ∨ j = 2 ∨ j = 3 ∨ j = 4) with rfl | rfl | rfl | rfl | rfl <;> rfl
theorem badAt_mono {l : List UInt8} {i : Nat} (h : markI (l.getD i 0).toNat = true) (hk : ∀ j, j < i → l.getD j 0 ≠ l.getD i 0) (hi : i < l.length) : badAt l i = false := by
  unfold badAt
  rw [h]
  simp only [Bool.not_true, Bool.false_or]
  rw [Bool.eq_false_iff]
  intro g
  rw [List.contains_iff_mem] at g
  obtain ⟨j, hj, e⟩ := List.getElem_of_mem g
  simp only [List.length_take] at hj
  refine hk j (by omega) ?_
  rw [List.getElem_take] at e
  rw [← e, List.getD_eq_getElem?_getD, List.getElem?_eq_getElem (by omega)]; rfl
theorem badAt_same {l : List UInt8} {i j : Nat} (hj : j < i) (hi : i < l.length) (h : l.getD j 0 = l.getD i 0) : badAt l i = true := by
  unfold badAt
  have : (l.take i).contains (l.getD i 0) = true := by
    rw [List.contains_iff_mem, ← h, List.getD_eq_getElem?_getD, List.getElem?_eq_getElem (by omega)]
    have := List.getElem_mem (l := l.take i) (n := j) (by rw [List.length_take]; omega)
    rw [List.getElem_take] at this
    simpa using this
  rw [this]; simp
theorem badAt_nomark {l : List UInt8} {i : Nat} (h : markI (l.getD i 0).toNat = false) : badAt l i = true := by unfold badAt; rw [h]; rfl
theorem Arr.drewN {w : World} {B : Nat} {l : List UInt8} (h : Arr w B l) (n : Nat) : Arr (w.drewN n) B l := fun j hj => by rw [← h j hj]; rfl
theorem u8_ne {a b : UInt8} (h : a ≠ b) : ((a.toNat : Int) == b.toNat) = false := by
  simp only [beq_eq_false_iff_ne, ne_eq]; intro g; exact h (UInt8.toNat_inj.1 (by omega))
set_option maxRecDepth 100000 in
set_option maxHeartbeats 4000000 in
theorem rValid_any (m : Mk) (w : World) : Calls Tryd.prog 12 #[.agg #[.int .u8 (m.f.toNat : Int), .int .u8 (m.c.toNat : Int), .int .u8 (m.r.toNat : Int), .int .u8 (m.x.toNat : Int), .int .u8 (m.s.toNat : Int)]] w fun e w' => (∃ n : Nat, Hid (Wrong m.l 5 n) ∧ ((n < 5 ∧ e = .returned (.tuple #[.int .i64 n, .int .i64 100])) ∨ (n = 5 ∧ e = .returned (.tuple #[.int .i64 0, .int .i64 0])))) ∧ Below w.heap.size w w' := by
  have hl : m.l.length = 5 := rfl
  go_enter Tryd.func12, Tryd.ntmps12
  go_wp2_with fail
  refine (Five_any m _).mono ?_
  rintro e w1 ⟨rfl, b1⟩
  have HB1 : Hid (Below w.heap.size w w1) := below_then ((Below.refl _ _).alloc (Nat.le_refl _) _) b1
  clear b1
  go_wp2_with fail
  have HA := arr_new w1 m 60
  have HB2 : Hid (Below w.heap.size w (w1.alloc (.cells #[.int .u8 (m.f.toNat : Int), .int .u8 (m.c.toNat : Int), .int .u8 (m.r.toNat : Int), .int .u8 (m.x.toNat : Int), .int .u8 (m.s.toNat : Int)] 60))) := HB1.out.alloc HB1.out.size _
  obtain ⟨W, hW⟩ : ∃ W, w1.alloc (.cells #[.int .u8 (m.f.toNat : Int), .int .u8 (m.c.toNat : Int), .int .u8 (m.r.toNat : Int), .int .u8 (m.x.toNat : Int), .int .u8 (m.s.toNat : Int)] 60) = W := ⟨_, rfl⟩
  rw [hW] at HA HB2 ⊢
  have HAA : Hid (Arr W w1.heap.size m.l) := HA
  clear hW HB1 HA
  go_loopw [5] (fun t5 wx => ∃ i x : Nat, i ≤ 5 ∧ t5 = .int .i64 i ∧ wx = W.drewN x ∧ Hid (∀ j, j < i → badAt m.l j = false)) (fun t5 _ => 5 - (intOf t5).toNat)
  case atStart => exact ⟨0, 0, Nat.zero_le _, rfl, (World.drewN_zero _).symm, fun _ h => absurd h (by omega)⟩
  case round =>
    obtain ⟨i, x, hi, rfl, rfl, HI⟩ := hrel
    have HBx : Hid (Below w.heap.size w (W.drewN x)) := below_drewN HB2.out x
    by_cases hlt : i < 5
    · have hlti : (i : Int) < 5 := by omega
      have ci := HAA.out i (by omega)
      obtain ⟨bi, hbi⟩ : ∃ b, m.l.getD i 0 = b := ⟨_, rfl⟩
      rw [hbi] at ci
      have HBI : Hid (m.l.getD i 0 = bi) := hbi
      clear hbi
      cases hm : markI bi.toNat with
      | false =>
        have HM : Hid (badAt m.l i = true) := by unfold Hid; refine badAt_nomark ?_; rw [HBI.out]; exact hm
        have hc : ∀ w, Calls Tryd.prog 22 #[.int .u8 bi.toNat] w fun e w' => e = .returned (.bool false) ∧ w' = w := fun w => by have := rIsMark_any bi.toNat w; rw [hm] at this; exact this
        clear hm
        go_wp2_with (go_at_call 22; refine (hc _).mono ?_; rintro e w' ⟨rfl, rfl⟩)
        refine bodyPost_ret (v := .tuple #[.int .i64 i, .int .i64 100]) (by simp [results, Tryd.results12, go_sem]) rfl ⟨⟨i, ⟨by omega, HI.out, fun _ => HM.out⟩, Or.inl ⟨hlt, rfl⟩⟩, HBx.out⟩
      | true =>
        have HM : Hid (markI (m.l.getD i 0).toNat = true) := by unfold Hid; rw [HBI.out]; exact hm
        have hc : ∀ w, Calls Tryd.prog 22 #[.int .u8 bi.toNat] w fun e w' => e = .returned (.bool true) ∧ w' = w := fun w => by have := rIsMark_any bi.toNat w; rw [hm] at this; exact this
        clear hm
        go_wp2_with (go_at_call 22; refine (hc _).mono ?_; rintro e w' ⟨rfl, rfl⟩)
        go_loopw [6] (fun t6 wx => ∃ k y : Nat, k ≤ i ∧ t6 = .int .i64 k ∧ wx = W.drewN y ∧ Hid (∀ j, j < k → m.l.getD j 0 ≠ m.l.getD i 0)) (fun t6 _ => i - (intOf t6).toNat)
        case atStart => exact ⟨0, x, Nat.zero_le _, rfl, rfl, fun _ h => absurd h (by omega)⟩
        case round =>
          obtain ⟨k, y, hk, rfl, rfl, HK⟩ := hrel
          clear ci
          have HBy : Hid (Below w.heap.size w (W.drewN y)) := below_drewN HB2.out y
          by_cases hkl : k < i
          · have hkli : (k : Int) < i := by omega
            have hk5 : (k : Int) < 5 := by omega
            have ci := HAA.out i (by omega)
            have ck := HAA.out k (by omega)
            rw [HBI.out] at ci
            obtain ⟨bk, hbk⟩ : ∃ b, m.l.getD k 0 = b := ⟨_, rfl⟩
            rw [hbk] at ck
            have HBK : Hid (m.l.getD k 0 = bk) := hbk
            clear hbk
            by_cases he : bk = bi
            · subst he
              have HM2 : Hid (badAt m.l i = true) := badAt_same hkl (by omega) (by rw [HBI.out, HBK.out])
              go_wp2_with fail
              go_quiet (fail)
              go_wp2_with fail
              refine bodyPost_ret (v := .tuple #[.int .i64 i, .int .i64 100]) (by simp [results, Tryd.results12, go_sem]) rfl ⟨⟨i, ⟨by omega, HI.out, fun _ => HM2.out⟩, Or.inl ⟨hlt, rfl⟩⟩, ?_⟩
              rw [drew2]; exact below_drewN HB2.out _
            · have hne := u8_ne he
              have HNE : Hid (m.l.getD k 0 ≠ m.l.getD i 0) := by unfold Hid; rw [HBI.out, HBK.out]; exact he
              clear he
              go_wp2_with fail
              go_quiet (fail)
              go_wp2_with fail
              go_roundw
              case rel =>
                refine ⟨k + 1, _, by omega, by go_num, by first | rfl | exact drew2 _ _ _, fun j hj => ?_⟩
                rcases Nat.lt_or_ge j k with g | g
                · exact HK.out j g
                · obtain rfl : j = k := by omega
                  exact HNE.out
              case measure => simp [intOf]; omega
          · obtain rfl : k = i := by omega
            go_wp2_with fail
            go_roundw
            case rel =>
              refine ⟨k + 1, y, by omega, by go_num, rfl, fun j hj => ?_⟩
              rcases Nat.lt_or_ge j k with g | g
              · exact HI.out j g
              · obtain rfl : j = k := by omega
                exact badAt_mono HM.out HK.out (by omega)
            case measure => simp [intOf]; omega
    · obtain rfl : i = 5 := by omega
      go_wp2_with fail
      refine bodyPost_ret (v := .tuple #[.int .i64 0, .int .i64 0]) (by simp [results, Tryd.results12, go_sem]) rfl ⟨⟨5, ⟨by omega, HI.out, fun h => absurd h (by omega)⟩, Or.inr ⟨rfl, rfl⟩⟩, HBx.out⟩
end Go.Proofs.YtkpebmhokdckfaaDoor
