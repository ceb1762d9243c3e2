/-
  The log's recordOf.
-/
import Derived.Test.YthnpckmgnompiaaGreatDoorWEq
namespace Go.Proofs.YthnpckmgnompiaaGreatDoor
open Go.RowKit Go.BigFrame

/-- The content of the whole record with which bytes begin. -/
def rcS (bs : List Int) (le mo : Nat) : Option (List Int) :=
  if bs.length < 13 then none else
  if valN (bs.take 4) < le ∨ min mo (bs.length - 13) < valN (bs.take 4) ∨ (valN ((bs.drop 4).take 4) : Int) ≠ bits .xor .u64 (valN (bs.take 4)) 4294967295 then none else
  if bs.getD (12 + valN (bs.take 4)) 0 ≠ 165 ∨ (valN ((bs.drop 8).take 4) : Int) ≠ sumI ((bs.drop 12).take (valN (bs.take 4))) then none else some ((bs.drop 12).take (valN (bs.take 4)))
theorem wrap_u64 {z : Int} (h0 : 0 ≤ z) (h1 : z ≤ 18446744073709551615) : IntKind.u64.wrap z = z := by
  simp [IntKind.wrap, IntKind.bits, IntKind.signed]
  omega
/-- What recordOf answers. -/
def RcQ (w : World) (po : Option Addr) (c : Nat) (r : Option (List Int)) (e : Ending) (w' : World) : Prop :=
  w' = w ∧ ((r = none ∧ e = .returned (.tuple #[.slice none 0 0, .bool false])) ∨ ∃ b o ct, r = some ct ∧ po = some ⟨b, o, none⟩ ∧ e = .returned (.tuple #[.slice (some ⟨b, o + 12, none⟩) ct.length (c - 12), .bool true]))
section
variable {w : World} {po : Option Addr} {m c : Nat} {bs : List Int} {le mo : Nat}
set_option maxRecDepth 100000 in
set_option maxHeartbeats 4000000 in
theorem recordOf_any (hb : Byts w po m bs) (hr : Rng bs) (hmc : m ≤ c) (hcm : c ≤ maxLen) (hm47 : m ≤ 140737488355328) (hH : Halves w) (hle : le ≤ 2147483647) (hmo : mo ≤ 2147483647) :
    Calls Tryz.prog 94 #[.slice po m c, .int .i64 le, .int .i64 mo] w (RcQ w po c (rcS bs le mo)) := by
  have hl := hb.len
  unfold maxLen at hcm
  by_cases h13 : m < 13
  · have E : Hid (rcS bs le mo = none) := by unfold Hid rcS; rw [if_pos (by omega)]
    have h1 : (m : Int) < 13 := by omega
    clear hb hr hH
    go_enter Tryz.func94, Tryz.ntmps94
    go_wp2_with fail
    go_ret2
    exact ⟨rfl, Or.inl ⟨E.out, rfl⟩⟩
  · obtain ⟨b, o, rfl⟩ : ∃ b o, po = some ⟨b, o, none⟩ := by obtain ⟨b, o, e, _⟩ := hb.cell 0 (by omega); exact ⟨b, o, e⟩
    have h1 : ¬ (m : Int) < 13 := by omega
    have h4 : (4 : Int) ≤ c := by omega
    have h8 : (8 : Int) ≤ c := by omega
    have h12 : (12 : Int) ≤ c := by omega
    obtain ⟨s, hs⟩ : ∃ s, valN (bs.take 4) = s := ⟨_, rfl⟩
    obtain ⟨t, ht⟩ : ∃ t, valN ((bs.drop 4).take 4) = t := ⟨_, rfl⟩
    obtain ⟨u, hu⟩ : ∃ u, valN ((bs.drop 8).take 4) = u := ⟨_, rfl⟩
    have hsb : s ≤ 4294967295 := by have := valN_lt bs hr 4 (by omega); rw [hs] at this; omega
    have E0 : Hid (rcS bs le mo = if s < le ∨ min mo (m - 13) < s ∨ (t : Int) ≠ bits .xor .u64 s 4294967295 then none else if bs.getD (12 + s) 0 ≠ 165 ∨ (u : Int) ≠ sumI ((bs.drop 12).take s) then none else some ((bs.drop 12).take s)) := by
      unfold Hid rcS
      rw [if_neg (by omega), hs, ht, hu, hl]
    have HV1 : Hid (∀ c, Calls Tryz.prog 95 #[.slice (some ⟨b, o, none⟩) 4 c] w fun e w' => e = .returned (.int .u64 s) ∧ w' = w) := fun c => by
      have := value_any (c := c) w (hb.take (m := 4) (by omega)) (by omega) (hr.take 4)
      rw [hs] at this
      exact this
    have HV2 : Hid (∀ c, Calls Tryz.prog 95 #[.slice (some ⟨b, o + 4, none⟩) 4 c] w fun e w' => e = .returned (.int .u64 t) ∧ w' = w) := fun c => by
      have := value_any (c := c) w (hb.shift 4 4 (by omega)) (by omega) ((hr.drop 4).take 4)
      rw [ht] at this
      exact this
    have HV3 : Hid (∀ c, Calls Tryz.prog 95 #[.slice (some ⟨b, o + 8, none⟩) 4 c] w fun e w' => e = .returned (.int .u64 u) ∧ w' = w) := fun c => by
      have := value_any (c := c) w (hb.shift 8 4 (by omega)) (by omega) ((hr.drop 8).take 4)
      rw [hu] at this
      exact this
    have HS : Hid (∀ c, 12 + s ≤ m → Calls Tryz.prog 83 #[.slice (some ⟨b, o + 12, none⟩) s c] w fun e w' => e = .returned (.int .u32 (sumI ((bs.drop 12).take s))) ∧ w' = w) := fun c hc => sum_any w (hb.shift 12 s hc) (by omega) hH
    have HB : Hid (Byts w (some ⟨b, o, none⟩) m bs) := hb
    have q1 : IntKind.u64.wrap (le : Int) = le := wrap_u64 (by omega) (by omega)
    have q2 : IntKind.i64.wrap ((m : Int) - 13) = m - 13 := wrap_id (by omega) (by omega)
    clear hb hr hH hs ht hu
    go_enter Tryz.func94, Tryz.ntmps94
    go_wp2_with fail
    refine (HV1.out _).mono ?_
    rintro e w1 ⟨rfl, hw1⟩
    rw [hw1]
    clear hw1 HV1
    by_cases g1 : s < le
    · have E1 : Hid (rcS bs le mo = none) := by unfold Hid; rw [E0.out, if_pos (Or.inl g1)]
      have d1 : decide ((s : Int) < le) = true := by simp; omega
      have g1' : (s : Int) < le := by omega
      go_wp2_with fail
      go_ret2
      exact ⟨rfl, Or.inl ⟨E1.out, rfl⟩⟩
    · have d1 : decide ((s : Int) < le) = false := by simp; omega
      have g1' : ¬ (s : Int) < le := by omega
      by_cases gm : mo ≤ m - 13
      · have gm1 : (mo : Int) ≤ m - 13 := by omega
        have q5 : IntKind.u64.wrap (mo : Int) = mo := wrap_u64 (by omega) (by omega)
        by_cases g2 : mo < s
        · have E1 : Hid (rcS bs le mo = none) := by unfold Hid; rw [E0.out, if_pos (Or.inr (Or.inl (by omega)))]
          have d2 : decide ((mo : Int) < (s : Int)) = true := by simp; omega
          have d2' : (mo : Int) < (s : Int) := by omega
          have d2n : mo < s := g2
          go_wp2_with fail
          go_ret2
          exact ⟨rfl, Or.inl ⟨E1.out, rfl⟩⟩
        · have d2 : decide ((mo : Int) < (s : Int)) = false := by simp; omega
          have d2' : ¬ (mo : Int) < (s : Int) := by omega
          have d2n : decide (mo < s) = false := by simp; omega
          go_wp2_with fail
          refine (HV2.out _).mono ?_
          rintro e w1 ⟨rfl, hw1⟩
          rw [hw1]
          clear hw1 HV2
          obtain ⟨X, hX⟩ : ∃ X, bits .xor .u64 (s : Int) 4294967295 = X := ⟨_, rfl⟩
          by_cases g3 : (t : Int) = X
          · have d3 : ((t : Int) == X) = true := by simp [g3]
            have d3' : ((t : Int) != X) = false := by simp [g3]
            have q3 : IntKind.i64.wrap (s : Int) = s := wrap_id (by omega) (by omega)
            have q4 : IntKind.i64.wrap (12 + (s : Int)) = 12 + s := wrap_id (by omega) (by omega)
            have k1 : (12 : Int) ≤ 12 + s := by omega
            have k2 : (12 + (s : Int)) ≤ c := by omega
            have k3 : (12 + (s : Int)) < m := by omega
            have k4 : (0 : Int) ≤ 12 + s := by omega
            obtain ⟨L, hL⟩ : ∃ L, bs.getD (12 + s) 0 = L := ⟨_, rfl⟩
            have hc : w.cell? ⟨b, o + (12 + s), none⟩ = some (.int .u8 L) := by
              obtain ⟨b', o', e, _, h⟩ := HB.out.cell (12 + s) (by omega)
              simp only [Option.some.injEq, Addr.mk.injEq] at e
              obtain ⟨rfl, rfl, _⟩ := e
              rw [h, hL]
            by_cases g4 : L = 165
            · have d4 : (L == 165) = true := by simp [g4]
              have d4' : (L != 165) = false := by simp [g4]
              obtain ⟨Y, hY⟩ : ∃ Y, sumI ((bs.drop 12).take s) = Y := ⟨_, rfl⟩
              have hYb : 0 ≤ Y ∧ Y ≤ 4294967295 := by rw [← hY]; exact sumI_bd _
              have q6 : IntKind.u64.wrap Y = Y := wrap_u64 hYb.1 (by omega)
              go_wp2_with fail
              refine (HV3.out _).mono ?_
              rintro e w1 ⟨rfl, hw1⟩
              rw [hw1]
              clear hw1 HV3
              go_wp2_with fail
              refine (HS.out _ (by omega)).mono ?_
              rintro e w1 ⟨rfl, hw1⟩
              rw [hw1, hY]
              clear hw1 HS
              by_cases g5 : (u : Int) = Y
              · have E1 : Hid (rcS bs le mo = some ((bs.drop 12).take s)) := by
                  unfold Hid
                  rw [E0.out, hX, hL, hY, if_neg (by rintro (h | h | h) <;> omega), if_neg (by rintro (h | h) <;> contradiction)]
                have d5 : ((u : Int) == Y) = true := by simp [g5]
                have d5' : ((u : Int) != Y) = false := by simp [g5]
                have hlen : ((bs.drop 12).take s).length = s := by rw [List.length_take, List.length_drop]; omega
                clear hY hX hL
                go_wp2_with fail
                go_ret2
                exact ⟨rfl, Or.inr ⟨b, o, _, E1.out, rfl, by rw [hlen]; rfl⟩⟩
              · have E1 : Hid (rcS bs le mo = none) := by
                  unfold Hid
                  rw [E0.out, hX, hL, hY, if_neg (by rintro (h | h | h) <;> omega), if_pos (Or.inr g5)]
                have d5 : ((u : Int) == Y) = false := by simp [g5]
                have d5' : ((u : Int) != Y) = true := by simp [g5]
                clear hY hX hL
                go_wp2_with fail
                go_ret2
                exact ⟨rfl, Or.inl ⟨E1.out, rfl⟩⟩
            · have E1 : Hid (rcS bs le mo = none) := by
                unfold Hid
                rw [E0.out, hX, hL, if_neg (by rintro (h | h | h) <;> omega), if_pos (Or.inl g4)]
              have d4 : (L == 165) = false := by simp [g4]
              have d4' : (L != 165) = true := by simp [g4]
              go_wp2_with fail
              go_ret2
              exact ⟨rfl, Or.inl ⟨E1.out, rfl⟩⟩
          · have E1 : Hid (rcS bs le mo = none) := by unfold Hid; rw [E0.out, hX, if_pos (Or.inr (Or.inr g3))]
            have d3 : ((t : Int) == X) = false := by simp [g3]
            have d3' : ((t : Int) != X) = true := by simp [g3]
            go_wp2_with fail
            go_ret2
            exact ⟨rfl, Or.inl ⟨E1.out, rfl⟩⟩
      · have gm1 : ¬ (mo : Int) ≤ m - 13 := by omega
        have gm2 : ((m : Int) - 13) < mo := by omega
        have q5 : IntKind.u64.wrap ((m : Int) - 13) = m - 13 := wrap_u64 (by omega) (by omega)
        by_cases g2 : (m - 13) < s
        · have E1 : Hid (rcS bs le mo = none) := by unfold Hid; rw [E0.out, if_pos (Or.inr (Or.inl (by omega)))]
          have d2 : decide (((m : Int) - 13) < (s : Int)) = true := by simp; omega
          have d2' : ((m : Int) - 13) < (s : Int) := by omega
          have d2n : (m - 13) < s := g2
          go_wp2_with fail
          go_ret2
          exact ⟨rfl, Or.inl ⟨E1.out, rfl⟩⟩
        · have d2 : decide (((m : Int) - 13) < (s : Int)) = false := by simp; omega
          have d2' : ¬ ((m : Int) - 13) < (s : Int) := by omega
          have d2n : decide ((m - 13) < s) = false := by simp; omega
          go_wp2_with fail
          refine (HV2.out _).mono ?_
          rintro e w1 ⟨rfl, hw1⟩
          rw [hw1]
          clear hw1 HV2
          obtain ⟨X, hX⟩ : ∃ X, bits .xor .u64 (s : Int) 4294967295 = X := ⟨_, rfl⟩
          by_cases g3 : (t : Int) = X
          · have d3 : ((t : Int) == X) = true := by simp [g3]
            have d3' : ((t : Int) != X) = false := by simp [g3]
            have q3 : IntKind.i64.wrap (s : Int) = s := wrap_id (by omega) (by omega)
            have q4 : IntKind.i64.wrap (12 + (s : Int)) = 12 + s := wrap_id (by omega) (by omega)
            have k1 : (12 : Int) ≤ 12 + s := by omega
            have k2 : (12 + (s : Int)) ≤ c := by omega
            have k3 : (12 + (s : Int)) < m := by omega
            have k4 : (0 : Int) ≤ 12 + s := by omega
            obtain ⟨L, hL⟩ : ∃ L, bs.getD (12 + s) 0 = L := ⟨_, rfl⟩
            have hc : w.cell? ⟨b, o + (12 + s), none⟩ = some (.int .u8 L) := by
              obtain ⟨b', o', e, _, h⟩ := HB.out.cell (12 + s) (by omega)
              simp only [Option.some.injEq, Addr.mk.injEq] at e
              obtain ⟨rfl, rfl, _⟩ := e
              rw [h, hL]
            by_cases g4 : L = 165
            · have d4 : (L == 165) = true := by simp [g4]
              have d4' : (L != 165) = false := by simp [g4]
              obtain ⟨Y, hY⟩ : ∃ Y, sumI ((bs.drop 12).take s) = Y := ⟨_, rfl⟩
              have hYb : 0 ≤ Y ∧ Y ≤ 4294967295 := by rw [← hY]; exact sumI_bd _
              have q6 : IntKind.u64.wrap Y = Y := wrap_u64 hYb.1 (by omega)
              go_wp2_with fail
              refine (HV3.out _).mono ?_
              rintro e w1 ⟨rfl, hw1⟩
              rw [hw1]
              clear hw1 HV3
              go_wp2_with fail
              refine (HS.out _ (by omega)).mono ?_
              rintro e w1 ⟨rfl, hw1⟩
              rw [hw1, hY]
              clear hw1 HS
              by_cases g5 : (u : Int) = Y
              · have E1 : Hid (rcS bs le mo = some ((bs.drop 12).take s)) := by
                  unfold Hid
                  rw [E0.out, hX, hL, hY, if_neg (by rintro (h | h | h) <;> omega), if_neg (by rintro (h | h) <;> contradiction)]
                have d5 : ((u : Int) == Y) = true := by simp [g5]
                have d5' : ((u : Int) != Y) = false := by simp [g5]
                have hlen : ((bs.drop 12).take s).length = s := by rw [List.length_take, List.length_drop]; omega
                clear hY hX hL
                go_wp2_with fail
                go_ret2
                exact ⟨rfl, Or.inr ⟨b, o, _, E1.out, rfl, by rw [hlen]; rfl⟩⟩
              · have E1 : Hid (rcS bs le mo = none) := by
                  unfold Hid
                  rw [E0.out, hX, hL, hY, if_neg (by rintro (h | h | h) <;> omega), if_pos (Or.inr g5)]
                have d5 : ((u : Int) == Y) = false := by simp [g5]
                have d5' : ((u : Int) != Y) = true := by simp [g5]
                clear hY hX hL
                go_wp2_with fail
                go_ret2
                exact ⟨rfl, Or.inl ⟨E1.out, rfl⟩⟩
            · have E1 : Hid (rcS bs le mo = none) := by
                unfold Hid
                rw [E0.out, hX, hL, if_neg (by rintro (h | h | h) <;> omega), if_pos (Or.inl g4)]
              have d4 : (L == 165) = false := by simp [g4]
              have d4' : (L != 165) = true := by simp [g4]
              go_wp2_with fail
              go_ret2
              exact ⟨rfl, Or.inl ⟨E1.out, rfl⟩⟩
          · have E1 : Hid (rcS bs le mo = none) := by unfold Hid; rw [E0.out, hX, if_pos (Or.inr (Or.inr g3))]
            have d3 : ((t : Int) == X) = false := by simp [g3]
            have d3' : ((t : Int) != X) = true := by simp [g3]
            go_wp2_with fail
            go_ret2
            exact ⟨rfl, Or.inl ⟨E1.out, rfl⟩⟩
end
end Go.Proofs.YthnpckmgnompiaaGreatDoor
