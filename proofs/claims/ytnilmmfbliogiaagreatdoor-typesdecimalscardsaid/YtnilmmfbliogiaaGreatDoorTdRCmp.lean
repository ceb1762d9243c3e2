/-
  The document's Compare.
-/
import Derived.Test.YtnilmmfbliogiaaGreatDoorTdRWr
import Derived.Test.YtnilmmfbliogiaaGreatDoorTdMath
namespace Go.Proofs.YtnilmmfbliogiaaGreatDoor
open Go.RowKit

theorem less_total : ∀ (x y : List UInt8), Op.bytesLess x y = false → Op.bytesLess y x = !(x == y)
  | [], [], _ => rfl
  | [], _ :: _, h => by simp [Op.bytesLess] at h
  | _ :: _, [], _ => rfl
  | a :: x, b :: y, h => by
    rw [Op.bytesLess] at h ⊢
    simp only [Bool.or_eq_false_iff, decide_eq_false_iff_not] at h
    obtain ⟨h1, h2⟩ := h
    by_cases hab : a = b
    · subst hab
      have h3 : Op.bytesLess x y = false := by simpa using h2
      have h4 : ¬ a < a := by simp
      rw [less_total x y h3]
      simp
    · have h3 : b < a := by
        rw [UInt8.lt_iff_toNat_lt] at h1 ⊢
        have : a.toNat ≠ b.toNat := fun e => hab (UInt8.toNat_inj.1 e)
        omega
      simp [h3, hab]
/-- What Compare answers, and its error: number and place. -/
def cpV (na : Bool) (da : ByteArray) (sa : Int) (nb : Bool) (db : ByteArray) (sb : Int) : Int := if rgt na (bl da) sa && rgt nb (bl db) sb then ordN na (bl da) sa.toNat nb (bl db) sb.toNat else 0
def cpE (na : Bool) (da : ByteArray) (sa : Int) (nb : Bool) (db : ByteArray) (sb : Int) : Int := if rgt na (bl da) sa && rgt nb (bl db) sb then 0 else 164
def cpA (na : Bool) (da : ByteArray) (sa : Int) : Int := if rgt na (bl da) sa then 1 else 0
set_option maxRecDepth 100000 in
set_option maxHeartbeats 4000000 in
theorem rCompare_ok (na : Bool) (da : ByteArray) (sa : Nat) (nb : Bool) (db : ByteArray) (sb : Nat) (w : World) (ra : rgt na (bl da) (sa : Int) = true) (rb : rgt nb (bl db) (sb : Int) = true) :
    Calls Tryz.prog 9 #[.agg #[.bool na, .string da, .int .i64 (sa : Int)], .agg #[.bool nb, .string db, .int .i64 (sb : Int)]] w fun r w' => r = .returned (.tuple #[.int .i64 (ordN na (bl da) sa nb (bl db) sb), .slice none 0 0]) ∧ Below w.heap.size w w' := by
  obtain ⟨_, ea, h1⟩ := rgt_sc ra
  obtain ⟨_, eb, h2⟩ := rgt_sc rb
  have ha := (rgt_dgs ra).2
  have hb := (rgt_dgs rb).2
  rw [bl_len] at ha hb
  obtain rfl := Int.ofNat.inj ea
  obtain rfl := Int.ofNat.inj eb
  have cA := fun w => rRight_any na da (sa : Int) w (by omega)
  have cB := fun w => rRight_any nb db (sb : Int) w (by omega)
  rw [ra] at cA
  rw [rb] at cB
  have HU : Hid (Below w.heap.size w ((w.alloc (.cells #[.bool na, .string da, .int .i64 (sa : Int)] 23)).alloc (.cells #[.bool nb, .string db, .int .i64 (sb : Int)] 23)) ∧ Box ((w.alloc (.cells #[.bool na, .string da, .int .i64 (sa : Int)] 23)).alloc (.cells #[.bool nb, .string db, .int .i64 (sb : Int)] 23)) w.heap.size #[.bool na, .string da, .int .i64 (sa : Int)] ∧ Box ((w.alloc (.cells #[.bool na, .string da, .int .i64 (sa : Int)] 23)).alloc (.cells #[.bool nb, .string db, .int .i64 (sb : Int)] 23)) (w.heap.size + 1) #[.bool nb, .string db, .int .i64 (sb : Int)]) := by
    refine ⟨((Below.refl _ _).alloc (Nat.le_refl _) _).alloc (by simp) _, (Box.new _ _ _).alloc _, ?_⟩
    have := Box.new (w.alloc (.cells #[.bool na, .string da, .int .i64 (sa : Int)] 23)) #[.bool nb, .string db, .int .i64 (sb : Int)] 23
    simpa using this
  go_enter Tryz.func9, Tryz.ntmps9
  go_wp2_with fail
  refine (cA _).mono ?_
  rintro _ w1 ⟨rfl, hb1⟩
  have H1 : Hid (Below w.heap.size w w1 ∧ Box w1 w.heap.size #[.bool na, .string da, .int .i64 (sa : Int)] ∧ Box w1 (w.heap.size + 1) #[.bool nb, .string db, .int .i64 (sb : Int)]) := ⟨below_then HU.out.1 hb1, HU.out.2.1.below hb1, HU.out.2.2.below hb1⟩
  clear hb1
  have kb := H1.out.2.2.cell
  go_wp2_with fail
  refine (cB _).mono ?_
  rintro _ w2 ⟨rfl, hb1⟩
  have H2 : Hid (Below w.heap.size w w2 ∧ Box w2 w.heap.size #[.bool na, .string da, .int .i64 (sa : Int)] ∧ Box w2 (w.heap.size + 1) #[.bool nb, .string db, .int .i64 (sb : Int)]) := ⟨below_then H1.out.1 hb1, H1.out.2.1.below hb1, H1.out.2.2.below hb1⟩
  clear hb1 kb cA cB
  have ka := H2.out.2.1.cell
  have kb := H2.out.2.2.cell
  go_wp2_with fail
  go_loopw [6, 8] (fun t6 t8 wx => ∃ (j : Nat) (X : ByteArray), sa ≤ j ∧ (j ≤ sb ∨ j = sa) ∧ t6 = .string X ∧ t8 = .int .i64 j ∧ X.size = da.size + (j - sa) ∧ Hid (bl X = bl da ++ List.replicate (j - sa) 48) ∧ wx = w2) (fun _ t8 _ => sb - (intOf t8).toNat)
  case atStart => exact ⟨sa, da, Nat.le_refl _, Or.inr rfl, rfl, rfl, by omega, (by unfold Hid; simp), rfl⟩
  case round =>
    obtain ⟨j, X, hj1, hj2, rfl, rfl, hXz, HX0, hw⟩ := hrel
    subst wr
    by_cases hlt : j < sb
    · have hlti : (j : Int) < sb := by omega
      have hs : ¬ 9223372036854775807 < X.size + 1 := by omega
      have hz2 : (X ++ ⟨#[48]⟩ : ByteArray).size = X.size + 1 := by rw [ByteArray.size_append]; rfl
      have HX2 : Hid (bl (X ++ ⟨#[48]⟩) = bl da ++ List.replicate (j + 1 - sa) 48) := by
        unfold Hid; rw [bl_append, HX0.out, show j + 1 - sa = (j - sa) + 1 by omega, List.replicate_succ', List.append_assoc]
      go_wp2_with fail
      go_roundw
      case rel => exact ⟨j + 1, X ++ ⟨#[48]⟩, by omega, by omega, rfl, by go_num, by omega, HX2, (by first | rfl | trivial)⟩
      case measure => simp [intOf]; omega
    · have hlti : ¬ (j : Int) < sb := by omega
      have HX : Hid (bl X = padR (bl da) sa sb) := by
        unfold Hid padR; rw [HX0.out, show j - sa = sb - sa by omega]
      have hXs : X.size ≤ 40 := by omega
      clear HX0 hXz hj1 hj2 hlt
      go_wp2_with fail
      go_loopw [7, 9] (fun t6 t8 wx => ∃ (j : Nat) (Y : ByteArray), sb ≤ j ∧ (j ≤ sa ∨ j = sb) ∧ t6 = .string Y ∧ t8 = .int .i64 j ∧ Y.size = db.size + (j - sb) ∧ Hid (bl Y = bl db ++ List.replicate (j - sb) 48) ∧ wx = w2) (fun _ t8 _ => sa - (intOf t8).toNat)
      case atStart => exact ⟨sb, db, Nat.le_refl _, Or.inr rfl, rfl, rfl, by omega, (by unfold Hid; simp), rfl⟩
      case round =>
        obtain ⟨j, Y, hj1, hj2, rfl, rfl, hYz, HY0, hw⟩ := hrel
        subst wr
        by_cases hlt : j < sa
        · have hlti : (j : Int) < sa := by omega
          have hs : ¬ 9223372036854775807 < Y.size + 1 := by omega
          have hz2 : (Y ++ ⟨#[48]⟩ : ByteArray).size = Y.size + 1 := by rw [ByteArray.size_append]; rfl
          have HY2 : Hid (bl (Y ++ ⟨#[48]⟩) = bl db ++ List.replicate (j + 1 - sb) 48) := by
            unfold Hid; rw [bl_append, HY0.out, show j + 1 - sb = (j - sb) + 1 by omega, List.replicate_succ', List.append_assoc]
          go_wp2_with fail
          go_roundw
          case rel => exact ⟨j + 1, Y ++ ⟨#[48]⟩, by omega, by omega, rfl, by go_num, by omega, HY2, (by first | rfl | trivial)⟩
          case measure => simp [intOf]; omega
        · have hlti : ¬ (j : Int) < sa := by omega
          have HY : Hid (bl Y = padR (bl db) sb sa) := by
            unfold Hid padR; rw [HY0.out, show j - sb = sa - sb by omega]
          have hYs : Y.size ≤ 40 := by omega
          clear HY0 hYz hj1 hj2 hlt
          go_wp2_with fail
          go_loopw [6] (fun t6 wx => ∃ (k : Nat) (Z : ByteArray), k ≤ Y.size - X.size ∧ t6 = .string Z ∧ Z.size = X.size + k ∧ Hid (bl Z = List.replicate k 48 ++ bl X) ∧ wx = w2) (fun t6 _ => match t6 with | .string Z => Y.size - Z.size | _ => 0)
          case atStart => exact ⟨0, X, Nat.zero_le _, rfl, rfl, rfl, rfl⟩
          case round =>
            obtain ⟨k, Z, hk, rfl, hZz, HZ0, hw⟩ := hrel
            subst wr
            by_cases hlt : Z.size < Y.size
            · have hlti : (Z.size : Int) < Y.size := by omega
              have hs : ¬ 9223372036854775807 < 1 + Z.size := by omega
              have hz2 : (⟨#[48]⟩ ++ Z : ByteArray).size = 1 + Z.size := by rw [ByteArray.size_append]; rfl
              have HZ2 : Hid (bl (⟨#[48]⟩ ++ Z) = List.replicate (k + 1) 48 ++ bl X) := by
                unfold Hid; rw [bl_append, HZ0.out, List.replicate_succ]; rfl
              go_wp2_with fail
              go_roundw
              case rel => exact ⟨k + 1, ⟨#[48]⟩ ++ Z, by omega, rfl, by omega, HZ2, (by first | rfl | trivial)⟩
              case measure => simp only [hz2]; omega
            · have hlti : ¬ (Z.size : Int) < Y.size := by omega
              have HZ : Hid (bl Z = padX (bl da) sa (bl db) sb) := by
                unfold Hid padX
                rw [HZ0.out, ← HX.out, ← HY.out, bl_len, bl_len, show k = Y.size - X.size by omega]
              have hZx : Z.size = X.size + (Y.size - X.size) := by omega
              clear HZ0
              go_wp2_with fail
              go_loopw [7] (fun t7 wx => ∃ (m : Nat) (V : ByteArray), m ≤ Z.size - Y.size ∧ t7 = .string V ∧ V.size = Y.size + m ∧ Hid (bl V = List.replicate m 48 ++ bl Y) ∧ wx = w2) (fun t7 _ => match t7 with | .string V => Z.size - V.size | _ => 0)
              case atStart => exact ⟨0, Y, Nat.zero_le _, rfl, rfl, rfl, rfl⟩
              case round =>
                obtain ⟨m, V, hm, rfl, hVz, HV0, hw⟩ := hrel
                subst wr
                by_cases hlt : V.size < Z.size
                · have hlti : (V.size : Int) < Z.size := by omega
                  have hs : ¬ 9223372036854775807 < 1 + V.size := by omega
                  have hz2 : (⟨#[48]⟩ ++ V : ByteArray).size = 1 + V.size := by rw [ByteArray.size_append]; rfl
                  have HV2 : Hid (bl (⟨#[48]⟩ ++ V) = List.replicate (m + 1) 48 ++ bl Y) := by
                    unfold Hid; rw [bl_append, HV0.out, List.replicate_succ]; rfl
                  go_wp2_with fail
                  go_roundw
                  case rel => exact ⟨m + 1, ⟨#[48]⟩ ++ V, by omega, rfl, by omega, HV2, (by first | rfl | trivial)⟩
                  case measure => simp only [hz2]; omega
                · have hlti : ¬ (V.size : Int) < Z.size := by omega
                  have HV : Hid (bl V = padX (bl db) sb (bl da) sa) := by
                    unfold Hid padX
                    rw [HV0.out, ← HX.out, ← HY.out, bl_len, bl_len, show m = X.size - Y.size by omega]
                  clear HV0
                  cases na <;> cases nb
                  · obtain ⟨q1, hq1⟩ : ∃ q, Op.bytesLess Z.toList V.toList = q := ⟨_, rfl⟩
                    obtain ⟨q2, hq2⟩ : ∃ q, (Z.toList == V.toList) = q := ⟨_, rfl⟩
                    have HO : Hid (ordN false (bl da) sa false (bl db) sb = 1 * (if q1 then -1 else if q2 then 0 else 1)) := by
                      unfold Hid ordN ordB
                      rw [← HZ.out, ← HV.out]
                      rw [Lib.toList_data, Lib.toList_data] at hq1 hq2
                      cases hc : q1 with
                      | true => rw [hc] at hq1; rw [show Op.bytesLess (bl Z) (bl V) = true from hq1]; rfl
                      | false =>
                        rw [hc] at hq1
                        rw [less_total (bl Z) (bl V) hq1, show Op.bytesLess (bl Z) (bl V) = false from hq1, show (bl Z == bl V) = q2 from hq2]
                        cases q2 <;> rfl
                    cases q1 with
                    | true =>
                      go_wp2_with fail
                      refine bodyPost_ret ?_ rfl ⟨congrArg (fun v => Ending.returned (.tuple #[.int .i64 v, .slice none 0 0])) HO.out.symm, H2.out.1⟩
                      simp [results, Tryz.results9, go_sem]
                    | false =>
                      cases q2 with
                      | true =>
                        go_wp2_with fail
                        refine bodyPost_ret ?_ rfl ⟨congrArg (fun v => Ending.returned (.tuple #[.int .i64 v, .slice none 0 0])) HO.out.symm, H2.out.1⟩
                        simp [results, Tryz.results9, go_sem]
                      | false =>
                        go_wp2_with fail
                        refine bodyPost_ret ?_ rfl ⟨congrArg (fun v => Ending.returned (.tuple #[.int .i64 v, .slice none 0 0])) HO.out.symm, H2.out.1⟩
                        simp [results, Tryz.results9, go_sem]
                  · go_wp2_with fail
                    refine bodyPost_ret ?_ rfl ⟨rfl, H2.out.1⟩
                    simp [results, Tryz.results9, go_sem, ordN]
                  · go_wp2_with fail
                    refine bodyPost_ret ?_ rfl ⟨rfl, H2.out.1⟩
                    simp [results, Tryz.results9, go_sem, ordN]
                  · obtain ⟨q1, hq1⟩ : ∃ q, Op.bytesLess Z.toList V.toList = q := ⟨_, rfl⟩
                    obtain ⟨q2, hq2⟩ : ∃ q, (Z.toList == V.toList) = q := ⟨_, rfl⟩
                    have HO : Hid (ordN true (bl da) sa true (bl db) sb = -1 * (if q1 then -1 else if q2 then 0 else 1)) := by
                      unfold Hid ordN ordB
                      rw [← HZ.out, ← HV.out]
                      rw [Lib.toList_data, Lib.toList_data] at hq1 hq2
                      cases hc : q1 with
                      | true => rw [hc] at hq1; rw [show Op.bytesLess (bl Z) (bl V) = true from hq1]; rfl
                      | false =>
                        rw [hc] at hq1
                        rw [less_total (bl Z) (bl V) hq1, show Op.bytesLess (bl Z) (bl V) = false from hq1, show (bl Z == bl V) = q2 from hq2]
                        cases q2 <;> rfl
                    cases q1 with
                    | true =>
                      go_wp2_with fail
                      refine bodyPost_ret ?_ rfl ⟨congrArg (fun v => Ending.returned (.tuple #[.int .i64 v, .slice none 0 0])) HO.out.symm, H2.out.1⟩
                      simp [results, Tryz.results9, go_sem]
                    | false =>
                      cases q2 with
                      | true =>
                        go_wp2_with fail
                        refine bodyPost_ret ?_ rfl ⟨congrArg (fun v => Ending.returned (.tuple #[.int .i64 v, .slice none 0 0])) HO.out.symm, H2.out.1⟩
                        simp [results, Tryz.results9, go_sem]
                      | false =>
                        go_wp2_with fail
                        refine bodyPost_ret ?_ rfl ⟨congrArg (fun v => Ending.returned (.tuple #[.int .i64 v, .slice none 0 0])) HO.out.symm, H2.out.1⟩
                        simp [results, Tryz.results9, go_sem]
end Go.Proofs.YtnilmmfbliogiaaGreatDoor
