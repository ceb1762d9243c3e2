/-
  The document's No, Decimal.
-/
import Derived.Test.YtnilmmfbliogiaaGreatDoorTdRef
namespace Go.Proofs.YtnilmmfbliogiaaGreatDoor
open Go.RowKit

theorem trR_zero (l : List UInt8) : trR (l ++ [48]) = trR l := by unfold trR; simp
theorem trR_stop (l : List UInt8) (b : UInt8) (h : b ≠ 48) : trR (l ++ [b]) = l ++ [b] := by unfold trR; simp [h]
theorem trL_zero (l : List UInt8) : trL (48 :: l) = trL l := by unfold trL; simp
theorem trL_stop (l : List UInt8) (b : UInt8) (h : b ≠ 48) : trL (b :: l) = b :: l := by unfold trL; simp [h]
theorem bl_last {X : ByteArray} (h : 0 < X.size) : bl X = bl (X.extract 0 (X.size - 1)) ++ [X[X.size - 1]] := by
  rw [bl_to]
  have h1 : (bl X)[X.size - 1]? = some X[X.size - 1] := bl_at (by omega)
  obtain ⟨h2, h3⟩ := List.getElem?_eq_some_iff.1 h1
  rw [← h3, List.take_append_getElem, List.take_of_length_le (by rw [bl_len]; omega)]
theorem bl_first {X : ByteArray} (h : 0 < X.size) : bl X = X[0] :: bl (X.extract 1 X.size) := by
  obtain ⟨r, hr⟩ := cons_of h
  rw [bl_from, hr]; rfl
theorem ext_size (X : ByteArray) (a b : Nat) : (X.extract a b).size ≤ X.size := by
  rw [← bl_len, bl_extract, ← bl_len X, List.length_take, List.length_drop]; omega
/-- One link of this layer. -/
def TLink (w : World) (g : Nat) (a code : Int) : Prop := w.cell? ⟨g, 0, none⟩ = some (.string ⟨#[116, 121, 112, 101, 115]⟩) ∧ w.cell? ⟨g, 1, none⟩ = some (.int .i64 a) ∧ w.cell? ⟨g, 2, none⟩ = some (.int .i64 code)
/-- The document's refusal: none where the number is 0. -/
def TNo (w : World) (v : Value) (a code : Int) : Prop := (v = .slice none 0 0 ∧ code = 0) ∨ (code ≠ 0 ∧ ∃ g, v = .slice (some ⟨g, 0, none⟩) 1 1 ∧ TLink w g a code)
theorem TNo.below {w w' : World} {v : Value} {a c : Int} (h : TNo w v a c) (hb : Below w.heap.size w w') : TNo w' v a c := by
  rcases h with h | ⟨h0, g, h1, h2⟩
  · exact Or.inl h
  · have hl : g < w.heap.size := cell_lt h2.1
    have hc : ∀ o, w'.cell? ⟨g, o, none⟩ = w.cell? ⟨g, o, none⟩ := fun o => hb.cell (p := ⟨g, o, none⟩) hl
    exact Or.inr ⟨h0, g, h1, by rw [hc]; exact h2.1, by rw [hc]; exact h2.2.1, by rw [hc]; exact h2.2.2⟩
theorem TNo.bad {w : World} {v : Value} {a c : Int} (h : TNo w v a c) (hc : c ≠ 0) : ∃ g, v = .slice (some ⟨g, 0, none⟩) 1 1 := by
  rcases h with h | ⟨_, b, h, _⟩
  · exact absurd h.2 hc
  · exact ⟨b, h⟩
set_option maxHeartbeats 1000000 in
theorem rNo_any (a code : Int) (hc : code ≠ 0) (w : World) : Calls Tryz.prog 18 #[.int .i64 a, .int .i64 code] w fun e w' => ∃ v, e = .returned v ∧ TNo w' v a code ∧ Below w.heap.size w w' := by
  go_enter Tryz.func18, Tryz.ntmps18
  go_wp2
  go_ret
  refine ⟨_, rfl, Or.inr ⟨hc, _, rfl, ?_⟩, ?_⟩
  · simp [TLink]
  · repeat (first | exact Below.refl _ _ | refine Below.setCell ?_ (by simp) _ | refine Below.alloc ?_ (by simp) _)
def RcQ (l : List UInt8) (w : World) (r : Ending) (w' : World) : Prop := ∃ no, r = .returned (.tuple #[nbV (dN l), no]) ∧ TNo w' no 0 (dE l) ∧ Below w.heap.size w w'
theorem TNo.put {w : World} {b : Nat} {v : Value} {a c : Int} (h : TNo w v a c) {z0 z1 z2 : Value} (hB : Box w b #[z0, z1, z2]) (hz : ∀ x, z0 ≠ .string x) (x0 x1 x2 : Value) : TNo (((w.setCell ⟨b, 0, none⟩ x0).setCell ⟨b, 1, none⟩ x1).setCell ⟨b, 2, none⟩ x2) v a c := by
  rcases h with h | ⟨h0, g, h1, h2⟩
  · exact Or.inl h
  · have hne : b ≠ g := fun e => by
      have := hB.cell 0
      rw [e, h2.1] at this
      simp at this
      exact hz _ this.symm
    have hc : ∀ (w : World) o u k, (w.setCell ⟨b, o, none⟩ u).cell? ⟨g, k, none⟩ = w.cell? ⟨g, k, none⟩ := fun w o u k => World.cell?_setCell_other _ _ _ _ (fun e => hne (by cases e; rfl))
    exact Or.inr ⟨h0, g, h1, by rw [hc, hc, hc]; exact h2.1, by rw [hc, hc, hc]; exact h2.2.1, by rw [hc, hc, hc]; exact h2.2.2⟩
theorem fin_rc {w x : World} {l : List UInt8} {no z0 z1 z2 : Value} {c : Int} {n : Bool × List UInt8 × Nat} (hE : dN l = n ∧ dE l = c) (hev : TNo x no 0 c) (hB : Box x w.heap.size #[z0, z1, z2]) (hz : ∀ y, z0 ≠ .string y) (hb : Below w.heap.size w x) {x0 x1 x2 : Value} (h0 : x0 = .bool n.1) (h1 : x1 = .string ⟨n.2.1.toArray⟩) (h2 : x2 = .int .i64 (n.2.2 : Int)) :
    RcQ l w (.returned (.tuple #[.agg #[x0, x1, x2], no])) (((x.setCell ⟨w.heap.size, 0, none⟩ x0).setCell ⟨w.heap.size, 1, none⟩ x1).setCell ⟨w.heap.size, 2, none⟩ x2) := by
  refine ⟨no, ?_, ?_, (nb_put hB (Nat.le_refl _) hb _ _ _).2⟩
  · rw [hE.1, h0, h1, h2]
  · rw [hE.2]; exact hev.put hB hz _ _ _
/-- What the call keeps of its result's block. -/
abbrev DB (w x : World) : Prop := Below w.heap.size w x ∧ Box x w.heap.size #[.bool false, .string ⟨#[]⟩, .int .i64 0]
theorem DB.below {w x y : World} (h : DB w x) (hb : Below x.heap.size x y) : DB w y := ⟨below_then h.1 hb, h.2.below hb⟩
set_option maxRecDepth 100000 in
set_option maxHeartbeats 4000000 in
theorem rDecimal_any (s : ByteArray) (w : World) : Calls Tryz.prog 5 #[.string s] w fun r w' => RcQ (bl s) w r w' := by
  have HU : Hid (DB w (w.alloc (.cells #[.bool false, .string ⟨#[]⟩, .int .i64 0] 23))) := ⟨(Below.refl _ _).alloc (Nat.le_refl _) _, Box.new w #[.bool false, .string ⟨#[]⟩, .int .i64 0] 23⟩
  by_cases hz : s.size = 0 ∨ 16 < s.size
  · have hq : isNm (bl s) = false := by
      rcases hz with h | h
      · rw [bl_nil h]; rfl
      · exact nm_long h
    have HE : Hid (dN (bl s) = (false, [], 0) ∧ dE (bl s) = 162) := d_none hq
    go_enter Tryz.func5, Tryz.ntmps5
    go_wp2_with fail
    refine (rdecimal_bad s _ hz).mono ?_
    rintro _ w1 ⟨rfl, hb⟩
    have H1 : Hid (DB w w1) := HU.out.below hb
    clear hb hq
    go_wp2_with fail
    refine (rNo_any 0 162 (by decide) _).mono ?_
    rintro _ w2 ⟨no, rfl, hno, hb⟩
    have H2 : Hid (TNo w2 no 0 162 ∧ DB w w2) := ⟨hno, H1.out.below hb⟩
    clear hno hb
    have kc := H2.out.2.2.cell
    have kf := H2.out.2.2.free
    go_wp2_with fail
    refine bodyPost_ret ?_ rfl (fin_rc HE.out H2.out.1 H2.out.2.2 (fun y h => by cases h) H2.out.2.1 rfl rfl rfl)
    simp [results, Tryz.results5, go_sem, kc]
  · have h0 : 0 < s.size := by omega
    have h16 : s.size ≤ 16 := by omega
    have hnm : isNm (bl s) = (dgs (cutA (uns (bl s))) && (!hasP (uns (bl s)) || dgs (cutB (uns (bl s))))) := by unfold isNm; rw [bl_len, decide_eq_true h16]; rfl
    obtain ⟨q, hq⟩ : ∃ q, isNm (bl s) = q := ⟨_, rfl⟩
    obtain ⟨ng, hng⟩ : ∃ ng, ((bl s).head? == some 45) = ng := ⟨_, rfl⟩
    obtain ⟨A, hA⟩ : ∃ A : ByteArray, (⟨(cutA (uns (bl s))).toArray⟩ : ByteArray) = A := ⟨_, rfl⟩
    obtain ⟨B, hB⟩ : ∃ B : ByteArray, (⟨(cutB (uns (bl s))).toArray⟩ : ByteArray) = B := ⟨_, rfl⟩
    have cD : ∀ w, Calls Tryz.prog 17 #[.string s] w fun r w' => r = .returned (.tuple #[.string A, .string B, .bool ng, .bool q]) ∧ Below w.heap.size w w' := fun w => by
      have := rdecimal_ok s w h0 h16
      unfold rdV at this
      rw [← hnm, hq, hng, hA, hB] at this
      exact this
    have HN : Hid (bl A = cutA (uns (bl s)) ∧ bl B = cutB (uns (bl s)) ∧ ((bl s).head? == some 45) = ng ∧ isNm (bl s) = q ∧ A.size + B.size ≤ 16) := ⟨by rw [← hA], by rw [← hB], hng, hq, by
      have h1 := cut_len (uns (bl s))
      have h2 := uns_len (bl s)
      rw [bl_len] at h2
      have h3 : A.size = (cutA (uns (bl s))).length := by rw [← hA]; show (List.toArray _).size = _; simp
      have h4 : B.size = (cutB (uns (bl s))).length := by rw [← hB]; show (List.toArray _).size = _; simp
      omega⟩
    have h47 : A.size ≤ 16 := by have := HN.out.2.2.2.2; omega
    have h48 : B.size ≤ 16 := by have := HN.out.2.2.2.2; omega
    clear hnm hq hng hA hB hz
    go_enter Tryz.func5, Tryz.ntmps5
    go_wp2_with fail
    refine (cD _).mono ?_
    rintro _ w1 ⟨rfl, hb⟩
    have H1 : Hid (DB w w1) := HU.out.below hb
    clear hb cD
    cases q with
    | false =>
      have HE : Hid (dN (bl s) = (false, [], 0) ∧ dE (bl s) = 162) := d_none HN.out.2.2.2.1
      go_wp2_with fail
      refine (rNo_any 0 162 (by decide) _).mono ?_
      rintro _ w2 ⟨no, rfl, hno, hb⟩
      have H2 : Hid (TNo w2 no 0 162 ∧ DB w w2) := ⟨hno, H1.out.below hb⟩
      clear hno hb
      have kc := H2.out.2.2.cell
      have kf := H2.out.2.2.free
      go_wp2_with fail
      refine bodyPost_ret ?_ rfl (fin_rc HE.out H2.out.1 H2.out.2.2 (fun y h => by cases h) H2.out.2.1 rfl rfl rfl)
      simp [results, Tryz.results5, go_sem, kc]
    | true =>
      go_wp2_with fail
      go_loopw [5] (fun t5 wx => ∃ X : ByteArray, X.size ≤ B.size ∧ t5 = .string X ∧ Hid (trR (bl X) = trR (bl B)) ∧ Hid (DB w wx)) (fun t5 _ => match t5 with | .string X => X.size | _ => 0)
      case atStart => exact ⟨B, Nat.le_refl _, rfl, rfl, H1⟩
      case round =>
        obtain ⟨X, hX, rfl, HX, HW⟩ := hrel
        by_cases hx0 : X.size = 0
        · have hxi : ¬ (0 : Int) < X.size := by omega
          have HF0 : trR (bl B) = bl X := by rw [← HX.out, bl_nil hx0]; rfl
          have HWW := HW
          have HF : Hid (trR (bl B) = bl X) := HF0
          have hsum : ¬ 9223372036854775807 < A.size + X.size := by omega
          go_wp2_with fail
          go_loopw [8] (fun t8 wx => ∃ Y : ByteArray, Y.size ≤ 32 ∧ t8 = .string Y ∧ Hid (trL (bl Y) = numD (bl s)) ∧ Hid (DB w wx)) (fun t8 _ => match t8 with | .string Y => Y.size | _ => 0)
          case atStart => exact ⟨A ++ X, by rw [ByteArray.size_append]; omega, rfl, (by unfold Hid; rw [bl_append, ← HF.out, HN.out.1, HN.out.2.1]; rfl), HWW⟩
          case round =>
            obtain ⟨Y, hY, rfl, HYt, HV⟩ := hrel
            by_cases hy0 : Y.size = 0
            · have hyi : ¬ (0 : Int) < Y.size := by omega
              have HG : Hid (bl Y = numD (bl s)) := by unfold Hid; rw [← HYt.out, bl_nil hy0]; rfl
              have kc := HV.out.2.cell
              have kf := HV.out.2.free
              by_cases hd : numD (bl s) = []
              · have HE : Hid (dN (bl s) = (false, [48], 0) ∧ dE (bl s) = 0) := d_zero HN.out.2.2.2.1 hd
                have g0 : Y.toList.isEmpty = true := by rw [Lib.toList_data, show Y.data.toList = numD (bl s) from HG.out, hd]; rfl
                go_wp2_with fail
                refine bodyPost_ret ?_ rfl (fin_rc HE.out (Or.inl ⟨rfl, rfl⟩) HV.out.2 (fun y h => by cases h) HV.out.1 rfl rfl rfl)
                simp [results, Tryz.results5, go_sem, kc]
              · have HE : Hid (dN (bl s) = ((bl s).head? == some 45, numD (bl s), (trR (cutB (uns (bl s)))).length) ∧ dE (bl s) = 0) := d_some HN.out.2.2.2.1 hd
                have g0 : Y.toList.isEmpty = false := by
                  rw [Lib.toList_data, show Y.data.toList = numD (bl s) from HG.out]
                  cases hx : numD (bl s) with
                  | nil => exact absurd hx hd
                  | cons a r => rfl
                have HY : Hid (Y = ⟨(numD (bl s)).toArray⟩ ∧ X.size = (trR (cutB (uns (bl s)))).length) := ⟨bl_inj HG.out, by rw [← bl_len, ← HF.out, HN.out.2.1]⟩
                go_wp2_with fail
                refine bodyPost_ret ?_ rfl (fin_rc HE.out (Or.inl ⟨rfl, rfl⟩) HV.out.2 (fun y h => by cases h) HV.out.1 (congrArg Value.bool HN.out.2.2.1.symm) (congrArg Value.string HY.out.1) (by first | rw [HY.out.2] | exact congrArg (fun n : Nat => Value.int .i64 (n : Int)) (hx0.symm.trans HY.out.2)))
                simp [results, Tryz.results5, go_sem, kc]
            · have hyp : 0 < Y.size := by omega
              have hyi : (0 : Int) < Y.size := by omega
              by_cases hy48 : Y[0].toNat = 48
              · have e48 : ((Y[0].toNat : Int) == 48) = true := by simp [hy48]
                have HY2 : Hid (trL (bl (Y.extract 1 Y.size)) = numD (bl s)) := by
                  unfold Hid; rw [← HYt.out, bl_first hyp, show Y[0] = 48 from UInt8.toNat_inj.1 hy48, trL_zero]
                have hsz : (Y.extract 1 Y.size).size = Y.size - 1 := by rw [← bl_len, bl_from, List.length_drop, bl_len]
                clear hy48
                go_wp2_with fail
                go_roundw
                case rel => exact ⟨Y.extract 1 Y.size, by omega, rfl, HY2, (by first | exact HV | exact HV.out.below (Below.drew (Below.refl _ _)))⟩
                case measure => simp only [hsz]; omega
              · have e48 : ((Y[0].toNat : Int) == 48) = false := by simp; omega
                have HG : Hid (bl Y = numD (bl s)) := by
                  unfold Hid; rw [← HYt.out, bl_first hyp, trL_stop _ _ (fun e => hy48 (by rw [e]; rfl))]
                clear hy48
                have kc := HV.out.2.cell
                have kf := HV.out.2.free
                by_cases hd : numD (bl s) = []
                · have HE : Hid (dN (bl s) = (false, [48], 0) ∧ dE (bl s) = 0) := d_zero HN.out.2.2.2.1 hd
                  have g0 : Y.toList.isEmpty = true := by rw [Lib.toList_data, show Y.data.toList = numD (bl s) from HG.out, hd]; rfl
                  go_wp2_with fail
                  refine bodyPost_ret ?_ rfl (fin_rc HE.out (Or.inl ⟨rfl, rfl⟩) HV.out.2 (fun y h => by cases h) HV.out.1 rfl rfl rfl)
                  simp [results, Tryz.results5, go_sem, kc]
                · have HE : Hid (dN (bl s) = ((bl s).head? == some 45, numD (bl s), (trR (cutB (uns (bl s)))).length) ∧ dE (bl s) = 0) := d_some HN.out.2.2.2.1 hd
                  have g0 : Y.toList.isEmpty = false := by
                    rw [Lib.toList_data, show Y.data.toList = numD (bl s) from HG.out]
                    cases hx : numD (bl s) with
                    | nil => exact absurd hx hd
                    | cons a r => rfl
                  have HY : Hid (Y = ⟨(numD (bl s)).toArray⟩ ∧ X.size = (trR (cutB (uns (bl s)))).length) := ⟨bl_inj HG.out, by rw [← bl_len, ← HF.out, HN.out.2.1]⟩
                  go_wp2_with fail
                  refine bodyPost_ret ?_ rfl (fin_rc HE.out (Or.inl ⟨rfl, rfl⟩) HV.out.2 (fun y h => by cases h) HV.out.1 (congrArg Value.bool HN.out.2.2.1.symm) (congrArg Value.string HY.out.1) (by first | rw [HY.out.2] | exact congrArg (fun n : Nat => Value.int .i64 (n : Int)) (hx0.symm.trans HY.out.2)))
                  simp [results, Tryz.results5, go_sem, kc]
        · have hxp : 0 < X.size := by omega
          have hxi : (0 : Int) < X.size := by omega
          have hx1 : (0 : Int) ≤ (X.size : Int) - 1 := by omega
          have hx2 : (X.size : Int) - 1 < X.size := by omega
          have hx3 : ((X.size : Int) - 1).toNat = X.size - 1 := by omega
          have hx4 : IntKind.i64.wrap ((X.size : Int) - 1) = (X.size : Int) - 1 := (by rw [IntKind.wrap_i64]; omega)
          have hx5 : X.size - 1 < X.size := by omega
          by_cases hx48 : X[X.size - 1].toNat = 48
          · have e48 : ((X[X.size - 1].toNat : Int) == 48) = true := by simp [hx48]
            have HX2 : Hid (trR (bl (X.extract 0 (X.size - 1))) = trR (bl B)) := by
              unfold Hid; rw [← HX.out, bl_last hxp, show X[X.size - 1] = 48 from UInt8.toNat_inj.1 hx48, trR_zero]
            have hsz : (X.extract 0 (X.size - 1)).size = X.size - 1 := by rw [← bl_len, bl_to, List.length_take, bl_len]; omega
            clear hx48
            go_wp2_with fail
            go_roundw
            case rel => exact ⟨X.extract 0 (X.size - 1), by omega, rfl, HX2, (by first | exact HW | exact HW.out.below (Below.drew (Below.refl _ _)))⟩
            case measure => simp only [hsz]; omega
          · have e48 : ((X[X.size - 1].toNat : Int) == 48) = false := by simp; omega
            have HF0 : trR (bl B) = bl X := by
              rw [← HX.out, bl_last hxp, trR_stop _ _ (fun e => hx48 (by rw [e]; rfl))]
            have HWW := HW
            clear hx48
            have HF : Hid (trR (bl B) = bl X) := HF0
            have hsum : ¬ 9223372036854775807 < A.size + X.size := by omega
            go_wp2_with fail
            go_loopw [8] (fun t8 wx => ∃ Y : ByteArray, Y.size ≤ 32 ∧ t8 = .string Y ∧ Hid (trL (bl Y) = numD (bl s)) ∧ Hid (DB w wx)) (fun t8 _ => match t8 with | .string Y => Y.size | _ => 0)
            case atStart => exact ⟨A ++ X, by rw [ByteArray.size_append]; omega, rfl, (by unfold Hid; rw [bl_append, ← HF.out, HN.out.1, HN.out.2.1]; rfl), HWW⟩
            case round =>
              obtain ⟨Y, hY, rfl, HYt, HV⟩ := hrel
              by_cases hy0 : Y.size = 0
              · have hyi : ¬ (0 : Int) < Y.size := by omega
                have HG : Hid (bl Y = numD (bl s)) := by unfold Hid; rw [← HYt.out, bl_nil hy0]; rfl
                have kc := HV.out.2.cell
                have kf := HV.out.2.free
                by_cases hd : numD (bl s) = []
                · have HE : Hid (dN (bl s) = (false, [48], 0) ∧ dE (bl s) = 0) := d_zero HN.out.2.2.2.1 hd
                  have g0 : Y.toList.isEmpty = true := by rw [Lib.toList_data, show Y.data.toList = numD (bl s) from HG.out, hd]; rfl
                  go_wp2_with fail
                  refine bodyPost_ret ?_ rfl (fin_rc HE.out (Or.inl ⟨rfl, rfl⟩) HV.out.2 (fun y h => by cases h) HV.out.1 rfl rfl rfl)
                  simp [results, Tryz.results5, go_sem, kc]
                · have HE : Hid (dN (bl s) = ((bl s).head? == some 45, numD (bl s), (trR (cutB (uns (bl s)))).length) ∧ dE (bl s) = 0) := d_some HN.out.2.2.2.1 hd
                  have g0 : Y.toList.isEmpty = false := by
                    rw [Lib.toList_data, show Y.data.toList = numD (bl s) from HG.out]
                    cases hx : numD (bl s) with
                    | nil => exact absurd hx hd
                    | cons a r => rfl
                  have HY : Hid (Y = ⟨(numD (bl s)).toArray⟩ ∧ X.size = (trR (cutB (uns (bl s)))).length) := ⟨bl_inj HG.out, by rw [← bl_len, ← HF.out, HN.out.2.1]⟩
                  go_wp2_with fail
                  refine bodyPost_ret ?_ rfl (fin_rc HE.out (Or.inl ⟨rfl, rfl⟩) HV.out.2 (fun y h => by cases h) HV.out.1 (congrArg Value.bool HN.out.2.2.1.symm) (congrArg Value.string HY.out.1) (by first | rw [HY.out.2] | exact congrArg (fun n : Nat => Value.int .i64 (n : Int)) (hx0.symm.trans HY.out.2)))
                  simp [results, Tryz.results5, go_sem, kc]
              · have hyp : 0 < Y.size := by omega
                have hyi : (0 : Int) < Y.size := by omega
                by_cases hy48 : Y[0].toNat = 48
                · have e48 : ((Y[0].toNat : Int) == 48) = true := by simp [hy48]
                  have HY2 : Hid (trL (bl (Y.extract 1 Y.size)) = numD (bl s)) := by
                    unfold Hid; rw [← HYt.out, bl_first hyp, show Y[0] = 48 from UInt8.toNat_inj.1 hy48, trL_zero]
                  have hsz : (Y.extract 1 Y.size).size = Y.size - 1 := by rw [← bl_len, bl_from, List.length_drop, bl_len]
                  clear hy48
                  go_wp2_with fail
                  go_roundw
                  case rel => exact ⟨Y.extract 1 Y.size, by omega, rfl, HY2, (by first | exact HV | exact HV.out.below (Below.drew (Below.refl _ _)))⟩
                  case measure => simp only [hsz]; omega
                · have e48 : ((Y[0].toNat : Int) == 48) = false := by simp; omega
                  have HG : Hid (bl Y = numD (bl s)) := by
                    unfold Hid; rw [← HYt.out, bl_first hyp, trL_stop _ _ (fun e => hy48 (by rw [e]; rfl))]
                  clear hy48
                  have kc := HV.out.2.cell
                  have kf := HV.out.2.free
                  by_cases hd : numD (bl s) = []
                  · have HE : Hid (dN (bl s) = (false, [48], 0) ∧ dE (bl s) = 0) := d_zero HN.out.2.2.2.1 hd
                    have g0 : Y.toList.isEmpty = true := by rw [Lib.toList_data, show Y.data.toList = numD (bl s) from HG.out, hd]; rfl
                    go_wp2_with fail
                    refine bodyPost_ret ?_ rfl (fin_rc HE.out (Or.inl ⟨rfl, rfl⟩) HV.out.2 (fun y h => by cases h) HV.out.1 rfl rfl rfl)
                    simp [results, Tryz.results5, go_sem, kc]
                  · have HE : Hid (dN (bl s) = ((bl s).head? == some 45, numD (bl s), (trR (cutB (uns (bl s)))).length) ∧ dE (bl s) = 0) := d_some HN.out.2.2.2.1 hd
                    have g0 : Y.toList.isEmpty = false := by
                      rw [Lib.toList_data, show Y.data.toList = numD (bl s) from HG.out]
                      cases hx : numD (bl s) with
                      | nil => exact absurd hx hd
                      | cons a r => rfl
                    have HY : Hid (Y = ⟨(numD (bl s)).toArray⟩ ∧ X.size = (trR (cutB (uns (bl s)))).length) := ⟨bl_inj HG.out, by rw [← bl_len, ← HF.out, HN.out.2.1]⟩
                    go_wp2_with fail
                    refine bodyPost_ret ?_ rfl (fin_rc HE.out (Or.inl ⟨rfl, rfl⟩) HV.out.2 (fun y h => by cases h) HV.out.1 (congrArg Value.bool HN.out.2.2.1.symm) (congrArg Value.string HY.out.1) (by first | rw [HY.out.2] | exact congrArg (fun n : Nat => Value.int .i64 (n : Int)) (hx0.symm.trans HY.out.2)))
                    simp [results, Tryz.results5, go_sem, kc]
end Go.Proofs.YtnilmmfbliogiaaGreatDoor
