/-
  The document's written, Right, Print.
-/
import Derived.Test.YtnilmmfbliogiaaGreatDoorTdRight
import Derived.Lib.LazyBuf
namespace Go.Proofs.YtnilmmfbliogiaaGreatDoor
open Go.RowKit

theorem wrD_push {l : List UInt8} {sc : Nat} (h : l.length ≤ sc) : wrD (48 :: l) sc = wrD l sc := by
  unfold wrD
  rw [List.length_cons, show sc + 1 - l.length = (sc + 1 - (l.length + 1)) + 1 by omega, List.replicate_succ']
  simp
theorem wrD_done {l : List UInt8} {sc : Nat} (h : sc < l.length) : wrD l sc = l := by
  unfold wrD
  rw [show sc + 1 - l.length = 0 by omega]; rfl
set_option maxRecDepth 100000 in
set_option maxHeartbeats 4000000 in
theorem written_any (neg : Bool) (ds : ByteArray) (sc : Nat) (w : World) (hsc : sc ≤ 16) (hz : ds.size ≤ 16) : Calls Tryz.prog 22 #[.agg #[.bool neg, .string ds, .int .i64 (sc : Int)]] w fun r w' => r = .returned (.string (wrSs neg ds sc)) ∧ Below w.heap.size w w' := by
  have HU : Hid (Below w.heap.size w (w.alloc (.cells #[.bool neg, .string ds, .int .i64 (sc : Int)] 23)) ∧ Box (w.alloc (.cells #[.bool neg, .string ds, .int .i64 (sc : Int)] 23)) w.heap.size #[.bool neg, .string ds, .int .i64 (sc : Int)]) := ⟨(Below.refl _ _).alloc (Nat.le_refl _) _, Box.new _ _ _⟩
  go_enter Tryz.func22, Tryz.ntmps22
  go_wp2_with fail
  go_loopw [3] (fun t3 wx => ∃ X : ByteArray, X.size ≤ 17 ∧ t3 = .string X ∧ Hid (wrD (bl X) sc = wrD (bl ds) sc) ∧ Hid (Below w.heap.size w wx ∧ Box wx w.heap.size #[.bool neg, .string ds, .int .i64 (sc : Int)])) (fun t3 _ => match t3 with | .string X => 18 - X.size | _ => 0)
  case atStart => exact ⟨ds, by omega, rfl, rfl, HU⟩
  case round =>
    obtain ⟨X, hX, rfl, HX, HB⟩ := hrel
    have kc := HB.out.2.cell
    by_cases hle : X.size ≤ sc
    · have hlei : (X.size : Int) ≤ sc := by omega
      have hs : ¬ 9223372036854775807 < 1 + X.size := by omega
      have HX2 : Hid (wrD (bl (⟨#[48]⟩ ++ X)) sc = wrD (bl ds) sc) := by
        have e1 : bl (⟨#[48]⟩ ++ X) = 48 :: bl X := by rw [bl_append]; rfl
        unfold Hid; rw [e1]; exact (wrD_push (by rw [bl_len]; exact hle)).trans HX.out
      have hz2 : (⟨#[48]⟩ ++ X : ByteArray).size = 1 + X.size := by rw [ByteArray.size_append]; rfl
      go_wp2_with fail
      go_roundw
      case rel => exact ⟨⟨#[48]⟩ ++ X, by omega, rfl, HX2, (by first | exact HB | exact ⟨Below.drew HB.out.1, HB.out.2.below (Below.drew (Below.refl _ _))⟩)⟩
      case measure => simp only [hz2]; omega
    · have hlei : ¬ (X.size : Int) ≤ sc := by omega
      have hXd : wrD (bl ds) sc = bl X := by rw [← HX.out]; exact wrD_done (by rw [bl_len]; omega)
      have p1 : IntKind.i64.wrap ((X.size : Int) - sc) = (X.size : Int) - sc := (by rw [IntKind.wrap_i64]; omega)
      have p2 : (0 : Int) ≤ (X.size : Int) - sc := by omega
      have p3 : (X.size : Int) - sc ≤ X.size := by omega
      have p4 : ((X.size : Int) - sc).toNat = X.size - sc := by omega
      have p5 : ¬ ((X.size : Int) < (X.size : Int) - sc) := by omega
      have p6 : ¬ ((X.size : Int) - sc < 0) := by omega
      obtain ⟨P, hP⟩ : ∃ P, X.extract 0 (X.size - sc) = P := ⟨_, rfl⟩
      obtain ⟨Q, hQ⟩ : ∃ Q, X.extract (X.size - sc) X.size = Q := ⟨_, rfl⟩
      have hPz : P.size ≤ X.size := by rw [← hP]; exact ext_size _ _ _
      have hQz : Q.size ≤ X.size := by rw [← hQ]; exact ext_size _ _ _
      have s1 : ¬ 9223372036854775807 < 1 + Q.size := by omega
      have s2 : ¬ 9223372036854775807 < P.size + (1 + Q.size) := by omega
      have s3 : ¬ 9223372036854775807 < 1 + (P.size + (1 + Q.size)) := by omega
      have s4 : ¬ 9223372036854775807 < 1 + P.size := by omega
      by_cases h0 : sc = 0
      · have h0i : ¬ (0 : Int) < sc := by omega
        have HS0 : Hid (∀ n : Bool, wrS n (bl ds) sc = (if n then [45] else []) ++ bl P) := fun n => by
          unfold wrS
          rw [if_pos h0, hXd, ← hP, bl_to, h0, List.take_of_length_le (by rw [bl_len]; omega)]
        cases neg
        · have HS : Hid (wrS false (bl ds) sc = bl P) := HS0.out false
          clear hXd HX h0
          go_wp2_with fail
          go_ret
          refine ⟨ret_str (bl_inj ?_), by first | exact HB.out.1 | exact below_drewN HB.out.1 _ | exact Below.drew HB.out.1⟩
          show _ = wrS false (bl ds) sc
          first
            | exact HS.out.symm
            | (rw [HS.out]; simp only [bl_append]; rfl)
            | (rw [HS.out]; simp [bl])
        · have HS : Hid (wrS true (bl ds) sc = 45 :: bl P) := HS0.out true
          clear hXd HX h0
          go_wp2_with fail
          go_ret
          refine ⟨ret_str (bl_inj ?_), by first | exact HB.out.1 | exact below_drewN HB.out.1 _ | exact Below.drew HB.out.1⟩
          show _ = wrS true (bl ds) sc
          first
            | exact HS.out.symm
            | (rw [HS.out]; simp only [bl_append]; rfl)
            | (rw [HS.out]; simp [bl])
      · have h0i : (0 : Int) < sc := by omega
        have HS0 : Hid (∀ n : Bool, wrS n (bl ds) sc = (if n then [45] else []) ++ (bl P ++ 46 :: bl Q)) := fun n => by
          unfold wrS
          rw [if_neg h0, hXd, bl_len, ← hP, ← hQ, bl_to, bl_from]
        cases neg
        · have HS : Hid (wrS false (bl ds) sc = bl P ++ 46 :: bl Q) := HS0.out false
          clear hXd HX
          go_wp2_with fail
          go_ret
          refine ⟨ret_str (bl_inj ?_), by first | exact HB.out.1 | exact below_drewN HB.out.1 _ | exact Below.drew HB.out.1⟩
          show _ = wrS false (bl ds) sc
          first
            | exact HS.out.symm
            | (rw [HS.out]; simp only [bl_append]; rfl)
            | (rw [HS.out]; simp [bl])
        · have HS : Hid (wrS true (bl ds) sc = 45 :: (bl P ++ 46 :: bl Q)) := HS0.out true
          clear hXd HX
          go_wp2_with fail
          go_ret
          refine ⟨ret_str (bl_inj ?_), by first | exact HB.out.1 | exact below_drewN HB.out.1 _ | exact Below.drew HB.out.1⟩
          show _ = wrS true (bl ds) sc
          first
            | exact HS.out.symm
            | (rw [HS.out]; simp only [bl_append]; rfl)
            | (rw [HS.out]; simp [bl])
theorem link_nil (w : World) (a : Option Addr) (l c : Nat) : (binOp .eql 28 (.slice a l c) (.slice none 0 0)).run Tryz.prog w = .ok (.bool a.isNone) w := Lib.run_eql_slice_nil w _ _ a l c 0 0 Tryz.underlying28
theorem rgt_dgs {neg : Bool} {ds : List UInt8} {sc : Int} (h : rgt neg ds sc = true) : dgs ds = true ∧ ds.length ≤ 16 := by
  obtain ⟨n, rfl, hn⟩ := rgt_sc h
  rw [rgt_in hn] at h
  have := num_ds (eq_of_beq h)
  exact ⟨this.1, this.2.1⟩
set_option maxRecDepth 100000 in
set_option maxHeartbeats 4000000 in
theorem rRight_any (neg : Bool) (ds : ByteArray) (sc : Int) (w : World) (hz : ds.size ≤ 140737488351232) : Calls Tryz.prog 21 #[.agg #[.bool neg, .string ds, .int .i64 sc]] w fun r w' => r = .returned (.bool (rgt neg (bl ds) sc)) ∧ Below w.heap.size w w' := by
  have HU : Hid (Below w.heap.size w (w.alloc (.cells #[.bool neg, .string ds, .int .i64 sc] 23)) ∧ Box (w.alloc (.cells #[.bool neg, .string ds, .int .i64 sc] 23)) w.heap.size #[.bool neg, .string ds, .int .i64 sc]) := ⟨(Below.refl _ _).alloc (Nat.le_refl _) _, Box.new _ _ _⟩
  by_cases h1 : sc < 0
  · rw [rgt_out (Or.inl h1)]
    go_enter Tryz.func21, Tryz.ntmps21
    go_wp2_with fail
    go_ret
    exact ⟨rfl, HU.out.1⟩
  by_cases h2 : 16 < sc
  · rw [rgt_out (Or.inr h2)]
    go_enter Tryz.func21, Tryz.ntmps21
    go_wp2_with fail
    go_ret
    exact ⟨rfl, HU.out.1⟩
  by_cases h3 : 16 < ds.size
  · have h3i : (16 : Int) < ds.size := by omega
    have HF : Hid (rgt neg (bl ds) sc = false) := by
      unfold Hid
      cases hq : rgt neg (bl ds) sc with
      | false => rfl
      | true => have := (rgt_dgs hq).2; rw [bl_len] at this; omega
    rw [HF.out]
    go_enter Tryz.func21, Tryz.ntmps21
    go_wp2_with fail
    go_ret
    exact ⟨rfl, HU.out.1⟩
  have h3i : ¬ (16 : Int) < ds.size := by omega
  have cD := fun w => rdigits_any ds w (by omega)
  cases hdg : dgs (bl ds) with
  | false =>
    have HF : Hid (rgt neg (bl ds) sc = false) := by
      unfold Hid
      cases hq : rgt neg (bl ds) sc with
      | false => rfl
      | true => have := (rgt_dgs hq).1; rw [hdg] at this; cases this
    rw [HF.out]
    rw [hdg] at cD
    go_enter Tryz.func21, Tryz.ntmps21
    go_wp2_with fail
    refine (cD _).mono ?_
    rintro _ w1 ⟨rfl, hb⟩
    have H1 : Hid (Below w.heap.size w w1) := below_then HU.out.1 hb
    clear hb
    go_wp2_with fail
    go_ret
    exact ⟨rfl, H1.out⟩
  | true =>
    rw [hdg] at cD
    obtain ⟨n, rfl⟩ : ∃ n : Nat, sc = n := ⟨sc.toNat, by omega⟩
    have HR : Hid (rgt neg (bl ds) (n : Int) = (numS (bl (wrSs neg ds n)) == some (neg, bl ds, n))) := rgt_in (by omega)
    have hnil := link_nil
    go_enter Tryz.func21, Tryz.ntmps21
    go_wp2_with fail
    refine (cD _).mono ?_
    rintro _ w1 ⟨rfl, hb⟩
    have H1 : Hid (Below w.heap.size w w1 ∧ Box w1 w.heap.size #[.bool neg, .string ds, .int .i64 (n : Int)]) := ⟨below_then HU.out.1 hb, HU.out.2.below hb⟩
    clear hb cD
    have kc := H1.out.2.cell
    go_wp2_with fail
    refine (written_any neg ds n _ (by omega) (by omega)).mono ?_
    obtain ⟨S, hS⟩ : ∃ S, wrSs neg ds n = S := ⟨_, rfl⟩
    rw [hS] at HR ⊢
    rintro _ w2 ⟨rfl, hb⟩
    have H2 : Hid (Below w.heap.size w w2 ∧ Box w2 w.heap.size #[.bool neg, .string ds, .int .i64 (n : Int)]) := ⟨below_then H1.out.1 hb, H1.out.2.below hb⟩
    clear hb kc
    go_wp2_with fail
    refine (rDecimal_any S _).mono ?_
    rintro _ w3 ⟨no, rfl, hno, hb⟩
    have H3 : Hid (Below w.heap.size w w3 ∧ Box w3 w.heap.size #[.bool neg, .string ds, .int .i64 (n : Int)]) := ⟨below_then H2.out.1 hb, H2.out.2.below hb⟩
    clear hb
    have kc := H3.out.2.cell
    have klt := H3.out.2.lt
    cases hn : numS (bl S) with
    | none =>
      obtain ⟨e1, e2⟩ := dE_2 hn
      rw [e2] at hno
      rw [hn] at HR
      obtain ⟨fb, rfl⟩ := hno.bad (by decide)
      rw [e1]
      clear e1 e2 hno hn
      go_wp2_with fail
      go_ret
      exact ⟨ret_bool (by rw [HR.out]; rfl), (by have := H3.out.1; exact this.alloc this.size _)⟩
    | some x =>
      obtain ⟨e1, e2⟩ := dE_0 hn
      rw [e2] at hno
      rw [hn] at HR
      obtain rfl : no = .slice none 0 0 := by
        rcases hno with h | h
        · exact h.1
        · exact absurd rfl h.1
      rw [e1]
      clear e1 e2 hno hn
      obtain ⟨xn, xd, xs⟩ := x
      go_wp2_with fail
      all_goals
        go_ret
        refine ⟨ret_bool ?_, (by have := H3.out.1; exact this.alloc this.size _)⟩
        rw [HR.out]
        clear HR H1 H2 H3 HU kc klt hS
        rw [Bool.eq_iff_iff]
        first
          | (simp_all [bl, Lib.toList_data]; done)
          | (simp_all [bl, Lib.toList_data] <;> omega)
set_option maxRecDepth 100000 in
set_option maxHeartbeats 4000000 in
theorem rPrint_any (neg : Bool) (ds : ByteArray) (sc : Int) (w : World) (hz : ds.size ≤ 140737488351232) : Calls Tryz.prog 7 #[.agg #[.bool neg, .string ds, .int .i64 sc]] w fun r w' => ∃ no, r = .returned (.tuple #[.string (prV neg ds sc), no]) ∧ TNo w' no 0 (prE neg ds sc) ∧ Below w.heap.size w w' := by
  have cR := fun w => rRight_any neg ds sc w hz
  have HU : Hid (Below w.heap.size w (w.alloc (.cells #[.bool neg, .string ds, .int .i64 sc] 23)) ∧ Box (w.alloc (.cells #[.bool neg, .string ds, .int .i64 sc] 23)) w.heap.size #[.bool neg, .string ds, .int .i64 sc]) := ⟨(Below.refl _ _).alloc (Nat.le_refl _) _, Box.new _ _ _⟩
  cases hq : rgt neg (bl ds) sc with
  | false =>
    have HP : Hid (prV neg ds sc = ⟨#[]⟩ ∧ prE neg ds sc = 164) := by unfold Hid prV prE; rw [hq]; exact ⟨rfl, rfl⟩
    rw [hq] at cR
    go_enter Tryz.func7, Tryz.ntmps7
    go_wp2_with fail
    refine (cR _).mono ?_
    rintro _ w1 ⟨rfl, hb⟩
    have H1 : Hid (Below w.heap.size w w1) := below_then HU.out.1 hb
    clear hb cR
    go_wp2_with fail
    refine (rNo_any 0 164 (by decide) _).mono ?_
    rintro _ w2 ⟨no, rfl, hno, hb⟩
    have H2 : Hid (TNo w2 no 0 164 ∧ Below w.heap.size w w2) := ⟨hno, below_then H1.out hb⟩
    clear hno hb
    go_wp2_with fail
    refine bodyPost_ret ?_ rfl ⟨no, by rw [HP.out.1], by rw [HP.out.2]; exact H2.out.1, H2.out.2⟩
    simp [results, Tryz.results7, go_sem]
  | true =>
    obtain ⟨n, rfl, hn⟩ := rgt_sc hq
    have hl := (rgt_dgs hq).2
    rw [bl_len] at hl
    have HP : Hid (prV neg ds (n : Int) = wrSs neg ds n ∧ prE neg ds (n : Int) = 0) := by unfold Hid prV prE; rw [hq]; exact ⟨rfl, rfl⟩
    rw [hq] at cR
    go_enter Tryz.func7, Tryz.ntmps7
    go_wp2_with fail
    refine (cR _).mono ?_
    rintro _ w1 ⟨rfl, hb⟩
    have H1 : Hid (Below w.heap.size w w1) := below_then HU.out.1 hb
    have kc := (HU.out.2.below hb).cell
    clear hb cR
    go_wp2_with fail
    refine (written_any neg ds n _ hn hl).mono ?_
    rintro _ w2 ⟨rfl, hb⟩
    have H2 : Hid (Below w.heap.size w w2) := below_then H1.out hb
    clear hb
    go_wp2_with fail
    refine bodyPost_ret ?_ rfl ⟨_, by rw [HP.out.1], by rw [HP.out.2]; exact Or.inl ⟨rfl, rfl⟩, H2.out⟩
    simp [results, Tryz.results7, go_sem]
end Go.Proofs.YtnilmmfbliogiaaGreatDoor
