/-
  The program's right, Print.
-/
import Derived.Test.YtnilmmfbliogiaaGreatDoorTdWr
namespace Go.Proofs.YtnilmmfbliogiaaGreatDoor
open Go.RowKit

theorem wrSs_size (neg : Bool) (ds : ByteArray) (sc : Nat) (hsc : sc ≤ 16) (hz : ds.size ≤ 140737488351232) : (wrSs neg ds sc).size ≤ 140737488355328 := by
  rw [← bl_len, show bl (wrSs neg ds sc) = wrS neg (bl ds) sc from rfl]
  have h1 := wrD_len (bl ds) sc
  rw [bl_len] at h1
  have h2 : (if neg then [(45 : UInt8)] else []).length ≤ 1 := by cases neg <;> simp
  have h3 : (if sc = 0 then wrD (bl ds) sc else (wrD (bl ds) sc).take ((wrD (bl ds) sc).length - sc) ++ 46 :: (wrD (bl ds) sc).drop ((wrD (bl ds) sc).length - sc)).length ≤ (wrD (bl ds) sc).length + 1 := by
    by_cases h0 : sc = 0
    · rw [if_pos h0]; omega
    · rw [if_neg h0, List.length_append, List.length_cons, List.length_take, List.length_drop]; omega
  unfold wrS
  rw [List.length_append]
  omega
theorem dE_0 {l : List UInt8} {x : Bool × List UInt8 × Nat} (h : numS l = some x) : dN l = x ∧ dE l = 0 := by unfold dN dE; rw [h]; exact ⟨rfl, rfl⟩
theorem dE_2 {l : List UInt8} (h : numS l = none) : dN l = (false, [], 0) ∧ dE l = 162 := by unfold dN dE; rw [h]; exact ⟨rfl, rfl⟩
theorem rgt_in {neg : Bool} {ds : List UInt8} {sc : Nat} (h : sc ≤ 16) : rgt neg ds (sc : Int) = (numS (wrS neg ds sc) == some (neg, ds, sc)) := by
  unfold rgt
  rw [decide_eq_true (by omega : (0 : Int) ≤ sc), decide_eq_true (by omega : (sc : Int) ≤ 16)]
  simp
theorem rgt_out {neg : Bool} {ds : List UInt8} {sc : Int} (h : sc < 0 ∨ 16 < sc) : rgt neg ds sc = false := by
  unfold rgt
  rcases h with h | h
  · rw [decide_eq_false (by omega : ¬ (0 : Int) ≤ sc)]; rfl
  · rw [decide_eq_false (by omega : ¬ sc ≤ 16)]; simp
set_option maxRecDepth 100000 in
set_option maxHeartbeats 4000000 in
theorem right_out (neg : Bool) (ds : ByteArray) (sc : Int) (w : World) (h : sc < 0 ∨ 16 < sc) : Calls Tryz.prog 19 #[.agg #[.bool neg, .string ds, .int .i64 sc]] w fun r w' => r = .returned (.bool (rgt neg (bl ds) sc)) ∧ Below w.heap.size w w' := by
  rw [rgt_out h]
  by_cases h1 : sc < 0
  · go_enter Tryz.func19, Tryz.ntmps19
    go_wp2_with fail
    go_ret
    exact ⟨rfl, (Below.refl _ _).alloc (Nat.le_refl _) _⟩
  · have h2 : 16 < sc := by omega
    go_enter Tryz.func19, Tryz.ntmps19
    go_wp2_with fail
    go_ret
    exact ⟨rfl, (Below.refl _ _).alloc (Nat.le_refl _) _⟩
set_option maxRecDepth 100000 in
set_option maxHeartbeats 4000000 in
theorem right_in (neg : Bool) (ds : ByteArray) (sc : Nat) (w : World) (hsc : sc ≤ 16) (hz : ds.size ≤ 140737488351232) : Calls Tryz.prog 19 #[.agg #[.bool neg, .string ds, .int .i64 (sc : Int)]] w fun r w' => r = .returned (.bool (rgt neg (bl ds) (sc : Int))) ∧ Below w.heap.size w w' := by
  have hwz := wrSs_size neg ds sc hsc hz
  have h1 : ¬ (sc : Int) < 0 := by omega
  have h2 : ¬ (16 : Int) < sc := by omega
  have HR : Hid (rgt neg (bl ds) (sc : Int) = (numS (bl (wrSs neg ds sc)) == some (neg, bl ds, sc))) := rgt_in hsc
  have HU : Hid (Below w.heap.size w (w.alloc (.cells #[.bool neg, .string ds, .int .i64 (sc : Int)] 23)) ∧ Box (w.alloc (.cells #[.bool neg, .string ds, .int .i64 (sc : Int)] 23)) w.heap.size #[.bool neg, .string ds, .int .i64 (sc : Int)]) := ⟨(Below.refl _ _).alloc (Nat.le_refl _) _, Box.new _ _ _⟩
  go_enter Tryz.func19, Tryz.ntmps19
  go_wp2_with fail
  refine (write_any neg ds sc _ hsc (by omega)).mono ?_
  obtain ⟨S, hS⟩ : ∃ S, wrSs neg ds sc = S := ⟨_, rfl⟩
  rw [hS] at hwz HR ⊢
  rintro _ w1 ⟨rfl, hb⟩
  have H1 : Hid (Below w.heap.size w w1 ∧ Box w1 w.heap.size #[.bool neg, .string ds, .int .i64 (sc : Int)]) := ⟨below_then HU.out.1 hb, HU.out.2.below hb⟩
  clear hb
  go_wp2_with fail
  refine (Decimal_any S _ hwz).mono ?_
  rintro _ w2 ⟨ev, rfl, hev, hb⟩
  have H2 : Hid (Below w.heap.size w w2 ∧ Box w2 w.heap.size #[.bool neg, .string ds, .int .i64 (sc : Int)]) := ⟨below_then H1.out.1 hb, H1.out.2.below hb⟩
  clear hb
  have kc := H2.out.2.cell
  have klt := H2.out.2.lt
  cases hn : numS (bl S) with
  | none =>
    obtain ⟨e1, e2⟩ := dE_2 hn
    rw [e2] at hev
    rw [hn] at HR
    obtain ⟨fb, rfl⟩ := hev.bad (by decide)
    rw [e1]
    clear e1 e2 hev hn
    go_wp2_with fail
    go_ret
    exact ⟨ret_bool (by rw [HR.out]; rfl), by first | exact H2.out.1 | (have := H2.out.1; exact this.alloc this.size _)⟩
  | some x =>
    obtain ⟨e1, e2⟩ := dE_0 hn
    rw [e2] at hev
    rw [hn] at HR
    obtain rfl := hev.ok
    rw [e1]
    clear e1 e2 hev hn
    obtain ⟨xn, xd, xs⟩ := x
    go_wp2_with fail
    all_goals
      go_ret
      refine ⟨ret_bool ?_, by first | exact H2.out.1 | (have := H2.out.1; exact this.alloc this.size _)⟩
      rw [HR.out]
      clear HR H1 H2 HU kc klt hS hwz
      rw [Bool.eq_iff_iff]
      first
        | (simp_all [bl, Lib.toList_data]; done)
        | (simp_all [bl, Lib.toList_data] <;> omega)
theorem right_any (neg : Bool) (ds : ByteArray) (sc : Int) (w : World) (hz : ds.size ≤ 140737488351232) : Calls Tryz.prog 19 #[.agg #[.bool neg, .string ds, .int .i64 sc]] w fun r w' => r = .returned (.bool (rgt neg (bl ds) sc)) ∧ Below w.heap.size w w' := by
  by_cases h : sc < 0 ∨ 16 < sc
  · exact right_out neg ds sc w h
  · obtain ⟨n, rfl⟩ : ∃ n : Nat, sc = n := ⟨sc.toNat, by omega⟩
    exact right_in neg ds n w (by omega) hz
/-- What Print answers. -/
def prV (neg : Bool) (ds : ByteArray) (sc : Int) : ByteArray := if rgt neg (bl ds) sc then wrSs neg ds sc.toNat else ⟨#[]⟩
def prE (neg : Bool) (ds : ByteArray) (sc : Int) : Int := if rgt neg (bl ds) sc then 0 else 164
theorem rgt_sc {neg : Bool} {ds : List UInt8} {sc : Int} (h : rgt neg ds sc = true) : ∃ n : Nat, sc = n ∧ n ≤ 16 := by
  unfold rgt at h
  simp only [Bool.and_eq_true, decide_eq_true_eq] at h
  exact ⟨sc.toNat, by omega, by omega⟩
set_option maxRecDepth 100000 in
set_option maxHeartbeats 4000000 in
theorem Print_any (neg : Bool) (ds : ByteArray) (sc : Int) (w : World) (hz : ds.size ≤ 140737488351232) : Calls Tryz.prog 6 #[.agg #[.bool neg, .string ds, .int .i64 sc]] w fun r w' => ∃ ev, r = .returned (.tuple #[.string (prV neg ds sc), ev]) ∧ TEv w' ev 0 (prE neg ds sc) ∧ Below w.heap.size w w' := by
  have cR := fun w => right_any neg ds sc w hz
  have HU : Hid (Below w.heap.size w (w.alloc (.cells #[.bool neg, .string ds, .int .i64 sc] 23)) ∧ Box (w.alloc (.cells #[.bool neg, .string ds, .int .i64 sc] 23)) w.heap.size #[.bool neg, .string ds, .int .i64 sc]) := ⟨(Below.refl _ _).alloc (Nat.le_refl _) _, Box.new _ _ _⟩
  cases hq : rgt neg (bl ds) sc with
  | false =>
    have HP : Hid (prV neg ds sc = ⟨#[]⟩ ∧ prE neg ds sc = 164) := by unfold Hid prV prE; rw [hq]; exact ⟨rfl, rfl⟩
    rw [hq] at cR
    go_enter Tryz.func6, Tryz.ntmps6
    go_wp2_with fail
    refine (cR _).mono ?_
    rintro _ w1 ⟨rfl, hb⟩
    have H1 : Hid (Below w.heap.size w w1) := below_then HU.out.1 hb
    have kc := (HU.out.2.below hb).cell
    clear hb cR
    go_wp2_with fail
    refine (tfault_any 0 164 (by decide) _).mono ?_
    rintro _ w2 ⟨ev, rfl, hev, hb⟩
    have H2 : Hid (TEv w2 ev 0 164 ∧ Below w.heap.size w w2) := ⟨hev, below_then H1.out hb⟩
    clear hev hb
    go_wp2_with fail
    refine bodyPost_ret ?_ rfl ⟨ev, by rw [HP.out.1], by rw [HP.out.2]; exact H2.out.1, H2.out.2⟩
    simp [results, Tryz.results6, go_sem]
  | true =>
    obtain ⟨n, rfl, hn⟩ := rgt_sc hq
    have HP : Hid (prV neg ds (n : Int) = wrSs neg ds n ∧ prE neg ds (n : Int) = 0) := by unfold Hid prV prE; rw [hq]; exact ⟨rfl, rfl⟩
    rw [hq] at cR
    go_enter Tryz.func6, Tryz.ntmps6
    go_wp2_with fail
    refine (cR _).mono ?_
    rintro _ w1 ⟨rfl, hb⟩
    have H1 : Hid (Below w.heap.size w w1) := below_then HU.out.1 hb
    have kc := (HU.out.2.below hb).cell
    clear hb cR
    go_wp2_with fail
    refine (write_any neg ds n _ hn (by omega)).mono ?_
    rintro _ w2 ⟨rfl, hb⟩
    have H2 : Hid (Below w.heap.size w w2) := below_then H1.out hb
    clear hb
    go_wp2_with fail
    refine bodyPost_ret ?_ rfl ⟨_, by rw [HP.out.1], by rw [HP.out.2]; exact Or.inl ⟨rfl, rfl⟩, H2.out⟩
    simp [results, Tryz.results6, go_sem]
end Go.Proofs.YtnilmmfbliogiaaGreatDoor
