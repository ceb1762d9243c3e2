import Derived.Test.YthnpckmgnompiaaGreatDoorWParse
import Derived.Laws.BitsAllLaws
import Derived.Test.YthnpckmgnompiaaGreatDoorWComp
import Derived.Test.YthnpckmgnompiaaGreatDoorWOpenG
/-
  What is read of a generation's bytes is what was written: heads, records, snapshots.
-/
namespace Go.Proofs.YthnpckmgnompiaaGreatDoor
open Go.RowKit Go.BigFrame

theorem val4 {x : Int} (h0 : 0 ≤ x) (h1 : x < 4294967296) : (valN (be4 x) : Int) = x := by
  simp only [valN, be4, List.foldl_cons, List.foldl_nil]
  omega
theorem val_app (xs ys : List Int) : valN (xs ++ ys) = valN xs * 256 ^ ys.length + valN ys := by
  unfold valN
  rw [List.foldl_append]
  generalize xs.foldl (fun x z => x * 256 + z.toNat) 0 = n
  induction ys generalizing n with
  | nil => simp
  | cons y ys ih =>
    simp only [List.foldl_cons, List.length_cons]
    rw [ih (n * 256 + y.toNat), ih (0 * 256 + y.toNat), Nat.pow_succ, Nat.add_mul, Nat.add_mul, Nat.mul_assoc n, Nat.mul_comm 256]
    omega
theorem be8_split {x : Int} (h0 : 0 ≤ x) (h1 : x < 18446744073709551616) : be8 x = be4 (x / 4294967296) ++ be4 (x % 4294967296) := by
  have c7 : x / 72057594037927936 = x / 4294967296 / 16777216 % 256 := by omega
  have c6 : x / 281474976710656 % 256 = x / 4294967296 / 65536 % 256 := by omega
  have c5 : x / 1099511627776 % 256 = x / 4294967296 / 256 % 256 := by omega
  have c3 : x / 16777216 % 256 = x % 4294967296 / 16777216 % 256 := by omega
  have c2 : x / 65536 % 256 = x % 4294967296 / 65536 % 256 := by omega
  have c1 : x / 256 % 256 = x % 4294967296 / 256 % 256 := by omega
  have c0 : x % 256 = x % 4294967296 % 256 := by omega
  unfold be8 be4
  rw [c7, c6, c5, c3, c2, c1, c0]
  rfl
theorem val8 {x : Int} (h0 : 0 ≤ x) (h1 : x < 18446744073709551616) : (valN (be8 x) : Int) = x := by
  have e1 := val4 (x := x / 4294967296) (by omega) (by omega)
  have e2 := val4 (x := x % 4294967296) (by omega) (by omega)
  rw [be8_split h0 h1, val_app]
  have l4 : (be4 (x % 4294967296)).length = 4 := rfl
  rw [l4]
  have h3 : ((256 : Nat) ^ 4) = 4294967296 := by decide
  rw [h3]
  omega
theorem sum_bd (bs : List Int) : 0 ≤ sumI bs ∧ sumI bs < 4294967296 := by
  unfold sumI bits
  simp only [IntKind.wrap, IntKind.bits, IntKind.signed]
  simp
  omega
theorem xor_bd {n : Nat} (h : n < 4294967296) : 0 ≤ bits .xor .u64 (n : Int) 4294967295 ∧ bits .xor .u64 (n : Int) 4294967295 < 4294967296 := by
  have e := u64_xor_nat n 4294967295 (by omega) (by omega)
  have e2 : ((4294967295 : Nat) : Int) = 4294967295 := rfl
  rw [e2] at e
  rw [e]
  have : n ^^^ 4294967295 < 2 ^ 32 := Nat.xor_lt_two_pow (by omega) (by omega)
  omega
theorem rc_rec {sn rest : List Int} {le mo : Nat} (h0 : le ≤ sn.length) (h1 : sn.length ≤ mo) (h2 : sn.length ≤ 2097152) : rcS (recB sn ++ rest) le mo = some sn := by
  have v1 : valN (be4 sn.length) = sn.length := by have := val4 (x := (sn.length : Int)) (by omega) (by omega); omega
  have hx := xor_bd (n := sn.length) (by omega)
  have v2 := val4 hx.1 hx.2
  have v3 := val4 (sum_bd sn).1 (sum_bd sn).2
  have e0 : recB sn ++ rest = be4 sn.length ++ (be4 (bits BinOp.xor IntKind.u64 sn.length 4294967295) ++ (be4 (sumI sn) ++ (sn ++ (165 :: rest)))) := by
    unfold recB; simp [List.append_assoc]
  have l4 : ∀ x, (be4 x).length = 4 := fun x => rfl
  have e1 : (recB sn ++ rest).take 4 = be4 sn.length := by rw [e0]; exact List.take_left' (l4 _)
  have e2 : ((recB sn ++ rest).drop 4).take 4 = be4 (bits BinOp.xor IntKind.u64 sn.length 4294967295) := by rw [e0, List.drop_left' (l4 _)]; exact List.take_left' (l4 _)
  have e3 : ((recB sn ++ rest).drop 8).take 4 = be4 (sumI sn) := by
    rw [e0, show (8 : Nat) = 4 + 4 from rfl, ← List.drop_drop, List.drop_left' (l4 _), List.drop_left' (l4 _)]; exact List.take_left' (l4 _)
  have e4 : (recB sn ++ rest).drop 12 = sn ++ (165 :: rest) := by
    rw [e0, show (12 : Nat) = 4 + 4 + 4 from rfl, ← List.drop_drop, ← List.drop_drop, List.drop_left' (l4 _), List.drop_left' (l4 _), List.drop_left' (l4 _)]
  have e5 : (recB sn ++ rest).length = sn.length + 13 + rest.length := by rw [List.length_append, recB_len]
  have e6 : (recB sn ++ rest).getD (12 + sn.length) 0 = 165 := by
    have : (recB sn ++ rest).getD (12 + sn.length) 0 = ((recB sn ++ rest).drop 12).getD sn.length 0 := by
      simp only [List.getD_eq_getElem?_getD, List.getElem?_drop]
    rw [this, e4]
    simp [List.getD_eq_getElem?_getD]
  unfold rcS
  rw [e1, e2, e3, v1, e6, e4, v2, v3, e5]
  have t1 : (sn ++ (165 :: rest)).take sn.length = sn := List.take_left' rfl
  rw [t1]
  rw [if_neg (by omega), if_neg (by simp; omega), if_neg (by simp)]
theorem hd_head {g : Nat} {rest : List Int} (h0 : 1 ≤ g) (h1 : g ≤ 4611686018427387904) : hdS (headB g ++ rest) = some g := by
  have v1 : valN (be8 (g : Int)) = g := by have := val8 (x := (g : Int)) (by omega) (by omega); omega
  have e0 : headB (g : Int) ++ rest = [72, 87, 76, 49] ++ (be8 g ++ (be4 (sumI (head12 g)) ++ (165 :: rest))) := by
    unfold headB head12; simp [List.append_assoc]
  have e1 : ((headB (g : Int) ++ rest).drop 4).take 8 = be8 g := by
    rw [e0]
    show (be8 (g : Int) ++ (be4 (sumI (head12 g)) ++ (165 :: rest))).take 8 = be8 g
    exact List.take_left' rfl
  have e2 : (headB (g : Int) ++ rest).take 17 = headB g := List.take_left' (headB_len _)
  unfold hdS
  rw [e1, e2, v1]
  rw [if_neg (by rw [List.length_append, headB_len]; omega), if_neg (by simp; omega)]
theorem recs_nil (n : Nat) : recsS n [] = [] := by
  cases n with
  | zero => rfl
  | succ n => unfold recsS; rfl
/-- A generation without records. -/
theorem ps_gen {g : Nat} {sn : List Int} {ar : Int} (h0 : 1 ≤ g) (h1 : g ≤ 4611686018427387904) (h2 : sn.length ≤ 2097152) (ha : (g : Int) % 2 = ar) : psS (headB g ++ recB sn) ar = some (g, sn, []) := by
  have e1 : (headB (g : Int) ++ recB sn).drop 17 = recB sn := List.drop_left' (headB_len _)
  have e2 : rcS (recB sn) 0 2097152 = some sn := by have := rc_rec (rest := []) (le := 0) (mo := 2097152) (Nat.zero_le _) h2 h2; rwa [List.append_nil] at this
  have e3 : (headB (g : Int) ++ recB sn).drop (30 + sn.length) = [] := List.drop_of_length_le (by rw [List.length_append, headB_len, recB_len]; omega)
  unfold psS
  rw [hd_head h0 h1]
  simp only [e1, e2, e3, recs_nil]
  rw [if_neg (by simp [ha])]
end Go.Proofs.YthnpckmgnompiaaGreatDoor

/-
  What is read of records of which the last is torn: just the whole ones.
-/
namespace Go.Proofs.YthnpckmgnompiaaGreatDoor
open Go.RowKit Go.BigFrame

theorem xor_ne {v : Nat} (h : v < 4294967295) : bits .xor .u64 (v : Int) 4294967295 ≠ 0 := by
  have e := u64_xor_nat v 4294967295 (by omega) (by omega)
  have e2 : ((4294967295 : Nat) : Int) = 4294967295 := rfl
  rw [e2] at e
  rw [e]
  intro h0
  have h1 : v ^^^ 4294967295 = 0 := by omega
  have h2 : (v ^^^ 4294967295) ^^^ 4294967295 = v := by rw [Nat.xor_assoc, Nat.xor_self, Nat.xor_zero]
  rw [h1, Nat.zero_xor] at h2
  omega
theorem rc_low {R : List Int} (h : valN (R.take 4) < 1) : rcS R 1 20000 = none := by
  unfold rcS
  split
  · rfl
  · rw [if_pos (Or.inl h)]
theorem rc_turned {R : List Int} (h : (valN ((R.drop 4).take 4) : Int) ≠ bits .xor .u64 (valN (R.take 4)) 4294967295) : rcS R 1 20000 = none := by
  unfold rcS
  split
  · rfl
  · rw [if_pos (Or.inr (Or.inr h))]
theorem rc_end {R : List Int} (h : R.getD (12 + valN (R.take 4)) 0 ≠ 165) : rcS R 1 20000 = none := by
  unfold rcS
  split
  · rfl
  · split
    · rfl
    · rw [if_pos (Or.inl h)]
theorem rc_short {R : List Int} {le mo : Nat} (h : R.length < 13) : rcS R le mo = none := by
  unfold rcS
  rw [if_pos h]
/-- A record of which bytes are missing at the end, and zeros behind it. -/
theorem rc_torn {r : List Int} {p z : Nat} (h1 : 1 ≤ r.length) (h2 : r.length ≤ 20000) (hp : p < (recB r).length) : rcS ((recB r).take p ++ List.replicate z 0) 1 20000 = none := by
  have hl : (recB r).length = r.length + 13 := recB_len r
  have lt : ((recB r).take p).length = p := by rw [List.length_take]; omega
  by_cases h13 : ((recB r).take p ++ List.replicate z (0 : Int)).length < 13
  · exact rc_short h13
  rw [List.length_append, lt, List.length_replicate] at h13
  by_cases hp4 : 4 ≤ p
  · have e1 : ((recB r).take p ++ List.replicate z (0 : Int)).take 4 = be4 r.length := by
      rw [List.take_append_of_le_length (by omega), List.take_take, Nat.min_eq_left hp4]
      unfold recB
      exact List.take_left' rfl
    have v1 : valN (be4 (r.length : Int)) = r.length := by have := val4 (x := (r.length : Int)) (by omega) (by omega); omega
    refine rc_end ?_
    rw [e1, v1]
    have : ((recB r).take p ++ List.replicate z (0 : Int)).getD (12 + r.length) 0 = 0 := by
      rw [List.getD_eq_getElem?_getD, List.getElem?_append_right (by omega), List.getElem?_replicate]
      split <;> rfl
    rw [this]
    decide
  · obtain ⟨z', hz'⟩ : ∃ z', z = z' + (13 - p) := ⟨z - (13 - p), by omega⟩
    have b0 : (r.length : Int) / 16777216 % 256 = 0 := by omega
    have b1 : (r.length : Int) / 65536 % 256 = 0 := by omega
    have er : recB r = 0 :: 0 :: ((r.length : Int) / 256 % 256) :: ((r.length : Int) % 256) :: (be4 (bits BinOp.xor IntKind.u64 r.length 4294967295) ++ (be4 (sumI r) ++ (r ++ [165]))) := by
      show be4 _ ++ _ = _
      unfold be4
      rw [b0, b1]
      rfl
    subst hz'
    rw [er]
    match p, hp4 with
    | 0, _ =>
      have e : List.replicate (z' + (13 - 0)) (0 : Int) = 0 :: 0 :: 0 :: 0 :: List.replicate (z' + 9) 0 := rfl
      rw [e]
      exact rc_low (by simp [valN])
    | 1, _ =>
      have e : List.replicate (z' + (13 - 1)) (0 : Int) = 0 :: 0 :: 0 :: List.replicate (z' + 9) 0 := rfl
      rw [e]
      exact rc_low (by simp [valN])
    | 2, _ =>
      have e : List.replicate (z' + (13 - 2)) (0 : Int) = 0 :: 0 :: List.replicate (z' + 9) 0 := rfl
      rw [e]
      exact rc_low (by simp [valN])
    | 3, _ =>
      have e : List.replicate (z' + (13 - 3)) (0 : Int) = 0 :: 0 :: 0 :: 0 :: 0 :: List.replicate (z' + 5) 0 := rfl
      rw [e]
      refine rc_turned ?_
      have v1 : valN (((List.take 3 (0 :: 0 :: ((r.length : Int) / 256 % 256) :: ((r.length : Int) % 256) :: (be4 (bits BinOp.xor IntKind.u64 r.length 4294967295) ++ (be4 (sumI r) ++ (r ++ [165])))) ++ 0 :: 0 :: 0 :: 0 :: 0 :: List.replicate (z' + 5) 0)).take 4) = ((r.length : Int) / 256 % 256).toNat * 256 := by simp [valN]
      have v2 : valN (((List.take 3 (0 :: 0 :: ((r.length : Int) / 256 % 256) :: ((r.length : Int) % 256) :: (be4 (bits BinOp.xor IntKind.u64 r.length 4294967295) ++ (be4 (sumI r) ++ (r ++ [165])))) ++ 0 :: 0 :: 0 :: 0 :: 0 :: List.replicate (z' + 5) 0).drop 4).take 4) = 0 := by simp [valN]
      rw [v1, v2]
      exact fun h => xor_ne (by omega) h.symm
    | p + 4, h => omega
/-- The bytes of records. -/
def recsB (rs : List (List Int)) : List Int := (rs.map recB).flatten
theorem recsB_len (rs : List (List Int)) : (recsB rs).length = sizes rs := by
  unfold recsB sizes
  rw [List.length_flatten, List.map_map]
  congr 1
  exact List.map_congr_left (fun r _ => recB_len r)
theorem recs_all {R : List Int} (hR : rcS R 1 20000 = none) : ∀ (rs : List (List Int)) (fuel : Nat), (∀ r ∈ rs, 1 ≤ r.length ∧ r.length ≤ 20000) → rs.length ≤ fuel → recsS fuel (recsB rs ++ R) = rs
  | [], fuel, _, _ => recsS_none hR
  | r :: rs, fuel, h, hf => by
    have hr := h r (List.mem_cons_self ..)
    have e : recsB (r :: rs) ++ R = recB r ++ (recsB rs ++ R) := by simp [recsB, List.append_assoc]
    rw [e, recsS_some (rc_rec hr.1 hr.2 (by omega)) (by simp at hf; omega), List.drop_left' (recB_len r)]
    rw [recs_all hR rs (fuel - 1) (fun q hq => h q (List.mem_cons_of_mem _ hq)) (by simp at hf; omega)]
theorem ps_with {g : Nat} {sn T : List Int} {ar : Int} (h0 : 1 ≤ g) (h1 : g ≤ 4611686018427387904) (h2 : sn.length ≤ 2097152) (ha : (g : Int) % 2 = ar) : psS (headB g ++ (recB sn ++ T)) ar = some (g, sn, recsS (30 + sn.length + T.length) T) := by
  have e1 : (headB (g : Int) ++ (recB sn ++ T)).drop 17 = recB sn ++ T := List.drop_left' (headB_len _)
  have e2 : rcS (recB sn ++ T) 0 2097152 = some sn := rc_rec (Nat.zero_le _) h2 h2
  have e3 : (headB (g : Int) ++ (recB sn ++ T)).drop (30 + sn.length) = T := by
    rw [show 30 + sn.length = 17 + (sn.length + 13) by omega, ← List.drop_drop, e1]
    exact List.drop_left' (recB_len sn)
  have e4 : (headB (g : Int) ++ (recB sn ++ T)).length = 30 + sn.length + T.length := by rw [List.length_append, List.length_append, headB_len, recB_len]; omega
  unfold psS
  rw [hd_head h0 h1]
  simp only [e1, e2, e3, e4]
  rw [if_neg (by simp [ha])]
/-- Whole records, then bytes that are none. -/
theorem ps_recs {g : Nat} {sn R : List Int} {rs : List (List Int)} {ar : Int} (h0 : 1 ≤ g) (h1 : g ≤ 4611686018427387904) (h2 : sn.length ≤ 2097152) (ha : (g : Int) % 2 = ar) (hrs : ∀ r ∈ rs, 1 ≤ r.length ∧ r.length ≤ 20000) (hR : rcS R 1 20000 = none) : psS (headB g ++ (recB sn ++ (recsB rs ++ R))) ar = some (g, sn, rs) := by
  rw [ps_with h0 h1 h2 ha, recs_all hR rs _ hrs]
  have : rs.length ≤ sizes rs := by
    unfold sizes
    clear hrs hR
    induction rs with
    | nil => simp
    | cons r rs ih => simp; omega
  rw [List.length_append, recsB_len]
  omega
end Go.Proofs.YthnpckmgnompiaaGreatDoor

/-
  The law's begin, told in full: a log with nothing in it, and the block that names it.
-/
namespace Go.Proofs.YthnpckmgnompiaaGreatDoor
open Go.RowKit Go.BigFrame

/-- What begin answers, in full. -/
def BeginR (w : World) (e : Ending) (w' : World) : Prop := ∃ r K L u0 u1, e = .returned (.tuple #[.pointer (some ⟨r, 0, none⟩), .bool true]) ∧ Lg w' w.heap.size K L u0 u1 sgB false 1 1 0 0 30 ∧ Below w.heap.size w w' ∧ (∀ q, w'.cell? ⟨r, q, none⟩ = (#[Value.pointer (some ⟨K, 0, none⟩), Value.pointer (some ⟨L, 0, none⟩), Value.slice none 0 0, Value.int .i64 0] : Array Value)[q]?) ∧ (∀ q, w'.frozen? ⟨r, q, none⟩ = false) ∧ ¬ Foot K u0 u1 r ∧ r ≠ L ∧ w.heap.size ≤ r ∧ r < w'.heap.size
end Go.Proofs.YthnpckmgnompiaaGreatDoor

/-
  A log of generation 1 with records that wait; which of them a crash leaves; of no program but for the log's bytes.
-/
namespace Go.Proofs.YthnpckmgnompiaaGreatDoor
open Go.RowKit Go.BigFrame

theorem recsB_snoc (rs : List (List Int)) (d : List Int) : recsB (rs ++ [d]) = recsB rs ++ recB d := by simp [recsB]
theorem recsB_app (rs qs : List (List Int)) : recsB (rs ++ qs) = recsB rs ++ recsB qs := by simp [recsB]
/-- The disk of a log with these records, none of them synced. -/
def sgC (rs : List (List Int)) (na ns nc : Int) : Sg := ⟨[], headB 1 ++ (recB [] ++ recsB rs), 0, 30, false, -1, na, ns, nc⟩
theorem sgC_new : sgC [] 1 1 2 = sgB := by simp [sgC, sgB, recsB]
theorem sgC_len (rs : List (List Int)) (na ns nc : Int) : (sgC rs na ns nc).x1.length = 30 + sizes rs := by
  show (headB 1 ++ (recB [] ++ recsB rs)).length = _
  rw [List.length_append, List.length_append, headB_len, recB_len, recsB_len, List.length_nil]
  omega
theorem sgC_app {rs : List (List Int)} {d : List Int} {na ns nc : Int} (h : sizes rs + (d.length + 13) ≤ 8388608) : appC (sgC rs na ns nc) 1 (d.length + 13) = 0 ∧ ∃ na', appS (sgC rs na ns nc) 1 (recB d) = sgC (rs ++ [d]) na' ns nc := by
  have hl := sgC_len rs na ns nc
  have hg : (sgC rs na ns nc).goes = true := rfl
  refine ⟨?_, ?_⟩
  · unfold appC
    simp only [if_neg (show ¬ (1 : Int) = 0 by decide), if_true, hg, if_neg (show ¬ 16777216 < (sgC rs na ns nc).x1.length + (d.length + 13) by omega)]
  · refine ⟨oneMore na, ?_⟩
    unfold appS
    simp only [if_neg (show ¬ (1 : Int) = 0 by decide), if_true, hg, if_neg (show ¬ 16777216 < (sgC rs na ns nc).x1.length + (recB d).length by rw [recB_len]; omega)]
    simp [sgC, Sg.wr, leftOn, recsB_snoc, List.append_assoc]
/-- How many of the records a crash leaves that keeps so many bytes. -/
structure CutP (keep : Int) (rs : List (List Int)) (n : Nat) (left : Int) (full : Bool) : Prop where
  l0 : 0 ≤ left
  nl : n ≤ rs.length
  eq : (sizes (rs.take n) : Int) + left = keep
  ft : full = true → n = rs.length
  ff : full = false → ∃ r, rs[n]? = some r ∧ left < (r.length : Int) + 13
theorem sizes_app (rs qs : List (List Int)) : sizes (rs ++ qs) = sizes rs + sizes qs := by simp [sizes]
theorem CutP.start {keep : Int} (h : 0 ≤ keep) : CutP keep [] 0 keep true := ⟨h, Nat.le_refl _, by simp [sizes], fun _ => rfl, fun h => by cases h⟩
theorem CutP.goes {keep left : Int} {rs : List (List Int)} {n : Nat} {d : List Int} (h : CutP keep rs n left true) (hd : (d.length : Int) + 13 ≤ left) : CutP keep (rs ++ [d]) (n + 1) (left - ((d.length : Int) + 13)) true := by
  have hn := h.ft rfl
  have he := h.eq
  rw [hn, List.take_length] at he
  refine ⟨by omega, by simp; omega, ?_, fun _ => by simp [hn], fun h => by cases h⟩
  rw [hn, List.take_of_length_le (by simp), sizes_snoc]
  omega
theorem CutP.stops {keep left : Int} {rs : List (List Int)} {n : Nat} {d : List Int} (h : CutP keep rs n left true) (hd : left < (d.length : Int) + 13) : CutP keep (rs ++ [d]) n left false := by
  have hn := h.ft rfl
  refine ⟨h.l0, by simp; omega, ?_, (fun h => by cases h), fun _ => ⟨d, by rw [hn]; simp, hd⟩⟩
  rw [List.take_append_of_le_length h.nl]
  exact h.eq
theorem CutP.stays {keep left : Int} {rs : List (List Int)} {n : Nat} {d : List Int} (h : CutP keep rs n left false) : CutP keep (rs ++ [d]) n left false := by
  obtain ⟨r, hr, hl⟩ := h.ff rfl
  have hlt : n < rs.length := (List.getElem?_eq_some_iff.1 hr).1
  refine ⟨h.l0, by simp; omega, ?_, (fun h => by cases h), fun _ => ⟨r, by rw [List.getElem?_append_left hlt]; exact hr, hl⟩⟩
  rw [List.take_append_of_le_length h.nl]
  exact h.eq
/-- The bytes that a crash leaves of the log's area. -/
def cutB (rs : List (List Int)) (k z : Nat) : List Int := headB 1 ++ (recB [] ++ ((recsB rs).take k ++ List.replicate z 0))
theorem rc_nil : rcS [] 1 20000 = none := rfl
theorem cut_ps {keep left : Int} {rs : List (List Int)} {n k z : Nat} {full : Bool} (h : CutP keep rs n left full) (hrs : ∀ r ∈ rs, 1 ≤ r.length ∧ r.length ≤ 20000) (hk : (k : Int) = min keep (sizes rs)) (hz : k + z ≤ sizes rs) :
    psS (cutB rs k z) 1 = some (1, [], rs.take n) ∧ (cutB rs k z).length = 30 + k + z ∧ 30 + sizes (rs.take n) ≤ (cutB rs k z).length ∧ ((cutB rs k z).length : Int) - ((30 + sizes (rs.take n) : Nat) : Int) = (if full then 0 else left + z) := by
  have hlen : (cutB rs k z).length = 30 + k + z := by
    unfold cutB
    rw [List.length_append, List.length_append, List.length_append, headB_len, recB_len, List.length_take, recsB_len, List.length_replicate, List.length_nil]
    omega
  have h0 := h.l0
  have he := h.eq
  have hg : ((1 : Nat) : Int) % 2 = 1 := rfl
  have key : ∀ R, (recsB rs).take k ++ List.replicate z (0 : Int) = recsB (rs.take n) ++ R → rcS R 1 20000 = none → psS (cutB rs k z) 1 = some (1, [], rs.take n) := fun R hR hn => by
    unfold cutB
    rw [hR]
    exact ps_recs (g := 1) (sn := []) (by omega) (by omega) (by simp) hg (fun r hr => hrs r (List.mem_of_mem_take hr)) hn
  cases full with
  | true =>
    have hn := h.ft rfl
    rw [hn, List.take_length] at he
    have hks : k = sizes rs := by omega
    have hz0 : z = 0 := by omega
    subst hz0
    refine ⟨key [] ?_ rc_nil, hlen, ?_, ?_⟩
    · rw [hn, List.take_length, hks, List.take_of_length_le (by rw [recsB_len]; exact Nat.le_refl _)]
      rfl
    · rw [hlen, hn, List.take_length]; omega
    · rw [hlen, hn, List.take_length]; simp; omega
  | false =>
    obtain ⟨r, hr, hl⟩ := h.ff rfl
    obtain ⟨hlt, hre⟩ := List.getElem?_eq_some_iff.1 hr
    have hsplit : rs = rs.take n ++ (r :: rs.drop (n + 1)) := by
      rw [← hre, ← List.drop_eq_getElem_cons hlt, List.take_append_drop]
    have hsz : sizes rs = sizes (rs.take n) + ((r.length + 13) + sizes (rs.drop (n + 1))) := by
      have e1 : sizes (r :: rs.drop (n + 1)) = (r.length + 13) + sizes (rs.drop (n + 1)) := by simp [sizes]
      rw [← e1, ← sizes_app, ← hsplit]
    have hkl : k = sizes (rs.take n) + left.toNat := by omega
    refine ⟨key ((recB r).take left.toNat ++ List.replicate z 0) ?_ (rc_torn (hrs r (List.mem_of_getElem? hr)).1 (hrs r (List.mem_of_getElem? hr)).2 (by rw [recB_len]; omega)), hlen, ?_, ?_⟩
    · have e2 : recsB rs = recsB (rs.take n) ++ (recB r ++ recsB (rs.drop (n + 1))) := by
        have e3 : recsB (r :: rs.drop (n + 1)) = recB r ++ recsB (rs.drop (n + 1)) := by simp [recsB]
        rw [← e3, ← recsB_app, ← hsplit]
      have e4 : (recsB rs).take k = recsB (rs.take n) ++ (recB r).take left.toNat := by
        rw [e2, hkl, ← recsB_len (rs.take n), List.take_length_add_append, List.take_append_of_le_length (by rw [recB_len]; omega)]
      rw [e4, List.append_assoc]
    · rw [hlen]; omega
    · rw [hlen]; simp; omega
theorem cutB_rng {rs : List (List Int)} {k z : Nat} (h : ∀ r ∈ rs, Rng r) : Rng (cutB rs k z) := by
  unfold cutB
  refine rng_app (hdR 1 (by omega) (by omega)) (rng_app (rng_rec (fun z hz => by cases hz)) (rng_app ?_ ?_))
  · intro q hq
    have := List.mem_of_mem_take hq
    unfold recsB at this
    obtain ⟨l, hl, hql⟩ := List.mem_flatten.1 this
    obtain ⟨r, hr, rfl⟩ := List.mem_map.1 hl
    exact rng_rec (h r hr) q hql
  · intro q hq
    have := List.eq_of_mem_replicate hq
    omega
/-- The disk behind the crash. -/
theorem crash_sg {rs : List (List Int)} {na ns nc : Int} {k z : Nat} (hk : k ≤ sizes rs) (hz : k + z ≤ sizes rs) : crS (sgC rs na ns nc) k z k z = ⟨[], cutB rs k z, 0, (cutB rs k z).length, false, -1, na, ns, nc⟩ := by
  have hl := sgC_len rs na ns nc
  have e1 : (betw (k : Int) (((sgC rs na ns nc).x1.length - (sgC rs na ns nc).s1 : Nat) : Int)).toNat = k := by
    rw [hl]; show (betw (k : Int) ((30 + sizes rs - 30 : Nat) : Int)).toNat = k
    unfold betw; omega
  have e2 : (betw (z : Int) (((sgC rs na ns nc).x1.length - (sgC rs na ns nc).s1 - k : Nat) : Int)).toNat = z := by
    rw [hl]; show (betw (z : Int) ((30 + sizes rs - 30 - k : Nat) : Int)).toNat = z
    unfold betw; omega
  have e3 : (betw (k : Int) (((sgC rs na ns nc).x0.length - (sgC rs na ns nc).s0 : Nat) : Int)).toNat = 0 := by
    show (betw (k : Int) ((0 - 0 : Nat) : Int)).toNat = 0
    unfold betw; omega
  have e4 : (betw (z : Int) (((sgC rs na ns nc).x0.length - (sgC rs na ns nc).s0 - 0 : Nat) : Int)).toNat = 0 := by
    show (betw (z : Int) ((0 - 0 - 0 : Nat) : Int)).toNat = 0
    unfold betw; omega
  have e5 : torn (sgC rs na ns nc).x1 (sgC rs na ns nc).s1 k z = cutB rs k z := by
    show (headB 1 ++ (recB [] ++ recsB rs)).take (30 + k) ++ List.replicate z 0 = _
    unfold cutB
    rw [show 30 + k = (headB 1).length + ((recB []).length + k) by rw [headB_len, recB_len]; simp; omega, List.take_length_add_append, List.take_length_add_append, List.append_assoc, List.append_assoc]
  unfold crS
  simp only [e1, e2, e3, e4, e5]
  rfl
end Go.Proofs.YthnpckmgnompiaaGreatDoor
