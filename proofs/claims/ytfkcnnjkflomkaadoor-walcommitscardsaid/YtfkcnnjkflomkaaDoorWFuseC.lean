import Derived.Test.YtfkcnnjkflomkaaDoorWParse
import Derived.Laws.BitsAllLaws
import Derived.Test.YtfkcnnjkflomkaaDoorWBeg
import Derived.Test.YtfkcnnjkflomkaaDoorWOpenG
import Derived.Test.YtfkcnnjkflomkaaDoorWShort
/-
  What is read of a generation's bytes is what was written: heads, records, snapshots.
-/
namespace Go.Proofs.YtfkcnnjkflomkaaDoor
open Go.RowKit Go.BigFrame

theorem val4 {x : Int} (h0 : 0 ≤ x) (h1 : x < 4294967296) : (valN (be4 x) : Int) = x := by
  simp only [valN, be4, List.foldl_cons, List.foldl_nil]
  omega
theorem val_app (xs ys : List Int) : valN (xs ++ ys) = valN xs * 256 ^ ys.length + valN ys := by
  unfold valN
  rw [List.foldl_append]
  generalize xs.foldl (fun x z => x * 256 + z.toNat) 0 = n
  induction ys generalizing n with
  | nil => simp
  | cons y ys ih =>
    simp only [List.foldl_cons, List.length_cons]
    rw [ih (n * 256 + y.toNat), ih (0 * 256 + y.toNat), Nat.pow_succ, Nat.add_mul, Nat.add_mul, Nat.mul_assoc n, Nat.mul_comm 256]
    omega
theorem be8_split {x : Int} (h0 : 0 ≤ x) (h1 : x < 18446744073709551616) : be8 x = be4 (x / 4294967296) ++ be4 (x % 4294967296) := by
  have c7 : x / 72057594037927936 = x / 4294967296 / 16777216 % 256 := by omega
  have c6 : x / 281474976710656 % 256 = x / 4294967296 / 65536 % 256 := by omega
  have c5 : x / 1099511627776 % 256 = x / 4294967296 / 256 % 256 := by omega
  have c3 : x / 16777216 % 256 = x % 4294967296 / 16777216 % 256 := by omega
  have c2 : x / 65536 % 256 = x % 4294967296 / 65536 % 256 := by omega
  have c1 : x / 256 % 256 = x % 4294967296 / 256 % 256 := by omega
  have c0 : x % 256 = x % 4294967296 % 256 := by omega
  unfold be8 be4
  rw [c7, c6, c5, c3, c2, c1, c0]
  rfl
theorem val8 {x : Int} (h0 : 0 ≤ x) (h1 : x < 18446744073709551616) : (valN (be8 x) : Int) = x := by
  have e1 := val4 (x := x / 4294967296) (by omega) (by omega)
  have e2 := val4 (x := x % 4294967296) (by omega) (by omega)
  rw [be8_split h0 h1, val_app]
  have l4 : (be4 (x % 4294967296)).length = 4 := rfl
  rw [l4]
  have h3 : ((256 : Nat) ^ 4) = 4294967296 := by decide
  rw [h3]
  omega
theorem sum_bd (bs : List Int) : 0 ≤ sumI bs ∧ sumI bs < 4294967296 := by
  unfold sumI bits
  simp only [IntKind.wrap, IntKind.bits, IntKind.signed]
  simp
  omega
theorem xor_bd {n : Nat} (h : n < 4294967296) : 0 ≤ bits .xor .u64 (n : Int) 4294967295 ∧ bits .xor .u64 (n : Int) 4294967295 < 4294967296 := by
  have e := u64_xor_nat n 4294967295 (by omega) (by omega)
  have e2 : ((4294967295 : Nat) : Int) = 4294967295 := rfl
  rw [e2] at e
  rw [e]
  have : n ^^^ 4294967295 < 2 ^ 32 := Nat.xor_lt_two_pow (by omega) (by omega)
  omega
theorem rc_rec {sn rest : List Int} {le mo : Nat} (h0 : le ≤ sn.length) (h1 : sn.length ≤ mo) (h2 : sn.length ≤ 2097152) : rcS (recB sn ++ rest) le mo = some sn := by
  have v1 : valN (be4 sn.length) = sn.length := by have := val4 (x := (sn.length : Int)) (by omega) (by omega); omega
  have hx := xor_bd (n := sn.length) (by omega)
  have v2 := val4 hx.1 hx.2
  have v3 := val4 (sum_bd sn).1 (sum_bd sn).2
  have e0 : recB sn ++ rest = be4 sn.length ++ (be4 (bits BinOp.xor IntKind.u64 sn.length 4294967295) ++ (be4 (sumI sn) ++ (sn ++ (165 :: rest)))) := by
    unfold recB; simp [List.append_assoc]
  have l4 : ∀ x, (be4 x).length = 4 := fun x => rfl
  have e1 : (recB sn ++ rest).take 4 = be4 sn.length := by rw [e0]; exact List.take_left' (l4 _)
  have e2 : ((recB sn ++ rest).drop 4).take 4 = be4 (bits BinOp.xor IntKind.u64 sn.length 4294967295) := by rw [e0, List.drop_left' (l4 _)]; exact List.take_left' (l4 _)
  have e3 : ((recB sn ++ rest).drop 8).take 4 = be4 (sumI sn) := by
    rw [e0, show (8 : Nat) = 4 + 4 from rfl, ← List.drop_drop, List.drop_left' (l4 _), List.drop_left' (l4 _)]; exact List.take_left' (l4 _)
  have e4 : (recB sn ++ rest).drop 12 = sn ++ (165 :: rest) := by
    rw [e0, show (12 : Nat) = 4 + 4 + 4 from rfl, ← List.drop_drop, ← List.drop_drop, List.drop_left' (l4 _), List.drop_left' (l4 _), List.drop_left' (l4 _)]
  have e5 : (recB sn ++ rest).length = sn.length + 13 + rest.length := by rw [List.length_append, recB_len]
  have e6 : (recB sn ++ rest).getD (12 + sn.length) 0 = 165 := by
    have : (recB sn ++ rest).getD (12 + sn.length) 0 = ((recB sn ++ rest).drop 12).getD sn.length 0 := by
      simp only [List.getD_eq_getElem?_getD, List.getElem?_drop]
    rw [this, e4]
    simp [List.getD_eq_getElem?_getD]
  unfold rcS
  rw [e1, e2, e3, v1, e6, e4, v2, v3, e5]
  have t1 : (sn ++ (165 :: rest)).take sn.length = sn := List.take_left' rfl
  rw [t1]
  rw [if_neg (by omega), if_neg (by simp; omega), if_neg (by simp)]
theorem hd_head {g : Nat} {rest : List Int} (h0 : 1 ≤ g) (h1 : g ≤ 4611686018427387904) : hdS (headB g ++ rest) = some g := by
  have v1 : valN (be8 (g : Int)) = g := by have := val8 (x := (g : Int)) (by omega) (by omega); omega
  have e0 : headB (g : Int) ++ rest = [72, 87, 76, 49] ++ (be8 g ++ (be4 (sumI (head12 g)) ++ (165 :: rest))) := by
    unfold headB head12; simp [List.append_assoc]
  have e1 : ((headB (g : Int) ++ rest).drop 4).take 8 = be8 g := by
    rw [e0]
    show (be8 (g : Int) ++ (be4 (sumI (head12 g)) ++ (165 :: rest))).take 8 = be8 g
    exact List.take_left' rfl
  have e2 : (headB (g : Int) ++ rest).take 17 = headB g := List.take_left' (headB_len _)
  unfold hdS
  rw [e1, e2, v1]
  rw [if_neg (by rw [List.length_append, headB_len]; omega), if_neg (by simp; omega)]
theorem recs_nil (n : Nat) : recsS n [] = [] := by
  cases n with
  | zero => rfl
  | succ n => unfold recsS; rfl
/-- A generation without records. -/
theorem ps_gen {g : Nat} {sn : List Int} {ar : Int} (h0 : 1 ≤ g) (h1 : g ≤ 4611686018427387904) (h2 : sn.length ≤ 2097152) (ha : (g : Int) % 2 = ar) : psS (headB g ++ recB sn) ar = some (g, sn, []) := by
  have e1 : (headB (g : Int) ++ recB sn).drop 17 = recB sn := List.drop_left' (headB_len _)
  have e2 : rcS (recB sn) 0 2097152 = some sn := by have := rc_rec (rest := []) (le := 0) (mo := 2097152) (Nat.zero_le _) h2 h2; rwa [List.append_nil] at this
  have e3 : (headB (g : Int) ++ recB sn).drop (30 + sn.length) = [] := List.drop_of_length_le (by rw [List.length_append, headB_len, recB_len]; omega)
  unfold psS
  rw [hd_head h0 h1]
  simp only [e1, e2, e3, recs_nil]
  rw [if_neg (by simp [ha])]
end Go.Proofs.YtfkcnnjkflomkaaDoor

/-
  What is read of records of which the last is torn: just the whole ones.
-/
namespace Go.Proofs.YtfkcnnjkflomkaaDoor
open Go.RowKit Go.BigFrame

theorem xor_ne {v : Nat} (h : v < 4294967295) : bits .xor .u64 (v : Int) 4294967295 ≠ 0 := by
  have e := u64_xor_nat v 4294967295 (by omega) (by omega)
  have e2 : ((4294967295 : Nat) : Int) = 4294967295 := rfl
  rw [e2] at e
  rw [e]
  intro h0
  have h1 : v ^^^ 4294967295 = 0 := by omega
  have h2 : (v ^^^ 4294967295) ^^^ 4294967295 = v := by rw [Nat.xor_assoc, Nat.xor_self, Nat.xor_zero]
  rw [h1, Nat.zero_xor] at h2
  omega
theorem rc_low {R : List Int} (h : valN (R.take 4) < 1) : rcS R 1 20000 = none := by
  unfold rcS
  split
  · rfl
  · rw [if_pos (Or.inl h)]
theorem rc_turned {R : List Int} (h : (valN ((R.drop 4).take 4) : Int) ≠ bits .xor .u64 (valN (R.take 4)) 4294967295) : rcS R 1 20000 = none := by
  unfold rcS
  split
  · rfl
  · rw [if_pos (Or.inr (Or.inr h))]
theorem rc_end {R : List Int} (h : R.getD (12 + valN (R.take 4)) 0 ≠ 165) : rcS R 1 20000 = none := by
  unfold rcS
  split
  · rfl
  · split
    · rfl
    · rw [if_pos (Or.inl h)]
theorem rc_short {R : List Int} {le mo : Nat} (h : R.length < 13) : rcS R le mo = none := by
  unfold rcS
  rw [if_pos h]
/-- A record of which bytes are missing at the end, and zeros behind it. -/
theorem rc_torn {r : List Int} {p z : Nat} (h1 : 1 ≤ r.length) (h2 : r.length ≤ 20000) (hp : p < (recB r).length) : rcS ((recB r).take p ++ List.replicate z 0) 1 20000 = none := by
  have hl : (recB r).length = r.length + 13 := recB_len r
  have lt : ((recB r).take p).length = p := by rw [List.length_take]; omega
  by_cases h13 : ((recB r).take p ++ List.replicate z (0 : Int)).length < 13
  · exact rc_short h13
  rw [List.length_append, lt, List.length_replicate] at h13
  by_cases hp4 : 4 ≤ p
  · have e1 : ((recB r).take p ++ List.replicate z (0 : Int)).take 4 = be4 r.length := by
      rw [List.take_append_of_le_length (by omega), List.take_take, Nat.min_eq_left hp4]
      unfold recB
      exact List.take_left' rfl
    have v1 : valN (be4 (r.length : Int)) = r.length := by have := val4 (x := (r.length : Int)) (by omega) (by omega); omega
    refine rc_end ?_
    rw [e1, v1]
    have : ((recB r).take p ++ List.replicate z (0 : Int)).getD (12 + r.length) 0 = 0 := by
      rw [List.getD_eq_getElem?_getD, List.getElem?_append_right (by omega), List.getElem?_replicate]
      split <;> rfl
    rw [this]
    decide
  · obtain ⟨z', hz'⟩ : ∃ z', z = z' + (13 - p) := ⟨z - (13 - p), by omega⟩
    have b0 : (r.length : Int) / 16777216 % 256 = 0 := by omega
    have b1 : (r.length : Int) / 65536 % 256 = 0 := by omega
    have er : recB r = 0 :: 0 :: ((r.length : Int) / 256 % 256) :: ((r.length : Int) % 256) :: (be4 (bits BinOp.xor IntKind.u64 r.length 4294967295) ++ (be4 (sumI r) ++ (r ++ [165]))) := by
      show be4 _ ++ _ = _
      unfold be4
      rw [b0, b1]
      rfl
    subst hz'
    rw [er]
    match p, hp4 with
    | 0, _ =>
      have e : List.replicate (z' + (13 - 0)) (0 : Int) = 0 :: 0 :: 0 :: 0 :: List.replicate (z' + 9) 0 := rfl
      rw [e]
      exact rc_low (by simp [valN])
    | 1, _ =>
      have e : List.replicate (z' + (13 - 1)) (0 : Int) = 0 :: 0 :: 0 :: List.replicate (z' + 9) 0 := rfl
      rw [e]
      exact rc_low (by simp [valN])
    | 2, _ =>
      have e : List.replicate (z' + (13 - 2)) (0 : Int) = 0 :: 0 :: List.replicate (z' + 9) 0 := rfl
      rw [e]
      exact rc_low (by simp [valN])
    | 3, _ =>
      have e : List.replicate (z' + (13 - 3)) (0 : Int) = 0 :: 0 :: 0 :: 0 :: 0 :: List.replicate (z' + 5) 0 := rfl
      rw [e]
      refine rc_turned ?_
      have v1 : valN (((List.take 3 (0 :: 0 :: ((r.length : Int) / 256 % 256) :: ((r.length : Int) % 256) :: (be4 (bits BinOp.xor IntKind.u64 r.length 4294967295) ++ (be4 (sumI r) ++ (r ++ [165])))) ++ 0 :: 0 :: 0 :: 0 :: 0 :: List.replicate (z' + 5) 0)).take 4) = ((r.length : Int) / 256 % 256).toNat * 256 := by simp [valN]
      have v2 : valN (((List.take 3 (0 :: 0 :: ((r.length : Int) / 256 % 256) :: ((r.length : Int) % 256) :: (be4 (bits BinOp.xor IntKind.u64 r.length 4294967295) ++ (be4 (sumI r) ++ (r ++ [165])))) ++ 0 :: 0 :: 0 :: 0 :: 0 :: List.replicate (z' + 5) 0).drop 4).take 4) = 0 := by simp [valN]
      rw [v1, v2]
      exact fun h => xor_ne (by omega) h.symm
    | p + 4, h => omega
/-- The bytes of records. -/
def recsB (rs : List (List Int)) : List Int := (rs.map recB).flatten
theorem recsB_len (rs : List (List Int)) : (recsB rs).length = sizes rs := by
  unfold recsB sizes
  rw [List.length_flatten, List.map_map]
  congr 1
  exact List.map_congr_left (fun r _ => recB_len r)
theorem recs_all {R : List Int} (hR : rcS R 1 20000 = none) : ∀ (rs : List (List Int)) (fuel : Nat), (∀ r ∈ rs, 1 ≤ r.length ∧ r.length ≤ 20000) → rs.length ≤ fuel → recsS fuel (recsB rs ++ R) = rs
  | [], fuel, _, _ => recsS_none hR
  | r :: rs, fuel, h, hf => by
    have hr := h r (List.mem_cons_self ..)
    have e : recsB (r :: rs) ++ R = recB r ++ (recsB rs ++ R) := by simp [recsB, List.append_assoc]
    rw [e, recsS_some (rc_rec hr.1 hr.2 (by omega)) (by simp at hf; omega), List.drop_left' (recB_len r)]
    rw [recs_all hR rs (fuel - 1) (fun q hq => h q (List.mem_cons_of_mem _ hq)) (by simp at hf; omega)]
theorem ps_with {g : Nat} {sn T : List Int} {ar : Int} (h0 : 1 ≤ g) (h1 : g ≤ 4611686018427387904) (h2 : sn.length ≤ 2097152) (ha : (g : Int) % 2 = ar) : psS (headB g ++ (recB sn ++ T)) ar = some (g, sn, recsS (30 + sn.length + T.length) T) := by
  have e1 : (headB (g : Int) ++ (recB sn ++ T)).drop 17 = recB sn ++ T := List.drop_left' (headB_len _)
  have e2 : rcS (recB sn ++ T) 0 2097152 = some sn := rc_rec (Nat.zero_le _) h2 h2
  have e3 : (headB (g : Int) ++ (recB sn ++ T)).drop (30 + sn.length) = T := by
    rw [show 30 + sn.length = 17 + (sn.length + 13) by omega, ← List.drop_drop, e1]
    exact List.drop_left' (recB_len sn)
  have e4 : (headB (g : Int) ++ (recB sn ++ T)).length = 30 + sn.length + T.length := by rw [List.length_append, List.length_append, headB_len, recB_len]; omega
  unfold psS
  rw [hd_head h0 h1]
  simp only [e1, e2, e3, e4]
  rw [if_neg (by simp [ha])]
/-- Whole records, then bytes that are none. -/
theorem ps_recs {g : Nat} {sn R : List Int} {rs : List (List Int)} {ar : Int} (h0 : 1 ≤ g) (h1 : g ≤ 4611686018427387904) (h2 : sn.length ≤ 2097152) (ha : (g : Int) % 2 = ar) (hrs : ∀ r ∈ rs, 1 ≤ r.length ∧ r.length ≤ 20000) (hR : rcS R 1 20000 = none) : psS (headB g ++ (recB sn ++ (recsB rs ++ R))) ar = some (g, sn, rs) := by
  rw [ps_with h0 h1 h2 ha, recs_all hR rs _ hrs]
  have : rs.length ≤ sizes rs := by
    unfold sizes
    clear hrs hR
    induction rs with
    | nil => simp
    | cons r rs ih => simp; omega
  rw [List.length_append, recsB_len]
  omega
end Go.Proofs.YtfkcnnjkflomkaaDoor

/-
  The law's begin, told in full: a log with nothing in it, and the block that names it.
-/
namespace Go.Proofs.YtfkcnnjkflomkaaDoor
open Go.RowKit Go.BigFrame

/-- What begin answers, in full. -/
def BeginR (w : World) (e : Ending) (w' : World) : Prop := ∃ r K L u0 u1, e = .returned (.tuple #[.pointer (some ⟨r, 0, none⟩), .bool true]) ∧ Lg w' w.heap.size K L u0 u1 sgB false 1 1 0 0 30 ∧ Below w.heap.size w w' ∧ (∀ q, w'.cell? ⟨r, q, none⟩ = (#[Value.pointer (some ⟨K, 0, none⟩), Value.pointer (some ⟨L, 0, none⟩), Value.slice none 0 0, Value.int .i64 0] : Array Value)[q]?) ∧ (∀ q, w'.frozen? ⟨r, q, none⟩ = false) ∧ ¬ Foot K u0 u1 r ∧ r ≠ L ∧ w.heap.size ≤ r ∧ r < w'.heap.size
set_option maxRecDepth 100000 in
set_option maxHeartbeats 4000000 in
theorem begin_full (w : World) (hH : Halves w) : Calls Tryd.prog 8 #[] w (BeginR w) := by
  have hg : 1 < w.heap.size := cell_lt (hH 0 (by decide))
  have b1 : Below w.heap.size w (w.alloc (.cells #[.slice none 0 0, .int .i64 0, .slice none 0 0, .int .i64 0, .int .i64 1, .int .i64 (-1), .int .i64 0, .int .i64 0, .int .i64 0] 97)) := (Below.refl _ _).alloc (Nat.le_refl _) _
  have hD : DskS (w.alloc (.cells #[.slice none 0 0, .int .i64 0, .slice none 0 0, .int .i64 0, .int .i64 1, .int .i64 (-1), .int .i64 0, .int .i64 0, .int .i64 0] 97)) w.heap.size w.heap.size (.slice none 0 0) (.slice none 0 0) sgN := dsk_new w
  have HF : Hid (Calls Tryd.prog 25 #[.pointer (some ⟨w.heap.size, 0, none⟩), .slice none 0 0] (w.alloc (.cells #[.slice none 0 0, .int .i64 0, .slice none 0 0, .int .i64 0, .int .i64 1, .int .i64 (-1), .int .i64 0, .int .i64 0, .int .i64 0] 97)) fun e w' => ∃ u0 u1, e = .returned .nilIface ∧ DskS w' w.heap.size w.heap.size u0 u1 sgB ∧ Below w.heap.size w w') := by
    refine (lFormat (bs := []) (po := none) (m := 0) (k := 0) hD ⟨rfl, fun j hj => by omega⟩ (fun _ _ h => by omega) (fun _ => rfl) (by omega) (hH.under' b1) (fun h => by
      rcases h with h | h | h
      · omega
      · cases h
      · cases h)).mono ?_
    rintro e w' ⟨ev, u0, u1, he, hd, hst, hr⟩
    rw [run_new] at hd hr
    rcases hr with ⟨_, rfl⟩ | ⟨h0, _⟩
    · refine ⟨u0, u1, he, hd, b1.trans (hst.off.below (B := w.heap.size) (by simp) (fun k hk => ?_))⟩
      exact (hD.foot_lt hk).1
    · exact absurd rfl h0
  have HO : Hid (∀ y u0 u1, DskS y w.heap.size w.heap.size u0 u1 sgB → Below w.heap.size w y → Calls Tryd.prog 14 #[.pointer (some ⟨w.heap.size, 0, none⟩)] y (OpenQ y w.heap.size w.heap.size u0 u1 sgB 1 [])) := fun y u0 u1 hd hb => by
    have hl : sgB.x1.length = 30 := len_new
    exact lOpen_1 hd hb.size rfl ⟨by simp [sgB], by rw [hl]; exact Nat.le_refl _, by simp [sgB], by rw [hl]; omega⟩ rng_new (hH.under' hb) hdR rfl ps_new (by omega) (by omega) (by rw [hl]; rfl) (by rw [hl]; rfl)
  clear hD b1 hg
  go_enter Tryd.func8, Tryd.ntmps8
  go_wp2_with fail
  refine (New_any _).mono ?_
  rintro e w1 ⟨rfl, hw1⟩
  rw [hw1]
  clear hw1
  go_wp2_with fail
  refine HF.out.mono ?_
  rintro e w2 ⟨u0, u1, rfl, hd2, hb2⟩
  have HD2 : Hid (DskS w2 w.heap.size w.heap.size u0 u1 sgB ∧ Below w.heap.size w w2) := ⟨hd2, hb2⟩
  clear hd2 hb2 HF
  go_wp2_with fail
  refine (HO.out _ _ _ HD2.out.1 HD2.out.2).mono ?_
  rintro e w3 ⟨L, a, n, k, rfl, hl, hrow, hb, hLs⟩
  obtain ⟨hn0, _⟩ := hrow.byts'
  have hn0' : n = 0 := hn0
  subst hn0'
  have HL : Hid (Lg w3 w.heap.size w.heap.size L u0 u1 sgB false 1 1 0 0 30 ∧ Below w2.heap.size w2 w3) := ⟨hl, hb⟩
  clear hl hrow hb hn0 HO
  go_wp2_with fail
  have hLl : L < w3.heap.size := HL.out.1.lt
  have bA : Below w3.heap.size w3 ((w3.alloc (.cells #[.int .u64 1, .slice a 0 k, .slice none 0 0, .int .i64 0] 44)).alloc (.cells #[.pointer (some ⟨w.heap.size, 0, none⟩), .pointer (some ⟨L, 0, none⟩), .slice none 0 0, .int .i64 0] 34)) := ((Below.refl _ _).alloc (Nat.le_refl _) _).alloc (by simp) _
  go_ret2
  refine ⟨w3.heap.size + 1, w.heap.size, L, u0, u1, rfl, HL.out.1.below bA, below_then HD2.out.2 (below_then HL.out.2 bA), fun q => two_snd _ _ _ _ _ _, fun q => ?_, fun g => ?_, by omega, ?_, by simp⟩
  · have := World.frozen?_alloc_new (w3.alloc (.cells #[.int .u64 1, .slice a 0 k, .slice none 0 0, .int .i64 0] 44)) #[.pointer (some ⟨w.heap.size, 0, none⟩), .pointer (some ⟨L, 0, none⟩), .slice none 0 0, .int .i64 0] 34 q
    rw [World.size_alloc] at this
    exact this
  · have := (HL.out.1.d.foot_lt g).2; omega
  · have h1 := HD2.out.2.size; have h2 := HL.out.2.size; omega
end Go.Proofs.YtfkcnnjkflomkaaDoor

/-
  A log of generation 1 with records that wait; which of them a crash leaves; of no program but for the log's bytes.
-/
namespace Go.Proofs.YtfkcnnjkflomkaaDoor
open Go.RowKit Go.BigFrame

theorem recsB_snoc (rs : List (List Int)) (d : List Int) : recsB (rs ++ [d]) = recsB rs ++ recB d := by simp [recsB]
theorem recsB_app (rs qs : List (List Int)) : recsB (rs ++ qs) = recsB rs ++ recsB qs := by simp [recsB]
/-- The disk of a log with these records, none of them synced. -/
def sgC (rs : List (List Int)) (na ns nc : Int) : Sg := ⟨[], headB 1 ++ (recB [] ++ recsB rs), 0, 30, false, -1, na, ns, nc⟩
theorem sgC_new : sgC [] 1 1 2 = sgB := by simp [sgC, sgB, recsB]
theorem sgC_len (rs : List (List Int)) (na ns nc : Int) : (sgC rs na ns nc).x1.length = 30 + sizes rs := by
  show (headB 1 ++ (recB [] ++ recsB rs)).length = _
  rw [List.length_append, List.length_append, headB_len, recB_len, recsB_len, List.length_nil]
  omega
theorem sgC_app {rs : List (List Int)} {d : List Int} {na ns nc : Int} (h : sizes rs + (d.length + 13) ≤ 8388608) : appC (sgC rs na ns nc) 1 (d.length + 13) = 0 ∧ ∃ na', appS (sgC rs na ns nc) 1 (recB d) = sgC (rs ++ [d]) na' ns nc := by
  have hl := sgC_len rs na ns nc
  have hg : (sgC rs na ns nc).goes = true := rfl
  refine ⟨?_, ?_⟩
  · unfold appC
    simp only [if_neg (show ¬ (1 : Int) = 0 by decide), if_true, hg, if_neg (show ¬ 16777216 < (sgC rs na ns nc).x1.length + (d.length + 13) by omega)]
  · refine ⟨oneMore na, ?_⟩
    unfold appS
    simp only [if_neg (show ¬ (1 : Int) = 0 by decide), if_true, hg, if_neg (show ¬ 16777216 < (sgC rs na ns nc).x1.length + (recB d).length by rw [recB_len]; omega)]
    simp [sgC, Sg.wr, leftOn, recsB_snoc, List.append_assoc]
/-- How many of the records a crash leaves that keeps so many bytes. -/
structure CutP (keep : Int) (rs : List (List Int)) (n : Nat) (left : Int) (full : Bool) : Prop where
  l0 : 0 ≤ left
  nl : n ≤ rs.length
  eq : (sizes (rs.take n) : Int) + left = keep
  ft : full = true → n = rs.length
  ff : full = false → ∃ r, rs[n]? = some r ∧ left < (r.length : Int) + 13
theorem sizes_app (rs qs : List (List Int)) : sizes (rs ++ qs) = sizes rs + sizes qs := by simp [sizes]
theorem CutP.start {keep : Int} (h : 0 ≤ keep) : CutP keep [] 0 keep true := ⟨h, Nat.le_refl _, by simp [sizes], fun _ => rfl, fun h => by cases h⟩
theorem CutP.goes {keep left : Int} {rs : List (List Int)} {n : Nat} {d : List Int} (h : CutP keep rs n left true) (hd : (d.length : Int) + 13 ≤ left) : CutP keep (rs ++ [d]) (n + 1) (left - ((d.length : Int) + 13)) true := by
  have hn := h.ft rfl
  have he := h.eq
  rw [hn, List.take_length] at he
  refine ⟨by omega, by simp; omega, ?_, fun _ => by simp [hn], fun h => by cases h⟩
  rw [hn, List.take_of_length_le (by simp), sizes_snoc]
  omega
theorem CutP.stops {keep left : Int} {rs : List (List Int)} {n : Nat} {d : List Int} (h : CutP keep rs n left true) (hd : left < (d.length : Int) + 13) : CutP keep (rs ++ [d]) n left false := by
  have hn := h.ft rfl
  refine ⟨h.l0, by simp; omega, ?_, (fun h => by cases h), fun _ => ⟨d, by rw [hn]; simp, hd⟩⟩
  rw [List.take_append_of_le_length h.nl]
  exact h.eq
theorem CutP.stays {keep left : Int} {rs : List (List Int)} {n : Nat} {d : List Int} (h : CutP keep rs n left false) : CutP keep (rs ++ [d]) n left false := by
  obtain ⟨r, hr, hl⟩ := h.ff rfl
  have hlt : n < rs.length := (List.getElem?_eq_some_iff.1 hr).1
  refine ⟨h.l0, by simp; omega, ?_, (fun h => by cases h), fun _ => ⟨r, by rw [List.getElem?_append_left hlt]; exact hr, hl⟩⟩
  rw [List.take_append_of_le_length h.nl]
  exact h.eq
/-- The bytes that a crash leaves of the log's area. -/
def cutB (rs : List (List Int)) (k z : Nat) : List Int := headB 1 ++ (recB [] ++ ((recsB rs).take k ++ List.replicate z 0))
theorem rc_nil : rcS [] 1 20000 = none := rfl
theorem cut_ps {keep left : Int} {rs : List (List Int)} {n k z : Nat} {full : Bool} (h : CutP keep rs n left full) (hrs : ∀ r ∈ rs, 1 ≤ r.length ∧ r.length ≤ 20000) (hk : (k : Int) = min keep (sizes rs)) (hz : k + z ≤ sizes rs) :
    psS (cutB rs k z) 1 = some (1, [], rs.take n) ∧ (cutB rs k z).length = 30 + k + z ∧ 30 + sizes (rs.take n) ≤ (cutB rs k z).length ∧ ((cutB rs k z).length : Int) - ((30 + sizes (rs.take n) : Nat) : Int) = (if full then 0 else left + z) := by
  have hlen : (cutB rs k z).length = 30 + k + z := by
    unfold cutB
    rw [List.length_append, List.length_append, List.length_append, headB_len, recB_len, List.length_take, recsB_len, List.length_replicate, List.length_nil]
    omega
  have h0 := h.l0
  have he := h.eq
  have hg : ((1 : Nat) : Int) % 2 = 1 := rfl
  have key : ∀ R, (recsB rs).take k ++ List.replicate z (0 : Int) = recsB (rs.take n) ++ R → rcS R 1 20000 = none → psS (cutB rs k z) 1 = some (1, [], rs.take n) := fun R hR hn => by
    unfold cutB
    rw [hR]
    exact ps_recs (g := 1) (sn := []) (by omega) (by omega) (by simp) hg (fun r hr => hrs r (List.mem_of_mem_take hr)) hn
  cases full with
  | true =>
    have hn := h.ft rfl
    rw [hn, List.take_length] at he
    have hks : k = sizes rs := by omega
    have hz0 : z = 0 := by omega
    subst hz0
    refine ⟨key [] ?_ rc_nil, hlen, ?_, ?_⟩
    · rw [hn, List.take_length, hks, List.take_of_length_le (by rw [recsB_len]; exact Nat.le_refl _)]
      rfl
    · rw [hlen, hn, List.take_length]; omega
    · rw [hlen, hn, List.take_length]; simp; omega
  | false =>
    obtain ⟨r, hr, hl⟩ := h.ff rfl
    obtain ⟨hlt, hre⟩ := List.getElem?_eq_some_iff.1 hr
    have hsplit : rs = rs.take n ++ (r :: rs.drop (n + 1)) := by
      rw [← hre, ← List.drop_eq_getElem_cons hlt, List.take_append_drop]
    have hsz : sizes rs = sizes (rs.take n) + ((r.length + 13) + sizes (rs.drop (n + 1))) := by
      have e1 : sizes (r :: rs.drop (n + 1)) = (r.length + 13) + sizes (rs.drop (n + 1)) := by simp [sizes]
      rw [← e1, ← sizes_app, ← hsplit]
    have hkl : k = sizes (rs.take n) + left.toNat := by omega
    refine ⟨key ((recB r).take left.toNat ++ List.replicate z 0) ?_ (rc_torn (hrs r (List.mem_of_getElem? hr)).1 (hrs r (List.mem_of_getElem? hr)).2 (by rw [recB_len]; omega)), hlen, ?_, ?_⟩
    · have e2 : recsB rs = recsB (rs.take n) ++ (recB r ++ recsB (rs.drop (n + 1))) := by
        have e3 : recsB (r :: rs.drop (n + 1)) = recB r ++ recsB (rs.drop (n + 1)) := by simp [recsB]
        rw [← e3, ← recsB_app, ← hsplit]
      have e4 : (recsB rs).take k = recsB (rs.take n) ++ (recB r).take left.toNat := by
        rw [e2, hkl, ← recsB_len (rs.take n), List.take_length_add_append, List.take_append_of_le_length (by rw [recB_len]; omega)]
      rw [e4, List.append_assoc]
    · rw [hlen]; omega
    · rw [hlen]; simp; omega
theorem cutB_rng {rs : List (List Int)} {k z : Nat} (h : ∀ r ∈ rs, Rng r) : Rng (cutB rs k z) := by
  unfold cutB
  refine rng_app (hdR 1 (by omega) (by omega)) (rng_app (rng_rec (fun z hz => by cases hz)) (rng_app ?_ ?_))
  · intro q hq
    have := List.mem_of_mem_take hq
    unfold recsB at this
    obtain ⟨l, hl, hql⟩ := List.mem_flatten.1 this
    obtain ⟨r, hr, rfl⟩ := List.mem_map.1 hl
    exact rng_rec (h r hr) q hql
  · intro q hq
    have := List.eq_of_mem_replicate hq
    omega
/-- The disk behind the crash. -/
theorem crash_sg {rs : List (List Int)} {na ns nc : Int} {k z : Nat} (hk : k ≤ sizes rs) (hz : k + z ≤ sizes rs) : crS (sgC rs na ns nc) k z k z = ⟨[], cutB rs k z, 0, (cutB rs k z).length, false, -1, na, ns, nc⟩ := by
  have hl := sgC_len rs na ns nc
  have e1 : (betw (k : Int) (((sgC rs na ns nc).x1.length - (sgC rs na ns nc).s1 : Nat) : Int)).toNat = k := by
    rw [hl]; show (betw (k : Int) ((30 + sizes rs - 30 : Nat) : Int)).toNat = k
    unfold betw; omega
  have e2 : (betw (z : Int) (((sgC rs na ns nc).x1.length - (sgC rs na ns nc).s1 - k : Nat) : Int)).toNat = z := by
    rw [hl]; show (betw (z : Int) ((30 + sizes rs - 30 - k : Nat) : Int)).toNat = z
    unfold betw; omega
  have e3 : (betw (k : Int) (((sgC rs na ns nc).x0.length - (sgC rs na ns nc).s0 : Nat) : Int)).toNat = 0 := by
    show (betw (k : Int) ((0 - 0 : Nat) : Int)).toNat = 0
    unfold betw; omega
  have e4 : (betw (z : Int) (((sgC rs na ns nc).x0.length - (sgC rs na ns nc).s0 - 0 : Nat) : Int)).toNat = 0 := by
    show (betw (z : Int) ((0 - 0 - 0 : Nat) : Int)).toNat = 0
    unfold betw; omega
  have e5 : torn (sgC rs na ns nc).x1 (sgC rs na ns nc).s1 k z = cutB rs k z := by
    show (headB 1 ++ (recB [] ++ recsB rs)).take (30 + k) ++ List.replicate z 0 = _
    unfold cutB
    rw [show 30 + k = (headB 1).length + ((recB []).length + k) by rw [headB_len, recB_len]; simp; omega, List.take_length_add_append, List.take_length_add_append, List.append_assoc, List.append_assoc]
  unfold crS
  simp only [e1, e2, e3, e4, e5]
  rfl
end Go.Proofs.YtfkcnnjkflomkaaDoor

/-
  A generation of which bytes are missing at the end is none.
-/
namespace Go.Proofs.YtfkcnnjkflomkaaDoor
open Go.RowKit Go.BigFrame

theorem rc_low0 {R : List Int} {le mo : Nat} (h : valN (R.take 4) < le) : rcS R le mo = none := by
  unfold rcS
  split
  · rfl
  · rw [if_pos (Or.inl h)]
theorem rc_turned0 {R : List Int} {le mo : Nat} (h : (valN ((R.drop 4).take 4) : Int) ≠ bits .xor .u64 (valN (R.take 4)) 4294967295) : rcS R le mo = none := by
  unfold rcS
  split
  · rfl
  · rw [if_pos (Or.inr (Or.inr h))]
theorem rc_end0 {R : List Int} {le mo : Nat} (h : R.getD (12 + valN (R.take 4)) 0 ≠ 165) : rcS R le mo = none := by
  unfold rcS
  split
  · rfl
  · split
    · rfl
    · rw [if_pos (Or.inl h)]
/-- A snapshot's record, torn. -/
theorem rc_torn0 {r : List Int} {p z le mo : Nat} (h2 : r.length ≤ 2097152) (hp : p < (recB r).length) : rcS ((recB r).take p ++ List.replicate z 0) le mo = none := by
  have hl : (recB r).length = r.length + 13 := recB_len r
  have lt : ((recB r).take p).length = p := by rw [List.length_take]; omega
  by_cases h13 : ((recB r).take p ++ List.replicate z (0 : Int)).length < 13
  · exact rc_short h13
  rw [List.length_append, lt, List.length_replicate] at h13
  by_cases hp4 : 4 ≤ p
  · have e1 : ((recB r).take p ++ List.replicate z (0 : Int)).take 4 = be4 r.length := by
      rw [List.take_append_of_le_length (by omega), List.take_take, Nat.min_eq_left hp4]
      unfold recB
      exact List.take_left' rfl
    have v1 : valN (be4 (r.length : Int)) = r.length := by have := val4 (x := (r.length : Int)) (by omega) (by omega); omega
    refine rc_end0 ?_
    rw [e1, v1]
    have : ((recB r).take p ++ List.replicate z (0 : Int)).getD (12 + r.length) 0 = 0 := by
      rw [List.getD_eq_getElem?_getD, List.getElem?_append_right (by omega), List.getElem?_replicate]
      split <;> rfl
    rw [this]
    decide
  · obtain ⟨z', hz'⟩ : ∃ z', z = z' + (13 - p) := ⟨z - (13 - p), by omega⟩
    obtain ⟨b0, hb0⟩ : ∃ b : Int, (r.length : Int) / 16777216 % 256 = b := ⟨_, rfl⟩
    obtain ⟨b1, hb1⟩ : ∃ b : Int, (r.length : Int) / 65536 % 256 = b := ⟨_, rfl⟩
    obtain ⟨b2, hb2⟩ : ∃ b : Int, (r.length : Int) / 256 % 256 = b := ⟨_, rfl⟩
    obtain ⟨b3, hb3⟩ : ∃ b : Int, (r.length : Int) % 256 = b := ⟨_, rfl⟩
    obtain ⟨tl, htl⟩ : ∃ l, be4 (bits BinOp.xor IntKind.u64 r.length 4294967295) ++ (be4 (sumI r) ++ (r ++ [165])) = l := ⟨_, rfl⟩
    have er : recB r = b0 :: b1 :: b2 :: b3 :: tl := by
      rw [← htl]
      show be4 _ ++ _ = _
      unfold be4
      rw [hb0, hb1, hb2, hb3]
      rfl
    subst hz'
    rw [er]
    refine rc_turned0 ?_
    match p, hp4 with
    | 0, _ =>
      have e : List.replicate (z' + (13 - 0)) (0 : Int) = 0 :: 0 :: 0 :: 0 :: 0 :: 0 :: 0 :: 0 :: List.replicate (z' + 5) 0 := rfl
      rw [e]
      have v1 : valN ((List.take 0 (b0 :: b1 :: b2 :: b3 :: tl) ++ 0 :: 0 :: 0 :: 0 :: 0 :: 0 :: 0 :: 0 :: List.replicate (z' + 5) 0).take 4) = 0 := by simp [valN]
      have v2 : valN (((List.take 0 (b0 :: b1 :: b2 :: b3 :: tl) ++ 0 :: 0 :: 0 :: 0 :: 0 :: 0 :: 0 :: 0 :: List.replicate (z' + 5) 0).drop 4).take 4) = 0 := by simp [valN]
      rw [v1, v2]
      exact fun h => xor_ne (by omega) h.symm
    | 1, _ =>
      have e : List.replicate (z' + (13 - 1)) (0 : Int) = 0 :: 0 :: 0 :: 0 :: 0 :: 0 :: 0 :: List.replicate (z' + 5) 0 := rfl
      rw [e]
      have v1 : valN ((List.take 1 (b0 :: b1 :: b2 :: b3 :: tl) ++ 0 :: 0 :: 0 :: 0 :: 0 :: 0 :: 0 :: List.replicate (z' + 5) 0).take 4) = b0.toNat * 256 * 256 * 256 := by simp [valN]
      have v2 : valN (((List.take 1 (b0 :: b1 :: b2 :: b3 :: tl) ++ 0 :: 0 :: 0 :: 0 :: 0 :: 0 :: 0 :: List.replicate (z' + 5) 0).drop 4).take 4) = 0 := by simp [valN]
      rw [v1, v2]
      exact fun h => xor_ne (by omega) h.symm
    | 2, _ =>
      have e : List.replicate (z' + (13 - 2)) (0 : Int) = 0 :: 0 :: 0 :: 0 :: 0 :: 0 :: List.replicate (z' + 5) 0 := rfl
      rw [e]
      have v1 : valN ((List.take 2 (b0 :: b1 :: b2 :: b3 :: tl) ++ 0 :: 0 :: 0 :: 0 :: 0 :: 0 :: List.replicate (z' + 5) 0).take 4) = (b0.toNat * 256 + b1.toNat) * 256 * 256 := by simp [valN]
      have v2 : valN (((List.take 2 (b0 :: b1 :: b2 :: b3 :: tl) ++ 0 :: 0 :: 0 :: 0 :: 0 :: 0 :: List.replicate (z' + 5) 0).drop 4).take 4) = 0 := by simp [valN]
      rw [v1, v2]
      exact fun h => xor_ne (by omega) h.symm
    | 3, _ =>
      have e : List.replicate (z' + (13 - 3)) (0 : Int) = 0 :: 0 :: 0 :: 0 :: 0 :: List.replicate (z' + 5) 0 := rfl
      rw [e]
      have v1 : valN ((List.take 3 (b0 :: b1 :: b2 :: b3 :: tl) ++ 0 :: 0 :: 0 :: 0 :: 0 :: List.replicate (z' + 5) 0).take 4) = ((b0.toNat * 256 + b1.toNat) * 256 + b2.toNat) * 256 := by simp [valN]
      have v2 : valN (((List.take 3 (b0 :: b1 :: b2 :: b3 :: tl) ++ 0 :: 0 :: 0 :: 0 :: 0 :: List.replicate (z' + 5) 0).drop 4).take 4) = 0 := by simp [valN]
      rw [v1, v2]
      exact fun h => xor_ne (by omega) h.symm
    | p + 4, h => omega
theorem head_end (x : Int) : (headB x).getD 16 0 = 165 := rfl
/-- A head, torn. -/
theorem hd_torn {g : Int} {p z : Nat} (hp : p < 17) : hdS ((headB g).take p ++ List.replicate z 0) = none := by
  have lt : ((headB g).take p).length = p := by rw [List.length_take, headB_len]; omega
  unfold hdS
  split
  · rfl
  · rename_i h17
    rw [List.length_append, lt, List.length_replicate] at h17
    have hne : ∀ x : Int, ((headB g).take p ++ List.replicate z (0 : Int)).take 17 ≠ headB x := fun x h => by
      have h1 := congrArg (fun l => l.getD 16 0) h
      simp only [head_end] at h1
      rw [List.getD_eq_getElem?_getD, List.getElem?_take_of_lt (by omega), List.getElem?_append_right (by omega), List.getElem?_replicate] at h1
      split at h1 <;> simp at h1
    rw [if_pos (by first | exact Or.inr (Or.inr (hne _)) | exact Or.inr (hne _) | exact Or.inl (hne _))]
/-- A generation, torn. -/
theorem ps_torn {g : Nat} {sn : List Int} {p z : Nat} {ar : Int} (h0 : 1 ≤ g) (h1 : g ≤ 4611686018427387904) (h2 : sn.length ≤ 2097152) (hp : p < 30 + sn.length) : psS ((headB g ++ recB sn).take p ++ List.replicate z 0) ar = none := by
  by_cases h17 : p < 17
  · have e : (headB (g : Int) ++ recB sn).take p = (headB (g : Int)).take p := List.take_append_of_le_length (by rw [headB_len]; omega)
    unfold psS
    rw [e, hd_torn h17]
  · obtain ⟨q, rfl⟩ : ∃ q, p = 17 + q := ⟨p - 17, by omega⟩
    have e : (headB (g : Int) ++ recB sn).take (17 + q) = headB (g : Int) ++ (recB sn).take q := by
      have := List.take_length_add_append (l₁ := headB (g : Int)) (l₂ := recB sn) (i := q)
      rw [headB_len] at this
      exact this
    rw [e, List.append_assoc]
    unfold psS
    rw [hd_head h0 h1]
    simp only
    split
    · rfl
    · rw [List.drop_left' (headB_len _), rc_torn0 h2 (by rw [recB_len]; omega)]
end Go.Proofs.YtfkcnnjkflomkaaDoor

/-
  What a Compact that is stopped at a write leaves of the disk, and a crash of that; of no program.
-/
namespace Go.Proofs.YtfkcnnjkflomkaaDoor
open Go.RowKit Go.BigFrame

/-- The log's area: these records. -/
def oldB (rs : List (List Int)) : List Int := headB 1 ++ (recB [] ++ recsB rs)
/-- The next generation's bytes. -/
def newB (sn : List Int) : List Int := headB 2 ++ recB sn
theorem oldB_len (rs : List (List Int)) : (oldB rs).length = 30 + sizes rs := by
  unfold oldB
  rw [List.length_append, List.length_append, headB_len, recB_len, recsB_len, List.length_nil]
  omega
theorem newB_len (sn : List Int) : (newB sn).length = 30 + sn.length := head_rec_len
/-- The disk of a log with these records, so many bytes of it synced. -/
def sgF (rs : List (List Int)) (s : Nat) (fu na ns nc : Int) : Sg := ⟨[], oldB rs, 0, s, false, fu, na, ns, nc⟩
theorem fol_two (sn : List Int) : folOps (1 + 1) 1 sn = [.cut 0 0, .app 0 (newB sn), .syn 0, .cut 1 0] := rfl
section
variable {rs : List (List Int)} {sn : List Int} {s : Nat} {n na ns nc : Int}
/-- All writes are done. -/
theorem fol_done {x0 x1 : List Int} {s0 s1 : Nat} {f4 f3 f2 f1 f0 : Int} (hs : (newB sn).length ≤ 16777216) (g4 : goesOn false f4 = true) (g3 : goesOn false f3 = true) (g2 : goesOn false f2 = true) (g1 : goesOn false f1 = true) (l4 : leftOn f4 = f3) (l3 : leftOn f3 = f2) (l2 : leftOn f2 = f1) (l1 : leftOn f1 = f0) :
    ∃ na' ns' nc', runS ⟨x0, x1, s0, s1, false, f4, na, ns, nc⟩ (folOps (1 + 1) 1 sn) = (⟨newB sn, [], (newB sn).length, 0, false, f0, na', ns', nc'⟩, 0) := by
  rw [fol_two]
  have hg : ¬ 16777216 < (newB sn).length := by omega
  have n0 : ¬ ((x0.length : Int) < 0) := by omega
  have n1 : ¬ ((x1.length : Int) < 0) := by omega
  simp [runS, opC, opS, cutC, cutS, appC, appS, synC, synS, Sg.goes, Sg.wr, g4, g3, g2, g1, l4, l3, l2, l1, hg, n0, n1]
/-- The first write is refused. -/
theorem fol_0 {x0 x1 : List Int} {s0 s1 : Nat} : runS ⟨x0, x1, s0, s1, false, 0, na, ns, nc⟩ (folOps (1 + 1) 1 sn) = (⟨x0, x1, s0, s1, true, 0, na, ns, nc⟩, 8) := by
  rw [fol_two]
  have n0 : ¬ ((x0.length : Int) < 0) := by omega
  simp [runS, opC, opS, cutC, cutS, Sg.goes, goesOn, Sg.kill, n0]
theorem fol_1 {x1 : List Int} {s1 : Nat} (hs : (newB sn).length ≤ 16777216) : ∃ na' ns' nc', runS ⟨[], x1, 0, s1, false, 1, na, ns, nc⟩ (folOps (1 + 1) 1 sn) = (⟨[], x1, 0, s1, true, 0, na', ns', nc'⟩, 8) := by
  rw [fol_two]
  have hg : ¬ 16777216 < (newB sn).length := by omega
  simp [runS, opC, opS, cutC, cutS, appC, appS, Sg.goes, goesOn, Sg.wr, Sg.kill, leftOn, hg]
theorem fol_2 {x1 : List Int} {s1 : Nat} (hs : (newB sn).length ≤ 16777216) : ∃ na' ns' nc', runS ⟨[], x1, 0, s1, false, 2, na, ns, nc⟩ (folOps (1 + 1) 1 sn) = (⟨newB sn, x1, 0, s1, true, 0, na', ns', nc'⟩, 8) := by
  rw [fol_two]
  have hg : ¬ 16777216 < (newB sn).length := by omega
  simp [runS, opC, opS, cutC, cutS, appC, appS, synC, synS, Sg.goes, goesOn, Sg.wr, Sg.kill, leftOn, hg]
theorem fol_3 {x1 : List Int} {s1 : Nat} (hs : (newB sn).length ≤ 16777216) : ∃ na' ns' nc', runS ⟨[], x1, 0, s1, false, 3, na, ns, nc⟩ (folOps (1 + 1) 1 sn) = (⟨newB sn, x1, (newB sn).length, s1, true, 0, na', ns', nc'⟩, 8) := by
  rw [fol_two]
  have hg : ¬ 16777216 < (newB sn).length := by omega
  have n1 : ¬ ((x1.length : Int) < 0) := by omega
  simp [runS, opC, opS, cutC, cutS, appC, appS, synC, synS, Sg.goes, goesOn, Sg.wr, Sg.kill, leftOn, hg, n1]
/-- What the four writes leave, whatever the fuse. -/
theorem run_four (hs : (newB sn).length ≤ 16777216) {f : Int} (hf : -1 ≤ f) :
    ∃ x0 x1 s0 s1 dd fu na' ns' nc' c, runS ⟨[], oldB rs, 0, (oldB rs).length, false, f, na, ns, nc⟩ (folOps (1 + 1) 1 sn) = (⟨x0, x1, s0, s1, dd, fu, na', ns', nc'⟩, c) ∧ ((f = -1 ∨ 4 ≤ f) ∧ c = 0 ∧ dd = false ∧ x0 = newB sn ∧ x1 = [] ∧ s0 = (newB sn).length ∧ s1 = 0 ∨ (0 ≤ f ∧ f < 4) ∧ c = 8 ∧ dd = true ∧ x1 = oldB rs ∧ s1 = (oldB rs).length ∧ (f < 2 ∧ x0 = [] ∧ s0 = 0 ∨ f = 2 ∧ x0 = newB sn ∧ s0 = 0 ∨ f = 3 ∧ x0 = newB sn ∧ s0 = (newB sn).length)) := by
  by_cases h0 : f = -1
  · subst h0
    obtain ⟨a, b, c, e⟩ := fol_done (sn := sn) (x0 := []) (x1 := oldB rs) (s0 := 0) (s1 := (oldB rs).length) (f4 := -1) (f3 := -1) (f2 := -1) (f1 := -1) (f0 := -1) (na := na) (ns := ns) (nc := nc) hs rfl rfl rfl rfl rfl rfl rfl rfl
    exact ⟨_, _, _, _, _, _, a, b, c, _, e, Or.inl ⟨Or.inl rfl, rfl, rfl, rfl, rfl, rfl, rfl⟩⟩
  by_cases h4 : 4 ≤ f
  · have gg : ∀ z : Int, 0 < z → goesOn false z = true := fun z hz => by unfold goesOn; simp; omega
    have ll : ∀ z : Int, 0 < z → leftOn z = z - 1 := fun z hz => by unfold leftOn; rw [if_pos hz]
    obtain ⟨a, b, c, e⟩ := fol_done (sn := sn) (x0 := []) (x1 := oldB rs) (s0 := 0) (s1 := (oldB rs).length) (f4 := f) (f3 := f - 1) (f2 := f - 1 - 1) (f1 := f - 1 - 1 - 1) (f0 := f - 1 - 1 - 1 - 1) (na := na) (ns := ns) (nc := nc) hs (gg _ (by omega)) (gg _ (by omega)) (gg _ (by omega)) (gg _ (by omega)) (ll _ (by omega)) (ll _ (by omega)) (ll _ (by omega)) (ll _ (by omega))
    exact ⟨_, _, _, _, _, _, a, b, c, _, e, Or.inl ⟨Or.inr h4, rfl, rfl, rfl, rfl, rfl, rfl⟩⟩
  rcases (show f = 0 ∨ f = 1 ∨ f = 2 ∨ f = 3 by omega) with rfl | rfl | rfl | rfl
  · exact ⟨_, _, _, _, _, _, _, _, _, _, fol_0, Or.inr ⟨⟨by omega, by omega⟩, rfl, rfl, rfl, rfl, Or.inl ⟨by omega, rfl, rfl⟩⟩⟩
  · obtain ⟨a, b, c, e⟩ := fol_1 (sn := sn) (x1 := oldB rs) (s1 := (oldB rs).length) (na := na) (ns := ns) (nc := nc) hs
    exact ⟨_, _, _, _, _, _, a, b, c, _, e, Or.inr ⟨⟨by omega, by omega⟩, rfl, rfl, rfl, rfl, Or.inl ⟨by omega, rfl, rfl⟩⟩⟩
  · obtain ⟨a, b, c, e⟩ := fol_2 (sn := sn) (x1 := oldB rs) (s1 := (oldB rs).length) (na := na) (ns := ns) (nc := nc) hs
    exact ⟨_, _, _, _, _, _, a, b, c, _, e, Or.inr ⟨⟨by omega, by omega⟩, rfl, rfl, rfl, rfl, Or.inr (Or.inl ⟨rfl, rfl, rfl⟩)⟩⟩
  · obtain ⟨a, b, c, e⟩ := fol_3 (sn := sn) (x1 := oldB rs) (s1 := (oldB rs).length) (na := na) (ns := ns) (nc := nc) hs
    exact ⟨_, _, _, _, _, _, a, b, c, _, e, Or.inr ⟨⟨by omega, by omega⟩, rfl, rfl, rfl, rfl, Or.inr (Or.inr ⟨rfl, rfl, rfl⟩)⟩⟩
/-- A sync in front. -/
theorem run_front {f : Int} (hf : -1 ≤ f) : (f = 0 → runS (sgF rs s f na ns nc) (.syn 1 :: folOps (1 + 1) 1 sn) = (⟨[], oldB rs, 0, s, true, 0, na, ns, nc⟩, 8)) ∧ (f ≠ 0 → ∃ ns', runS (sgF rs s f na ns nc) (.syn 1 :: folOps (1 + 1) 1 sn) = runS ⟨[], oldB rs, 0, (oldB rs).length, false, leftOn f, na, ns', nc⟩ (folOps (1 + 1) 1 sn)) := by
  refine ⟨fun h => ?_, fun h => ⟨oneMore ns, ?_⟩⟩
  · subst h
    simp [runS, opC, opS, synC, synS, Sg.goes, goesOn, Sg.kill, sgF]
  · have hg : goesOn false f = true := by unfold goesOn; simp; omega
    have hc : opC (sgF rs s f na ns nc) (.syn 1) = 0 := by simp [opC, synC, Sg.goes, sgF, hg]
    rw [runS, if_pos hc]
    have : opS (sgF rs s f na ns nc) (.syn 1) = ⟨[], oldB rs, 0, (oldB rs).length, false, leftOn f, na, oneMore ns, nc⟩ := by simp [opS, synS, Sg.goes, sgF, hg, Sg.wr]
    rw [this]
end
end Go.Proofs.YtfkcnnjkflomkaaDoor

/-
  Open of what a stopped Compact and a crash leave: the old generation with all its records, or the new one.
-/
namespace Go.Proofs.YtfkcnnjkflomkaaDoor
open Go.RowKit Go.BigFrame

/-- What is left of the next generation's bytes. -/
def tornB (sn : List Int) (k z : Nat) : List Int := (newB sn).take k ++ List.replicate z 0
theorem tornB_len {sn : List Int} {k z : Nat} (h : k ≤ 30 + sn.length) : (tornB sn k z).length = k + z := by
  unfold tornB
  rw [List.length_append, List.length_take, newB_len, List.length_replicate]
  omega
theorem rng_new2 {sn : List Int} (h : Rng sn) : Rng (newB sn) := rng_app (hdR 2 (by omega) (by omega)) (rng_rec h)
theorem rng_torn {sn : List Int} {k z : Nat} (h : Rng sn) : Rng (tornB sn k z) := rng_app (fun q hq => rng_new2 h q (List.mem_of_mem_take hq)) (fun q hq => by have := List.eq_of_mem_replicate hq; omega)
theorem rng_old {rs : List (List Int)} (h : ∀ r ∈ rs, Rng r) : Rng (oldB rs) := by
  have := cutB_rng (k := sizes rs) (z := 0) h
  unfold cutB at this
  rw [List.take_of_length_le (by rw [recsB_len]; exact Nat.le_refl _)] at this
  simpa [oldB] using this
theorem ps_old {rs : List (List Int)} (h : ∀ r ∈ rs, 1 ≤ r.length ∧ r.length ≤ 20000) : psS (oldB rs) 1 = some (1, [], rs) := by
  have := ps_recs (g := 1) (sn := []) (R := []) (rs := rs) (ar := 1) (by omega) (by omega) (by simp) rfl h rc_nil
  simpa [oldB] using this
theorem ps_new2 {sn : List Int} (h : sn.length ≤ 2097152) : psS (newB sn) 0 = some (2, sn, []) := ps_gen (g := 2) (by omega) (by omega) h rfl
theorem ps_tornB {sn : List Int} {k z : Nat} {ar : Int} (h : sn.length ≤ 2097152) (hk : k < 30 + sn.length) : psS (tornB sn k z) ar = none := ps_torn (g := 2) (by omega) (by omega) h hk
/-- What is found of an area, by its bytes. -/
theorem fnd_gen {w : World} {N : Nat} {bs : List Int} {ar : Int} {sy g : Nat} {sn : List Int} {rs : List (List Int)} {f : Fnd} (h : FndOk w N bs ar sy f) (hp : psS bs ar = some (g, sn, rs)) : f.g = g ∧ f.sz = bs.length := by
  obtain ⟨e1, _, e3⟩ := h
  rcases e3 with ⟨e4, _⟩ | ⟨g', sn', rs', us', e4, e5, _⟩
  · rw [hp] at e4; cases e4
  · rw [hp] at e4
    simp only [Option.some.injEq, Prod.mk.injEq] at e4
    exact ⟨by rw [e5, e4.1], e1⟩
theorem fnd_none {w : World} {N : Nat} {bs : List Int} {ar : Int} {sy : Nat} {f : Fnd} (h : FndOk w N bs ar sy f) (hp : psS bs ar = none) : f.g = 0 ∧ f.sz = bs.length := by
  obtain ⟨e1, _, e3⟩ := h
  rcases e3 with ⟨_, e4, _⟩ | ⟨g', sn', rs', us', e4, _⟩
  · exact ⟨e4, e1⟩
  · rw [hp] at e4; cases e4
section
variable {x : World} {B K : Nat} {v0 v1 : Value} {rs : List (List Int)} {sn : List Int} {na ns nc : Int}
/-- What Open answers, the disk refusing nothing. -/
def OpenD (x : World) (B K : Nat) (v0 v1 : Value) (g : Nat) (sn : List Int) (rs : List (List Int)) (tn : Int) (e : Ending) (w' : World) : Prop :=
  ∃ u0 u1 τ wh L a n k v2 vs, DStep x w' K v0 v1 u0 u1 ∧ e = .returned (.tuple #[.pointer (some ⟨L, 0, none⟩), .agg #[.int .u64 g, .slice a n k, v2, .int .i64 tn], .nilIface]) ∧ Lg w' B K L u0 u1 τ false g ((g : Int) % 2) rs.length 0 wh ∧ Row w' x.heap.size (.slice a n k) sn ∧ VRow w' x.heap.size 28 v2 vs ∧ Pcs w' vs rs ∧ x.heap.size ≤ L
theorem open_old {k z : Nat} (h : DskS x B K v0 v1 ⟨tornB sn k z, oldB rs, (tornB sn k z).length, (oldB rs).length, false, -1, na, ns, nc⟩) (hB : B ≤ x.heap.size) (hH : Halves x) (hgd : ∀ d ∈ rs, 1 ≤ d.length ∧ d.length ≤ 20000 ∧ Rng d) (hsz : sizes rs ≤ 8388608) (hsn : sn.length ≤ 2097152) (hrg : Rng sn) (hk : k < 30 + sn.length) (hkz : k + z ≤ 30 + sn.length) :
    Calls Tryd.prog 14 #[.pointer (some ⟨K, 0, none⟩)] x fun e w' => OpenD x B K v0 v1 1 [] rs ((tornB sn k z).length : Int) e w' := by
  have p1 := ps_old (rs := rs) (fun d hd => ⟨(hgd d hd).1, (hgd d hd).2.1⟩)
  have p0 := ps_tornB (sn := sn) (k := k) (z := z) (ar := 0) hsn hk
  have l1 := oldB_len rs
  have l0 := tornB_len (sn := sn) (k := k) (z := z) (by omega)
  have hls : rs.length ≤ sizes rs := by
    unfold sizes
    clear hgd hsz h p1 l1
    induction rs with
    | nil => simp
    | cons r rs ih => simp; omega
  have key := lOpen_gen (nb := oldB rs) (na := 1) (ns := (oldB rs).length) (os_ := (tornB sn k z).length) (g := 1) (sn := []) (rs := rs) h hB rfl ⟨Nat.le_refl _, Nat.le_refl _, by show (tornB sn k z).length ≤ _; omega, by show (oldB rs).length ≤ _; omega⟩ (rng_torn hrg) (rng_old (fun d hd => (hgd d hd).2.2)) hH hdR (fun w' f0 f1 k0 k1 => by
      have e0 := fnd_none k0 p0
      have e1 := fnd_gen k1 p1
      exact ⟨f1, f0, fun y => choose_second_alone y (by rw [e0.1, e1.1]; decide) (by rw [e1.1]; decide) e0.1, k1, e0.2⟩) (by omega) (by omega) p1 (fun d hd => (hgd d hd).2.1) (by rw [l1]; simp) (by omega)
  refine key.mono ?_
  rintro e w' ⟨u0, u1, hst, hr⟩
  have hrun : (runS (⟨tornB sn k z, oldB rs, (tornB sn k z).length, (oldB rs).length, false, -1, na, ns, nc⟩ : Sg) (mendOps ⟨((1 : Nat) : Int), none, 0, 0, none, 0, 0, (oldB rs).length, (oldB rs).length, 30 + ([] : List Int).length + sizes rs⟩ ⟨0, none, 0, 0, none, 0, 0, (tornB sn k z).length, 0, 0⟩)).2 = 0 := by
    have n1 : ¬ (30 + sizes rs < (oldB rs).length) := by omega
    have n2 : ¬ ((oldB rs).length < 30 + sizes rs) := by omega
    have n3 : ¬ (((tornB sn k z).length : Int) < 0) := by omega
    unfold mendOps
    simp only [List.length_nil, Nat.add_zero, n1, n2, if_false, List.append_nil]
    split
    · simp [runS, opC, cutC, Sg.goes, goesOn, n3]
    · rfl
  rcases hr with ⟨_, L, a, nn, kk, v2, us, he, hlg, hrow, hvr, hpc, hL⟩ | ⟨hc', _⟩
  · have e1 : ((tornB sn k z).length : Int) + ((oldB rs).length : Int) - ((30 + ([] : List Int).length + sizes rs : Nat) : Int) = ((tornB sn k z).length : Int) := by rw [l1]; simp
    rw [e1] at he
    exact ⟨u0, u1, _, _, L, a, nn, kk, v2, us, hst, he, hlg, hrow, hvr, hpc, hL⟩
  · exact absurd hrun hc'
/-- The new generation, the old one's bytes still there, or gone. -/
theorem open_new {x1 : List Int} (h : DskS x B K v0 v1 ⟨newB sn, x1, (newB sn).length, x1.length, false, -1, na, ns, nc⟩) (hx : x1 = oldB rs ∨ x1 = []) (hB : B ≤ x.heap.size) (hH : Halves x) (hgd : ∀ d ∈ rs, 1 ≤ d.length ∧ d.length ≤ 20000 ∧ Rng d) (hsz : sizes rs ≤ 8388608) (hsn : sn.length ≤ 2097152) (hrg : Rng sn) :
    Calls Tryd.prog 14 #[.pointer (some ⟨K, 0, none⟩)] x fun e w' => OpenD x B K v0 v1 2 sn [] (x1.length : Int) e w' := by
  have p0 := ps_new2 (sn := sn) hsn
  have l0 := newB_len sn
  have l1 : x1.length ≤ 8388638 := by
    rcases hx with rfl | rfl
    · rw [oldB_len]; omega
    · simp
  have r1 : Rng x1 := by
    rcases hx with rfl | rfl
    · exact rng_old (fun d hd => (hgd d hd).2.2)
    · exact fun q hq => by cases hq
  have key := lOpen_gen (nb := newB sn) (na := 0) (ns := (newB sn).length) (os_ := x1.length) (g := 2) (sn := sn) (rs := []) h hB rfl ⟨Nat.le_refl _, Nat.le_refl _, by show (newB sn).length ≤ _; omega, by show x1.length ≤ _; omega⟩ (rng_new2 hrg) r1 hH hdR (fun w' f0 f1 k0 k1 => by
      have e0 := fnd_gen k0 p0
      rcases hx with rfl | rfl
      · have e1 := fnd_gen k1 (ps_old (rs := rs) (fun d hd => ⟨(hgd d hd).1, (hgd d hd).2.1⟩))
        exact ⟨f0, f1, fun y => choose_first y (by rw [e0.1, e1.1]; decide) (by rw [e0.1]; decide) ⟨by rw [e1.1]; decide, by rw [e0.1, e1.1]; decide⟩, k0, e1.2⟩
      · have e1 := fnd_none k1 (show psS [] 1 = none from rfl)
        exact ⟨f0, f1, fun y => choose_first_alone y (by rw [e0.1, e1.1]; decide) (by rw [e0.1]; decide) e1.1, k0, e1.2⟩) (by omega) (by omega) p0 (fun d hd => by cases hd) (by rw [l0]; simp [sizes]) (by simp)
  refine key.mono ?_
  rintro e w' ⟨u0, u1, hst, hr⟩
  have hrun : (runS (⟨newB sn, x1, (newB sn).length, x1.length, false, -1, na, ns, nc⟩ : Sg) (mendOps ⟨((2 : Nat) : Int), none, 0, 0, none, 0, 0, (newB sn).length, (newB sn).length, 30 + sn.length + sizes []⟩ ⟨0, none, 0, 0, none, 0, 0, x1.length, 0, 0⟩)).2 = 0 := by
    have n0 : sizes [] = 0 := rfl
    have n1 : ¬ (30 + sn.length < (newB sn).length) := by omega
    have n2 : ¬ ((newB sn).length < 30 + sn.length) := by omega
    have n3 : ¬ ((x1.length : Int) < 0) := by omega
    unfold mendOps
    simp only [n0, Nat.add_zero, n1, n2, if_false, List.append_nil]
    split
    · simp [runS, opC, cutC, Sg.goes, goesOn, n3]
    · rfl
  rcases hr with ⟨_, L, a, nn, kk, v2, us, he, hlg, hrow, hvr, hpc, hL⟩ | ⟨hc', _⟩
  · have e1 : (x1.length : Int) + ((newB sn).length : Int) - ((30 + sn.length + sizes [] : Nat) : Int) = (x1.length : Int) := by rw [l0]; simp [sizes]
    rw [e1] at he
    exact ⟨u0, u1, _, _, L, a, nn, kk, v2, us, hst, he, hlg, hrow, hvr, hpc, hL⟩
  · exact absurd hrun hc'
end
end Go.Proofs.YtfkcnnjkflomkaaDoor

/-
  A log of generation 1, its records kept in a list beside it; a crash; Open.
-/
namespace Go.Proofs.YtfkcnnjkflomkaaDoor
open Go.RowKit Go.BigFrame

theorem len_sizes (rs : List (List Int)) : rs.length ≤ sizes rs := by
  unfold sizes
  induction rs with
  | nil => simp
  | cons r rs ih => simp; omega
theorem Lg.far {x x' : World} {P : Nat → Prop} {B K L : Nat} {v0 v1 : Value} {σ : Sg} {dd : Bool} {gn ar rc wt by_ : Int} (h : Lg x B K L v0 v1 σ dd gn ar rc wt by_) (o : Off P x x') (hF : ∀ k, Foot K v0 v1 k → ¬ P k) (hL : ¬ P L) : Lg x' B K L v0 v1 σ dd gn ar rc wt by_ :=
  ⟨h.d.off o hF, off_cell o h.c0 hL, off_cell o h.c1 hL, off_cell o h.c2 hL, off_cell o h.c3 hL, off_cell o h.c4 hL, off_cell o h.c5 hL, off_cell o h.c6 hL, fun q => (o.frozen (p := ⟨L, q, none⟩) h.lt hL).trans (h.fr q), h.nf, h.ge⟩
/-- The law's run: the log (its records rl), the list of those that were told (rs). -/
structure CtI (w : World) (r K L : Nat) (rl rs : List (List Int)) (v : Value) (vs : List Value) (wx : World) : Prop where
  lg : ∃ v0 v1 na ns nc, Lg wx w.heap.size K L v0 v1 (sgC rl na ns nc) false 1 1 rl.length rl.length ((30 + sizes rl : Nat) : Int) ∧ ¬ Foot K v0 v1 r ∧ ∀ q, v.ownBlock = some q → ¬ Foot K v0 v1 q
  bl : Below w.heap.size w wx
  r0 : wx.cell? ⟨r, 0, none⟩ = some (.pointer (some ⟨K, 0, none⟩))
  r1 : wx.cell? ⟨r, 1, none⟩ = some (.pointer (some ⟨L, 0, none⟩))
  r2 : wx.cell? ⟨r, 2, none⟩ = some v
  rf : ∀ q, wx.frozen? ⟨r, q, none⟩ = false
  rn : r ≠ L
  rg : w.heap.size ≤ r
  vr : VRow wx w.heap.size 28 v vs
  pc : Pcs w vs rs
  ow : ∀ q, v.ownBlock = some q → q ≠ L ∧ q ≠ r
  gd : ∀ d ∈ rl, 1 ≤ d.length ∧ d.length ≤ 20000 ∧ Rng d
  sz : sizes rl ≤ 8388608
section
variable {w wx : World} {r K L : Nat} {rs : List (List Int)} {v : Value} {vs : List Value}
theorem ct_start (w : World) (hH : Halves w) : Calls Tryd.prog 8 #[] w fun e w' => ∃ r K L, e = .returned (.tuple #[.pointer (some ⟨r, 0, none⟩), .bool true]) ∧ CtI w r K L [] [] (.slice none 0 0) [] w' := by
  refine (begin_full w hH).mono ?_
  rintro e w' ⟨r, K, L, u0, u1, rfl, hl, hb, hc, hfr, hf, hn, hg, hlt⟩
  refine ⟨r, K, L, rfl, ⟨u0, u1, 1, 1, 2, ?_, hf, (fun q hq => by cases hq)⟩, hb, hc 0, hc 1, hc 2, hfr, hn, hg, VRow.nil _ _ _, ⟨rfl, (fun j u d hu => by simp at hu)⟩, (fun q hq => by cases hq), (fun d hd => by cases hd), by simp [sizes]⟩
  rw [sgC_new]
  exact hl
theorem ct_append {po : Option Addr} {m c : Nat} {bs : List Int} (h : CtI w r K L rs rs v vs wx) (hb : Byts w po m bs) (hr : Rng bs) (hpo : po = none → c = 0) (hH : Halves w) (hm0 : 0 < m) (hm1 : m ≤ 20000) (hs : sizes rs + (m + 13) ≤ 8388608) :
    Calls Tryd.prog 10 #[.pointer (some ⟨L, 0, none⟩), .slice po m c] wx fun e w' => e = .returned .nilIface ∧ CtI w r K L (rs ++ [bs]) rs v vs w' := by
  obtain ⟨v0, v1, na, ns, nc, hl, hf, ho⟩ := h.lg
  have hlen : bs.length = m := hb.len
  have hls := len_sizes rs
  obtain ⟨a1, na', a2⟩ := sgC_app (rs := rs) (d := bs) (na := na) (ns := ns) (nc := nc) (by rw [hlen]; exact hs)
  refine (lAppend_go hl (hb.below h.bl) hpo (hH.under' h.bl) hm0 hm1 (by omega) (by omega) (by omega) (by omega) (by omega) (by omega)).mono ?_
  rintro e w' ⟨u0, u1, hst, ⟨_, he, hl'⟩ | ⟨hc, _⟩⟩
  · have hrl : r < wx.heap.size := cell_lt h.r0
    have hn : ¬ (Foot K v0 v1 r ∨ r = L) := fun g => g.elim hf h.rn
    have hq : ∀ q, v.ownBlock = some q → ¬ (Foot K v0 v1 q ∨ q = L) := fun q hq g => g.elim (ho q hq) (h.ow q hq).1
    rw [a2] at hl'
    refine ⟨he, ⟨u0, u1, na', ns, nc, ?_, fun g => hf (hst.foot r hrl g), fun q hq' g => ho q hq' (hst.foot q (h.vr.lt hq').2 g)⟩, h.bl.trans (hst.off.below h.bl.size (fun k g => ?_)), off_cell hst.off h.r0 hn, off_cell hst.off h.r1 hn, off_cell hst.off h.r2 hn, fun q => (hst.off.frozen (p := ⟨r, q, none⟩) hrl hn).trans (h.rf q), h.rn, h.rg, h.vr.off hst.off hq, h.pc, h.ow, fun d hd => ?_, ?_⟩
    · rw [show ((rs ++ [bs]).length : Int) = (rs.length : Int) + 1 by simp, show ((30 + sizes (rs ++ [bs]) : Nat) : Int) = ((30 + sizes rs : Nat) : Int) + ((m : Int) + 13) by rw [sizes_snoc]; omega]
      exact hl'
    · rcases g with g | rfl
      · exact (hl.d.foot_lt g).1
      · exact hl.ge
    · rcases List.mem_append.1 hd with hd | hd
      · exact h.gd d hd
      · rw [List.mem_singleton] at hd; subst hd; exact ⟨by omega, by omega, hr⟩
    · rw [sizes_snoc]; omega
  · exact absurd a1 hc
theorem ct_push {po : Option Addr} {m c : Nat} {bs : List Int} (h : CtI w r K L (rs ++ [bs]) rs v vs wx) (hb : Byts w po m bs) (hpo : po = none → c = 0) :
    ∃ a n k w', (Builtin.append_ #[22, 22] 22 #[v, .slice (some ⟨wx.heap.size, 0, none⟩) 1 1]).run Tryd.prog (wx.alloc (.cells #[.slice po m c] 28)) = .ok (.slice a n k) w' ∧ w'.cell? ⟨r, 2, none⟩ = some v ∧ w'.frozen? ⟨r, 2, none⟩ = false ∧ CtI w r K L (rs ++ [bs]) (rs ++ [bs]) (.slice a n k) (vs ++ [.slice po m c]) (w'.setCell ⟨r, 2, none⟩ (.slice a n k)) := by
  obtain ⟨v0, v1, na, ns, nc, hl, hf, ho⟩ := h.lg
  have hsz := h.sz
  have hls := len_sizes (rs ++ [bs])
  have hvl : vs.length = rs.length := h.pc.1
  obtain ⟨a, n, k, w', e1, e2, e3, e4⟩ := run_vpush h.vr h.bl.size (by simp at hls; omega) (.slice po m c) (slice_one _ _ _)
  have hrl : r < wx.heap.size := cell_lt h.r0
  have hnr : ¬ v.ownBlock = some r := fun e => (h.ow r e).2 rfl
  have hnL : ¬ v.ownBlock = some L := fun e => (h.ow L e).1 rfl
  have kr := off_cell e3 h.r2 hnr
  have kz : w'.frozen? ⟨r, 2, none⟩ = false := (e3.frozen (p := ⟨r, 2, none⟩) hrl hnr).trans (h.rf 2)
  have offS : Off (fun k => k = r) w' (w'.setCell ⟨r, 2, none⟩ (.slice a n k)) := (Off.refl (fun k => k = r) w').setCell (p := ⟨r, 2, none⟩) rfl _
  have own : ∀ q, (Value.slice a n k).ownBlock = some q → v.ownBlock = some q ∨ wx.heap.size ≤ q := fun q hq => by
    rcases e4 with e | ⟨g', e, hg⟩
    · rw [e] at hq; exact Or.inl hq
    · rw [e] at hq; cases hq; exact Or.inr hg
  have hlw := (hl.far e3 (fun q hq e => ho q e hq) hnL).far offS (fun q hq e => hf (e ▸ hq)) (fun e => h.rn e.symm)
  have hLl := hl.lt
  have hbw' : Below w.heap.size w w' := h.bl.trans (e3.below h.bl.size (fun q hq => (h.vr.lt hq).1))
  refine ⟨a, n, k, w', e1, kr, kz, ⟨v0, v1, na, ns, nc, hlw, hf, fun q hq g => ?_⟩, hbw'.trans (offS.below hbw'.size (fun q e => by have := h.rg; omega)), ?_, ?_, World.cell?_setCell_same' _ _ _ (by rw [kr]; rfl), fun q => by rw [World.frozen?_setCell, e3.frozen (p := ⟨r, q, none⟩) hrl hnr]; exact h.rf q, h.rn, h.rg, e2.off offS (fun q hq e => ?_), ?_, fun q hq => ?_, h.gd, h.sz⟩
  · rcases own q hq with e | e
    · exact ho q e g
    · have := (hl.d.foot_lt g).2; omega
  · rw [World.cell?_setCell_other _ _ _ _ (by simp)]; exact off_cell e3 h.r0 hnr
  · rw [World.cell?_setCell_other _ _ _ _ (by simp)]; exact off_cell e3 h.r1 hnr
  · rcases own q hq with e' | e'
    · exact (h.ow q e').2 e
    · omega
  · have hlen : bs.length = m := hb.len
    rw [← hlen]
    exact h.pc.snoc (by rw [hlen]; exact hb) hpo
  · rcases own q hq with e' | e'
    · exact h.ow q e'
    · exact ⟨by omega, by omega⟩
/-- The run behind a crash: the disk, and the list. -/
structure CrI (w : World) (r K : Nat) (σ : Sg) (rs : List (List Int)) (v : Value) (vs : List Value) (wx : World) : Prop where
  dk : ∃ v0 v1, DskS wx w.heap.size K v0 v1 σ ∧ ¬ Foot K v0 v1 r ∧ ∀ q, v.ownBlock = some q → ¬ Foot K v0 v1 q
  bl : Below w.heap.size w wx
  r0 : wx.cell? ⟨r, 0, none⟩ = some (.pointer (some ⟨K, 0, none⟩))
  r2 : wx.cell? ⟨r, 2, none⟩ = some v
  vr : VRow wx w.heap.size 28 v vs
  pc : Pcs w vs rs
theorem CrI.step {σ τ : Sg} {v0 v1 u0 u1 : Value} {w' : World} (h : CrI w r K σ rs v vs wx) (hd : DskS wx w.heap.size K v0 v1 σ) (hf : ¬ Foot K v0 v1 r) (ho : ∀ q, v.ownBlock = some q → ¬ Foot K v0 v1 q) (hd' : DskS w' w.heap.size K u0 u1 τ) (s : DStep wx w' K v0 v1 u0 u1) : CrI w r K τ rs v vs w' :=
  ⟨⟨u0, u1, hd', fun g => hf (s.foot r (cell_lt h.r0) g), fun q hq g => ho q hq (s.foot q (h.vr.lt hq).2 g)⟩, h.bl.trans (s.off.below h.bl.size (fun _ g => (hd.foot_lt g).1)), off_cell s.off h.r0 hf, off_cell s.off h.r2 hf, h.vr.off s.off ho, h.pc⟩
theorem ct_crash {na ns nc : Int} {k z : Nat} (h : CrI w r K (sgC rs na ns nc) rs v vs wx) (hsz : sizes rs ≤ 8388608) (hk : k ≤ sizes rs) (hz : k + z ≤ sizes rs) :
    Calls Tryd.prog 16 #[.pointer (some ⟨K, 0, none⟩), .agg #[.int .i64 k, .int .i64 z, .int .i64 k, .int .i64 z]] wx fun e w' => e = .returned (.tuple #[]) ∧ CrI w r K ⟨[], cutB rs k z, 0, (cutB rs k z).length, false, -1, na, ns, nc⟩ rs v vs w' := by
  obtain ⟨v0, v1, hd, hf, ho⟩ := h.dk
  have hl := sgC_len rs na ns nc
  refine (dCrash hd ⟨Nat.le_refl _, by rw [hl]; show 30 ≤ _; omega, by show (0 : Nat) ≤ _; omega, by rw [hl]; omega⟩ k z k z).mono ?_
  rintro e w' ⟨rfl, u0, u1, hd', hs⟩
  rw [crash_sg hk hz] at hd'
  exact ⟨rfl, h.step hd hf ho hd' hs⟩
/-- What the law finds of it. -/
def CtO (w : World) (r : Nat) (rs ds : List (List Int)) (v : Value) (vs : List Value) (tn : Int) (e : Ending) (w' : World) : Prop :=
  ∃ B K L u0 u1 σ wh a n k v2 us, e = .returned (.tuple #[.pointer (some ⟨L, 0, none⟩), .agg #[.int .u64 1, .slice a n k, v2, .int .i64 tn], .nilIface]) ∧ Lg w' B K L u0 u1 σ false 1 1 ds.length 0 wh ∧ VRow w' w.heap.size 28 v2 us ∧ Pcs w' us ds ∧ Below w.heap.size w w' ∧ w'.cell? ⟨r, 2, none⟩ = some v ∧ VRow w' w.heap.size 28 v vs ∧ Pcs w' vs rs
theorem ct_open {na ns nc keep left : Int} {n k z : Nat} {full : Bool} (h : CrI w r K ⟨[], cutB rs k z, 0, (cutB rs k z).length, false, -1, na, ns, nc⟩ rs v vs wx) (hH : Halves w) (hc : CutP keep rs n left full) (hgd : ∀ d ∈ rs, 1 ≤ d.length ∧ d.length ≤ 20000 ∧ Rng d) (hk : (k : Int) = min keep (sizes rs)) (hz : k + z ≤ sizes rs) (hsz : sizes rs ≤ 8388608) :
    Calls Tryd.prog 14 #[.pointer (some ⟨K, 0, none⟩)] wx (CtO w r rs (rs.take n) v vs (if full then 0 else left + z)) := by
  obtain ⟨v0, v1, hd, hf, ho⟩ := h.dk
  obtain ⟨p1, p2, p3, p4⟩ := cut_ps hc (fun d hd => ⟨(hgd d hd).1, (hgd d hd).2.1⟩) hk hz
  have hrng : Rng (cutB rs k z) := cutB_rng (fun d hd => (hgd d hd).2.2)
  have hls := len_sizes rs
  have key := lOpen_gen (nb := cutB rs k z) (na := 1) (ns := (cutB rs k z).length) (os_ := 0) (g := 1) (sn := []) (rs := rs.take n) hd h.bl.size rfl ⟨Nat.le_refl _, Nat.le_refl _, Nat.zero_le _, by show (cutB rs k z).length ≤ _; omega⟩ (fun q hq => by cases hq) hrng (hH.under' h.bl) hdR (fun w' f0 f1 k0 k1 => by
      have he := empty_of k0
      refine ⟨f1, f0, fun y => choose_second_alone y ?_ ?_ he.1, k1, he.2⟩
      all_goals
        obtain ⟨_, _, q3⟩ := k1
        rcases q3 with ⟨q4, _⟩ | ⟨g', sn', rs', us', q4, q5, _⟩
        · have : psS (cutB rs k z) 1 = none := q4
          rw [p1] at this; cases this
        · have : psS (cutB rs k z) 1 = some (g', sn', rs') := q4
          rw [p1] at this
          simp only [Option.some.injEq, Prod.mk.injEq] at this
          have := he.1
          omega) (by omega) (by omega) p1 (fun d hd => (hgd d (List.mem_of_mem_take hd)).2.1) (by simpa using p3) (by simp; omega)
  refine key.mono ?_
  rintro e w' ⟨u0, u1, hst, hr⟩
  have hrun : (runS (⟨[], cutB rs k z, 0, (cutB rs k z).length, false, -1, na, ns, nc⟩ : Sg) (mendOps ⟨((1 : Nat) : Int), none, 0, 0, none, 0, 0, (cutB rs k z).length, (cutB rs k z).length, 30 + ([] : List Int).length + sizes (rs.take n)⟩ ⟨0, none, 0, 0, none, 0, 0, 0, 0, 0⟩)).2 = 0 := by
    have n1 : ¬ (cutB rs k z).length < 30 + sizes (rs.take n) := by omega
    have n2 : ¬ ((30 + (sizes (rs.take n) : Int)) < 0) := by omega
    have n3 : ¬ (((cutB rs k z).length : Int) < 30 + (sizes (rs.take n) : Int)) := by omega
    unfold mendOps
    simp only [List.length_nil, Nat.add_zero, Nat.lt_irrefl, if_false, List.nil_append, n1, List.append_nil]
    split
    · simp [runS, opC, cutC, Sg.goes, goesOn, n2, n3]
    · rfl
  rcases hr with ⟨_, L, a, nn, kk, v2, us, he, hlg, hrow, hvr, hpc, hL⟩ | ⟨hc', _⟩
  · have hbw : Below w.heap.size w w' := h.bl.trans (hst.off.below h.bl.size (fun q hq => (hd.foot_lt hq).1))
    have e1 : ((0 : Nat) : Int) + ((cutB rs k z).length : Int) - ((30 + ([] : List Int).length + sizes (rs.take n) : Nat) : Int) = (if full then 0 else left + z) := by
      rw [← p4]; simp
    rw [e1] at he
    exact ⟨_, K, L, u0, u1, _, _, a, nn, kk, v2, us, he, hlg, hvr.low h.bl.size, hpc, hbw, off_cell hst.off h.r2 hf, h.vr.off hst.off ho, h.pc.below hbw⟩
  · exact absurd hrun hc'
theorem CtI.crI (h : CtI w r K L rs rs v vs wx) : ∃ na ns nc, CrI w r K (sgC rs na ns nc) rs v vs wx := by
  obtain ⟨v0, v1, na, ns, nc, hl, hf, ho⟩ := h.lg
  exact ⟨na, ns, nc, ⟨v0, v1, hl.d, hf, ho⟩, h.bl, h.r0, h.r2, h.vr, h.pc⟩
end
end Go.Proofs.YtfkcnnjkflomkaaDoor

/-
  A log of generation 1 of which some records are synced, its records kept in a list beside it.
-/
namespace Go.Proofs.YtfkcnnjkflomkaaDoor
open Go.RowKit Go.BigFrame

theorem sgF_new : sgF [] (30 + sizes (([] : List (List Int)).take 0)) (-1) 1 1 2 = sgB := by simp [sgF, sgB, oldB, recsB, sizes]
theorem sgF_app {rs : List (List Int)} {d : List Int} {s : Nat} {na ns nc : Int} (h : sizes rs + (d.length + 13) ≤ 8388608) : appC (sgF rs s (-1) na ns nc) 1 (d.length + 13) = 0 ∧ ∃ na', appS (sgF rs s (-1) na ns nc) 1 (recB d) = sgF (rs ++ [d]) s (-1) na' ns nc := by
  have hl : (sgF rs s (-1) na ns nc).x1.length = 30 + sizes rs := oldB_len rs
  have hg : (sgF rs s (-1) na ns nc).goes = true := rfl
  refine ⟨?_, ?_⟩
  · unfold appC
    simp only [if_neg (show ¬ (1 : Int) = 0 by decide), if_true, hg, if_neg (show ¬ 16777216 < (sgF rs s (-1) na ns nc).x1.length + (d.length + 13) by omega)]
  · refine ⟨oneMore na, ?_⟩
    unfold appS
    simp only [if_neg (show ¬ (1 : Int) = 0 by decide), if_true, hg, if_neg (show ¬ 16777216 < (sgF rs s (-1) na ns nc).x1.length + (recB d).length by rw [recB_len]; omega)]
    simp [sgF, oldB, Sg.wr, leftOn, recsB_snoc, List.append_assoc]
theorem sgF_syn {rs : List (List Int)} {s : Nat} {na ns nc : Int} : synC (sgF rs s (-1) na ns nc) 1 = 0 ∧ ∃ ns', synS (sgF rs s (-1) na ns nc) 1 = sgF rs (30 + sizes (rs.take rs.length)) (-1) na ns' nc := by
  have hg : (sgF rs s (-1) na ns nc).goes = true := rfl
  refine ⟨by simp [synC, hg], oneMore ns, ?_⟩
  rw [List.take_length, ← oldB_len]
  simp [synS, sgF, Sg.wr, leftOn, Sg.goes, goesOn]
/-- The law's run: the log (its records rl, the first ps of them synced), the list of those that were told (rs). -/
structure FzI (w : World) (r K L : Nat) (rl rs : List (List Int)) (ps : Nat) (v : Value) (vs : List Value) (wx : World) : Prop where
  lg : ∃ v0 v1 na ns nc, Lg wx w.heap.size K L v0 v1 (sgF rl (30 + sizes (rl.take ps)) (-1) na ns nc) false 1 1 rl.length ((rl.length - ps : Nat) : Int) ((30 + sizes rl : Nat) : Int) ∧ ¬ Foot K v0 v1 r ∧ ∀ q, v.ownBlock = some q → ¬ Foot K v0 v1 q
  bl : Below w.heap.size w wx
  r0 : wx.cell? ⟨r, 0, none⟩ = some (.pointer (some ⟨K, 0, none⟩))
  r1 : wx.cell? ⟨r, 1, none⟩ = some (.pointer (some ⟨L, 0, none⟩))
  r2 : wx.cell? ⟨r, 2, none⟩ = some v
  rf : ∀ q, wx.frozen? ⟨r, q, none⟩ = false
  rn : r ≠ L
  rg : w.heap.size ≤ r
  vr : VRow wx w.heap.size 28 v vs
  pc : Pcs w vs rs
  ow : ∀ q, v.ownBlock = some q → q ≠ L ∧ q ≠ r
  gd : ∀ d ∈ rl, 1 ≤ d.length ∧ d.length ≤ 20000 ∧ Rng d
  sz : sizes rl ≤ 8388608
  pl : ps ≤ rl.length
section
variable {w wx : World} {r K L ps : Nat} {rs : List (List Int)} {v : Value} {vs : List Value}
theorem fz_start (w : World) (hH : Halves w) : Calls Tryd.prog 8 #[] w fun e w' => ∃ r K L, e = .returned (.tuple #[.pointer (some ⟨r, 0, none⟩), .bool true]) ∧ FzI w r K L [] [] 0 (.slice none 0 0) [] w' := by
  refine (begin_full w hH).mono ?_
  rintro e w' ⟨r, K, L, u0, u1, rfl, hl, hb, hc, hfr, hf, hn, hg, hlt⟩
  refine ⟨r, K, L, rfl, ⟨u0, u1, 1, 1, 2, ?_, hf, (fun q hq => by cases hq)⟩, hb, hc 0, hc 1, hc 2, hfr, hn, hg, VRow.nil _ _ _, ⟨rfl, (fun j u d hu => by simp at hu)⟩, (fun q hq => by cases hq), (fun d hd => by cases hd), by simp [sizes], Nat.le_refl _⟩
  rw [sgF_new]
  exact hl
theorem fz_append {po : Option Addr} {m c : Nat} {bs : List Int} (h : FzI w r K L rs rs ps v vs wx) (hb : Byts w po m bs) (hr : Rng bs) (hpo : po = none → c = 0) (hH : Halves w) (hm0 : 0 < m) (hm1 : m ≤ 20000) (hs : sizes rs + (m + 13) ≤ 8388608) :
    Calls Tryd.prog 10 #[.pointer (some ⟨L, 0, none⟩), .slice po m c] wx fun e w' => e = .returned .nilIface ∧ FzI w r K L (rs ++ [bs]) rs ps v vs w' := by
  obtain ⟨v0, v1, na, ns, nc, hl, hf, ho⟩ := h.lg
  have hlen : bs.length = m := hb.len
  have hls := len_sizes rs
  have hpl := h.pl
  obtain ⟨a1, na', a2⟩ := sgF_app (rs := rs) (d := bs) (s := 30 + sizes (rs.take ps)) (na := na) (ns := ns) (nc := nc) (by rw [hlen]; exact hs)
  refine (lAppend_go hl (hb.below h.bl) hpo (hH.under' h.bl) hm0 hm1 (by omega) (by omega) (by omega) (by omega) (by omega) (by omega)).mono ?_
  rintro e w' ⟨u0, u1, hst, ⟨_, he, hl'⟩ | ⟨hc, _⟩⟩
  · have hrl : r < wx.heap.size := cell_lt h.r0
    have hn : ¬ (Foot K v0 v1 r ∨ r = L) := fun g => g.elim hf h.rn
    have hq : ∀ q, v.ownBlock = some q → ¬ (Foot K v0 v1 q ∨ q = L) := fun q hq g => g.elim (ho q hq) (h.ow q hq).1
    rw [a2] at hl'
    refine ⟨he, ⟨u0, u1, na', ns, nc, ?_, fun g => hf (hst.foot r hrl g), fun q hq' g => ho q hq' (hst.foot q (h.vr.lt hq').2 g)⟩, h.bl.trans (hst.off.below h.bl.size (fun k g => ?_)), off_cell hst.off h.r0 hn, off_cell hst.off h.r1 hn, off_cell hst.off h.r2 hn, fun q => (hst.off.frozen (p := ⟨r, q, none⟩) hrl hn).trans (h.rf q), h.rn, h.rg, h.vr.off hst.off hq, h.pc, h.ow, fun d hd => ?_, ?_, by simp; omega⟩
    · rw [List.take_append_of_le_length hpl, show (((rs ++ [bs]).length - ps : Nat) : Int) = ((rs.length - ps : Nat) : Int) + 1 by simp; omega, show ((rs ++ [bs]).length : Int) = (rs.length : Int) + 1 by simp, show ((30 + sizes (rs ++ [bs]) : Nat) : Int) = ((30 + sizes rs : Nat) : Int) + ((m : Int) + 13) by rw [sizes_snoc]; omega]
      exact hl'
    · rcases g with g | rfl
      · exact (hl.d.foot_lt g).1
      · exact hl.ge
    · rcases List.mem_append.1 hd with hd | hd
      · exact h.gd d hd
      · rw [List.mem_singleton] at hd; subst hd; exact ⟨by omega, by omega, hr⟩
    · rw [sizes_snoc]; omega
  · exact absurd a1 hc
theorem fz_push {po : Option Addr} {m c : Nat} {bs : List Int} (h : FzI w r K L (rs ++ [bs]) rs ps v vs wx) (hb : Byts w po m bs) (hpo : po = none → c = 0) :
    ∃ a n k w', (Builtin.append_ #[22, 22] 22 #[v, .slice (some ⟨wx.heap.size, 0, none⟩) 1 1]).run Tryd.prog (wx.alloc (.cells #[.slice po m c] 28)) = .ok (.slice a n k) w' ∧ w'.cell? ⟨r, 2, none⟩ = some v ∧ w'.frozen? ⟨r, 2, none⟩ = false ∧ FzI w r K L (rs ++ [bs]) (rs ++ [bs]) ps (.slice a n k) (vs ++ [.slice po m c]) (w'.setCell ⟨r, 2, none⟩ (.slice a n k)) := by
  obtain ⟨v0, v1, na, ns, nc, hl, hf, ho⟩ := h.lg
  have hsz := h.sz
  have hls := len_sizes (rs ++ [bs])
  have hvl : vs.length = rs.length := h.pc.1
  obtain ⟨a, n, k, w', e1, e2, e3, e4⟩ := run_vpush h.vr h.bl.size (by simp at hls; omega) (.slice po m c) (slice_one _ _ _)
  have hrl : r < wx.heap.size := cell_lt h.r0
  have hnr : ¬ v.ownBlock = some r := fun e => (h.ow r e).2 rfl
  have hnL : ¬ v.ownBlock = some L := fun e => (h.ow L e).1 rfl
  have kr := off_cell e3 h.r2 hnr
  have kz : w'.frozen? ⟨r, 2, none⟩ = false := (e3.frozen (p := ⟨r, 2, none⟩) hrl hnr).trans (h.rf 2)
  have offS : Off (fun k => k = r) w' (w'.setCell ⟨r, 2, none⟩ (.slice a n k)) := (Off.refl (fun k => k = r) w').setCell (p := ⟨r, 2, none⟩) rfl _
  have own : ∀ q, (Value.slice a n k).ownBlock = some q → v.ownBlock = some q ∨ wx.heap.size ≤ q := fun q hq => by
    rcases e4 with e | ⟨g', e, hg⟩
    · rw [e] at hq; exact Or.inl hq
    · rw [e] at hq; cases hq; exact Or.inr hg
  have hlw := (hl.far e3 (fun q hq e => ho q e hq) hnL).far offS (fun q hq e => hf (e ▸ hq)) (fun e => h.rn e.symm)
  have hLl := hl.lt
  have hbw' : Below w.heap.size w w' := h.bl.trans (e3.below h.bl.size (fun q hq => (h.vr.lt hq).1))
  refine ⟨a, n, k, w', e1, kr, kz, ⟨v0, v1, na, ns, nc, hlw, hf, fun q hq g => ?_⟩, hbw'.trans (offS.below hbw'.size (fun q e => by have := h.rg; omega)), ?_, ?_, World.cell?_setCell_same' _ _ _ (by rw [kr]; rfl), fun q => by rw [World.frozen?_setCell, e3.frozen (p := ⟨r, q, none⟩) hrl hnr]; exact h.rf q, h.rn, h.rg, e2.off offS (fun q hq e => ?_), ?_, fun q hq => ?_, h.gd, h.sz, h.pl⟩
  · rcases own q hq with e | e
    · exact ho q e g
    · have := (hl.d.foot_lt g).2; omega
  · rw [World.cell?_setCell_other _ _ _ _ (by simp)]; exact off_cell e3 h.r0 hnr
  · rw [World.cell?_setCell_other _ _ _ _ (by simp)]; exact off_cell e3 h.r1 hnr
  · rcases own q hq with e' | e'
    · exact (h.ow q e').2 e
    · omega
  · have hlen : bs.length = m := hb.len
    rw [← hlen]
    exact h.pc.snoc (by rw [hlen]; exact hb) hpo
  · rcases own q hq with e' | e'
    · exact h.ow q e'
    · exact ⟨by omega, by omega⟩
theorem fz_sync (h : FzI w r K L rs rs ps v vs wx) :
    Calls Tryd.prog 11 #[.pointer (some ⟨L, 0, none⟩)] wx fun e w' => e = .returned (.tuple #[.int .i64 ((rs.length - ps : Nat) : Int), .nilIface]) ∧ FzI w r K L rs rs rs.length v vs w' := by
  obtain ⟨v0, v1, na, ns, nc, hl, hf, ho⟩ := h.lg
  obtain ⟨a1, ns', a2⟩ := sgF_syn (rs := rs) (s := 30 + sizes (rs.take ps)) (na := na) (ns := ns) (nc := nc)
  refine (lSync hl).mono ?_
  rintro e w' ⟨u0, u1, hst, ⟨_, he, hl'⟩ | ⟨hc, _⟩⟩
  · have hrl : r < wx.heap.size := cell_lt h.r0
    have hn : ¬ (Foot K v0 v1 r ∨ r = L) := fun g => g.elim hf h.rn
    have hq : ∀ q, v.ownBlock = some q → ¬ (Foot K v0 v1 q ∨ q = L) := fun q hq g => g.elim (ho q hq) (h.ow q hq).1
    rw [a2] at hl'
    refine ⟨he, ⟨u0, u1, na, ns', nc, ?_, fun g => hf (hst.foot r hrl g), fun q hq' g => ho q hq' (hst.foot q (h.vr.lt hq').2 g)⟩, h.bl.trans (hst.off.below h.bl.size (fun k g => ?_)), off_cell hst.off h.r0 hn, off_cell hst.off h.r1 hn, off_cell hst.off h.r2 hn, fun q => (hst.off.frozen (p := ⟨r, q, none⟩) hrl hn).trans (h.rf q), h.rn, h.rg, h.vr.off hst.off hq, h.pc, h.ow, h.gd, h.sz, Nat.le_refl _⟩
    · rw [show ((rs.length - rs.length : Nat) : Int) = 0 by omega]
      exact hl'
    · rcases g with g | rfl
      · exact (hl.d.foot_lt g).1
      · exact hl.ge
  · exact absurd a1 hc
end
end Go.Proofs.YtfkcnnjkflomkaaDoor

/-
  Crashes of what a stopped Compact leaves; of no program.
-/
namespace Go.Proofs.YtfkcnnjkflomkaaDoor
open Go.RowKit Go.BigFrame

theorem cut_upto (rs : List (List Int)) {k : Int} (hk : 0 ≤ k) : ∀ j, j ≤ rs.length → ∃ n left full, CutP k (rs.take j) n left full
  | 0, _ => ⟨0, k, true, by rw [List.take_zero]; exact CutP.start hk⟩
  | j + 1, hj => by
    obtain ⟨n, left, full, h⟩ := cut_upto rs hk j (by omega)
    have e : rs.take (j + 1) = rs.take j ++ [rs[j]'(by omega)] := List.take_succ_eq_append_getElem (by omega)
    rw [e]
    cases full with
    | true =>
      by_cases hd : ((rs[j]'(by omega)).length : Int) + 13 ≤ left
      · exact ⟨_, _, _, h.goes hd⟩
      · exact ⟨_, _, _, h.stops (by omega)⟩
    | false => exact ⟨_, _, _, h.stays⟩
/-- Whatever is kept: so many records are whole. -/
theorem cut_some (rs : List (List Int)) {k : Int} (hk : 0 ≤ k) : ∃ n left full, CutP k rs n left full := by
  obtain ⟨n, left, full, h⟩ := cut_upto rs hk rs.length (Nat.le_refl _)
  rw [List.take_length] at h
  exact ⟨n, left, full, h⟩
section
variable {rs : List (List Int)} {sn : List Int} {dd : Bool} {fu na ns nc tk0 tz0 tk1 tz1 : Int}
theorem betw_zero (t : Int) : (betw t ((0 : Nat) : Int)).toNat = 0 := by unfold betw; omega
theorem torn_all (xs : List Int) : torn xs xs.length 0 0 = xs := by unfold torn; simp
/-- Nothing was written: of what was not synced some stays. -/
theorem crash_first {s : Nat} (hs : s ≤ sizes rs) : ∃ k z, s + k + z ≤ sizes rs ∧ crS ⟨[], oldB rs, 0, 30 + s, dd, fu, na, ns, nc⟩ tk0 tz0 tk1 tz1 = ⟨[], cutB rs (s + k) z, 0, (cutB rs (s + k) z).length, false, -1, na, ns, nc⟩ := by
  have hl := oldB_len rs
  obtain ⟨k, hk⟩ : ∃ k, (betw tk1 (((oldB rs).length - (30 + s) : Nat) : Int)).toNat = k := ⟨_, rfl⟩
  obtain ⟨z, hz⟩ : ∃ z, (betw tz1 (((oldB rs).length - (30 + s) - k : Nat) : Int)).toNat = z := ⟨_, rfl⟩
  have e1 : torn (oldB rs) (30 + s) k z = cutB rs (s + k) z := by
    show (headB 1 ++ (recB [] ++ recsB rs)).take (30 + s + k) ++ List.replicate z 0 = _
    unfold cutB
    rw [show 30 + s + k = (headB 1).length + ((recB []).length + (s + k)) by rw [headB_len, recB_len]; simp; omega, List.take_length_add_append, List.take_length_add_append, List.append_assoc, List.append_assoc]
  refine ⟨k, z, ?_, ?_⟩
  · unfold betw at hk hz
    omega
  · unfold crS
    have b1 := betw_zero tk0
    have b2 := betw_zero tz0
    simp only [List.length_nil, Nat.sub_self, b1, b2, hk, hz, e1]
    rfl
/-- All is synced, the other area is empty, or holds bytes that are not synced. -/
theorem crash_old : crS ⟨[], oldB rs, 0, (oldB rs).length, dd, fu, na, ns, nc⟩ tk0 tz0 tk1 tz1 = ⟨tornB sn 0 0, oldB rs, (tornB sn 0 0).length, (oldB rs).length, false, -1, na, ns, nc⟩ := by
  unfold crS
  have b1 := betw_zero tk0
  have b2 := betw_zero tz0
  have b3 := betw_zero tk1
  have b4 := betw_zero tz1
  simp only [List.length_nil, Nat.sub_self, b1, b2, b3, b4, torn_all]
  simp [tornB, torn]
theorem crash_mid : ∃ k z, k + z ≤ 30 + sn.length ∧ crS ⟨newB sn, oldB rs, 0, (oldB rs).length, dd, fu, na, ns, nc⟩ tk0 tz0 tk1 tz1 = ⟨tornB sn k z, oldB rs, (tornB sn k z).length, (oldB rs).length, false, -1, na, ns, nc⟩ := by
  have hl := newB_len sn
  obtain ⟨k, hk⟩ : ∃ k, (betw tk0 (((newB sn).length - 0 : Nat) : Int)).toNat = k := ⟨_, rfl⟩
  obtain ⟨z, hz⟩ : ∃ z, (betw tz0 (((newB sn).length - 0 - k : Nat) : Int)).toNat = z := ⟨_, rfl⟩
  refine ⟨k, z, ?_, ?_⟩
  · unfold betw at hk hz
    omega
  · unfold crS
    have b3 := betw_zero tk1
    have b4 := betw_zero tz1
    simp only [Nat.sub_self, b3, b4, hk, hz, torn_all]
    simp [tornB, torn]
theorem torn_full (sn : List Int) : tornB sn (30 + sn.length) 0 = newB sn := by
  unfold tornB
  rw [← newB_len, List.take_length]
  simp
/-- Both areas are synced. -/
theorem crash_two {x1 : List Int} : crS ⟨newB sn, x1, (newB sn).length, x1.length, dd, fu, na, ns, nc⟩ tk0 tz0 tk1 tz1 = ⟨newB sn, x1, (newB sn).length, x1.length, false, -1, na, ns, nc⟩ := by
  unfold crS
  have b1 := betw_zero tk0
  have b2 := betw_zero tz0
  have b3 := betw_zero tk1
  have b4 := betw_zero tz1
  simp only [Nat.sub_self, b1, b2, b3, b4, torn_all]
end
end Go.Proofs.YtfkcnnjkflomkaaDoor
