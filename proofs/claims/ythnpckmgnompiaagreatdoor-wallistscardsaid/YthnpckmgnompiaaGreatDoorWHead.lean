/-
  The log's head: its bytes.
-/
import Derived.Test.YthnpckmgnompiaaGreatDoorWRec
import Derived.ArgAppend
import Derived.Lib.SlBytesConst
namespace Go.Proofs.YthnpckmgnompiaaGreatDoor
open Go.RowKit

theorem row_base {w : World} {B B' : Nat} {v : Value} {xs : List Int} (h : Row w B v xs) (hB : B' ≤ B) : Row w B' v xs := by
  rcases h.2 with h0 | ⟨g, cap, cur, e, hb, rest⟩
  · exact ⟨h.1, Or.inl h0⟩
  · exact ⟨h.1, Or.inr ⟨g, cap, cur, e, Nat.le_trans hB hb, rest⟩⟩
/-- A byte behind a row that is no one's own, and full: a row of the call's own. -/
theorem run_push_full {w : World} {g m : Nat} {xs : List Int} (hb : Byts w (some ⟨g, 0, none⟩) m xs) (hm : m ≤ 1000000) (z : Int) :
    ∃ a n c w', (Builtin.append_ #[22, 22] 22 #[.slice (some ⟨g, 0, none⟩) m m, .slice (some ⟨w.heap.size, 0, none⟩) 1 1]).run Tryz.prog (w.alloc (.cells #[.int .u8 z] 5)) = .ok (.slice a n c) w' ∧ Row w' w.heap.size (.slice a n c) (xs ++ [z]) ∧ Below w.heap.size w w' := by
  obtain ⟨i, hi, hz, hs, hby⟩ := u8info
  have hlen := hb.len
  have hal : Below w.heap.size w (w.alloc (.cells #[.int .u8 z] 5)) := (Below.refl _ _).alloc (Nat.le_refl _) _
  obtain ⟨v', w', hr, ho, hg⟩ := run_append_arg_grows (P := Tryz.prog) (w.alloc (.cells #[.int .u8 z] 5)) 22 22 5 i _ 1 1 Tryz.underlying22 hi hz hs hby rfl (by decide) ⟨g, 0, none⟩ m m (u8s xs) (by rw [u8s_length]; omega) (fun j u hu => by
      obtain ⟨hj, rfl⟩ := u8s_get hu
      obtain ⟨b, o, e, hl, hc⟩ := hb.cell j (by omega)
      obtain ⟨rfl, rfl⟩ : g = b ∧ 0 = o := by simpa using e
      rw [Addr.add_lit, hal.cell (p := ⟨g, 0 + j, none⟩) hl]
      exact hc) ⟨w.heap.size, 0, none⟩ 1 1 [.int .u8 z] rfl (fun j u hu => by
      cases j with
      | zero => simp at hu; subst hu; rw [Addr.add_lit]; simp
      | succ j => simp at hu) (by omega) (by unfold maxLen; omega) (by omega)
  have hrow : Row w' w.heap.size v' (xs ++ [z]) := by
    refine row_base (B := (w.alloc (.cells #[.int .u8 z] 5)).heap.size) ?_ (by simp)
    unfold Row
    rw [u8s_append, List.length_append, hlen]
    exact ho
  rcases hrow.form with ⟨_, e⟩ | ⟨g', cap, rfl, _⟩
  · simp at e
  · exact ⟨_, _, _, w', hr, hrow, hal.trans ((Off.of_grown hg).below (by simp) (fun k e => by cases e))⟩
set_option maxRecDepth 100000 in
set_option maxHeartbeats 2000000 in
theorem number8_full {g m : Nat} {xs : List Int} {x : Int} (w : World) (hb : Byts w (some ⟨g, 0, none⟩) m xs) (hm : m ≤ 1000000) (hx : 0 ≤ x ∧ x ≤ 18446744073709551615) : Calls Tryz.prog 82 #[.slice (some ⟨g, 0, none⟩) m m, .int .u64 x, .int .i64 8] w fun e w' => ∃ a' n' c', e = .returned (.slice a' n' c') ∧ Row w' w.heap.size (.slice a' n' c') (xs ++ be8 x) ∧ Below w.heap.size w w' := by
  obtain ⟨hx0, hx1⟩ := hx
  have hlen := hb.len
  obtain ⟨a0, n0, c0, w0, e0, r0, b0⟩ := run_push_full hb hm (x / 72057594037927936)
  have hB0 : w.heap.size ≤ w0.heap.size := b0.size
  obtain ⟨a1, n1, c1, w1, e1, r1, f1, o1⟩ := run_push r0 hB0 (by simp; omega) (x / 281474976710656 % 256)
  have hB1 : w.heap.size ≤ w1.heap.size := Nat.le_trans hB0 f1.size
  have b1 : Below w.heap.size w w1 := b0.trans (f1.below hB0 (fun q e => (r0.lt e).1))
  obtain ⟨a2, n2, c2, w2, e2, r2, f2, o2⟩ := run_push r1 hB1 (by simp; omega) (x / 1099511627776 % 256)
  have hB2 : w.heap.size ≤ w2.heap.size := Nat.le_trans hB1 f2.size
  have b2 : Below w.heap.size w w2 := b1.trans (f2.below hB1 (fun q e => (r1.lt e).1))
  obtain ⟨a3, n3, c3, w3, e3, r3, f3, o3⟩ := run_push r2 hB2 (by simp; omega) (x / 4294967296 % 256)
  have hB3 : w.heap.size ≤ w3.heap.size := Nat.le_trans hB2 f3.size
  have b3 : Below w.heap.size w w3 := b2.trans (f3.below hB2 (fun q e => (r2.lt e).1))
  obtain ⟨a4, n4, c4, w4, e4, r4, f4, o4⟩ := run_push r3 hB3 (by simp; omega) (x / 16777216 % 256)
  have hB4 : w.heap.size ≤ w4.heap.size := Nat.le_trans hB3 f4.size
  have b4 : Below w.heap.size w w4 := b3.trans (f4.below hB3 (fun q e => (r3.lt e).1))
  obtain ⟨a5, n5, c5, w5, e5, r5, f5, o5⟩ := run_push r4 hB4 (by simp; omega) (x / 65536 % 256)
  have hB5 : w.heap.size ≤ w5.heap.size := Nat.le_trans hB4 f5.size
  have b5 : Below w.heap.size w w5 := b4.trans (f5.below hB4 (fun q e => (r4.lt e).1))
  obtain ⟨a6, n6, c6, w6, e6, r6, f6, o6⟩ := run_push r5 hB5 (by simp; omega) (x / 256 % 256)
  have hB6 : w.heap.size ≤ w6.heap.size := Nat.le_trans hB5 f6.size
  have b6 : Below w.heap.size w w6 := b5.trans (f6.below hB5 (fun q e => (r5.lt e).1))
  obtain ⟨a7, n7, c7, w7, e7, r7, f7, o7⟩ := run_push r6 hB6 (by simp; omega) (x % 256)
  have hB7 : w.heap.size ≤ w7.heap.size := Nat.le_trans hB6 f7.size
  have b7 : Below w.heap.size w w7 := b6.trans (f7.below hB6 (fun q e => (r6.lt e).1))
  have HF : Hid (Row w7 w.heap.size (.slice a7 n7 c7) (xs ++ be8 x) ∧ Below w.heap.size w w7) := by
    have e : ((((((((xs ++ [x / 72057594037927936]) ++ [x / 281474976710656 % 256]) ++ [x / 1099511627776 % 256]) ++ [x / 4294967296 % 256]) ++ [x / 16777216 % 256]) ++ [x / 65536 % 256]) ++ [x / 256 % 256]) ++ [x % 256]) = xs ++ be8 x := by simp only [List.append_assoc]; rfl
    refine ⟨?_, b7⟩
    have h := r7
    rw [e] at h
    exact h
  clear hb b0 r0 r1 f1 o1 b1 r2 f2 o2 b2 r3 f3 o3 b3 r4 f4 o4 b4 r5 f5 o5 b5 r6 f6 o6 b6 r7 f7 o7 b7
  go_enter Tryz.func82, Tryz.ntmps82
  go_wp2_with fail
  refine wp_loop_rounds 9 ?_
  rw [rounds_succ]
  go_wp2_with (at_builtin; refine wpList_append_run rfl (.tmp 14) (.tmp 20) 22 _ rfl e0 ?_)
  rw [rounds_succ]
  go_wp2_with (at_builtin; refine wpList_append_run rfl (.tmp 14) (.tmp 20) 22 _ rfl e1 ?_)
  rw [rounds_succ]
  go_wp2_with (at_builtin; refine wpList_append_run rfl (.tmp 14) (.tmp 20) 22 _ rfl e2 ?_)
  rw [rounds_succ]
  go_wp2_with (at_builtin; refine wpList_append_run rfl (.tmp 14) (.tmp 20) 22 _ rfl e3 ?_)
  rw [rounds_succ]
  go_wp2_with (at_builtin; refine wpList_append_run rfl (.tmp 14) (.tmp 20) 22 _ rfl e4 ?_)
  rw [rounds_succ]
  go_wp2_with (at_builtin; refine wpList_append_run rfl (.tmp 14) (.tmp 20) 22 _ rfl e5 ?_)
  rw [rounds_succ]
  go_wp2_with (at_builtin; refine wpList_append_run rfl (.tmp 14) (.tmp 20) 22 _ rfl e6 ?_)
  rw [rounds_succ]
  go_wp2_with (at_builtin; refine wpList_append_run rfl (.tmp 14) (.tmp 20) 22 _ rfl e7 ?_)
  rw [rounds_succ]
  go_wp2_with fail
  go_ret
  exact ⟨_, _, _, rfl, HF.out.1, HF.out.2⟩
/-- The head's first twelve bytes, and all. -/
def head12 (x : Int) : List Int := [72, 87, 76, 49] ++ be8 x
def headB (x : Int) : List Int := head12 x ++ (be4 (sumI (head12 x)) ++ [165])
theorem headB_len (x : Int) : (headB x).length = 17 := by simp [headB, head12, be8, be4]
theorem lit_hwl {w : World} {n : Nat} (hn : w.heap.size = n) : Byts (w.alloc (.cells #[.int .u8 72, .int .u8 87, .int .u8 76, .int .u8 49] 5 (4, 5))) (some ⟨n, 0, none⟩) 4 [72, 87, 76, 49] := by
  subst hn
  have hb : (w.alloc (.cells #[.int .u8 72, .int .u8 87, .int .u8 76, .int .u8 49] 5 (4, 5))).heap[w.heap.size]? = some (.cells #[.int .u8 72, .int .u8 87, .int .u8 76, .int .u8 49] 5 (4, 5)) := by show (w.heap.push _)[w.heap.size]? = _; simp
  refine ⟨rfl, fun j hj => ⟨w.heap.size, 0, rfl, by simp, ?_⟩⟩
  unfold World.cell?
  rw [hb]
  match j, hj with
  | 0, _ => rfl
  | 1, _ => rfl
  | 2, _ => rfl
  | 3, _ => rfl
theorem row_byts {w : World} {B : Nat} {a : Option Addr} {n c : Nat} {xs : List Int} (h : Row w B (.slice a n c) xs) (hx : xs ≠ []) : ∃ g, a = some ⟨g, 0, none⟩ ∧ n = xs.length ∧ Byts w a n xs := by
  rcases h.form with ⟨_, e⟩ | ⟨g, cap, e, _, hl, _⟩
  · exact absurd e hx
  · simp only [Value.slice.injEq] at e
    obtain ⟨rfl, rfl, rfl⟩ := e
    refine ⟨g, rfl, rfl, rfl, fun j hj => ⟨g, 0, rfl, hl, ?_⟩⟩
    rw [Nat.zero_add]
    exact h.cell.2 j hj
set_option maxRecDepth 100000 in
set_option maxHeartbeats 2000000 in
theorem head_any {x : Int} (w : World) (hx : 0 ≤ x ∧ x ≤ 18446744073709551615) (hH : Halves w) : Calls Tryz.prog 56 #[.int .u64 x] w fun e w' => ∃ a' n' c', e = .returned (.slice a' n' c') ∧ Row w' w.heap.size (.slice a' n' c') (headB x) ∧ Below w.heap.size w w' := by
  have hcv := Go.Lib.run_convert_bytes_const (P := Tryz.prog) w 22 5 #[.int .u8 72, .int .u8 87, .int .u8 76, .int .u8 49] 4 4 Tryz.underlying22 Tryz.underlying5
  have HH : Hid (Halves w) := hH
  clear hH
  obtain ⟨W1, hW1⟩ : ∃ W1, w.alloc (.cells #[.int .u8 72, .int .u8 87, .int .u8 76, .int .u8 49] 5 (4, 5)) = W1 := ⟨_, rfl⟩
  have hcv2 : (convert 22 22 (.slice (some ⟨w.heap.size, 0, none⟩) 4 4)).run Tryz.prog (w.alloc (.cells #[.int .u8 72, .int .u8 87, .int .u8 76, .int .u8 49] 5)) = .ok (.slice (some ⟨w.heap.size, 0, none⟩) 4 4) W1 := by rw [← hW1]; exact hcv
  have HL : Hid (Byts W1 (some ⟨w.heap.size, 0, none⟩) 4 [72, 87, 76, 49]) := by unfold Hid; rw [← hW1]; exact lit_hwl rfl
  have HB1 : Hid (Below w.heap.size w W1) := by unfold Hid; rw [← hW1]; exact (Below.refl _ _).alloc (Nat.le_refl _) _
  clear hcv hW1
  go_enter Tryz.func56, Tryz.ntmps56
  go_wp2_with fail
  refine (number8_full W1 HL.out (by decide) hx).mono ?_
  rintro e w2 ⟨a2, n2, c2, rfl, r2, b2⟩
  have HR2 : Hid (Row w2 w.heap.size (.slice a2 n2 c2) (head12 x)) := row_base r2 HB1.out.size
  have HB2 : Hid (Below w.heap.size w w2) := HB1.out.trans (b2.mono HB1.out.size)
  clear r2 b2 hcv2
  obtain ⟨g2, ha2, hn2, hy2⟩ := row_byts HR2.out (by simp [head12])
  have hn12 : n2 = 12 := by rw [hn2]; simp [head12, be8]
  clear hn2
  subst ha2 hn12
  have HY2 : Hid (Byts w2 (some ⟨g2, 0, none⟩) 12 (head12 x)) := hy2
  clear hy2
  go_wp2_with fail
  refine (sum_any w2 HY2.out (by decide) (HH.out.below HB2.out)).mono ?_
  rintro e w3 ⟨he, rfl⟩
  obtain ⟨S, hS⟩ : ∃ S, sumI (head12 x) = S := ⟨_, rfl⟩
  have hSb := sumI_bd (head12 x)
  rw [hS] at he hSb
  subst he
  obtain ⟨hS0, hS1⟩ := hSb
  go_wp2_with fail
  refine (number4_any w3 HR2.out HB2.out.size (by simp [head12, be8]) (by omega)).mono ?_
  rintro e w4 ⟨a4, n4, c4, rfl, L4⟩
  have HR4 : Hid (Row w4 w.heap.size (.slice a4 n4 c4) (head12 x ++ be4 S)) := L4.1
  have HB4 : Hid (Below w.heap.size w w4) := HB2.out.trans (L4.2.1.below HB2.out.size (fun q e => (HR2.out.lt e).1))
  clear L4
  obtain ⟨a5, n5, c5, w5, e5, r5, f5, o5⟩ := run_push HR4.out HB4.out.size (by simp [head12, be8, be4]) 165
  have HF : Hid (Row w5 w.heap.size (.slice a5 n5 c5) (headB x) ∧ Below w.heap.size w w5) := by
    refine ⟨?_, HB4.out.trans (f5.below HB4.out.size (fun q e => (HR4.out.lt e).1))⟩
    have e : (head12 x ++ be4 S) ++ [165] = headB x := by unfold headB; rw [hS, List.append_assoc]
    rw [e] at r5
    exact r5
  clear r5 f5 o5 hS
  go_wp2_with (at_builtin; refine wpList_append_run rfl (.tmp 13) (.tmp 14) 22 _ rfl e5 ?_)
  go_ret
  exact ⟨_, _, _, rfl, HF.out.1, HF.out.2⟩
end Go.Proofs.YthnpckmgnompiaaGreatDoor
