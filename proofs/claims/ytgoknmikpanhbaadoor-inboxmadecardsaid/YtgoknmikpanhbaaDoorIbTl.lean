/-
  A box with nothing in it, and the loose pair: tells, all.
-/
import Derived.Test.YtgoknmikpanhbaaDoorIbBl3
import Derived.Test.YtgoknmikpanhbaaDoorIbSame
import Derived.Test.YtgoknmikpanhbaaDoorIbOpn
namespace Go.Proofs.YtgoknmikpanhbaaDoor
open Go.RowKit

section
variable {w : World} {B : Nat} {bv : Value}
theorem em_last (h : Em w B bv) : Calls Tryd.prog 7 #[bv] w fun r w' => ∃ a c a' c' a'' c'', r = .returned (.tuple #[.agg #[.string ⟨#[]⟩, .slice a 0 c, .int .i64 0, .int .i64 0, .slice a' 0 c', .string ⟨#[]⟩, .slice a'' 0 c''], .bool false]) ∧ Below w.heap.size w w' := by
  rcases h with rfl | ⟨b, sb, M, v, K, R, rfl, h⟩
  · exact (last_un (Or.inl rfl)).mono fun r w' ⟨a, c, a', c', a'', c'', he, _, hb⟩ => ⟨a, c, a', c', a'', c'', he, hb⟩
  · exact (blast_any h (l := zE) rfl (t := false) rfl).mono fun r w' ⟨a, c, a', c', a'', c'', he, _, hb⟩ => ⟨a, c, a', c', a'', c'', he, hb⟩
theorem em_open (h : Em w B bv) : Calls Tryd.prog 14 #[bv] w fun r w' => ∃ a c, r = .returned (.slice a 0 c) ∧ Below w.heap.size w w' := by
  rcases h with rfl | ⟨b, sb, M, v, K, R, rfl, h⟩
  · exact (open_un (Or.inl rfl)).mono fun r w' ⟨he, hw⟩ => ⟨none, 0, he, by rw [hw]; exact Below.refl _ _⟩
  · refine (open_any h).mono fun r w' ⟨u, he, hr, hb⟩ => ?_
    obtain ⟨a, c, e, _⟩ := ERow.isSlice hr
    exact ⟨a, c, by rw [he, e]; rfl, hb⟩
theorem em_list (h : Em w B bv) : Calls Tryd.prog 15 #[bv] w fun r w' => ∃ a c, r = .returned (.slice a 0 c) ∧ Below w.heap.size w w' := by
  rcases h with rfl | ⟨b, sb, M, v, K, R, rfl, h⟩
  · exact (list_un (Or.inl rfl)).mono fun r w' ⟨he, hw⟩ => ⟨none, 0, he, by rw [hw]; exact Below.refl _ _⟩
  · exact (list_any h).mono fun r w' ⟨ls, a, c, he, _, _, hb⟩ => ⟨a, c, he, hb⟩
theorem em_count (h : Em w B bv) : Calls Tryd.prog 9 #[bv] w fun r w' => r = .returned (.tuple #[.int .i64 0, .int .i64 0]) ∧ Below w.heap.size w w' := by
  rcases h with rfl | ⟨b, sb, M, v, K, R, rfl, h⟩
  · exact (count_un (Or.inl rfl)).mono fun r w' ⟨he, hw⟩ => ⟨he, by rw [hw]; exact Below.refl _ _⟩
  · exact (count_any h).mono fun r w' ⟨he, m, hw⟩ => ⟨he, by rw [hw]; exact below_drewN (Below.refl _ _) _⟩
set_option maxRecDepth 100000 in
set_option maxHeartbeats 1000000 in
theorem sameTexts0 (a a' : Option Addr) (c c' : Nat) (w : World) : Calls Tryd.prog 40 #[.slice a 0 c, .slice a' 0 c'] w fun e w' => e = .returned (.bool true) ∧ w' = w := by
  go_enter Tryd.func40, Tryd.ntmps40
  go_wp2_with fail
  refine wp_loop_rounds 1 ?_
  rw [rounds_succ]
  go_wp2_with fail
  go_ret
  exact ⟨rfl, rfl⟩
set_option maxRecDepth 100000 in
set_option maxHeartbeats 1000000 in
theorem sameList0 (a a' : Option Addr) (c c' : Nat) (w : World) : Calls Tryd.prog 42 #[.slice a 0 c, .slice a' 0 c'] w fun e w' => e = .returned (.bool true) ∧ w' = w := by
  go_enter Tryd.func42, Tryd.ntmps42
  go_wp2_with fail
  refine wp_loop_rounds 1 ?_
  rw [rounds_succ]
  go_wp2_with fail
  go_ret
  exact ⟨rfl, rfl⟩
theorem byts0 (w : World) (p : Option Addr) : Byts w p 0 [] := ⟨rfl, fun j hj => by omega⟩
theorem same0 (a : Option Addr) (c : Nat) (a' : Option Addr) (c' : Nat) (a'' : Option Addr) (c'' : Nat) (p : Option Addr) (d : Nat) (p' : Option Addr) (d' : Nat) (p'' : Option Addr) (d'' : Nat) (w : World) : Calls Tryd.prog 10 #[.agg #[.string ⟨#[]⟩, .slice a 0 c, .int .i64 0, .int .i64 0, .slice a' 0 c', .string ⟨#[]⟩, .slice a'' 0 c''], .agg #[.string ⟨#[]⟩, .slice p 0 d, .int .i64 0, .int .i64 0, .slice p' 0 d', .string ⟨#[]⟩, .slice p'' 0 d'']] w fun r w' => r = .returned (.bool true) ∧ Below w.heap.size w w' :=
  same_true (zE.wi a c a' c' a'' c'') (p := p) (c := d) (q := p') (d := d') (r := p'') (f := d'') ⟨byts0 _ _, byts0 _ _, byts0 _ _⟩ ⟨byts0 _ _, byts0 _ _, byts0 _ _⟩ (show (0 : Nat) ≤ _ by decide) (show (0 : Nat) ≤ _ by decide) (show (0 : Nat) ≤ _ by decide)
end
section
variable {W w w' : World} {X K n : Nat} {bv mk ke rm : Value}
set_option maxRecDepth 100000 in
set_option maxHeartbeats 2000000 in
theorem tells5 (h : LS W X K bv mk ke rm n w) (hn : n ≤ 700) : Calls Tryd.prog 20 #[.pointer (some ⟨X, 0, none⟩), .int .i64 5, .slice none 0 0] w fun e w' => e = .returned (.bool true) ∧ Hid (LS W X K bv mk ke rm (n + 2) w') := by
  have HL : Hid (LS W X K bv mk ke rm n w) := h
  have x0 := h.cells.1
  clear h
  go_enter Tryd.func20, Tryd.ntmps20
  go_wp2_with fail
  refine (em_open HL.out.em).mono ?_
  rintro _ w1 ⟨a, c, rfl, b1⟩
  have L1 : Hid (LS W X K bv mk ke rm n w1) := HL.out.below b1
  have x1 := L1.out.cells.1
  clear b1 x0
  go_wp2_with fail
  refine (em_open L1.out.em).mono ?_
  rintro _ w2 ⟨a', c', rfl, b2⟩
  have L2 : Hid (LS W X K bv mk ke rm n w2) := L1.out.below b2
  have x2 := L2.out.cells.2.2.2.1
  clear b2 x1
  go_wp2_with fail
  refine (texts0 L2.out (by omega) a c).mono ?_
  rintro _ w3 ⟨rfl, H3⟩
  have x3 := H3.out.1.cells.2.2.2.1
  clear x2
  go_wp2_with fail
  refine (texts0 H3.out.1 (by omega) a' c').mono ?_
  rintro _ w4 ⟨rfl, H4⟩
  clear x3
  have L4 : Hid (LS W X K bv mk ke rm (n + 2) w4) := H4.out.1
  clear H3 H4
  go_wp2_with fail
  refine (sameTexts0 _ _ _ _ _).mono ?_
  rintro _ w9 ⟨rfl, h9⟩
  subst w9
  go_wp2_with fail
  refine (sameTexts0 _ _ _ _ _).mono ?_
  rintro _ w9 ⟨rfl, h9⟩
  subst w9
  go_wp2_with fail
  go_ret
  exact ⟨rfl, L4⟩
set_option maxRecDepth 100000 in
set_option maxHeartbeats 2000000 in
theorem tells6 (h : LS W X K bv mk ke rm n w) (hn : n ≤ 700) : Calls Tryd.prog 20 #[.pointer (some ⟨X, 0, none⟩), .int .i64 6, .slice none 0 0] w fun e w' => e = .returned (.bool true) ∧ Hid (LS W X K bv mk ke rm (n + 2) w') := by
  have HL : Hid (LS W X K bv mk ke rm n w) := h
  have x0 := h.cells.1
  clear h
  go_enter Tryd.func20, Tryd.ntmps20
  go_wp2_with fail
  refine (em_list HL.out.em).mono ?_
  rintro _ w1 ⟨a, c, rfl, b1⟩
  have L1 : Hid (LS W X K bv mk ke rm n w1) := HL.out.below b1
  have x1 := L1.out.cells.1
  clear b1 x0
  go_wp2_with fail
  refine (em_list L1.out.em).mono ?_
  rintro _ w2 ⟨a', c', rfl, b2⟩
  have L2 : Hid (LS W X K bv mk ke rm n w2) := L1.out.below b2
  clear b2 x1
  go_wp2_with fail
  refine (takeList0 L2.out (by omega) a c).mono ?_
  rintro _ w3 ⟨rfl, H3⟩
  go_wp2_with fail
  refine (takeList0 H3.out.1 (by omega) a' c').mono ?_
  rintro _ w4 ⟨rfl, H4⟩
  have L4 : Hid (LS W X K bv mk ke rm (n + 2) w4) := H4.out.1
  have x4 := L4.out.cells.2.2.1
  clear H3 H4
  go_wp2_with fail
  refine (sameList0 _ _ _ _ _).mono ?_
  rintro _ w9 ⟨rfl, h9⟩
  subst w9
  go_wp2_with fail
  refine (sameList0 _ _ _ _ _).mono ?_
  rintro _ w9 ⟨rfl, h9⟩
  subst w9
  go_wp2_with fail
  go_ret
  exact ⟨rfl, L4⟩
set_option maxRecDepth 100000 in
set_option maxHeartbeats 2000000 in
theorem tells7 (h : LS W X K bv mk ke rm n w) : Calls Tryd.prog 20 #[.pointer (some ⟨X, 0, none⟩), .int .i64 7, .slice none 0 0] w fun e w' => e = .returned (.bool true) ∧ Hid (LS W X K bv mk ke rm n w') := by
  have HL : Hid (LS W X K bv mk ke rm n w) := h
  have x0 := h.cells.1
  clear h
  go_enter Tryd.func20, Tryd.ntmps20
  go_wp2_with fail
  refine (em_count HL.out.em).mono ?_
  rintro _ w1 ⟨rfl, b1⟩
  have L1 : Hid (LS W X K bv mk ke rm n w1) := HL.out.below b1
  clear b1 x0
  go_wp2_with fail
  refine (rcount0 L1.out.cells.2.2.1).mono ?_
  rintro _ w2 ⟨rfl, b2⟩
  have L2 : Hid (LS W X K bv mk ke rm n w2) := L1.out.below b2.out
  clear b2
  go_wp2_with fail
  go_ret
  exact ⟨rfl, L2⟩
set_option maxRecDepth 100000 in
set_option maxHeartbeats 4000000 in
theorem tells4 (h : LS W X K bv mk ke rm n w) (hn : n ≤ 700) : Calls Tryd.prog 20 #[.pointer (some ⟨X, 0, none⟩), .int .i64 4, .slice none 0 0] w fun e w' => e = .returned (.bool true) ∧ Hid (LS W X K bv mk ke rm (n + 6) w') := by
  have HL : Hid (LS W X K bv mk ke rm n w) := h
  have x0 := h.cells.1
  clear h
  have nL : Hid (¬ LTy 24) := fun g => by rcases g with g | g | g | g | g <;> exact absurd g (by decide)
  go_enter Tryd.func20, Tryd.ntmps20
  go_wp2_with fail
  refine (em_last HL.out.em).mono ?_
  rintro _ w1 ⟨a, c, a', c', a'', c'', rfl, b1⟩
  have L1 : Hid (LS W X K bv mk ke rm n (w1.alloc (.cells #[.string ⟨#[]⟩, .slice a 0 c, .int .i64 0, .int .i64 0, .slice a' 0 c', .string ⟨#[]⟩, .slice a'' 0 c''] 24)) ∧ (w1.alloc (.cells #[.string ⟨#[]⟩, .slice a 0 c, .int .i64 0, .int .i64 0, .slice a' 0 c', .string ⟨#[]⟩, .slice a'' 0 c''] 24)).heap[w1.heap.size]? = some (.cells #[.string ⟨#[]⟩, .slice a 0 c, .int .i64 0, .int .i64 0, .slice a' 0 c', .string ⟨#[]⟩, .slice a'' 0 c''] 24 (0, 0))) := ⟨HL.out.below (b1.alloc b1.size _), heap_alloc_new _ _⟩
  clear b1 x0
  go_wp2_with fail
  obtain ⟨V1, hV1⟩ : ∃ V, w1.alloc (.cells #[.string ⟨#[]⟩, .slice a 0 c, .int .i64 0, .int .i64 0, .slice a' 0 c', .string ⟨#[]⟩, .slice a'' 0 c''] 24) = V := ⟨_, rfl⟩
  rw [hV1] at L1 ⊢
  clear hV1
  obtain ⟨A1, hA1⟩ : ∃ A, w1.heap.size = A := ⟨_, rfl⟩
  rw [hA1] at L1 ⊢
  clear hA1
  refine (rlast0 L1.out.1.cells.2.2.1).mono ?_
  rintro _ w2 ⟨rfl, b2⟩
  have L2 : Hid (LS W X K bv mk ke rm n (w2.alloc (.cells #[.string ⟨#[]⟩, .slice none 0 0, .int .i64 0, .int .i64 0, .slice none 0 0, .string ⟨#[]⟩, .slice none 0 0] 24)) ∧ (w2.alloc (.cells #[.string ⟨#[]⟩, .slice none 0 0, .int .i64 0, .int .i64 0, .slice none 0 0, .string ⟨#[]⟩, .slice none 0 0] 24)).heap[A1]? = some (.cells #[.string ⟨#[]⟩, .slice a 0 c, .int .i64 0, .int .i64 0, .slice a' 0 c', .string ⟨#[]⟩, .slice a'' 0 c''] 24 (0, 0)) ∧ (w2.alloc (.cells #[.string ⟨#[]⟩, .slice none 0 0, .int .i64 0, .int .i64 0, .slice none 0 0, .string ⟨#[]⟩, .slice none 0 0] 24)).heap[w2.heap.size]? = some (.cells #[.string ⟨#[]⟩, .slice none 0 0, .int .i64 0, .int .i64 0, .slice none 0 0, .string ⟨#[]⟩, .slice none 0 0] 24 (0, 0))) := ⟨L1.out.1.below (b2.alloc b2.size _), ((b2.alloc b2.size _).block A1 (blk_lt L1.out.2)).trans L1.out.2, heap_alloc_new _ _⟩
  have x2 := L2.out.1.cells.1
  clear b2 L1
  go_wp2_with fail
  obtain ⟨V2, hV2⟩ : ∃ V, w2.alloc (.cells #[.string ⟨#[]⟩, .slice none 0 0, .int .i64 0, .int .i64 0, .slice none 0 0, .string ⟨#[]⟩, .slice none 0 0] 24) = V := ⟨_, rfl⟩
  rw [hV2] at L2 ⊢
  clear hV2 x2
  obtain ⟨A2, hA2⟩ : ∃ A, w2.heap.size = A := ⟨_, rfl⟩
  rw [hA2] at L2 ⊢
  clear hA2
  refine (em_last L2.out.1.em).mono ?_
  rintro _ w3 ⟨p, d, p', d', p'', d'', rfl, b3⟩
  have L3 : Hid (LS W X K bv mk ke rm n (w3.alloc (.cells #[.string ⟨#[]⟩, .slice p 0 d, .int .i64 0, .int .i64 0, .slice p' 0 d', .string ⟨#[]⟩, .slice p'' 0 d''] 24)) ∧ (w3.alloc (.cells #[.string ⟨#[]⟩, .slice p 0 d, .int .i64 0, .int .i64 0, .slice p' 0 d', .string ⟨#[]⟩, .slice p'' 0 d''] 24)).heap[A1]? = some (.cells #[.string ⟨#[]⟩, .slice a 0 c, .int .i64 0, .int .i64 0, .slice a' 0 c', .string ⟨#[]⟩, .slice a'' 0 c''] 24 (0, 0)) ∧ (w3.alloc (.cells #[.string ⟨#[]⟩, .slice p 0 d, .int .i64 0, .int .i64 0, .slice p' 0 d', .string ⟨#[]⟩, .slice p'' 0 d''] 24)).heap[A2]? = some (.cells #[.string ⟨#[]⟩, .slice none 0 0, .int .i64 0, .int .i64 0, .slice none 0 0, .string ⟨#[]⟩, .slice none 0 0] 24 (0, 0)) ∧ (w3.alloc (.cells #[.string ⟨#[]⟩, .slice p 0 d, .int .i64 0, .int .i64 0, .slice p' 0 d', .string ⟨#[]⟩, .slice p'' 0 d''] 24)).heap[w3.heap.size]? = some (.cells #[.string ⟨#[]⟩, .slice p 0 d, .int .i64 0, .int .i64 0, .slice p' 0 d', .string ⟨#[]⟩, .slice p'' 0 d''] 24 (0, 0))) := ⟨L2.out.1.below (b3.alloc b3.size _), ((b3.alloc b3.size _).block A1 (blk_lt L2.out.2.1)).trans L2.out.2.1, ((b3.alloc b3.size _).block A2 (blk_lt L2.out.2.2)).trans L2.out.2.2, heap_alloc_new _ _⟩
  have f1 := hcell L3.out.2.1
  clear b3 L2
  go_wp2_with fail
  obtain ⟨V3, hV3⟩ : ∃ V, w3.alloc (.cells #[.string ⟨#[]⟩, .slice p 0 d, .int .i64 0, .int .i64 0, .slice p' 0 d', .string ⟨#[]⟩, .slice p'' 0 d''] 24) = V := ⟨_, rfl⟩
  rw [hV3] at L3 ⊢
  clear hV3 f1
  obtain ⟨A3, hA3⟩ : ∃ A, w3.heap.size = A := ⟨_, rfl⟩
  rw [hA3] at L3 ⊢
  clear hA3
  refine (tk0 L3.out.1 (by omega) a c a' c' a'' c'').mono ?_
  rintro _ w4 ⟨rfl, H4⟩
  have L4 : Hid (LS W X K bv mk ke rm (n + 3) w4 ∧ w4.heap[A1]? = some (.cells #[.string ⟨#[]⟩, .slice a 0 c, .int .i64 0, .int .i64 0, .slice a' 0 c', .string ⟨#[]⟩, .slice a'' 0 c''] 24 (0, 0)) ∧ w4.heap[A2]? = some (.cells #[.string ⟨#[]⟩, .slice none 0 0, .int .i64 0, .int .i64 0, .slice none 0 0, .string ⟨#[]⟩, .slice none 0 0] 24 (0, 0)) ∧ w4.heap[A3]? = some (.cells #[.string ⟨#[]⟩, .slice p 0 d, .int .i64 0, .int .i64 0, .slice p' 0 d', .string ⟨#[]⟩, .slice p'' 0 d''] 24 (0, 0))) := ⟨H4.out.1, H4.out.2.2 _ _ _ L3.out.2.1 nL.out, H4.out.2.2 _ _ _ L3.out.2.2.1 nL.out, H4.out.2.2 _ _ _ L3.out.2.2.2 nL.out⟩
  have f3 := hcell L4.out.2.2.2
  clear H4 L3
  go_wp2_with fail
  clear f3
  refine (tk0 L4.out.1 (by omega) p d p' d' p'' d'').mono ?_
  rintro _ w5 ⟨rfl, H5⟩
  have L5 : Hid (LS W X K bv mk ke rm (n + 6) w5 ∧ w5.heap[A1]? = some (.cells #[.string ⟨#[]⟩, .slice a 0 c, .int .i64 0, .int .i64 0, .slice a' 0 c', .string ⟨#[]⟩, .slice a'' 0 c''] 24 (0, 0)) ∧ w5.heap[A2]? = some (.cells #[.string ⟨#[]⟩, .slice none 0 0, .int .i64 0, .int .i64 0, .slice none 0 0, .string ⟨#[]⟩, .slice none 0 0] 24 (0, 0)) ∧ w5.heap[A3]? = some (.cells #[.string ⟨#[]⟩, .slice p 0 d, .int .i64 0, .int .i64 0, .slice p' 0 d', .string ⟨#[]⟩, .slice p'' 0 d''] 24 (0, 0))) := ⟨H5.out.1, H5.out.2.2 _ _ _ L4.out.2.1 nL.out, H5.out.2.2 _ _ _ L4.out.2.2.1 nL.out, H5.out.2.2 _ _ _ L4.out.2.2.2 nL.out⟩
  have f1 := hcell L5.out.2.1
  have f2 := hcell L5.out.2.2.1
  clear H5 L4
  go_wp2_with fail
  clear f1 f2
  refine (same0 a c a' c' a'' c'' none 0 none 0 none 0 _).mono ?_
  rintro _ w6 ⟨rfl, b6⟩
  have L6 : Hid (LS W X K bv mk ke rm (n + 6) w6) := L5.out.1.below b6
  have f2 := hcell ((b6.block A2 (blk_lt L5.out.2.2.1)).trans L5.out.2.2.1)
  have f3 := hcell ((b6.block A3 (blk_lt L5.out.2.2.2)).trans L5.out.2.2.2)
  clear b6 L5
  go_wp2_with fail
  clear f2 f3
  refine (same0 p d p' d' p'' d'' none 0 none 0 none 0 _).mono ?_
  rintro _ w7 ⟨rfl, b7⟩
  have L7 : Hid (LS W X K bv mk ke rm (n + 6) w7) := L6.out.below b7
  clear b7 L6
  go_wp2_with fail
  go_ret
  exact ⟨rfl, L7⟩
set_option maxRecDepth 100000 in
set_option maxHeartbeats 2000000 in
theorem all0 (h : LS W X K bv mk ke rm 0 w) : Calls Tryd.prog 5 #[.pointer (some ⟨X, 0, none⟩)] w fun e w' => e = .returned (.bool true) ∧ Hid (Below W.heap.size W w') := by
  have HL : Hid (LS W X K bv mk ke rm 0 w) := h
  clear h
  go_enter Tryd.func5, Tryd.ntmps5
  go_wp2_with fail
  refine (ropen0 HL.out.cells.2.2.1).mono ?_
  rintro _ w9 ⟨rfl, h9⟩
  subst w9
  go_wp2_with fail
  refine (tells4 HL.out (by omega)).mono ?_
  rintro _ w1 ⟨rfl, L1⟩
  clear HL
  go_wp2_with fail
  refine (tells5 L1.out (by omega)).mono ?_
  rintro _ w2 ⟨rfl, L2⟩
  clear L1
  go_wp2_with fail
  refine (tells6 L2.out (by omega)).mono ?_
  rintro _ w3 ⟨rfl, L3⟩
  clear L2
  go_wp2_with fail
  refine (tells7 L3.out).mono ?_
  rintro _ w4 ⟨rfl, L4⟩
  have HB : Hid (Below W.heap.size W w4) := L4.out.bel
  clear L3 L4
  go_wp2_with fail
  go_ret
  exact ⟨rfl, HB⟩
end
end Go.Proofs.YtgoknmikpanhbaaDoor
