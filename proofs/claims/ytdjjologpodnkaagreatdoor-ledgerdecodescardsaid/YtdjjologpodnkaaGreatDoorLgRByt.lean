/-
  The document's bytes: eight, four, cond, a field.
-/
import Derived.Test.YtdjjologpodnkaaGreatDoorLgEnc
import Derived.Test.YtdjjologpodnkaaGreatDoorLgRWel3
namespace Go.Proofs.YtdjjologpodnkaaGreatDoor
open Go.RowKit

theorem brow_four (w : World) (a b c d : Int) : BRow (w.alloc (.cells #[.int .u8 a, .int .u8 b, .int .u8 c, .int .u8 d] 5)) w.heap.size (.slice (some ⟨w.heap.size, 0, none⟩) 4 4) [a, b, c, d] :=
  ⟨rfl, Or.inr ⟨w.heap.size, 4, _, rfl, Nat.le_refl _, heap_alloc_new _ _, Nat.le_refl _, by unfold maxLen; omega, rfl, rfl⟩⟩
theorem brow_three (w : World) (a b c : Int) : BRow (w.alloc (.cells #[.int .u8 a, .int .u8 b, .int .u8 c] 5)) w.heap.size (.slice (some ⟨w.heap.size, 0, none⟩) 3 3) [a, b, c] :=
  ⟨rfl, Or.inr ⟨w.heap.size, 3, _, rfl, Nat.le_refl _, heap_alloc_new _ _, Nat.le_refl _, by unfold maxLen; omega, rfl, rfl⟩⟩
theorem brow_one (w : World) (a : Int) : BRow (w.alloc (.cells #[.int .u8 a] 5)) w.heap.size (.slice (some ⟨w.heap.size, 0, none⟩) 1 1) [a] :=
  ⟨rfl, Or.inr ⟨w.heap.size, 1, _, rfl, Nat.le_refl _, heap_alloc_new _ _, Nat.le_refl _, by unfold maxLen; omega, rfl, rfl⟩⟩
theorem numL_four {n : Nat} (hn : n ≤ 100000) : numL (n : Int) 4 = [(n : Int) / 16777216, (n : Int) / 65536, (n : Int) / 256 % 256, (n : Int) % 256] := by
  unfold numL numL numL numL numL byN
  simp only [Nat.reduceMul, Int.reducePow, List.cons.injEq, and_true]
  refine ⟨?_, ?_, ?_, ?_⟩ <;> first | omega | simp
set_option maxRecDepth 100000 in
set_option maxHeartbeats 1000000 in
theorem rFour_any {w : World} {po : Option Addr} {n c : Nat} {ys : List Int} (h : Byts w po n ys) (hn : n ≤ 100000) : Calls Tryz.prog 33 #[.slice po n c] w (BytQ w (numL n 4 ++ ys)) := by
  have b1 := (Below.refl w.heap.size w).alloc (Nat.le_refl _) (.cells #[.int .u8 ((n : Int) / 16777216), .int .u8 ((n : Int) / 65536), .int .u8 ((n : Int) / 256 % 256), .int .u8 ((n : Int) % 256)] 5)
  obtain ⟨a', c', w', hr, r1, o1⟩ := run_app c (brow_four w ((n : Int) / 16777216) ((n : Int) / 65536) ((n : Int) / 256 % 256) ((n : Int) % 256)) (h.below b1) (by simp; omega) b1.size
  have HE : Hid (BytQ w (numL n 4 ++ ys) (.returned (.slice a' (4 + n) c')) w') := by
    refine ⟨a', c', ?_, ?_, b1.trans (o1.below b1.size fun q hq => ?_)⟩
    · rw [List.length_append, numL_len, h.len]
    · rw [List.length_append, numL_len, h.len, numL_four hn]; exact r1
    · simp [Value.ownBlock] at hq; omega
  have hr' : (Builtin.append_ #[22, 22] 22 #[.slice (some ⟨w.heap.size, 0, none⟩) 4 4, .slice po n c]).run Tryz.prog (w.alloc (.cells #[.int .u8 ((n : Int) / 16777216), .int .u8 ((n : Int) / 65536), .int .u8 ((n : Int) / 256 % 256), .int .u8 ((n : Int) % 256)] 5)) = .ok (.slice a' (4 + n) c') w' := hr
  clear hr r1 o1 b1 h
  go_enter Tryz.func33, Tryz.ntmps33
  go_wp2_with (at_builtin; refine wpList_append_run rfl (.tmp 19) (.tmp 20) 22 _ rfl hr' ?_)
  go_ret
  exact HE.out
set_option maxRecDepth 100000 in
set_option maxHeartbeats 1000000 in
theorem rEight_any {w : World} (n : Int) : Calls Tryz.prog 35 #[.int .i64 n] w (BytQ w (numL n 8)) := by
  go_enter Tryz.func35, Tryz.ntmps35
  go_wp2_with fail
  go_loopw [3, 4] (fun t0 t7 wx => ∃ (j : Nat) (a : Option Addr) (c : Nat) (d : List Int), j ≤ 8 ∧ t7 = .int .i64 ((j : Int) - 1) ∧ t0 = .slice a d.length c ∧ Hid (BRow wx w.heap.size t0 d ∧ d ++ numL n j = numL n 8 ∧ Below w.heap.size w wx)) (fun _ t7 _ => ((intOf t7) + 1).toNat)
  case atStart => exact ⟨8, none, 0, [], Nat.le_refl _, rfl, rfl, ERow.nil _ _ _ _ _, rfl, Below.refl _ _⟩
  case round =>
    obtain ⟨j, a, c, d, hj, rfl, rfl, HI⟩ := hrel
    rcases Nat.eq_zero_or_pos j with hj0 | hj0
    · subst hj0
      have HI2 := HI.out
      rw [numL, List.append_nil] at HI2
      obtain ⟨r1, rfl, o1⟩ := HI2
      have HE : Hid (BytQ w (numL n 8) (.returned (.slice a (numL n 8).length c)) wr) := ⟨a, c, rfl, r1, o1⟩
      clear HI r1 o1
      go_wp2_with fail
      go_ret
      exact HE.out
    · have hge : (j : Int) - 1 ≥ 0 := by omega
      have w3 : IntKind.i64.wrap (8 * ((j : Int) - 1)) = 8 * ((j : Int) - 1) := by rw [IntKind.wrap_i64]; omega
      have w4 : IntKind.u64.wrap (8 * ((j : Int) - 1)) = 8 * ((j : Int) - 1) := by rw [IntKind.wrap_u64]; omega
      have hdl : d.length + j = 8 := by
        have := congrArg List.length HI.out.2.1
        rwa [List.length_append, numL_len, numL_len] at this
      obtain ⟨a', c', w', hr, r1, o1, l1⟩ := run_epush (P := Tryz.prog) (t := 22) Tryz.underlying22 celB encB_len encB_one HI.out.1 (n / 2 ^ (8 * (j - 1)) % 256) #[.int .u8 (n / 2 ^ (8 * (j - 1)) % 256)] rfl (by omega) (by omega) HI.out.2.2.size
      have HE : Hid (BRow w' w.heap.size (.slice a' (d.length + 1) c') (d ++ [n / 2 ^ (8 * (j - 1)) % 256]) ∧ (d ++ [n / 2 ^ (8 * (j - 1)) % 256]) ++ numL n (j - 1) = numL n 8 ∧ Below w.heap.size w w') := by
        refine ⟨r1, ?_, HI.out.2.2.trans (o1.below HI.out.2.2.size fun q hq => (BRow.own HI.out.1 hq).1)⟩
        have h2 := HI.out.2.1
        rw [show j = (j - 1) + 1 by omega, numL] at h2
        rw [List.append_assoc]
        exact h2
      clear r1 o1 l1 HI
      go_wp2_with (at_builtin; refine wpList_append_run rfl (.tmp 9) (.tmp 16) 22 _ rfl hr ?_)
      go_roundw
      case rel => exact ⟨j - 1, a', c', d ++ [n / 2 ^ (8 * (j - 1)) % 256], by omega, by go_num, by simp, HE.out⟩
      case measure => simp [intOf]; omega
theorem rBit_any (b : Bool) (w : World) : Calls Tryz.prog 58 #[.bool b] w fun e w' => e = .returned (.int .u8 (bitI b)) ∧ w' = w := by
  cases b
  all_goals
    go_enter Tryz.func58, Tryz.ntmps58
    go_wp2
    go_ret
    exact ⟨rfl, rfl⟩
set_option maxRecDepth 100000 in
set_option maxHeartbeats 1000000 in
theorem rCond_any (e : Bool) (x y : Int) (w : World) : Calls Tryz.prog 34 #[.agg #[.bool e, .int .i64 x, .int .i64 y]] w (BytQ w [bitI e, IntKind.u8.wrap x, IntKind.u8.wrap y]) := by
  have bv := (Below.refl w.heap.size w).alloc (Nat.le_refl _) (.cells #[.bool e, .int .i64 x, .int .i64 y] 24)
  have bx := Box.new w #[.bool e, .int .i64 x, .int .i64 y] 24
  have hbit := rBit_any e
  generalize bitI e = q at hbit ⊢
  have HV : Hid (Below w.heap.size w (w.alloc (.cells #[.bool e, .int .i64 x, .int .i64 y] 24))) := bv
  go_enter Tryz.func34, Tryz.ntmps34
  go_wp2_with fail
  generalize w.alloc (.cells #[.bool e, .int .i64 x, .int .i64 y] 24) = V at bv bx HV ⊢
  obtain ⟨xb, hxb⟩ : ∃ xb, w.heap.size = xb := ⟨_, rfl⟩
  rw [hxb] at bx ⊢
  have k0 : V.cell? ⟨xb, 0, none⟩ = some (.bool e) := bx.cell 0
  have k1 : V.cell? ⟨xb, 1, none⟩ = some (.int .i64 x) := bx.cell 1
  have k2 : V.cell? ⟨xb, 2, none⟩ = some (.int .i64 y) := bx.cell 2
  have hlt := bx.lt
  have HE : Hid (BytQ w [q, IntKind.u8.wrap x, IntKind.u8.wrap y] (.returned (.slice (some ⟨V.heap.size, 0, none⟩) 3 3)) (V.drew.alloc (.cells #[.int .u8 q, .int .u8 (IntKind.u8.wrap x), .int .u8 (IntKind.u8.wrap y)] 5))) := ⟨_, _, rfl, ERow.base (brow_three V.drew _ _ _) HV.out.size, (Below.drew HV.out).alloc (by exact HV.out.size) _⟩
  clear bv bx hxb HV
  go_region_held3 (fun z => z.cell? ⟨xb, 0, none⟩ = some (.bool e) ∧ z.cell? ⟨xb, 1, none⟩ = some (.int .i64 x) ∧ z.cell? ⟨xb, 2, none⟩ = some (.int .i64 y)) (simp [*, World.cell?_alloc_lt _ _ ⟨xb, 0, none⟩ hlt, World.cell?_alloc_lt _ _ ⟨xb, 1, none⟩ hlt, World.cell?_alloc_lt _ _ ⟨xb, 2, none⟩ hlt]) (first | (go_at_call 58; refine (hbit _).mono ?_; rintro _ w9 ⟨rfl, h9⟩; subst w9; skip))
  go_wp2_with fail
  go_ret
  exact HE.out
end Go.Proofs.YtdjjologpodnkaaGreatDoor
