/-
  isWell of each kind of field.
-/
import Derived.Test.YtdjjologpodnkaaGreatDoorLgCond
import Derived.Shelf.Abstract
namespace Go.Proofs.YtdjjologpodnkaaGreatDoor
open Go.RowKit

theorem none_well (b : Bool) (w : World) : Calls Tryz.prog 119 #[.bool b] w fun e w' => e = .returned (.bool b) ∧ w' = w := by
  go_enter Tryz.func119, Tryz.ntmps119
  go_wp2
  go_ret
  exact ⟨rfl, rfl⟩
set_option maxHeartbeats 1000000 in
theorem num_well (B o : Nat) (v sz lo hi : Int) (w : World) (hc : w.cell? ⟨B, o, none⟩ = some (.int .i64 v)) : Calls Tryz.prog 113 #[.agg #[.pointer (some ⟨B, o, none⟩), .int .i64 sz, .int .i64 lo, .int .i64 hi]] w fun e w' => e = .returned (.bool (decide (lo ≤ v) && decide (v ≤ hi))) ∧ Below w.heap.size w w' := by
  have hb : B < w.heap.size := cell_lt hc
  have bv := (Below.refl w.heap.size w).alloc (Nat.le_refl _) (.cells #[.pointer (some ⟨B, o, none⟩), .int .i64 sz, .int .i64 lo, .int .i64 hi] 128)
  have bx := (Box.new w #[.pointer (some ⟨B, o, none⟩), .int .i64 sz, .int .i64 lo, .int .i64 hi] 128).cell
  have c1 := (bv.cell (p := ⟨B, o, none⟩) hb).trans hc
  have hi_ := isWithin_any v lo hi
  have HB : Hid (Below w.heap.size w (w.alloc (.cells #[.pointer (some ⟨B, o, none⟩), .int .i64 sz, .int .i64 lo, .int .i64 hi] 128))) := bv
  clear bv hc
  go_enter Tryz.func113, Tryz.ntmps113
  go_wp2_with fail
  generalize w.alloc (.cells #[.pointer (some ⟨B, o, none⟩), .int .i64 sz, .int .i64 lo, .int .i64 hi] 128) = V at bx c1 HB ⊢
  obtain ⟨xb, hxb⟩ : ∃ xb, w.heap.size = xb := ⟨_, rfl⟩
  rw [hxb] at bx ⊢
  clear hxb
  go_quiet ((go_at_call 75; exact Calls.quiet_of_same (hi_ _)))
  go_wp2_with fail
  go_ret
  exact ⟨rfl, below_drewN HB.out _⟩
set_option maxRecDepth 100000 in
set_option maxHeartbeats 2000000 in
theorem byt_well (B o : Nat) (a : Option Addr) (n c : Nat) (lo hi : Int) (w : World) (hc : w.cell? ⟨B, o, none⟩ = some (.slice a n c)) : Calls Tryz.prog 134 #[.agg #[.pointer (some ⟨B, o, none⟩), .int .i64 lo, .int .i64 hi, fv 74]] w fun e w' => e = .returned (.bool (decide (lo ≤ (n : Int)) && decide ((n : Int) ≤ hi))) ∧ Below w.heap.size w w' := by
  have hb : B < w.heap.size := cell_lt hc
  have bv := (Below.refl w.heap.size w).alloc (Nat.le_refl _) (.cells #[.pointer (some ⟨B, o, none⟩), .int .i64 lo, .int .i64 hi, fv 74] 146)
  have bx := (Box.new w #[.pointer (some ⟨B, o, none⟩), .int .i64 lo, .int .i64 hi, fv 74] 146).cell
  have c1 := (bv.cell (p := ⟨B, o, none⟩) hb).trans hc
  have hi_ := isWithin_any (n : Int) lo hi
  have ha_ := isAny_any (.slice a n c)
  have HB : Hid (Below w.heap.size w (w.alloc (.cells #[.pointer (some ⟨B, o, none⟩), .int .i64 lo, .int .i64 hi, fv 74] 146))) := bv
  clear bv hc
  cases hq : (decide (lo ≤ (n : Int)) && decide ((n : Int) ≤ hi))
  all_goals
    rw [hq] at hi_
    clear hq
    go_enter Tryz.func134, Tryz.ntmps134
    go_wp2_with fail
    generalize w.alloc (.cells #[.pointer (some ⟨B, o, none⟩), .int .i64 lo, .int .i64 hi, fv 74] 146) = V at bx c1 HB ⊢
    obtain ⟨xb, hxb⟩ : ∃ xb, w.heap.size = xb := ⟨_, rfl⟩
    rw [hxb] at bx ⊢
    clear hxb
    go_quiet ((first | (go_at_call 75; exact Calls.quiet_of_same (hi_ _)) | (go_at_call 74; exact Calls.quiet_of_same (ha_ _))))
    go_wp2_with fail
    go_ret
    exact ⟨rfl, below_drewN HB.out _⟩
set_option maxRecDepth 100000 in
set_option maxHeartbeats 2000000 in
theorem str_well_f (f : FuncId) (q : Bool) (hen : ∀ args x, (callFunc f args).run Tryz.prog x = .ok (.enter f args) x) (B o : Nat) (s : ByteArray) (lo hi : Int) (w : World) (hc : w.cell? ⟨B, o, none⟩ = some (.string s)) (hf : ∀ w, Calls Tryz.prog f #[.string s] w fun e w' => e = .returned (.bool q) ∧ Below w.heap.size w w') : Calls Tryz.prog 130 #[.agg #[.pointer (some ⟨B, o, none⟩), .int .i64 lo, .int .i64 hi, fv f]] w fun e w' => e = .returned (.bool ((decide (lo ≤ (s.size : Int)) && decide ((s.size : Int) ≤ hi)) && q)) ∧ Below w.heap.size w w' := by
  have hb : B < w.heap.size := cell_lt hc
  have bv := (Below.refl w.heap.size w).alloc (Nat.le_refl _) (.cells #[.pointer (some ⟨B, o, none⟩), .int .i64 lo, .int .i64 hi, fv f] 139)
  have bx := Box.new w #[.pointer (some ⟨B, o, none⟩), .int .i64 lo, .int .i64 hi, fv f] 139
  have c1 := (bv.cell (p := ⟨B, o, none⟩) hb).trans hc
  have hi_ := isWithin_any (s.size : Int) lo hi
  have HB : Hid (Below w.heap.size w (w.alloc (.cells #[.pointer (some ⟨B, o, none⟩), .int .i64 lo, .int .i64 hi, fv f] 139))) := bv
  clear bv hc
  cases hq : (decide (lo ≤ (s.size : Int)) && decide ((s.size : Int) ≤ hi))
  all_goals
    rw [hq] at hi_
    clear hq
    go_enter Tryz.func130, Tryz.ntmps130
    go_wp2_with fail
    generalize w.alloc (.cells #[.pointer (some ⟨B, o, none⟩), .int .i64 lo, .int .i64 hi, fv f] 139) = V at bx c1 HB ⊢
    obtain ⟨xb, hxb⟩ : ∃ xb, w.heap.size = xb := ⟨_, rfl⟩
    rw [hxb] at bx ⊢
    clear hxb
    have lx := sub_box bx
    have lc : ∀ x : Sub V, x.1.cell? ⟨B, o, none⟩ = some (.string s) := fun x => by rw [x.2.cell (p := ⟨B, o, none⟩) (cell_lt c1)]; exact c1
    have ci : ∀ x : Sub V, Calls Tryz.prog 75 #[.int .i64 (s.size : Int), .int .i64 lo, .int .i64 hi] x.1 fun r x' => _ ∧ ∃ y : Sub V, x' = y.1 := fun x => (hi_ x.1).mono fun r x' ⟨h1, h2⟩ => ⟨h1, x, h2⟩
    have cf := fun x : Sub V => sub_of hf x
    haveI hne : Nonempty (Sub V) := ⟨⟨V, Below.refl _ _⟩⟩
    clear bx c1 hi_ hf
    refine wp_region_class (V := V) (Below.refl _ _) (by kernel_rfl) (by kernel_rfl) ?_
    repeat (go_big_quiet_step ((first | (go_at_call 75; exact ci _) | (exact cf _))))
    refine wpQuiet_nil ?_
    rintro wc ⟨xwc, rfl⟩
    have HBC : Hid (Below w.heap.size w xwc.1) := below_then HB.out xwc.2
    clear lx lc ci cf hne
    go_wp2_with fail
    go_ret
    exact ⟨rfl, HBC.out⟩
theorem str_well (k : Nat) (B o : Nat) (s : ByteArray) (lo hi : Int) (w : World) (hc : w.cell? ⟨B, o, none⟩ = some (.string s)) : Calls Tryz.prog 130 #[.agg #[.pointer (some ⟨B, o, none⟩), .int .i64 lo, .int .i64 hi, fv (isF k)]] w fun e w' => e = .returned (.bool ((decide (lo ≤ (s.size : Int)) && decide ((s.size : Int) ≤ hi)) && isS k s)) ∧ Below w.heap.size w w' := by
  refine str_well_f (isF k) (isS k s) ?_ B o s lo hi w hc (fun w => isF_any k s w)
  intro args x
  match k with
  | 0 => exact (enters_of Tryz.func73 (by kernel_rfl) rfl) args x
  | 1 => exact (enters_of Tryz.func67 (by kernel_rfl) rfl) args x
  | 2 => exact (enters_of Tryz.func68 (by kernel_rfl) rfl) args x
  | _ + 3 => exact (enters_of Tryz.func69 (by kernel_rfl) rfl) args x
end Go.Proofs.YtdjjologpodnkaaGreatDoor
