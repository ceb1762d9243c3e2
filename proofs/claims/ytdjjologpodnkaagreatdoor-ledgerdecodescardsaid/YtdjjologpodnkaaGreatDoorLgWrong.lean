/-
  The list of fields; the first that is not well.
-/
import Derived.Test.YtdjjologpodnkaaGreatDoorLgOf
import Derived.Test.YtdjjologpodnkaaGreatDoorLgWell
import Derived.Laws.EntriesVeiled
import Derived.Deep.WholeRow
namespace Go.Proofs.YtdjjologpodnkaaGreatDoor
open Go.RowKit

abbrev fdA : Array Value := #[fv 46, fv 47, fv 48, fv 49, fv 50, fv 51, fv 52, fv 53, fv 54, fv 55]
def fnI : Nat → FuncId
  | 0 => 46
  | 1 => 47
  | 2 => 48
  | 3 => 49
  | 4 => 50
  | 5 => 51
  | 6 => 52
  | 7 => 53
  | 8 => 54
  | _ => 55
set_option maxRecDepth 100000 in
set_option maxHeartbeats 2000000 in
theorem fields_any (w : World) : Calls Tryz.prog 30 #[] w fun r w' => r = .returned (.agg fdA) ∧ Below w.heap.size w w' := by
  have hl := run_loadVar_new (P := Tryz.prog) w 69 fdA 10 68 Tryz.underlying69 (by kernel_rfl)
  have hs : ∀ c, (c : Array Value).size = 10 → (w.alloc (.cells c 69)).setRow w.heap.size fdA = w.alloc (.cells fdA 69) := fun c _ => World.setRow_alloc_new w c fdA _
  go_enter Tryz.func30, Tryz.ntmps30
  go_wp2_with (refine wpList_store_row rfl 69 (.tmp 0) (.tmp 1) rfl w.heap.size fdA rfl rfl 69 _ (heap_alloc_last w _) ?_ ?_ ?_ ?_; kernel_rfl; kernel_rfl; kernel_rfl; rw [hs _ rfl])
  refine bodyPost_ret (v := .agg fdA) ?_ rfl ⟨rfl, ?_⟩
  · simp [results, Tryz.results30, asAddr]
    exact hl
  · exact (Below.refl _ _).alloc (Nat.le_refl _) _
theorem idx_0 (w : World) : (Instr.index 69 (.agg fdA) (.int .i64 0)).run Tryz.prog w = .ok (fv 46) w := by kernel_rfl
theorem idx_1 (w : World) : (Instr.index 69 (.agg fdA) (.int .i64 1)).run Tryz.prog w = .ok (fv 47) w := by kernel_rfl
theorem idx_2 (w : World) : (Instr.index 69 (.agg fdA) (.int .i64 2)).run Tryz.prog w = .ok (fv 48) w := by kernel_rfl
theorem idx_3 (w : World) : (Instr.index 69 (.agg fdA) (.int .i64 3)).run Tryz.prog w = .ok (fv 49) w := by kernel_rfl
theorem idx_4 (w : World) : (Instr.index 69 (.agg fdA) (.int .i64 4)).run Tryz.prog w = .ok (fv 50) w := by kernel_rfl
theorem idx_5 (w : World) : (Instr.index 69 (.agg fdA) (.int .i64 5)).run Tryz.prog w = .ok (fv 51) w := by kernel_rfl
theorem idx_6 (w : World) : (Instr.index 69 (.agg fdA) (.int .i64 6)).run Tryz.prog w = .ok (fv 52) w := by kernel_rfl
theorem idx_7 (w : World) : (Instr.index 69 (.agg fdA) (.int .i64 7)).run Tryz.prog w = .ok (fv 53) w := by kernel_rfl
theorem idx_8 (w : World) : (Instr.index 69 (.agg fdA) (.int .i64 8)).run Tryz.prog w = .ok (fv 54) w := by kernel_rfl
theorem idx_9 (w : World) : (Instr.index 69 (.agg fdA) (.int .i64 9)).run Tryz.prog w = .ok (fv 55) w := by kernel_rfl
theorem ten {i : Nat} (h : i < 10) : i = 0 ∨ i = 1 ∨ i = 2 ∨ i = 3 ∨ i = 4 ∨ i = 5 ∨ i = 6 ∨ i = 7 ∨ i = 8 ∨ i = 9 := by omega
theorem idx_any {i : Nat} (h : i < 10) (w : World) : (Instr.index 69 (.agg fdA) (.int .i64 (i : Int))).run Tryz.prog w = .ok (fv (fnI i)) w := by
  rcases ten h with rfl | rfl | rfl | rfl | rfl | rfl | rfl | rfl | rfl | rfl
  · exact idx_0 w
  · exact idx_1 w
  · exact idx_2 w
  · exact idx_3 w
  · exact idx_4 w
  · exact idx_5 w
  · exact idx_6 w
  · exact idx_7 w
  · exact idx_8 w
  · exact idx_9 w
theorem en_any {i : Nat} (h : i < 10) : Enters Tryz.prog (fnI i) := by
  rcases ten h with rfl | rfl | rfl | rfl | rfl | rfl | rfl | rfl | rfl | rfl
  · exact enters_of Tryz.func46 (by kernel_rfl) rfl
  · exact enters_of Tryz.func47 (by kernel_rfl) rfl
  · exact enters_of Tryz.func48 (by kernel_rfl) rfl
  · exact enters_of Tryz.func49 (by kernel_rfl) rfl
  · exact enters_of Tryz.func50 (by kernel_rfl) rfl
  · exact enters_of Tryz.func51 (by kernel_rfl) rfl
  · exact enters_of Tryz.func52 (by kernel_rfl) rfl
  · exact enters_of Tryz.func53 (by kernel_rfl) rfl
  · exact enters_of Tryz.func54 (by kernel_rfl) rfl
  · exact enters_of Tryz.func55 (by kernel_rfl) rfl
theorem of_any {i : Nat} (h : i < 10) (r : Rec) (B : Nat) (w : World) (hb : Box w B (#[.int .i64 r.kd, .string r.ct, .slice r.tp r.tn r.tc, .bool r.e, .int .i64 r.a, .int .i64 r.p, .int .i64 r.nu, .int .i64 r.tk, .int .i64 r.st, .string r.cd, .slice r.cp r.cn r.cc, .slice r.ap r.an r.ac])) : Calls Tryz.prog (fnI i) #[.pointer (some ⟨B, 0, none⟩)] w fun e w' => e = .returned (fdV B (fdOf r i)) ∧ w' = w := by
  rcases ten h with rfl | rfl | rfl | rfl | rfl | rfl | rfl | rfl | rfl | rfl
  · exact of_0 r B w hb
  · exact of_1 r B w hb
  · exact of_2 r B w hb
  · exact of_3 r B w hb
  · exact of_4 r B w hb
  · exact of_5 r B w hb
  · exact of_6 r B w hb
  · exact of_7 r B w hb
  · exact of_8 r B w hb
  · exact of_9 r B w hb
theorem none_well' (b : Bool) (w : World) : Calls Tryz.prog 119 #[.bool b] w fun e w' => e = .returned (.bool b) ∧ Below w.heap.size w w' := (none_well b w).mono fun _ _ ⟨h1, h2⟩ => ⟨h1, by rw [h2]; exact Below.refl _ _⟩
/-- Where a field lies. -/
def FdIn (w : World) (B : Nat) : Fd → Prop
  | .num o v _ _ _ => w.cell? ⟨B, o, none⟩ = some (.int .i64 v)
  | .str o s _ _ _ => w.cell? ⟨B, o, none⟩ = some (.string s)
  | .byt o a n c _ _ _ => w.cell? ⟨B, o, none⟩ = some (.slice a n c)
  | .cnd e a p => w.cell? ⟨B, 3, none⟩ = some (.bool e) ∧ w.cell? ⟨B, 4, none⟩ = some (.int .i64 a) ∧ w.cell? ⟨B, 5, none⟩ = some (.int .i64 p)
  | .non _ => True
theorem fdIn_of {w : World} {B : Nat} {r : Rec} (h : Box w B (#[.int .i64 r.kd, .string r.ct, .slice r.tp r.tn r.tc, .bool r.e, .int .i64 r.a, .int .i64 r.p, .int .i64 r.nu, .int .i64 r.tk, .int .i64 r.st, .string r.cd, .slice r.cp r.cn r.cc, .slice r.ap r.an r.ac])) {i : Nat} (hi : i < 10) : FdIn w B (fdOf r i) := by
  have hc := h.cell
  rcases ten hi with rfl | rfl | rfl | rfl | rfl | rfl | rfl | rfl | rfl | rfl
  all_goals (unfold fdOf; repeat' split)
  all_goals (unfold FdIn)
  all_goals (first | trivial | exact hc _ | exact ⟨hc _, hc _, hc _⟩)
theorem wr_step {r : Rec} {i : Nat} (hi : i < 10) (h : wrFrom r i (10 - i) = wrR r) : (wl r i = true → wrFrom r (i + 1) (10 - (i + 1)) = wrR r) ∧ (wl r i = false → wrR r = i + 1) := by
  rw [show 10 - i = (10 - (i + 1)) + 1 by omega, wrFrom] at h
  constructor
  · intro g; rw [if_pos g] at h; exact h
  · intro g; rw [if_neg (by rw [g]; decide)] at h; exact h.symm
theorem wr_le (r : Rec) : ∀ (k i : Nat), wrFrom r i k ≤ i + k
  | 0, i => by simp [wrFrom]
  | k + 1, i => by
    unfold wrFrom
    split
    · have := wr_le r k (i + 1); omega
    · omega
set_option maxRecDepth 100000 in
set_option maxHeartbeats 4000000 in
theorem wrongField_any (r : Rec) (w : World) (hV : PVx w) : Calls Tryz.prog 15 #[.agg #[.int .i64 r.kd, .string r.ct, .slice r.tp r.tn r.tc, .bool r.e, .int .i64 r.a, .int .i64 r.p, .int .i64 r.nu, .int .i64 r.tk, .int .i64 r.st, .string r.cd, .slice r.cp r.cn r.cc, .slice r.ap r.an r.ac]] w fun e w' => e = .returned (.int .i64 (wrR r : Nat)) ∧ Below w.heap.size w w' := by
  have bv := (Below.refl w.heap.size w).alloc (Nat.le_refl _) (.cells (#[.int .i64 r.kd, .string r.ct, .slice r.tp r.tn r.tc, .bool r.e, .int .i64 r.a, .int .i64 r.p, .int .i64 r.nu, .int .i64 r.tk, .int .i64 r.st, .string r.cd, .slice r.cp r.cn r.cc, .slice r.ap r.an r.ac]) 26)
  have bx := Box.new w (#[.int .i64 r.kd, .string r.ct, .slice r.tp r.tn r.tc, .bool r.e, .int .i64 r.a, .int .i64 r.p, .int .i64 r.nu, .int .i64 r.tk, .int .i64 r.st, .string r.cd, .slice r.cp r.cn r.cc, .slice r.ap r.an r.ac]) 26
  have HB0 : Hid (Below w.heap.size w (w.alloc (.cells (#[.int .i64 r.kd, .string r.ct, .slice r.tp r.tn r.tc, .bool r.e, .int .i64 r.a, .int .i64 r.p, .int .i64 r.nu, .int .i64 r.tk, .int .i64 r.st, .string r.cd, .slice r.cp r.cn r.cc, .slice r.ap r.an r.ac]) 26))) := bv
  have HX0 : Hid (Box (w.alloc (.cells (#[.int .i64 r.kd, .string r.ct, .slice r.tp r.tn r.tc, .bool r.e, .int .i64 r.a, .int .i64 r.p, .int .i64 r.nu, .int .i64 r.tk, .int .i64 r.st, .string r.cd, .slice r.cp r.cn r.cc, .slice r.ap r.an r.ac]) 26)) w.heap.size (#[.int .i64 r.kd, .string r.ct, .slice r.tp r.tn r.tc, .bool r.e, .int .i64 r.a, .int .i64 r.p, .int .i64 r.nu, .int .i64 r.tk, .int .i64 r.st, .string r.cd, .slice r.cp r.cn r.cc, .slice r.ap r.an r.ac])) := bx
  have HV : Hid (PVx w) := hV
  have cfs := fields_any (w.alloc (.cells (#[.int .i64 r.kd, .string r.ct, .slice r.tp r.tn r.tc, .bool r.e, .int .i64 r.a, .int .i64 r.p, .int .i64 r.nu, .int .i64 r.tk, .int .i64 r.st, .string r.cd, .slice r.cp r.cn r.cc, .slice r.ap r.an r.ac]) 26))
  have hidx : ∀ (i : Nat), i < 10 → ∀ w, _ := fun i h w => idx_any h w
  clear bv bx hV
  generalize fdA = FA at cfs hidx
  go_enter Tryz.func15, Tryz.ntmps15
  go_wp2_with fail
  refine cfs.mono ?_
  rintro _ w1 ⟨rfl, b1⟩
  obtain ⟨B, hB⟩ : ∃ B, w.heap.size = B := ⟨_, rfl⟩
  have HX : Hid (Box w1 B (#[.int .i64 r.kd, .string r.ct, .slice r.tp r.tn r.tc, .bool r.e, .int .i64 r.a, .int .i64 r.p, .int .i64 r.nu, .int .i64 r.tk, .int .i64 r.st, .string r.cd, .slice r.cp r.cn r.cc, .slice r.ap r.an r.ac])) := by rw [← hB]; exact HX0.out.below b1
  have HB : Hid (Below w.heap.size w w1) := below_then HB0.out b1
  rw [hB]
  clear cfs b1 HX0 HB0 hB
  go_wp2_with fail
  go_loopw [6] (fun t wx => ∃ i : Nat, i ≤ 10 ∧ t = .int .i64 i ∧ Hid (wrFrom r i (10 - i) = wrR r ∧ Below w1.heap.size w1 wx)) (fun t _ => 10 - (intOf t).toNat)
  case atStart => exact ⟨0, Nat.zero_le _, rfl, rfl, Below.refl _ _⟩
  case round =>
    obtain ⟨i, hi, rfl, HI⟩ := hrel
    by_cases hlt : i < 10
    · have hlt1 : (i : Int) < 10 := by omega
      have hix := hidx i hlt
      have hof := of_any hlt r B _ (HX.out.below HI.out.2)
      have hen : ∀ (args : Array Value) (x : World), (callFunc (fnI i) args).run Tryz.prog x = .ok (.enter (fnI i) args) x := en_any hlt
      have hin := fdIn_of (HX.out.below HI.out.2) hlt
      have HS : Hid ((wl r i = true → wrFrom r (i + 1) (10 - (i + 1)) = wrR r) ∧ (wl r i = false → wrR r = i + 1)) := wr_step hlt HI.out.1
      obtain ⟨F, hF⟩ : ∃ F, fnI i = F := ⟨_, rfl⟩
      rw [hF] at hix hof hen
      obtain ⟨fd, hfd⟩ : ∃ fd, fdOf r i = fd := ⟨_, rfl⟩
      rw [hfd] at hof hin
      have HF : Hid (fdOf r i = fd) := hfd
      have hVw := (HV.out.below HB.out).below HI.out.2
      clear hF hfd
      cases fd with
      | num o v sz lo hi =>
        simp only [fdV] at hof
        unfold FdIn at hin
        have cw := num_well B o v (sz : Int) lo hi wr hin
        have hwl : wl r i = (decide (lo ≤ v) && decide (v ≤ hi)) := by unfold wl; rw [HF.out]; rfl
        rw [hwl] at HS
        clear hwl
        generalize (decide (lo ≤ v) && decide (v ≤ hi)) = q at cw HS
        clear HF hidx hin
        go_wp2_with fail
        refine hof.mono ?_
        rintro _ w9 ⟨rfl, h9⟩
        subst w9
        clear hof
        go_wp2_with fail
        refine cw.mono ?_
        rintro _ w2 ⟨rfl, hb2⟩
        have HI2 : Hid (Below w1.heap.size w1 w2) := below_then HI.out.2 hb2
        clear cw hb2
        cases q with
        | true =>
          have HS2 : Hid (wrFrom r (i + 1) (10 - (i + 1)) = wrR r) := HS.out.1 rfl
          clear HS HI
          go_wp2_with fail
          go_roundw
          case rel => exact ⟨i + 1, hlt, by go_num, HS2.out, HI2.out⟩
          case measure => simp [intOf]; omega
        | false =>
          have HS2 : Hid (wrR r = i + 1) := HS.out.2 rfl
          clear HS HI
          go_wp2_with fail
          go_ret
          exact ⟨by rw [HS2.out]; first | rfl | go_num, below_then HB.out HI2.out⟩
      | str o s lo hi k =>
        simp only [fdV] at hof
        unfold FdIn at hin
        have cw := str_well k B o s lo hi wr hin
        have hwl : wl r i = (decide (lo ≤ (s.size : Int)) && decide ((s.size : Int) ≤ hi) && isS k s) := by unfold wl; rw [HF.out]; rfl
        rw [hwl] at HS
        clear hwl
        generalize (decide (lo ≤ (s.size : Int)) && decide ((s.size : Int) ≤ hi) && isS k s) = q at cw HS
        clear HF hidx hin
        go_wp2_with fail
        refine hof.mono ?_
        rintro _ w9 ⟨rfl, h9⟩
        subst w9
        clear hof
        go_wp2_with fail
        refine cw.mono ?_
        rintro _ w2 ⟨rfl, hb2⟩
        have HI2 : Hid (Below w1.heap.size w1 w2) := below_then HI.out.2 hb2
        clear cw hb2
        cases q with
        | true =>
          have HS2 : Hid (wrFrom r (i + 1) (10 - (i + 1)) = wrR r) := HS.out.1 rfl
          clear HS HI
          go_wp2_with fail
          go_roundw
          case rel => exact ⟨i + 1, hlt, by go_num, HS2.out, HI2.out⟩
          case measure => simp [intOf]; omega
        | false =>
          have HS2 : Hid (wrR r = i + 1) := HS.out.2 rfl
          clear HS HI
          go_wp2_with fail
          go_ret
          exact ⟨by rw [HS2.out]; first | rfl | go_num, below_then HB.out HI2.out⟩
      | byt o a n c bs lo hi =>
        simp only [fdV] at hof
        unfold FdIn at hin
        have cw := byt_well B o a n c lo hi wr hin
        have hwl : wl r i = (decide (lo ≤ (n : Int)) && decide ((n : Int) ≤ hi)) := by unfold wl; rw [HF.out]; rfl
        rw [hwl] at HS
        clear hwl
        generalize (decide (lo ≤ (n : Int)) && decide ((n : Int) ≤ hi)) = q at cw HS
        clear HF hidx hin
        go_wp2_with fail
        refine hof.mono ?_
        rintro _ w9 ⟨rfl, h9⟩
        subst w9
        clear hof
        go_wp2_with fail
        refine cw.mono ?_
        rintro _ w2 ⟨rfl, hb2⟩
        have HI2 : Hid (Below w1.heap.size w1 w2) := below_then HI.out.2 hb2
        clear cw hb2
        cases q with
        | true =>
          have HS2 : Hid (wrFrom r (i + 1) (10 - (i + 1)) = wrR r) := HS.out.1 rfl
          clear HS HI
          go_wp2_with fail
          go_roundw
          case rel => exact ⟨i + 1, hlt, by go_num, HS2.out, HI2.out⟩
          case measure => simp [intOf]; omega
        | false =>
          have HS2 : Hid (wrR r = i + 1) := HS.out.2 rfl
          clear HS HI
          go_wp2_with fail
          go_ret
          exact ⟨by rw [HS2.out]; first | rfl | go_num, below_then HB.out HI2.out⟩
      | cnd e a p =>
        simp only [fdV] at hof
        unfold FdIn at hin
        have cw := cond_well B e a p wr hVw hin.1 hin.2.1 hin.2.2
        have hwl : wl r i = okB e a p := by unfold wl; rw [HF.out]; rfl
        rw [hwl] at HS
        clear hwl
        generalize okB e a p = q at cw HS
        clear HF hidx hin
        go_wp2_with fail
        refine hof.mono ?_
        rintro _ w9 ⟨rfl, h9⟩
        subst w9
        clear hof
        go_wp2_with fail
        refine cw.mono ?_
        rintro _ w2 ⟨rfl, hb2⟩
        have HI2 : Hid (Below w1.heap.size w1 w2) := below_then HI.out.2 hb2
        clear cw hb2
        cases q with
        | true =>
          have HS2 : Hid (wrFrom r (i + 1) (10 - (i + 1)) = wrR r) := HS.out.1 rfl
          clear HS HI
          go_wp2_with fail
          go_roundw
          case rel => exact ⟨i + 1, hlt, by go_num, HS2.out, HI2.out⟩
          case measure => simp [intOf]; omega
        | false =>
          have HS2 : Hid (wrR r = i + 1) := HS.out.2 rfl
          clear HS HI
          go_wp2_with fail
          go_ret
          exact ⟨by rw [HS2.out]; first | rfl | go_num, below_then HB.out HI2.out⟩
      | non b =>
        simp only [fdV] at hof
        unfold FdIn at hin
        have cw := none_well' b wr
        have hwl : wl r i = b := by unfold wl; rw [HF.out]; rfl
        rw [hwl] at HS
        clear hwl
        obtain ⟨q, hq⟩ : ∃ q, b = q := ⟨_, rfl⟩
        rw [hq] at cw HS hof
        clear hq
        clear HF hidx hin
        go_wp2_with fail
        refine hof.mono ?_
        rintro _ w9 ⟨rfl, h9⟩
        subst w9
        clear hof
        go_wp2_with fail
        refine cw.mono ?_
        rintro _ w2 ⟨rfl, hb2⟩
        have HI2 : Hid (Below w1.heap.size w1 w2) := below_then HI.out.2 hb2
        clear cw hb2
        cases q with
        | true =>
          have HS2 : Hid (wrFrom r (i + 1) (10 - (i + 1)) = wrR r) := HS.out.1 rfl
          clear HS HI
          go_wp2_with fail
          go_roundw
          case rel => exact ⟨i + 1, hlt, by go_num, HS2.out, HI2.out⟩
          case measure => simp [intOf]; omega
        | false =>
          have HS2 : Hid (wrR r = i + 1) := HS.out.2 rfl
          clear HS HI
          go_wp2_with fail
          go_ret
          exact ⟨by rw [HS2.out]; first | rfl | go_num, below_then HB.out HI2.out⟩
    · have hlt1 : ¬ (i : Int) < 10 := by omega
      obtain rfl : i = 10 := by omega
      have HS2 : Hid (wrR r = 0) := HI.out.1.symm
      have HI2 : Hid (Below w1.heap.size w1 wr) := HI.out.2
      clear HI hidx
      go_wp2_with fail
      go_ret
      exact ⟨by rw [HS2.out]; rfl, below_then HB.out HI2.out⟩
end Go.Proofs.YtdjjologpodnkaaGreatDoor
