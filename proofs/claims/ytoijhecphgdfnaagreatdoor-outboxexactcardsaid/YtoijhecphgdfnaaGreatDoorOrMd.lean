import Derived.Test.YtoijhecphgdfnaaGreatDoorOrLaw
/-
  couriermem's Hand and Kept: a list that is handed in, with its marks behind it.
-/
namespace Go.Proofs.YtoijhecphgdfnaaGreatDoor
open Go.RowKit

section
variable {w : World} {B g n cap : Nat} {xs : List Int}
theorem BRow.slot (h : BRow w B (.slice (some ⟨g, 0, none⟩) n cap) xs) {j : Nat} (hj : j < xs.length) : w.cell? ⟨g, j, none⟩ = some (.int .u8 (xs.getD j 0)) := by
  have hn := ERow.len h
  obtain ⟨b, o, e, _, hc⟩ := h.byts.cell j (by omega)
  simp only [Option.some.injEq, Addr.mk.injEq, and_true] at e
  obtain ⟨rfl, rfl⟩ := e
  rwa [Nat.zero_add] at hc
theorem BRow.thaw (h : BRow w B (.slice (some ⟨g, 0, none⟩) n cap) xs) (j : Nat) : w.frozen? ⟨g, j, none⟩ = false := ERow.thaw h j
theorem BRow.stored (h : BRow w B (.slice (some ⟨g, 0, none⟩) n cap) xs) (j : Nat) (z : Int) (hj : j < xs.length) : BRow (w.setCell ⟨g, j, none⟩ (.int .u8 z)) B (.slice (some ⟨g, 0, none⟩) n cap) (xs.set j z) := by
  have := row_cell encB_len h (List.getElem?_eq_getElem hj) (q := 0) (u := .int .u8 z) (x' := z) (by decide) rfl
  rw [Nat.mul_one, Nat.add_zero] at this
  exact this
theorem BRow.prefix {m : Nat} (h : BRow w B (.slice (some ⟨g, 0, none⟩) n cap) xs) (hm : m ≤ n) : BRow w B (.slice (some ⟨g, 0, none⟩) m cap) (xs.take m) := by
  have hn := ERow.len h
  have h' : w.ownsRow B 5 1 (.slice (some ⟨g, 0, none⟩) n cap) n (xs.flatMap encB) := by
    have := h
    unfold BRow ERow at this
    rw [← hn] at this
    exact this
  have := own_prefix h' hm
  unfold BRow ERow
  rw [List.length_take, Nat.min_eq_left (by omega)]
  have e : (xs.flatMap encB).take (m * 1) = (xs.take m).flatMap encB := by
    have key : ∀ (ys : List Int), ys.flatMap encB = ys.map (Value.int .u8) := fun ys => by
      induction ys with
      | nil => rfl
      | cons y r ih => rw [List.flatMap_cons, ih]; rfl
    rw [key, key, Nat.mul_one, List.map_take]
  rw [← e]
  exact this
end
def marks : List Int := (List.range 90).map fun i : Nat => (100 : Int) + (i : Int)
theorem marks_at (i : Nat) (h : i < 90) : marks.getD i 0 = 100 + (i : Int) := by
  unfold marks
  rw [List.getD_eq_getElem?_getD, List.getElem?_map, List.getElem?_range h]
  rfl
theorem set_next (xs : List Int) (k : Nat) (v : Int) (h : 0 < k) : (xs ++ List.replicate k 0).set xs.length v = (xs ++ [v]) ++ List.replicate (k - 1) 0 := by
  obtain ⟨k, rfl⟩ : ∃ j, k = j + 1 := ⟨k - 1, by omega⟩
  rw [List.set_append_right _ _ (Nat.le_refl _), Nat.sub_self, List.replicate_succ, List.set_cons_zero]
  simp
theorem run_make_bytes {w : World} (n : Nat) (hn : n ≤ 140737488355328) : ∃ w', (Instr.makeSlice 43 (.int .i64 (n : Int)) (.int .i64 (n : Int))).run Tryz.prog w = .ok (.slice (some ⟨w.heap.size, 0, none⟩) n n) w' ∧ BRow w' w.heap.size (.slice (some ⟨w.heap.size, 0, none⟩) n n) (List.replicate n 0) ∧ Below w.heap.size w w' := by
  have h : (Tryz.prog.info? 5).map (fun i => (i.zero, i.size, i.bytes)) = some (some (.int .u8 0), 1, 1) := by kernel_rfl
  obtain ⟨i, hi, e⟩ := Option.map_eq_some_iff.1 h
  simp only [Prod.mk.injEq] at e
  obtain ⟨hz, hs, hby⟩ := e
  obtain ⟨w', h1, h2, h3⟩ := run_make_full (P := Tryz.prog) w w.heap.size 43 5 i _ 1 Tryz.underlying43 hi hz hs .i64 .i64 n (by rw [hby]; omega) (by unfold maxLen; omega) (Nat.le_refl _)
  refine ⟨w', h1, ?_, (Off.of_grown h3).below (Nat.le_refl _) (fun k e => by cases e)⟩
  unfold BRow ERow
  rw [List.length_replicate]
  have e : (madeCells (Value.int .u8 0).cells (n * 1)).toList = (List.replicate n (0 : Int)).flatMap encB := made_flat encB_len (by decide) 0 n
  rw [← e]
  exact h2
theorem take_next {bs : List Int} {i : Nat} (h : i < bs.length) : bs.take i ++ [bs.getD i 0] = bs.take (i + 1) := by
  rw [List.take_succ_eq_append_getElem h, List.getD_eq_getElem?_getD, List.getElem?_eq_getElem h]
  rfl
set_option maxRecDepth 100000 in
set_option maxHeartbeats 2000000 in
theorem Hand_any {po : Option Addr} {m c : Nat} {bs : List Int} (w : World) (hb : Byts w po m bs) (hm : m + 90 ≤ 140737488355328) : Calls Tryz.prog 10 #[.slice po m c] w fun e w' => e = .returned (.slice (some ⟨w.heap.size, 0, none⟩) m (m + 90)) ∧ BRow w' w.heap.size (.slice (some ⟨w.heap.size, 0, none⟩) (m + 90) (m + 90)) (bs ++ marks) ∧ Below w.heap.size w w' := by
  have HB : Hid (Byts w po m bs) := hb
  have HL : Hid (bs.length = m) := hb.len
  clear hb
  obtain ⟨w1, hmk, hR, hB1⟩ := run_make_bytes (w := w) (m + 90) (by omega)
  have hmk2 : (Instr.makeSlice 43 (.int .i64 ((m : Int) + 90)) (.int .i64 ((m : Int) + 90))).run Tryz.prog w = .ok (.slice (some ⟨w.heap.size, 0, none⟩) (m + 90) (m + 90)) w1 := hmk
  have HR : Hid (BRow w1 w.heap.size (.slice (some ⟨w.heap.size, 0, none⟩) (m + 90) (m + 90)) (List.replicate (m + 90) 0) ∧ Below w.heap.size w w1) := ⟨hR, hB1⟩
  clear hmk hR hB1
  go_enter Tryz.func10, Tryz.ntmps10
  go_wp2_with fail
  clear hmk2
  go_loopw [4] (fun ti wx => ∃ i : Nat, i ≤ m ∧ ti = .int .i64 i ∧ Hid (BRow wx w.heap.size (.slice (some ⟨w.heap.size, 0, none⟩) (m + 90) (m + 90)) (bs.take i ++ List.replicate (m + 90 - i) 0) ∧ Below w.heap.size w wx)) (fun ti _ => m - (intOf ti).toNat)
  case atStart => exact ⟨0, Nat.zero_le _, rfl, HR⟩
  case round =>
    obtain ⟨i, hi, rfl, HI⟩ := hrel
    by_cases hlt : i < m
    · have hlt1 : (i : Int) < m := by omega
      obtain ⟨b, o, hpo, _, hcell⟩ := (HB.out.below HI.out.2).cell i (by have := HL.out; omega)
      subst hpo
      have k1 : wr.cell? ⟨w.heap.size, i, none⟩ = some (.int .u8 ((bs.take i ++ List.replicate (m + 90 - i) 0).getD i 0)) := HI.out.1.slot (by simp; have := HL.out; omega)
      have k2 := HI.out.1.thaw i
      go_wp2_with fail
      go_roundw
      case rel =>
        refine ⟨i + 1, hlt, by go_num, ?_, HI.out.2.setCell (Nat.le_refl _) _⟩
        have hs := HI.out.1.stored i (bs.getD i 0) (by simp; have := HL.out; omega)
        have e := set_next (bs.take i) (m + 90 - i) (bs.getD i 0) (by omega)
        rw [show (bs.take i).length = i by rw [List.length_take]; have := HL.out; omega, take_next (by have := HL.out; omega)] at e
        rw [e, show m + 90 - i - 1 = m + 90 - (i + 1) by omega] at hs
        exact hs
      case measure => simp [intOf]; omega
    · have hlt1 : ¬ (i : Int) < m := by omega
      obtain rfl : i = m := by omega
      have HI2 : Hid (BRow wr w.heap.size (.slice (some ⟨w.heap.size, 0, none⟩) (i + 90) (i + 90)) (bs ++ (marks.take 0 ++ List.replicate (90 - 0) 0)) ∧ Below w.heap.size w wr) := by
        refine ⟨?_, HI.out.2⟩
        have h1 := HI.out.1
        rw [List.take_of_length_le (by have := HL.out; omega), show i + 90 - i = 90 by omega] at h1
        exact h1
      clear HI
      go_wp2_with fail
      go_loopw [5] (fun ti wx => ∃ j : Nat, j ≤ 90 ∧ ti = .int .i64 j ∧ Hid (BRow wx w.heap.size (.slice (some ⟨w.heap.size, 0, none⟩) (i + 90) (i + 90)) (bs ++ (marks.take j ++ List.replicate (90 - j) 0)) ∧ Below w.heap.size w wx)) (fun ti _ => 90 - (intOf ti).toNat)
      case atStart => exact ⟨0, by omega, rfl, HI2⟩
      case round =>
        obtain ⟨j, hj, rfl, HJ⟩ := hrel
        by_cases hlt2 : j < 90
        · have hlt3 : (j : Int) < 90 := by omega
          have hll : bs.length = i := HL.out
          have k1 : wr.cell? ⟨w.heap.size, i + j, none⟩ = some (.int .u8 ((bs ++ (marks.take j ++ List.replicate (90 - j) 0)).getD (i + j) 0)) := HJ.out.1.slot (by simp [marks]; omega)
          have k2 := HJ.out.1.thaw (i + j)
          go_wp2_with fail
          go_roundw
          case rel =>
            refine ⟨j + 1, hlt2, by go_num, ?_, HJ.out.2.setCell (Nat.le_refl _) _⟩
            have hs := HJ.out.1.stored (i + j) (100 + (j : Int)) (by simp [marks]; omega)
            have e := set_next (bs ++ marks.take j) (90 - j) (100 + (j : Int)) (by omega)
            have hml : marks.length = 90 := by simp [marks]
            rw [show (bs ++ marks.take j).length = i + j by rw [List.length_append, List.length_take]; omega] at e
            rw [List.append_assoc, List.append_assoc, List.append_assoc, ← marks_at j hlt2, ← List.append_assoc (marks.take j), take_next (by omega)] at e
            rw [← marks_at j hlt2, e, show 90 - j - 1 = 90 - (j + 1) by omega] at hs
            rw [← marks_at j hlt2]
            exact hs
          case measure => simp [intOf]; omega
        · have hlt3 : ¬ (j : Int) < 90 := by omega
          obtain rfl : j = 90 := by omega
          go_wp2_with fail
          go_ret
          refine ⟨rfl, ?_, HJ.out.2⟩
          have h1 := HJ.out.1
          have hml : marks.length = 90 := by simp [marks]
          rw [List.take_of_length_le (by omega), Nat.sub_self, List.replicate_zero, List.append_nil] at h1
          exact h1

theorem marked_at {bs : List Int} {m j : Nat} (hm : bs.length = m) (hj : j < 90) : (bs ++ marks).getD (m + j) 0 = 100 + (j : Int) := by
  rw [List.getD_eq_getElem?_getD, List.getElem?_append_right (by omega), hm, Nat.add_sub_cancel_left, ← List.getD_eq_getElem?_getD, marks_at j hj]
/-- A list that was handed in: its block, its length, its bytes. -/
def Mkd (w : World) (B g n : Nat) (bs : List Int) : Prop := BRow w B (.slice (some ⟨g, 0, none⟩) (n + 90) (n + 90)) (bs ++ marks) ∧ bs.length = n
theorem Mkd.byts {w : World} {B g n : Nat} {bs : List Int} (h : Mkd w B g n bs) : Byts w (some ⟨g, 0, none⟩) n bs := by
  have hp := (BRow.prefix (m := n) h.1 (by omega)).byts
  rw [List.take_left' h.2] at hp
  exact hp
theorem Mkd.below {w w' : World} {B g n : Nat} {bs : List Int} (h : Mkd w B g n bs) (hb : Below w.heap.size w w') : Mkd w' B g n bs := ⟨ERow.below h.1 hb, h.2⟩
theorem Mkd.keep {w w' : World} {B g n : Nat} {bs : List Int} (h : Mkd w B g n bs) (hk : w'.heap[g]? = w.heap[g]?) : Mkd w' B g n bs := ⟨ERow.keep h.1 fun q hq => by
  simp only [Value.ownBlock, Option.some.injEq] at hq
  exact hq ▸ hk, h.2⟩
theorem Mkd.lt {w : World} {B g n : Nat} {bs : List Int} (h : Mkd w B g n bs) : B ≤ g ∧ g < w.heap.size := ERow.lt h.1 (g := g) rfl
set_option maxRecDepth 100000 in
set_option maxHeartbeats 2000000 in
theorem Kept_true {po : Option Addr} {B g m c : Nat} {bs : List Int} (w : World) (hR : Mkd w B g m bs) (hb : Byts w po m bs) (hm : m + 90 ≤ 140737488355328) : Calls Tryz.prog 14 #[.slice (some ⟨g, 0, none⟩) m (m + 90), .slice po m c] w fun e w' => e = .returned (.bool true) ∧ ∃ k, w' = w.drewN k := by
  have HR : Hid (Mkd w B g m bs) := hR
  have HB : Hid (Byts w po m bs) := hb
  have HL : Hid (bs.length = m) := hR.2
  clear hR hb
  go_enter Tryz.func14, Tryz.ntmps14
  go_wp2_with fail
  go_loopw [6] (fun ti wx => ∃ j : Nat, j ≤ 90 ∧ ti = .int .i64 j ∧ ∃ k, wx = w.drewN k) (fun ti _ => 90 - (intOf ti).toNat)
  case atStart => exact ⟨0, by omega, rfl, 0, rfl⟩
  case round =>
    obtain ⟨j, hj, rfl, k, rfl⟩ := hrel
    by_cases hlt : j < 90
    · have hlt1 : (j : Int) < 90 := by omega
      have k1 : w.cell? ⟨g, m + j, none⟩ = some (.int .u8 (100 + (j : Int))) := by
        have h := BRow.slot HR.out.1 (j := m + j) (by simp [marks]; have := HL.out; omega)
        rw [marked_at HL.out hlt] at h
        exact h
      go_wp2_with fail
      go_roundw
      case rel => exact ⟨j + 1, hlt, by go_num, _, by first | rfl | exact World.drewN_drew _ _⟩
      case measure => simp [intOf]; omega
    · have hlt1 : ¬ (j : Int) < 90 := by omega
      go_wp2_with fail
      refine (memSame_true (HR.out.byts.below (below_drewN (Below.refl _ _) k)) (HB.out.below (below_drewN (Below.refl _ _) k)) (by omega)).mono ?_
      rintro e w1 ⟨rfl, k2, rfl⟩
      go_wp2_with fail
      go_ret
      exact ⟨rfl, k + k2, by simp⟩
theorem hand_full {po : Option Addr} {m c : Nat} {bs : List Int} (w : World) (hb : Byts w po m bs) (hm : m + 90 ≤ 140737488355328) : Calls Tryz.prog 10 #[.slice po m c] w fun e w' => ∃ g, e = .returned (.slice (some ⟨g, 0, none⟩) m (m + 90)) ∧ Mkd w' w.heap.size g m bs ∧ Below w.heap.size w w' :=
  (Hand_any w hb hm).mono fun _ _ ⟨h1, h2, h3⟩ => ⟨_, h1, ⟨h2, hb.len⟩, h3⟩
theorem Mkd.off {P : Nat → Prop} {w w' : World} {B g n : Nat} {bs : List Int} (h : Mkd w B g n bs) (o : Off P w w') (hP : ¬ P g) : Mkd w' B g n bs := h.keep (o.block g h.lt.2 hP)
theorem Mkd.base {w : World} {B C g n : Nat} {bs : List Int} (h : Mkd w B g n bs) (hC : C ≤ B) : Mkd w C g n bs := ⟨ERow.base h.1 hC, h.2⟩
theorem mkd_pre {w : World} {B g n : Nat} {bs : List Int} (h : Mkd w B g n bs) : BRow w B (.slice (some ⟨g, 0, none⟩) n (n + 90)) ((bs ++ marks).take n) := BRow.prefix (m := n) h.1 (by omega)
end Go.Proofs.YtoijhecphgdfnaaGreatDoor

/-
  The law's made: the list that is handed in. What its loops hold.
-/
namespace Go.Proofs.YtoijhecphgdfnaaGreatDoor
open Go.RowKit

theorem encO_len7 (m : Msg) : (encO m).length = 7 := rfl
/-- A message as it is handed in: its text in a block of its own, marks behind it. -/
def hdM (x : Msg) (g : Nat) : Msg := x.wi (some ⟨g, 0, none⟩) (x.tn + 90)
/-- A mark: an Out that Load must not touch. -/
def mkM (k : Nat) : Msg := { zM with nu := -77 - (k : Int) }
def mksM (k : Nat) : List Msg := (List.range k).map mkM
theorem mksM_next (k : Nat) : mksM (k + 1) = mksM k ++ [mkM k] := by unfold mksM; rw [List.range_succ, List.map_append]; rfl
theorem mksM_len (k : Nat) : (mksM k).length = k := by unfold mksM; simp
/-- The texts of a list that is handed in. -/
structure HdL (w : World) (B : Nat) (xs : List Msg) (gs : List Nat) : Prop where
  len : gs.length = xs.length
  at_ : ∀ (i : Nat) (x : Msg) (g : Nat), xs[i]? = some x → gs[i]? = some g → Mkd w B g x.tn x.tx
  lt : ∀ (i j g h : Nat), i < j → gs[i]? = some g → gs[j]? = some h → g < h
def hdl (xs : List Msg) (gs : List Nat) : List Msg := List.zipWith hdM xs gs
section
variable {w w' : World} {B : Nat} {xs : List Msg} {gs : List Nat} {x : Msg} {g : Nat}
theorem HdL.nil (w : World) (B : Nat) : HdL w B [] [] := ⟨rfl, fun i x g h => by simp at h, fun i j g h _ e => by simp at e⟩
theorem HdL.below (h : HdL w B xs gs) (hb : Below w.heap.size w w') : HdL w' B xs gs := ⟨h.len, fun i x g hx hg => (h.at_ i x g hx hg).below hb, h.lt⟩
theorem HdL.off {P : Nat → Prop} (h : HdL w B xs gs) (o : Off P w w') (hP : ∀ g ∈ gs, ¬ P g) : HdL w' B xs gs := ⟨h.len, fun i x g hx hg => (h.at_ i x g hx hg).off o (hP g (List.mem_of_getElem? hg)), h.lt⟩
theorem HdL.mem (h : HdL w B xs gs) (hg : g ∈ gs) : B ≤ g ∧ g < w.heap.size := by
  obtain ⟨i, hi, e⟩ := List.getElem_of_mem hg
  have hg' : gs[i]? = some g := by rw [List.getElem?_eq_getElem hi, e]
  obtain ⟨x, hx⟩ : ∃ x, xs[i]? = some x := ⟨_, List.getElem?_eq_getElem (by rw [← h.len]; exact hi)⟩
  exact (h.at_ i x g hx hg').lt
theorem HdL.snoc (h : HdL w B xs gs) (hm : Mkd w B g x.tn x.tx) (hg : ∀ k ∈ gs, k < g) : HdL w B (xs ++ [x]) (gs ++ [g]) := by
  refine ⟨by simp [h.len], fun i y k hy hk => ?_, fun i j k l hij hk hl => ?_⟩
  · by_cases hi : i < xs.length
    · rw [List.getElem?_append_left hi] at hy
      rw [List.getElem?_append_left (by rw [h.len]; exact hi)] at hk
      exact h.at_ i y k hy hk
    · have hil := (List.getElem?_eq_some_iff.1 hy).1
      simp only [List.length_append, List.length_singleton] at hil
      obtain rfl : i = xs.length := by omega
      rw [List.getElem?_append_right (Nat.le_refl _), Nat.sub_self] at hy
      rw [List.getElem?_append_right (by rw [h.len]; exact Nat.le_refl _), h.len, Nat.sub_self] at hk
      simp only [List.getElem?_cons_zero, Option.some.injEq] at hy hk
      subst hy; subst hk
      exact hm
  · have hjl := (List.getElem?_eq_some_iff.1 hl).1
    simp only [List.length_append, List.length_singleton] at hjl
    rw [List.getElem?_append_left (by omega)] at hk
    by_cases hj : j < gs.length
    · rw [List.getElem?_append_left hj] at hl
      exact h.lt i j k l hij hk hl
    · obtain rfl : j = gs.length := by omega
      rw [List.getElem?_append_right (Nat.le_refl _), Nat.sub_self] at hl
      simp only [List.getElem?_cons_zero, Option.some.injEq] at hl
      subst hl
      exact hg k (List.mem_of_getElem? hk)
theorem hdl_len (h : HdL w B xs gs) : (hdl xs gs).length = xs.length := by unfold hdl; rw [List.length_zipWith, h.len, Nat.min_self]
theorem hdl_snoc (h : HdL w B xs gs) : hdl (xs ++ [x]) (gs ++ [g]) = hdl xs gs ++ [hdM x g] := by
  unfold hdl
  rw [List.zipWith_append h.len.symm]
  rfl
theorem hdl_wis (h : HdL w B xs gs) : Wis (hdl xs gs) xs := by
  refine ⟨hdl_len h, fun i m y hm hy => ?_⟩
  unfold hdl at hm
  rw [List.getElem?_zipWith] at hm
  rw [hy] at hm
  cases hg : gs[i]? with
  | none => rw [hg] at hm; cases hm
  | some g =>
    rw [hg] at hm
    simp only [Option.some.injEq] at hm
    exact ⟨_, _, hm.symm⟩
theorem run_make_outs {w : World} (n : Nat) (hn : n ≤ 1759218604480) : ∃ w', (Instr.makeSlice 22 (.int .i64 (n : Int)) (.int .i64 (n : Int))).run Tryz.prog w = .ok (.slice (some ⟨w.heap.size, 0, none⟩) n n) w' ∧ ERow w' w.heap.size 58 7 encO (.slice (some ⟨w.heap.size, 0, none⟩) n n) (List.replicate n zM) ∧ Below w.heap.size w w' := by
  have h : (Tryz.prog.info? 58).map (fun i => (i.zero, i.size, i.bytes)) = some (some (.agg #[.string ⟨#[]⟩, .slice none 0 0, .bool false, .int .i64 0, .int .i64 0, .int .i64 0, .bool false]), 7, 80) := by kernel_rfl
  obtain ⟨i, hi, e⟩ := Option.map_eq_some_iff.1 h
  simp only [Prod.mk.injEq] at e
  obtain ⟨hz, hs, hby⟩ := e
  obtain ⟨w', h1, h2, h3⟩ := run_make_full (P := Tryz.prog) w w.heap.size 22 58 i _ 7 Tryz.underlying22 hi hz hs .i64 .i64 n (by rw [hby]; omega) (by unfold maxLen; omega) (Nat.le_refl _)
  refine ⟨w', h1, ?_, (Off.of_grown h3).below (Nat.le_refl _) (fun k e => by cases e)⟩
  unfold ERow
  rw [List.length_replicate]
  have e : (madeCells (Value.agg #[.string ⟨#[]⟩, .slice none 0 0, .bool false, .int .i64 0, .int .i64 0, .int .i64 0, .bool false]).cells (n * 7)).toList = (List.replicate n zM).flatMap encO := made_flat encO_len7 (by decide) zM n
  rw [← e]
  exact h2
end
/-- The first loop: i are handed. -/
structure MdI (V : World) (G n : Nat) (xs : List Msg) (i : Nat) (wx : World) : Prop where
  ex : ∃ gs, HdL wx (G + 1) (xs.take i) gs ∧ ERow wx G 58 7 encO (.slice (some ⟨G, 0, none⟩) (n + 90) (n + 90)) (hdl (xs.take i) gs ++ List.replicate (n + 90 - i) zM)
  bel : Below V.heap.size V wx
/-- The second: k marks. -/
structure MdK (V : World) (G n : Nat) (xs : List Msg) (k : Nat) (wx : World) : Prop where
  ex : ∃ gs, HdL wx (G + 1) xs gs ∧ ERow wx G 58 7 encO (.slice (some ⟨G, 0, none⟩) (n + 90) (n + 90)) (hdl xs gs ++ (mksM k ++ List.replicate (90 - k) zM))
  bel : Below V.heap.size V wx
theorem set_rep {α : Type} (xs : List α) (k : Nat) (z v : α) (h : 0 < k) : (xs ++ List.replicate k z).set xs.length v = (xs ++ [v]) ++ List.replicate (k - 1) z := by
  obtain ⟨k, rfl⟩ : ∃ j, k = j + 1 := ⟨k - 1, by omega⟩
  rw [List.set_append_right _ _ (Nat.le_refl _), Nat.sub_self, List.replicate_succ, List.set_cons_zero]
  simp
section
variable {V wx w2 : World} {G n i k : Nat} {xs : List Msg} {x : Msg} {g : Nat}
theorem MdI.next (h : MdI V G n xs i wx) (hG : V.heap.size ≤ G) (hn : xs.length = n) (hx : xs[i]? = some x) (hm : Mkd w2 (wx.setCells G (i * 7) (encO x)).heap.size g x.tn x.tx) (hb : Below (wx.setCells G (i * 7) (encO x)).heap.size (wx.setCells G (i * 7) (encO x)) w2) : MdI V G n xs (i + 1) (w2.setCell ⟨G, i * 7 + 1, none⟩ (.slice (some ⟨g, 0, none⟩) x.tn (x.tn + 90))) := by
  obtain ⟨gs, h1, h2⟩ := h.ex
  have hin := (List.getElem?_eq_some_iff.1 hx).1
  have hil : (xs.take i).length = i := by rw [List.length_take]; omega
  have hdll := hdl_len h1
  rw [hil] at hdll
  have hGl := (ERow.lt h2 (g := G) rfl).2
  obtain ⟨w1, hw1⟩ : ∃ w1, wx.setCells G (i * 7) (encO x) = w1 := ⟨_, rfl⟩
  have r1 := erow_setG encO_len7 h2 x (i := i) (by simp; omega)
  have o1 : Off (fun q => q = G) wx (wx.setCells G (i * 7) (encO x)) := Off.setCells (P := fun q => q = G) rfl _ _ _ (Off.refl _ _)
  rw [hw1] at hm hb r1 o1
  have r2 := ERow.below r1 hb
  have hxi : ((hdl (xs.take i) gs ++ List.replicate (n + 90 - i) zM).set i x)[i]? = some x := List.getElem?_set_self (by simp; omega)
  have r3 := row_cell encO_len7 r2 hxi (q := 1) (u := .slice (some ⟨g, 0, none⟩) x.tn (x.tn + 90)) (x' := hdM x g) (by decide) rfl
  rw [List.set_set] at r3
  have e := set_rep (hdl (xs.take i) gs) (n + 90 - i) zM (hdM x g) (by omega)
  rw [hdll] at e
  rw [e, show n + 90 - i - 1 = n + 90 - (i + 1) by omega] at r3
  have o3 : Off (fun q => q = G) w2 (w2.setCell ⟨G, i * 7 + 1, none⟩ (.slice (some ⟨g, 0, none⟩) x.tn (x.tn + 90))) := Off.setCell (P := fun q => q = G) (Off.refl _ _) (p := ⟨G, i * 7 + 1, none⟩) rfl _
  have hgl := hm.lt
  have hs1 := o1.size
  have b2 := below_then (h.bel.trans (o1.below h.bel.size fun q hq => by omega)) hb
  refine ⟨⟨gs ++ [g], ?_, ?_⟩, b2.trans (o3.below b2.size fun q hq => by omega)⟩
  · rw [List.take_add_one, hx]
    refine ((((h1.off o1 fun k hk e => ?_).below hb).off o3 fun k hk e => ?_).snoc ((hm.base (by omega)).off o3 (by omega)) fun k hk => ?_)
    · have := (h1.mem hk).1; omega
    · have := (h1.mem hk).1; omega
    · have := (h1.mem hk).2; omega
  · rw [List.take_add_one, hx]
    have e2 := hdl_snoc (x := x) (g := g) h1
    rw [show (xs.take i ++ (some x).toList) = xs.take i ++ [x] from rfl, e2]
    exact r3
theorem MdI.start (h : MdI V G n xs n wx) (hn : xs.length = n) : MdK V G n xs 0 wx := by
  obtain ⟨gs, h1, h2⟩ := h.ex
  rw [List.take_of_length_le (by omega)] at h1 h2
  refine ⟨⟨gs, h1, ?_⟩, h.bel⟩
  rw [show n + 90 - n = 90 by omega] at h2
  exact h2
theorem MdK.next (h : MdK V G n xs k wx) (hG : V.heap.size ≤ G) (hn : xs.length = n) (hk : k < 90) : MdK V G n xs (k + 1) (wx.setCells G ((n + k) * 7) (encO (mkM k))) := by
  obtain ⟨gs, h1, h2⟩ := h.ex
  have hdll := hdl_len h1
  have hGl := (ERow.lt h2 (g := G) rfl).2
  have r1 := erow_setG encO_len7 h2 (mkM k) (i := n + k) (by simp [mksM_len]; omega)
  have o1 : Off (fun q => q = G) wx (wx.setCells G ((n + k) * 7) (encO (mkM k))) := Off.setCells (P := fun q => q = G) rfl _ _ _ (Off.refl _ _)
  have e := set_rep (hdl xs gs ++ mksM k) (90 - k) zM (mkM k) (by omega)
  rw [List.length_append, mksM_len, hdll, hn, List.append_assoc, List.append_assoc, List.append_assoc, ← List.append_assoc (mksM k) [mkM k], ← mksM_next, show 90 - k - 1 = 90 - (k + 1) by omega] at e
  rw [e] at r1
  exact ⟨⟨gs, h1.off o1 fun q hq e => by have := (h1.mem hq).1; omega, r1⟩, h.bel.trans (o1.below h.bel.size fun q hq => by omega)⟩
end
end Go.Proofs.YtoijhecphgdfnaaGreatDoor
