import Derived.Test.YtoijhecphgdfnaaGreatDoorDkMem
/-
  couriermem: Hand, Kept: lists that are handed in, with marks in the room behind them.
-/
namespace Go.Proofs.YtoijhecphgdfnaaGreatDoor.Bo
open Go.RowKit

theorem u8s_set (xs : List Int) (j : Nat) (z : Int) : u8s (xs.set j z) = (u8s xs).set j (.int .u8 z) := by simp [u8s, List.map_set]
theorem Row.stored {w : World} {B g n cap : Nat} {xs : List Int} (h : Row w B (.slice (some ⟨g, 0, none⟩) n cap) xs) (j : Nat) (z : Int) : Row (w.setCell ⟨g, j, none⟩ (.int .u8 z)) B (.slice (some ⟨g, 0, none⟩) n cap) (xs.set j z) := by
  obtain ⟨rfl, _⟩ := h.cell
  have := (World.ownsRow.stored h j (.int .u8 z)).1
  unfold Row
  rw [List.length_set, u8s_set]
  exact this
theorem Row.slot {w : World} {B g n cap : Nat} {xs : List Int} (h : Row w B (.slice (some ⟨g, 0, none⟩) n cap) xs) {j : Nat} (hj : j < xs.length) : w.cell? ⟨g, j, none⟩ = some (.int .u8 (xs.getD j 0)) := h.cell.2 j hj
theorem Row.thaw {w : World} {B g n cap : Nat} {xs : List Int} (h : Row w B (.slice (some ⟨g, 0, none⟩) n cap) xs) (j : Nat) : w.frozen? ⟨g, j, none⟩ = false := by
  rcases h.2 with ⟨h0, _⟩ | ⟨g', cap', cur, e, hB, hg, _⟩
  · cases h0
  · simp only [Value.slice.injEq, Option.some.injEq, Addr.mk.injEq, and_true] at e
    obtain ⟨rfl, _, _⟩ := e
    simp [World.frozen?, hg]
theorem Row.prefix {w : World} {B g n cap m : Nat} {xs : List Int} (h : Row w B (.slice (some ⟨g, 0, none⟩) n cap) xs) (hm : m ≤ n) : Row w B (.slice (some ⟨g, 0, none⟩) m cap) (xs.take m) := by
  obtain ⟨hn, _⟩ := h.cell
  rcases h.2 with ⟨h0, _⟩ | ⟨g', cap', cur, e, hB, hg, hc, hM, hs, ht⟩
  · cases h0
  · simp only [Value.slice.injEq, Option.some.injEq, Addr.mk.injEq, and_true] at e
    obtain ⟨rfl, hnn, rfl⟩ := e
    have hl : (xs.take m).length = m := by rw [List.length_take]; omega
    refine ⟨by rw [u8s_length]; omega, Or.inr ⟨g, cap, cur, by rw [hl], hB, hg, by omega, hM, hs, ?_⟩⟩
    rw [hl, u8s_take, ← ht, List.take_take]
    congr 1
    omega
def marks : List Int := (List.range 90).map fun i : Nat => (100 : Int) + (i : Int)
theorem marks_at (i : Nat) (h : i < 90) : marks.getD i 0 = 100 + (i : Int) := by
  unfold marks
  rw [List.getD_eq_getElem?_getD, List.getElem?_map, List.getElem?_range h]
  rfl
theorem set_next (xs : List Int) (k : Nat) (v : Int) (h : 0 < k) : (xs ++ List.replicate k 0).set xs.length v = (xs ++ [v]) ++ List.replicate (k - 1) 0 := by
  obtain ⟨k, rfl⟩ : ∃ j, k = j + 1 := ⟨k - 1, by omega⟩
  rw [List.set_append_right _ _ (Nat.le_refl _), Nat.sub_self, List.replicate_succ, List.set_cons_zero]
  simp
theorem run_make_bytes {w : World} (n : Nat) (hn : n ≤ 140737488355328) : ∃ w', (Instr.makeSlice 43 (.int .i64 (n : Int)) (.int .i64 (n : Int))).run Tryz.prog w = .ok (.slice (some ⟨w.heap.size, 0, none⟩) n n) w' ∧ Row w' w.heap.size (.slice (some ⟨w.heap.size, 0, none⟩) n n) (List.replicate n 0) ∧ Below w.heap.size w w' := by
  obtain ⟨i, hi, hz, hs, hby⟩ := u8info
  obtain ⟨w', h1, h2, h3⟩ := run_make_full (P := Tryz.prog) w w.heap.size 43 5 i _ 1 Tryz.underlying43 hi hz hs .i64 .i64 n (by rw [hby]; omega) (by unfold maxLen; omega) (Nat.le_refl _)
  refine ⟨w', h1, ?_, ?_⟩
  · unfold Row
    rw [List.length_replicate]
    have e : (madeCells (Value.int .u8 0).cells (n * 1)).toList = u8s (List.replicate n 0) := by
      rw [Nat.mul_one, show (Value.int .u8 0).cells = #[Value.int .u8 0] from rfl, toList_madeCells_one]
      simp [u8s]
    rw [← e]
    exact h2
  · exact (Off.of_grown h3).below (Nat.le_refl _) (fun k e => by cases e)
theorem take_next {bs : List Int} {i : Nat} (h : i < bs.length) : bs.take i ++ [bs.getD i 0] = bs.take (i + 1) := by
  rw [List.take_succ_eq_append_getElem h, List.getD_eq_getElem?_getD, List.getElem?_eq_getElem h]
  rfl
set_option maxRecDepth 100000 in
set_option maxHeartbeats 2000000 in
theorem Hand_any {po : Option Addr} {m c : Nat} {bs : List Int} (w : World) (hb : Byts w po m bs) (hm : m + 90 ≤ 140737488355328) : Calls Tryz.prog 10 #[.slice po m c] w fun e w' => e = .returned (.slice (some ⟨w.heap.size, 0, none⟩) m (m + 90)) ∧ Row w' w.heap.size (.slice (some ⟨w.heap.size, 0, none⟩) (m + 90) (m + 90)) (bs ++ marks) ∧ Below w.heap.size w w' := by
  have HB : Hid (Byts w po m bs) := hb
  have HL : Hid (bs.length = m) := hb.len
  clear hb
  obtain ⟨w1, hmk, hR, hB1⟩ := run_make_bytes (w := w) (m + 90) (by omega)
  have hmk2 : (Instr.makeSlice 43 (.int .i64 ((m : Int) + 90)) (.int .i64 ((m : Int) + 90))).run Tryz.prog w = .ok (.slice (some ⟨w.heap.size, 0, none⟩) (m + 90) (m + 90)) w1 := hmk
  have HR : Hid (Row w1 w.heap.size (.slice (some ⟨w.heap.size, 0, none⟩) (m + 90) (m + 90)) (List.replicate (m + 90) 0) ∧ Below w.heap.size w w1) := ⟨hR, hB1⟩
  clear hmk hR hB1
  go_enter Tryz.func10, Tryz.ntmps10
  go_wp2_with fail
  clear hmk2
  go_loopw [4] (fun ti wx => ∃ i : Nat, i ≤ m ∧ ti = .int .i64 i ∧ Hid (Row wx w.heap.size (.slice (some ⟨w.heap.size, 0, none⟩) (m + 90) (m + 90)) (bs.take i ++ List.replicate (m + 90 - i) 0) ∧ Below w.heap.size w wx)) (fun ti _ => m - (intOf ti).toNat)
  case atStart => exact ⟨0, Nat.zero_le _, rfl, HR⟩
  case round =>
    obtain ⟨i, hi, rfl, HI⟩ := hrel
    by_cases hlt : i < m
    · have hlt1 : (i : Int) < m := by omega
      obtain ⟨b, o, hpo, _, hcell⟩ := (HB.out.below HI.out.2).cell i (by have := HL.out; omega)
      subst hpo
      have k1 : wr.cell? ⟨w.heap.size, i, none⟩ = some (.int .u8 ((bs.take i ++ List.replicate (m + 90 - i) 0).getD i 0)) := HI.out.1.slot (by simp; have := HL.out; omega)
      have k2 := HI.out.1.thaw i
      go_wp2_with fail
      go_roundw
      case rel =>
        refine ⟨i + 1, hlt, by go_num, ?_, HI.out.2.setCell (Nat.le_refl _) _⟩
        have hs := HI.out.1.stored i (bs.getD i 0)
        have e := set_next (bs.take i) (m + 90 - i) (bs.getD i 0) (by omega)
        rw [show (bs.take i).length = i by rw [List.length_take]; have := HL.out; omega, take_next (by have := HL.out; omega)] at e
        rw [e, show m + 90 - i - 1 = m + 90 - (i + 1) by omega] at hs
        exact hs
      case measure => simp [intOf]; omega
    · have hlt1 : ¬ (i : Int) < m := by omega
      obtain rfl : i = m := by omega
      have HI2 : Hid (Row wr w.heap.size (.slice (some ⟨w.heap.size, 0, none⟩) (i + 90) (i + 90)) (bs ++ (marks.take 0 ++ List.replicate (90 - 0) 0)) ∧ Below w.heap.size w wr) := by
        refine ⟨?_, HI.out.2⟩
        have h1 := HI.out.1
        rw [List.take_of_length_le (by have := HL.out; omega), show i + 90 - i = 90 by omega] at h1
        exact h1
      clear HI
      go_wp2_with fail
      go_loopw [5] (fun ti wx => ∃ j : Nat, j ≤ 90 ∧ ti = .int .i64 j ∧ Hid (Row wx w.heap.size (.slice (some ⟨w.heap.size, 0, none⟩) (i + 90) (i + 90)) (bs ++ (marks.take j ++ List.replicate (90 - j) 0)) ∧ Below w.heap.size w wx)) (fun ti _ => 90 - (intOf ti).toNat)
      case atStart => exact ⟨0, by omega, rfl, HI2⟩
      case round =>
        obtain ⟨j, hj, rfl, HJ⟩ := hrel
        by_cases hlt2 : j < 90
        · have hlt3 : (j : Int) < 90 := by omega
          have hll : bs.length = i := HL.out
          have k1 : wr.cell? ⟨w.heap.size, i + j, none⟩ = some (.int .u8 ((bs ++ (marks.take j ++ List.replicate (90 - j) 0)).getD (i + j) 0)) := HJ.out.1.slot (by simp [marks]; omega)
          have k2 := HJ.out.1.thaw (i + j)
          go_wp2_with fail
          go_roundw
          case rel =>
            refine ⟨j + 1, hlt2, by go_num, ?_, HJ.out.2.setCell (Nat.le_refl _) _⟩
            have hs := HJ.out.1.stored (i + j) (100 + (j : Int))
            have e := set_next (bs ++ marks.take j) (90 - j) (100 + (j : Int)) (by omega)
            have hml : marks.length = 90 := by simp [marks]
            rw [show (bs ++ marks.take j).length = i + j by rw [List.length_append, List.length_take]; omega] at e
            rw [List.append_assoc, List.append_assoc, List.append_assoc, ← marks_at j hlt2, ← List.append_assoc (marks.take j), take_next (by omega)] at e
            rw [← marks_at j hlt2, e, show 90 - j - 1 = 90 - (j + 1) by omega] at hs
            rw [← marks_at j hlt2]
            exact hs
          case measure => simp [intOf]; omega
        · have hlt3 : ¬ (j : Int) < 90 := by omega
          obtain rfl : j = 90 := by omega
          go_wp2_with fail
          go_ret
          refine ⟨rfl, ?_, HJ.out.2⟩
          have h1 := HJ.out.1
          have hml : marks.length = 90 := by simp [marks]
          rw [List.take_of_length_le (by omega), Nat.sub_self, List.replicate_zero, List.append_nil] at h1
          exact h1
end Go.Proofs.YtoijhecphgdfnaaGreatDoor.Bo

/-
  couriermem.Kept; disk.From, Disk.Read.
-/
namespace Go.Proofs.YtoijhecphgdfnaaGreatDoor.Bo
open Go.RowKit

theorem Row.bytes {w : World} {B g n cap : Nat} {xs : List Int} (h : Row w B (.slice (some ⟨g, 0, none⟩) n cap) xs) : Byts w (some ⟨g, 0, none⟩) n xs := by
  obtain ⟨hn, hc⟩ := h.cell
  refine ⟨hn.symm, fun j hj => ⟨g, 0, rfl, (h.lt (g := g) rfl).2, ?_⟩⟩
  rw [Nat.zero_add]
  exact hc j (by omega)
theorem marked_at {bs : List Int} {m j : Nat} (hm : bs.length = m) (hj : j < 90) : (bs ++ marks).getD (m + j) 0 = 100 + (j : Int) := by
  rw [List.getD_eq_getElem?_getD, List.getElem?_append_right (by omega), hm, Nat.add_sub_cancel_left, ← List.getD_eq_getElem?_getD, marks_at j hj]
set_option maxRecDepth 100000 in
set_option maxHeartbeats 2000000 in
theorem Kept_true {po : Option Addr} {B g m c : Nat} {bs : List Int} (w : World) (hR : Row w B (.slice (some ⟨g, 0, none⟩) (m + 90) (m + 90)) (bs ++ marks)) (hb : Byts w po m bs) (hm : m + 90 ≤ 140737488355328) : Calls Tryz.prog 14 #[.slice (some ⟨g, 0, none⟩) m (m + 90), .slice po m c] w fun e w' => e = .returned (.bool true) ∧ ∃ k, w' = w.drewN k := by
  have HR : Hid (Row w B (.slice (some ⟨g, 0, none⟩) (m + 90) (m + 90)) (bs ++ marks)) := hR
  have HB : Hid (Byts w po m bs) := hb
  have HL : Hid (bs.length = m) := hb.len
  clear hR hb
  go_enter Tryz.func14, Tryz.ntmps14
  go_wp2_with fail
  go_loopw [6] (fun ti wx => ∃ j : Nat, j ≤ 90 ∧ ti = .int .i64 j ∧ ∃ k, wx = w.drewN k) (fun ti _ => 90 - (intOf ti).toNat)
  case atStart => exact ⟨0, by omega, rfl, 0, rfl⟩
  case round =>
    obtain ⟨j, hj, rfl, k, rfl⟩ := hrel
    by_cases hlt : j < 90
    · have hlt1 : (j : Int) < 90 := by omega
      have k1 : w.cell? ⟨g, m + j, none⟩ = some (.int .u8 (100 + (j : Int))) := by
        have h := HR.out.slot (j := m + j) (by simp [marks]; have := HL.out; omega)
        rw [marked_at HL.out hlt] at h
        exact h
      go_wp2_with fail
      go_roundw
      case rel => exact ⟨j + 1, hlt, by go_num, _, by first | rfl | exact World.drewN_drew _ _⟩
      case measure => simp [intOf]; omega
    · have hlt1 : ¬ (j : Int) < 90 := by omega
      go_wp2_with fail
      have hp := (HR.out.prefix (m := m) (by omega)).bytes
      rw [List.take_left' HL.out] at hp
      refine (same_true (hp.drew k) (HB.out.drew k) (by omega)).mono ?_
      rintro e w1 ⟨rfl, k2, rfl⟩
      go_wp2_with fail
      go_ret
      exact ⟨rfl, k + k2, by simp⟩
section
variable {w0 w : World} {B K : Nat} {v0 v1 : Value} {x0 x1 : List Int} {s0 s1 : Nat} {st fu na ns nc : Int} {po : Option Addr} {m c : Nat} {bs : List Int}
end
end Go.Proofs.YtoijhecphgdfnaaGreatDoor.Bo

/-
  couriermem.Book in memory: lists of bytes that were handed out, and what they were.
-/
namespace Go.Proofs.YtoijhecphgdfnaaGreatDoor.Bo
open Go.RowKit

theorem slinfo : ∃ i, Tryz.prog.info? 43 = some i ∧ i.zero = some (.slice none 0 0) ∧ i.size = 1 ∧ i.bytes = 24 := by
  have h : (Tryz.prog.info? 43).map (fun i => (i.zero, i.size, i.bytes)) = some (some (.slice none 0 0), 1, 24) := by kernel_rfl
  obtain ⟨i, hi, e⟩ := Option.map_eq_some_iff.1 h
  simp only [Prod.mk.injEq] at e
  exact ⟨i, hi, e.1, e.2.1, e.2.2⟩
theorem VRow.nil (w : World) (B : Nat) (e : TypeId) : VRow w B e (.slice none 0 0) [] := ⟨rfl, Or.inl ⟨rfl, rfl⟩⟩
theorem VRow.form {w : World} {B : Nat} {e : TypeId} {v : Value} {xs : List Value} (h : VRow w B e v xs) : (v = .slice none 0 0 ∧ xs = []) ∨ ∃ g cap, v = .slice (some ⟨g, 0, none⟩) xs.length cap ∧ B ≤ g ∧ g < w.heap.size ∧ xs.length ≤ cap ∧ cap ≤ maxLen := by
  rcases h.2 with ⟨rfl, h0⟩ | ⟨g, cap, cur, rfl, hB, hg, hn, hm, _, _⟩
  · exact Or.inl ⟨rfl, List.eq_nil_of_length_eq_zero h0⟩
  · refine Or.inr ⟨g, cap, rfl, hB, ?_, hn, hm⟩
    rcases Nat.lt_or_ge g w.heap.size with g1 | g1
    · exact g1
    · rw [Array.getElem?_eq_none g1] at hg; cases hg
theorem VRow.keep {w w' : World} {B : Nat} {e : TypeId} {v : Value} {xs : List Value} (h : VRow w B e v xs) (hk : ∀ g, v.ownBlock = some g → w'.heap[g]? = w.heap[g]?) : VRow w' B e v xs := by
  rcases h.2 with ⟨rfl, h0⟩ | ⟨g, cap, cur, rfl, hB, hg, rest⟩
  · exact ⟨h.1, Or.inl ⟨rfl, h0⟩⟩
  · exact ⟨h.1, Or.inr ⟨g, cap, cur, rfl, hB, by rw [hk g rfl]; exact hg, rest⟩⟩
theorem VRow.lt {w : World} {B : Nat} {e : TypeId} {v : Value} {xs : List Value} (h : VRow w B e v xs) {g : Nat} (hg : v.ownBlock = some g) : B ≤ g ∧ g < w.heap.size := by
  rcases h.form with ⟨rfl, _⟩ | ⟨g', cap, rfl, hB, hl, _⟩
  · cases hg
  · simp only [Value.ownBlock, Option.some.injEq] at hg; subst hg; exact ⟨hB, hl⟩
theorem VRow.slot {w : World} {B : Nat} {e : TypeId} {xs : List Value} {g cap n : Nat} (h : VRow w B e (.slice (some ⟨g, 0, none⟩) n cap) xs) {j : Nat} {u : Value} (hj : xs[j]? = some u) : w.cell? ⟨g, j, none⟩ = some u := by
  rcases h.2 with ⟨h0, _⟩ | ⟨g', cap', cur, e', hB, hg, hn, hm, hc, ht⟩
  · cases h0
  · simp only [Value.slice.injEq, Option.some.injEq, Addr.mk.injEq, and_true] at e'
    obtain ⟨rfl, rfl, rfl⟩ := e'
    have hl := (List.getElem?_eq_some_iff.1 hj).1
    have e1 : (cur.toList.take (xs.length * 1))[j]? = xs[j]? := by rw [ht]
    rw [List.getElem?_take, if_pos (by omega)] at e1
    have e2 : w.cell? ⟨g, j, none⟩ = cur[j]? := by simp [World.cell?, hg]
    rw [e2, ← Array.getElem?_toList, e1, hj]
theorem VRow.off {P : Nat → Prop} {w w' : World} {B : Nat} {e : TypeId} {v : Value} {xs : List Value} (h : VRow w B e v xs) (o : Off P w w') (hP : ∀ g, v.ownBlock = some g → ¬ P g) : VRow w' B e v xs :=
  h.keep fun g hg => o.block g (h.lt hg).2 (hP g hg)
theorem Row.off {P : Nat → Prop} {w w' : World} {B : Nat} {v : Value} {xs : List Int} (h : Row w B v xs) (o : Off P w w') (hP : ∀ g, v.ownBlock = some g → ¬ P g) : Row w' B v xs :=
  h.keep fun g hg => o.block g (h.lt hg).2 (hP g hg)
/-- 'append' of one list to a list of lists. -/
theorem run_vpush {w : World} {B : Nat} {v : Value} {xs : List Value} (h : VRow w B 43 v xs) (hB : B ≤ w.heap.size) (hl : xs.length + 1 ≤ 1099511627776) (u : Value) (hu : u.oneCell' = true) :
    ∃ a n c w', (Builtin.append_ #[35, 35] 35 #[v, .slice (some ⟨w.heap.size, 0, none⟩) 1 1]).run Tryz.prog (w.alloc (.cells #[u] 43)) = .ok (.slice a n c) w' ∧ VRow w' B 43 (.slice a n c) (xs ++ [u]) ∧ Off (fun k => v.ownBlock = some k) w w' ∧ ((Value.slice a n c).ownBlock = v.ownBlock ∨ ∃ g, (Value.slice a n c).ownBlock = some g ∧ w.heap.size ≤ g) := by
  obtain ⟨i, hi, hz, hs, hby⟩ := slinfo
  have hrow : VRow (w.alloc (.cells #[u] 43)) B 43 v xs := h.keep (fun g e => ((Below.refl w.heap.size w).alloc (Nat.le_refl _) (.cells #[u] 43)).block g (h.lt e).2)
  obtain ⟨v', w', hr, r, p⟩ := run_append_two (P := Tryz.prog) (w.alloc (.cells #[u] 43)) B 35 35 43 i _ 24 Tryz.underlying35 hi hz hs hby rfl v xs hrow ⟨w.heap.size, 0, none⟩ 1 1 [u] rfl (cell_one_new w u _) (fun x hx => by simp only [List.mem_singleton] at hx; subst hx; exact hu) (by unfold maxLen; omega) (by omega) (by simp; omega)
  have hof : Off (fun k => v.ownBlock = some k) w w' := by
    refine ((Off.refl _ w).alloc (.cells #[u] 43)).trans ?_
    cases p with
    | same g cap hv hv' hg => rw [hv]; exact Off.of_grown hg
    | idle hv hm hw => omega
    | fresh cap hv' hg hs => exact (Off.of_grown hg).mono (fun k e => by cases e)
  cases p with
  | same g cap hv hv' hg => subst hv; subst hv'; exact ⟨_, _, _, w', hr, r, hof, Or.inl rfl⟩
  | idle hv hm hw => omega
  | fresh cap hv' hg hs => subst hv'; exact ⟨_, _, _, w', hr, r, hof, Or.inr ⟨_, rfl, by simp⟩⟩
/-- One list of the book: where it lies, what it holds; the copy, what that holds. -/
structure Ent where
  val : Value
  was : Value
  bs : List Int
  old : List Int
/-- The book at block K. The blocks' roles: 1 the book, 2 and 3 its two lists, 4 the copies, 6 + 2 i the list of place i; 0: none of them. -/
structure Bk (w : World) (B K : Nat) (ux : Nat → Value) (ρ : Nat → Nat) (vb vw : Value) (es : List Ent) : Prop where
  c0 : w.cell? ⟨K, 4, none⟩ = some vb
  c1 : w.cell? ⟨K, 5, none⟩ = some vw
  c2 : w.cell? ⟨K, 6, none⟩ = some (.slice none 0 0)
  c3 : w.cell? ⟨K, 7, none⟩ = some (.slice none 0 0)
  c4 : w.cell? ⟨K, 8, none⟩ = some (.slice none 0 0)
  c5 : w.cell? ⟨K, 9, none⟩ = some (.slice none 0 0)
  cu : ∀ q, q < 4 → w.cell? ⟨K, q, none⟩ = some (ux q)
  fz : ∀ q, w.frozen? ⟨K, q, none⟩ = false
  hB : B ≤ w.heap.size
  rb : VRow w B 43 vb (es.map Ent.val)
  rws : VRow w B 43 vw (es.map Ent.was)
  val : ∀ (i : Nat) (e : Ent), es[i]? = some e → Row w B e.val e.bs
  was : ∀ (i : Nat) (e : Ent), es[i]? = some e → Row w B e.was e.old
  pK : ρ K = 1
  pb : ∀ g, vb.ownBlock = some g → ρ g = 2
  pw : ∀ g, vw.ownBlock = some g → ρ g = 3
  pwas : ∀ (i : Nat) (e : Ent), es[i]? = some e → ∀ g, e.was.ownBlock = some g → ρ g = 4
  pval : ∀ (i : Nat) (e : Ent), es[i]? = some e → ∀ g, e.val.ownBlock = some g → ρ g = 6 + 2 * i
  new : ∀ g, w.heap.size ≤ g → ρ g = 0
theorem Bk.lt {w : World} {B K : Nat} {ux : Nat → Value} {ρ : Nat → Nat} {vb vw : Value} {es : List Ent} (h : Bk w B K ux ρ vb vw es) : K < w.heap.size := by
  rcases Nat.lt_or_ge K w.heap.size with g | g
  · exact g
  · have := h.c0; simp [World.cell?, Array.getElem?_eq_none g] at this
/-- What others do, and new roles for new blocks. -/
theorem Bk.role {P : Nat → Prop} {w w' : World} {B K : Nat} {ux : Nat → Value} {ρ ρ' : Nat → Nat} {vb vw : Value} {es : List Ent} (h : Bk w B K ux ρ vb vw es) (o : Off P w w') (hP : ∀ k, P k → ρ k = 0 ∨ ρ k = 5) (hr : ∀ k, k < w.heap.size → ρ k ≠ 0 → ρ k ≠ 5 → ρ' k = ρ k) (hn : ∀ g, w'.heap.size ≤ g → ρ' g = 0) : Bk w' B K ux ρ' vb vw es := by
  have hK := h.lt
  have nP : ∀ {k r : Nat}, ρ k = r → r ≠ 0 → r ≠ 5 → ¬ P k := fun {k r} e h0 h5 p => by rcases hP k p with q | q <;> omega
  have hc : ∀ q, w'.cell? ⟨K, q, none⟩ = w.cell? ⟨K, q, none⟩ := fun q => o.cell (p := ⟨K, q, none⟩) hK (nP h.pK (by decide) (by decide))
  refine ⟨by rw [hc]; exact h.c0, by rw [hc]; exact h.c1, by rw [hc]; exact h.c2, by rw [hc]; exact h.c3, by rw [hc]; exact h.c4, by rw [hc]; exact h.c5, fun q hq => by rw [hc]; exact h.cu q hq, fun q => by rw [o.frozen (p := ⟨K, q, none⟩) hK (nP h.pK (by decide) (by decide))]; exact h.fz q, Nat.le_trans h.hB o.size,
    h.rb.off o (fun g e => nP (h.pb g e) (by decide) (by decide)), h.rws.off o (fun g e => nP (h.pw g e) (by decide) (by decide)),
    fun i e he => (h.val i e he).off o (fun g eg => nP (h.pval i e he g eg) (by omega) (by omega)), fun i e he => (h.was i e he).off o (fun g eg => nP (h.pwas i e he g eg) (by decide) (by decide)),
    ?_, fun g e => ?_, fun g e => ?_, fun i e he g eg => ?_, fun i e he g eg => ?_, hn⟩
  · rw [hr K hK (by rw [h.pK]; decide) (by rw [h.pK]; decide)]; exact h.pK
  · have := h.pb g e; rw [hr g (h.rb.lt e).2 (by omega) (by omega)]; exact this
  · have := h.pw g e; rw [hr g (h.rws.lt e).2 (by omega) (by omega)]; exact this
  · have := h.pwas i e he g eg; rw [hr g ((h.was i e he).lt eg).2 (by omega) (by omega)]; exact this
  · have := h.pval i e he g eg; rw [hr g ((h.val i e he).lt eg).2 (by omega) (by omega)]; exact this
theorem Bk.off {P : Nat → Prop} {w w' : World} {B K : Nat} {ux : Nat → Value} {ρ : Nat → Nat} {vb vw : Value} {es : List Ent} (h : Bk w B K ux ρ vb vw es) (o : Off P w w') (hP : ∀ k, P k → ρ k = 0) : Bk w' B K ux ρ vb vw es :=
  h.role o (fun k p => Or.inl (hP k p)) (fun _ _ _ _ => rfl) (fun g hg => h.new g (Nat.le_trans o.size hg))
/-- One list is touched. -/
theorem Bk.touch {w w' : World} {B K : Nat} {ux : Nat → Value} {ρ : Nat → Nat} {vb vw : Value} {es : List Ent} (h : Bk w B K ux ρ vb vw es) {i : Nat} {e : Ent} (he : es[i]? = some e) (o : Off (fun k => ρ k = 6 + 2 * i) w w') {bs' : List Int} (hv : Row w' B e.val bs') :
    Bk w' B K ux ρ vb vw (es.set i { e with bs := bs' }) := by
  have hK := h.lt
  have hi : i < es.length := (List.getElem?_eq_some_iff.1 he).1
  have hat : ∀ j x, (es.set i { e with bs := bs' })[j]? = some x → (j = i ∧ x = { e with bs := bs' }) ∨ (j ≠ i ∧ es[j]? = some x) := fun j x hx => by
    by_cases hj : i = j
    · subst hj
      rw [List.getElem?_set_self hi] at hx
      exact Or.inl ⟨rfl, by simpa using hx.symm⟩
    · rw [List.getElem?_set_ne hj] at hx
      exact Or.inr ⟨fun q => hj q.symm, hx⟩
  have hc : ∀ q, w'.cell? ⟨K, q, none⟩ = w.cell? ⟨K, q, none⟩ := fun q => o.cell (p := ⟨K, q, none⟩) hK (fun (q : ρ K = _) => by have := h.pK; omega)
  have hge : ∀ (f : Ent → Value), f { e with bs := bs' } = f e → (es.set i { e with bs := bs' }).map f = es.map f := fun f hf => by
    rw [List.map_set, hf]
    refine List.ext_getElem? fun j => ?_
    by_cases hj : i = j
    · subst hj; rw [List.getElem?_set_self (by simpa using hi), List.getElem?_map, he]; rfl
    · rw [List.getElem?_set_ne hj]
  refine ⟨by rw [hc]; exact h.c0, by rw [hc]; exact h.c1, by rw [hc]; exact h.c2, by rw [hc]; exact h.c3, by rw [hc]; exact h.c4, by rw [hc]; exact h.c5, fun q hq => by rw [hc]; exact h.cu q hq, fun q => by rw [o.frozen (p := ⟨K, q, none⟩) hK (fun (q : ρ K = _) => by have := h.pK; omega)]; exact h.fz q, Nat.le_trans h.hB o.size,
    ?_, ?_, fun j x hx => ?_, fun j x hx => ?_, h.pK, h.pb, h.pw, fun j x hx g eg => ?_, fun j x hx g eg => ?_, fun g hg => h.new g (Nat.le_trans o.size hg)⟩
  · rw [hge Ent.val rfl]; exact h.rb.off o (fun g e (q : ρ g = _) => by have := h.pb g e; omega)
  · rw [hge Ent.was rfl]; exact h.rws.off o (fun g e (q : ρ g = _) => by have := h.pw g e; omega)
  · rcases hat j x hx with ⟨rfl, rfl⟩ | ⟨hj, hx'⟩
    · exact hv
    · exact (h.val j x hx').off o (fun g eg (q : ρ g = _) => by have := h.pval j x hx' g eg; omega)
  · rcases hat j x hx with ⟨rfl, rfl⟩ | ⟨hj, hx'⟩
    · exact (h.was j e he).off o (fun g eg (q : ρ g = _) => by have := h.pwas j e he g eg; omega)
    · exact (h.was j x hx').off o (fun g eg (q : ρ g = _) => by have := h.pwas j x hx' g eg; omega)
  · rcases hat j x hx with ⟨rfl, rfl⟩ | ⟨hj, hx'⟩
    · exact h.pwas j e he g eg
    · exact h.pwas j x hx' g eg
  · rcases hat j x hx with ⟨rfl, rfl⟩ | ⟨hj, hx'⟩
    · exact h.pval j e he g eg
    · exact h.pval j x hx' g eg
end Go.Proofs.YtoijhecphgdfnaaGreatDoor.Bo
