import Derived.Test.YtjbkfppibnlmoaaGreatDoorDkOff
import Derived.Deep.DeepAppendRoom
/-
  append, told in full: in place (same block, same room), or in a new block (all old ones stand).
-/
namespace Go.Proofs.YtjbkfppibnlmoaaGreatDoor.Bo
open Go.RowKit

/-- A slice of the call's own, whatever its elements (one cell each). -/
def VRow (w : World) (B : Nat) (e : TypeId) (v : Value) (xs : List Value) : Prop := w.ownsRow B e 1 v xs.length xs
/-- How an append leaves its row. -/
inductive Put (w w' : World) (v v' : Value) (n m : Nat) : Prop
  | same (g cap : Nat) (hv : v = .slice (some ⟨g, 0, none⟩) n cap) (hv' : v' = .slice (some ⟨g, 0, none⟩) (n + m) cap) (hg : w.grownBy w' (some g)) : Put w w' v v' n m
  | idle (hv : v' = v) (hm : m = 0) (hw : w' = w) : Put w w' v v' n m
  | fresh (cap : Nat) (hv' : v' = .slice (some ⟨w.heap.size, 0, none⟩) (n + m) cap) (hg : w.grownBy w' none) (hs : w.heap.size < w'.heap.size) : Put w w' v v' n m
theorem run_append_two {P : Program} (w : World) (base : Nat) (t ty e : TypeId) (i : TypeInfo) (z : Value) (bytes : Nat) (ht : P.underlying t = some (.slice e)) (hi : P.info? e = some i) (hz : i.zero = some z)
    (hsize : i.size = 1) (hby : i.bytes = bytes) (hzs : z.cells.size = 1)
    (v : Value) (xs : List Value) (hown : VRow w base e v xs)
    (a : Addr) (m c : Nat) (news : List Value) (hl : news.length = m) (hnews : ∀ j u, news[j]? = some u → w.cell? (a.add j) = some u) (h1 : ∀ u ∈ news, u.oneCell' = true)
    (h63 : xs.length + m ≤ maxLen) (hbytes : (xs.length + m) * bytes ≤ 140737488355328) (hbase : base ≤ w.heap.size) :
    ∃ v' w', (Builtin.append_ #[t, t] ty #[v, .slice (some a) m c]).run P w = .ok v' w' ∧ VRow w' base e v' (xs ++ news) ∧ Put w w' v v' xs.length m := by
  have hl1 : news.length = m * i.size := by rw [hsize]; omega
  subst hby
  have hsmall : xs.length + m ≤ 9223372036854775807 := by simp only [maxLen] at h63; omega
  have hlen : (xs ++ news).length = xs.length + m := by rw [List.length_append, hl]
  have grown : ∀ (old : Nat), old < xs.length + m →
      VRow (w.drew.alloc (.cells (xs.toArray ++ news.toArray ++ Builtin.zeroCells z.cells (grownCap w (xs.length + m) old e - (xs.length + m))) e)) base e
        (.slice (some ⟨w.heap.size, 0, none⟩) (xs.length + m) (grownCap w (xs.length + m) old e)) (xs ++ news) ∧
      w.grownBy (w.drew.alloc (.cells (xs.toArray ++ news.toArray ++ Builtin.zeroCells z.cells (grownCap w (xs.length + m) old e - (xs.length + m))) e)) none ∧ w.heap.size < (w.drew.alloc (.cells (xs.toArray ++ news.toArray ++ Builtin.zeroCells z.cells (grownCap w (xs.length + m) old e - (xs.length + m))) e)).heap.size := by
    intro old ho
    have hge := grownCap_ge w (xs.length + m) old e
    have hcm : grownCap w (xs.length + m) old e ≤ maxLen := grownCap_le_maxLen w (xs.length + m) old e h63
    refine ⟨⟨by omega, .inr ⟨w.heap.size, _, _, by rw [hlen], hbase, heap_alloc_new w.drew _, by omega, hcm, ?_, ?_⟩⟩, ⟨rfl, rfl, rfl, by simp, fun k hk _ => Below.heap_alloc w.drew _ k hk⟩, by simp⟩
    · simp only [Array.size_append, List.size_toArray, size_zeroCells, hzs, hl]
      omega
    · simp only [Array.toList_append, List.append_assoc, Nat.mul_one]
      rw [← List.append_assoc]
      exact List.take_left
  rcases hown.2 with ⟨rfl, h0⟩ | ⟨g, cap, cur, rfl, hbg, hg, hnc, hcm, hcs, htake⟩
  · have hx : xs = [] := List.eq_nil_of_length_eq_zero h0
    subst hx
    by_cases hm : m = 0
    · subst hm
      obtain rfl : news = [] := List.eq_nil_of_length_eq_zero hl
      refine ⟨.slice none 0 0, w, ?_, World.ownsRow_nil w base e 1, .idle rfl rfl rfl⟩
      simp [Builtin.append_, run_underlying ht, sizeOf, typeInfo, hi, Builtin.lenOf, Builtin.firstCells, loadCells, loadCellsFrom]
    · have hr := run_append_nil (P := P) w t ty e i z ht hi hz a m c news hl1 hnews (by omega) (by simp only [List.length_nil] at hsmall; omega) (by have hb := hbytes; simp only [List.length_nil, Nat.zero_add] at hb; omega)
      have hgr := grown 0 (by simp; omega)
      simp only [List.length_nil, Nat.zero_add, List.nil_append, Array.empty_append] at hgr ⊢
      exact ⟨_, _, hr, hgr.1, .fresh _ (by rw [Nat.zero_add]) hgr.2.1 hgr.2.2⟩
  · by_cases hroom : xs.length + m ≤ cap
    · obtain ⟨w', hr, h2, h3⟩ := run_append_own_spare (P := P) w base t ty e i 1 ht hi hsize g xs.length cap xs hown a m c news (by omega) hnews h1 hroom
      refine ⟨_, w', hr, ?_, .same g cap rfl rfl h3⟩
      unfold VRow
      rw [hlen]
      exact h2
    · have holds : ∀ j u, xs[j]? = some u → w.cell? ((⟨g, 0, none⟩ : Addr).add j) = some u := hown.cells (g := g) rfl
      have hr := run_append_grow (P := P) w t ty e i z ht hi hz ⟨g, 0, none⟩ xs.length cap xs (by rw [hsize]; omega) holds a m c news hl1 hnews (by omega) (by omega) (growslice_fits (by omega) hbytes)
      have hgr := grown cap (by omega)
      exact ⟨_, _, hr, hgr.1, .fresh _ rfl hgr.2.1 hgr.2.2⟩
end Go.Proofs.YtjbkfppibnlmoaaGreatDoor.Bo

/-
  What 'DkMem' stands on, where no disk is.
-/
namespace Go.Proofs.YtjbkfppibnlmoaaGreatDoor.Bo
open Go.RowKit
theorem Byts.off {P : Nat → Prop} {w w' : World} {po : Option Addr} {n : Nat} {bs : List Int} (h : Byts w po n bs) (ho : Off P w w') (hP : ∀ b o, po = some ⟨b, o, none⟩ → ¬ P b) : Byts w' po n bs :=
  ⟨h.len, fun j hj => by
    obtain ⟨b, o, hp, hb, hc⟩ := h.cell j hj
    exact ⟨b, o, hp, Nat.lt_of_lt_of_le hb ho.size, by rw [ho.cell (p := ⟨b, o + j, none⟩) hb (hP b o hp)]; exact hc⟩⟩
theorem Byts.drew {w : World} {po : Option Addr} {n : Nat} {bs : List Int} (h : Byts w po n bs) (k : Nat) : Byts (w.drewN k) po n bs := h.off (P := fun _ => False) ((Off.refl _ _).drewN _) (fun _ _ _ => id)
end Go.Proofs.YtjbkfppibnlmoaaGreatDoor.Bo

/-
  The statements' looks at memory: Same.
-/
namespace Go.Proofs.YtjbkfppibnlmoaaGreatDoor.Bo
open Go.RowKit

set_option maxRecDepth 100000 in
set_option maxHeartbeats 2000000 in
theorem same_true {w : World} {ao bo : Option Addr} {n ac bc : Nat} {xs : List Int} (ha : Byts w ao n xs) (hb : Byts w bo n xs) (hn : n ≤ 9223372036854775807) :
    Calls Tryz.prog 64 #[.slice ao n ac, .slice bo n bc] w fun e w' => e = .returned (.bool true) ∧ ∃ m, w' = w.drewN m := by
  have HA : Hid (Byts w ao n xs) := ha
  have HB : Hid (Byts w bo n xs) := hb
  clear ha hb
  go_enter Tryz.func64, Tryz.ntmps64
  go_wp2_with fail
  go_loopw [5] (fun ti wx => ∃ j m : Nat, j ≤ n ∧ ti = .int .i64 j ∧ wx = w.drewN m) (fun ti _ => n - (intOf ti).toNat)
  case atStart => exact ⟨0, 0, Nat.zero_le _, rfl, rfl⟩
  case round =>
    obtain ⟨j, m, hj, rfl, rfl⟩ := hrel
    by_cases hlt : j < n
    · obtain ⟨ab, aof, rfl, hal, hac⟩ := HA.out.cell j hlt
      obtain ⟨bb, bof, rfl, hbl, hbc⟩ := HB.out.cell j hlt
      have hlt1 : (j : Int) < n := by omega
      go_wp2_with fail
      go_quiet (fail)
      go_wp2_with fail
      go_roundw
      case rel => exact ⟨j + 1, _, hlt, by go_num, rfl⟩
      case measure => simp [intOf]; omega
    · have hlt1 : ¬ ((j : Int) < n) := by omega
      go_wp2_with fail
      go_ret
      exact ⟨rfl, _, rfl⟩
end Go.Proofs.YtjbkfppibnlmoaaGreatDoor.Bo

/-
  couriermem: Hand, Kept: lists that are handed in, with marks in the room behind them.
-/
namespace Go.Proofs.YtjbkfppibnlmoaaGreatDoor.Bo
open Go.RowKit

theorem u8s_set (xs : List Int) (j : Nat) (z : Int) : u8s (xs.set j z) = (u8s xs).set j (.int .u8 z) := by simp [u8s, List.map_set]
theorem Row.stored {w : World} {B g n cap : Nat} {xs : List Int} (h : Row w B (.slice (some ⟨g, 0, none⟩) n cap) xs) (j : Nat) (z : Int) : Row (w.setCell ⟨g, j, none⟩ (.int .u8 z)) B (.slice (some ⟨g, 0, none⟩) n cap) (xs.set j z) := by
  obtain ⟨rfl, _⟩ := h.cell
  have := (World.ownsRow.stored h j (.int .u8 z)).1
  unfold Row
  rw [List.length_set, u8s_set]
  exact this
theorem Row.slot {w : World} {B g n cap : Nat} {xs : List Int} (h : Row w B (.slice (some ⟨g, 0, none⟩) n cap) xs) {j : Nat} (hj : j < xs.length) : w.cell? ⟨g, j, none⟩ = some (.int .u8 (xs.getD j 0)) := h.cell.2 j hj
theorem Row.thaw {w : World} {B g n cap : Nat} {xs : List Int} (h : Row w B (.slice (some ⟨g, 0, none⟩) n cap) xs) (j : Nat) : w.frozen? ⟨g, j, none⟩ = false := by
  rcases h.2 with ⟨h0, _⟩ | ⟨g', cap', cur, e, hB, hg, _⟩
  · cases h0
  · simp only [Value.slice.injEq, Option.some.injEq, Addr.mk.injEq, and_true] at e
    obtain ⟨rfl, _, _⟩ := e
    simp [World.frozen?, hg]
theorem Row.prefix {w : World} {B g n cap m : Nat} {xs : List Int} (h : Row w B (.slice (some ⟨g, 0, none⟩) n cap) xs) (hm : m ≤ n) : Row w B (.slice (some ⟨g, 0, none⟩) m cap) (xs.take m) := by
  obtain ⟨hn, _⟩ := h.cell
  rcases h.2 with ⟨h0, _⟩ | ⟨g', cap', cur, e, hB, hg, hc, hM, hs, ht⟩
  · cases h0
  · simp only [Value.slice.injEq, Option.some.injEq, Addr.mk.injEq, and_true] at e
    obtain ⟨rfl, hnn, rfl⟩ := e
    have hl : (xs.take m).length = m := by rw [List.length_take]; omega
    refine ⟨by rw [u8s_length]; omega, Or.inr ⟨g, cap, cur, by rw [hl], hB, hg, by omega, hM, hs, ?_⟩⟩
    rw [hl, u8s_take, ← ht, List.take_take]
    congr 1
    omega
def marks : List Int := (List.range 90).map fun i : Nat => (100 : Int) + (i : Int)
theorem marks_at (i : Nat) (h : i < 90) : marks.getD i 0 = 100 + (i : Int) := by
  unfold marks
  rw [List.getD_eq_getElem?_getD, List.getElem?_map, List.getElem?_range h]
  rfl
theorem set_next (xs : List Int) (k : Nat) (v : Int) (h : 0 < k) : (xs ++ List.replicate k 0).set xs.length v = (xs ++ [v]) ++ List.replicate (k - 1) 0 := by
  obtain ⟨k, rfl⟩ : ∃ j, k = j + 1 := ⟨k - 1, by omega⟩
  rw [List.set_append_right _ _ (Nat.le_refl _), Nat.sub_self, List.replicate_succ, List.set_cons_zero]
  simp
theorem run_make_bytes {w : World} (n : Nat) (hn : n ≤ 140737488355328) : ∃ w', (Instr.makeSlice 28 (.int .i64 (n : Int)) (.int .i64 (n : Int))).run Tryz.prog w = .ok (.slice (some ⟨w.heap.size, 0, none⟩) n n) w' ∧ Row w' w.heap.size (.slice (some ⟨w.heap.size, 0, none⟩) n n) (List.replicate n 0) ∧ Below w.heap.size w w' := by
  obtain ⟨i, hi, hz, hs, hby⟩ := u8info
  obtain ⟨w', h1, h2, h3⟩ := run_make_full (P := Tryz.prog) w w.heap.size 28 5 i _ 1 Tryz.underlying28 hi hz hs .i64 .i64 n (by rw [hby]; omega) (by unfold maxLen; omega) (Nat.le_refl _)
  refine ⟨w', h1, ?_, ?_⟩
  · unfold Row
    rw [List.length_replicate]
    have e : (madeCells (Value.int .u8 0).cells (n * 1)).toList = u8s (List.replicate n 0) := by
      rw [Nat.mul_one, show (Value.int .u8 0).cells = #[Value.int .u8 0] from rfl, toList_madeCells_one]
      simp [u8s]
    rw [← e]
    exact h2
  · exact (Off.of_grown h3).below (Nat.le_refl _) (fun k e => by cases e)
theorem take_next {bs : List Int} {i : Nat} (h : i < bs.length) : bs.take i ++ [bs.getD i 0] = bs.take (i + 1) := by
  rw [List.take_succ_eq_append_getElem h, List.getD_eq_getElem?_getD, List.getElem?_eq_getElem h]
  rfl
set_option maxRecDepth 100000 in
set_option maxHeartbeats 2000000 in
theorem Hand_any {po : Option Addr} {m c : Nat} {bs : List Int} (w : World) (hb : Byts w po m bs) (hm : m + 90 ≤ 140737488355328) : Calls Tryz.prog 38 #[.slice po m c] w fun e w' => e = .returned (.slice (some ⟨w.heap.size, 0, none⟩) m (m + 90)) ∧ Row w' w.heap.size (.slice (some ⟨w.heap.size, 0, none⟩) (m + 90) (m + 90)) (bs ++ marks) ∧ Below w.heap.size w w' := by
  have HB : Hid (Byts w po m bs) := hb
  have HL : Hid (bs.length = m) := hb.len
  clear hb
  obtain ⟨w1, hmk, hR, hB1⟩ := run_make_bytes (w := w) (m + 90) (by omega)
  have hmk2 : (Instr.makeSlice 28 (.int .i64 ((m : Int) + 90)) (.int .i64 ((m : Int) + 90))).run Tryz.prog w = .ok (.slice (some ⟨w.heap.size, 0, none⟩) (m + 90) (m + 90)) w1 := hmk
  have HR : Hid (Row w1 w.heap.size (.slice (some ⟨w.heap.size, 0, none⟩) (m + 90) (m + 90)) (List.replicate (m + 90) 0) ∧ Below w.heap.size w w1) := ⟨hR, hB1⟩
  clear hmk hR hB1
  go_enter Tryz.func38, Tryz.ntmps38
  go_wp2_with fail
  clear hmk2
  go_loopw [4] (fun ti wx => ∃ i : Nat, i ≤ m ∧ ti = .int .i64 i ∧ Hid (Row wx w.heap.size (.slice (some ⟨w.heap.size, 0, none⟩) (m + 90) (m + 90)) (bs.take i ++ List.replicate (m + 90 - i) 0) ∧ Below w.heap.size w wx)) (fun ti _ => m - (intOf ti).toNat)
  case atStart => exact ⟨0, Nat.zero_le _, rfl, HR⟩
  case round =>
    obtain ⟨i, hi, rfl, HI⟩ := hrel
    by_cases hlt : i < m
    · have hlt1 : (i : Int) < m := by omega
      obtain ⟨b, o, hpo, _, hcell⟩ := (HB.out.below HI.out.2).cell i (by have := HL.out; omega)
      subst hpo
      have k1 : wr.cell? ⟨w.heap.size, i, none⟩ = some (.int .u8 ((bs.take i ++ List.replicate (m + 90 - i) 0).getD i 0)) := HI.out.1.slot (by simp; have := HL.out; omega)
      have k2 := HI.out.1.thaw i
      go_wp2_with fail
      go_roundw
      case rel =>
        refine ⟨i + 1, hlt, by go_num, ?_, HI.out.2.setCell (Nat.le_refl _) _⟩
        have hs := HI.out.1.stored i (bs.getD i 0)
        have e := set_next (bs.take i) (m + 90 - i) (bs.getD i 0) (by omega)
        rw [show (bs.take i).length = i by rw [List.length_take]; have := HL.out; omega, take_next (by have := HL.out; omega)] at e
        rw [e, show m + 90 - i - 1 = m + 90 - (i + 1) by omega] at hs
        exact hs
      case measure => simp [intOf]; omega
    · have hlt1 : ¬ (i : Int) < m := by omega
      obtain rfl : i = m := by omega
      have HI2 : Hid (Row wr w.heap.size (.slice (some ⟨w.heap.size, 0, none⟩) (i + 90) (i + 90)) (bs ++ (marks.take 0 ++ List.replicate (90 - 0) 0)) ∧ Below w.heap.size w wr) := by
        refine ⟨?_, HI.out.2⟩
        have h1 := HI.out.1
        rw [List.take_of_length_le (by have := HL.out; omega), show i + 90 - i = 90 by omega] at h1
        exact h1
      clear HI
      go_wp2_with fail
      go_loopw [5] (fun ti wx => ∃ j : Nat, j ≤ 90 ∧ ti = .int .i64 j ∧ Hid (Row wx w.heap.size (.slice (some ⟨w.heap.size, 0, none⟩) (i + 90) (i + 90)) (bs ++ (marks.take j ++ List.replicate (90 - j) 0)) ∧ Below w.heap.size w wx)) (fun ti _ => 90 - (intOf ti).toNat)
      case atStart => exact ⟨0, by omega, rfl, HI2⟩
      case round =>
        obtain ⟨j, hj, rfl, HJ⟩ := hrel
        by_cases hlt2 : j < 90
        · have hlt3 : (j : Int) < 90 := by omega
          have hll : bs.length = i := HL.out
          have k1 : wr.cell? ⟨w.heap.size, i + j, none⟩ = some (.int .u8 ((bs ++ (marks.take j ++ List.replicate (90 - j) 0)).getD (i + j) 0)) := HJ.out.1.slot (by simp [marks]; omega)
          have k2 := HJ.out.1.thaw (i + j)
          go_wp2_with fail
          go_roundw
          case rel =>
            refine ⟨j + 1, hlt2, by go_num, ?_, HJ.out.2.setCell (Nat.le_refl _) _⟩
            have hs := HJ.out.1.stored (i + j) (100 + (j : Int))
            have e := set_next (bs ++ marks.take j) (90 - j) (100 + (j : Int)) (by omega)
            have hml : marks.length = 90 := by simp [marks]
            rw [show (bs ++ marks.take j).length = i + j by rw [List.length_append, List.length_take]; omega] at e
            rw [List.append_assoc, List.append_assoc, List.append_assoc, ← marks_at j hlt2, ← List.append_assoc (marks.take j), take_next (by omega)] at e
            rw [← marks_at j hlt2, e, show 90 - j - 1 = 90 - (j + 1) by omega] at hs
            rw [← marks_at j hlt2]
            exact hs
          case measure => simp [intOf]; omega
        · have hlt3 : ¬ (j : Int) < 90 := by omega
          obtain rfl : j = 90 := by omega
          go_wp2_with fail
          go_ret
          refine ⟨rfl, ?_, HJ.out.2⟩
          have h1 := HJ.out.1
          have hml : marks.length = 90 := by simp [marks]
          rw [List.take_of_length_le (by omega), Nat.sub_self, List.replicate_zero, List.append_nil] at h1
          exact h1
end Go.Proofs.YtjbkfppibnlmoaaGreatDoor.Bo

/-
  couriermem.Kept; disk.From, Disk.Read.
-/
namespace Go.Proofs.YtjbkfppibnlmoaaGreatDoor.Bo
open Go.RowKit

theorem Row.bytes {w : World} {B g n cap : Nat} {xs : List Int} (h : Row w B (.slice (some ⟨g, 0, none⟩) n cap) xs) : Byts w (some ⟨g, 0, none⟩) n xs := by
  obtain ⟨hn, hc⟩ := h.cell
  refine ⟨hn.symm, fun j hj => ⟨g, 0, rfl, (h.lt (g := g) rfl).2, ?_⟩⟩
  rw [Nat.zero_add]
  exact hc j (by omega)
theorem marked_at {bs : List Int} {m j : Nat} (hm : bs.length = m) (hj : j < 90) : (bs ++ marks).getD (m + j) 0 = 100 + (j : Int) := by
  rw [List.getD_eq_getElem?_getD, List.getElem?_append_right (by omega), hm, Nat.add_sub_cancel_left, ← List.getD_eq_getElem?_getD, marks_at j hj]
set_option maxRecDepth 100000 in
set_option maxHeartbeats 2000000 in
theorem Kept_true {po : Option Addr} {B g m c : Nat} {bs : List Int} (w : World) (hR : Row w B (.slice (some ⟨g, 0, none⟩) (m + 90) (m + 90)) (bs ++ marks)) (hb : Byts w po m bs) (hm : m + 90 ≤ 140737488355328) : Calls Tryz.prog 52 #[.slice (some ⟨g, 0, none⟩) m (m + 90), .slice po m c] w fun e w' => e = .returned (.bool true) ∧ ∃ k, w' = w.drewN k := by
  have HR : Hid (Row w B (.slice (some ⟨g, 0, none⟩) (m + 90) (m + 90)) (bs ++ marks)) := hR
  have HB : Hid (Byts w po m bs) := hb
  have HL : Hid (bs.length = m) := hb.len
  clear hR hb
  go_enter Tryz.func52, Tryz.ntmps52
  go_wp2_with fail
  go_loopw [6] (fun ti wx => ∃ j : Nat, j ≤ 90 ∧ ti = .int .i64 j ∧ ∃ k, wx = w.drewN k) (fun ti _ => 90 - (intOf ti).toNat)
  case atStart => exact ⟨0, by omega, rfl, 0, rfl⟩
  case round =>
    obtain ⟨j, hj, rfl, k, rfl⟩ := hrel
    by_cases hlt : j < 90
    · have hlt1 : (j : Int) < 90 := by omega
      have k1 : w.cell? ⟨g, m + j, none⟩ = some (.int .u8 (100 + (j : Int))) := by
        have h := HR.out.slot (j := m + j) (by simp [marks]; have := HL.out; omega)
        rw [marked_at HL.out hlt] at h
        exact h
      go_wp2_with fail
      go_roundw
      case rel => exact ⟨j + 1, hlt, by go_num, _, by first | rfl | exact World.drewN_drew _ _⟩
      case measure => simp [intOf]; omega
    · have hlt1 : ¬ (j : Int) < 90 := by omega
      go_wp2_with fail
      have hp := (HR.out.prefix (m := m) (by omega)).bytes
      rw [List.take_left' HL.out] at hp
      refine (same_true (hp.drew k) (HB.out.drew k) (by omega)).mono ?_
      rintro e w1 ⟨rfl, k2, rfl⟩
      go_wp2_with fail
      go_ret
      exact ⟨rfl, k + k2, by simp⟩
section
variable {w0 w : World} {B K : Nat} {v0 v1 : Value} {x0 x1 : List Int} {s0 s1 : Nat} {st fu na ns nc : Int} {po : Option Addr} {m c : Nat} {bs : List Int}
end
end Go.Proofs.YtjbkfppibnlmoaaGreatDoor.Bo
