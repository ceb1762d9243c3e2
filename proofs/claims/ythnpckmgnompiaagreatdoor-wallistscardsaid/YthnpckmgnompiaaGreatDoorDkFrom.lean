import Derived.Test.YthnpckmgnompiaaGreatDoorDkCalls
import Derived.Test.YthnpckmgnompiaaGreatDoorAs
import Derived.Laws.BytesString
import Derived.Lib.SlBytesConst
/-
  A disk that was made: Crash, Image, Counts.
-/
namespace Go.Proofs.YthnpckmgnompiaaGreatDoor
open Go.RowKit

section
variable {w0 w : World} {B K : Nat} {v0 v1 : Value} {x0 x1 : List Int} {s0 s1 : Nat} {st fu na ns nc : Int}
end
end Go.Proofs.YthnpckmgnompiaaGreatDoor

/-
  A disk that was made: Image, Counts.
-/
namespace Go.Proofs.YthnpckmgnompiaaGreatDoor
open Go.RowKit

theorem Row.base {w : World} {B B' : Nat} {v : Value} {xs : List Int} (h : Row w B v xs) (hB : B' ≤ B) : Row w B' v xs := by
  rcases h.2 with ⟨rfl, h0⟩ | ⟨g, cap, cur, rfl, hb, rest⟩
  · exact ⟨h.1, Or.inl ⟨rfl, h0⟩⟩
  · exact ⟨h.1, Or.inr ⟨g, cap, cur, rfl, Nat.le_trans hB hb, rest⟩⟩
theorem Row.below {w w' : World} {B : Nat} {v : Value} {xs : List Int} (h : Row w B v xs) (hb : Below w.heap.size w w') : Row w' B v xs := h.keep fun g hg => hb.block g (h.lt hg).2
section
variable {w0 w : World} {B K : Nat} {v0 v1 : Value} {x0 x1 : List Int} {s0 s1 : Nat} {st fu na ns nc : Int}
theorem read0_rel (h : Dsk w0 B K v0 v1 x0 x1 s0 s1 st fu na ns nc) (ha : Off (fun _ => False) w0 w) :
    Calls Tryz.prog 92 #[.pointer (some ⟨K, 0, none⟩), .int .i64 0, .int .i64 s0] w fun e w' => ∃ a n c, e = .returned (.slice a n c) ∧ Row w' w0.heap.size (.slice a n c) (x0.take s0) ∧ Below w0.heap.size w0 w' := by
  have hd := h.off ha (fun _ _ => id)
  refine (read_any 0 s0 w hd.a0 (by have := h.a0.syn; omega)).mono ?_
  rintro e w' ⟨r, rfl, hr, hb⟩
  obtain ⟨a, c, rfl, _⟩ := hr.slice
  exact ⟨a, _, c, rfl, by simpa using hr.base ha.size, (ha.below_of (fun _ _ => id)).trans (hb.mono ha.size)⟩
theorem read1_rel (h : Dsk w0 B K v0 v1 x0 x1 s0 s1 st fu na ns nc) (ha : Off (fun _ => False) w0 w) :
    Calls Tryz.prog 92 #[.pointer (some ⟨K, 2, none⟩), .int .i64 0, .int .i64 s1] w fun e w' => ∃ a n c, e = .returned (.slice a n c) ∧ Row w' w0.heap.size (.slice a n c) (x1.take s1) ∧ Below w0.heap.size w0 w' := by
  have hd := h.off ha (fun _ _ => id)
  refine (read_any 0 s1 w hd.a1 (by have := h.a1.syn; omega)).mono ?_
  rintro e w' ⟨r, rfl, hr, hb⟩
  obtain ⟨a, c, rfl, _⟩ := hr.slice
  exact ⟨a, _, c, rfl, by simpa using hr.base ha.size, (ha.below_of (fun _ _ => id)).trans (hb.mono ha.size)⟩
end
end Go.Proofs.YthnpckmgnompiaaGreatDoor

/-
  The law DiskZero, walked.
-/
namespace Go.Proofs.YthnpckmgnompiaaGreatDoor
open Go.RowKit

set_option maxHeartbeats 400000 in
theorem New_any (w : World) : Calls Tryz.prog 4 #[] w fun e w' => e = .returned (.pointer (some ⟨w.heap.size, 0, none⟩)) ∧ w' = w.alloc (.cells #[.slice none 0 0, .int .i64 0, .slice none 0 0, .int .i64 0, .int .i64 1, .int .i64 (-1), .int .i64 0, .int .i64 0, .int .i64 0] 72) := by
  go_enter Tryz.func4, Tryz.ntmps4
  go_wp2
  go_ret
  exact ⟨rfl, rfl⟩
end Go.Proofs.YthnpckmgnompiaaGreatDoor

/-
  Bytes as a string; the law's begins.
-/
namespace Go.Proofs.YthnpckmgnompiaaGreatDoor
open Go.RowKit

def strOf (xs : List Int) : ByteArray := xs.foldl (fun r n => r.push (UInt8.ofNat n.toNat)) ByteArray.empty
theorem Byts.load {P : Program} {w : World} {a : Addr} {n : Nat} {bs : List Int} (h : Byts w (some a) n bs) : (loadCells a n).run P w = .ok (bs.map (Value.int .u8)).toArray w := by
  have hm := h.len
  have := run_loadCells_list (P := P) w a (bs.map (Value.int .u8)) (fun j u hu => by
    obtain ⟨hj, rfl⟩ := u8s_get (xs := bs) hu
    obtain ⟨b, o, e, _, hc⟩ := h.cell j (by omega)
    obtain rfl : a = ⟨b, o, none⟩ := by simpa using e
    rw [Addr.add_lit]; exact hc)
  rwa [List.length_map, hm] at this
theorem run_conv_bytes {w : World} {po : Option Addr} {m : Nat} {bs : List Int} (h : Byts w po m bs) (c : Nat) : (convert 22 9 (.slice po m c)).run Tryz.prog w = .ok (.string (strOf bs)) w := by
  rw [run_convert_bytes_string w _ _ _ _ _ _ Tryz.underlying22 Tryz.underlying5 Tryz.underlying9]
  cases po with
  | none =>
    have m0 : m = 0 := by
      rcases Nat.eq_zero_or_pos m with g | g
      · exact g
      · obtain ⟨_, _, e, _⟩ := h.cell 0 g; cases e
    obtain rfl : bs = [] := List.eq_nil_of_length_eq_zero (by rw [h.len]; exact m0)
    simp [Conv.bytesToString, strOf, Sem.run_pure]
  | some a => exact run_bytesToString w _ _ _ _ h.load
theorem Byts.take {w : World} {po : Option Addr} {n m : Nat} {bs : List Int} (h : Byts w po n bs) (hm : m ≤ n) : Byts w po m (bs.take m) :=
  ⟨by rw [List.length_take, h.len]; omega, fun j hj => by
    obtain ⟨b, o, e, hl, hc⟩ := h.cell j (by omega)
    refine ⟨b, o, e, hl, ?_⟩
    rw [hc]
    simp [List.getD_eq_getElem?_getD, hj]⟩
theorem Byts.drew {w : World} {po : Option Addr} {n : Nat} {bs : List Int} (h : Byts w po n bs) (k : Nat) : Byts (w.drewN k) po n bs := h.off (P := fun _ => False) ((Off.refl _ _).drewN _) (fun _ _ _ => id)
theorem cell_new (w : World) (cs : Array Value) (t : TypeId) (fr : Nat × Nat) (j : Nat) : (w.alloc (.cells cs t fr)).cell? ⟨w.heap.size, j, none⟩ = cs[j]? := by
  have hb : (w.alloc (.cells cs t fr)).heap[w.heap.size]? = some (.cells cs t fr) := by show (w.heap.push _)[w.heap.size]? = _; simp
  unfold World.cell?
  rw [hb]
  rfl
theorem lit3 {w : World} {n : Nat} (hn : w.heap.size = n) {a b c : Int} : Byts (w.alloc (.cells #[.int .u8 a, .int .u8 b, .int .u8 c] 5 (3, 4))) (some ⟨n, 0, none⟩) 3 [a, b, c] := by
  subst hn
  refine ⟨rfl, fun j hj => ⟨w.heap.size, 0, rfl, by simp, ?_⟩⟩
  match j, hj with
  | 0, _ => rw [cell_new]; rfl
  | 1, _ => rw [cell_new]; rfl
  | 2, _ => rw [cell_new]; rfl
theorem lit4 {w : World} {n : Nat} (hn : w.heap.size = n) {a b c d : Int} : Byts (w.alloc (.cells #[.int .u8 a, .int .u8 b, .int .u8 c, .int .u8 d] 5 (4, 5))) (some ⟨n, 0, none⟩) 4 [a, b, c, d] := by
  subst hn
  refine ⟨rfl, fun j hj => ⟨w.heap.size, 0, rfl, by simp, ?_⟩⟩
  match j, hj with
  | 0, _ => rw [cell_new]; rfl
  | 1, _ => rw [cell_new]; rfl
  | 2, _ => rw [cell_new]; rfl
  | 3, _ => rw [cell_new]; rfl
end Go.Proofs.YthnpckmgnompiaaGreatDoor

/-
  The statements' looks at memory: Same.
-/
namespace Go.Proofs.YthnpckmgnompiaaGreatDoor
open Go.RowKit

set_option maxRecDepth 100000 in
set_option maxHeartbeats 2000000 in
theorem same_true {w : World} {ao bo : Option Addr} {n ac bc : Nat} {xs : List Int} (ha : Byts w ao n xs) (hb : Byts w bo n xs) (hn : n ≤ 9223372036854775807) :
    Calls Tryz.prog 30 #[.slice ao n ac, .slice bo n bc] w fun e w' => e = .returned (.bool true) ∧ ∃ m, w' = w.drewN m := by
  have HA : Hid (Byts w ao n xs) := ha
  have HB : Hid (Byts w bo n xs) := hb
  clear ha hb
  go_enter Tryz.func30, Tryz.ntmps30
  go_wp2_with fail
  go_loopw [5] (fun ti wx => ∃ j m : Nat, j ≤ n ∧ ti = .int .i64 j ∧ wx = w.drewN m) (fun ti _ => n - (intOf ti).toNat)
  case atStart => exact ⟨0, 0, Nat.zero_le _, rfl, rfl⟩
  case round =>
    obtain ⟨j, m, hj, rfl, rfl⟩ := hrel
    by_cases hlt : j < n
    · obtain ⟨ab, aof, rfl, hal, hac⟩ := HA.out.cell j hlt
      obtain ⟨bb, bof, rfl, hbl, hbc⟩ := HB.out.cell j hlt
      have hlt1 : (j : Int) < n := by omega
      go_wp2_with fail
      go_quiet (fail)
      go_wp2_with fail
      go_roundw
      case rel => exact ⟨j + 1, _, hlt, by go_num, rfl⟩
      case measure => simp [intOf]; omega
    · have hlt1 : ¬ ((j : Int) < n) := by omega
      go_wp2_with fail
      go_ret
      exact ⟨rfl, _, rfl⟩
end Go.Proofs.YthnpckmgnompiaaGreatDoor

/-
  couriermem: Hand, Kept: lists that are handed in, with marks in the room behind them.
-/
namespace Go.Proofs.YthnpckmgnompiaaGreatDoor
open Go.RowKit

theorem u8s_set (xs : List Int) (j : Nat) (z : Int) : u8s (xs.set j z) = (u8s xs).set j (.int .u8 z) := by simp [u8s, List.map_set]
theorem Row.stored {w : World} {B g n cap : Nat} {xs : List Int} (h : Row w B (.slice (some ⟨g, 0, none⟩) n cap) xs) (j : Nat) (z : Int) : Row (w.setCell ⟨g, j, none⟩ (.int .u8 z)) B (.slice (some ⟨g, 0, none⟩) n cap) (xs.set j z) := by
  obtain ⟨rfl, _⟩ := h.cell
  have := (World.ownsRow.stored h j (.int .u8 z)).1
  unfold Row
  rw [List.length_set, u8s_set]
  exact this
theorem Row.slot {w : World} {B g n cap : Nat} {xs : List Int} (h : Row w B (.slice (some ⟨g, 0, none⟩) n cap) xs) {j : Nat} (hj : j < xs.length) : w.cell? ⟨g, j, none⟩ = some (.int .u8 (xs.getD j 0)) := h.cell.2 j hj
theorem Row.thaw {w : World} {B g n cap : Nat} {xs : List Int} (h : Row w B (.slice (some ⟨g, 0, none⟩) n cap) xs) (j : Nat) : w.frozen? ⟨g, j, none⟩ = false := by
  rcases h.2 with ⟨h0, _⟩ | ⟨g', cap', cur, e, hB, hg, _⟩
  · cases h0
  · simp only [Value.slice.injEq, Option.some.injEq, Addr.mk.injEq, and_true] at e
    obtain ⟨rfl, _, _⟩ := e
    simp [World.frozen?, hg]
theorem Row.prefix {w : World} {B g n cap m : Nat} {xs : List Int} (h : Row w B (.slice (some ⟨g, 0, none⟩) n cap) xs) (hm : m ≤ n) : Row w B (.slice (some ⟨g, 0, none⟩) m cap) (xs.take m) := by
  obtain ⟨hn, _⟩ := h.cell
  rcases h.2 with ⟨h0, _⟩ | ⟨g', cap', cur, e, hB, hg, hc, hM, hs, ht⟩
  · cases h0
  · simp only [Value.slice.injEq, Option.some.injEq, Addr.mk.injEq, and_true] at e
    obtain ⟨rfl, hnn, rfl⟩ := e
    have hl : (xs.take m).length = m := by rw [List.length_take]; omega
    refine ⟨by rw [u8s_length]; omega, Or.inr ⟨g, cap, cur, by rw [hl], hB, hg, by omega, hM, hs, ?_⟩⟩
    rw [hl, u8s_take, ← ht, List.take_take]
    congr 1
    omega
def marks : List Int := (List.range 90).map fun i : Nat => (100 : Int) + (i : Int)
theorem marks_at (i : Nat) (h : i < 90) : marks.getD i 0 = 100 + (i : Int) := by
  unfold marks
  rw [List.getD_eq_getElem?_getD, List.getElem?_map, List.getElem?_range h]
  rfl
theorem set_next (xs : List Int) (k : Nat) (v : Int) (h : 0 < k) : (xs ++ List.replicate k 0).set xs.length v = (xs ++ [v]) ++ List.replicate (k - 1) 0 := by
  obtain ⟨k, rfl⟩ : ∃ j, k = j + 1 := ⟨k - 1, by omega⟩
  rw [List.set_append_right _ _ (Nat.le_refl _), Nat.sub_self, List.replicate_succ, List.set_cons_zero]
  simp
theorem run_make_bytes {w : World} (n : Nat) (hn : n ≤ 140737488355328) : ∃ w', (Instr.makeSlice 22 (.int .i64 (n : Int)) (.int .i64 (n : Int))).run Tryz.prog w = .ok (.slice (some ⟨w.heap.size, 0, none⟩) n n) w' ∧ Row w' w.heap.size (.slice (some ⟨w.heap.size, 0, none⟩) n n) (List.replicate n 0) ∧ Below w.heap.size w w' := by
  obtain ⟨i, hi, hz, hs, hby⟩ := u8info
  obtain ⟨w', h1, h2, h3⟩ := run_make_full (P := Tryz.prog) w w.heap.size 22 5 i _ 1 Tryz.underlying22 hi hz hs .i64 .i64 n (by rw [hby]; omega) (by unfold maxLen; omega) (Nat.le_refl _)
  refine ⟨w', h1, ?_, ?_⟩
  · unfold Row
    rw [List.length_replicate]
    have e : (madeCells (Value.int .u8 0).cells (n * 1)).toList = u8s (List.replicate n 0) := by
      rw [Nat.mul_one, show (Value.int .u8 0).cells = #[Value.int .u8 0] from rfl, toList_madeCells_one]
      simp [u8s]
    rw [← e]
    exact h2
  · exact (Off.of_grown h3).below (Nat.le_refl _) (fun k e => by cases e)
theorem take_next {bs : List Int} {i : Nat} (h : i < bs.length) : bs.take i ++ [bs.getD i 0] = bs.take (i + 1) := by
  rw [List.take_succ_eq_append_getElem h, List.getD_eq_getElem?_getD, List.getElem?_eq_getElem h]
  rfl
end Go.Proofs.YthnpckmgnompiaaGreatDoor

/-
  couriermem.Kept; disk.From, Disk.Read.
-/
namespace Go.Proofs.YthnpckmgnompiaaGreatDoor
open Go.RowKit

theorem Row.bytes {w : World} {B g n cap : Nat} {xs : List Int} (h : Row w B (.slice (some ⟨g, 0, none⟩) n cap) xs) : Byts w (some ⟨g, 0, none⟩) n xs := by
  obtain ⟨hn, hc⟩ := h.cell
  refine ⟨hn.symm, fun j hj => ⟨g, 0, rfl, (h.lt (g := g) rfl).2, ?_⟩⟩
  rw [Nat.zero_add]
  exact hc j (by omega)
theorem marked_at {bs : List Int} {m j : Nat} (hm : bs.length = m) (hj : j < 90) : (bs ++ marks).getD (m + j) 0 = 100 + (j : Int) := by
  rw [List.getD_eq_getElem?_getD, List.getElem?_append_right (by omega), hm, Nat.add_sub_cancel_left, ← List.getD_eq_getElem?_getD, marks_at j hj]
section
variable {w0 w : World} {B K : Nat} {v0 v1 : Value} {x0 x1 : List Int} {s0 s1 : Nat} {st fu na ns nc : Int} {po : Option Addr} {m c : Nat} {bs : List Int}
theorem put0_rel (h : Dsk w0 B K v0 v1 x0 x1 s0 s1 st fu na ns nc) (ha : Off (fun _ => False) w0 w) (hb : Byts w0 po m bs) (hpo : po = none → c = 0) (hl : x0.length + m ≤ 16777216) :
    Calls Tryz.prog 81 #[.pointer (some ⟨K, 0, none⟩), .slice po m c] w fun e w' => e = .returned (.tuple #[]) ∧ ∃ v', Dsk w' B K v' v1 (x0 ++ bs) x1 s0 s1 st fu na ns nc ∧ DStep w0 w' K v0 v1 v' v1 := by
  have hd := h.off ha (fun _ _ => id)
  refine (put_any w hd.a0 (hb.off ha (fun _ _ _ => id)) hpo hl (by have := hd.hB; have := hd.hK; omega)).mono ?_
  rintro e w' ⟨he, v', a', s'⟩
  obtain ⟨d', t'⟩ := hd.area0 a' s'
  exact ⟨he, v', d', DStep.trans ⟨ha.mono (fun _ e => e.elim), fun _ _ g => g⟩ t'⟩
theorem put1_rel (h : Dsk w0 B K v0 v1 x0 x1 s0 s1 st fu na ns nc) (ha : Off (fun _ => False) w0 w) (hb : Byts w0 po m bs) (hpo : po = none → c = 0) (hl : x1.length + m ≤ 16777216) :
    Calls Tryz.prog 81 #[.pointer (some ⟨K, 2, none⟩), .slice po m c] w fun e w' => e = .returned (.tuple #[]) ∧ ∃ v', Dsk w' B K v0 v' x0 (x1 ++ bs) s0 s1 st fu na ns nc ∧ DStep w0 w' K v0 v1 v0 v' := by
  have hd := h.off ha (fun _ _ => id)
  refine (put_any w hd.a1 (hb.off ha (fun _ _ _ => id)) hpo hl (by have := hd.hB; have := hd.hK; omega)).mono ?_
  rintro e w' ⟨he, v', a', s'⟩
  obtain ⟨d', t'⟩ := hd.area1 a' s'
  exact ⟨he, v', d', DStep.trans ⟨ha.mono (fun _ e => e.elim), fun _ _ g => g⟩ t'⟩
theorem sync0_rel (h : Dsk w B K v0 v1 x0 x1 s0 s1 st fu na ns nc) :
    Calls Tryz.prog 84 #[.pointer (some ⟨K, 0, none⟩)] w fun e w' => e = .returned (.tuple #[]) ∧ Dsk w' B K v0 v1 x0 x1 x0.length s1 st fu na ns nc ∧ DStep w w' K v0 v1 v0 v1 := by
  refine (sync_any w h.a0).mono ?_
  rintro e w' ⟨he, a', s'⟩
  obtain ⟨d', t'⟩ := h.area0 a' s'
  exact ⟨he, d', t'⟩
theorem sync1_rel (h : Dsk w B K v0 v1 x0 x1 s0 s1 st fu na ns nc) :
    Calls Tryz.prog 84 #[.pointer (some ⟨K, 2, none⟩)] w fun e w' => e = .returned (.tuple #[]) ∧ Dsk w' B K v0 v1 x0 x1 s0 x1.length st fu na ns nc ∧ DStep w w' K v0 v1 v0 v1 := by
  refine (sync_any w h.a1).mono ?_
  rintro e w' ⟨he, a', s'⟩
  obtain ⟨d', t'⟩ := h.area1 a' s'
  exact ⟨he, d', t'⟩
end
end Go.Proofs.YthnpckmgnompiaaGreatDoor

/-
  disk.From; Disk.Read of a disk that lives.
-/
namespace Go.Proofs.YthnpckmgnompiaaGreatDoor
open Go.RowKit

set_option maxRecDepth 100000 in
set_option maxHeartbeats 1000000 in
theorem Read0_ok {w : World} {B K : Nat} {v0 v1 : Value} {x0 x1 : List Int} {s0 s1 : Nat} {fu na ns nc : Int} {n : Nat} (h : Dsk w B K v0 v1 x0 x1 s0 s1 1 fu na ns nc) (hn : n = x0.length) : Calls Tryz.prog 88 #[.pointer (some ⟨K, 0, none⟩), .int .i64 0, .int .i64 0, .int .i64 n] w fun e w' => ∃ a k c, e = .returned (.tuple #[.slice a k c, .nilIface]) ∧ Row w' w.heap.size (.slice a k c) x0 ∧ Below w.heap.size w w' := by
  subst hn
  have H : Hid (Dsk w B K v0 v1 x0 x1 s0 s1 1 fu na ns nc) := h
  have c4 := h.c4
  have hl := h.a0.len
  have hh : hasB x0.length 0 x0.length = true := by unfold hasB; simp
  clear h
  go_enter Tryz.func88, Tryz.ntmps88
  go_wp2_with fail
  refine (check_ok 0 H.out (Or.inl rfl) (Or.inl rfl)).mono ?_
  rintro e w1 ⟨rfl, rfl⟩
  go_wp2_with fail
  refine (has_any 0 x0.length _ H.out.a0 (by omega)).mono ?_
  rintro e w2 ⟨he, rfl⟩
  rw [hh] at he
  subst he
  go_wp2_with fail
  refine (read_any 0 x0.length _ H.out.a0 (by omega)).mono ?_
  rintro e w3 ⟨r, rfl, hR, hb⟩
  rw [List.drop_zero, List.take_length] at hR
  obtain ⟨a, cp, rfl, _⟩ := hR.slice
  have HR : Hid (Row w3 w2.heap.size (.slice a x0.length cp) x0 ∧ Below w2.heap.size w2 w3) := ⟨hR, hb⟩
  clear hR hb
  go_wp2_with fail
  refine bodyPost_ret (v := .tuple #[.slice a x0.length cp, .nilIface]) (by simp [results, Tryz.results88, go_sem]) rfl ⟨a, _, cp, rfl, HR.out.1, HR.out.2⟩
set_option maxRecDepth 100000 in
set_option maxHeartbeats 1000000 in
theorem Read1_ok {w : World} {B K : Nat} {v0 v1 : Value} {x0 x1 : List Int} {s0 s1 : Nat} {fu na ns nc : Int} {n : Nat} (h : Dsk w B K v0 v1 x0 x1 s0 s1 1 fu na ns nc) (hn : n = x1.length) : Calls Tryz.prog 88 #[.pointer (some ⟨K, 0, none⟩), .int .i64 1, .int .i64 0, .int .i64 n] w fun e w' => ∃ a k c, e = .returned (.tuple #[.slice a k c, .nilIface]) ∧ Row w' w.heap.size (.slice a k c) x1 ∧ Below w.heap.size w w' := by
  subst hn
  have H : Hid (Dsk w B K v0 v1 x0 x1 s0 s1 1 fu na ns nc) := h
  have c4 := h.c4
  have hl := h.a1.len
  have hh : hasB x1.length 0 x1.length = true := by unfold hasB; simp
  clear h
  go_enter Tryz.func88, Tryz.ntmps88
  go_wp2_with fail
  refine (check_ok 1 H.out (Or.inl rfl) (Or.inr rfl)).mono ?_
  rintro e w1 ⟨rfl, rfl⟩
  go_wp2_with fail
  refine (has_any 0 x1.length _ H.out.a1 (by omega)).mono ?_
  rintro e w2 ⟨he, rfl⟩
  rw [hh] at he
  subst he
  go_wp2_with fail
  refine (read_any 0 x1.length _ H.out.a1 (by omega)).mono ?_
  rintro e w3 ⟨r, rfl, hR, hb⟩
  rw [List.drop_zero, List.take_length] at hR
  obtain ⟨a, cp, rfl, _⟩ := hR.slice
  have HR : Hid (Row w3 w2.heap.size (.slice a x1.length cp) x1 ∧ Below w2.heap.size w2 w3) := ⟨hR, hb⟩
  clear hR hb
  go_wp2_with fail
  refine bodyPost_ret (v := .tuple #[.slice a x1.length cp, .nilIface]) (by simp [results, Tryz.results88, go_sem]) rfl ⟨a, _, cp, rfl, HR.out.1, HR.out.2⟩
end Go.Proofs.YthnpckmgnompiaaGreatDoor
