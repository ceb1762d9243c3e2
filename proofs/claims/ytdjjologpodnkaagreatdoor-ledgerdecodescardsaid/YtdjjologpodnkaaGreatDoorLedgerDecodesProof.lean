import Derived.Test.YtdjjologpodnkaaGreatDoorLgRow
import Derived.Laws.OwnMore
import Derived.Test.YtdjjologpodnkaaGreatDoorLgTwin
import Derived.Test.YtdjjologpodnkaaGreatDoorLgChain
import Derived.Test.YtdjjologpodnkaaGreatDoorLdRDec
import Derived.Test.YtdjjologpodnkaaGreatDoorLdOpen
import Derived.Carry
/-
  couriermem.Hand and Kept.
-/
namespace Go.Proofs.YtdjjologpodnkaaGreatDoor
open Go.RowKit

section
variable {w : World} {B g n cap : Nat} {xs : List Int}
theorem BRow.slot (h : BRow w B (.slice (some ⟨g, 0, none⟩) n cap) xs) {j : Nat} (hj : j < xs.length) : w.cell? ⟨g, j, none⟩ = some (.int .u8 (xs.getD j 0)) := by
  have hn := ERow.len h
  obtain ⟨b, o, e, _, hc⟩ := h.byts.cell j (by omega)
  simp only [Option.some.injEq, Addr.mk.injEq, and_true] at e
  obtain ⟨rfl, rfl⟩ := e
  rwa [Nat.zero_add] at hc
theorem BRow.thaw (h : BRow w B (.slice (some ⟨g, 0, none⟩) n cap) xs) (j : Nat) : w.frozen? ⟨g, j, none⟩ = false := ERow.thaw h j
theorem BRow.stored (h : BRow w B (.slice (some ⟨g, 0, none⟩) n cap) xs) (j : Nat) (z : Int) (hj : j < xs.length) : BRow (w.setCell ⟨g, j, none⟩ (.int .u8 z)) B (.slice (some ⟨g, 0, none⟩) n cap) (xs.set j z) := by
  have := erow_set encB_len h z hj
  rw [Nat.mul_one] at this
  exact this
theorem BRow.prefix {m : Nat} (h : BRow w B (.slice (some ⟨g, 0, none⟩) n cap) xs) (hm : m ≤ n) : BRow w B (.slice (some ⟨g, 0, none⟩) m cap) (xs.take m) := by
  have hn := ERow.len h
  have h' : w.ownsRow B 5 1 (.slice (some ⟨g, 0, none⟩) n cap) n (xs.flatMap encB) := by
    have := h
    unfold BRow ERow at this
    rw [← hn] at this
    exact this
  have := own_prefix h' hm
  unfold BRow ERow
  rw [List.length_take, Nat.min_eq_left (by omega)]
  have e : (xs.flatMap encB).take (m * 1) = (xs.take m).flatMap encB := by
    have key : ∀ (ys : List Int), ys.flatMap encB = ys.map (Value.int .u8) := fun ys => by
      induction ys with
      | nil => rfl
      | cons y r ih => rw [List.flatMap_cons, ih]; rfl
    rw [key, key, Nat.mul_one, List.map_take]
  rw [← e]
  exact this
end
def marks : List Int := (List.range 90).map fun i : Nat => (100 : Int) + (i : Int)
theorem marks_at (i : Nat) (h : i < 90) : marks.getD i 0 = 100 + (i : Int) := by
  unfold marks
  rw [List.getD_eq_getElem?_getD, List.getElem?_map, List.getElem?_range h]
  rfl
theorem set_next (xs : List Int) (k : Nat) (v : Int) (h : 0 < k) : (xs ++ List.replicate k 0).set xs.length v = (xs ++ [v]) ++ List.replicate (k - 1) 0 := by
  obtain ⟨k, rfl⟩ : ∃ j, k = j + 1 := ⟨k - 1, by omega⟩
  rw [List.set_append_right _ _ (Nat.le_refl _), Nat.sub_self, List.replicate_succ, List.set_cons_zero]
  simp
theorem run_make_bytes {w : World} (n : Nat) (hn : n ≤ 140737488355328) : ∃ w', (Instr.makeSlice 22 (.int .i64 (n : Int)) (.int .i64 (n : Int))).run Tryz.prog w = .ok (.slice (some ⟨w.heap.size, 0, none⟩) n n) w' ∧ BRow w' w.heap.size (.slice (some ⟨w.heap.size, 0, none⟩) n n) (List.replicate n 0) ∧ Below w.heap.size w w' := by
  have h : (Tryz.prog.info? 5).map (fun i => (i.zero, i.size, i.bytes)) = some (some (.int .u8 0), 1, 1) := by kernel_rfl
  obtain ⟨i, hi, e⟩ := Option.map_eq_some_iff.1 h
  simp only [Prod.mk.injEq] at e
  obtain ⟨hz, hs, hby⟩ := e
  obtain ⟨w', h1, h2, h3⟩ := run_make_full (P := Tryz.prog) w w.heap.size 22 5 i _ 1 Tryz.underlying22 hi hz hs .i64 .i64 n (by rw [hby]; omega) (by unfold maxLen; omega) (Nat.le_refl _)
  refine ⟨w', h1, ?_, (Off.of_grown h3).below (Nat.le_refl _) (fun k e => by cases e)⟩
  unfold BRow ERow
  rw [List.length_replicate]
  have e : (madeCells (Value.int .u8 0).cells (n * 1)).toList = (List.replicate n (0 : Int)).flatMap encB := made_flat encB_len (by decide) 0 n
  rw [← e]
  exact h2
theorem take_next {bs : List Int} {i : Nat} (h : i < bs.length) : bs.take i ++ [bs.getD i 0] = bs.take (i + 1) := by
  rw [List.take_succ_eq_append_getElem h, List.getD_eq_getElem?_getD, List.getElem?_eq_getElem h]
  rfl
set_option maxRecDepth 100000 in
set_option maxHeartbeats 2000000 in
theorem Hand_any {po : Option Addr} {m c : Nat} {bs : List Int} (w : World) (hb : Byts w po m bs) (hm : m + 90 ≤ 140737488355328) : Calls Tryz.prog 11 #[.slice po m c] w fun e w' => e = .returned (.slice (some ⟨w.heap.size, 0, none⟩) m (m + 90)) ∧ BRow w' w.heap.size (.slice (some ⟨w.heap.size, 0, none⟩) (m + 90) (m + 90)) (bs ++ marks) ∧ Below w.heap.size w w' := by
  have HB : Hid (Byts w po m bs) := hb
  have HL : Hid (bs.length = m) := hb.len
  clear hb
  obtain ⟨w1, hmk, hR, hB1⟩ := run_make_bytes (w := w) (m + 90) (by omega)
  have hmk2 : (Instr.makeSlice 22 (.int .i64 ((m : Int) + 90)) (.int .i64 ((m : Int) + 90))).run Tryz.prog w = .ok (.slice (some ⟨w.heap.size, 0, none⟩) (m + 90) (m + 90)) w1 := hmk
  have HR : Hid (BRow w1 w.heap.size (.slice (some ⟨w.heap.size, 0, none⟩) (m + 90) (m + 90)) (List.replicate (m + 90) 0) ∧ Below w.heap.size w w1) := ⟨hR, hB1⟩
  clear hmk hR hB1
  go_enter Tryz.func11, Tryz.ntmps11
  go_wp2_with fail
  clear hmk2
  go_loopw [4] (fun ti wx => ∃ i : Nat, i ≤ m ∧ ti = .int .i64 i ∧ Hid (BRow wx w.heap.size (.slice (some ⟨w.heap.size, 0, none⟩) (m + 90) (m + 90)) (bs.take i ++ List.replicate (m + 90 - i) 0) ∧ Below w.heap.size w wx)) (fun ti _ => m - (intOf ti).toNat)
  case atStart => exact ⟨0, Nat.zero_le _, rfl, HR⟩
  case round =>
    obtain ⟨i, hi, rfl, HI⟩ := hrel
    by_cases hlt : i < m
    · have hlt1 : (i : Int) < m := by omega
      obtain ⟨b, o, hpo, _, hcell⟩ := (HB.out.below HI.out.2).cell i (by have := HL.out; omega)
      subst hpo
      have k1 : wr.cell? ⟨w.heap.size, i, none⟩ = some (.int .u8 ((bs.take i ++ List.replicate (m + 90 - i) 0).getD i 0)) := HI.out.1.slot (by simp; have := HL.out; omega)
      have k2 := HI.out.1.thaw i
      go_wp2_with fail
      go_roundw
      case rel =>
        refine ⟨i + 1, hlt, by go_num, ?_, HI.out.2.setCell (Nat.le_refl _) _⟩
        have hs := HI.out.1.stored i (bs.getD i 0) (by simp; have := HL.out; omega)
        have e := set_next (bs.take i) (m + 90 - i) (bs.getD i 0) (by omega)
        rw [show (bs.take i).length = i by rw [List.length_take]; have := HL.out; omega, take_next (by have := HL.out; omega)] at e
        rw [e, show m + 90 - i - 1 = m + 90 - (i + 1) by omega] at hs
        exact hs
      case measure => simp [intOf]; omega
    · have hlt1 : ¬ (i : Int) < m := by omega
      obtain rfl : i = m := by omega
      have HI2 : Hid (BRow wr w.heap.size (.slice (some ⟨w.heap.size, 0, none⟩) (i + 90) (i + 90)) (bs ++ (marks.take 0 ++ List.replicate (90 - 0) 0)) ∧ Below w.heap.size w wr) := by
        refine ⟨?_, HI.out.2⟩
        have h1 := HI.out.1
        rw [List.take_of_length_le (by have := HL.out; omega), show i + 90 - i = 90 by omega] at h1
        exact h1
      clear HI
      go_wp2_with fail
      go_loopw [5] (fun ti wx => ∃ j : Nat, j ≤ 90 ∧ ti = .int .i64 j ∧ Hid (BRow wx w.heap.size (.slice (some ⟨w.heap.size, 0, none⟩) (i + 90) (i + 90)) (bs ++ (marks.take j ++ List.replicate (90 - j) 0)) ∧ Below w.heap.size w wx)) (fun ti _ => 90 - (intOf ti).toNat)
      case atStart => exact ⟨0, by omega, rfl, HI2⟩
      case round =>
        obtain ⟨j, hj, rfl, HJ⟩ := hrel
        by_cases hlt2 : j < 90
        · have hlt3 : (j : Int) < 90 := by omega
          have hll : bs.length = i := HL.out
          have k1 : wr.cell? ⟨w.heap.size, i + j, none⟩ = some (.int .u8 ((bs ++ (marks.take j ++ List.replicate (90 - j) 0)).getD (i + j) 0)) := HJ.out.1.slot (by simp [marks]; omega)
          have k2 := HJ.out.1.thaw (i + j)
          go_wp2_with fail
          go_roundw
          case rel =>
            refine ⟨j + 1, hlt2, by go_num, ?_, HJ.out.2.setCell (Nat.le_refl _) _⟩
            have hs := HJ.out.1.stored (i + j) (100 + (j : Int)) (by simp [marks]; omega)
            have e := set_next (bs ++ marks.take j) (90 - j) (100 + (j : Int)) (by omega)
            have hml : marks.length = 90 := by simp [marks]
            rw [show (bs ++ marks.take j).length = i + j by rw [List.length_append, List.length_take]; omega] at e
            rw [List.append_assoc, List.append_assoc, List.append_assoc, ← marks_at j hlt2, ← List.append_assoc (marks.take j), take_next (by omega)] at e
            rw [← marks_at j hlt2, e, show 90 - j - 1 = 90 - (j + 1) by omega] at hs
            rw [← marks_at j hlt2]
            exact hs
          case measure => simp [intOf]; omega
        · have hlt3 : ¬ (j : Int) < 90 := by omega
          obtain rfl : j = 90 := by omega
          go_wp2_with fail
          go_ret
          refine ⟨rfl, ?_, HJ.out.2⟩
          have h1 := HJ.out.1
          have hml : marks.length = 90 := by simp [marks]
          rw [List.take_of_length_le (by omega), Nat.sub_self, List.replicate_zero, List.append_nil] at h1
          exact h1
theorem marked_at {bs : List Int} {m j : Nat} (hm : bs.length = m) (hj : j < 90) : (bs ++ marks).getD (m + j) 0 = 100 + (j : Int) := by
  rw [List.getD_eq_getElem?_getD, List.getElem?_append_right (by omega), hm, Nat.add_sub_cancel_left, ← List.getD_eq_getElem?_getD, marks_at j hj]
set_option maxRecDepth 100000 in
set_option maxHeartbeats 2000000 in
theorem Kept_true {po : Option Addr} {B g m c : Nat} {bs : List Int} (w : World) (hR : BRow w B (.slice (some ⟨g, 0, none⟩) (m + 90) (m + 90)) (bs ++ marks)) (hb : Byts w po m bs) (hm : m + 90 ≤ 140737488355328) : Calls Tryz.prog 14 #[.slice (some ⟨g, 0, none⟩) m (m + 90), .slice po m c] w fun e w' => e = .returned (.bool true) ∧ ∃ k, w' = w.drewN k := by
  have HR : Hid (BRow w B (.slice (some ⟨g, 0, none⟩) (m + 90) (m + 90)) (bs ++ marks)) := hR
  have HB : Hid (Byts w po m bs) := hb
  have HL : Hid (bs.length = m) := hb.len
  clear hR hb
  go_enter Tryz.func14, Tryz.ntmps14
  go_wp2_with fail
  go_loopw [6] (fun ti wx => ∃ j : Nat, j ≤ 90 ∧ ti = .int .i64 j ∧ ∃ k, wx = w.drewN k) (fun ti _ => 90 - (intOf ti).toNat)
  case atStart => exact ⟨0, by omega, rfl, 0, rfl⟩
  case round =>
    obtain ⟨j, hj, rfl, k, rfl⟩ := hrel
    by_cases hlt : j < 90
    · have hlt1 : (j : Int) < 90 := by omega
      have k1 : w.cell? ⟨g, m + j, none⟩ = some (.int .u8 (100 + (j : Int))) := by
        have h := HR.out.slot (j := m + j) (by simp [marks]; have := HL.out; omega)
        rw [marked_at HL.out hlt] at h
        exact h
      go_wp2_with fail
      go_roundw
      case rel => exact ⟨j + 1, hlt, by go_num, _, by first | rfl | exact World.drewN_drew _ _⟩
      case measure => simp [intOf]; omega
    · have hlt1 : ¬ (j : Int) < 90 := by omega
      go_wp2_with fail
      have hp := (HR.out.prefix (m := m) (by omega)).byts
      rw [List.take_left' HL.out] at hp
      refine (memSame_true (hp.below (below_drewN (Below.refl _ _) k)) (HB.out.below (below_drewN (Below.refl _ _) k)) (by omega)).mono ?_
      rintro e w1 ⟨rfl, k2, rfl⟩
      go_wp2_with fail
      go_ret
      exact ⟨rfl, k + k2, by simp⟩
end Go.Proofs.YtdjjologpodnkaaGreatDoor

/-
  The law's likeRecord; what a copy of a record is.
-/
namespace Go.Proofs.YtdjjologpodnkaaGreatDoor
open Go.RowKit

/-- A record with its lists elsewhere. -/
abbrev Rec.wi (r : Rec) (a1 : Option Addr) (c1 : Nat) (a2 : Option Addr) (c2 : Nat) (a3 : Option Addr) (c3 : Nat) : Rec := { r with tp := a1, tc := c1, cp := a2, cc := c2, ap := a3, ac := c3 }
theorem wl_wi (r : Rec) (a1 : Option Addr) (c1 : Nat) (a2 : Option Addr) (c2 : Nat) (a3 : Option Addr) (c3 : Nat) {i : Nat} (hi : i < 10) : wl (r.wi a1 c1 a2 c2 a3 c3) i = wl r i ∧ fdB (fdOf (r.wi a1 c1 a2 c2 a3 c3) i) = fdB (fdOf r i) := by
  unfold wl
  rcases ten hi with rfl | rfl | rfl | rfl | rfl | rfl | rfl | rfl | rfl | rfl
  all_goals (unfold fdOf; (repeat' split); all_goals exact ⟨rfl, rfl⟩)
theorem wr_wi (r : Rec) (a1 : Option Addr) (c1 : Nat) (a2 : Option Addr) (c2 : Nat) (a3 : Option Addr) (c3 : Nat) : wrR (r.wi a1 c1 a2 c2 a3 c3) = wrR r := by
  have key : ∀ k i, i + k ≤ 10 → wrFrom (r.wi a1 c1 a2 c2 a3 c3) i k = wrFrom r i k := by
    intro k
    induction k with
    | zero => intro i _; rfl
    | succ k ih =>
      intro i hi
      unfold wrFrom
      rw [(wl_wi r a1 c1 a2 c2 a3 c3 (show i < 10 by omega)).1, ih (i + 1) (by omega)]
  exact key 10 0 (by omega)
theorem enc_wi (r : Rec) (a1 : Option Addr) (c1 : Nat) (a2 : Option Addr) (c2 : Nat) (a3 : Option Addr) (c3 : Nat) : encR (r.wi a1 c1 a2 c2 a3 c3) = encR r := by
  have key : ∀ k i, i + k ≤ 10 → encFrom (r.wi a1 c1 a2 c2 a3 c3) i k = encFrom r i k := by
    intro k
    induction k with
    | zero => intro i _; rfl
    | succ k ih =>
      intro i hi
      unfold encFrom
      rw [(wl_wi r a1 c1 a2 c2 a3 c3 (show i < 10 by omega)).2, ih (i + 1) (by omega)]
  exact key 10 0 (by omega)
def bdN : Nat → Nat
  | 0 => 1
  | 1 => 22
  | 2 => 8196
  | 3 => 3
  | 7 => 6
  | 8 => 2052
  | 9 => 2052
  | _ => 8
theorem fdOf_bd {r : Rec} {i : Nat} (hi : i < 10) (hw : wl r i = true) (h1 : r.tx.length = r.tn) (h2 : r.cx.length = r.cn) (h3 : r.ax.length = r.an) : (fdB (fdOf r i)).length ≤ bdN i := by
  unfold wl at hw
  obtain ⟨fd, hfd⟩ : ∃ fd, fdOf r i = fd := ⟨_, rfl⟩
  rw [hfd] at hw ⊢
  rcases ten hi with rfl | rfl | rfl | rfl | rfl | rfl | rfl | rfl | rfl | rfl
  all_goals (simp only [fdOf] at hfd; (repeat' split at hfd))
  all_goals (subst hfd; simp only [fdB, bdN, List.length_append, numL_len, strI_len, List.length_cons, List.length_nil])
  all_goals (simp only [fdWell] at hw)
  all_goals (first | omega | (simp only [Bool.and_eq_true, decide_eq_true_eq] at hw; omega))
theorem enc_small {r : Rec} (hw : wrR r = 0) (h1 : r.tx.length = r.tn) (h2 : r.cx.length = r.cn) (h3 : r.ax.length = r.an) : (encR r).length ≤ 20000 := by
  have hwl := well_all hw
  have b := fun i (hi : i < 10) => fdOf_bd hi (hwl i hi) h1 h2 h3
  have b0 := b 0 (by omega)
  have b1 := b 1 (by omega)
  have b2 := b 2 (by omega)
  have b3 := b 3 (by omega)
  have b4 := b 4 (by omega)
  have b5 := b 5 (by omega)
  have b6 := b 6 (by omega)
  have b7 := b 7 (by omega)
  have b8 := b 8 (by omega)
  have b9 := b 9 (by omega)
  simp only [bdN] at b0 b1 b2 b3 b4 b5 b6 b7 b8 b9
  unfold encR
  simp only [encFrom, List.length_append, List.length_nil, Nat.reduceAdd]
  omega
theorem Byts.lowN {w : World} {po : Option Addr} {n : Nat} {bs : List Int} (h : Byts w po n bs) : Low w w.heap.size po n bs := ⟨h, fun hn b o e => by
  obtain ⟨b', o', e', hl, _⟩ := h.cell 0 hn
  rw [e] at e'
  simp only [Option.some.injEq, Addr.mk.injEq, and_true] at e'
  rw [e'.1]; exact hl⟩
theorem LieR.lowN {w : World} {r : Rec} (h : LieR w r) : LowR w w.heap.size r := ⟨h.t.lowN, h.c.lowN, h.a.lowN⟩
set_option maxRecDepth 100000 in
set_option maxHeartbeats 4000000 in
theorem like_true (r : Rec) (a1 : Option Addr) (c1 : Nat) (a2 : Option Addr) (c2 : Nat) (a3 : Option Addr) (c3 : Nat) (w : World) (hl : LieR w r) (hl' : LieR w (r.wi a1 c1 a2 c2 a3 c3)) (h1 : r.tn ≤ 140737488355328) (h2 : r.cn ≤ 140737488355328) (h3 : r.an ≤ 140737488355328) :
    Calls Tryz.prog 10 #[.agg #[.int .i64 r.kd, .string r.ct, .slice a1 r.tn c1, .bool r.e, .int .i64 r.a, .int .i64 r.p, .int .i64 r.nu, .int .i64 r.tk, .int .i64 r.st, .string r.cd, .slice a2 r.cn c2, .slice a3 r.an c3], .agg #[.int .i64 r.kd, .string r.ct, .slice r.tp r.tn r.tc, .bool r.e, .int .i64 r.a, .int .i64 r.p, .int .i64 r.nu, .int .i64 r.tk, .int .i64 r.st, .string r.cd, .slice r.cp r.cn r.cc, .slice r.ap r.an r.ac]] w fun e w' => e = .returned (.bool true) ∧ Below w.heap.size w w' := by
  have bv := ((Below.refl w.heap.size w).alloc (Nat.le_refl _) (.cells (#[.int .i64 r.kd, .string r.ct, .slice a1 r.tn c1, .bool r.e, .int .i64 r.a, .int .i64 r.p, .int .i64 r.nu, .int .i64 r.tk, .int .i64 r.st, .string r.cd, .slice a2 r.cn c2, .slice a3 r.an c3]) 26)).alloc (by simp) (.cells (#[.int .i64 r.kd, .string r.ct, .slice r.tp r.tn r.tc, .bool r.e, .int .i64 r.a, .int .i64 r.p, .int .i64 r.nu, .int .i64 r.tk, .int .i64 r.st, .string r.cd, .slice r.cp r.cn r.cc, .slice r.ap r.an r.ac]) 26)
  have bx := (Box.new w (#[.int .i64 r.kd, .string r.ct, .slice a1 r.tn c1, .bool r.e, .int .i64 r.a, .int .i64 r.p, .int .i64 r.nu, .int .i64 r.tk, .int .i64 r.st, .string r.cd, .slice a2 r.cn c2, .slice a3 r.an c3]) 26).alloc (.cells (#[.int .i64 r.kd, .string r.ct, .slice r.tp r.tn r.tc, .bool r.e, .int .i64 r.a, .int .i64 r.p, .int .i64 r.nu, .int .i64 r.tk, .int .i64 r.st, .string r.cd, .slice r.cp r.cn r.cc, .slice r.ap r.an r.ac]) 26)
  have by_ := Box.new (w.alloc (.cells (#[.int .i64 r.kd, .string r.ct, .slice a1 r.tn c1, .bool r.e, .int .i64 r.a, .int .i64 r.p, .int .i64 r.nu, .int .i64 r.tk, .int .i64 r.st, .string r.cd, .slice a2 r.cn c2, .slice a3 r.an c3]) 26)) (#[.int .i64 r.kd, .string r.ct, .slice r.tp r.tn r.tc, .bool r.e, .int .i64 r.a, .int .i64 r.p, .int .i64 r.nu, .int .i64 r.tk, .int .i64 r.st, .string r.cd, .slice r.cp r.cn r.cc, .slice r.ap r.an r.ac]) 26
  rw [World.size_alloc] at by_
  obtain ⟨V, hV⟩ : ∃ V, (w.alloc (.cells (#[.int .i64 r.kd, .string r.ct, .slice a1 r.tn c1, .bool r.e, .int .i64 r.a, .int .i64 r.p, .int .i64 r.nu, .int .i64 r.tk, .int .i64 r.st, .string r.cd, .slice a2 r.cn c2, .slice a3 r.an c3]) 26)).alloc (.cells (#[.int .i64 r.kd, .string r.ct, .slice r.tp r.tn r.tc, .bool r.e, .int .i64 r.a, .int .i64 r.p, .int .i64 r.nu, .int .i64 r.tk, .int .i64 r.st, .string r.cd, .slice r.cp r.cn r.cc, .slice r.ap r.an r.ac]) 26) = V := ⟨_, rfl⟩
  rw [hV] at bv bx by_
  have q1 : (r.ct.toList == r.ct.toList) = true := beq_self_eq_true _
  have q2 : (r.cd.toList == r.cd.toList) = true := beq_self_eq_true _
  have HB : Hid (Below w.heap.size w V) := bv
  have HM : Hid (∀ k, (Calls Tryz.prog 8 #[.slice a1 r.tn c1, .slice r.tp r.tn r.tc] (V.drewN k) fun e w' => e = .returned (.bool true) ∧ ∃ m, w' = (V.drewN k).drewN m) ∧ (Calls Tryz.prog 8 #[.slice a2 r.cn c2, .slice r.cp r.cn r.cc] (V.drewN k) fun e w' => e = .returned (.bool true) ∧ ∃ m, w' = (V.drewN k).drewN m) ∧ (Calls Tryz.prog 8 #[.slice a3 r.an c3, .slice r.ap r.an r.ac] (V.drewN k) fun e w' => e = .returned (.bool true) ∧ ∃ m, w' = (V.drewN k).drewN m)) := fun k => by
    have hb := below_drewN bv k
    exact ⟨memSame_true (hl'.below hb).t (hl.below hb).t (by omega), memSame_true (hl'.below hb).c (hl.below hb).c (by omega), memSame_true (hl'.below hb).a (hl.below hb).a (by omega)⟩
  have cx := bx.cell
  have cy := by_.cell
  clear bv bx by_ hl hl' h1 h2 h3
  go_enter Tryz.func10, Tryz.ntmps10
  go_wp2_with fail
  refine (HM.out 0).1.mono ?_
  rintro _ w1 ⟨rfl, m1, rfl⟩
  simp only [World.drewN_drewN, Nat.zero_add]
  go_wp2_with fail
  refine (HM.out m1).2.1.mono ?_
  rintro _ w2 ⟨rfl, m2, rfl⟩
  simp only [World.drewN_drewN]
  go_wp2_with fail
  refine (HM.out (m1 + m2)).2.2.mono ?_
  rintro _ w3 ⟨rfl, m3, rfl⟩
  simp only [World.drewN_drewN]
  go_wp2_with fail
  go_ret
  exact ⟨rfl, below_drewN HB.out _⟩
end Go.Proofs.YtdjjologpodnkaaGreatDoor

/-
  LedgerDecodes: both answers told alike.
-/
namespace Go.Proofs.YtdjjologpodnkaaGreatDoor
open Go.RowKit

set_option maxRecDepth 100000 in
set_option maxHeartbeats 4000000 in
theorem rdecode_nil (w : World) (po : Option Addr) (c : Nat) : Calls Tryz.prog 13 #[.slice po 0 c] w (RDecQ [] w) := by
  have b1 := (Below.refl w.heap.size w).alloc (Nat.le_refl _) (.cells zRC 26)
  have b2 : Below w.heap.size w ((w.alloc (.cells zRC 26)).alloc (.cells #[.slice po 0 c, .int .i64 0, .int .i64 (-1)] 64)) := b1.alloc b1.size _
  have x1 := (Box.new w zRC 26).alloc (.cells #[.slice po 0 c, .int .i64 0, .int .i64 (-1)] 64)
  have x2 := Box.new (w.alloc (.cells zRC 26)) #[.slice po 0 c, .int .i64 0, .int .i64 (-1)] 64
  rw [World.size_alloc] at x2
  have ht := rtake_no (m := 1) (n := 0) (p := 0) x2 (by omega) (Nat.le_refl _) (by omega)
  have HV : Hid (Below w.heap.size w ((w.alloc (.cells zRC 26)).alloc (.cells #[.slice po 0 c, .int .i64 0, .int .i64 (-1)] 64)) ∧ Box ((w.alloc (.cells zRC 26)).alloc (.cells #[.slice po 0 c, .int .i64 0, .int .i64 (-1)] 64)) w.heap.size zRC) := ⟨b2, x1⟩
  have HLN : Hid (∀ X1, Off (fun q => q = w.heap.size + 1) ((w.alloc (.cells zRC 26)).alloc (.cells #[.slice po 0 c, .int .i64 0, .int .i64 (-1)] 64)) X1 → w.heap.size + 1 < X1.heap.size) := fun X1 ho => by have := ho.size; simp only [World.size_alloc] at this; omega
  have HD : Hid (decR [] = .error 0) := dec_bad (by unfold rNum; rw [if_neg (by simp)]; rfl)
  clear b1 b2 x1 x2
  go_enter Tryz.func13, Tryz.ntmps13
  go_wp2_with fail
  refine ht.mono ?_
  rintro _ X1 ⟨rfl, k1, hX⟩
  have o1 : Off (fun q => q = w.heap.size + 1) ((w.alloc (.cells zRC 26)).alloc (.cells #[.slice po 0 c, .int .i64 0, .int .i64 (-1)] 64)) X1 := by rw [hX]; exact Off.setCell (P := fun q => q = w.heap.size + 1) (p := ⟨w.heap.size + 1, 2, none⟩) ((Off.refl _ _).drewN k1) rfl _
  have hz1 := (HV.out.2.off o1 (by omega)).alloc (.cells zRC 26)
  have HB1 : Hid (Below w.heap.size w (X1.alloc (.cells zRC 26))) := bl_alloc (HV.out.1.trans (o1.below HV.out.1.size fun k hk => by omega)) _
  have HL1 : Hid (w.heap.size < (X1.alloc (.cells zRC 26)).heap.size) := by have := HLN.out _ o1; unfold Hid; simp only [World.size_alloc]; omega
  clear ht o1 hX
  go_wp2_with fail
  refine (rFault_any 10 0 _).mono ?_
  rintro _ X9 ⟨rfl, hl9, hb9⟩
  have HX9 : Hid (LinkAt X9 (X1.alloc (.cells zRC 26)).heap.size 0 10 ∧ Below w.heap.size w X9 ∧ w.heap.size < (X1.alloc (.cells zRC 26)).heap.size) := ⟨hl9, below_then HB1.out hb9, HL1.out⟩
  have hz9 := hz1.below hb9
  have dy9 := hz9.cell
  have ey9 := hz9.free
  obtain ⟨fb, hfb⟩ : ∃ n, (X1.alloc (.cells zRC 26)).heap.size = n := ⟨_, rfl⟩
  rw [hfb] at HX9 ⊢
  clear hl9 hb9 hz9 hfb
  go_wp2_with fail
  refine bodyPost_ret (v := .tuple #[.agg #[.int .i64 zeroR.kd, .string zeroR.ct, .slice zeroR.tp zeroR.tn zeroR.tc, .bool zeroR.e, .int .i64 zeroR.a, .int .i64 zeroR.p, .int .i64 zeroR.nu, .int .i64 zeroR.tk, .int .i64 zeroR.st, .string zeroR.cd, .slice zeroR.cp zeroR.cn zeroR.cc, .slice zeroR.ap zeroR.an zeroR.ac], .slice (some ⟨fb, 0, none⟩) 1 1]) ?_ rfl (rdec_err HD.out HX9.out.1 HX9.out.2.2 HX9.out.2.1 ?_)
  · simp [results, Tryz.results13, go_sem, dy9]
  · iterate 12 (refine Off.setCell (P := fun q => q = w.heap.size) ?_ rfl _)
    exact Off.refl _ _
/-- A record's lists are short. -/
def Small (r : Rec) : Prop := r.tn ≤ 1000000 ∧ r.cn ≤ 1000000 ∧ r.an ≤ 1000000
theorem rTxt_len {bs l : List Int} {p : Nat} {lo hi : Int} (h : rTxt bs p lo hi = .ok l) : (l.length : Int) ≤ hi ∨ l.length = 0 := by
  unfold rTxt at h
  split at h
  · cases h
  · rename_i m hm
    have hb := rNum_bd hm
    split at h
    · rename_i g
      cases h
      rw [piece_len g]
      omega
    · cases h
theorem small_fd {bs : List Int} {p p' : Nat} {r r' : Rec} {F : Fd} (hF : FdSh F) (h : rdFd bs p r F = .ok (r', p')) (hr : Small r) : Small r' := by
  obtain ⟨h1, h2, h3⟩ := hr
  cases F with
  | num o v sz lo hi =>
    simp only [rdFd] at h
    split at h
    · cases h
    · cases h
      unfold setN
      (repeat' split) <;> exact ⟨h1, h2, h3⟩
  | str o s lo hi k =>
    simp only [rdFd] at h
    split at h
    · cases h
    · cases h
      unfold setS
      split <;> exact ⟨h1, h2, h3⟩
  | byt o a n c l lo hi =>
    simp only [rdFd] at h
    split at h
    · cases h
    · rename_i l hl
      have hl2 := rTxt_len hl
      have hh := hF.2.2.2.2
      cases h
      have hs : l.length ≤ 1000000 := by omega
      unfold setB
      (repeat' split)
      · exact ⟨hs, h2, h3⟩
      · exact ⟨h1, hs, h3⟩
      · exact ⟨h1, h2, hs⟩
  | cnd e a p =>
    simp only [rdFd] at h
    split at h
    · cases h
    · cases h
      exact ⟨h1, h2, h3⟩
  | non b =>
    simp only [rdFd] at h
    cases h
    exact ⟨h1, h2, h3⟩
theorem small_rec {bs : List Int} : ∀ (k i : Nat) {p p' : Nat} {r r' : Rec}, i + k ≤ 10 → rdRec bs p r i k = .ok (r', p') → Small r → Small r'
  | 0, _, _, _, _, _, _, h, hr => by
    rw [rdRec] at h
    cases h
    exact hr
  | k + 1, i, p, p', r, r', hi, h, hr => by
    cases hf : rdFd bs p r (fdOf r i) with
    | error e => rw [rdRec_err hf] at h; cases h
    | ok x =>
      obtain ⟨r2, p2⟩ := x
      rw [rdRec_ok hf] at h
      exact small_rec k (i + 1) (by omega) h (small_fd (fdOf_sh r (by omega)) hf hr)
theorem small_dec {bs : List Int} {r : Rec} (h : decR bs = .ok r) : Small r := by
  unfold decR at h
  split at h
  · cases h
  · rename_i r2 p2 hr
    split at h
    · cases h
    · cases h
      exact small_rec 10 0 (by omega) hr ⟨by decide, by decide, by decide⟩
/-- The program's answer, told in one way. -/
def DecU (bs : List Int) (w : World) (e : Ending) (w' : World) : Prop :=
  ∃ (r : Rec) (ev : Value), e = .returned (.tuple #[.agg #[.int .i64 r.kd, .string r.ct, .slice r.tp r.tn r.tc, .bool r.e, .int .i64 r.a, .int .i64 r.p, .int .i64 r.nu, .int .i64 r.tk, .int .i64 r.st, .string r.cd, .slice r.cp r.cn r.cc, .slice r.ap r.an r.ac], ev]) ∧ Hid (LieR w' r ∧ Below w.heap.size w w' ∧ Small r ∧ ((∃ n b : Nat, decR bs = .error n ∧ r = zeroR ∧ ev = .iface 74 (.pointer (some ⟨b, 0, none⟩)) ∧ GFault w' b n 10) ∨ (decR bs = .ok r.bare ∧ ev = .nilIface)))
theorem DecQ.one {bs : List Int} {w : World} {e : Ending} {w' : World} (h : DecQ bs w e w') : DecU bs w e w' := by
  rcases h with ⟨n, b, h1, h2, h3, _, h5⟩ | ⟨r, h1, h2, h3, h4, h5, h6⟩
  · exact ⟨zeroR, _, h2, ⟨Byts.nil _ _, Byts.nil _ _, Byts.nil _ _⟩, h5, ⟨by decide, by decide, by decide⟩, Or.inl ⟨n, b, h1, rfl, rfl, h3⟩⟩
  · exact ⟨r, _, h2, ⟨h3.byts, h4.byts, h5.byts⟩, h6, ⟨(small_dec h1).1, (small_dec h1).2.1, (small_dec h1).2.2⟩, Or.inr ⟨h1, rfl⟩⟩
/-- The document's answer, told in one way. -/
def RDecU (bs : List Int) (w : World) (e : Ending) (w' : World) : Prop :=
  ∃ (r : Rec) (l : Value), e = .returned (.tuple #[.agg #[.int .i64 r.kd, .string r.ct, .slice r.tp r.tn r.tc, .bool r.e, .int .i64 r.a, .int .i64 r.p, .int .i64 r.nu, .int .i64 r.tk, .int .i64 r.st, .string r.cd, .slice r.cp r.cn r.cc, .slice r.ap r.an r.ac], l]) ∧ Hid (LieR w' r ∧ Below w.heap.size w w' ∧ ((∃ n b : Nat, decR bs = .error n ∧ r = zeroR ∧ l = .slice (some ⟨b, 0, none⟩) 1 1 ∧ LinkAt w' b n 10) ∨ (decR bs = .ok r.bare ∧ l = .slice none 0 0)))
theorem RDecQ.one {bs : List Int} {w : World} {e : Ending} {w' : World} (h : RDecQ bs w e w') : RDecU bs w e w' := by
  rcases h with ⟨n, b, h1, h2, h3, h5⟩ | ⟨r, h1, h2, h3, h6⟩
  · exact ⟨zeroR, _, h2, ⟨Byts.nil _ _, Byts.nil _ _, Byts.nil _ _⟩, h5, Or.inl ⟨n, b, h1, rfl, rfl, h3⟩⟩
  · exact ⟨r, _, h2, ⟨h3.t.byts, h3.c.byts, h3.a.byts⟩, h6, Or.inr ⟨h1, rfl⟩⟩
theorem rdecode_u {w : World} {po : Option Addr} {c : Nat} {bs : List Int} (hb : Byts w po bs.length bs) (hn : bs.length ≤ c) (hl : po = none → c = 0) (hR : Rng bs) (hm : bs.length ≤ 9223372036854775807) :
    Calls Tryz.prog 13 #[.slice po bs.length c] w (RDecU bs w) := by
  rcases Nat.eq_zero_or_pos bs.length with h0 | h0
  · obtain rfl := List.length_eq_zero_iff.1 h0
    exact (rdecode_nil w po c).mono fun _ _ q => q.one
  · refine (rdecode_any hb hn hl hR hm fun x hx => ?_).mono fun _ _ q => q.one
    obtain ⟨b, o, e, hlt, _⟩ := hb.cell 0 h0
    rw [hx] at e
    cases e
    exact hlt
theorem wi_of {r s : Rec} (h : r.bare = s.bare) : r = s.wi r.tp r.tc r.cp r.cc r.ap r.ac := by
  obtain ⟨⟩ := r
  obtain ⟨⟩ := s
  simp only [Rec.bare, Rec.mk.injEq] at h
  simp_all [Rec.wi]
/-- Both answers: the same record but for its lists' places, the same refusal. -/
theorem both_one {bs : List Int} {w2 w3 w4 : World} {r s : Rec} {ev l : Value} (hE : ErrType w4) (h24 : Below w2.heap.size w2 w4) (h34 : Below w3.heap.size w3 w4)
    (hp : (∃ n b : Nat, decR bs = .error n ∧ r = zeroR ∧ ev = .iface 74 (.pointer (some ⟨b, 0, none⟩)) ∧ GFault w2 b n 10) ∨ (decR bs = .ok r.bare ∧ ev = .nilIface))
    (hq : (∃ n b : Nat, decR bs = .error n ∧ s = zeroR ∧ l = .slice (some ⟨b, 0, none⟩) 1 1 ∧ LinkAt w3 b n 10) ∨ (decR bs = .ok s.bare ∧ l = .slice none 0 0)) :
    r = s.wi r.tp r.tc r.cp r.cc r.ap r.ac ∧ Calls Tryz.prog 9 #[ev, l] w4 fun e w' => e = .returned (.bool true) ∧ Below w4.heap.size w4 w' := by
  rcases hp with ⟨n, b, h1, rfl, rfl, h4⟩ | ⟨h1, rfl⟩
  · rcases hq with ⟨n', g, k1, rfl, rfl, k4⟩ | ⟨k1, rfl⟩
    · rw [h1] at k1
      cases k1
      have hl := k4.below h34
      have hbl : b < w2.heap.size := cell_lt h4.1
      exact ⟨rfl, refused_one b g n 10 w4 hE (h4.keep fun o => h24.cell (p := ⟨b, o, none⟩) hbl) hl.1 hl.2.1 hl.2.2⟩
    · rw [h1] at k1; cases k1
  · rcases hq with ⟨n', g, k1, rfl, rfl, k4⟩ | ⟨k1, rfl⟩
    · rw [h1] at k1; cases k1
    · rw [h1] at k1
      exact ⟨wi_of (Except.ok.inj k1), (refused_nil w4).mono fun _ _ ⟨a, b⟩ => ⟨a, b ▸ Below.refl _ _⟩⟩
end Go.Proofs.YtdjjologpodnkaaGreatDoor

/-
  LedgerDecodes, walked.
-/
namespace Go.Proofs.YtdjjologpodnkaaGreatDoor
open Go.RowKit

set_option maxRecDepth 100000 in
set_option maxHeartbeats 4000000 in
theorem decodes_law (po : Option Addr) (c : Nat) (bs : List Int) (w : World) (hE : ErrType w) (hV : PVx w) (hb : Byts w po bs.length bs) (hn : bs.length ≤ c) (hl : po = none → c = 0) (hR : Rng bs) (hm : bs.length + 90 ≤ 140737488355328) :
    Calls Tryz.prog 4 #[.slice po bs.length c] w fun e w' => e = .returned (.bool true) ∧ Below w.heap.size w w' := by
  have hh := Hand_any (c := c) w hb hm
  have HA : Hid (ErrType w ∧ PVx w ∧ Byts w po bs.length bs ∧ bs.length ≤ c ∧ (po = none → c = 0) ∧ Rng bs ∧ bs.length + 90 ≤ 140737488355328) := ⟨hE, hV, hb, hn, hl, hR, hm⟩
  obtain ⟨m, hmm⟩ : ∃ m, bs.length = m := ⟨_, rfl⟩
  have HM : Hid (bs.length = m) := hmm
  rw [hmm] at hh ⊢
  clear hE hV hb hn hl hR hm hmm
  go_enter Tryz.func4, Tryz.ntmps4
  go_wp2_with fail
  refine hh.mono ?_
  rintro _ w1 ⟨rfl, hrow, hb1⟩
  have hpre : Byts w1 (some ⟨w.heap.size, 0, none⟩) bs.length bs := by
    have h1 := (hrow.prefix (m := m) (by omega)).byts
    rw [List.take_left' HM.out, ← HM.out] at h1
    exact h1
  have hlt1 : w.heap.size < w1.heap.size := (ERow.lt hrow (g := w.heap.size) rfl).2
  have hde := decode_any (c := m + 90) hpre (by rw [HM.out]; omega) (fun e => by cases e) HA.out.2.2.2.2.2.1 (HA.out.2.1.below hb1) (by have := HA.out.2.2.2.2.2.2; omega) (fun x hx => by cases hx; exact hlt1)
  rw [HM.out] at hde
  have HR1 : Hid (BRow w1 w.heap.size (.slice (some ⟨w.heap.size, 0, none⟩) (m + 90) (m + 90)) (bs ++ marks) ∧ Below w.heap.size w w1) := ⟨hrow, hb1⟩
  clear hh hrow hb1 hpre hlt1
  go_wp2_with fail
  refine hde.mono ?_
  intro e2 w2 hq2
  obtain ⟨r, ev, rfl, H2⟩ := hq2.one
  have hrd := rdecode_u (c := c) ((HA.out.2.2.1.below HR1.out.2).below (below_then H2.out.2.1 ((Below.refl w2.heap.size w2).alloc (Nat.le_refl _) (.cells (#[.int .i64 r.kd, .string r.ct, .slice r.tp r.tn r.tc, .bool r.e, .int .i64 r.a, .int .i64 r.p, .int .i64 r.nu, .int .i64 r.tk, .int .i64 r.st, .string r.cd, .slice r.cp r.cn r.cc, .slice r.ap r.an r.ac]) 26)))) HA.out.2.2.2.1 HA.out.2.2.2.2.1 HA.out.2.2.2.2.2.1 (by have := HA.out.2.2.2.2.2.2; omega)
  rw [HM.out] at hrd
  have HX2 : Hid (Box (w2.alloc (.cells (#[.int .i64 r.kd, .string r.ct, .slice r.tp r.tn r.tc, .bool r.e, .int .i64 r.a, .int .i64 r.p, .int .i64 r.nu, .int .i64 r.tk, .int .i64 r.st, .string r.cd, .slice r.cp r.cn r.cc, .slice r.ap r.an r.ac]) 26)) w2.heap.size (#[.int .i64 r.kd, .string r.ct, .slice r.tp r.tn r.tc, .bool r.e, .int .i64 r.a, .int .i64 r.p, .int .i64 r.nu, .int .i64 r.tk, .int .i64 r.st, .string r.cd, .slice r.cp r.cn r.cc, .slice r.ap r.an r.ac])) := Box.new _ _ _
  clear hde hq2
  go_wp2_with fail
  refine hrd.mono ?_
  intro e3 w3 hq3
  obtain ⟨s, l, rfl, H3⟩ := hq3
  have b23 : Below w2.heap.size w2 w3 := below_then ((Below.refl w2.heap.size w2).alloc (Nat.le_refl _) (.cells (#[.int .i64 r.kd, .string r.ct, .slice r.tp r.tn r.tc, .bool r.e, .int .i64 r.a, .int .i64 r.p, .int .i64 r.nu, .int .i64 r.tk, .int .i64 r.st, .string r.cd, .slice r.cp r.cn r.cc, .slice r.ap r.an r.ac]) 26)) H3.out.2.1
  have b3 : Below w3.heap.size w3 (w3.alloc (.cells (#[.int .i64 s.kd, .string s.ct, .slice s.tp s.tn s.tc, .bool s.e, .int .i64 s.a, .int .i64 s.p, .int .i64 s.nu, .int .i64 s.tk, .int .i64 s.st, .string s.cd, .slice s.cp s.cn s.cc, .slice s.ap s.an s.ac]) 26)) := (Below.refl w3.heap.size w3).alloc (Nat.le_refl _) _
  have xr := ((HX2.out.below H3.out.2.1).alloc (.cells (#[.int .i64 s.kd, .string s.ct, .slice s.tp s.tn s.tc, .bool s.e, .int .i64 s.a, .int .i64 s.p, .int .i64 s.nu, .int .i64 s.tk, .int .i64 s.st, .string s.cd, .slice s.cp s.cn s.cc, .slice s.ap s.an s.ac]) 26)).cell
  have b13 : Below w1.heap.size w1 (w3.alloc (.cells (#[.int .i64 s.kd, .string s.ct, .slice s.tp s.tn s.tc, .bool s.e, .int .i64 s.a, .int .i64 s.p, .int .i64 s.nu, .int .i64 s.tk, .int .i64 s.st, .string s.cd, .slice s.cp s.cn s.cc, .slice s.ap s.an s.ac]) 26)) := below_then (below_then H2.out.2.1 b23) b3
  have b03 : Below w.heap.size w (w3.alloc (.cells (#[.int .i64 s.kd, .string s.ct, .slice s.tp s.tn s.tc, .bool s.e, .int .i64 s.a, .int .i64 s.p, .int .i64 s.nu, .int .i64 s.tk, .int .i64 s.st, .string s.cd, .slice s.cp s.cn s.cc, .slice s.ap s.an s.ac]) 26)) := below_then HR1.out.2 b13
  have HB : Hid (Below w1.heap.size w1 (w3.alloc (.cells (#[.int .i64 s.kd, .string s.ct, .slice s.tp s.tn s.tc, .bool s.e, .int .i64 s.a, .int .i64 s.p, .int .i64 s.nu, .int .i64 s.tk, .int .i64 s.st, .string s.cd, .slice s.cp s.cn s.cc, .slice s.ap s.an s.ac]) 26)) ∧ Below w2.heap.size w2 (w3.alloc (.cells (#[.int .i64 s.kd, .string s.ct, .slice s.tp s.tn s.tc, .bool s.e, .int .i64 s.a, .int .i64 s.p, .int .i64 s.nu, .int .i64 s.tk, .int .i64 s.st, .string s.cd, .slice s.cp s.cn s.cc, .slice s.ap s.an s.ac]) 26)) ∧ Below w3.heap.size w3 (w3.alloc (.cells (#[.int .i64 s.kd, .string s.ct, .slice s.tp s.tn s.tc, .bool s.e, .int .i64 s.a, .int .i64 s.p, .int .i64 s.nu, .int .i64 s.tk, .int .i64 s.st, .string s.cd, .slice s.cp s.cn s.cc, .slice s.ap s.an s.ac]) 26)) ∧ Below w.heap.size w (w3.alloc (.cells (#[.int .i64 s.kd, .string s.ct, .slice s.tp s.tn s.tc, .bool s.e, .int .i64 s.a, .int .i64 s.p, .int .i64 s.nu, .int .i64 s.tk, .int .i64 s.st, .string s.cd, .slice s.cp s.cn s.cc, .slice s.ap s.an s.ac]) 26)) ∧ Box (w3.alloc (.cells (#[.int .i64 s.kd, .string s.ct, .slice s.tp s.tn s.tc, .bool s.e, .int .i64 s.a, .int .i64 s.p, .int .i64 s.nu, .int .i64 s.tk, .int .i64 s.st, .string s.cd, .slice s.cp s.cn s.cc, .slice s.ap s.an s.ac]) 26)) w3.heap.size (#[.int .i64 s.kd, .string s.ct, .slice s.tp s.tn s.tc, .bool s.e, .int .i64 s.a, .int .i64 s.p, .int .i64 s.nu, .int .i64 s.tk, .int .i64 s.st, .string s.cd, .slice s.cp s.cn s.cc, .slice s.ap s.an s.ac])) := ⟨b13, below_then b23 b3, b3, b03, Box.new _ _ _⟩
  clear hrd b23 b3 b13 b03 HX2
  have hbo := fun z (hz : Below (w3.alloc (.cells (#[.int .i64 s.kd, .string s.ct, .slice s.tp s.tn s.tc, .bool s.e, .int .i64 s.a, .int .i64 s.p, .int .i64 s.nu, .int .i64 s.tk, .int .i64 s.st, .string s.cd, .slice s.cp s.cn s.cc, .slice s.ap s.an s.ac]) 26)).heap.size (w3.alloc (.cells (#[.int .i64 s.kd, .string s.ct, .slice s.tp s.tn s.tc, .bool s.e, .int .i64 s.a, .int .i64 s.p, .int .i64 s.nu, .int .i64 s.tk, .int .i64 s.st, .string s.cd, .slice s.cp s.cn s.cc, .slice s.ap s.an s.ac]) 26)) z) => both_one (w4 := z) (errType_below HA.out.1 (below_then HB.out.2.2.2.1 hz)) (below_then HB.out.2.1 hz) (below_then HB.out.2.2.1 hz) H2.out.2.2.2 H3.out.2.2
  have HH2 : Hid (LieR w2 r ∧ Small r) := ⟨H2.out.1, H2.out.2.2.1⟩
  clear H2
  obtain ⟨a1, c1, a2, c2, a3, c3, hr⟩ : ∃ a1 c1 a2 c2 a3 c3, r = s.wi a1 c1 a2 c2 a3 c3 := ⟨_, _, _, _, _, _, (hbo _ (Below.refl _ _)).1⟩
  have HRF : Hid (∀ z, Below (w3.alloc (.cells (#[.int .i64 s.kd, .string s.ct, .slice s.tp s.tn s.tc, .bool s.e, .int .i64 s.a, .int .i64 s.p, .int .i64 s.nu, .int .i64 s.tk, .int .i64 s.st, .string s.cd, .slice s.cp s.cn s.cc, .slice s.ap s.an s.ac]) 26)).heap.size (w3.alloc (.cells (#[.int .i64 s.kd, .string s.ct, .slice s.tp s.tn s.tc, .bool s.e, .int .i64 s.a, .int .i64 s.p, .int .i64 s.nu, .int .i64 s.tk, .int .i64 s.st, .string s.cd, .slice s.cp s.cn s.cc, .slice s.ap s.an s.ac]) 26)) z → Calls Tryz.prog 9 #[ev, l] z fun e w' => e = .returned (.bool true) ∧ Below z.heap.size z w') := fun z hz => (hbo z hz).2
  clear hbo
  subst hr
  have HS : Hid (Small s) := HH2.out.2
  have HL1 : Hid (LieR (w3.alloc (.cells (#[.int .i64 s.kd, .string s.ct, .slice s.tp s.tn s.tc, .bool s.e, .int .i64 s.a, .int .i64 s.p, .int .i64 s.nu, .int .i64 s.tk, .int .i64 s.st, .string s.cd, .slice s.cp s.cn s.cc, .slice s.ap s.an s.ac]) 26)) (s.wi a1 c1 a2 c2 a3 c3) ∧ LieR (w3.alloc (.cells (#[.int .i64 s.kd, .string s.ct, .slice s.tp s.tn s.tc, .bool s.e, .int .i64 s.a, .int .i64 s.p, .int .i64 s.nu, .int .i64 s.tk, .int .i64 s.st, .string s.cd, .slice s.cp s.cn s.cc, .slice s.ap s.an s.ac]) 26)) s) := ⟨HH2.out.1.below HB.out.2.1, H3.out.1.below HB.out.2.2.1⟩
  have xr2 : ∀ o, (w3.alloc (.cells (#[.int .i64 s.kd, .string s.ct, .slice s.tp s.tn s.tc, .bool s.e, .int .i64 s.a, .int .i64 s.p, .int .i64 s.nu, .int .i64 s.tk, .int .i64 s.st, .string s.cd, .slice s.cp s.cn s.cc, .slice s.ap s.an s.ac]) 26)).cell? ⟨w2.heap.size, o, none⟩ = (#[.int .i64 s.kd, .string s.ct, .slice a1 s.tn c1, .bool s.e, .int .i64 s.a, .int .i64 s.p, .int .i64 s.nu, .int .i64 s.tk, .int .i64 s.st, .string s.cd, .slice a2 s.cn c2, .slice a3 s.an c3] : Array Value)[o]? := xr
  have xs2 := HB.out.2.2.2.2.cell
  have hlk := like_true s a1 c1 a2 c2 a3 c3 (w3.alloc (.cells (#[.int .i64 s.kd, .string s.ct, .slice s.tp s.tn s.tc, .bool s.e, .int .i64 s.a, .int .i64 s.p, .int .i64 s.nu, .int .i64 s.tk, .int .i64 s.st, .string s.cd, .slice s.cp s.cn s.cc, .slice s.ap s.an s.ac]) 26)) HL1.out.2 HL1.out.1 (by have := HS.out.1; omega) (by have := HS.out.2.1; omega) (by have := HS.out.2.2; omega)
  clear xr HH2 HL1 HS H3
  go_wp2_with fail
  refine hlk.mono ?_
  rintro _ w5 ⟨rfl, hb5⟩
  have HB5 : Hid (Below (w3.alloc (.cells (#[.int .i64 s.kd, .string s.ct, .slice s.tp s.tn s.tc, .bool s.e, .int .i64 s.a, .int .i64 s.p, .int .i64 s.nu, .int .i64 s.tk, .int .i64 s.st, .string s.cd, .slice s.cp s.cn s.cc, .slice s.ap s.an s.ac]) 26)).heap.size (w3.alloc (.cells (#[.int .i64 s.kd, .string s.ct, .slice s.tp s.tn s.tc, .bool s.e, .int .i64 s.a, .int .i64 s.p, .int .i64 s.nu, .int .i64 s.tk, .int .i64 s.st, .string s.cd, .slice s.cp s.cn s.cc, .slice s.ap s.an s.ac]) 26)) w5) := hb5
  clear hlk hb5 xr2 xs2
  go_wp2_with fail
  refine (HRF.out _ HB5.out).mono ?_
  rintro _ w6 ⟨rfl, hb6⟩
  have HB6 : Hid (Below w1.heap.size w1 w6 ∧ Below w.heap.size w w6) := ⟨below_then (below_then HB.out.1 HB5.out) hb6, below_then (below_then HB.out.2.2.2.1 HB5.out) hb6⟩
  have hkp := Kept_true (c := c) w6 (ERow.below HR1.out.1 HB6.out.1) (by have := HA.out.2.2.1.below HB6.out.2; rw [HM.out] at this; exact this) (by have := HA.out.2.2.2.2.2.2; rw [HM.out] at this; exact this)
  clear hb6 HB HB5 HRF
  go_wp2_with fail
  refine hkp.mono ?_
  rintro _ w7 ⟨rfl, k, rfl⟩
  clear hkp
  go_wp2_with fail
  go_ret
  exact ⟨rfl, below_drewN HB6.out.2 k⟩
end Go.Proofs.YtdjjologpodnkaaGreatDoor

/-
  LedgerDecodes: the row out of its walk.
-/
namespace Go.Proofs.YtdjjologpodnkaaGreatDoor.ledgerDecodes
open Go.ChangeShapes Go.WideShapes Go.ChangeAt Go.RowKit

theorem laidOut : laidOutB Tryz.prog = true := by kernel_rfl
theorem given {W : World} (h : laidMetH Tryz.prog Rows.ledgerDecodesRow.laid W) : ErrType W := by
  have h' : laidMet Tryz.prog [] W ∧ handlesMet Tryz.prog [("errors.errorType", Rows.laid_errors_errorType)] W := h
  exact errType_of h'.2
theorem trod_block {H : Type} {enc : TypeId × Value → H} {P : Program} {W : World} {base : Nat} {spare : Nat → Bool} {held : Bool} {t : TypeId} {v : Value} {d : DataW H} {ps : List MemPlace} (h : DataW.Trod enc P W base spare held t v d ps) : ∀ x ∈ ps, x.block < W.heap.size := by
  obtain ⟨fuel, hf⟩ := h
  exact fun x hx => DataW.trod_lt _ _ _ _ hf x hx
set_option maxRecDepth 100000 in
set_option maxHeartbeats 1000000 in
theorem contract (H : Type) (enc : TypeId × Value → H) (W : World) (base : Nat) (args : Array Value) (ds gs : List (DataW H)) (before : List MemPlace)
    (hval : ∀ (j : Nat) t v, Tryz.f4.params[j]? = some t → args[j]? = some v → Value.okWide Tryz.prog W .any base t v)
    (hW : DataW.Whole enc Tryz.prog Tryz.f4.params.toList Rows.ledgerDecodesSpec.vars false W args.toList ds gs before)
    (hWt : (DataW.weightsEach Tryz.prog (Tryz.f4.params.toList ++ (OpenSpec.ofChange Rows.ledgerDecodesSpec).bare.plain.varTypes Tryz.prog) (ds ++ gs)).all (· ≤ reachBytes) = true) (hL : laidMetH Tryz.prog Rows.ledgerDecodesRow.laid W) (hSh : W.ShapedOpen Tryz.prog) :
    Calls Tryz.prog 4 args W fun e W' => ∃ v, e = .returned v ∧ Rows.ledgerDecodesSpec.post enc Tryz.prog Tryz.f4 false true false false W args v W' := by
  have hW' := hW
  obtain ⟨p, q, hA0, hV, rfl, hfz, hnd⟩ := hW
  have hA : DataW.TrodAll enc Tryz.prog W 0 (fun _ => true) true Tryz.f4.params.toList args.toList ds p := hA0
  rw [Tryz.params4] at hA hval hWt
  obtain ⟨v0, vs0, d0, ds0, p0, q0, hargs, rfl, rfl, h0, r0⟩ := trodAll_cons hA
  obtain ⟨rfl, rfl, rfl⟩ := trodAll_nil r0
  obtain rfl : args = #[v0] := by cases args; simp_all
  obtain ⟨rfl, rfl⟩ := trodVars_none hV
  have ht0 := h0
  obtain ⟨a0, l0, c0, rfl⟩ := okWide_slice Tryz.underlying22 (hval 0 22 v0 rfl rfl)
  obtain ⟨fu0, hf0⟩ := h0
  obtain ⟨po0, pl0, pc0, bs0, e0, hB0, hp0, hn0, hc0, hz0, hr0⟩ := open_bytesR hf0
  obtain ⟨rfl, rfl, rfl⟩ : a0 = po0 ∧ l0 = pl0 ∧ c0 = pc0 := by simpa [Value.cells] using e0
  have hy0 : l0 + 90 ≤ 140737488355328 := by
    rcases hz0 with h | ⟨el, sp, e, h⟩
    · omega
    · have := sized_slice hWt (j := 0) rfl (congrArg some e) Tryz.underlying22
      have hr := reachBytes_90
      rw [bytesU8] at this
      omega
  obtain rfl : l0 = bs0.length := hB0.len.symm
  clear hA0
  refine (decodes_law a0 c0 bs0 W (given hL) (pvx_of hSh) hB0 hc0 hn0 (fun z hz => ⟨(hr0 z hz).1, by have := (hr0 z hz).2; omega⟩) hy0).mono fun e W' ⟨he, hg⟩ => ?_
  subst he
  have e1 : Rows.ledgerDecodesSpec.fn H ([d0] ++ []) = { results := [.lit (.bool true)], args := [d0] } := by simp [Rows.ledgerDecodesSpec]
  refine ⟨_, rfl, _, _, _, [], (p0 ++ []), [], hW', ?_, ?_, ?_, hg.frame _, fun h => by cases h⟩
  · rw [e1]; exact trodAll_cons_mk (shut_bool Tryz.underlying4 true) trodAll_mk0
  · rw [e1]; exact trodAll_cons_mk (Below.trod laidOut (show Tryz.prog.readableRec 22 = true by kernel_rfl) (show 22 < Tryz.prog.types.size by rw [typesSize]; decide) ht0 hg (trod_block ht0)) (trodAll_mk0)
  · rw [e1]; rfl
theorem reads (os : Os) {H : Type} (enc : TypeId × Value → H) : ∃ places, DataW.whole enc Tryz.prog ((World.doorLaid Tryz.prog 400 os).forCall (fun _ _ => 0) ⟨#[], #[.slice none 0 0], []⟩).memory Tryz.f4.params.toList Rows.ledgerDecodesSpec.vars false #[Value.slice none 0 0].toList 8 = some ([.nil], [], places) :=
  ⟨[], by kernel_rfl⟩
theorem door_met (os : Os) : laidMetH Tryz.prog Rows.ledgerDecodesRow.laid ((World.doorLaid Tryz.prog 400 os).forCall (fun _ _ => 0) ⟨#[], #[.slice none 0 0], []⟩).memory :=
  laidMetH_of_parts3 (fuel := 8) (laidMet_of_run' 8 (by kernel_rfl) (by kernel_rfl)) (by kernel_rfl) (by kernel_rfl)
set_option maxRecDepth 100000 in
theorem lifted (os : Os) (started : os.Started) (H : Type) (enc : TypeId × Value → H) (F : Stop.Interp) :
    ReturnsInHanded {} Tryz.checked os 4 .any ((OpenSpec.ofChange Rows.ledgerDecodesSpec).preRow enc Tryz.prog Tryz.f4 Rows.ledgerDecodesRow.domain false Rows.ledgerDecodesRow.laid) (((OpenSpec.ofChange Rows.ledgerDecodesSpec).at F).post enc Tryz.prog Tryz.f4 false true false false) := by
  obtain ⟨places, hx⟩ := reads os enc
  refine returnsInHanded_of_row (C := Tryz.checked) (s := OpenSpec.ofChange Rows.ledgerDecodesSpec) own started (by kernel_rfl) Tryz.func4
    (witness_row_at (enc := enc) (C := Tryz.checked) false (World.doorLaid Tryz.prog 400 os) #[.slice none 0 0] rfl (by kernel_rfl) (by kernel_rfl) (by kernel_rfl)
      (OpenSpec.preRow_of_cond 8 hx (by kernel_rfl) (fun k hk => by cases hk) (by kernel_rfl) (door_met os))) ?_
  intro W base args ds gs before hval hW _ _ hWt hL hSh _
  exact contract H enc W base args ds gs before hval hW hWt hL hSh
theorem said : Rows.LedgerDecodesSaid :=
  OpenClaim.holds_of_cond 4 Tryz.f4 rfl rfl rfl rfl rfl rfl rfl ⟨rfl, rfl, rfl, rfl, rfl⟩ rfl rfl rfl rfl rfl (by kernel_rfl) Tryz.func4 (by kernel_rfl)
    (of_decide_eq_true (by kernel_rfl)) (by unfold Func.isWrapper; first | (rw [if_pos (by decide +kernel)]; kernel_rfl) | (rw [if_neg (by decide +kernel)]; exact ⟨rfl, rfl⟩))
    (fun os started H enc _ F => by rw [OpenClaim.pre_eq_preRow]; exact lifted os started H enc F)
theorem plain (f : FuncId) (fn : Func) (hf : Tryz.pinned.checked.prog.funcNamed "courier/courierlaw16.LedgerDecodes" = some f) (hfn : Tryz.pinned.checked.prog.funcs[f]? = some fn) :
    true = Tryz.pinned.checked.prog.looks [] ∧ ∀ (j : Nat) t, fn.params[j]? = some t → Tryz.pinned.checked.prog.wantsStandIn t = false := by
  obtain rfl : f = 4 := Option.some.inj ((show Tryz.prog.funcNamed "courier/courierlaw16.LedgerDecodes" = some 4 by kernel_rfl).symm.trans hf) |>.symm
  obtain rfl : fn = Tryz.f4 := (Option.some.inj (Tryz.func4.symm.trans hfn)).symm
  refine ⟨by kernel_rfl, fun j t ht => ?_⟩
  rw [Tryz.params4] at ht
  have hm : t ∈ [22] := by simpa using Array.mem_of_getElem? ht
  have hall : ([22].all fun u => !Tryz.prog.wantsStandIn u) = true := by kernel_rfl
  exact (show Tryz.prog.wantsStandIn t = false by simpa using List.all_eq_true.1 hall t hm)

theorem card : Rows.LedgerDecodesCardSaid :=
  Claim7.holds_tied_plain_at .later [] _ _ _ _ said (fun _ h => by cases h) (by kernel_rfl) (fun _ h => by cases h) ledgerDecodes_row_tie rfl ⟨rfl, rfl⟩ (by kernel_rfl) rfl plain (by kernel_rfl)
end Go.Proofs.YtdjjologpodnkaaGreatDoor.ledgerDecodes

namespace Go.Proofs.YtdjjologpodnkaaGreatDoor
theorem ledgerDecodes_of : Rows.LedgerDecodesCardSaid := ledgerDecodes.card
end Go.Proofs.YtdjjologpodnkaaGreatDoor
