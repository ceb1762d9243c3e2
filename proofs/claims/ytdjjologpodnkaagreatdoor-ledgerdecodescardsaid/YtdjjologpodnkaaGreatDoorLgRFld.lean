/-
  The document's field, as bytes.
-/
import Derived.Test.YtdjjologpodnkaaGreatDoorLgRByt
namespace Go.Proofs.YtdjjologpodnkaaGreatDoor
open Go.RowKit

def rB (r : Rec) : Nat → List Int
  | 2 => numL (r.ct.size : Nat) 4 ++ strI r.ct
  | 3 => numL (r.tn : Nat) 4 ++ r.tx
  | 4 => [bitI r.e, IntKind.u8.wrap r.a, IntKind.u8.wrap r.p]
  | 5 => numL r.nu 8
  | 6 => numL r.tk 8
  | 7 => numL r.st 8
  | 8 => numL (r.cd.size : Nat) 4 ++ strI r.cd
  | 9 => numL (r.cn : Nat) 4 ++ r.cx
  | _ => numL (r.an : Nat) 4 ++ r.ax
theorem byts_conv (w : World) (s : ByteArray) : Byts (Lib.bytesWorld w 5 s) (some ⟨w.heap.size, 0, none⟩) s.size (strI s) :=
  ⟨strI_len s, fun j hj => ⟨w.heap.size, 0, rfl, by rw [Lib.bytesWorld_size]; omega, by
    rw [Nat.zero_add, Lib.bytesWorld_cell w _ s j hj]
    congr 2
    unfold strI
    rw [List.getD_eq_getElem?_getD, List.getD_eq_getElem?_getD, List.getElem?_map]
    have hl : j < s.data.toList.length := hj
    rw [List.getElem?_eq_getElem hl]
    rfl⟩⟩
theorem below_conv (w : World) (s : ByteArray) : Below w.heap.size w (Lib.bytesWorld w 5 s) := ⟨rfl, rfl, rfl, by rw [Lib.bytesWorld_size]; omega, fun k hk => Lib.bytesWorld_at_old w _ s k hk⟩
/-- The record's three lists. -/
structure LieR (w : World) (r : Rec) : Prop where
  t : Byts w r.tp r.tn r.tx
  c : Byts w r.cp r.cn r.cx
  a : Byts w r.ap r.an r.ax
theorem LieR.below {w w' : World} {r : Rec} (h : LieR w r) (hb : Below w.heap.size w w') : LieR w' r := ⟨h.t.below hb, h.c.below hb, h.a.below hb⟩
theorem BytQ.from_ {w V : World} {bs : List Int} {e : Ending} {w' : World} (hb : Below w.heap.size w V) (h : BytQ V bs e w') : BytQ w bs e w' := by
  obtain ⟨a, c, he, hr, hb2⟩ := h
  exact ⟨a, c, he, ERow.base hr hb.size, below_then hb hb2⟩
set_option maxRecDepth 100000 in
set_option maxHeartbeats 1000000 in
theorem rField_2 (r : Rec) (w : World) (hn : r.ct.size ≤ 100000) : Calls Tryz.prog 21 #[.agg #[.int .i64 r.kd, .string r.ct, .slice r.tp r.tn r.tc, .bool r.e, .int .i64 r.a, .int .i64 r.p, .int .i64 r.nu, .int .i64 r.tk, .int .i64 r.st, .string r.cd, .slice r.cp r.cn r.cc, .slice r.ap r.an r.ac], .int .i64 2] w (BytQ w (rB r 2)) := by
  have bv := (Below.refl w.heap.size w).alloc (Nat.le_refl _) (.cells (#[.int .i64 r.kd, .string r.ct, .slice r.tp r.tn r.tc, .bool r.e, .int .i64 r.a, .int .i64 r.p, .int .i64 r.nu, .int .i64 r.tk, .int .i64 r.st, .string r.cd, .slice r.cp r.cn r.cc, .slice r.ap r.an r.ac]) 26)
  have cx := (Box.new w (#[.int .i64 r.kd, .string r.ct, .slice r.tp r.tn r.tc, .bool r.e, .int .i64 r.a, .int .i64 r.p, .int .i64 r.nu, .int .i64 r.tk, .int .i64 r.st, .string r.cd, .slice r.cp r.cn r.cc, .slice r.ap r.an r.ac]) 26).cell
  have hcv : (convert 9 22 (.string r.ct)).run Tryz.prog (w.alloc (.cells (#[.int .i64 r.kd, .string r.ct, .slice r.tp r.tn r.tc, .bool r.e, .int .i64 r.a, .int .i64 r.p, .int .i64 r.nu, .int .i64 r.tk, .int .i64 r.st, .string r.cd, .slice r.cp r.cn r.cc, .slice r.ap r.an r.ac]) 26)) = _ := Lib.run_convert_string_bytes _ 9 22 5 r.ct Tryz.underlying9 Tryz.underlying22 Tryz.underlying5
  have b2 := below_then bv (below_conv (w.alloc (.cells (#[.int .i64 r.kd, .string r.ct, .slice r.tp r.tn r.tc, .bool r.e, .int .i64 r.a, .int .i64 r.p, .int .i64 r.nu, .int .i64 r.tk, .int .i64 r.st, .string r.cd, .slice r.cp r.cn r.cc, .slice r.ap r.an r.ac]) 26)) r.ct)
  have hf := rFour_any (c := grownCap (w.alloc (.cells (#[.int .i64 r.kd, .string r.ct, .slice r.tp r.tn r.tc, .bool r.e, .int .i64 r.a, .int .i64 r.p, .int .i64 r.nu, .int .i64 r.tk, .int .i64 r.st, .string r.cd, .slice r.cp r.cn r.cc, .slice r.ap r.an r.ac]) 26)) r.ct.size 0 5) (byts_conv (w.alloc (.cells (#[.int .i64 r.kd, .string r.ct, .slice r.tp r.tn r.tc, .bool r.e, .int .i64 r.a, .int .i64 r.p, .int .i64 r.nu, .int .i64 r.tk, .int .i64 r.st, .string r.cd, .slice r.cp r.cn r.cc, .slice r.ap r.an r.ac]) 26)) r.ct) hn
  rw [World.size_alloc] at hcv hf
  obtain ⟨W2, hW2⟩ : ∃ W2, Lib.bytesWorld (w.alloc (.cells (#[.int .i64 r.kd, .string r.ct, .slice r.tp r.tn r.tc, .bool r.e, .int .i64 r.a, .int .i64 r.p, .int .i64 r.nu, .int .i64 r.tk, .int .i64 r.st, .string r.cd, .slice r.cp r.cn r.cc, .slice r.ap r.an r.ac]) 26)) 5 r.ct = W2 := ⟨_, rfl⟩
  rw [hW2] at hcv hf b2
  obtain ⟨cap, hcap⟩ : ∃ c, grownCap (w.alloc (.cells (#[.int .i64 r.kd, .string r.ct, .slice r.tp r.tn r.tc, .bool r.e, .int .i64 r.a, .int .i64 r.p, .int .i64 r.nu, .int .i64 r.tk, .int .i64 r.st, .string r.cd, .slice r.cp r.cn r.cc, .slice r.ap r.an r.ac]) 26)) r.ct.size 0 5 = c := ⟨_, rfl⟩
  rw [hcap] at hcv hf
  have HB : Hid (Below w.heap.size w W2) := b2
  clear bv b2 hW2 hcap
  go_enter Tryz.func21, Tryz.ntmps21
  go_wp2_with fail
  refine hf.mono ?_
  intro ev w9 hq
  have HE : Hid (BytQ w (rB r 2) ev w9) := BytQ.from_ HB.out hq
  obtain ⟨a9, c9, rfl, _, _⟩ := hq
  generalize (numL (r.ct.size : Nat) 4 ++ strI r.ct).length = m9 at HE ⊢
  clear hf
  go_wp2_with fail
  go_ret
  exact HE.out
set_option maxRecDepth 100000 in
set_option maxHeartbeats 1000000 in
theorem rField_3 (r : Rec) (w : World) (h : LieR w r) (hn : r.tn ≤ 100000) : Calls Tryz.prog 21 #[.agg #[.int .i64 r.kd, .string r.ct, .slice r.tp r.tn r.tc, .bool r.e, .int .i64 r.a, .int .i64 r.p, .int .i64 r.nu, .int .i64 r.tk, .int .i64 r.st, .string r.cd, .slice r.cp r.cn r.cc, .slice r.ap r.an r.ac], .int .i64 3] w (BytQ w (rB r 3)) := by
  have bv := (Below.refl w.heap.size w).alloc (Nat.le_refl _) (.cells (#[.int .i64 r.kd, .string r.ct, .slice r.tp r.tn r.tc, .bool r.e, .int .i64 r.a, .int .i64 r.p, .int .i64 r.nu, .int .i64 r.tk, .int .i64 r.st, .string r.cd, .slice r.cp r.cn r.cc, .slice r.ap r.an r.ac]) 26)
  have cx := (Box.new w (#[.int .i64 r.kd, .string r.ct, .slice r.tp r.tn r.tc, .bool r.e, .int .i64 r.a, .int .i64 r.p, .int .i64 r.nu, .int .i64 r.tk, .int .i64 r.st, .string r.cd, .slice r.cp r.cn r.cc, .slice r.ap r.an r.ac]) 26).cell
  have hf := rFour_any (c := r.tc) (h.below bv).t hn
  have HB : Hid (Below w.heap.size w (w.alloc (.cells (#[.int .i64 r.kd, .string r.ct, .slice r.tp r.tn r.tc, .bool r.e, .int .i64 r.a, .int .i64 r.p, .int .i64 r.nu, .int .i64 r.tk, .int .i64 r.st, .string r.cd, .slice r.cp r.cn r.cc, .slice r.ap r.an r.ac]) 26))) := bv
  clear bv h
  go_enter Tryz.func21, Tryz.ntmps21
  go_wp2_with fail
  refine hf.mono ?_
  intro ev w9 hq
  have HE : Hid (BytQ w (rB r 3) ev w9) := BytQ.from_ HB.out hq
  obtain ⟨a9, c9, rfl, _, _⟩ := hq
  generalize (numL (r.tn : Nat) 4 ++ r.tx).length = m9 at HE ⊢
  clear hf
  go_wp2_with fail
  go_ret
  exact HE.out
set_option maxRecDepth 100000 in
set_option maxHeartbeats 1000000 in
theorem rField_4 (r : Rec) (w : World)  : Calls Tryz.prog 21 #[.agg #[.int .i64 r.kd, .string r.ct, .slice r.tp r.tn r.tc, .bool r.e, .int .i64 r.a, .int .i64 r.p, .int .i64 r.nu, .int .i64 r.tk, .int .i64 r.st, .string r.cd, .slice r.cp r.cn r.cc, .slice r.ap r.an r.ac], .int .i64 4] w (BytQ w (rB r 4)) := by
  have bv := (Below.refl w.heap.size w).alloc (Nat.le_refl _) (.cells (#[.int .i64 r.kd, .string r.ct, .slice r.tp r.tn r.tc, .bool r.e, .int .i64 r.a, .int .i64 r.p, .int .i64 r.nu, .int .i64 r.tk, .int .i64 r.st, .string r.cd, .slice r.cp r.cn r.cc, .slice r.ap r.an r.ac]) 26)
  have cx := (Box.new w (#[.int .i64 r.kd, .string r.ct, .slice r.tp r.tn r.tc, .bool r.e, .int .i64 r.a, .int .i64 r.p, .int .i64 r.nu, .int .i64 r.tk, .int .i64 r.st, .string r.cd, .slice r.cp r.cn r.cc, .slice r.ap r.an r.ac]) 26).cell
  have hf := rCond_any r.e r.a r.p (w.alloc (.cells (#[.int .i64 r.kd, .string r.ct, .slice r.tp r.tn r.tc, .bool r.e, .int .i64 r.a, .int .i64 r.p, .int .i64 r.nu, .int .i64 r.tk, .int .i64 r.st, .string r.cd, .slice r.cp r.cn r.cc, .slice r.ap r.an r.ac]) 26))
  have HB : Hid (Below w.heap.size w (w.alloc (.cells (#[.int .i64 r.kd, .string r.ct, .slice r.tp r.tn r.tc, .bool r.e, .int .i64 r.a, .int .i64 r.p, .int .i64 r.nu, .int .i64 r.tk, .int .i64 r.st, .string r.cd, .slice r.cp r.cn r.cc, .slice r.ap r.an r.ac]) 26))) := bv
  clear bv
  go_enter Tryz.func21, Tryz.ntmps21
  go_wp2_with fail
  refine hf.mono ?_
  intro ev w9 hq
  have HE : Hid (BytQ w (rB r 4) ev w9) := BytQ.from_ HB.out hq
  obtain ⟨a9, c9, rfl, _, _⟩ := hq
  clear hf
  go_wp2_with fail
  go_ret
  exact HE.out
set_option maxRecDepth 100000 in
set_option maxHeartbeats 1000000 in
theorem rField_5 (r : Rec) (w : World)  : Calls Tryz.prog 21 #[.agg #[.int .i64 r.kd, .string r.ct, .slice r.tp r.tn r.tc, .bool r.e, .int .i64 r.a, .int .i64 r.p, .int .i64 r.nu, .int .i64 r.tk, .int .i64 r.st, .string r.cd, .slice r.cp r.cn r.cc, .slice r.ap r.an r.ac], .int .i64 5] w (BytQ w (rB r 5)) := by
  have bv := (Below.refl w.heap.size w).alloc (Nat.le_refl _) (.cells (#[.int .i64 r.kd, .string r.ct, .slice r.tp r.tn r.tc, .bool r.e, .int .i64 r.a, .int .i64 r.p, .int .i64 r.nu, .int .i64 r.tk, .int .i64 r.st, .string r.cd, .slice r.cp r.cn r.cc, .slice r.ap r.an r.ac]) 26)
  have cx := (Box.new w (#[.int .i64 r.kd, .string r.ct, .slice r.tp r.tn r.tc, .bool r.e, .int .i64 r.a, .int .i64 r.p, .int .i64 r.nu, .int .i64 r.tk, .int .i64 r.st, .string r.cd, .slice r.cp r.cn r.cc, .slice r.ap r.an r.ac]) 26).cell
  have hf := rEight_any (w := (w.alloc (.cells (#[.int .i64 r.kd, .string r.ct, .slice r.tp r.tn r.tc, .bool r.e, .int .i64 r.a, .int .i64 r.p, .int .i64 r.nu, .int .i64 r.tk, .int .i64 r.st, .string r.cd, .slice r.cp r.cn r.cc, .slice r.ap r.an r.ac]) 26))) r.nu
  have HB : Hid (Below w.heap.size w (w.alloc (.cells (#[.int .i64 r.kd, .string r.ct, .slice r.tp r.tn r.tc, .bool r.e, .int .i64 r.a, .int .i64 r.p, .int .i64 r.nu, .int .i64 r.tk, .int .i64 r.st, .string r.cd, .slice r.cp r.cn r.cc, .slice r.ap r.an r.ac]) 26))) := bv
  clear bv
  go_enter Tryz.func21, Tryz.ntmps21
  go_wp2_with fail
  refine hf.mono ?_
  intro ev w9 hq
  have HE : Hid (BytQ w (rB r 5) ev w9) := BytQ.from_ HB.out hq
  obtain ⟨a9, c9, rfl, _, _⟩ := hq
  clear hf
  go_wp2_with fail
  go_ret
  exact HE.out
set_option maxRecDepth 100000 in
set_option maxHeartbeats 1000000 in
theorem rField_6 (r : Rec) (w : World)  : Calls Tryz.prog 21 #[.agg #[.int .i64 r.kd, .string r.ct, .slice r.tp r.tn r.tc, .bool r.e, .int .i64 r.a, .int .i64 r.p, .int .i64 r.nu, .int .i64 r.tk, .int .i64 r.st, .string r.cd, .slice r.cp r.cn r.cc, .slice r.ap r.an r.ac], .int .i64 6] w (BytQ w (rB r 6)) := by
  have bv := (Below.refl w.heap.size w).alloc (Nat.le_refl _) (.cells (#[.int .i64 r.kd, .string r.ct, .slice r.tp r.tn r.tc, .bool r.e, .int .i64 r.a, .int .i64 r.p, .int .i64 r.nu, .int .i64 r.tk, .int .i64 r.st, .string r.cd, .slice r.cp r.cn r.cc, .slice r.ap r.an r.ac]) 26)
  have cx := (Box.new w (#[.int .i64 r.kd, .string r.ct, .slice r.tp r.tn r.tc, .bool r.e, .int .i64 r.a, .int .i64 r.p, .int .i64 r.nu, .int .i64 r.tk, .int .i64 r.st, .string r.cd, .slice r.cp r.cn r.cc, .slice r.ap r.an r.ac]) 26).cell
  have hf := rEight_any (w := (w.alloc (.cells (#[.int .i64 r.kd, .string r.ct, .slice r.tp r.tn r.tc, .bool r.e, .int .i64 r.a, .int .i64 r.p, .int .i64 r.nu, .int .i64 r.tk, .int .i64 r.st, .string r.cd, .slice r.cp r.cn r.cc, .slice r.ap r.an r.ac]) 26))) r.tk
  have HB : Hid (Below w.heap.size w (w.alloc (.cells (#[.int .i64 r.kd, .string r.ct, .slice r.tp r.tn r.tc, .bool r.e, .int .i64 r.a, .int .i64 r.p, .int .i64 r.nu, .int .i64 r.tk, .int .i64 r.st, .string r.cd, .slice r.cp r.cn r.cc, .slice r.ap r.an r.ac]) 26))) := bv
  clear bv
  go_enter Tryz.func21, Tryz.ntmps21
  go_wp2_with fail
  refine hf.mono ?_
  intro ev w9 hq
  have HE : Hid (BytQ w (rB r 6) ev w9) := BytQ.from_ HB.out hq
  obtain ⟨a9, c9, rfl, _, _⟩ := hq
  clear hf
  go_wp2_with fail
  go_ret
  exact HE.out
set_option maxRecDepth 100000 in
set_option maxHeartbeats 1000000 in
theorem rField_7 (r : Rec) (w : World)  : Calls Tryz.prog 21 #[.agg #[.int .i64 r.kd, .string r.ct, .slice r.tp r.tn r.tc, .bool r.e, .int .i64 r.a, .int .i64 r.p, .int .i64 r.nu, .int .i64 r.tk, .int .i64 r.st, .string r.cd, .slice r.cp r.cn r.cc, .slice r.ap r.an r.ac], .int .i64 7] w (BytQ w (rB r 7)) := by
  have bv := (Below.refl w.heap.size w).alloc (Nat.le_refl _) (.cells (#[.int .i64 r.kd, .string r.ct, .slice r.tp r.tn r.tc, .bool r.e, .int .i64 r.a, .int .i64 r.p, .int .i64 r.nu, .int .i64 r.tk, .int .i64 r.st, .string r.cd, .slice r.cp r.cn r.cc, .slice r.ap r.an r.ac]) 26)
  have cx := (Box.new w (#[.int .i64 r.kd, .string r.ct, .slice r.tp r.tn r.tc, .bool r.e, .int .i64 r.a, .int .i64 r.p, .int .i64 r.nu, .int .i64 r.tk, .int .i64 r.st, .string r.cd, .slice r.cp r.cn r.cc, .slice r.ap r.an r.ac]) 26).cell
  have hf := rEight_any (w := (w.alloc (.cells (#[.int .i64 r.kd, .string r.ct, .slice r.tp r.tn r.tc, .bool r.e, .int .i64 r.a, .int .i64 r.p, .int .i64 r.nu, .int .i64 r.tk, .int .i64 r.st, .string r.cd, .slice r.cp r.cn r.cc, .slice r.ap r.an r.ac]) 26))) r.st
  have HB : Hid (Below w.heap.size w (w.alloc (.cells (#[.int .i64 r.kd, .string r.ct, .slice r.tp r.tn r.tc, .bool r.e, .int .i64 r.a, .int .i64 r.p, .int .i64 r.nu, .int .i64 r.tk, .int .i64 r.st, .string r.cd, .slice r.cp r.cn r.cc, .slice r.ap r.an r.ac]) 26))) := bv
  clear bv
  go_enter Tryz.func21, Tryz.ntmps21
  go_wp2_with fail
  refine hf.mono ?_
  intro ev w9 hq
  have HE : Hid (BytQ w (rB r 7) ev w9) := BytQ.from_ HB.out hq
  obtain ⟨a9, c9, rfl, _, _⟩ := hq
  clear hf
  go_wp2_with fail
  go_ret
  exact HE.out
set_option maxRecDepth 100000 in
set_option maxHeartbeats 1000000 in
theorem rField_8 (r : Rec) (w : World) (hn : r.cd.size ≤ 100000) : Calls Tryz.prog 21 #[.agg #[.int .i64 r.kd, .string r.ct, .slice r.tp r.tn r.tc, .bool r.e, .int .i64 r.a, .int .i64 r.p, .int .i64 r.nu, .int .i64 r.tk, .int .i64 r.st, .string r.cd, .slice r.cp r.cn r.cc, .slice r.ap r.an r.ac], .int .i64 8] w (BytQ w (rB r 8)) := by
  have bv := (Below.refl w.heap.size w).alloc (Nat.le_refl _) (.cells (#[.int .i64 r.kd, .string r.ct, .slice r.tp r.tn r.tc, .bool r.e, .int .i64 r.a, .int .i64 r.p, .int .i64 r.nu, .int .i64 r.tk, .int .i64 r.st, .string r.cd, .slice r.cp r.cn r.cc, .slice r.ap r.an r.ac]) 26)
  have cx := (Box.new w (#[.int .i64 r.kd, .string r.ct, .slice r.tp r.tn r.tc, .bool r.e, .int .i64 r.a, .int .i64 r.p, .int .i64 r.nu, .int .i64 r.tk, .int .i64 r.st, .string r.cd, .slice r.cp r.cn r.cc, .slice r.ap r.an r.ac]) 26).cell
  have hcv : (convert 9 22 (.string r.cd)).run Tryz.prog (w.alloc (.cells (#[.int .i64 r.kd, .string r.ct, .slice r.tp r.tn r.tc, .bool r.e, .int .i64 r.a, .int .i64 r.p, .int .i64 r.nu, .int .i64 r.tk, .int .i64 r.st, .string r.cd, .slice r.cp r.cn r.cc, .slice r.ap r.an r.ac]) 26)) = _ := Lib.run_convert_string_bytes _ 9 22 5 r.cd Tryz.underlying9 Tryz.underlying22 Tryz.underlying5
  have b2 := below_then bv (below_conv (w.alloc (.cells (#[.int .i64 r.kd, .string r.ct, .slice r.tp r.tn r.tc, .bool r.e, .int .i64 r.a, .int .i64 r.p, .int .i64 r.nu, .int .i64 r.tk, .int .i64 r.st, .string r.cd, .slice r.cp r.cn r.cc, .slice r.ap r.an r.ac]) 26)) r.cd)
  have hf := rFour_any (c := grownCap (w.alloc (.cells (#[.int .i64 r.kd, .string r.ct, .slice r.tp r.tn r.tc, .bool r.e, .int .i64 r.a, .int .i64 r.p, .int .i64 r.nu, .int .i64 r.tk, .int .i64 r.st, .string r.cd, .slice r.cp r.cn r.cc, .slice r.ap r.an r.ac]) 26)) r.cd.size 0 5) (byts_conv (w.alloc (.cells (#[.int .i64 r.kd, .string r.ct, .slice r.tp r.tn r.tc, .bool r.e, .int .i64 r.a, .int .i64 r.p, .int .i64 r.nu, .int .i64 r.tk, .int .i64 r.st, .string r.cd, .slice r.cp r.cn r.cc, .slice r.ap r.an r.ac]) 26)) r.cd) hn
  rw [World.size_alloc] at hcv hf
  obtain ⟨W2, hW2⟩ : ∃ W2, Lib.bytesWorld (w.alloc (.cells (#[.int .i64 r.kd, .string r.ct, .slice r.tp r.tn r.tc, .bool r.e, .int .i64 r.a, .int .i64 r.p, .int .i64 r.nu, .int .i64 r.tk, .int .i64 r.st, .string r.cd, .slice r.cp r.cn r.cc, .slice r.ap r.an r.ac]) 26)) 5 r.cd = W2 := ⟨_, rfl⟩
  rw [hW2] at hcv hf b2
  obtain ⟨cap, hcap⟩ : ∃ c, grownCap (w.alloc (.cells (#[.int .i64 r.kd, .string r.ct, .slice r.tp r.tn r.tc, .bool r.e, .int .i64 r.a, .int .i64 r.p, .int .i64 r.nu, .int .i64 r.tk, .int .i64 r.st, .string r.cd, .slice r.cp r.cn r.cc, .slice r.ap r.an r.ac]) 26)) r.cd.size 0 5 = c := ⟨_, rfl⟩
  rw [hcap] at hcv hf
  have HB : Hid (Below w.heap.size w W2) := b2
  clear bv b2 hW2 hcap
  go_enter Tryz.func21, Tryz.ntmps21
  go_wp2_with fail
  refine hf.mono ?_
  intro ev w9 hq
  have HE : Hid (BytQ w (rB r 8) ev w9) := BytQ.from_ HB.out hq
  obtain ⟨a9, c9, rfl, _, _⟩ := hq
  generalize (numL (r.cd.size : Nat) 4 ++ strI r.cd).length = m9 at HE ⊢
  clear hf
  go_wp2_with fail
  go_ret
  exact HE.out
set_option maxRecDepth 100000 in
set_option maxHeartbeats 1000000 in
theorem rField_9 (r : Rec) (w : World) (h : LieR w r) (hn : r.cn ≤ 100000) : Calls Tryz.prog 21 #[.agg #[.int .i64 r.kd, .string r.ct, .slice r.tp r.tn r.tc, .bool r.e, .int .i64 r.a, .int .i64 r.p, .int .i64 r.nu, .int .i64 r.tk, .int .i64 r.st, .string r.cd, .slice r.cp r.cn r.cc, .slice r.ap r.an r.ac], .int .i64 9] w (BytQ w (rB r 9)) := by
  have bv := (Below.refl w.heap.size w).alloc (Nat.le_refl _) (.cells (#[.int .i64 r.kd, .string r.ct, .slice r.tp r.tn r.tc, .bool r.e, .int .i64 r.a, .int .i64 r.p, .int .i64 r.nu, .int .i64 r.tk, .int .i64 r.st, .string r.cd, .slice r.cp r.cn r.cc, .slice r.ap r.an r.ac]) 26)
  have cx := (Box.new w (#[.int .i64 r.kd, .string r.ct, .slice r.tp r.tn r.tc, .bool r.e, .int .i64 r.a, .int .i64 r.p, .int .i64 r.nu, .int .i64 r.tk, .int .i64 r.st, .string r.cd, .slice r.cp r.cn r.cc, .slice r.ap r.an r.ac]) 26).cell
  have hf := rFour_any (c := r.cc) (h.below bv).c hn
  have HB : Hid (Below w.heap.size w (w.alloc (.cells (#[.int .i64 r.kd, .string r.ct, .slice r.tp r.tn r.tc, .bool r.e, .int .i64 r.a, .int .i64 r.p, .int .i64 r.nu, .int .i64 r.tk, .int .i64 r.st, .string r.cd, .slice r.cp r.cn r.cc, .slice r.ap r.an r.ac]) 26))) := bv
  clear bv h
  go_enter Tryz.func21, Tryz.ntmps21
  go_wp2_with fail
  refine hf.mono ?_
  intro ev w9 hq
  have HE : Hid (BytQ w (rB r 9) ev w9) := BytQ.from_ HB.out hq
  obtain ⟨a9, c9, rfl, _, _⟩ := hq
  generalize (numL (r.cn : Nat) 4 ++ r.cx).length = m9 at HE ⊢
  clear hf
  go_wp2_with fail
  go_ret
  exact HE.out
set_option maxRecDepth 100000 in
set_option maxHeartbeats 1000000 in
theorem rField_10 (r : Rec) (w : World) (h : LieR w r) (hn : r.an ≤ 100000) : Calls Tryz.prog 21 #[.agg #[.int .i64 r.kd, .string r.ct, .slice r.tp r.tn r.tc, .bool r.e, .int .i64 r.a, .int .i64 r.p, .int .i64 r.nu, .int .i64 r.tk, .int .i64 r.st, .string r.cd, .slice r.cp r.cn r.cc, .slice r.ap r.an r.ac], .int .i64 10] w (BytQ w (rB r 10)) := by
  have bv := (Below.refl w.heap.size w).alloc (Nat.le_refl _) (.cells (#[.int .i64 r.kd, .string r.ct, .slice r.tp r.tn r.tc, .bool r.e, .int .i64 r.a, .int .i64 r.p, .int .i64 r.nu, .int .i64 r.tk, .int .i64 r.st, .string r.cd, .slice r.cp r.cn r.cc, .slice r.ap r.an r.ac]) 26)
  have cx := (Box.new w (#[.int .i64 r.kd, .string r.ct, .slice r.tp r.tn r.tc, .bool r.e, .int .i64 r.a, .int .i64 r.p, .int .i64 r.nu, .int .i64 r.tk, .int .i64 r.st, .string r.cd, .slice r.cp r.cn r.cc, .slice r.ap r.an r.ac]) 26).cell
  have hf := rFour_any (c := r.ac) (h.below bv).a hn
  have HB : Hid (Below w.heap.size w (w.alloc (.cells (#[.int .i64 r.kd, .string r.ct, .slice r.tp r.tn r.tc, .bool r.e, .int .i64 r.a, .int .i64 r.p, .int .i64 r.nu, .int .i64 r.tk, .int .i64 r.st, .string r.cd, .slice r.cp r.cn r.cc, .slice r.ap r.an r.ac]) 26))) := bv
  clear bv h
  go_enter Tryz.func21, Tryz.ntmps21
  go_wp2_with fail
  refine hf.mono ?_
  intro ev w9 hq
  have HE : Hid (BytQ w (rB r 10) ev w9) := BytQ.from_ HB.out hq
  obtain ⟨a9, c9, rfl, _, _⟩ := hq
  generalize (numL (r.an : Nat) 4 ++ r.ax).length = m9 at HE ⊢
  clear hf
  go_wp2_with fail
  go_ret
  exact HE.out
theorem rField_any (r : Rec) {f : Nat} (h2 : 2 ≤ f) (h10 : f ≤ 10) (w : World) (h : LieR w r) (hs : (f = 2 → r.ct.size ≤ 100000) ∧ (f = 3 → r.tn ≤ 100000) ∧ (f = 8 → r.cd.size ≤ 100000) ∧ (f = 9 → r.cn ≤ 100000) ∧ (f = 10 → r.an ≤ 100000)) : Calls Tryz.prog 21 #[.agg #[.int .i64 r.kd, .string r.ct, .slice r.tp r.tn r.tc, .bool r.e, .int .i64 r.a, .int .i64 r.p, .int .i64 r.nu, .int .i64 r.tk, .int .i64 r.st, .string r.cd, .slice r.cp r.cn r.cc, .slice r.ap r.an r.ac], .int .i64 (f : Int)] w (BytQ w (rB r f)) := by
  rcases nine2 h2 h10 with rfl | rfl | rfl | rfl | rfl | rfl | rfl | rfl | rfl
  · exact rField_2 r w (hs.1 rfl)
  · exact rField_3 r w h (hs.2.1 rfl)
  · exact rField_4 r w
  · exact rField_5 r w
  · exact rField_6 r w
  · exact rField_7 r w
  · exact rField_8 r w (hs.2.2.1 rfl)
  · exact rField_9 r w h (hs.2.2.2.1 rfl)
  · exact rField_10 r w h (hs.2.2.2.2 rfl)
end Go.Proofs.YtdjjologpodnkaaGreatDoor
