import Derived.Test.YtoijhecphgdfnaaGreatDoorOxRef
/-
  next, find, underWay, put of a box.
-/
namespace Go.Proofs.YtoijhecphgdfnaaGreatDoor
open Go.RowKit

theorem nextS_some {sq : Bool} {m : Msg} : ∀ {ms : List Msg}, nextS sq ms = some m → ∃ J, ms[J]? = some m ∧ m.un = false ∧ (∀ j m', j < J → ms[j]? = some m' → m'.un = true) ∧ (0 < J → sq = false)
  | [], h => by cases h
  | x :: r, h => by
    unfold nextS at h
    by_cases hu : x.un = true
    · rw [if_pos hu] at h
      cases sq with
      | true => cases h
      | false =>
        obtain ⟨J, h1, h2, h3, h4⟩ := nextS_some (ms := r) h
        refine ⟨J + 1, by simpa using h1, h2, fun j m' hj hm => ?_, fun _ => rfl⟩
        cases j with
        | zero => simp only [List.getElem?_cons_zero, Option.some.injEq] at hm; rw [← hm]; exact hu
        | succ j => exact h3 j m' (by omega) (by simpa using hm)
    · rw [if_neg hu] at h
      simp only [Option.some.injEq] at h
      subst h
      exact ⟨0, rfl, by simpa using hu, fun j _ hj => by omega, fun h => by omega⟩
theorem nextS_none {sq : Bool} : ∀ {ms : List Msg}, nextS sq ms = none → ∀ j m', ms[j]? = some m' → (j = 0 ∨ sq = false) → m'.un = true
  | [], _, j, m', hm, _ => by simp at hm
  | x :: r, h, j, m', hm, hj => by
    unfold nextS at h
    by_cases hu : x.un = true
    · rw [if_pos hu] at h
      cases j with
      | zero => simp only [List.getElem?_cons_zero, Option.some.injEq] at hm; rw [← hm]; exact hu
      | succ j =>
        rcases hj with hj | hj
        · omega
        · subst hj
          exact nextS_none (ms := r) h j m' (by simpa using hm) (Or.inr rfl)
    · rw [if_neg hu] at h; cases h
section
variable {w w' : World} {b kb : Nat} {v : Value} {sq : Bool} {tr : Int} {ms : List Msg}
set_option maxRecDepth 100000 in
set_option maxHeartbeats 4000000 in
theorem next_yes {m : Msg} (h : Bx w b kb v sq tr ms) (hn : nextS sq ms = some m) : Calls Tryz.prog 54 #[.pointer (some ⟨b, 0, none⟩)] w fun e w' => e = .returned (.tuple #[.agg #[.string m.ct, .slice m.tp m.tn m.tc, .bool m.e, .int .i64 m.a, .int .i64 m.p, .int .i64 m.nu, .bool m.nt, .int .i64 m.st, .int .i64 m.lf, .bool m.un], .bool true]) ∧ Below w.heap.size w w' := by
  obtain ⟨J, hJ, hJu, hJb, hJs⟩ := nextS_some hn
  have hJl := (List.getElem?_eq_some_iff.1 hJ).1
  have bv : Below w.heap.size w (w.alloc (.cells #[.string ⟨#[]⟩, .slice none 0 0, .bool false, .int .i64 0, .int .i64 0, .int .i64 0, .bool false, .int .i64 0, .int .i64 0, .bool false] 91)) := (Below.refl _ _).alloc (Nat.le_refl _) _
  have bx := Box.new w #[.string ⟨#[]⟩, .slice none 0 0, .bool false, .int .i64 0, .int .i64 0, .int .i64 0, .bool false, .int .i64 0, .int .i64 0, .bool false] 91
  obtain ⟨a, c, rfl, _⟩ := h.2.1.2.1.isSlice
  obtain ⟨n, hnn⟩ : ∃ n, ms.length = n := ⟨_, rfl⟩
  have q2 : n ≤ 32 := by rw [← hnn]; exact h.2.1.2.2
  rw [hnn] at h hJl
  have HL : Hid (ms.length = n) := hnn
  have HH : Hid (Bx (w.alloc (.cells #[.string ⟨#[]⟩, .slice none 0 0, .bool false, .int .i64 0, .int .i64 0, .int .i64 0, .bool false, .int .i64 0, .int .i64 0, .bool false] 91)) b kb (.slice a n c) sq tr ms) := h.below bv
  have hbl := h.lt
  have hkl := blk_lt h.2.1.1
  have c0 := hcell h.1 0
  have k1 := hcell h.2.1.1 1
  have HJ : Hid (ms[J]? = some m ∧ m.un = false ∧ (∀ j m', j < J → ms[j]? = some m' → m'.un = true) ∧ (0 < J → sq = false)) := ⟨hJ, hJu, hJb, hJs⟩
  clear hn h hnn hJ hJu hJb hJs
  go_enter Tryz.func54, Tryz.ntmps54
  go_wp2_with fail
  obtain ⟨V, hW⟩ : ∃ V, w.alloc (.cells #[.string ⟨#[]⟩, .slice none 0 0, .bool false, .int .i64 0, .int .i64 0, .int .i64 0, .bool false, .int .i64 0, .int .i64 0, .bool false] 91) = V := ⟨_, rfl⟩
  rw [hW] at bv bx HH ⊢
  clear hW
  have HB0 : Hid (Below w.heap.size w V ∧ Box V w.heap.size #[.string ⟨#[]⟩, .slice none 0 0, .bool false, .int .i64 0, .int .i64 0, .int .i64 0, .bool false, .int .i64 0, .int .i64 0, .bool false]) := ⟨bv, bx⟩
  clear bv bx c0 k1 hbl hkl
  go_loopw [14] (fun t wx => ∃ i : Nat, i ≤ J ∧ t = .int .i64 i ∧ Hid (Below V.heap.size V wx)) (fun t _ => n - (intOf t).toNat)
  case atStart => exact ⟨0, Nat.zero_le _, rfl, Below.refl _ _⟩
  case round =>
    obtain ⟨i, hi, rfl, HB⟩ := hrel
    have hlt : i < n := by omega
    have hlt1 : (i : Int) < n := by omega
    have HHr : Hid (Bx wr b kb (.slice a n c) sq tr ms) := HH.out.below HB.out
    obtain ⟨x, hx⟩ : ∃ x, ms[i]? = some x := ⟨_, List.getElem?_eq_getElem (by rw [HL.out]; exact hlt)⟩
    have HX : Hid (ms[i]? = some x) := hx
    obtain ⟨g, rfl, hg, hc⟩ := erow_cells HHr.out.2.1.2.1 hx
    obtain ⟨d0, d1, d2, d3, d4, d5, d6, d7, d8, d9⟩ := hc
    have s1 := hcell HHr.out.1 1
    have hbr := HHr.out.lt
    have x1 := HB0.out.2.below HB.out
    have cx := x1.cell
    have fx := x1.free
    have lx := x1.lt
    clear hx
    by_cases hiJ : i < J
    · have hu : x.un = true := HJ.out.2.2.1 i x hiJ HX.out
      have hsq : sq = false := HJ.out.2.2.2 (by omega)
      rw [hu] at d9
      subst hsq
      have HR : Hid (Below V.heap.size V (wr.alloc (.cells #[.string x.ct, .slice x.tp x.tn x.tc, .bool x.e, .int .i64 x.a, .int .i64 x.p, .int .i64 x.nu, .bool x.nt, .int .i64 x.st, .int .i64 x.lf, .bool true] 91))) := bl_alloc HB.out _
      clear hu x1
      go_wp2_with fail
      go_roundw
      case rel => exact ⟨i + 1, hiJ, by go_num, HR⟩
      case measure => simp [intOf]; omega
    · have hij : i = J := by omega
      subst hij
      obtain rfl : x = m := by have := HX.out; rw [HJ.out.1] at this; exact (Option.some.inj this).symm
      have hu : x.un = false := HJ.out.2.1
      have HU : Hid (x.un = false) := hu
      rw [hu] at d9
      clear hu x1
      go_wp2_with fail
      refine bodyPost_ret ?_ rfl ⟨rfl, ?_⟩
      · simp [results, Tryz.results54, go_sem, cx, lx, HU.out]
      · refine Below.alloc ?_ (by simp; omega) _
        iterate 10 (refine Below.setCell ?_ (by exact Nat.le_refl _) _)
        exact below_then HB0.out.1 HB.out
end
end Go.Proofs.YtoijhecphgdfnaaGreatDoor

/-
  next of a box that tells none.
-/
namespace Go.Proofs.YtoijhecphgdfnaaGreatDoor
open Go.RowKit

section
variable {w w' : World} {b kb : Nat} {v : Value} {sq : Bool} {tr : Int} {ms : List Msg}
set_option maxRecDepth 100000 in
set_option maxHeartbeats 4000000 in
theorem next_no (h : Bx w b kb v sq tr ms) (hn : nextS sq ms = none) : Calls Tryz.prog 54 #[.pointer (some ⟨b, 0, none⟩)] w fun e w' => e = .returned (.tuple #[.agg #[.string ⟨#[]⟩, .slice none 0 0, .bool false, .int .i64 0, .int .i64 0, .int .i64 0, .bool false, .int .i64 0, .int .i64 0, .bool false], .bool false]) ∧ Below w.heap.size w w' := by
  have bv : Below w.heap.size w (w.alloc (.cells #[.string ⟨#[]⟩, .slice none 0 0, .bool false, .int .i64 0, .int .i64 0, .int .i64 0, .bool false, .int .i64 0, .int .i64 0, .bool false] 91)) := (Below.refl _ _).alloc (Nat.le_refl _) _
  have bx := Box.new w #[.string ⟨#[]⟩, .slice none 0 0, .bool false, .int .i64 0, .int .i64 0, .int .i64 0, .bool false, .int .i64 0, .int .i64 0, .bool false] 91
  obtain ⟨a, c, rfl, _⟩ := h.2.1.2.1.isSlice
  obtain ⟨n, hnn⟩ : ∃ n, ms.length = n := ⟨_, rfl⟩
  have q2 : n ≤ 32 := by rw [← hnn]; exact h.2.1.2.2
  rw [hnn] at h
  have HL : Hid (ms.length = n) := hnn
  have HH : Hid (Bx (w.alloc (.cells #[.string ⟨#[]⟩, .slice none 0 0, .bool false, .int .i64 0, .int .i64 0, .int .i64 0, .bool false, .int .i64 0, .int .i64 0, .bool false] 91)) b kb (.slice a n c) sq tr ms) := h.below bv
  have hbl := h.lt
  have hkl := blk_lt h.2.1.1
  have c0 := hcell h.1 0
  have k1 := hcell h.2.1.1 1
  have HJ : Hid (∀ j m', ms[j]? = some m' → (j = 0 ∨ sq = false) → m'.un = true) := nextS_none hn
  clear hn h hnn
  go_enter Tryz.func54, Tryz.ntmps54
  go_wp2_with fail
  obtain ⟨V, hW⟩ : ∃ V, w.alloc (.cells #[.string ⟨#[]⟩, .slice none 0 0, .bool false, .int .i64 0, .int .i64 0, .int .i64 0, .bool false, .int .i64 0, .int .i64 0, .bool false] 91) = V := ⟨_, rfl⟩
  rw [hW] at bv bx HH ⊢
  clear hW
  have HB0 : Hid (Below w.heap.size w V ∧ Box V w.heap.size #[.string ⟨#[]⟩, .slice none 0 0, .bool false, .int .i64 0, .int .i64 0, .int .i64 0, .bool false, .int .i64 0, .int .i64 0, .bool false]) := ⟨bv, bx⟩
  clear bv bx c0 k1 hbl hkl
  go_loopw [14] (fun t wx => ∃ i : Nat, i ≤ n ∧ t = .int .i64 i ∧ (i = 0 ∨ sq = false) ∧ Hid (Below V.heap.size V wx)) (fun t _ => n - (intOf t).toNat)
  case atStart => exact ⟨0, Nat.zero_le _, rfl, Or.inl rfl, Below.refl _ _⟩
  case round =>
    obtain ⟨i, hi, rfl, hor, HB⟩ := hrel
    have HO : Hid (i = 0 ∨ sq = false) := hor
    clear hor
    have HHr : Hid (Bx wr b kb (.slice a n c) sq tr ms) := HH.out.below HB.out
    have s1 := hcell HHr.out.1 1
    have hbr := HHr.out.lt
    have x1 := HB0.out.2.below HB.out
    have cx := x1.cell
    have fx := x1.free
    have lx := x1.lt
    by_cases hlt : i < n
    · have hlt1 : (i : Int) < n := by omega
      obtain ⟨x, hx⟩ : ∃ x, ms[i]? = some x := ⟨_, List.getElem?_eq_getElem (by rw [HL.out]; exact hlt)⟩
      have hu : x.un = true := HJ.out i x hx HO.out
      obtain ⟨g, rfl, hg, hc⟩ := erow_cells HHr.out.2.1.2.1 hx
      obtain ⟨d0, d1, d2, d3, d4, d5, d6, d7, d8, d9⟩ := hc
      rw [hu] at d9
      clear hx x1 hu
      cases sq with
      | false =>
        have HR : Hid (Below V.heap.size V (wr.alloc (.cells #[.string x.ct, .slice x.tp x.tn x.tc, .bool x.e, .int .i64 x.a, .int .i64 x.p, .int .i64 x.nu, .bool x.nt, .int .i64 x.st, .int .i64 x.lf, .bool true] 91))) := bl_alloc HB.out _
        go_wp2_with fail
        go_roundw
        case rel => exact ⟨i + 1, hlt, by go_num, Or.inr (by trivial), HR⟩
        case measure => simp [intOf]; omega
      | true =>
        go_wp2_with fail
        refine bodyPost_ret ?_ rfl ⟨rfl, ?_⟩
        · simp [results, Tryz.results54, go_sem, cx, lx]
        · refine Below.alloc ?_ (by simp; omega) _
          iterate 10 (refine Below.setCell ?_ (by exact Nat.le_refl _) _)
          exact below_then HB0.out.1 HB.out
    · have hlt1 : ¬ (i : Int) < n := by omega
      clear x1
      go_wp2_with fail
      refine bodyPost_ret ?_ rfl ⟨rfl, ?_⟩
      · simp [results, Tryz.results54, go_sem, cx]
      · iterate 10 (refine Below.setCell ?_ (by exact Nat.le_refl _) _)
        exact below_then HB0.out.1 HB.out
end
end Go.Proofs.YtoijhecphgdfnaaGreatDoor

/-
  find and underWay of a box; a message put in.
-/
namespace Go.Proofs.YtoijhecphgdfnaaGreatDoor
open Go.RowKit

section
variable {w w' : World} {b kb : Nat} {v : Value} {sq : Bool} {tr : Int} {ms : List Msg}
set_option maxRecDepth 100000 in
set_option maxHeartbeats 2000000 in
theorem bfind_yes {m : Msg} {i : Nat} (h : Bx w b kb v sq tr ms) (s : ByteArray) (hf : fi s ms = some i) (hm : ms[i]? = some m) : Calls Tryz.prog 68 #[.pointer (some ⟨b, 0, none⟩), .string s] w fun e w' => e = .returned (.tuple #[.agg #[.string m.ct, .slice m.tp m.tn m.tc, .bool m.e, .int .i64 m.a, .int .i64 m.p, .int .i64 m.nu, .bool m.nt, .int .i64 m.st, .int .i64 m.lf, .bool m.un], .nilIface]) ∧ Below w.heap.size w w' := by
  have bv : Below w.heap.size w (w.alloc (.cells #[.string ⟨#[]⟩, .slice none 0 0, .bool false, .int .i64 0, .int .i64 0, .int .i64 0, .bool false, .int .i64 0, .int .i64 0, .bool false] 91)) := (Below.refl _ _).alloc (Nat.le_refl _) _
  have bx := Box.new w #[.string ⟨#[]⟩, .slice none 0 0, .bool false, .int .i64 0, .int .i64 0, .int .i64 0, .bool false, .int .i64 0, .int .i64 0, .bool false] 91
  have hmk := made_yes (h.below bv)
  have hkf := kfind_yes (h.below bv).2.1 s hf hm
  have c0 := hcell (h.below bv).1 0
  have hl := (h.below bv).lt
  clear h hf hm
  go_enter Tryz.func68, Tryz.ntmps68
  go_wp2_with fail
  obtain ⟨V, hW⟩ : ∃ V, w.alloc (.cells #[.string ⟨#[]⟩, .slice none 0 0, .bool false, .int .i64 0, .int .i64 0, .int .i64 0, .bool false, .int .i64 0, .int .i64 0, .bool false] 91) = V := ⟨_, rfl⟩
  rw [hW] at bv bx hmk hkf c0 hl ⊢
  clear hW
  have HB0 : Hid (Below w.heap.size w V ∧ Box V w.heap.size #[.string ⟨#[]⟩, .slice none 0 0, .bool false, .int .i64 0, .int .i64 0, .int .i64 0, .bool false, .int .i64 0, .int .i64 0, .bool false]) := ⟨bv, bx⟩
  clear bv bx
  refine hmk.mono ?_
  rintro _ w9 ⟨rfl, h9⟩
  subst w9
  clear hmk
  go_wp2_with fail
  refine hkf.mono ?_
  rintro _ w1 ⟨rfl, hb1⟩
  have HB1 : Hid (Below w.heap.size w w1) := below_then HB0.out.1 hb1
  have x1 := HB0.out.2.below hb1
  have cx := x1.cell
  have fx := x1.free
  have lx := x1.lt
  clear hkf hb1 c0 hl x1
  go_wp2_with fail
  refine bodyPost_ret ?_ rfl ⟨rfl, ?_⟩
  · simp [results, Tryz.results68, go_sem, cx, lx]
  · refine Below.alloc ?_ (by simp; omega) _
    iterate 10 (refine Below.setCell ?_ (by exact Nat.le_refl _) _)
    exact HB1.out
/-- A fault told with a zero message. -/
def ZFl (w : World) (code : Int) (e : Ending) (w' : World) : Prop := ∃ z, e = .returned (.tuple #[.agg #[.string ⟨#[]⟩, .slice none 0 0, .bool false, .int .i64 0, .int .i64 0, .int .i64 0, .bool false, .int .i64 0, .int .i64 0, .bool false], .iface 122 (.pointer (some ⟨z, 0, none⟩))]) ∧ w.heap.size ≤ z ∧ OFault w' z 0 code ∧ Below w.heap.size w w'
set_option maxRecDepth 100000 in
set_option maxHeartbeats 2000000 in
theorem bfind_no (h : Bx w b kb v sq tr ms) (s : ByteArray) (hf : fi s ms = none) : Calls Tryz.prog 68 #[.pointer (some ⟨b, 0, none⟩), .string s] w (ZFl w 11) := by
  have bv : Below w.heap.size w (w.alloc (.cells #[.string ⟨#[]⟩, .slice none 0 0, .bool false, .int .i64 0, .int .i64 0, .int .i64 0, .bool false, .int .i64 0, .int .i64 0, .bool false] 91)) := (Below.refl _ _).alloc (Nat.le_refl _) _
  have bx := Box.new w #[.string ⟨#[]⟩, .slice none 0 0, .bool false, .int .i64 0, .int .i64 0, .int .i64 0, .bool false, .int .i64 0, .int .i64 0, .bool false] 91
  have hmk := made_yes (h.below bv)
  have hkf := kfind_no (h.below bv).2.1 s hf
  have c0 := hcell (h.below bv).1 0
  have hl := (h.below bv).lt
  clear h hf
  go_enter Tryz.func68, Tryz.ntmps68
  go_wp2_with fail
  obtain ⟨V, hW⟩ : ∃ V, w.alloc (.cells #[.string ⟨#[]⟩, .slice none 0 0, .bool false, .int .i64 0, .int .i64 0, .int .i64 0, .bool false, .int .i64 0, .int .i64 0, .bool false] 91) = V := ⟨_, rfl⟩
  rw [hW] at bv bx hmk hkf c0 hl ⊢
  clear hW
  have HB0 : Hid (Below w.heap.size w V ∧ Box V w.heap.size #[.string ⟨#[]⟩, .slice none 0 0, .bool false, .int .i64 0, .int .i64 0, .int .i64 0, .bool false, .int .i64 0, .int .i64 0, .bool false]) := ⟨bv, bx⟩
  clear bv bx
  refine hmk.mono ?_
  rintro _ w9 ⟨rfl, h9⟩
  subst w9
  clear hmk
  go_wp2_with fail
  refine hkf.mono ?_
  rintro _ w1 ⟨rfl, hb1⟩
  have HB1 : Hid (Below w.heap.size w w1) := below_then HB0.out.1 hb1
  have x1 := HB0.out.2.below hb1
  have lx := x1.lt
  have HX1 : Hid (Box w1 w.heap.size #[.string ⟨#[]⟩, .slice none 0 0, .bool false, .int .i64 0, .int .i64 0, .int .i64 0, .bool false, .int .i64 0, .int .i64 0, .bool false]) := x1
  clear hkf hb1 c0 hl x1
  go_wp2_with fail
  refine (fault_any _ _ _).mono ?_
  rintro _ w2 ⟨rfl, hf2, hb2⟩
  have x2 := (HX1.out.alloc _).below hb2
  have cx := x2.cell
  have fx := x2.free
  have lx2 := x2.lt
  have HE : Hid (OFault w2 (w1.heap.size + 1) 0 11 ∧ Below w.heap.size w w2) := ⟨by simpa using hf2, below_then (HB1.out.alloc HB1.out.size _) hb2⟩
  clear hf2 hb2 x2
  go_wp2_with fail
  refine bodyPost_ret ?_ rfl ⟨w1.heap.size + 1, rfl, by omega, ?_, ?_⟩
  · simp [results, Tryz.results68, go_sem, cx]
  · refine OFault.keep HE.out.1 fun o => ?_
    have hne : ∀ q : Nat, (⟨w.heap.size, q, none⟩ : Addr) ≠ ⟨w1.heap.size + 1, o, none⟩ := fun q e => by injection e; omega
    iterate 10 (rw [World.cell?_setCell_other _ _ _ _ (hne _)])
  · iterate 10 (refine Below.setCell ?_ (by exact Nat.le_refl _) _)
    exact HE.out.2
set_option maxRecDepth 100000 in
set_option maxHeartbeats 2000000 in
theorem under_yes {m : Msg} {i : Nat} (h : Bx w b kb v sq tr ms) (s : ByteArray) (hf : fi s ms = some i) (hm : ms[i]? = some m) (hu : m.un = true) : Calls Tryz.prog 63 #[.pointer (some ⟨b, 0, none⟩), .string s] w fun e w' => e = .returned (.tuple #[.agg #[.string m.ct, .slice m.tp m.tn m.tc, .bool m.e, .int .i64 m.a, .int .i64 m.p, .int .i64 m.nu, .bool m.nt, .int .i64 m.st, .int .i64 m.lf, .bool m.un], .nilIface]) ∧ Below w.heap.size w w' := by
  have bv : Below w.heap.size w (w.alloc (.cells #[.string ⟨#[]⟩, .slice none 0 0, .bool false, .int .i64 0, .int .i64 0, .int .i64 0, .bool false, .int .i64 0, .int .i64 0, .bool false] 91)) := (Below.refl _ _).alloc (Nat.le_refl _) _
  have bx := Box.new w #[.string ⟨#[]⟩, .slice none 0 0, .bool false, .int .i64 0, .int .i64 0, .int .i64 0, .bool false, .int .i64 0, .int .i64 0, .bool false] 91
  have hkf := bfind_yes (h.below bv) s hf hm
  rw [hu] at hkf ⊢
  clear h hf hm hu
  go_enter Tryz.func63, Tryz.ntmps63
  go_wp2_with fail
  obtain ⟨V, hW⟩ : ∃ V, w.alloc (.cells #[.string ⟨#[]⟩, .slice none 0 0, .bool false, .int .i64 0, .int .i64 0, .int .i64 0, .bool false, .int .i64 0, .int .i64 0, .bool false] 91) = V := ⟨_, rfl⟩
  rw [hW] at bv bx hkf ⊢
  clear hW
  have HB0 : Hid (Below w.heap.size w V ∧ Box V w.heap.size #[.string ⟨#[]⟩, .slice none 0 0, .bool false, .int .i64 0, .int .i64 0, .int .i64 0, .bool false, .int .i64 0, .int .i64 0, .bool false]) := ⟨bv, bx⟩
  clear bv bx
  refine hkf.mono ?_
  rintro _ w1 ⟨rfl, hb1⟩
  have HB1 : Hid (Below w.heap.size w w1) := below_then HB0.out.1 hb1
  have x1 := HB0.out.2.below hb1
  have cx := x1.cell
  have fx := x1.free
  have lx := x1.lt
  clear hkf hb1 x1
  go_wp2_with fail
  refine bodyPost_ret ?_ rfl ⟨rfl, ?_⟩
  · simp [results, Tryz.results63, go_sem, cx, lx]
  · refine Below.alloc ?_ (by simp; omega) _
    iterate 10 (refine Below.setCell ?_ (by exact Nat.le_refl _) _)
    exact HB1.out
set_option maxRecDepth 100000 in
set_option maxHeartbeats 2000000 in
theorem under_not {m : Msg} {i : Nat} (h : Bx w b kb v sq tr ms) (s : ByteArray) (hf : fi s ms = some i) (hm : ms[i]? = some m) (hu : m.un = false) : Calls Tryz.prog 63 #[.pointer (some ⟨b, 0, none⟩), .string s] w (ZFl w 281) := by
  have bv : Below w.heap.size w (w.alloc (.cells #[.string ⟨#[]⟩, .slice none 0 0, .bool false, .int .i64 0, .int .i64 0, .int .i64 0, .bool false, .int .i64 0, .int .i64 0, .bool false] 91)) := (Below.refl _ _).alloc (Nat.le_refl _) _
  have bx := Box.new w #[.string ⟨#[]⟩, .slice none 0 0, .bool false, .int .i64 0, .int .i64 0, .int .i64 0, .bool false, .int .i64 0, .int .i64 0, .bool false] 91
  have hkf := bfind_yes (h.below bv) s hf hm
  rw [hu] at hkf
  clear h hf hm hu
  go_enter Tryz.func63, Tryz.ntmps63
  go_wp2_with fail
  obtain ⟨V, hW⟩ : ∃ V, w.alloc (.cells #[.string ⟨#[]⟩, .slice none 0 0, .bool false, .int .i64 0, .int .i64 0, .int .i64 0, .bool false, .int .i64 0, .int .i64 0, .bool false] 91) = V := ⟨_, rfl⟩
  rw [hW] at bv bx hkf ⊢
  clear hW
  have HB0 : Hid (Below w.heap.size w V ∧ Box V w.heap.size #[.string ⟨#[]⟩, .slice none 0 0, .bool false, .int .i64 0, .int .i64 0, .int .i64 0, .bool false, .int .i64 0, .int .i64 0, .bool false]) := ⟨bv, bx⟩
  clear bv bx
  refine hkf.mono ?_
  rintro _ w1 ⟨rfl, hb1⟩
  have HB1 : Hid (Below w.heap.size w w1) := below_then HB0.out.1 hb1
  have x1 := HB0.out.2.below hb1
  have lx := x1.lt
  have HX1 : Hid (Box w1 w.heap.size #[.string ⟨#[]⟩, .slice none 0 0, .bool false, .int .i64 0, .int .i64 0, .int .i64 0, .bool false, .int .i64 0, .int .i64 0, .bool false]) := x1
  clear hkf hb1 x1
  go_wp2_with fail
  refine (fault_any _ _ _).mono ?_
  rintro _ w2 ⟨rfl, hf2, hb2⟩
  have x2 := (HX1.out.alloc _).below hb2
  have cx := x2.cell
  have fx := x2.free
  have lx2 := x2.lt
  have HE : Hid (OFault w2 (w1.heap.size + 1) 0 281 ∧ Below w.heap.size w w2) := ⟨by simpa using hf2, below_then (HB1.out.alloc HB1.out.size _) hb2⟩
  clear hf2 hb2 x2
  go_wp2_with fail
  refine bodyPost_ret ?_ rfl ⟨w1.heap.size + 1, rfl, by omega, ?_, ?_⟩
  · simp [results, Tryz.results63, go_sem, cx]
  · refine OFault.keep HE.out.1 fun o => ?_
    have hne : ∀ q : Nat, (⟨w.heap.size, q, none⟩ : Addr) ≠ ⟨w1.heap.size + 1, o, none⟩ := fun q e => by injection e; omega
    iterate 10 (rw [World.cell?_setCell_other _ _ _ _ (hne _)])
  · iterate 10 (refine Below.setCell ?_ (by exact Nat.le_refl _) _)
    exact HE.out.2
set_option maxRecDepth 100000 in
set_option maxHeartbeats 2000000 in
theorem under_no (h : Bx w b kb v sq tr ms) (s : ByteArray) (hf : fi s ms = none) : Calls Tryz.prog 63 #[.pointer (some ⟨b, 0, none⟩), .string s] w (ZFl w 11) := by
  have bv : Below w.heap.size w (w.alloc (.cells #[.string ⟨#[]⟩, .slice none 0 0, .bool false, .int .i64 0, .int .i64 0, .int .i64 0, .bool false, .int .i64 0, .int .i64 0, .bool false] 91)) := (Below.refl _ _).alloc (Nat.le_refl _) _
  have bx := Box.new w #[.string ⟨#[]⟩, .slice none 0 0, .bool false, .int .i64 0, .int .i64 0, .int .i64 0, .bool false, .int .i64 0, .int .i64 0, .bool false] 91
  have hkf := bfind_no (h.below bv) s hf
  clear h hf
  go_enter Tryz.func63, Tryz.ntmps63
  go_wp2_with fail
  obtain ⟨V, hW⟩ : ∃ V, w.alloc (.cells #[.string ⟨#[]⟩, .slice none 0 0, .bool false, .int .i64 0, .int .i64 0, .int .i64 0, .bool false, .int .i64 0, .int .i64 0, .bool false] 91) = V := ⟨_, rfl⟩
  rw [hW] at bv bx hkf ⊢
  clear hW
  have HB0 : Hid (Below w.heap.size w V ∧ Box V w.heap.size #[.string ⟨#[]⟩, .slice none 0 0, .bool false, .int .i64 0, .int .i64 0, .int .i64 0, .bool false, .int .i64 0, .int .i64 0, .bool false]) := ⟨bv, bx⟩
  clear bv bx
  refine hkf.mono ?_
  rintro _ w1 ⟨z, rfl, hz, hfl, hb1⟩
  have x1 := HB0.out.2.below hb1
  have lx := x1.lt
  have cx := x1.cell
  have fx := x1.free
  have hzl : z < w1.heap.size := cell_lt hfl.1
  have hzV : w.heap.size < z := Nat.lt_of_lt_of_le HB0.out.2.lt hz
  have HE : Hid (OFault w1 z 0 11 ∧ Below w.heap.size w w1) := ⟨hfl, below_then HB0.out.1 hb1⟩
  clear hkf hb1 x1 hfl hz
  go_wp2_with fail
  refine bodyPost_ret ?_ rfl ⟨z, rfl, by omega, ?_, ?_⟩
  · simp [results, Tryz.results63, go_sem, cx, lx]
  · refine OFault.keep HE.out.1 fun o => ?_
    rw [World.cell?_alloc_lt _ _ ⟨z, o, none⟩ (by simp; omega)]
    have hne : ∀ q : Nat, (⟨w.heap.size, q, none⟩ : Addr) ≠ ⟨z, o, none⟩ := fun q e => by injection e; omega
    iterate 10 (rw [World.cell?_setCell_other _ _ _ _ (hne _)])
  · refine Below.alloc ?_ (by simp; omega) _
    iterate 10 (refine Below.setCell ?_ (by exact Nat.le_refl _) _)
    exact HE.out.2
end
end Go.Proofs.YtoijhecphgdfnaaGreatDoor
