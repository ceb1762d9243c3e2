import Derived.Test.YtoijhecphgdfnaaGreatDoorOxGet
import Derived.Test.YtoijhecphgdfnaaGreatDoorOxList
/-
  Next, Get.
-/
namespace Go.Proofs.YtoijhecphgdfnaaGreatDoor
open Go.RowKit

theorem field_out (c0 c1 c2 c3 c4 c5 c6 c7 c8 c9 : Value) (w : World) : (Instr.field 91 (.agg #[c0, c1, c2, c3, c4, c5, c6, c7, c8, c9]) 0).run Tryz.prog w = .ok (.agg #[c0, c1, c2, c3, c4, c5, c6]) w := by kernel_rfl
section
variable {w w' : World} {b kb : Nat} {v : Value} {sq : Bool} {tr : Int} {ms : List Msg}
set_option maxRecDepth 100000 in
set_option maxHeartbeats 2000000 in
theorem nextC_yes {m : Msg} (h : Bx w b kb v sq tr ms) (hn : nextS sq ms = some m) : Calls Tryz.prog 18 #[.pointer (some ⟨b, 0, none⟩)] w fun e w' => ∃ a c, e = .returned (.tuple #[.agg #[.string m.ct, .slice a m.tn c, .bool m.e, .int .i64 m.a, .int .i64 m.p, .int .i64 m.nu, .bool m.nt], .bool true]) ∧ BRow w' w.heap.size (.slice a m.tn c) m.tx ∧ Below w.heap.size w w' := by
  have bv : Below w.heap.size w (w.alloc (.cells #[.string ⟨#[]⟩, .slice none 0 0, .bool false, .int .i64 0, .int .i64 0, .int .i64 0, .bool false] 58)) := (Below.refl _ _).alloc (Nat.le_refl _) _
  have bx := Box.new w #[.string ⟨#[]⟩, .slice none 0 0, .bool false, .int .i64 0, .int .i64 0, .int .i64 0, .bool false] 58
  have hmk := made_yes (h.below bv)
  have hnx := next_yes (h.below bv) hn
  have hmem := (nextS_mem hn).1
  have HT : Hid (Tx w m) := h.2.2 m hmem
  have hfo := field_out
  clear h hn hmem
  go_enter Tryz.func18, Tryz.ntmps18
  go_wp2_with fail
  obtain ⟨V, hW⟩ : ∃ V, w.alloc (.cells #[.string ⟨#[]⟩, .slice none 0 0, .bool false, .int .i64 0, .int .i64 0, .int .i64 0, .bool false] 58) = V := ⟨_, rfl⟩
  rw [hW] at bv bx hmk hnx ⊢
  clear hW
  have HB0 : Hid (Below w.heap.size w V ∧ Box V w.heap.size #[.string ⟨#[]⟩, .slice none 0 0, .bool false, .int .i64 0, .int .i64 0, .int .i64 0, .bool false]) := ⟨bv, bx⟩
  clear bv bx
  refine hmk.mono ?_
  rintro _ w9 ⟨rfl, h9⟩
  subst w9
  clear hmk
  go_wp2_with fail
  refine hnx.mono ?_
  rintro _ w1 ⟨rfl, hb1⟩
  have HB1 : Hid (∀ o, Below V.heap.size V (w1.alloc o)) := fun o => hb1.alloc hb1.size o
  clear hnx hb1
  go_wp2_with fail
  have ht1 := fun o => HT.out.below (below_then HB0.out.1 (HB1.out o))
  refine (copied_any m _ (ht1 _).1.byts HT.out.1.nilcap (by have := HT.out.2; omega)).mono ?_
  rintro _ w3 ⟨a, c, rfl, hr3, hb3⟩
  have hbV : Below V.heap.size V w3 := below_then (HB1.out _) hb3
  have x3 := HB0.out.2.below hbV
  have cx := x3.cell
  have fx := x3.free
  have HE : Hid (∀ W', Off (fun q => q = w.heap.size) w3 W' → BRow W' w.heap.size (.slice a m.tn c) m.tx ∧ Below w.heap.size w W') := fun W' ho => by
    have h1 := HB0.out.2.lt
    have h2 := (HB1.out (.cells #[.string m.ct, .slice m.tp m.tn m.tc, .bool m.e, .int .i64 m.a, .int .i64 m.p, .int .i64 m.nu, .bool m.nt, .int .i64 m.st, .int .i64 m.lf, .bool m.un] 91)).size
    refine ⟨ERow.base (ERow.off hr3 ho fun g hg hp => ?_) (by omega), (below_then HB0.out.1 hbV).trans (ho.below (Nat.le_trans HB0.out.1.size hbV.size) fun k hk => by omega)⟩
    have := (ERow.lt hr3 hg).1
    omega
  clear hr3 hb3 hbV x3 ht1
  go_wp2_with fail
  refine bodyPost_ret ?_ rfl ⟨a, c, rfl, HE.out _ ?_⟩
  · simp [results, Tryz.results18, go_sem, cx]
  · iterate 7 (refine Off.setCell ?_ (by exact rfl) _)
    exact Off.refl _ _
set_option maxRecDepth 100000 in
set_option maxHeartbeats 2000000 in
theorem nextC_no (h : Bx w b kb v sq tr ms) (hn : nextS sq ms = none) : Calls Tryz.prog 18 #[.pointer (some ⟨b, 0, none⟩)] w fun e w' => ∃ a c, e = .returned (.tuple #[.agg #[.string ⟨#[]⟩, .slice a 0 c, .bool false, .int .i64 0, .int .i64 0, .int .i64 0, .bool false], .bool false]) ∧ BRow w' w.heap.size (.slice a 0 c) [] ∧ Below w.heap.size w w' := by
  have bv : Below w.heap.size w (w.alloc (.cells #[.string ⟨#[]⟩, .slice none 0 0, .bool false, .int .i64 0, .int .i64 0, .int .i64 0, .bool false] 58)) := (Below.refl _ _).alloc (Nat.le_refl _) _
  have bx := Box.new w #[.string ⟨#[]⟩, .slice none 0 0, .bool false, .int .i64 0, .int .i64 0, .int .i64 0, .bool false] 58
  have hmk := made_yes (h.below bv)
  have hnx := next_no (h.below bv) hn
  have hfo := field_out
  clear h hn
  go_enter Tryz.func18, Tryz.ntmps18
  go_wp2_with fail
  obtain ⟨V, hW⟩ : ∃ V, w.alloc (.cells #[.string ⟨#[]⟩, .slice none 0 0, .bool false, .int .i64 0, .int .i64 0, .int .i64 0, .bool false] 58) = V := ⟨_, rfl⟩
  rw [hW] at bv bx hmk hnx ⊢
  clear hW
  have HB0 : Hid (Below w.heap.size w V ∧ Box V w.heap.size #[.string ⟨#[]⟩, .slice none 0 0, .bool false, .int .i64 0, .int .i64 0, .int .i64 0, .bool false]) := ⟨bv, bx⟩
  clear bv bx
  refine hmk.mono ?_
  rintro _ w9 ⟨rfl, h9⟩
  subst w9
  clear hmk
  go_wp2_with fail
  refine hnx.mono ?_
  rintro _ w1 ⟨rfl, hb1⟩
  have HB1 : Hid (∀ o, Below V.heap.size V (w1.alloc o)) := fun o => hb1.alloc hb1.size o
  clear hnx hb1
  go_wp2_with fail
  have hcz : ∀ z, Calls Tryz.prog 55 #[.agg #[.string ⟨#[]⟩, .slice none 0 0, .bool false, .int .i64 0, .int .i64 0, .int .i64 0, .bool false, .int .i64 0, .int .i64 0, .bool false]] z fun e z' => ∃ a c, e = .returned (.agg #[.string ⟨#[]⟩, .slice a 0 c, .bool false, .int .i64 0, .int .i64 0, .int .i64 0, .bool false, .int .i64 0, .int .i64 0, .bool false]) ∧ BRow z' z.heap.size (.slice a 0 c) [] ∧ Below z.heap.size z z' := fun z => copied_any zM z ⟨rfl, fun j hj => by simp [zM] at hj⟩ (fun _ => rfl) (by simp [zM])
  refine (hcz _).mono ?_
  rintro _ w3 ⟨a, c, rfl, hr3, hb3⟩
  have hbV : Below V.heap.size V w3 := below_then (HB1.out _) hb3
  have x3 := HB0.out.2.below hbV
  have cx := x3.cell
  have fx := x3.free
  have HE : Hid (∀ W', Off (fun q => q = w.heap.size) w3 W' → BRow W' w.heap.size (.slice a 0 c) [] ∧ Below w.heap.size w W') := fun W' ho => by
    have h1 := HB0.out.2.lt
    have h2 := (HB1.out (.cells #[.string ⟨#[]⟩, .slice none 0 0, .bool false, .int .i64 0, .int .i64 0, .int .i64 0, .bool false, .int .i64 0, .int .i64 0, .bool false] 91)).size
    refine ⟨ERow.base (ERow.off hr3 ho fun g hg hp => ?_) (by omega), (below_then HB0.out.1 hbV).trans (ho.below (Nat.le_trans HB0.out.1.size hbV.size) fun k hk => by omega)⟩
    have := (ERow.lt hr3 hg).1
    omega
  clear hr3 hb3 hbV x3 hcz
  go_wp2_with fail
  refine bodyPost_ret ?_ rfl ⟨a, c, rfl, HE.out _ ?_⟩
  · simp [results, Tryz.results18, go_sem, cx]
  · iterate 7 (refine Off.setCell ?_ (by exact rfl) _)
    exact Off.refl _ _
set_option maxRecDepth 100000 in
set_option maxHeartbeats 2000000 in
theorem get_yes {m : Msg} {i : Nat} (h : Bx w b kb v sq tr ms) (s : ByteArray) (hf : fi s ms = some i) (hm : ms[i]? = some m) : Calls Tryz.prog 31 #[.pointer (some ⟨b, 0, none⟩), .string s] w fun e w' => ∃ a c, e = .returned (.tuple #[.agg #[.string m.ct, .slice a m.tn c, .bool m.e, .int .i64 m.a, .int .i64 m.p, .int .i64 m.nu, .bool m.nt, .int .i64 m.st, .int .i64 m.lf, .bool m.un], .nilIface]) ∧ BRow w' w.heap.size (.slice a m.tn c) m.tx ∧ Below w.heap.size w w' := by
  have bv : Below w.heap.size w (w.alloc (.cells #[.string ⟨#[]⟩, .slice none 0 0, .bool false, .int .i64 0, .int .i64 0, .int .i64 0, .bool false, .int .i64 0, .int .i64 0, .bool false] 91)) := (Below.refl _ _).alloc (Nat.le_refl _) _
  have bx := Box.new w #[.string ⟨#[]⟩, .slice none 0 0, .bool false, .int .i64 0, .int .i64 0, .int .i64 0, .bool false, .int .i64 0, .int .i64 0, .bool false] 91
  have hnx := bfind_yes (h.below bv) s hf hm
  have HT : Hid (Tx w m) := h.2.2 m (List.mem_of_getElem? hm)
  clear h hf hm
  go_enter Tryz.func31, Tryz.ntmps31
  go_wp2_with fail
  obtain ⟨V, hW⟩ : ∃ V, w.alloc (.cells #[.string ⟨#[]⟩, .slice none 0 0, .bool false, .int .i64 0, .int .i64 0, .int .i64 0, .bool false, .int .i64 0, .int .i64 0, .bool false] 91) = V := ⟨_, rfl⟩
  rw [hW] at bv bx hnx ⊢
  clear hW
  have HB0 : Hid (Below w.heap.size w V ∧ Box V w.heap.size #[.string ⟨#[]⟩, .slice none 0 0, .bool false, .int .i64 0, .int .i64 0, .int .i64 0, .bool false, .int .i64 0, .int .i64 0, .bool false]) := ⟨bv, bx⟩
  clear bv bx
  refine hnx.mono ?_
  rintro _ w1 ⟨rfl, hb1⟩
  have HB1 : Hid (∀ o, Below V.heap.size V (w1.alloc o)) := fun o => hb1.alloc hb1.size o
  clear hnx hb1
  go_wp2_with fail
  have ht1 := fun o => HT.out.below (below_then HB0.out.1 (HB1.out o))
  refine (copied_any m _ (ht1 _).1.byts HT.out.1.nilcap (by have := HT.out.2; omega)).mono ?_
  rintro _ w3 ⟨a, c, rfl, hr3, hb3⟩
  have hbV : Below V.heap.size V w3 := below_then (HB1.out _) hb3
  have x3 := HB0.out.2.below hbV
  have cx := x3.cell
  have fx := x3.free
  have HE : Hid (∀ W', Off (fun q => q = w.heap.size) w3 W' → BRow W' w.heap.size (.slice a m.tn c) m.tx ∧ Below w.heap.size w W') := fun W' ho => by
    have h1 := HB0.out.2.lt
    have h2 := (HB1.out (.cells #[.string m.ct, .slice m.tp m.tn m.tc, .bool m.e, .int .i64 m.a, .int .i64 m.p, .int .i64 m.nu, .bool m.nt, .int .i64 m.st, .int .i64 m.lf, .bool m.un] 91)).size
    refine ⟨ERow.base (ERow.off hr3 ho fun g hg hp => ?_) (by omega), (below_then HB0.out.1 hbV).trans (ho.below (Nat.le_trans HB0.out.1.size hbV.size) fun k hk => by omega)⟩
    have := (ERow.lt hr3 hg).1
    omega
  clear hr3 hb3 hbV x3 ht1
  go_wp2_with fail
  refine bodyPost_ret ?_ rfl ⟨a, c, rfl, HE.out _ ?_⟩
  · simp [results, Tryz.results31, go_sem, cx]
  · iterate 10 (refine Off.setCell ?_ (by exact rfl) _)
    exact Off.refl _ _
end
end Go.Proofs.YtoijhecphgdfnaaGreatDoor

/-
  do, walked.
-/
namespace Go.Proofs.YtoijhecphgdfnaaGreatDoor
open Go.RowKit

section
variable {w w' : World} {b kb : Nat} {v : Value} {sq : Bool} {tr : Int} {ms : List Msg}
/-- do's answer. -/
def DoQ (w : World) (b kb : Nat) (v : Value) (sq : Bool) (tr : Int) (ds : List Deed) (ms' : List Msg) (e : Ending) (w' : World) : Prop :=
  ∃ a c, e = .returned (.tuple #[.slice a ds.length c, .nilIface]) ∧ DRow w' w.heap.size (.slice a ds.length c) ds ∧ BxQ w b kb v sq tr ms' w'
set_option maxRecDepth 100000 in
set_option maxHeartbeats 4000000 in
theorem do_ok {m : Msg} {i0 N : Nat} {x : Int} {l : ActL} {av : Value} (h : Bx w b kb v sq tr ms) (hf : fi m.ct ms = some i0) (ht : Tx w m) (ha : Acts w N av l) (hl : l.length ≤ 3) :
    Calls Tryz.prog 60 #[.pointer (some ⟨b, 0, none⟩), .agg #[.string m.ct, .slice m.tp m.tn m.tc, .bool m.e, .int .i64 m.a, .int .i64 m.p, .int .i64 m.nu, .bool m.nt, .int .i64 m.st, .int .i64 m.lf, .bool m.un, .int .i64 x, .bool false], av, .nilIface] w (DoQ w b kb v sq tr (deedsS m.ct l) (doS ms m x l)) := by
  obtain ⟨ao, ac, rfl, hac, hacts⟩ := ha
  have hb0 : Below w.heap.size w (w.alloc (.cells #[.string m.ct, .slice m.tp m.tn m.tc, .bool m.e, .int .i64 m.a, .int .i64 m.p, .int .i64 m.nu, .bool m.nt, .int .i64 m.st, .int .i64 m.lf, .bool m.un, .int .i64 x, .bool false] 137)) := (Below.refl _ _).alloc (Nat.le_refl _) _
  have ht0 : Tn (w.alloc (.cells #[.string m.ct, .slice m.tp m.tn m.tc, .bool m.e, .int .i64 m.a, .int .i64 m.p, .int .i64 m.nu, .bool m.nt, .int .i64 m.st, .int .i64 m.lf, .bool m.un, .int .i64 x, .bool false] 137)) w.heap.size (m, false) x := Box.new w _ _
  obtain ⟨W0, hW0⟩ : ∃ W, w.alloc (.cells #[.string m.ct, .slice m.tp m.tn m.tc, .bool m.e, .int .i64 m.a, .int .i64 m.p, .int .i64 m.nu, .bool m.nt, .int .i64 m.st, .int .i64 m.lf, .bool m.un, .int .i64 x, .bool false] 137) = W := ⟨_, rfl⟩
  obtain ⟨n, hn⟩ : ∃ n, l.length = n := ⟨_, rfl⟩
  rw [hn] at hl hac ⊢
  obtain ⟨w1, hmk, hR, hB1⟩ := run_make_deeds (w := W0) n (by omega)
  rw [hW0] at hb0 ht0
  have hz0 : W0.heap.size = w.heap.size + 1 := by rw [← hW0]; simp
  rw [hz0] at hmk hR
  have HI : Hid (DoI w w.heap.size (w.heap.size + 1) m x l 0 w1) := by
    refine ⟨Box.below ht0 hB1, ?_, below_then hb0 hB1⟩
    have e : dPart m.ct l 0 = List.replicate n zD := by unfold dPart deedsS; rw [hn]; simp
    unfold DRow
    rw [e, hn]
    exact ERow.base hR (by omega)
  have HL : Hid (l.length = n) := hn
  have HA : Hid (∀ j y, l[j]? = some y → ∃ b o, ao = some ⟨b, o, none⟩ ∧ N ≤ b ∧ b < w.heap.size ∧ w.cell? ⟨b, o + j * 2, none⟩ = some (.int .i64 y.1) ∧ w.cell? ⟨b, o + j * 2 + 1, none⟩ = some (.string y.2)) := hacts
  have HH : Hid (Bx w b kb v sq tr ms ∧ fi m.ct ms = some i0 ∧ Tx w m) := ⟨h, hf, ht⟩
  clear hb0 ht0 hz0 hR hB1 hn hacts h hf ht
  go_enter Tryz.func60, Tryz.ntmps60
  go_wp2_with fail
  clear hmk hW0 W0
  go_loopw [21] (fun t21 wx => ∃ i : Nat, i ≤ n ∧ t21 = .int .i64 i ∧ Hid (DoI w w.heap.size (w.heap.size + 1) m x l i wx)) (fun t21 _ => n - (intOf t21).toNat)
  case atStart => exact ⟨0, Nat.zero_le _, rfl, HI⟩
  case round =>
    obtain ⟨i, hi, rfl, HR⟩ := hrel
    by_cases hlt : i < n
    · have hlt1 : (i : Int) < n := by omega
      obtain ⟨y, hy⟩ : ∃ y, l[i]? = some y := ⟨_, List.getElem?_eq_getElem (by rw [HL.out]; exact hlt)⟩
      obtain ⟨ab, aof, rfl, _, hal, a0, a1⟩ := HA.out i y hy
      have a0' : wr.cell? ⟨ab, aof + i * 2, none⟩ = some (.int .i64 y.1) := by rw [HR.out.bel.cell (p := ⟨ab, aof + i * 2, none⟩) hal]; exact a0
      have a1' : wr.cell? ⟨ab, aof + i * 2 + 1, none⟩ = some (.string y.2) := by rw [HR.out.bel.cell (p := ⟨ab, aof + i * 2 + 1, none⟩) hal]; exact a1
      have HY : Hid (l[i]? = some y) := hy
      have hct : wr.cell? ⟨w.heap.size, 0, none⟩ = some (.string m.ct) := by
        have := HR.out.tn.cell 0
        rw [(tksS_ct x (l.take i) (m, false)).1] at this
        exact this
      have htl := Box.lt HR.out.tn
      have hdl : dPart m.ct l i ≠ [] := fun e => by
        have := dPart_len m.ct l i (by rw [HL.out]; exact hi)
        rw [e, HL.out] at this; simp at this; omega
      obtain ⟨d0, hd0⟩ : ∃ d0, (dPart m.ct l i)[i]? = some d0 := ⟨_, List.getElem?_eq_getElem (by rw [dPart_len m.ct l i (by rw [HL.out]; exact hi), HL.out]; exact hlt)⟩
      obtain ⟨g', eg, hgl, hgc⟩ := ERow.at_ encD_len HR.out.row hd0
      obtain rfl : w.heap.size + 1 = g' := by simpa using eg
      have r0 : wr.cell? ⟨w.heap.size + 1, i * 3, none⟩ = some (.string d0.1) := hgc 0 (by decide)
      have r1 : wr.cell? ⟨w.heap.size + 1, i * 3 + 1, none⟩ = some (.int .i64 d0.2.1) := hgc 1 (by decide)
      have r2 : wr.cell? ⟨w.heap.size + 1, i * 3 + 2, none⟩ = some (.string d0.2.2) := hgc 2 (by decide)
      have rf : ∀ j, wr.frozen? ⟨w.heap.size + 1, j, none⟩ = false := ERow.thaw HR.out.row
      have HD : Hid (∀ o, DRow ((wr.setCells (w.heap.size + 1) (i * 3) (encD (m.ct, y.1, y.2))).alloc o) w.heap.size (.slice (some ⟨w.heap.size + 1, 0, none⟩) l.length l.length) (dPart m.ct l (i + 1)) ∧ Off (fun q => q = w.heap.size + 1) wr ((wr.setCells (w.heap.size + 1) (i * 3) (encD (m.ct, y.1, y.2))).alloc o)) := fun o => by
        refine ⟨?_, (Off.setCells (P := fun q => q = w.heap.size + 1) rfl _ _ _ (Off.refl _ _)).alloc o⟩
        have := erow_setG encD_len HR.out.row (m.ct, y.1, y.2) (i := i) (by rw [dPart_len m.ct l i (by rw [HL.out]; exact hi), HL.out]; exact hlt)
        rw [dPart_set hy] at this
        exact ERow.below this ((Below.refl _ _).alloc (Nat.le_refl _) _)
      clear hy a0 a1 hd0 eg hgc hdl
      go_wp2_with fail
      refine (take_any (t := tksS x (m, false) (l.take i)) (x := x) (HR.out.tn.off (P := fun q => q = w.heap.size + 1) (HD.out _).2 (by omega)) _ _).mono ?_
      rintro _ w3 ⟨rfl, ht3, ho3⟩
      have HZ : Hid (DoI w w.heap.size (w.heap.size + 1) m x l (i + 1) w3) := by
        refine ⟨by rw [tks_next HY.out]; exact ht3, ERow.off (HD.out _).1 ho3 (fun g hg => ?_), HR.out.bel.trans (((HD.out _).2.below HR.out.bel.size (fun k hk => by omega)).trans (ho3.below (Nat.le_trans HR.out.bel.size (HD.out _).2.size) (fun k hk => by omega)))⟩
        have : w.heap.size + 1 = g := by simpa [Value.ownBlock] using hg
        omega
      clear ht3 ho3 r0 r1 r2 rf a0' a1' hct
      go_wp2_with fail
      go_roundw
      case rel => exact ⟨i + 1, hlt, by go_num, HZ⟩
      case measure => simp [intOf]; omega
    · have hlt1 : ¬ (i : Int) < n := by omega
      have hin : i = n := by omega
      have HT : Hid (Tn wr w.heap.size (tksS x (m, false) l) x) := by
        have := HR.out.tn
        rw [List.take_of_length_le (by rw [HL.out]; omega)] at this
        exact this
      have HRow : Hid (DRow wr w.heap.size (.slice (some ⟨w.heap.size + 1, 0, none⟩) (deedsS m.ct l).length n) (deedsS m.ct l)) := by
        have := HR.out.row
        rw [show i = l.length by rw [HL.out]; exact hin, dPart_all] at this
        rw [show (deedsS m.ct l).length = l.length by unfold deedsS; simp, ← HL.out]
        exact this
      have HN : Hid ((deedsS m.ct l).length = n) := by unfold Hid deedsS; rw [List.length_map]; exact HL.out
      have HB : Hid (Bx wr b kb v sq tr ms ∧ Below w.heap.size w wr) := ⟨HH.out.1.below HR.out.bel, HR.out.bel⟩
      have hsame := tksS_ct x l (m, false)
      obtain ⟨⟨M, ov⟩, hT⟩ : ∃ T, tksS x (m, false) l = T := ⟨_, rfl⟩
      have HD : Hid (doS ms m x l = if ov = true then delS M.ct ms else putS M ms) := by unfold Hid doS; rw [hT]
      rw [hT] at HT hsame
      have hM : fi M.ct ms = some i0 := by rw [hsame.1]; exact HH.out.2.1
      have HTx : Hid (Tx wr M) := (HH.out.2.2.below HR.out.bel).same hsame.2.1 hsame.2.2.1 hsame.2.2.2.1 hsame.2.2.2.2
      have cT := HT.out.cell
      have lT := Box.lt HT.out
      have cb := hcell HB.out.1.1 0
      have lb := HB.out.1.lt
      have hkn : (Value.slice (some ⟨w.heap.size + 1, 0, none⟩) (deedsS m.ct l).length n).ownBlock = some (w.heap.size + 1) := rfl
      have HNE : Hid (∀ z q, w.heap.size ≤ q → q < wr.heap.size → Off (fun q => q = kb ∨ v.ownBlock = some q) wr z → wr.heap[q]? = z.heap[q]?) := fun z q h1 h2 ho => by
        refine (ho.block q h2 (fun e => ?_)).symm
        have hkb := blk_lt HH.out.1.2.1.1
        rcases e with e | e
        · omega
        · have := (ERow.lt HH.out.1.2.1.2.1 e).2; omega
      clear hT hsame hi hin
      cases ov with
      | true =>
        have HRM : Hid (∀ z, Below wr.heap.size wr z → Calls Tryz.prog 90 #[.pointer (some ⟨kb, 0, none⟩), .string M.ct] z fun e z' => e = .returned (.tuple #[]) ∧ Hid (KdQ wr kb v (delS M.ct ms) z')) := fun z hz => (remove_any (HB.out.1.2.1.below hz) M.ct hM).mono fun _ _ ⟨h1, h2⟩ => ⟨h1, KdQ.of_below hz h2⟩
        clear hM
        go_wp2_with fail
        go_region_law (go_simp; go_at_call 90; refine (HRM.out _ ?_).mono ?_; (repeat' (first | exact Below.refl _ _ | refine Below.drew ?_)); rintro _ w5 ⟨rfl, hh5⟩; go_wp2_with fail)
        all_goals
          go_wp2_with fail
          go_ret2
          refine ⟨some ⟨w.heap.size + 1, 0, none⟩, n, by rw [HN.out]; rfl, ?_, ?_⟩
          · obtain ⟨v', _, ho, _⟩ := Hid.out hh5
            refine ERow.keep HRow.out fun g hg => ?_
            obtain rfl : w.heap.size + 1 = g := by simpa [Value.ownBlock] using hg
            exact (HNE.out _ (w.heap.size + 1) (Nat.le_succ _) (ERow.lt HRow.out rfl).2 ho).symm
          · rw [HD.out]
            exact bxq_of HB.out.1 HB.out.2 (Hid.out hh5) (fun y hy => HB.out.1.2.2 y (delS_mem hy))
      | false =>
        have HRM : Hid (∀ z, Below wr.heap.size wr z → Calls Tryz.prog 58 #[.pointer (some ⟨kb, 0, none⟩), .agg #[.string M.ct, .slice M.tp M.tn M.tc, .bool M.e, .int .i64 M.a, .int .i64 M.p, .int .i64 M.nu, .bool M.nt, .int .i64 M.st, .int .i64 M.lf, .bool M.un]] z fun e z' => e = .returned (.tuple #[]) ∧ Hid (KdQ wr kb v (putS M ms) z')) := fun z hz => (put_at (HB.out.1.2.1.below hz) M hM).mono fun _ _ ⟨h1, h2⟩ => ⟨h1, KdQ.of_below hz h2⟩
        clear hM
        go_wp2_with fail
        go_region_law (go_simp; go_at_call 58; refine (HRM.out _ ?_).mono ?_; (repeat' (first | exact Below.refl _ _ | refine Below.drew ?_)); rintro _ w5 ⟨rfl, hh5⟩; go_wp2_with fail)
        all_goals
          go_wp2_with fail
          go_ret2
          refine ⟨some ⟨w.heap.size + 1, 0, none⟩, n, by rw [HN.out]; rfl, ?_, ?_⟩
          · obtain ⟨v', _, ho, _⟩ := Hid.out hh5
            refine ERow.keep HRow.out fun g hg => ?_
            obtain rfl : w.heap.size + 1 = g := by simpa [Value.ownBlock] using hg
            exact (HNE.out _ (w.heap.size + 1) (Nat.le_succ _) (ERow.lt HRow.out rfl).2 ho).symm
          · rw [HD.out]
            exact bxq_of HB.out.1 HB.out.2 (Hid.out hh5) (fun y hy => by
              rcases putS_mem hy with g | rfl
              · exact HB.out.1.2.2 y g
              · exact HTx.out)
end
end Go.Proofs.YtoijhecphgdfnaaGreatDoor
