/-
  Next, Get.
-/
import Derived.Test.YtigmgbnfiiobeaaDoorOxNext2
import Derived.Test.YtigmgbnfiiobeaaDoorOxList
namespace Go.Proofs.YtigmgbnfiiobeaaDoor
open Go.RowKit

theorem field_out (c0 c1 c2 c3 c4 c5 c6 c7 c8 c9 : Value) (w : World) : (Instr.field 49 (.agg #[c0, c1, c2, c3, c4, c5, c6, c7, c8, c9]) 0).run Tryd.prog w = .ok (.agg #[c0, c1, c2, c3, c4, c5, c6]) w := by kernel_rfl
section
variable {w w' : World} {b kb : Nat} {v : Value} {sq : Bool} {tr : Int} {ms : List Msg}
set_option maxRecDepth 100000 in
set_option maxHeartbeats 2000000 in
theorem nextC_yes {m : Msg} (h : Bx w b kb v sq tr ms) (hn : nextS sq ms = some m) : Calls Tryd.prog 9 #[.pointer (some ⟨b, 0, none⟩)] w fun e w' => ∃ a c, e = .returned (.tuple #[.agg #[.string m.ct, .slice a m.tn c, .bool m.e, .int .i64 m.a, .int .i64 m.p, .int .i64 m.nu, .bool m.nt], .bool true]) ∧ BRow w' w.heap.size (.slice a m.tn c) m.tx ∧ Below w.heap.size w w' := by
  have bv : Below w.heap.size w (w.alloc (.cells #[.string ⟨#[]⟩, .slice none 0 0, .bool false, .int .i64 0, .int .i64 0, .int .i64 0, .bool false] 45)) := (Below.refl _ _).alloc (Nat.le_refl _) _
  have bx := Box.new w #[.string ⟨#[]⟩, .slice none 0 0, .bool false, .int .i64 0, .int .i64 0, .int .i64 0, .bool false] 45
  have hmk := made_yes (h.below bv)
  have hnx := next_yes (h.below bv) hn
  have hmem := (nextS_mem hn).1
  have HT : Hid (Tx w m) := h.2.2 m hmem
  have hfo := field_out
  clear h hn hmem
  go_enter Tryd.func9, Tryd.ntmps9
  go_wp2_with fail
  obtain ⟨V, hW⟩ : ∃ V, w.alloc (.cells #[.string ⟨#[]⟩, .slice none 0 0, .bool false, .int .i64 0, .int .i64 0, .int .i64 0, .bool false] 45) = V := ⟨_, rfl⟩
  rw [hW] at bv bx hmk hnx ⊢
  clear hW
  have HB0 : Hid (Below w.heap.size w V ∧ Box V w.heap.size #[.string ⟨#[]⟩, .slice none 0 0, .bool false, .int .i64 0, .int .i64 0, .int .i64 0, .bool false]) := ⟨bv, bx⟩
  clear bv bx
  refine hmk.mono ?_
  rintro _ w9 ⟨rfl, h9⟩
  subst w9
  clear hmk
  go_wp2_with fail
  refine hnx.mono ?_
  rintro _ w1 ⟨rfl, hb1⟩
  have HB1 : Hid (∀ o, Below V.heap.size V (w1.alloc o)) := fun o => hb1.alloc hb1.size o
  clear hnx hb1
  go_wp2_with fail
  have ht1 := fun o => HT.out.below (below_then HB0.out.1 (HB1.out o))
  refine (copied_any m _ (ht1 _).1.byts HT.out.1.nilcap (by have := HT.out.2; omega)).mono ?_
  rintro _ w3 ⟨a, c, rfl, hr3, hb3⟩
  have hbV : Below V.heap.size V w3 := below_then (HB1.out _) hb3
  have x3 := HB0.out.2.below hbV
  have cx := x3.cell
  have fx := x3.free
  have HE : Hid (∀ W', Off (fun q => q = w.heap.size) w3 W' → BRow W' w.heap.size (.slice a m.tn c) m.tx ∧ Below w.heap.size w W') := fun W' ho => by
    have h1 := HB0.out.2.lt
    have h2 := (HB1.out (.cells #[.string m.ct, .slice m.tp m.tn m.tc, .bool m.e, .int .i64 m.a, .int .i64 m.p, .int .i64 m.nu, .bool m.nt, .int .i64 m.st, .int .i64 m.lf, .bool m.un] 49)).size
    refine ⟨ERow.base (ERow.off hr3 ho fun g hg hp => ?_) (by omega), (below_then HB0.out.1 hbV).trans (ho.below (Nat.le_trans HB0.out.1.size hbV.size) fun k hk => by omega)⟩
    have := (ERow.lt hr3 hg).1
    omega
  clear hr3 hb3 hbV x3 ht1
  go_wp2_with fail
  refine bodyPost_ret ?_ rfl ⟨a, c, rfl, HE.out _ ?_⟩
  · simp [results, Tryd.results9, go_sem, cx]
  · iterate 7 (refine Off.setCell ?_ (by exact rfl) _)
    exact Off.refl _ _
set_option maxRecDepth 100000 in
set_option maxHeartbeats 2000000 in
theorem nextC_no (h : Bx w b kb v sq tr ms) (hn : nextS sq ms = none) : Calls Tryd.prog 9 #[.pointer (some ⟨b, 0, none⟩)] w fun e w' => ∃ a c, e = .returned (.tuple #[.agg #[.string ⟨#[]⟩, .slice a 0 c, .bool false, .int .i64 0, .int .i64 0, .int .i64 0, .bool false], .bool false]) ∧ BRow w' w.heap.size (.slice a 0 c) [] ∧ Below w.heap.size w w' := by
  have bv : Below w.heap.size w (w.alloc (.cells #[.string ⟨#[]⟩, .slice none 0 0, .bool false, .int .i64 0, .int .i64 0, .int .i64 0, .bool false] 45)) := (Below.refl _ _).alloc (Nat.le_refl _) _
  have bx := Box.new w #[.string ⟨#[]⟩, .slice none 0 0, .bool false, .int .i64 0, .int .i64 0, .int .i64 0, .bool false] 45
  have hmk := made_yes (h.below bv)
  have hnx := next_no (h.below bv) hn
  have hfo := field_out
  clear h hn
  go_enter Tryd.func9, Tryd.ntmps9
  go_wp2_with fail
  obtain ⟨V, hW⟩ : ∃ V, w.alloc (.cells #[.string ⟨#[]⟩, .slice none 0 0, .bool false, .int .i64 0, .int .i64 0, .int .i64 0, .bool false] 45) = V := ⟨_, rfl⟩
  rw [hW] at bv bx hmk hnx ⊢
  clear hW
  have HB0 : Hid (Below w.heap.size w V ∧ Box V w.heap.size #[.string ⟨#[]⟩, .slice none 0 0, .bool false, .int .i64 0, .int .i64 0, .int .i64 0, .bool false]) := ⟨bv, bx⟩
  clear bv bx
  refine hmk.mono ?_
  rintro _ w9 ⟨rfl, h9⟩
  subst w9
  clear hmk
  go_wp2_with fail
  refine hnx.mono ?_
  rintro _ w1 ⟨rfl, hb1⟩
  have HB1 : Hid (∀ o, Below V.heap.size V (w1.alloc o)) := fun o => hb1.alloc hb1.size o
  clear hnx hb1
  go_wp2_with fail
  have hcz : ∀ z, Calls Tryd.prog 23 #[.agg #[.string ⟨#[]⟩, .slice none 0 0, .bool false, .int .i64 0, .int .i64 0, .int .i64 0, .bool false, .int .i64 0, .int .i64 0, .bool false]] z fun e z' => ∃ a c, e = .returned (.agg #[.string ⟨#[]⟩, .slice a 0 c, .bool false, .int .i64 0, .int .i64 0, .int .i64 0, .bool false, .int .i64 0, .int .i64 0, .bool false]) ∧ BRow z' z.heap.size (.slice a 0 c) [] ∧ Below z.heap.size z z' := fun z => copied_any zM z ⟨rfl, fun j hj => by simp [zM] at hj⟩ (fun _ => rfl) (by simp [zM])
  refine (hcz _).mono ?_
  rintro _ w3 ⟨a, c, rfl, hr3, hb3⟩
  have hbV : Below V.heap.size V w3 := below_then (HB1.out _) hb3
  have x3 := HB0.out.2.below hbV
  have cx := x3.cell
  have fx := x3.free
  have HE : Hid (∀ W', Off (fun q => q = w.heap.size) w3 W' → BRow W' w.heap.size (.slice a 0 c) [] ∧ Below w.heap.size w W') := fun W' ho => by
    have h1 := HB0.out.2.lt
    have h2 := (HB1.out (.cells #[.string ⟨#[]⟩, .slice none 0 0, .bool false, .int .i64 0, .int .i64 0, .int .i64 0, .bool false, .int .i64 0, .int .i64 0, .bool false] 49)).size
    refine ⟨ERow.base (ERow.off hr3 ho fun g hg hp => ?_) (by omega), (below_then HB0.out.1 hbV).trans (ho.below (Nat.le_trans HB0.out.1.size hbV.size) fun k hk => by omega)⟩
    have := (ERow.lt hr3 hg).1
    omega
  clear hr3 hb3 hbV x3 hcz
  go_wp2_with fail
  refine bodyPost_ret ?_ rfl ⟨a, c, rfl, HE.out _ ?_⟩
  · simp [results, Tryd.results9, go_sem, cx]
  · iterate 7 (refine Off.setCell ?_ (by exact rfl) _)
    exact Off.refl _ _
set_option maxRecDepth 100000 in
set_option maxHeartbeats 2000000 in
theorem get_yes {m : Msg} {i : Nat} (h : Bx w b kb v sq tr ms) (s : ByteArray) (hf : fi s ms = some i) (hm : ms[i]? = some m) : Calls Tryd.prog 15 #[.pointer (some ⟨b, 0, none⟩), .string s] w fun e w' => ∃ a c, e = .returned (.tuple #[.agg #[.string m.ct, .slice a m.tn c, .bool m.e, .int .i64 m.a, .int .i64 m.p, .int .i64 m.nu, .bool m.nt, .int .i64 m.st, .int .i64 m.lf, .bool m.un], .nilIface]) ∧ BRow w' w.heap.size (.slice a m.tn c) m.tx ∧ Below w.heap.size w w' := by
  have bv : Below w.heap.size w (w.alloc (.cells #[.string ⟨#[]⟩, .slice none 0 0, .bool false, .int .i64 0, .int .i64 0, .int .i64 0, .bool false, .int .i64 0, .int .i64 0, .bool false] 49)) := (Below.refl _ _).alloc (Nat.le_refl _) _
  have bx := Box.new w #[.string ⟨#[]⟩, .slice none 0 0, .bool false, .int .i64 0, .int .i64 0, .int .i64 0, .bool false, .int .i64 0, .int .i64 0, .bool false] 49
  have hnx := bfind_yes (h.below bv) s hf hm
  have HT : Hid (Tx w m) := h.2.2 m (List.mem_of_getElem? hm)
  clear h hf hm
  go_enter Tryd.func15, Tryd.ntmps15
  go_wp2_with fail
  obtain ⟨V, hW⟩ : ∃ V, w.alloc (.cells #[.string ⟨#[]⟩, .slice none 0 0, .bool false, .int .i64 0, .int .i64 0, .int .i64 0, .bool false, .int .i64 0, .int .i64 0, .bool false] 49) = V := ⟨_, rfl⟩
  rw [hW] at bv bx hnx ⊢
  clear hW
  have HB0 : Hid (Below w.heap.size w V ∧ Box V w.heap.size #[.string ⟨#[]⟩, .slice none 0 0, .bool false, .int .i64 0, .int .i64 0, .int .i64 0, .bool false, .int .i64 0, .int .i64 0, .bool false]) := ⟨bv, bx⟩
  clear bv bx
  refine hnx.mono ?_
  rintro _ w1 ⟨rfl, hb1⟩
  have HB1 : Hid (∀ o, Below V.heap.size V (w1.alloc o)) := fun o => hb1.alloc hb1.size o
  clear hnx hb1
  go_wp2_with fail
  have ht1 := fun o => HT.out.below (below_then HB0.out.1 (HB1.out o))
  refine (copied_any m _ (ht1 _).1.byts HT.out.1.nilcap (by have := HT.out.2; omega)).mono ?_
  rintro _ w3 ⟨a, c, rfl, hr3, hb3⟩
  have hbV : Below V.heap.size V w3 := below_then (HB1.out _) hb3
  have x3 := HB0.out.2.below hbV
  have cx := x3.cell
  have fx := x3.free
  have HE : Hid (∀ W', Off (fun q => q = w.heap.size) w3 W' → BRow W' w.heap.size (.slice a m.tn c) m.tx ∧ Below w.heap.size w W') := fun W' ho => by
    have h1 := HB0.out.2.lt
    have h2 := (HB1.out (.cells #[.string m.ct, .slice m.tp m.tn m.tc, .bool m.e, .int .i64 m.a, .int .i64 m.p, .int .i64 m.nu, .bool m.nt, .int .i64 m.st, .int .i64 m.lf, .bool m.un] 49)).size
    refine ⟨ERow.base (ERow.off hr3 ho fun g hg hp => ?_) (by omega), (below_then HB0.out.1 hbV).trans (ho.below (Nat.le_trans HB0.out.1.size hbV.size) fun k hk => by omega)⟩
    have := (ERow.lt hr3 hg).1
    omega
  clear hr3 hb3 hbV x3 ht1
  go_wp2_with fail
  refine bodyPost_ret ?_ rfl ⟨a, c, rfl, HE.out _ ?_⟩
  · simp [results, Tryd.results15, go_sem, cx]
  · iterate 10 (refine Off.setCell ?_ (by exact rfl) _)
    exact Off.refl _ _
end
end Go.Proofs.YtigmgbnfiiobeaaDoor
