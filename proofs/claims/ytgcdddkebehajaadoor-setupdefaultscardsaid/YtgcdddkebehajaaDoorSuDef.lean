/-
  Default, the program's and the document's; by one description.
-/
import Derived.Test.YtgcdddkebehajaaDoorSuLeaf
import Derived.DeepKeys
namespace Go.Proofs.YtgcdddkebehajaaDoor.Su
open Go.RowKit Go.Proofs.YtgcdddkebehajaaDoor.Td

/-- The common marks. -/
def Com (w : World) : Prop := ∀ o, w.cell? ⟨0, o, none⟩ = (#[.int .u8 124, .int .u8 94, .int .u8 126, .int .u8 92, .int .u8 38] : Array Value)[o]?
theorem Com.below {w w' : World} (h : Com w) (hb : Below w.heap.size w w') : Com w' := fun o => by
  have hl := cell_lt (show w.cell? ⟨0, 0, none⟩ = some (.int .u8 124) from h 0)
  rw [hb.cell (p := ⟨0, o, none⟩) hl]; exact h o
abbrev sdV (a f : ByteArray) : Value := .agg #[.string a, .string f, .int .u8 124, .int .u8 94, .int .u8 126, .int .u8 92, .int .u8 38, .string ⟨#[80]⟩, .bool false, .int .i64 10, .int .i64 3, .int .i64 16, .int .i64 64]
abbrev sdZ : Value := .agg #[.string ⟨#[]⟩, .string ⟨#[]⟩, .int .u8 0, .int .u8 0, .int .u8 0, .int .u8 0, .int .u8 0, .string ⟨#[]⟩, .bool false, .int .i64 0, .int .i64 0, .int .i64 0, .int .i64 0]
/-- The place of what is refused; 0: nothing. -/
def dfA (a f : ByteArray) : Int := if isCd (bl a) then (if facB f then 0 else 2) else 1
def dfC (a f : ByteArray) : Int := if isCd (bl a) then (if facB f then 0 else 340) else 340
def dfV (a f : ByteArray) : Value := if isCd (bl a) then (if facB f then sdV a f else sdZ) else sdZ
def DfQ (a f : ByteArray) (w : World) (e : Ending) (w' : World) : Prop := ∃ ev, e = .returned (.tuple #[dfV a f, ev]) ∧ TEv w' ev (dfA a f) (dfC a f) ∧ Below w.heap.size w w'
def RfQ (a f : ByteArray) (w : World) (e : Ending) (w' : World) : Prop := ∃ ev, e = .returned (.tuple #[dfV a f, ev]) ∧ TNo w' ev (dfA a f) (dfC a f) ∧ Below w.heap.size w w'
abbrev zsd : Array Value := #[.string ⟨#[]⟩, .string ⟨#[]⟩, .int .u8 0, .int .u8 0, .int .u8 0, .int .u8 0, .int .u8 0, .string ⟨#[]⟩, .bool false, .int .i64 0, .int .i64 0, .int .i64 0, .int .i64 0]
/-- Thirteen cells written one behind the other. -/
theorem sd_put {w0 w : World} {b : Nat} (h : Box w b zsd) (hB : w0.heap.size ≤ b) (hb : Below w0.heap.size w0 w) (x0 x1 x2 x3 x4 x5 x6 x7 x8 x9 x10 x11 x12 : Value) : Box (((((((((((((w.setCell ⟨b, 0, none⟩ x0).setCell ⟨b, 1, none⟩ x1).setCell ⟨b, 2, none⟩ x2).setCell ⟨b, 3, none⟩ x3).setCell ⟨b, 4, none⟩ x4).setCell ⟨b, 5, none⟩ x5).setCell ⟨b, 6, none⟩ x6).setCell ⟨b, 7, none⟩ x7).setCell ⟨b, 8, none⟩ x8).setCell ⟨b, 9, none⟩ x9).setCell ⟨b, 10, none⟩ x10).setCell ⟨b, 11, none⟩ x11).setCell ⟨b, 12, none⟩ x12) b #[x0, x1, x2, x3, x4, x5, x6, x7, x8, x9, x10, x11, x12] ∧ Below w0.heap.size w0 (((((((((((((w.setCell ⟨b, 0, none⟩ x0).setCell ⟨b, 1, none⟩ x1).setCell ⟨b, 2, none⟩ x2).setCell ⟨b, 3, none⟩ x3).setCell ⟨b, 4, none⟩ x4).setCell ⟨b, 5, none⟩ x5).setCell ⟨b, 6, none⟩ x6).setCell ⟨b, 7, none⟩ x7).setCell ⟨b, 8, none⟩ x8).setCell ⟨b, 9, none⟩ x9).setCell ⟨b, 10, none⟩ x10).setCell ⟨b, 11, none⟩ x11).setCell ⟨b, 12, none⟩ x12) := by
  refine ⟨?_, (((((((((((((hb.setCell (p := ⟨b, 0, none⟩) hB _).setCell (p := ⟨b, 1, none⟩) hB _).setCell (p := ⟨b, 2, none⟩) hB _).setCell (p := ⟨b, 3, none⟩) hB _).setCell (p := ⟨b, 4, none⟩) hB _).setCell (p := ⟨b, 5, none⟩) hB _).setCell (p := ⟨b, 6, none⟩) hB _).setCell (p := ⟨b, 7, none⟩) hB _).setCell (p := ⟨b, 8, none⟩) hB _).setCell (p := ⟨b, 9, none⟩) hB _).setCell (p := ⟨b, 10, none⟩) hB _).setCell (p := ⟨b, 11, none⟩) hB _).setCell (p := ⟨b, 12, none⟩) hB _)⟩
  have hx := (((((((((((((h.pPut (j := 0) (by simp) x0).pPut (j := 1) (by simp) x1).pPut (j := 2) (by simp) x2).pPut (j := 3) (by simp) x3).pPut (j := 4) (by simp) x4).pPut (j := 5) (by simp) x5).pPut (j := 6) (by simp) x6).pPut (j := 7) (by simp) x7).pPut (j := 8) (by simp) x8).pPut (j := 9) (by simp) x9).pPut (j := 10) (by simp) x10).pPut (j := 11) (by simp) x11).pPut (j := 12) (by simp) x12)
  simp only [Array.set!_eq_setIfInBounds, List.setIfInBounds_toArray, List.set_cons_zero, List.set_cons_succ] at hx
  exact hx
theorem cell13 {w : World} {b g : Nat} (hg : b ≠ g) (x0 x1 x2 x3 x4 x5 x6 x7 x8 x9 x10 x11 x12 : Value) (k : Nat) : (((((((((((((w.setCell ⟨b, 0, none⟩ x0).setCell ⟨b, 1, none⟩ x1).setCell ⟨b, 2, none⟩ x2).setCell ⟨b, 3, none⟩ x3).setCell ⟨b, 4, none⟩ x4).setCell ⟨b, 5, none⟩ x5).setCell ⟨b, 6, none⟩ x6).setCell ⟨b, 7, none⟩ x7).setCell ⟨b, 8, none⟩ x8).setCell ⟨b, 9, none⟩ x9).setCell ⟨b, 10, none⟩ x10).setCell ⟨b, 11, none⟩ x11).setCell ⟨b, 12, none⟩ x12).cell? ⟨g, k, none⟩ = w.cell? ⟨g, k, none⟩ := by
  have hc : ∀ (w : World) o v, (w.setCell ⟨b, o, none⟩ v).cell? ⟨g, k, none⟩ = w.cell? ⟨g, k, none⟩ := fun w o v => World.cell?_setCell_other _ _ _ _ (fun e => hg (by cases e; rfl))
  simp only [hc]
theorem fin_sd {w x : World} {a f : ByteArray} {ev : Value} {A C : Int} {x0 x1 x2 x3 x4 x5 x6 x7 x8 x9 x10 x11 x12 : Value} (hV : dfV a f = .agg #[x0, x1, x2, x3, x4, x5, x6, x7, x8, x9, x10, x11, x12] ∧ dfA a f = A ∧ dfC a f = C) (hev : TEv x ev A C) (hne : ∀ g, ev = .iface 44 (.pointer (some ⟨g, 0, none⟩)) → w.heap.size ≠ g) {b : Nat} (hwb : b = w.heap.size) (hB : Box x b zsd) (hb : Below w.heap.size w x) :
    DfQ a f w (.returned (.tuple #[.agg #[x0, x1, x2, x3, x4, x5, x6, x7, x8, x9, x10, x11, x12], ev])) (((((((((((((x.setCell ⟨b, 0, none⟩ x0).setCell ⟨b, 1, none⟩ x1).setCell ⟨b, 2, none⟩ x2).setCell ⟨b, 3, none⟩ x3).setCell ⟨b, 4, none⟩ x4).setCell ⟨b, 5, none⟩ x5).setCell ⟨b, 6, none⟩ x6).setCell ⟨b, 7, none⟩ x7).setCell ⟨b, 8, none⟩ x8).setCell ⟨b, 9, none⟩ x9).setCell ⟨b, 10, none⟩ x10).setCell ⟨b, 11, none⟩ x11).setCell ⟨b, 12, none⟩ x12) := by
  refine ⟨ev, by rw [hV.1], ?_, (sd_put hB (by omega) hb x0 x1 x2 x3 x4 x5 x6 x7 x8 x9 x10 x11 x12).2⟩
  rw [hV.2.1, hV.2.2]
  rcases hev with h | ⟨h0, g, h1, h2⟩
  · exact Or.inl h
  · have hc := cell13 (w := x) (b := b) (g := g) (by rw [hwb]; exact hne g h1) x0 x1 x2 x3 x4 x5 x6 x7 x8 x9 x10 x11 x12
    exact Or.inr ⟨h0, g, h1, by rw [hc]; exact h2.1, by rw [hc]; exact h2.2.1, by rw [hc]; exact h2.2.2.1, by rw [hc]; exact h2.2.2.2⟩
theorem fin_rd {w x : World} {a f : ByteArray} {ev : Value} {A C : Int} {x0 x1 x2 x3 x4 x5 x6 x7 x8 x9 x10 x11 x12 : Value} (hV : dfV a f = .agg #[x0, x1, x2, x3, x4, x5, x6, x7, x8, x9, x10, x11, x12] ∧ dfA a f = A ∧ dfC a f = C) (hev : TNo x ev A C) (hne : ∀ g, ev = .slice (some ⟨g, 0, none⟩) 1 1 → w.heap.size ≠ g) {b : Nat} (hwb : b = w.heap.size) (hB : Box x b zsd) (hb : Below w.heap.size w x) :
    RfQ a f w (.returned (.tuple #[.agg #[x0, x1, x2, x3, x4, x5, x6, x7, x8, x9, x10, x11, x12], ev])) (((((((((((((x.setCell ⟨b, 0, none⟩ x0).setCell ⟨b, 1, none⟩ x1).setCell ⟨b, 2, none⟩ x2).setCell ⟨b, 3, none⟩ x3).setCell ⟨b, 4, none⟩ x4).setCell ⟨b, 5, none⟩ x5).setCell ⟨b, 6, none⟩ x6).setCell ⟨b, 7, none⟩ x7).setCell ⟨b, 8, none⟩ x8).setCell ⟨b, 9, none⟩ x9).setCell ⟨b, 10, none⟩ x10).setCell ⟨b, 11, none⟩ x11).setCell ⟨b, 12, none⟩ x12) := by
  refine ⟨ev, by rw [hV.1], ?_, (sd_put hB (by omega) hb x0 x1 x2 x3 x4 x5 x6 x7 x8 x9 x10 x11 x12).2⟩
  rw [hV.2.1, hV.2.2]
  rcases hev with h | ⟨h0, g, h1, h2⟩
  · exact Or.inl h
  · have hc := cell13 (w := x) (b := b) (g := g) (by rw [hwb]; exact hne g h1) x0 x1 x2 x3 x4 x5 x6 x7 x8 x9 x10 x11 x12
    exact Or.inr ⟨h0, g, h1, by rw [hc]; exact h2.1, by rw [hc]; exact h2.2.1, by rw [hc]; exact h2.2.2⟩
set_option maxRecDepth 100000 in
set_option maxHeartbeats 2000000 in
theorem default_any (a f : ByteArray) (w : World) (hC : Com w) : Calls Tryd.prog 4 #[.string a, .string f] w (DfQ a f w) := by
  have HC : Hid (Com w) := hC
  have HU : Hid (Below w.heap.size w (w.alloc (.cells zsd 25)) ∧ Box (w.alloc (.cells zsd 25)) w.heap.size zsd) := ⟨(Below.refl _ _).alloc (Nat.le_refl _) _, Box.new w zsd 25⟩
  clear hC
  go_enter Tryd.func4, Tryd.ntmps4
  go_wp2_with fail
  refine (isApp_any a _).mono ?_
  rintro _ w1 ⟨rfl, hb⟩
  have H1 : Hid (Below w.heap.size w w1 ∧ Box w1 w.heap.size zsd) := ⟨below_then HU.out.1 hb, HU.out.2.below hb⟩
  clear hb
  cases ha : isCd (bl a) with
  | false =>
    have HD : Hid (dfV a f = sdZ ∧ dfA a f = 1 ∧ dfC a f = 340) := by unfold Hid dfV dfA dfC; rw [ha]; exact ⟨rfl, rfl, rfl⟩
    clear ha
    go_wp2_with fail
    refine (tfault_any 1 340 (by decide) _).mono ?_
    rintro _ w2 ⟨ev, rfl, hev, hge, hb⟩
    have H2 : Hid (TEv w2 ev 1 340 ∧ Below w.heap.size w w2 ∧ Box w2 w.heap.size zsd ∧ w.heap.size < w1.heap.size) := ⟨hev, below_then H1.out.1 hb, H1.out.2.below hb, H1.out.2.lt⟩
    have HG : Hid (type_of% hge) := hge
    have kc := H2.out.2.2.1.cell
    have kf := H2.out.2.2.1.free
    clear hev hb hge
    go_wp2_with fail
    refine bodyPost_ret ?_ rfl (fin_sd HD.out H2.out.1 (fun g h => by have := HG.out g h; have := H2.out.2.2.2; omega) rfl H2.out.2.2.1 H2.out.2.1)
    simp [results, Tryd.results4, go_sem, kc]
  | true =>
    go_wp2_with fail
    refine (isFacility_any f _).mono ?_
    rintro _ w2 ⟨rfl, hb⟩
    have H2 : Hid (Below w.heap.size w w2 ∧ Box w2 w.heap.size zsd) := ⟨below_then H1.out.1 hb, H1.out.2.below hb⟩
    clear hb
    cases hf : facB f with
    | false =>
      have HD : Hid (dfV a f = sdZ ∧ dfA a f = 2 ∧ dfC a f = 340) := by unfold Hid dfV dfA dfC; rw [ha, hf]; exact ⟨rfl, rfl, rfl⟩
      clear ha hf
      go_wp2_with fail
      refine (tfault_any 2 340 (by decide) _).mono ?_
      rintro _ w3 ⟨ev, rfl, hev, hge, hb⟩
      have H3 : Hid (TEv w3 ev 2 340 ∧ Below w.heap.size w w3 ∧ Box w3 w.heap.size zsd ∧ w.heap.size < w2.heap.size) := ⟨hev, below_then H2.out.1 hb, H2.out.2.below hb, H2.out.2.lt⟩
      have HG : Hid (type_of% hge) := hge
      have kc := H3.out.2.2.1.cell
      have kf := H3.out.2.2.1.free
      clear hev hb hge
      go_wp2_with fail
      refine bodyPost_ret ?_ rfl (fin_sd HD.out H3.out.1 (fun g h => by have := HG.out g h; have := H3.out.2.2.2; omega) rfl H3.out.2.2.1 H3.out.2.1)
      simp [results, Tryd.results4, go_sem, kc]
    | true =>
      have HD : Hid (dfV a f = sdV a f ∧ dfA a f = 0 ∧ dfC a f = 0) := by unfold Hid dfV dfA dfC; rw [ha, hf]; exact ⟨rfl, rfl, rfl⟩
      have hc := HC.out.below H2.out.1
      unfold Com at hc
      have kc := H2.out.2.cell
      have kf := H2.out.2.free
      clear ha hf
      go_wp2_with fail
      refine bodyPost_ret ?_ rfl (fin_sd HD.out (Or.inl ⟨rfl, rfl⟩) (fun g h => by cases h) rfl H2.out.2 H2.out.1)
      simp [results, Tryd.results4, go_sem, kc]
set_option maxRecDepth 100000 in
set_option maxHeartbeats 2000000 in
theorem rDefault_any (a f : ByteArray) (w : World) : Calls Tryd.prog 5 #[.string a, .string f] w (RfQ a f w) := by
  have HNa : Hid (∀ w, Calls Tryd.prog 10 #[.string a] w fun e w' => e = .returned (.bool (isCd (bl a))) ∧ Below w.heap.size w w') := fun w => rName_any a w
  have HNf : Hid (∀ w, Calls Tryd.prog 10 #[.string f] w fun e w' => e = .returned (.bool (isCd (bl f))) ∧ Below w.heap.size w w') := fun w => rName_any f w
  have HU : Hid (Below w.heap.size w (w.alloc (.cells zsd 25)) ∧ Box (w.alloc (.cells zsd 25)) w.heap.size zsd) := ⟨(Below.refl _ _).alloc (Nat.le_refl _) _, Box.new w zsd 25⟩
  go_enter Tryd.func5, Tryd.ntmps5
  go_wp2_with fail
  refine (HNa.out _).mono ?_
  rintro _ w1 ⟨rfl, hb⟩
  have H1 : Hid (Below w.heap.size w w1 ∧ Box w1 w.heap.size zsd) := ⟨below_then HU.out.1 hb, HU.out.2.below hb⟩
  clear hb
  cases ha : isCd (bl a) with
  | false =>
    have HD : Hid (dfV a f = sdZ ∧ dfA a f = 1 ∧ dfC a f = 340) := by unfold Hid dfV dfA dfC; rw [ha]; exact ⟨rfl, rfl, rfl⟩
    clear ha
    go_wp2_with fail
    refine (rNo_any 1 340 (by decide) _).mono ?_
    rintro _ w2 ⟨ev, rfl, hev, hge, hb⟩
    have H2 : Hid (TNo w2 ev 1 340 ∧ Below w.heap.size w w2 ∧ Box w2 w.heap.size zsd ∧ w.heap.size < w1.heap.size) := ⟨hev, below_then H1.out.1 hb, H1.out.2.below hb, H1.out.2.lt⟩
    have HG : Hid (type_of% hge) := hge
    have kc := H2.out.2.2.1.cell
    have kf := H2.out.2.2.1.free
    clear hev hb hge
    go_wp2_with fail
    refine bodyPost_ret ?_ rfl (fin_rd HD.out H2.out.1 (fun g h => by have := HG.out g h; have := H2.out.2.2.2; omega) rfl H2.out.2.2.1 H2.out.2.1)
    simp [results, Tryd.results5, go_sem, kc]
  | true =>
    cases hn : f.toList.isEmpty with
    | true =>
      have hf : facB f = true := by unfold facB bl; rw [← Lib.toList_data, hn]; rfl
      have HD : Hid (dfV a f = sdV a f ∧ dfA a f = 0 ∧ dfC a f = 0) := by unfold Hid dfV dfA dfC; rw [ha, hf]; exact ⟨rfl, rfl, rfl⟩
      have kc := H1.out.2.cell
      have kf := H1.out.2.free
      clear ha hf
      go_wp2_with fail
      refine bodyPost_ret ?_ rfl (fin_rd HD.out (Or.inl ⟨rfl, rfl⟩) (fun g h => by cases h) rfl H1.out.2 H1.out.1)
      simp [results, Tryd.results5, go_sem, kc]
    | false =>
      have HF : Hid (facB f = isCd (bl f)) := by unfold Hid facB bl; rw [← Lib.toList_data, hn]; rfl
      go_wp2_with fail
      refine (HNf.out _).mono ?_
      rintro _ w2 ⟨rfl, hb⟩
      have H2 : Hid (Below w.heap.size w w2 ∧ Box w2 w.heap.size zsd) := ⟨below_then H1.out.1 hb, H1.out.2.below hb⟩
      clear hb
      cases hf : isCd (bl f) with
      | false =>
        have HD : Hid (dfV a f = sdZ ∧ dfA a f = 2 ∧ dfC a f = 340) := by unfold Hid dfV dfA dfC; rw [ha, HF.out, hf]; exact ⟨rfl, rfl, rfl⟩
        clear ha hf
        go_wp2_with fail
        refine (rNo_any 2 340 (by decide) _).mono ?_
        rintro _ w3 ⟨ev, rfl, hev, hge, hb⟩
        have H3 : Hid (TNo w3 ev 2 340 ∧ Below w.heap.size w w3 ∧ Box w3 w.heap.size zsd ∧ w.heap.size < w2.heap.size) := ⟨hev, below_then H2.out.1 hb, H2.out.2.below hb, H2.out.2.lt⟩
        have HG : Hid (type_of% hge) := hge
        have kc := H3.out.2.2.1.cell
        have kf := H3.out.2.2.1.free
        clear hev hb hge
        go_wp2_with fail
        refine bodyPost_ret ?_ rfl (fin_rd HD.out H3.out.1 (fun g h => by have := HG.out g h; have := H3.out.2.2.2; omega) rfl H3.out.2.2.1 H3.out.2.1)
        simp [results, Tryd.results5, go_sem, kc]
      | true =>
        have HD : Hid (dfV a f = sdV a f ∧ dfA a f = 0 ∧ dfC a f = 0) := by unfold Hid dfV dfA dfC; rw [ha, HF.out, hf]; exact ⟨rfl, rfl, rfl⟩
        have kc := H2.out.2.cell
        have kf := H2.out.2.free
        clear ha hf
        go_wp2_with fail
        refine bodyPost_ret ?_ rfl (fin_rd HD.out (Or.inl ⟨rfl, rfl⟩) (fun g h => by cases h) rfl H2.out.2 H2.out.1)
        simp [results, Tryd.results5, go_sem, kc]
end Go.Proofs.YtgcdddkebehajaaDoor.Su
