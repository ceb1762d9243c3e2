/-
  The program's partsOf.
-/
import Derived.Test.YtjdpjielpbiedaaGreatDoorKPrim
import Derived.Test.YtjdpjielpbiedaaGreatDoorKRow
import Derived.Deep.MidRow
import Derived.Deep.WholeRow
namespace Go.Proofs.YtjdpjielpbiedaaGreatDoor.Td
open Go.RowKit

/-- What the table of kinds with parts holds. -/
abbrev cpA : Array Value := #[.string ⟨#[72, 68]⟩, .string ⟨#[73, 83, 32, 83, 84, 32, 73, 68]⟩, .string ⟨#[69, 73]⟩, .string ⟨#[83, 84, 42, 32, 73, 83, 32, 83, 84, 32, 73, 68]⟩, .string ⟨#[67, 69]⟩, .string ⟨#[83, 84, 32, 83, 84, 32, 73, 68, 32, 83, 84, 32, 83, 84, 32, 73, 68]⟩, .string ⟨#[67, 87, 69]⟩, .string ⟨#[83, 84, 32, 83, 84, 32, 73, 68, 32, 83, 84, 32, 83, 84, 32, 73, 68, 32, 83, 84, 32, 83, 84, 32, 83, 84]⟩, .string ⟨#[77, 83, 71]⟩, .string ⟨#[73, 68, 48, 48, 55, 54, 42, 32, 73, 68, 48, 48, 48, 51, 32, 73, 68]⟩, .string ⟨#[80, 84]⟩, .string ⟨#[73, 68, 48, 49, 48, 51, 42, 32, 73, 68]⟩, .string ⟨#[86, 73, 68]⟩, .string ⟨#[73, 68, 48, 49, 48, 52, 42, 32, 67, 69, 32, 67, 69]⟩, .string ⟨#[69, 82, 76]⟩, .string ⟨#[83, 84, 42, 32, 83, 73, 42, 32, 83, 73, 32, 83, 73, 32, 83, 73, 32, 83, 73]⟩, .string ⟨#[67, 88]⟩, .string ⟨#[83, 84, 42, 32, 83, 84, 32, 73, 68, 32, 72, 68, 32, 73, 68]⟩, .string ⟨#[70, 78]⟩, .string ⟨#[83, 84, 42, 32, 83, 84, 32, 83, 84, 32, 83, 84, 32, 83, 84]⟩, .string ⟨#[88, 80, 78]⟩, .string ⟨#[70, 78, 32, 83, 84, 32, 83, 84, 32, 83, 84, 32, 83, 84, 32, 73, 68]⟩, .string ⟨#[80, 76]⟩, .string ⟨#[73, 83, 32, 73, 83, 32, 73, 83, 32, 72, 68, 32, 73, 83, 32, 73, 68]⟩]
def Cmps (w : World) : Prop := ∀ o, w.cell? ⟨1, o, none⟩ = cpA[o]?
theorem Cmps.below {w w' : World} (h : Cmps w) (hb : Below w.heap.size w w') : Cmps w' := fun o => by
  have hl := cell_lt (show w.cell? ⟨1, 0, none⟩ = some (.string ⟨#[72, 68]⟩) from h 0)
  rw [hb.cell (p := ⟨1, o, none⟩) hl]; exact h o
/-- One row of it. -/
def CRow (i : Nat) (nm tx : ByteArray) : Prop := (∀ w, (Instr.index 74 (.agg cpA) (.int .i64 (i : Int))).run Tryz.prog w = .ok (.agg #[.string nm, .string tx]) w) ∧ cmpT[i]? = some (bl nm, bl tx) ∧ tx.size ≤ 90 ∧ (tx.data.toList.all fun b => decide (b.toNat < 128)) = true ∧ (Lib.fields (bl tx)).length ≤ 10 ∧ ∀ x ∈ Lib.fields (bl tx), x.length ≤ 90
theorem crow_at (i : Nat) (h : i < 12) : ∃ nm tx, CRow i nm tx := by
  rcases (by omega : i = 0 ∨ i = 1 ∨ i = 2 ∨ i = 3 ∨ i = 4 ∨ i = 5 ∨ i = 6 ∨ i = 7 ∨ i = 8 ∨ i = 9 ∨ i = 10 ∨ i = 11) with rfl | rfl | rfl | rfl | rfl | rfl | rfl | rfl | rfl | rfl | rfl | rfl
  · exact ⟨⟨#[72, 68]⟩, ⟨#[73, 83, 32, 83, 84, 32, 73, 68]⟩, fun w => by kernel_rfl, by rfl, by decide, by decide, by decide, by decide⟩
  · exact ⟨⟨#[69, 73]⟩, ⟨#[83, 84, 42, 32, 73, 83, 32, 83, 84, 32, 73, 68]⟩, fun w => by kernel_rfl, by rfl, by decide, by decide, by decide, by decide⟩
  · exact ⟨⟨#[67, 69]⟩, ⟨#[83, 84, 32, 83, 84, 32, 73, 68, 32, 83, 84, 32, 83, 84, 32, 73, 68]⟩, fun w => by kernel_rfl, by rfl, by decide, by decide, by decide, by decide⟩
  · exact ⟨⟨#[67, 87, 69]⟩, ⟨#[83, 84, 32, 83, 84, 32, 73, 68, 32, 83, 84, 32, 83, 84, 32, 73, 68, 32, 83, 84, 32, 83, 84, 32, 83, 84]⟩, fun w => by kernel_rfl, by rfl, by decide, by decide, by decide, by decide⟩
  · exact ⟨⟨#[77, 83, 71]⟩, ⟨#[73, 68, 48, 48, 55, 54, 42, 32, 73, 68, 48, 48, 48, 51, 32, 73, 68]⟩, fun w => by kernel_rfl, by rfl, by decide, by decide, by decide, by decide⟩
  · exact ⟨⟨#[80, 84]⟩, ⟨#[73, 68, 48, 49, 48, 51, 42, 32, 73, 68]⟩, fun w => by kernel_rfl, by rfl, by decide, by decide, by decide, by decide⟩
  · exact ⟨⟨#[86, 73, 68]⟩, ⟨#[73, 68, 48, 49, 48, 52, 42, 32, 67, 69, 32, 67, 69]⟩, fun w => by kernel_rfl, by rfl, by decide, by decide, by decide, by decide⟩
  · exact ⟨⟨#[69, 82, 76]⟩, ⟨#[83, 84, 42, 32, 83, 73, 42, 32, 83, 73, 32, 83, 73, 32, 83, 73, 32, 83, 73]⟩, fun w => by kernel_rfl, by rfl, by decide, by decide, by decide, by decide⟩
  · exact ⟨⟨#[67, 88]⟩, ⟨#[83, 84, 42, 32, 83, 84, 32, 73, 68, 32, 72, 68, 32, 73, 68]⟩, fun w => by kernel_rfl, by rfl, by decide, by decide, by decide, by decide⟩
  · exact ⟨⟨#[70, 78]⟩, ⟨#[83, 84, 42, 32, 83, 84, 32, 83, 84, 32, 83, 84, 32, 83, 84]⟩, fun w => by kernel_rfl, by rfl, by decide, by decide, by decide, by decide⟩
  · exact ⟨⟨#[88, 80, 78]⟩, ⟨#[70, 78, 32, 83, 84, 32, 83, 84, 32, 83, 84, 32, 83, 84, 32, 73, 68]⟩, fun w => by kernel_rfl, by rfl, by decide, by decide, by decide, by decide⟩
  · exact ⟨⟨#[80, 76]⟩, ⟨#[73, 83, 32, 73, 83, 32, 73, 83, 32, 72, 68, 32, 73, 83, 32, 73, 68]⟩, fun w => by kernel_rfl, by rfl, by decide, by decide, by decide, by decide⟩
/-- A list of parts of the call's own. -/
def ptV (p : List UInt8 × Bool) : List Value := [.string (mkS p.1), .bool p.2]
def PRow (w : World) (B : Nat) (v : Value) (ps : List (List UInt8 × Bool)) : Prop := w.ownsRow B 53 2 v ps.length (ps.flatMap ptV)
theorem ptV_length (ps : List (List UInt8 × Bool)) : (ps.flatMap ptV).length = ps.length * 2 := by
  induction ps with
  | nil => rfl
  | cons p ps ih => rw [List.flatMap_cons, List.length_append, ih]; simp [ptV]; omega
theorem ptV_get : ∀ (ps : List (List UInt8 × Bool)) (j : Nat) (p : List UInt8 × Bool), ps[j]? = some p → (ps.flatMap ptV)[j * 2]? = some (.string (mkS p.1)) ∧ (ps.flatMap ptV)[j * 2 + 1]? = some (.bool p.2)
  | [], j, p, h => by simp at h
  | q :: ps, 0, p, h => by
    simp only [List.getElem?_cons_zero, Option.some.injEq] at h
    subst h
    exact ⟨rfl, rfl⟩
  | q :: ps, j + 1, p, h => by
    rw [List.getElem?_cons_succ] at h
    obtain ⟨h1, h2⟩ := ptV_get ps j p h
    rw [List.flatMap_cons, List.getElem?_append_right (by simp [ptV]; omega), List.getElem?_append_right (by simp [ptV]; omega)]
    have e1 : (j + 1) * 2 - (ptV q).length = j * 2 := by simp [ptV]; omega
    have e2 : (j + 1) * 2 + 1 - (ptV q).length = j * 2 + 1 := by simp [ptV]; omega
    rw [e1, e2]
    exact ⟨h1, h2⟩
theorem PRow.nil (w : World) (B : Nat) : PRow w B (.slice none 0 0) [] := World.ownsRow_nil w B _ 2
theorem PRow.isSlice {w : World} {B : Nat} {v : Value} {ps : List (List UInt8 × Bool)} (h : PRow w B v ps) : ∃ a c, v = .slice a ps.length c ∧ (0 < ps.length → ∃ g, a = some ⟨g, 0, none⟩) := by
  rcases h.2 with ⟨rfl, h0⟩ | ⟨g, cap, cur, rfl, _⟩
  · exact ⟨_, _, by rw [h0], fun q => by omega⟩
  · exact ⟨_, _, rfl, fun _ => ⟨g, rfl⟩⟩
theorem PRow.below {w w' : World} {B : Nat} {v : Value} {xs : List (List UInt8 × Bool)} (h : PRow w B v xs) (hk : Below w.heap.size w w') : PRow w' B v xs := by
  refine ⟨h.1, ?_⟩
  rcases h.2 with h | ⟨g, cap, cur, hv, hbg, hg, r⟩
  · exact Or.inl h
  · refine Or.inr ⟨g, cap, cur, hv, hbg, ?_, r⟩
    rw [hk.block g (by rcases Nat.lt_or_ge g w.heap.size with q | q
                       · exact q
                       · rw [Array.getElem?_eq_none q] at hg; cases hg)]
    exact hg
theorem PRow.slot {w : World} {B g n cap : Nat} {ps : List (List UInt8 × Bool)} (h : PRow w B (.slice (some ⟨g, 0, none⟩) n cap) ps) {j : Nat} {p : List UInt8 × Bool} (hj : ps[j]? = some p) : w.cell? ⟨g, j * 2, none⟩ = some (.string (mkS p.1)) ∧ w.cell? ⟨g, j * 2 + 1, none⟩ = some (.bool p.2) := by
  obtain ⟨h1, h2⟩ := ptV_get ps j p hj
  have hcl := fun j u hu => World.ownsRow.cells h (g := g) rfl j u hu
  have c1 := hcl _ _ h1
  have c2 := hcl _ _ h2
  rw [Addr.add_lit, Nat.zero_add] at c1 c2
  exact ⟨c1, c2⟩
theorem PRow.off {P : Nat → Prop} {w w' : World} {B : Nat} {v : Value} {xs : List (List UInt8 × Bool)} (h : PRow w B v xs) (o : Off P w w') (hP : ∀ g, v.ownBlock = some g → ¬ P g) : PRow w' B v xs := by
  refine ⟨h.1, ?_⟩
  rcases h.2 with h | ⟨g, cap, cur, hv, hbg, hg, r⟩
  · exact Or.inl h
  · refine Or.inr ⟨g, cap, cur, hv, hbg, ?_, r⟩
    rw [o.block g (by rcases Nat.lt_or_ge g w.heap.size with q | q
                      · exact q
                      · rw [Array.getElem?_eq_none q] at hg; cases hg) (hP g (by rw [hv]; rfl))]
    exact hg
theorem infoPart : ∃ i z, Tryz.prog.info? 53 = some i ∧ i.zero = some z ∧ z.cells.size = 2 ∧ i.size = 2 ∧ i.bytes = 24 := by
  have h : (Tryz.prog.info? 53).map (fun i => (i.zero.map (fun z => z.cells.size), i.size, i.bytes)) = some (some 2, 2, 24) := by kernel_rfl
  obtain ⟨i, hi, e⟩ := Option.map_eq_some_iff.1 h
  simp only [Prod.mk.injEq] at e
  obtain ⟨z, hz, e1⟩ := Option.map_eq_some_iff.1 e.1
  exact ⟨i, z, hi, hz, e1, e.2.1, e.2.2⟩
/-- One more part. -/
theorem run_ppush {w : World} {B : Nat} {v : Value} {xs : List (List UInt8 × Bool)} (h : PRow w B v xs) (hB : B ≤ w.heap.size) (hl : xs.length + 1 ≤ 1000) (p : List UInt8 × Bool) (Y : ByteArray) (q : Bool) (hY : Y = mkS p.1) (hq : q = p.2) :
    ∃ a c w', (Builtin.append_ #[49, 49] 49 #[v, .slice (some ⟨w.heap.size, 0, none⟩) 1 1]).run Tryz.prog (w.alloc (.cells #[.string Y, .bool q] 53)) = .ok (.slice a (xs.length + 1) c) w' ∧ PRow w' B (.slice a (xs.length + 1) c) (xs ++ [p]) ∧ Below B w w' ∧ Off (fun k => v.ownBlock = some k) w w' := by
  subst hY
  subst hq
  obtain ⟨i, z, hi, hz, hzs, hs, hby⟩ := infoPart
  have bW : Below w.heap.size w (w.alloc (.cells #[.string (mkS p.1), .bool p.2] 53)) := (Below.refl _ _).alloc (Nat.le_refl _) _
  have hrow : PRow (w.alloc (.cells #[.string (mkS p.1), .bool p.2] 53)) B v xs := h.below bW
  obtain ⟨v', w', hr, r, hg, _⟩ := run_append_own (P := Tryz.prog) (w.alloc (.cells #[.string (mkS p.1), .bool p.2] 53)) B 49 49 53 i z 2 24 Tryz.underlying49 hi hz hs hby hzs (by omega) v xs.length (xs.flatMap ptV) hrow ⟨w.heap.size, 0, none⟩ 1 1 (ptV p) rfl (fun j u hu => by
      rw [show (⟨w.heap.size, 0, none⟩ : Addr).add j = ⟨w.heap.size, j, none⟩ by rw [Addr.add_lit, Nat.zero_add], cell_new]
      simpa [ptV] using hu) (fun u hu => by simp only [ptV, List.mem_cons, List.not_mem_nil, or_false] at hu; rcases hu with rfl | rfl <;> rfl) (by unfold maxLen; omega) (by omega) (by simp; omega)
  have hR : PRow w' B v' (xs ++ [p]) := by
    unfold PRow
    simpa using r
  obtain ⟨a, c, rfl, _⟩ := hR.isSlice
  simp only [List.length_append, List.length_singleton] at hr hR
  refine ⟨a, c, w', hr, hR, ?_, ((Off.refl _ w).alloc _).trans (Off.of_grown hg)⟩
  refine Below.trans ⟨bW.os, bW.tape, bW.output, bW.size, fun k hk => bW.block k (by omega)⟩ (below_grown hg (by simp; omega) (fun g e => ?_))
  rcases h.2 with ⟨rfl, h0⟩ | ⟨g', cap, cur, rfl, hbg, _⟩
  · cases e
  · simp [Value.ownBlock] at e; omega
/-- What CutSuffix makes of a word. -/
theorem cut_is (x : List UInt8) : (Lib.trimSuffix x [42], Lib.hasSuffix x [42]) = cutW x := by
  have h : Lib.hasSuffix x [42] = decide (x.getLast? = some 42) := by
    unfold Lib.hasSuffix
    rw [Bool.eq_iff_iff, List.isSuffixOf_iff_suffix, decide_eq_true_iff]
    constructor
    · rintro ⟨t, rfl⟩; simp
    · intro h; obtain ⟨y, rfl⟩ := List.getLast?_eq_some_iff.1 h; exact ⟨y, rfl⟩
  unfold Lib.trimSuffix cutW
  rw [h]
  by_cases g : x.getLast? = some 42
  · simp [g, List.dropLast_eq_take]
  · simp [g]
def PoQ (ps : List (List UInt8 × Bool)) (w : World) (e : Ending) (w' : World) : Prop := ∃ v, e = .returned v ∧ PRow w' w.heap.size v ps ∧ Below w.heap.size w w'
structure KV (w : World) : Prop where
  tabs : Tabs w
  spc : Spc w
  cmps : Cmps w
theorem KV.below {w w' : World} (h : KV w) (hb : Below w.heap.size w w') : KV w' := ⟨h.tabs.below hb, h.spc.below hb, h.cmps.below hb⟩
set_option maxRecDepth 100000 in
set_option maxHeartbeats 4000000 in
theorem partsOf_prim (k : ByteArray) (w : World) (hV : KV w) (hp : prB (bl k) = true) : Calls Tryz.prog 17 #[.string k] w (PoQ [(bl k, false)] w) := by
  have H1 := (pm_any k).1 w hV.tabs hV.spc
  rw [hp] at H1
  clear hV hp
  go_enter Tryz.func17, Tryz.ntmps17
  go_wp2_with fail
  refine H1.mono ?_
  rintro e w1 ⟨⟨_, s, fa, fb, a, n, c, rfl⟩ | ⟨q, _⟩, hb⟩
  · have HB : Hid (Below w.heap.size w w1) := hb
    clear hb H1
    go_wp2_with fail
    go_ret
    refine ⟨_, rfl, ⟨rfl, Or.inr ⟨_, 1, #[.string k, .bool false], rfl, ?_, ?_, Nat.le_refl _, by decide, rfl, rfl⟩⟩, ?_⟩
    · have := HB.out.size; simp; omega
    · rw [← show (w1.alloc (.cells #[.string s, .func (.func fa) #[] #[], .func (.func fb) #[] #[], .slice a n c] 70)).heap.size = w1.heap.size + 1 by simp]; exact heap_alloc_last _ _
    · have := HB.out.size
      exact (HB.out.alloc this _).alloc (by simp; omega) _
  · cases q
set_option maxRecDepth 100000 in
set_option maxHeartbeats 8000000 in
theorem partsOf_rest (k : ByteArray) (w : World) (hV : KV w) (hp : prB (bl k) = false) : Calls Tryz.prog 17 #[.string k] w (PoQ (acc (bl k) 12) w) := by
  have H1 := (pm_any k).1 w hV.tabs hV.spc
  rw [hp] at H1
  have HV : Hid (KV w) := hV
  clear hV hp
  go_enter Tryz.func17, Tryz.ntmps17
  go_wp2_with fail
  refine H1.mono ?_
  rintro e w1 ⟨⟨q, _⟩ | ⟨_, rfl⟩, hb⟩
  · cases q
  have HB1 : Hid (Below w.heap.size w (w1.alloc (.cells #[.string ⟨#[]⟩, .nilFunc, .nilFunc, .slice none 0 0] 70))) := hb.alloc hb.size _
  clear hb H1
  have hr : (w1.alloc (.cells #[.string ⟨#[]⟩, .nilFunc, .nilFunc, .slice none 0 0] 70)).rangeAt 1 0 cpA.toList := fun j v hv => by
    rw [Nat.zero_add, HV.out.cmps.below HB1.out j, ← Array.getElem?_toList]; exact hv
  go_wp2_with (refine wpList_load_mid rfl 74 (.global 1) rfl 1 0 rfl cpA.toList _ hr Tryz.underlying74 rfl (by kernel_rfl) ?_)
  clear hr
  obtain ⟨W, hW⟩ : ∃ W, w1.alloc (.cells #[.string ⟨#[]⟩, .nilFunc, .nilFunc, .slice none 0 0] 70) = W := ⟨_, rfl⟩
  rw [hW] at HB1 ⊢
  clear hW
  have hrow : ∀ i, i < 12 → ∃ nm tx, CRow i nm tx := crow_at
  unfold CRow at hrow
  obtain ⟨A, hA⟩ : ∃ A, cpA = A := ⟨_, rfl⟩
  rw [show cpA.toList.toArray = cpA from rfl, hA]
  rw [hA] at hrow
  have HR : Hid (type_of% hrow) := hrow
  clear hA hrow
  go_loopw [5, 22] (fun t5 t22 wx => ∃ (i : Nat) (a : Option Addr) (c : Nat), i ≤ 12 ∧ t22 = .int .i64 i ∧ t5 = .slice a (acc (bl k) i).length c ∧ Hid (PRow wx w.heap.size (.slice a (acc (bl k) i).length c) (acc (bl k) i) ∧ (acc (bl k) i).length ≤ 10 * i ∧ Below w.heap.size w wx)) (fun _ t22 _ => 12 - (intOf t22).toNat)
  case atStart => exact ⟨0, none, 0, Nat.zero_le _, rfl, rfl, PRow.nil _ _, Nat.zero_le _, HB1.out⟩
  case round =>
    obtain ⟨i, a, c, hi, rfl, rfl, HI⟩ := hrel
    by_cases hlt : i < 12
    · have hlt1 : (i : Int) < 12 := by omega
      obtain ⟨nm, tx, hix, hat, hsz, hasc, hfl, hfw⟩ := HR.out i hlt
      have HX : Hid (cmpT[i]? = some (bl nm, bl tx) ∧ tx.size ≤ 90 ∧ (tx.data.toList.all fun b => decide (b.toNat < 128)) = true ∧ (Lib.fields (bl tx)).length ≤ 10 ∧ ∀ x ∈ Lib.fields (bl tx), x.length ≤ 90) := ⟨hat, hsz, hasc, hfl, hfw⟩
      clear hat hsz hasc hfl hfw
      cases q : (nm.toList == k.toList) with
      | false =>
        have HE : Hid (acc (bl k) (i + 1) = acc (bl k) i) := by
          unfold Hid
          rw [acc_succ (bl k) HX.out.1, if_neg (by rw [Lib.toList_data, Lib.toList_data] at q; simp [bl, q]), List.append_nil]
        obtain ⟨n0, hn0⟩ : ∃ n0, (acc (bl k) i).length = n0 := ⟨_, rfl⟩
        rw [hn0] at HI
        rw [hn0]
        go_wp2_with fail
        go_roundw
        case rel =>
          refine ⟨i + 1, a, c, hlt, by go_num, by rw [HE.out, hn0], ?_⟩
          unfold Hid
          rw [HE.out, hn0]
          have hb := HI.out.2.2
          exact ⟨HI.out.1.below ((Below.refl _ _).alloc (Nat.le_refl _) _), by have := HI.out.2.1; omega, hb.alloc hb.size _⟩
        case measure => simp [intOf]; omega
      | true =>
        obtain ⟨L, hL⟩ : ∃ L, Lib.fields (bl tx) = L := ⟨_, rfl⟩
        have HE : Hid (acc (bl k) (i + 1) = acc (bl k) i ++ L.map cutW) := by
          unfold Hid
          rw [acc_succ (bl k) HX.out.1, if_pos (by rw [Lib.toList_data, Lib.toList_data] at q; exact q), hL]
        obtain ⟨ps, hps⟩ : ∃ ps, acc (bl k) i = ps := ⟨_, rfl⟩
        have HF : Hid (∀ x, Below w.heap.size w x → Calls Tryz.prog 22 #[.string tx] x fun e x' => e = .returned (.slice (some ⟨x.heap.size, 0, none⟩) L.length L.length) ∧ Hid (VRow x' x.heap.size 9 (.slice (some ⟨x.heap.size, 0, none⟩) L.length L.length) (strs L) ∧ Below x.heap.size x x')) := fun x hx => by
          have c := Tryz.strings_Fields tx x (by have := HX.out.2.1; omega) (ascii_of HX.out.2.2.1) (HV.out.spc.below hx)
          rw [show Lib.fields tx.data.toList = L from hL] at c
          refine c.mono ?_
          rintro _ x' ⟨rfl, rfl⟩
          exact ⟨rfl, by have := VRow.new x (strs L) 9 (by rw [strs_length, ← hL]; have := HX.out.2.2.2.1; omega); rw [strs_length] at this; exact this, (Below.refl _ _).alloc (Nat.le_refl _) _⟩
        have HL : Hid (L.length ≤ 10 ∧ ∀ x ∈ L, x.length ≤ 90) := by rw [hL] at HX; exact HX.out.2.2.2
        rw [hps] at HE HI
        rw [hps]
        clear hps hL HX
        obtain ⟨n0, hn0⟩ : ∃ n0, ps.length = n0 := ⟨_, rfl⟩
        have HN : Hid (ps.length = n0) := hn0
        rw [hn0] at HI
        rw [hn0]
        clear hn0
        go_wp2_with fail
        refine (HF.out _ (HI.out.2.2.alloc HI.out.2.2.size _)).mono ?_
        rintro _ w2 ⟨rfl, H2⟩
        have H3 : Hid (PRow w2 w.heap.size (.slice a n0 c) ps ∧ n0 ≤ 10 * i ∧ VRow w2 w.heap.size 9 (.slice (some ⟨wr.heap.size + 1, 0, none⟩) L.length L.length) (strs L) ∧ Below w.heap.size w w2) := by
          have hb : Below wr.heap.size wr w2 := ((Below.refl _ _).alloc (Nat.le_refl _) _).trans (H2.out.2.mono (by simp))
          exact ⟨HI.out.1.below hb, HI.out.2.1, VRow.base (by simpa using H2.out.1) (by have := HI.out.2.2.size; omega), below_then HI.out.2.2 hb⟩
        obtain ⟨G, hG⟩ : ∃ G, wr.heap.size + 1 = G := ⟨_, rfl⟩
        obtain ⟨m, hm⟩ : ∃ m, L.length = m := ⟨_, rfl⟩
        have HM : Hid (L.length = m) := hm
        simp only [World.size_alloc]
        rw [hG, hm] at H3
        rw [hG, hm]
        clear hG hm H2 HF HI q
        have hm10 : m ≤ 10 := by have := HM.out; have := HL.out.1; omega
        go_wp2_with fail
        go_loopw [5, 33] (fun t5 t33 wx => ∃ (j : Nat) (a : Option Addr) (c : Nat), j ≤ m ∧ t33 = .int .i64 j ∧ t5 = .slice a (n0 + j) c ∧ Hid (PRow wx w.heap.size (.slice a (n0 + j) c) (ps ++ (L.take j).map cutW) ∧ VRow wx w.heap.size 9 (.slice (some ⟨G, 0, none⟩) m m) (strs L) ∧ Below w.heap.size w wx)) (fun _ t33 _ => m - (intOf t33).toNat)
        case atStart => exact ⟨0, a, c, Nat.zero_le _, rfl, rfl, by simpa using H3.out.1, H3.out.2.2.1, H3.out.2.2.2⟩
        case round =>
          obtain ⟨j, a, c, hj, rfl, rfl, HJ⟩ := hrel
          by_cases hjl : j < m
          · have hjl1 : (j : Int) < m := by omega
            obtain ⟨x, hx⟩ : ∃ x, L[j]? = some x := ⟨_, List.getElem?_eq_getElem (by have := HM.out; omega)⟩
            have hcell : wr.cell? ⟨G, j, none⟩ = some (.string ⟨x.toArray⟩) := HJ.out.2.1.slot (strs_get hx)
            obtain ⟨S, hS⟩ : ∃ S : ByteArray, (⟨x.toArray⟩ : ByteArray) = S := ⟨_, rfl⟩
            obtain ⟨Y, qq, hY, hq, HC⟩ : ∃ Y qq, Y = mkS (cutW x).1 ∧ qq = (cutW x).2 ∧ Hid (∀ x, Calls Tryz.prog 32 #[.string S, .string ⟨#[42]⟩] x fun e x' => e = .returned (.tuple #[.string Y, .bool qq]) ∧ x' = x) := by
              have e1 : S.data.toList = x := by rw [← hS]
              have hz : S.size ≤ 9223372036854775807 := by
                have h1 := HL.out.2 x (List.mem_of_getElem? hx)
                have h2 : S.size = x.length := by rw [← e1]; exact (bl_len S).symm
                omega
              refine ⟨_, _, ?_, ?_, fun y => Tryz.strings_CutSuffix S ⟨#[42]⟩ y hz⟩
              · rw [e1, ← cut_is]
              · rw [e1, ← cut_is]
            rw [hS] at hcell
            obtain ⟨a3, c3, w3, e3, r3, b3, o3⟩ := run_ppush HJ.out.1 HJ.out.2.2.size (by have := HL.out.1; have := HM.out; have := HN.out; have := H3.out.2.1; simp; omega) (cutW x) Y qq hY hq
            have el : (ps ++ (L.take j).map cutW).length = n0 + j := by rw [List.length_append, List.length_map, List.length_take, HM.out, HN.out]; omega
            rw [el] at e3 r3
            have HK : Hid (PRow w3 w.heap.size (.slice a3 (n0 + (j + 1)) c3) (ps ++ (L.take (j + 1)).map cutW) ∧ VRow w3 w.heap.size 9 (.slice (some ⟨G, 0, none⟩) m m) (strs L) ∧ Below w.heap.size w w3) := by
              have e4 : ps ++ (L.take (j + 1)).map cutW = ps ++ (L.take j).map cutW ++ [cutW x] := by
                rw [List.take_add_one, hx, Option.toList_some, List.map_append, List.append_assoc]; rfl
              exact ⟨by rw [e4]; exact r3, HJ.out.2.1.off o3 (fun g hg hg' => rows_ne HJ.out.1 HJ.out.2.1 (by decide) g hg' hg), HJ.out.2.2.trans b3⟩
            clear r3 b3 o3 hS hY hq hx el
            go_wp2_with fail
            refine (HC.out _).mono ?_
            rintro _ w9 ⟨rfl, hw⟩
            subst w9
            go_wp2_with (at_builtin; refine wpList_append_run rfl (.tmp 42) (.tmp 46) 49 _ rfl e3 ?_)
            go_roundw
            case rel => exact ⟨j + 1, a3, c3, hjl, by go_num, rfl, HK⟩
            case measure => simp [intOf]; omega
          · have hjl1 : ¬ (j : Int) < m := by omega
            obtain rfl : j = m := by omega
            go_wp2_with fail
            go_roundw
            case rel =>
              have hr := HJ.out.1
              rw [List.take_of_length_le (by have := HM.out; omega), ← HE.out] at hr
              have hn : n0 + j = (acc (bl k) (i + 1)).length := by rw [HE.out, List.length_append, List.length_map, HM.out, HN.out]
              rw [hn] at hr
              exact ⟨i + 1, a, c, hlt, by go_num, by rw [hn], hr, by have := HL.out.1; have := HM.out; have := H3.out.2.1; omega, HJ.out.2.2⟩
            case measure => simp [intOf]; omega
    · have hlt1 : ¬ (i : Int) < 12 := by omega
      obtain rfl : i = 12 := by omega
      go_wp2_with fail
      go_ret
      exact ⟨_, rfl, HI.out.1, HI.out.2.2⟩
end Go.Proofs.YtjdpjielpbiedaaGreatDoor.Td
