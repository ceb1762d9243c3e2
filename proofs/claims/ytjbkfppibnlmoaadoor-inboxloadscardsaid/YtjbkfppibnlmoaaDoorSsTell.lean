/-
  The strong pair: tells, all.
-/
import Derived.Test.YtjbkfppibnlmoaaDoorSxCl
namespace Go.Proofs.YtjbkfppibnlmoaaDoor
open Go.RowKit

section
variable {W w w' w2 : World} {X K n m : Nat} {bv mk ke rm L : Value} {o : Option (Int × Int)} {A A' : List Ent} {τ τ' : Nat → Nat} {P : Nat → Prop}
theorem SQ.lift (hb : Below w.heap.size w w2) (h : SQ W X K bv mk ke rm L o A A' τ n m w2 w' P) (hP : ∀ q, P q → w.heap.size ≤ q) : SQ W X K bv mk ke rm L o A A' τ n m w w' (fun _ => False) := by
  obtain ⟨τ', a1, a2⟩ := h
  exact ⟨τ', a1, (Off.of_below hb).trans a2.off, fun q hq _ => a2.keep q (Nat.lt_of_lt_of_le hq hb.size) fun p => by have := hP q p; omega, fun q _ p => p.elim⟩
theorem SQ.ss {P : Nat → Prop} (h : SQ W X K bv mk ke rm L o A A' τ n m w w' P) : ∃ τ', SS W X K bv mk ke rm L o A A' τ' n m w' := by
  obtain ⟨τ', a1, _⟩ := h
  exact ⟨τ', a1⟩
theorem SQ.sx {P : Nat → Prop} (h : SQ W X K bv mk ke rm L o A A' τ n m w w' P) : SX W X bv mk ke rm L o A A' w' := by
  obtain ⟨τ', a1, _⟩ := h
  exact a1.sx
theorem SQ.mono {P : Nat → Prop} {n' m' : Nat} (h : SQ W X K bv mk ke rm L o A A' τ n m w w' P) (hn : n ≤ n') (hm : m ≤ m') : SQ W X K bv mk ke rm L o A A' τ n' m' w w' P := by
  obtain ⟨τ', a1, a2⟩ := h
  exact ⟨τ', a1.mono hn hm, a2⟩
/-- One more list of entries. -/
theorem SQ.list (h : SQ W X K bv mk ke rm L o A A' τ n m w w' P) {a : Option Addr} {k : Nat} {ls : List Ent} (hr : NRow w W.heap.size (.slice a k k) ls) (hrz : ∀ q, (Value.slice a k k).ownBlock = some q → τ q = 0 ∧ ¬ P q) (hl : ∀ l ∈ ls, TkE w W.heap.size τ l ∧ ∀ q, Blk l q → ¬ P q) (hs : SepL ls) (hk : k ≤ 1000) (hn : n ≤ 900000) (hm : m + 1 ≤ 80) : Calls Tryd.prog 43 #[.pointer (some ⟨X, 0, none⟩), .slice a k k] w' fun e w1 => e = .returned (.tuple #[]) ∧ Hid (SQ W X K bv mk ke rm L o A A' τ (n + 3 * k) (m + 1) w w1 (fun q => P q ∨ ((Value.slice a k k).ownBlock = some q ∨ ∃ l ∈ ls, Blk l q))) := by
  have hr2 := h.row hr fun q hq => (hrz q hq).1
  have ho2 : ∀ l ∈ ls, Own w' W.heap.size l := fun l hl' => h.own (hl l hl').1.own (hl l hl').1.free
  obtain ⟨τ', a1, a2⟩ := h
  refine (takeList_s a1 hr2 (fun q hq => by rw [a2.keep q (ERow.lt hr hq).2 (hrz q hq).2]; exact (hrz q hq).1) (fun l hl' => ⟨ho2 l hl', (hl l hl').1.sep, fun q hq => by rw [a2.keep q ((hl l hl').1.own.blk hq).2 ((hl l hl').2 q hq)]; exact (hl l hl').1.free q hq, (hl l hl').1.b1, (hl l hl').1.b2, (hl l hl').1.b3⟩) hs hk hn hm).mono ?_
  rintro e w1 ⟨e1, e2⟩
  obtain ⟨τ'', b1, b2⟩ := e2.out
  exact ⟨e1, τ'', b1, a2.trans b2 (fun q hq => hq) fun q hq => hq⟩
theorem sepL_mem {ls : List Ent} (h : SepL ls) {l : Ent} (hl : l ∈ ls) : Sep l := by
  obtain ⟨i, hi, rfl⟩ := List.getElem_of_mem hl
  exact (h i _ (List.getElem?_eq_getElem hi)).1
set_option maxRecDepth 100000 in
set_option maxHeartbeats 8000000 in
theorem tells7_s (h : SX W X bv mk ke rm L o A A w) (po : Option Addr) (q co : Nat) : Calls Tryd.prog 15 #[.pointer (some ⟨X, 0, none⟩), .int .i64 7, .slice po q co] w fun e w' => e = .returned (.bool true) ∧ Below w.heap.size w w' := by
  have hu := x_count h
  have HR : Hid (∀ z, Below w.heap.size w z → Calls Tryd.prog 45 #[.pointer (some ⟨X, 1, none⟩)] z fun r w' => r = .returned (.tuple #[.int .i64 (A.length : Int), .int .i64 (nOp A : Int)]) ∧ Below z.heap.size z w') := fun z hz => xr_count (h.below hz)
  have HI : Hid (SX W X bv mk ke rm L o A A w) := h
  have x0 := h.cells.1
  generalize (A.length : Int) = a at hu HR
  generalize (nOp A : Int) = b at hu HR
  clear h
  go_enter Tryd.func15, Tryd.ntmps15
  go_wp2_with fail
  refine hu.mono ?_
  rintro _ w1 ⟨rfl, b1⟩
  have hr := HR.out w1 b1
  have HB1 : Hid (Below w.heap.size w w1) := b1
  clear hu HR x0 b1
  go_wp2_with fail
  refine hr.mono ?_
  rintro _ w2 ⟨rfl, b2⟩
  have HB2 : Hid (Below w.heap.size w w2) := below_then HB1.out b2
  clear hr b2
  go_wp2_with fail
  go_ret
  exact ⟨rfl, HB2.out⟩
set_option maxRecDepth 100000 in
set_option maxHeartbeats 8000000 in
theorem tells5_s (h : SS W X K bv mk ke rm L o A A τ n m w) (hm : m + 2 ≤ 80) {B : Nat} {p : Option Addr} {q c : Nat} (hop : TRow w B (.slice p q c) (opS A)) (hz : ∀ b, (Value.slice p q c).ownBlock = some b → τ b = 0) : Calls Tryd.prog 15 #[.pointer (some ⟨X, 0, none⟩), .int .i64 5, .slice p q c] w fun e w' => e = .returned (.bool true) ∧ Hid (SQ W X K bv mk ke rm L o A A τ n (m + 2) w w' (fun _ => False)) := by
  have HU : Hid (∀ z, SX W X bv mk ke rm L o A A z → Calls Tryd.prog 39 #[bv] z fun r w' => ∃ a c, r = .returned (.slice a (opS A).length c) ∧ TRow w' z.heap.size (.slice a (opS A).length c) (opS A) ∧ Below z.heap.size z w') := fun z hz => x_open hz
  have hlen : (opS A).length ≤ 97 := by
    unfold opS
    rw [List.length_map]
    exact Nat.le_trans (List.length_filter_le _ _) h.sx.bnd.1
  have eq : q = (opS A).length := ERow.len hop
  subst eq
  have HL : Hid (SS W X K bv mk ke rm L o A A τ n m w ∧ (opS A).length ≤ 97 ∧ TRow w B (.slice p (opS A).length c) (opS A) ∧ ∀ b, (Value.slice p (opS A).length c).ownBlock = some b → τ b = 0) := ⟨h, hlen, hop, hz⟩
  have x0 := h.cells.1
  have hop1 := HU.out w h.sx
  clear h hop hlen hz
  generalize opS A = l at HL hop1 HU ⊢
  go_enter Tryd.func15, Tryd.ntmps15
  go_wp2_with fail
  refine hop1.mono ?_
  rintro _ w1 ⟨a, k, rfl, t1, b1⟩
  have L1 : Hid (Below w.heap.size w w1 ∧ TRow w1 w.heap.size (.slice a l.length k) l) := ⟨b1, t1⟩
  have S1 := HL.out.1.below b1
  have x1 := S1.cells.1
  have hop2 := HU.out w1 S1.sx
  clear t1 b1 x0 hop1 S1
  go_wp2_with fail
  refine hop2.mono ?_
  rintro _ w2 ⟨a', k', rfl, t2, b2⟩
  have L2 : Hid (Below w.heap.size w w2 ∧ Below w.heap.size w w1 ∧ TRow w2 B (.slice p l.length c) l ∧ TRow w2 w.heap.size (.slice a l.length k) l ∧ TRow w2 w1.heap.size (.slice a' l.length k') l ∧ (∀ b, (Value.slice a l.length k).ownBlock = some b → w.heap.size ≤ b ∧ b < w1.heap.size) ∧ ∀ b, (Value.slice a' l.length k').ownBlock = some b → w1.heap.size ≤ b) := ⟨below_then L1.out.1 b2, L1.out.1, ERow.below HL.out.2.2.1 (below_then L1.out.1 b2), ERow.below L1.out.2 b2, t2, fun b hb => ERow.lt L1.out.2 hb, fun b hb => (ERow.lt t2 hb).1⟩
  have S2 := SQ.start (HL.out.1.below L2.out.1)
  have x2 := S2.cells.2.2.2.1
  have hW := HL.out.1.bel.size
  have hnew := HL.out.1.new
  have hs1 := L2.out.2.1.size
  have htx := S2.texts (by omega) (ERow.base L2.out.2.2.2.1 hW) (by have := HL.out.2.1; omega) fun b hb => ⟨hnew b (L2.out.2.2.2.2.2.1 b hb).1, id⟩
  clear t2 b2 x1 hop2 HU L1 S2
  go_wp2_with fail
  refine htx.mono ?_
  rintro _ w3 ⟨rfl, H3⟩
  have x3 := H3.out.cells.2.2.2.1
  have htx2 := H3.out.texts (by omega) (ERow.base L2.out.2.2.2.2.1 (by omega)) (by have := HL.out.2.1; omega) fun b hb => ⟨hnew b (by have := L2.out.2.2.2.2.2.2 b hb; omega), fun p => p.elim id fun p => by have := (L2.out.2.2.2.2.2.1 b p).2; have := L2.out.2.2.2.2.2.2 b hb; omega⟩
  clear htx x2
  go_wp2_with fail
  refine htx2.mono ?_
  rintro _ w4 ⟨rfl, H4⟩
  have R4 : Hid (TRow w4 B (.slice p l.length c) l ∧ TRow w4 w.heap.size (.slice a l.length k) l ∧ TRow w4 w1.heap.size (.slice a' l.length k') l) := ⟨H4.out.row L2.out.2.2.1 HL.out.2.2.2, H4.out.row L2.out.2.2.2.1 fun b hb => hnew b (L2.out.2.2.2.2.2.1 b hb).1, H4.out.row L2.out.2.2.2.2.1 fun b hb => hnew b (by have := L2.out.2.2.2.2.2.2 b hb; omega)⟩
  have HY : Hid (SQ W X K bv mk ke rm L o A A τ n (m + 2) w w4 (fun _ => False)) := SQ.lift L2.out.1 H4.out fun b hb => by
    rcases hb with (hb | hb) | hb
    · exact hb.elim
    · exact (L2.out.2.2.2.2.2.1 b hb).1
    · have := L2.out.2.2.2.2.2.2 b hb; omega
  have hs1 := sameTexts_true R4.out.2.1 R4.out.1
  clear htx2 H4 H3 x3 L2 hnew
  go_wp2_with fail
  refine hs1.mono ?_
  rintro _ w5 ⟨rfl, m5, rfl⟩
  have b5 := below_drewN (Below.refl w4.heap.size w4) m5
  have hs2 := sameTexts_true (ERow.below R4.out.2.2 b5) (ERow.below R4.out.1 b5)
  clear hs1 b5
  go_wp2_with fail
  refine hs2.mono ?_
  rintro _ w6 ⟨rfl, m6, rfl⟩
  rw [World.drewN_drewN]
  have HZ : Hid (SQ W X K bv mk ke rm L o A A τ n (m + 2) w (w4.drewN (m5 + m6)) (fun _ => False)) := HY.out.below (below_drewN (Below.refl _ _) _)
  clear hs2 R4
  go_wp2_with fail
  go_ret
  exact ⟨rfl, HZ⟩
set_option maxRecDepth 100000 in
set_option maxHeartbeats 8000000 in
theorem tells6_s (h : SS W X K bv mk ke rm L o A A τ n m w) (hn : n ≤ 600000) (hm : m + 2 ≤ 80) (p : Option Addr) (q c : Nat) : Calls Tryd.prog 15 #[.pointer (some ⟨X, 0, none⟩), .int .i64 6, .slice p q c] w fun e w' => e = .returned (.bool true) ∧ Hid (SQ W X K bv mk ke rm L o A A τ (n + 1000) (m + 2) w w' (fun _ => False)) := by
  have HU : Hid (∀ z, SX W X bv mk ke rm L o A A z → Calls Tryd.prog 42 #[bv] z (LtS z A)) := fun z hz => x_list hz
  have HL : Hid (SS W X K bv mk ke rm L o A A τ n m w ∧ A.length ≤ 97 ∧ ∀ e ∈ A, mayB e = true) := ⟨h, h.sx.bnd.1, h.sx.bnd.2.2⟩
  have HB : Hid (∀ ls, Tws ls A → ∀ l ∈ ls, l.tn ≤ 8192 ∧ l.cn ≤ 2048 ∧ l.an ≤ 2048) := fun ls ht l hl => by
    obtain ⟨i, hi, rfl⟩ := List.getElem_of_mem hl
    have hj : i < A.length := by rw [← ht.1]; exact hi
    have h1 := may_bnd (HL.out.2.2 A[i] (List.getElem_mem hj))
    obtain ⟨a, c, a', c', a'', c'', e1⟩ := ht.2 i _ _ (List.getElem?_eq_getElem hi) (List.getElem?_eq_getElem hj)
    rw [e1] at h1
    exact h1
  have x0 := h.cells.1
  have hop1 := HU.out w h.sx
  clear h
  obtain ⟨ln, hln⟩ : ∃ k, A.length = k := ⟨_, rfl⟩
  have HLN : Hid (A.length = ln) := hln
  clear hln
  go_enter Tryd.func15, Tryd.ntmps15
  go_wp2_with fail
  refine hop1.mono ?_
  rintro _ w1 ⟨ls, a, rfl, r1, o1, t1, b1, s1⟩
  rw [HLN.out] at r1
  have L1 : Hid (Below w.heap.size w w1 ∧ NRow w1 w.heap.size (.slice a ln ln) ls ∧ (∀ l ∈ ls, Own w1 w.heap.size l) ∧ Tws ls A ∧ SepL ls) := ⟨b1, r1, o1, t1, s1⟩
  have S1 := HL.out.1.below b1
  have x1 := S1.cells.1
  have hop2 := HU.out w1 S1.sx
  rw [HLN.out]
  clear r1 o1 t1 b1 s1 x0 hop1 S1
  go_wp2_with fail
  refine hop2.mono ?_
  rintro _ w2 ⟨ls', a', rfl, r2, o2, t2, b2, s2⟩
  rw [HLN.out] at r2
  have L2 : Hid (Below w.heap.size w w2 ∧ NRow w2 w.heap.size (.slice a ln ln) ls ∧ (∀ l ∈ ls, Own w2 w.heap.size l) ∧ NRow w2 w1.heap.size (.slice a' ln ln) ls' ∧ (∀ l ∈ ls', Own w2 w1.heap.size l) ∧ Tws ls A ∧ Tws ls' A ∧ SepL ls ∧ SepL ls') := ⟨below_then L1.out.1 b2, ERow.below L1.out.2.1 b2, fun l hl => (L1.out.2.2.1 l hl).below b2, r2, o2, L1.out.2.2.2.1, t2, L1.out.2.2.2.2, s2⟩
  have N2 : Hid ((∀ q, (Value.slice a ln ln).ownBlock = some q → w.heap.size ≤ q ∧ q < w1.heap.size) ∧ (∀ l ∈ ls, ∀ q, Blk l q → w.heap.size ≤ q ∧ q < w1.heap.size) ∧ (∀ q, (Value.slice a' ln ln).ownBlock = some q → w1.heap.size ≤ q) ∧ (∀ l ∈ ls', ∀ q, Blk l q → w1.heap.size ≤ q) ∧ W.heap.size ≤ w.heap.size ∧ w.heap.size ≤ w1.heap.size ∧ ∀ q, w.heap.size ≤ q → τ q = 0) := ⟨fun q hq => ERow.lt L1.out.2.1 hq, fun l hl q hq => (L1.out.2.2.1 l hl).blk hq, fun q hq => (ERow.lt r2 hq).1, fun l hl q hq => ((o2 l hl).blk hq).1, HL.out.1.bel.size, L1.out.1.size, HL.out.1.new⟩
  rw [HLN.out]
  have S2 := SQ.start (HL.out.1.below L2.out.1)
  have htk := S2.list (ERow.base L2.out.2.1 N2.out.2.2.2.2.1) (fun q hq => ⟨N2.out.2.2.2.2.2.2 q (N2.out.1 q hq).1, id⟩) (fun l hl => ⟨⟨(L2.out.2.2.1 l hl).base N2.out.2.2.2.2.1, (sepL_mem L2.out.2.2.2.2.2.2.2.1 hl), fun q hq => N2.out.2.2.2.2.2.2 q (N2.out.2.1 l hl q hq).1, (HB.out ls L2.out.2.2.2.2.2.1 l hl).1, (HB.out ls L2.out.2.2.2.2.2.1 l hl).2.1, (HB.out ls L2.out.2.2.2.2.2.1 l hl).2.2⟩, fun q _ => id⟩) L2.out.2.2.2.2.2.2.2.1 (by have := HL.out.2.1; have := HLN.out; omega) (by omega) (by omega)
  clear r2 o2 t2 b2 s2 x1 hop2 HU L1 S2
  go_wp2_with fail
  refine htk.mono ?_
  rintro _ w3 ⟨rfl, H3⟩
  have htk2 := H3.out.list (ERow.base L2.out.2.2.2.1 (by have := N2.out.2.2.2.2.1; have := N2.out.2.2.2.2.2.1; omega)) (fun q hq => ⟨N2.out.2.2.2.2.2.2 q (by have := N2.out.2.2.1 q hq; have := N2.out.2.2.2.2.2.1; omega), fun pp => by
    have := N2.out.2.2.1 q hq
    rcases pp with p | p | ⟨l, hl, p⟩
    · exact p.elim
    · have := (N2.out.1 q p).2; omega
    · have := (N2.out.2.1 l hl q p).2; omega⟩) (fun l hl => ⟨⟨(L2.out.2.2.2.2.1 l hl).base (by have := N2.out.2.2.2.2.1; have := N2.out.2.2.2.2.2.1; omega), (sepL_mem L2.out.2.2.2.2.2.2.2.2 hl), fun q hq => N2.out.2.2.2.2.2.2 q (by have := N2.out.2.2.2.1 l hl q hq; have := N2.out.2.2.2.2.2.1; omega), (HB.out ls' L2.out.2.2.2.2.2.2.1 l hl).1, (HB.out ls' L2.out.2.2.2.2.2.2.1 l hl).2.1, (HB.out ls' L2.out.2.2.2.2.2.2.1 l hl).2.2⟩, fun q hq pp => by
    have := N2.out.2.2.2.1 l hl q hq
    rcases pp with p | p | ⟨l2, hl2, p⟩
    · exact p.elim
    · have := (N2.out.1 q p).2; omega
    · have := (N2.out.2.1 l2 hl2 q p).2; omega⟩) L2.out.2.2.2.2.2.2.2.2 (by have := HL.out.2.1; have := HLN.out; omega) (by have := HL.out.2.1; have := HLN.out; omega) (by omega)
  clear htk
  go_wp2_with fail
  refine htk2.mono ?_
  rintro _ w4 ⟨rfl, H4⟩
  have L4 : Hid (NRow w4 w.heap.size (.slice a ln ln) ls ∧ (∀ l ∈ ls, Own w4 w.heap.size l) ∧ NRow w4 w1.heap.size (.slice a' ln ln) ls' ∧ (∀ l ∈ ls', Own w4 w1.heap.size l) ∧ Tws ls A ∧ Tws ls' A) := ⟨H4.out.row L2.out.2.1 fun q hq => N2.out.2.2.2.2.2.2 q (N2.out.1 q hq).1, fun l hl => H4.out.own (L2.out.2.2.1 l hl) fun q hq => N2.out.2.2.2.2.2.2 q (N2.out.2.1 l hl q hq).1, H4.out.row L2.out.2.2.2.1 fun q hq => N2.out.2.2.2.2.2.2 q (by have := N2.out.2.2.1 q hq; have := N2.out.2.2.2.2.2.1; omega), fun l hl => H4.out.own (L2.out.2.2.2.2.1 l hl) fun q hq => N2.out.2.2.2.2.2.2 q (by have := N2.out.2.2.2.1 l hl q hq; have := N2.out.2.2.2.2.2.1; omega), L2.out.2.2.2.2.2.1, L2.out.2.2.2.2.2.2.1⟩
  have HQ : Hid (SQ W X K bv mk ke rm L o A A τ (n + 1000) (m + 2) w w4 (fun _ => False)) := (SQ.lift L2.out.1 H4.out fun q hq => by
    have := N2.out.2.2.2.2.2.1
    rcases hq with (p | p | ⟨l, hl, p⟩) | p | ⟨l, hl, p⟩
    · exact p.elim
    · exact (N2.out.1 q p).1
    · exact (N2.out.2.1 l hl q p).1
    · have := N2.out.2.2.1 q p; omega
    · have := N2.out.2.2.2.1 l hl q p; omega).mono (by have := HL.out.2.1; have := HLN.out; omega) (by omega)
  clear htk2 H4 H3 L2 N2
  have HD : Hid (∃ ad cd ld, L = .slice ad ln cd ∧ ∀ z, Below w4.heap.size w4 z → NRow z W.heap.size (.slice ad ln cd) ld ∧ (∀ l ∈ ld, Lies z l) ∧ Tws ld A) := by
    obtain ⟨ad, cd, ld, e1, e2, e3, e4, _⟩ := HQ.out.sx.docrow
    rw [HLN.out] at e1 e2
    exact ⟨ad, cd, ld, e1, fun z hz => ⟨ERow.below e2 hz, fun l hl => ((e3 l hl).below hz).lies, e4⟩⟩
  have x4 := HQ.out.cells.2.2.1
  obtain ⟨ad, cd, ld, e1, hd⟩ := HD.out
  have HD2 : Hid (∀ z, Below w4.heap.size w4 z → NRow z W.heap.size (.slice ad ln cd) ld ∧ (∀ l ∈ ld, Lies z l) ∧ Tws ld A) := hd
  rw [e1] at x4
  clear HD hd e1
  obtain ⟨d1, d2, d3⟩ := HD2.out w4 (Below.refl _ _)
  have hs1 := sameList_true L4.out.1 d1 (L4.out.2.2.2.2.1.trans d3.symm) (fun l hl => (L4.out.2.1 l hl).lies) d2 fun l hl => ⟨by have := (HB.out ls L4.out.2.2.2.2.1 l hl).1; omega, by have := (HB.out ls L4.out.2.2.2.2.1 l hl).2.1; omega, by have := (HB.out ls L4.out.2.2.2.2.1 l hl).2.2; omega⟩
  clear d1 d2 d3
  go_wp2_with fail
  refine hs1.mono ?_
  rintro _ w5 ⟨rfl, b5⟩
  have x5 : w5.cell? ⟨X, 4, none⟩ = some (.slice ad ln cd) := by rw [b5.cell (p := ⟨X, 4, none⟩) HQ.out.cells.2.2.2.2]; exact x4
  obtain ⟨d1, d2, d3⟩ := HD2.out w5 b5
  have hs2 := sameList_true (ERow.below L4.out.2.2.1 b5) d1 (L4.out.2.2.2.2.2.trans d3.symm) (fun l hl => ((L4.out.2.2.2.1 l hl).below b5).lies) d2 fun l hl => ⟨by have := (HB.out ls' L4.out.2.2.2.2.2 l hl).1; omega, by have := (HB.out ls' L4.out.2.2.2.2.2 l hl).2.1; omega, by have := (HB.out ls' L4.out.2.2.2.2.2 l hl).2.2; omega⟩
  have HB5 : Hid (Below w4.heap.size w4 w5) := b5
  clear d1 d2 d3 hs1 x4 b5
  go_wp2_with fail
  refine hs2.mono ?_
  rintro _ w6 ⟨rfl, b6⟩
  have HZ : Hid (SQ W X K bv mk ke rm L o A A τ (n + 1000) (m + 2) w w6 (fun _ => False)) := HQ.out.below (below_then HB5.out b6)
  clear hs2 L4 b6 x5 HD2
  go_wp2_with fail
  go_ret
  exact ⟨rfl, HZ⟩
end
end Go.Proofs.YtjbkfppibnlmoaaDoor
