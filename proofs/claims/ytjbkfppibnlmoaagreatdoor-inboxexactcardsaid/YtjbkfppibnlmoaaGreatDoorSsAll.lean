import Derived.Test.YtjbkfppibnlmoaaGreatDoorSxCl
/-
  The strong pair: tells, all.
-/
namespace Go.Proofs.YtjbkfppibnlmoaaGreatDoor
open Go.RowKit

section
variable {W w w' w2 : World} {X K n m : Nat} {bv mk ke rm L : Value} {o : Option (Int × Int)} {A A' : List Ent} {τ τ' : Nat → Nat} {P : Nat → Prop}
theorem SQ.lift (hb : Below w.heap.size w w2) (h : SQ W X K bv mk ke rm L o A A' τ n m w2 w' P) (hP : ∀ q, P q → w.heap.size ≤ q) : SQ W X K bv mk ke rm L o A A' τ n m w w' (fun _ => False) := by
  obtain ⟨τ', a1, a2⟩ := h
  exact ⟨τ', a1, (Off.of_below hb).trans a2.off, fun q hq _ => a2.keep q (Nat.lt_of_lt_of_le hq hb.size) fun p => by have := hP q p; omega, fun q _ p => p.elim⟩
theorem SQ.ss {P : Nat → Prop} (h : SQ W X K bv mk ke rm L o A A' τ n m w w' P) : ∃ τ', SS W X K bv mk ke rm L o A A' τ' n m w' := by
  obtain ⟨τ', a1, _⟩ := h
  exact ⟨τ', a1⟩
theorem SQ.sx {P : Nat → Prop} (h : SQ W X K bv mk ke rm L o A A' τ n m w w' P) : SX W X bv mk ke rm L o A A' w' := by
  obtain ⟨τ', a1, _⟩ := h
  exact a1.sx
theorem SQ.mono {P : Nat → Prop} {n' m' : Nat} (h : SQ W X K bv mk ke rm L o A A' τ n m w w' P) (hn : n ≤ n') (hm : m ≤ m') : SQ W X K bv mk ke rm L o A A' τ n' m' w w' P := by
  obtain ⟨τ', a1, a2⟩ := h
  exact ⟨τ', a1.mono hn hm, a2⟩
/-- One more list of entries. -/
theorem SQ.list (h : SQ W X K bv mk ke rm L o A A' τ n m w w' P) {a : Option Addr} {k : Nat} {ls : List Ent} (hr : NRow w W.heap.size (.slice a k k) ls) (hrz : ∀ q, (Value.slice a k k).ownBlock = some q → τ q = 0 ∧ ¬ P q) (hl : ∀ l ∈ ls, TkE w W.heap.size τ l ∧ ∀ q, Blk l q → ¬ P q) (hs : SepL ls) (hk : k ≤ 1000) (hn : n ≤ 900000) (hm : m + 1 ≤ 80) : Calls Tryz.prog 33 #[.pointer (some ⟨X, 0, none⟩), .slice a k k] w' fun e w1 => e = .returned (.tuple #[]) ∧ Hid (SQ W X K bv mk ke rm L o A A' τ (n + 3 * k) (m + 1) w w1 (fun q => P q ∨ ((Value.slice a k k).ownBlock = some q ∨ ∃ l ∈ ls, Blk l q))) := by
  have hr2 := h.row hr fun q hq => (hrz q hq).1
  have ho2 : ∀ l ∈ ls, Own w' W.heap.size l := fun l hl' => h.own (hl l hl').1.own (hl l hl').1.free
  obtain ⟨τ', a1, a2⟩ := h
  refine (takeList_s a1 hr2 (fun q hq => by rw [a2.keep q (ERow.lt hr hq).2 (hrz q hq).2]; exact (hrz q hq).1) (fun l hl' => ⟨ho2 l hl', (hl l hl').1.sep, fun q hq => by rw [a2.keep q ((hl l hl').1.own.blk hq).2 ((hl l hl').2 q hq)]; exact (hl l hl').1.free q hq, (hl l hl').1.b1, (hl l hl').1.b2, (hl l hl').1.b3⟩) hs hk hn hm).mono ?_
  rintro e w1 ⟨e1, e2⟩
  obtain ⟨τ'', b1, b2⟩ := e2.out
  exact ⟨e1, τ'', b1, a2.trans b2 (fun q hq => hq) fun q hq => hq⟩
theorem sepL_mem {ls : List Ent} (h : SepL ls) {l : Ent} (hl : l ∈ ls) : Sep l := by
  obtain ⟨i, hi, rfl⟩ := List.getElem_of_mem hl
  exact (h i _ (List.getElem?_eq_getElem hi)).1
set_option maxRecDepth 100000 in
set_option maxHeartbeats 8000000 in
theorem tells7_s (h : SX W X bv mk ke rm L o A A w) (po : Option Addr) (q co : Nat) : Calls Tryz.prog 7 #[.pointer (some ⟨X, 0, none⟩), .int .i64 7, .slice po q co] w fun e w' => e = .returned (.bool true) ∧ Below w.heap.size w w' := by
  have hu := x_count h
  have HR : Hid (∀ z, Below w.heap.size w z → Calls Tryz.prog 36 #[.pointer (some ⟨X, 1, none⟩)] z fun r w' => r = .returned (.tuple #[.int .i64 (A.length : Int), .int .i64 (nOp A : Int)]) ∧ Below z.heap.size z w') := fun z hz => xr_count (h.below hz)
  have HI : Hid (SX W X bv mk ke rm L o A A w) := h
  have x0 := h.cells.1
  generalize (A.length : Int) = a at hu HR
  generalize (nOp A : Int) = b at hu HR
  clear h
  go_enter Tryz.func7, Tryz.ntmps7
  go_wp2_with fail
  refine hu.mono ?_
  rintro _ w1 ⟨rfl, b1⟩
  have hr := HR.out w1 b1
  have HB1 : Hid (Below w.heap.size w w1) := b1
  clear hu HR x0 b1
  go_wp2_with fail
  refine hr.mono ?_
  rintro _ w2 ⟨rfl, b2⟩
  have HB2 : Hid (Below w.heap.size w w2) := below_then HB1.out b2
  clear hr b2
  go_wp2_with fail
  go_ret
  exact ⟨rfl, HB2.out⟩
set_option maxRecDepth 100000 in
set_option maxHeartbeats 8000000 in
theorem tells5_s (h : SS W X K bv mk ke rm L o A A τ n m w) (hm : m + 2 ≤ 80) {B : Nat} {p : Option Addr} {q c : Nat} (hop : TRow w B (.slice p q c) (opS A)) (hz : ∀ b, (Value.slice p q c).ownBlock = some b → τ b = 0) : Calls Tryz.prog 7 #[.pointer (some ⟨X, 0, none⟩), .int .i64 5, .slice p q c] w fun e w' => e = .returned (.bool true) ∧ Hid (SQ W X K bv mk ke rm L o A A τ n (m + 2) w w' (fun _ => False)) := by
  have HU : Hid (∀ z, SX W X bv mk ke rm L o A A z → Calls Tryz.prog 29 #[bv] z fun r w' => ∃ a c, r = .returned (.slice a (opS A).length c) ∧ TRow w' z.heap.size (.slice a (opS A).length c) (opS A) ∧ Below z.heap.size z w') := fun z hz => x_open hz
  have hlen : (opS A).length ≤ 97 := by
    unfold opS
    rw [List.length_map]
    exact Nat.le_trans (List.length_filter_le _ _) h.sx.bnd.1
  have eq : q = (opS A).length := ERow.len hop
  subst eq
  have HL : Hid (SS W X K bv mk ke rm L o A A τ n m w ∧ (opS A).length ≤ 97 ∧ TRow w B (.slice p (opS A).length c) (opS A) ∧ ∀ b, (Value.slice p (opS A).length c).ownBlock = some b → τ b = 0) := ⟨h, hlen, hop, hz⟩
  have x0 := h.cells.1
  have hop1 := HU.out w h.sx
  clear h hop hlen hz
  generalize opS A = l at HL hop1 HU ⊢
  go_enter Tryz.func7, Tryz.ntmps7
  go_wp2_with fail
  refine hop1.mono ?_
  rintro _ w1 ⟨a, k, rfl, t1, b1⟩
  have L1 : Hid (Below w.heap.size w w1 ∧ TRow w1 w.heap.size (.slice a l.length k) l) := ⟨b1, t1⟩
  have S1 := HL.out.1.below b1
  have x1 := S1.cells.1
  have hop2 := HU.out w1 S1.sx
  clear t1 b1 x0 hop1 S1
  go_wp2_with fail
  refine hop2.mono ?_
  rintro _ w2 ⟨a', k', rfl, t2, b2⟩
  have L2 : Hid (Below w.heap.size w w2 ∧ Below w.heap.size w w1 ∧ TRow w2 B (.slice p l.length c) l ∧ TRow w2 w.heap.size (.slice a l.length k) l ∧ TRow w2 w1.heap.size (.slice a' l.length k') l ∧ (∀ b, (Value.slice a l.length k).ownBlock = some b → w.heap.size ≤ b ∧ b < w1.heap.size) ∧ ∀ b, (Value.slice a' l.length k').ownBlock = some b → w1.heap.size ≤ b) := ⟨below_then L1.out.1 b2, L1.out.1, ERow.below HL.out.2.2.1 (below_then L1.out.1 b2), ERow.below L1.out.2 b2, t2, fun b hb => ERow.lt L1.out.2 hb, fun b hb => (ERow.lt t2 hb).1⟩
  have S2 := SQ.start (HL.out.1.below L2.out.1)
  have x2 := S2.cells.2.2.2.1
  have hW := HL.out.1.bel.size
  have hnew := HL.out.1.new
  have hs1 := L2.out.2.1.size
  have htx := S2.texts (by omega) (ERow.base L2.out.2.2.2.1 hW) (by have := HL.out.2.1; omega) fun b hb => ⟨hnew b (L2.out.2.2.2.2.2.1 b hb).1, id⟩
  clear t2 b2 x1 hop2 HU L1 S2
  go_wp2_with fail
  refine htx.mono ?_
  rintro _ w3 ⟨rfl, H3⟩
  have x3 := H3.out.cells.2.2.2.1
  have htx2 := H3.out.texts (by omega) (ERow.base L2.out.2.2.2.2.1 (by omega)) (by have := HL.out.2.1; omega) fun b hb => ⟨hnew b (by have := L2.out.2.2.2.2.2.2 b hb; omega), fun p => p.elim id fun p => by have := (L2.out.2.2.2.2.2.1 b p).2; have := L2.out.2.2.2.2.2.2 b hb; omega⟩
  clear htx x2
  go_wp2_with fail
  refine htx2.mono ?_
  rintro _ w4 ⟨rfl, H4⟩
  have R4 : Hid (TRow w4 B (.slice p l.length c) l ∧ TRow w4 w.heap.size (.slice a l.length k) l ∧ TRow w4 w1.heap.size (.slice a' l.length k') l) := ⟨H4.out.row L2.out.2.2.1 HL.out.2.2.2, H4.out.row L2.out.2.2.2.1 fun b hb => hnew b (L2.out.2.2.2.2.2.1 b hb).1, H4.out.row L2.out.2.2.2.2.1 fun b hb => hnew b (by have := L2.out.2.2.2.2.2.2 b hb; omega)⟩
  have HY : Hid (SQ W X K bv mk ke rm L o A A τ n (m + 2) w w4 (fun _ => False)) := SQ.lift L2.out.1 H4.out fun b hb => by
    rcases hb with (hb | hb) | hb
    · exact hb.elim
    · exact (L2.out.2.2.2.2.2.1 b hb).1
    · have := L2.out.2.2.2.2.2.2 b hb; omega
  have hs1 := sameTexts_true R4.out.2.1 R4.out.1
  clear htx2 H4 H3 x3 L2 hnew
  go_wp2_with fail
  refine hs1.mono ?_
  rintro _ w5 ⟨rfl, m5, rfl⟩
  have b5 := below_drewN (Below.refl w4.heap.size w4) m5
  have hs2 := sameTexts_true (ERow.below R4.out.2.2 b5) (ERow.below R4.out.1 b5)
  clear hs1 b5
  go_wp2_with fail
  refine hs2.mono ?_
  rintro _ w6 ⟨rfl, m6, rfl⟩
  rw [World.drewN_drewN]
  have HZ : Hid (SQ W X K bv mk ke rm L o A A τ n (m + 2) w (w4.drewN (m5 + m6)) (fun _ => False)) := HY.out.below (below_drewN (Below.refl _ _) _)
  clear hs2 R4
  go_wp2_with fail
  go_ret
  exact ⟨rfl, HZ⟩
set_option maxRecDepth 100000 in
set_option maxHeartbeats 8000000 in
theorem tells6_s (h : SS W X K bv mk ke rm L o A A τ n m w) (hn : n ≤ 600000) (hm : m + 2 ≤ 80) (p : Option Addr) (q c : Nat) : Calls Tryz.prog 7 #[.pointer (some ⟨X, 0, none⟩), .int .i64 6, .slice p q c] w fun e w' => e = .returned (.bool true) ∧ Hid (SQ W X K bv mk ke rm L o A A τ (n + 1000) (m + 2) w w' (fun _ => False)) := by
  have HU : Hid (∀ z, SX W X bv mk ke rm L o A A z → Calls Tryz.prog 32 #[bv] z (LtS z A)) := fun z hz => x_list hz
  have HL : Hid (SS W X K bv mk ke rm L o A A τ n m w ∧ A.length ≤ 97 ∧ ∀ e ∈ A, mayB e = true) := ⟨h, h.sx.bnd.1, h.sx.bnd.2.2⟩
  have HB : Hid (∀ ls, Tws ls A → ∀ l ∈ ls, l.tn ≤ 8192 ∧ l.cn ≤ 2048 ∧ l.an ≤ 2048) := fun ls ht l hl => by
    obtain ⟨i, hi, rfl⟩ := List.getElem_of_mem hl
    have hj : i < A.length := by rw [← ht.1]; exact hi
    have h1 := may_bnd (HL.out.2.2 A[i] (List.getElem_mem hj))
    obtain ⟨a, c, a', c', a'', c'', e1⟩ := ht.2 i _ _ (List.getElem?_eq_getElem hi) (List.getElem?_eq_getElem hj)
    rw [e1] at h1
    exact h1
  have x0 := h.cells.1
  have hop1 := HU.out w h.sx
  clear h
  obtain ⟨ln, hln⟩ : ∃ k, A.length = k := ⟨_, rfl⟩
  have HLN : Hid (A.length = ln) := hln
  clear hln
  go_enter Tryz.func7, Tryz.ntmps7
  go_wp2_with fail
  refine hop1.mono ?_
  rintro _ w1 ⟨ls, a, rfl, r1, o1, t1, b1, s1⟩
  rw [HLN.out] at r1
  have L1 : Hid (Below w.heap.size w w1 ∧ NRow w1 w.heap.size (.slice a ln ln) ls ∧ (∀ l ∈ ls, Own w1 w.heap.size l) ∧ Tws ls A ∧ SepL ls) := ⟨b1, r1, o1, t1, s1⟩
  have S1 := HL.out.1.below b1
  have x1 := S1.cells.1
  have hop2 := HU.out w1 S1.sx
  rw [HLN.out]
  clear r1 o1 t1 b1 s1 x0 hop1 S1
  go_wp2_with fail
  refine hop2.mono ?_
  rintro _ w2 ⟨ls', a', rfl, r2, o2, t2, b2, s2⟩
  rw [HLN.out] at r2
  have L2 : Hid (Below w.heap.size w w2 ∧ NRow w2 w.heap.size (.slice a ln ln) ls ∧ (∀ l ∈ ls, Own w2 w.heap.size l) ∧ NRow w2 w1.heap.size (.slice a' ln ln) ls' ∧ (∀ l ∈ ls', Own w2 w1.heap.size l) ∧ Tws ls A ∧ Tws ls' A ∧ SepL ls ∧ SepL ls') := ⟨below_then L1.out.1 b2, ERow.below L1.out.2.1 b2, fun l hl => (L1.out.2.2.1 l hl).below b2, r2, o2, L1.out.2.2.2.1, t2, L1.out.2.2.2.2, s2⟩
  have N2 : Hid ((∀ q, (Value.slice a ln ln).ownBlock = some q → w.heap.size ≤ q ∧ q < w1.heap.size) ∧ (∀ l ∈ ls, ∀ q, Blk l q → w.heap.size ≤ q ∧ q < w1.heap.size) ∧ (∀ q, (Value.slice a' ln ln).ownBlock = some q → w1.heap.size ≤ q) ∧ (∀ l ∈ ls', ∀ q, Blk l q → w1.heap.size ≤ q) ∧ W.heap.size ≤ w.heap.size ∧ w.heap.size ≤ w1.heap.size ∧ ∀ q, w.heap.size ≤ q → τ q = 0) := ⟨fun q hq => ERow.lt L1.out.2.1 hq, fun l hl q hq => (L1.out.2.2.1 l hl).blk hq, fun q hq => (ERow.lt r2 hq).1, fun l hl q hq => ((o2 l hl).blk hq).1, HL.out.1.bel.size, L1.out.1.size, HL.out.1.new⟩
  rw [HLN.out]
  have S2 := SQ.start (HL.out.1.below L2.out.1)
  have htk := S2.list (ERow.base L2.out.2.1 N2.out.2.2.2.2.1) (fun q hq => ⟨N2.out.2.2.2.2.2.2 q (N2.out.1 q hq).1, id⟩) (fun l hl => ⟨⟨(L2.out.2.2.1 l hl).base N2.out.2.2.2.2.1, (sepL_mem L2.out.2.2.2.2.2.2.2.1 hl), fun q hq => N2.out.2.2.2.2.2.2 q (N2.out.2.1 l hl q hq).1, (HB.out ls L2.out.2.2.2.2.2.1 l hl).1, (HB.out ls L2.out.2.2.2.2.2.1 l hl).2.1, (HB.out ls L2.out.2.2.2.2.2.1 l hl).2.2⟩, fun q _ => id⟩) L2.out.2.2.2.2.2.2.2.1 (by have := HL.out.2.1; have := HLN.out; omega) (by omega) (by omega)
  clear r2 o2 t2 b2 s2 x1 hop2 HU L1 S2
  go_wp2_with fail
  refine htk.mono ?_
  rintro _ w3 ⟨rfl, H3⟩
  have htk2 := H3.out.list (ERow.base L2.out.2.2.2.1 (by have := N2.out.2.2.2.2.1; have := N2.out.2.2.2.2.2.1; omega)) (fun q hq => ⟨N2.out.2.2.2.2.2.2 q (by have := N2.out.2.2.1 q hq; have := N2.out.2.2.2.2.2.1; omega), fun pp => by
    have := N2.out.2.2.1 q hq
    rcases pp with p | p | ⟨l, hl, p⟩
    · exact p.elim
    · have := (N2.out.1 q p).2; omega
    · have := (N2.out.2.1 l hl q p).2; omega⟩) (fun l hl => ⟨⟨(L2.out.2.2.2.2.1 l hl).base (by have := N2.out.2.2.2.2.1; have := N2.out.2.2.2.2.2.1; omega), (sepL_mem L2.out.2.2.2.2.2.2.2.2 hl), fun q hq => N2.out.2.2.2.2.2.2 q (by have := N2.out.2.2.2.1 l hl q hq; have := N2.out.2.2.2.2.2.1; omega), (HB.out ls' L2.out.2.2.2.2.2.2.1 l hl).1, (HB.out ls' L2.out.2.2.2.2.2.2.1 l hl).2.1, (HB.out ls' L2.out.2.2.2.2.2.2.1 l hl).2.2⟩, fun q hq pp => by
    have := N2.out.2.2.2.1 l hl q hq
    rcases pp with p | p | ⟨l2, hl2, p⟩
    · exact p.elim
    · have := (N2.out.1 q p).2; omega
    · have := (N2.out.2.1 l2 hl2 q p).2; omega⟩) L2.out.2.2.2.2.2.2.2.2 (by have := HL.out.2.1; have := HLN.out; omega) (by have := HL.out.2.1; have := HLN.out; omega) (by omega)
  clear htk
  go_wp2_with fail
  refine htk2.mono ?_
  rintro _ w4 ⟨rfl, H4⟩
  have L4 : Hid (NRow w4 w.heap.size (.slice a ln ln) ls ∧ (∀ l ∈ ls, Own w4 w.heap.size l) ∧ NRow w4 w1.heap.size (.slice a' ln ln) ls' ∧ (∀ l ∈ ls', Own w4 w1.heap.size l) ∧ Tws ls A ∧ Tws ls' A) := ⟨H4.out.row L2.out.2.1 fun q hq => N2.out.2.2.2.2.2.2 q (N2.out.1 q hq).1, fun l hl => H4.out.own (L2.out.2.2.1 l hl) fun q hq => N2.out.2.2.2.2.2.2 q (N2.out.2.1 l hl q hq).1, H4.out.row L2.out.2.2.2.1 fun q hq => N2.out.2.2.2.2.2.2 q (by have := N2.out.2.2.1 q hq; have := N2.out.2.2.2.2.2.1; omega), fun l hl => H4.out.own (L2.out.2.2.2.2.1 l hl) fun q hq => N2.out.2.2.2.2.2.2 q (by have := N2.out.2.2.2.1 l hl q hq; have := N2.out.2.2.2.2.2.1; omega), L2.out.2.2.2.2.2.1, L2.out.2.2.2.2.2.2.1⟩
  have HQ : Hid (SQ W X K bv mk ke rm L o A A τ (n + 1000) (m + 2) w w4 (fun _ => False)) := (SQ.lift L2.out.1 H4.out fun q hq => by
    have := N2.out.2.2.2.2.2.1
    rcases hq with (p | p | ⟨l, hl, p⟩) | p | ⟨l, hl, p⟩
    · exact p.elim
    · exact (N2.out.1 q p).1
    · exact (N2.out.2.1 l hl q p).1
    · have := N2.out.2.2.1 q p; omega
    · have := N2.out.2.2.2.1 l hl q p; omega).mono (by have := HL.out.2.1; have := HLN.out; omega) (by omega)
  clear htk2 H4 H3 L2 N2
  have HD : Hid (∃ ad cd ld, L = .slice ad ln cd ∧ ∀ z, Below w4.heap.size w4 z → NRow z W.heap.size (.slice ad ln cd) ld ∧ (∀ l ∈ ld, Lies z l) ∧ Tws ld A) := by
    obtain ⟨ad, cd, ld, e1, e2, e3, e4, _⟩ := HQ.out.sx.docrow
    rw [HLN.out] at e1 e2
    exact ⟨ad, cd, ld, e1, fun z hz => ⟨ERow.below e2 hz, fun l hl => ((e3 l hl).below hz).lies, e4⟩⟩
  have x4 := HQ.out.cells.2.2.1
  obtain ⟨ad, cd, ld, e1, hd⟩ := HD.out
  have HD2 : Hid (∀ z, Below w4.heap.size w4 z → NRow z W.heap.size (.slice ad ln cd) ld ∧ (∀ l ∈ ld, Lies z l) ∧ Tws ld A) := hd
  rw [e1] at x4
  clear HD hd e1
  obtain ⟨d1, d2, d3⟩ := HD2.out w4 (Below.refl _ _)
  have hs1 := sameList_true L4.out.1 d1 (L4.out.2.2.2.2.1.trans d3.symm) (fun l hl => (L4.out.2.1 l hl).lies) d2 fun l hl => ⟨by have := (HB.out ls L4.out.2.2.2.2.1 l hl).1; omega, by have := (HB.out ls L4.out.2.2.2.2.1 l hl).2.1; omega, by have := (HB.out ls L4.out.2.2.2.2.1 l hl).2.2; omega⟩
  clear d1 d2 d3
  go_wp2_with fail
  refine hs1.mono ?_
  rintro _ w5 ⟨rfl, b5⟩
  have x5 : w5.cell? ⟨X, 4, none⟩ = some (.slice ad ln cd) := by rw [b5.cell (p := ⟨X, 4, none⟩) HQ.out.cells.2.2.2.2]; exact x4
  obtain ⟨d1, d2, d3⟩ := HD2.out w5 b5
  have hs2 := sameList_true (ERow.below L4.out.2.2.1 b5) d1 (L4.out.2.2.2.2.2.trans d3.symm) (fun l hl => ((L4.out.2.2.2.1 l hl).below b5).lies) d2 fun l hl => ⟨by have := (HB.out ls' L4.out.2.2.2.2.2 l hl).1; omega, by have := (HB.out ls' L4.out.2.2.2.2.2 l hl).2.1; omega, by have := (HB.out ls' L4.out.2.2.2.2.2 l hl).2.2; omega⟩
  have HB5 : Hid (Below w4.heap.size w4 w5) := b5
  clear d1 d2 d3 hs1 x4 b5
  go_wp2_with fail
  refine hs2.mono ?_
  rintro _ w6 ⟨rfl, b6⟩
  have HZ : Hid (SQ W X K bv mk ke rm L o A A τ (n + 1000) (m + 2) w w6 (fun _ => False)) := HQ.out.below (below_then HB5.out b6)
  clear hs2 L4 b6 x5 HD2
  go_wp2_with fail
  go_ret
  exact ⟨rfl, HZ⟩
end
end Go.Proofs.YtjbkfppibnlmoaaGreatDoor

/-
  The strong pair: tells of Last; all.
-/
namespace Go.Proofs.YtjbkfppibnlmoaaGreatDoor
open Go.RowKit

section
variable {W w w' w2 : World} {X K n m : Nat} {bv mk ke rm L : Value} {o : Option (Int × Int)} {A A' : List Ent} {τ τ' : Nat → Nat} {P : Nat → Prop}
set_option maxRecDepth 100000 in
set_option maxHeartbeats 8000000 in
theorem tells4_s {mm : Nat} (h : SS W X K bv mk ke rm L o A A τ n mm w) (hn : n ≤ 700000) (po : Option Addr) (q co : Nat) : Calls Tryz.prog 7 #[.pointer (some ⟨X, 0, none⟩), .int .i64 4, .slice po q co] w fun e w' => e = .returned (.bool true) ∧ Hid (SQ W X K bv mk ke rm L o A A τ (n + 6) mm w w' (fun _ => False)) := by
  obtain ⟨q1, q2, q3⟩ := las_bnd h.sx.bnd.2.2
  have HI : Hid (SS W X K bv mk ke rm L o A A τ n mm w) := h
  have HU : Hid (∀ z, Below w.heap.size w z → Calls Tryz.prog 26 #[bv] z (EnS z (lasE A) (decide (0 < A.length)))) := fun z hz => x_last (h.below hz).sx
  have HR : Hid (∀ z, Below w.heap.size w z → Calls Tryz.prog 22 #[.pointer (some ⟨X, 1, none⟩)] z (EnQ z (lasE A) (decide (0 < A.length)))) := fun z hz => xr_last (h.below hz).sx
  have HX0 : Hid (∀ z, Below w.heap.size w z → z.cell? ⟨X, 0, none⟩ = some bv) := fun z hz => (h.below hz).cells.1
  have x0 := h.cells.1
  generalize lasE A = m at q1 q2 q3 HR HU
  generalize decide (0 < A.length) = t at HU HR
  have HN : Hid (m.tn ≤ 8192 ∧ m.cn ≤ 2048 ∧ m.an ≤ 2048) := ⟨q1, q2, q3⟩
  have hfu := HU.out w (Below.refl _ _)
  clear q1 q2 q3 h
  go_enter Tryz.func7, Tryz.ntmps7
  go_wp2_with fail
  refine hfu.mono ?_
  rintro _ w1 ⟨a, c, a', c', a'', c'', rfl, ho1, b1, s1⟩
  clear hfu x0
  go_upto_region 4 with fail
  have HV1 : Hid (Below w.heap.size w (w1.alloc (.cells #[.string m.ct, .slice a m.tn c, .int .i64 m.nu, .int .i64 m.tk, .slice a' m.cn c', .string m.cd, .slice a'' m.an c''] 30)) ∧ (w1.alloc (.cells #[.string m.ct, .slice a m.tn c, .int .i64 m.nu, .int .i64 m.tk, .slice a' m.cn c', .string m.cd, .slice a'' m.an c''] 30)).heap[w1.heap.size]? = some (.cells #[.string m.ct, .slice a m.tn c, .int .i64 m.nu, .int .i64 m.tk, .slice a' m.cn c', .string m.cd, .slice a'' m.an c''] 30 (0, 0)) ∧ Own (w1.alloc (.cells #[.string m.ct, .slice a m.tn c, .int .i64 m.nu, .int .i64 m.tk, .slice a' m.cn c', .string m.cd, .slice a'' m.an c''] 30)) w.heap.size (m.wi a c a' c' a'' c'')) := ⟨b1.alloc b1.size _, heap_alloc_new _ _, ho1.below ((Below.refl _ _).alloc (Nat.le_refl _) _)⟩
  have B01 : Hid (w.heap.size ≤ w1.heap.size) := b1.size
  have HS1 : Hid (Sep (m.wi a c a' c' a'' c'') ∧ ∀ q, Blk (m.wi a c a' c' a'' c'') q → w.heap.size ≤ q ∧ q < w1.heap.size) := ⟨s1, fun q hq => ho1.blk hq⟩
  have HW1 : Hid (w1.heap.size ≤ (w1.alloc (.cells #[.string m.ct, .slice a m.tn c, .int .i64 m.nu, .int .i64 m.tk, .slice a' m.cn c', .string m.cd, .slice a'' m.an c''] 30)).heap.size) := by unfold Hid; simp
  clear ho1 b1 s1
  obtain ⟨V1, hV1⟩ : ∃ V, w1.alloc (.cells #[.string m.ct, .slice a m.tn c, .int .i64 m.nu, .int .i64 m.tk, .slice a' m.cn c', .string m.cd, .slice a'' m.an c''] 30) = V := ⟨_, rfl⟩
  rw [hV1] at HV1 HW1 ⊢
  clear hV1
  obtain ⟨A1, hA1⟩ : ∃ b, w1.heap.size = b := ⟨_, rfl⟩
  rw [hA1] at HV1 ⊢
  have b0s : Hid (w.heap.size ≤ w1.heap.size) := B01.out
  have HA1 : Hid (w.heap.size ≤ A1) := by unfold Hid; rw [← hA1]; exact B01.out
  clear hA1
  have hfr := HR.out V1 HV1.out.1
  go_wp2_with fail
  refine hfr.mono ?_
  rintro _ w2 ⟨p, d, p', d', p'', d'', rfl, ho2, b2⟩
  clear hfr HR
  go_upto_region 5 with fail
  have HV2 : Hid (Below w.heap.size w (w2.alloc (.cells #[.string m.ct, .slice p m.tn d, .int .i64 m.nu, .int .i64 m.tk, .slice p' m.cn d', .string m.cd, .slice p'' m.an d''] 30)) ∧ (w2.alloc (.cells #[.string m.ct, .slice p m.tn d, .int .i64 m.nu, .int .i64 m.tk, .slice p' m.cn d', .string m.cd, .slice p'' m.an d''] 30)).heap[w2.heap.size]? = some (.cells #[.string m.ct, .slice p m.tn d, .int .i64 m.nu, .int .i64 m.tk, .slice p' m.cn d', .string m.cd, .slice p'' m.an d''] 30 (0, 0)) ∧ Own (w2.alloc (.cells #[.string m.ct, .slice p m.tn d, .int .i64 m.nu, .int .i64 m.tk, .slice p' m.cn d', .string m.cd, .slice p'' m.an d''] 30)) V1.heap.size (m.wi p d p' d' p'' d'') ∧ (w2.alloc (.cells #[.string m.ct, .slice p m.tn d, .int .i64 m.nu, .int .i64 m.tk, .slice p' m.cn d', .string m.cd, .slice p'' m.an d''] 30)).heap[A1]? = some (.cells #[.string m.ct, .slice a m.tn c, .int .i64 m.nu, .int .i64 m.tk, .slice a' m.cn c', .string m.cd, .slice a'' m.an c''] 30 (0, 0)) ∧ Own (w2.alloc (.cells #[.string m.ct, .slice p m.tn d, .int .i64 m.nu, .int .i64 m.tk, .slice p' m.cn d', .string m.cd, .slice p'' m.an d''] 30)) w.heap.size (m.wi a c a' c' a'' c'')) := by
    have b3 : Below V1.heap.size V1 (w2.alloc (.cells #[.string m.ct, .slice p m.tn d, .int .i64 m.nu, .int .i64 m.tk, .slice p' m.cn d', .string m.cd, .slice p'' m.an d''] 30)) := b2.alloc b2.size _
    exact ⟨below_then HV1.out.1 b3, heap_alloc_new _ _, ho2.below ((Below.refl _ _).alloc (Nat.le_refl _) _), blk_below HV1.out.2.1 b3, HV1.out.2.2.below b3⟩
  have B02 : Hid (w.heap.size ≤ w2.heap.size) := Nat.le_trans HV1.out.1.size b2.size
  have HV21 : Hid (V1.heap.size ≤ (w2.alloc (.cells #[.string m.ct, .slice p m.tn d, .int .i64 m.nu, .int .i64 m.tk, .slice p' m.cn d', .string m.cd, .slice p'' m.an d''] 30)).heap.size) := (b2.alloc b2.size _).size
  clear ho2 b2 HV1
  obtain ⟨V2, hV2⟩ : ∃ V, w2.alloc (.cells #[.string m.ct, .slice p m.tn d, .int .i64 m.nu, .int .i64 m.tk, .slice p' m.cn d', .string m.cd, .slice p'' m.an d''] 30) = V := ⟨_, rfl⟩
  rw [hV2] at HV2 HV21 ⊢
  clear hV2
  obtain ⟨A2, hA2⟩ : ∃ b, w2.heap.size = b := ⟨_, rfl⟩
  rw [hA2] at HV2 ⊢
  have HA2 : Hid (w.heap.size ≤ A2) := by unfold Hid; rw [← hA2]; exact B02.out
  clear hA2
  have hfv := HU.out V2 HV2.out.1
  have x2 := HX0.out V2 HV2.out.1
  go_wp2_with fail
  refine hfv.mono ?_
  rintro _ w3 ⟨g, k, g', k', g'', k'', rfl, ho3, b3, s3⟩
  clear hfv HU x2 HX0
  go_upto_region 6 with fail
  have HV3 : Hid (Below w.heap.size w (w3.alloc (.cells #[.string m.ct, .slice g m.tn k, .int .i64 m.nu, .int .i64 m.tk, .slice g' m.cn k', .string m.cd, .slice g'' m.an k''] 30)) ∧ (w3.alloc (.cells #[.string m.ct, .slice g m.tn k, .int .i64 m.nu, .int .i64 m.tk, .slice g' m.cn k', .string m.cd, .slice g'' m.an k''] 30)).heap[w3.heap.size]? = some (.cells #[.string m.ct, .slice g m.tn k, .int .i64 m.nu, .int .i64 m.tk, .slice g' m.cn k', .string m.cd, .slice g'' m.an k''] 30 (0, 0)) ∧ Own (w3.alloc (.cells #[.string m.ct, .slice g m.tn k, .int .i64 m.nu, .int .i64 m.tk, .slice g' m.cn k', .string m.cd, .slice g'' m.an k''] 30)) V2.heap.size (m.wi g k g' k' g'' k'') ∧ (w3.alloc (.cells #[.string m.ct, .slice g m.tn k, .int .i64 m.nu, .int .i64 m.tk, .slice g' m.cn k', .string m.cd, .slice g'' m.an k''] 30)).heap[A2]? = some (.cells #[.string m.ct, .slice p m.tn d, .int .i64 m.nu, .int .i64 m.tk, .slice p' m.cn d', .string m.cd, .slice p'' m.an d''] 30 (0, 0)) ∧ Own (w3.alloc (.cells #[.string m.ct, .slice g m.tn k, .int .i64 m.nu, .int .i64 m.tk, .slice g' m.cn k', .string m.cd, .slice g'' m.an k''] 30)) V1.heap.size (m.wi p d p' d' p'' d'') ∧ (w3.alloc (.cells #[.string m.ct, .slice g m.tn k, .int .i64 m.nu, .int .i64 m.tk, .slice g' m.cn k', .string m.cd, .slice g'' m.an k''] 30)).heap[A1]? = some (.cells #[.string m.ct, .slice a m.tn c, .int .i64 m.nu, .int .i64 m.tk, .slice a' m.cn c', .string m.cd, .slice a'' m.an c''] 30 (0, 0)) ∧ Own (w3.alloc (.cells #[.string m.ct, .slice g m.tn k, .int .i64 m.nu, .int .i64 m.tk, .slice g' m.cn k', .string m.cd, .slice g'' m.an k''] 30)) w.heap.size (m.wi a c a' c' a'' c'')) := by
    have b4 : Below V2.heap.size V2 (w3.alloc (.cells #[.string m.ct, .slice g m.tn k, .int .i64 m.nu, .int .i64 m.tk, .slice g' m.cn k', .string m.cd, .slice g'' m.an k''] 30)) := b3.alloc b3.size _
    exact ⟨below_then HV2.out.1 b4, heap_alloc_new _ _, ho3.below ((Below.refl _ _).alloc (Nat.le_refl _) _), blk_below HV2.out.2.1 b4, HV2.out.2.2.1.below b4, blk_below HV2.out.2.2.2.1 b4, HV2.out.2.2.2.2.below b4⟩
  have B03 : Hid (w.heap.size ≤ w3.heap.size) := Nat.le_trans HV2.out.1.size b3.size
  have HS3 : Hid (Sep (m.wi g k g' k' g'' k'') ∧ (∀ q, Blk (m.wi g k g' k' g'' k'') q → V2.heap.size ≤ q) ∧ w1.heap.size ≤ V2.heap.size) := ⟨s3, fun q hq => (ho3.blk hq).1, Nat.le_trans HW1.out HV21.out⟩
  clear ho3 b3 HV2 s3
  obtain ⟨V3, hV3⟩ : ∃ V, w3.alloc (.cells #[.string m.ct, .slice g m.tn k, .int .i64 m.nu, .int .i64 m.tk, .slice g' m.cn k', .string m.cd, .slice g'' m.an k''] 30) = V := ⟨_, rfl⟩
  rw [hV3] at HV3 ⊢
  clear hV3
  obtain ⟨A3, hA3⟩ : ∃ b, w3.heap.size = b := ⟨_, rfl⟩
  rw [hA3] at HV3 ⊢
  have HAs : Hid (w.heap.size ≤ A1 ∧ w.heap.size ≤ A2 ∧ w.heap.size ≤ A3) := ⟨HA1.out, HA2.out, by rw [← hA3]; exact B03.out⟩
  clear hA3
  have HWs := HI.out.bel.size
  have Hnew := HI.out.new
  have hws := HV3.out.1.size
  have hv2 : w.heap.size ≤ V2.heap.size := by have := HS3.out.2.2; have := b0s.out; omega
  have E1 : Hid (TkE V3 W.heap.size τ (m.wi a c a' c' a'' c'')) := ⟨HV3.out.2.2.2.2.2.2.base HWs, HS1.out.1, fun q hq => Hnew q (HS1.out.2 q hq).1, HN.out.1, HN.out.2.1, HN.out.2.2⟩
  have E3 : Hid (TkE V3 W.heap.size τ (m.wi g k g' k' g'' k'')) := ⟨HV3.out.2.2.1.base (by omega), HS3.out.1, fun q hq => Hnew q (by have := HS3.out.2.1 q hq; omega), HN.out.1, HN.out.2.1, HN.out.2.2⟩
  have cx := hcell HV3.out.2.2.2.2.2.1
  have htk := (SQ.start (HI.out.below HV3.out.1)).tk (by omega) (m.wi a c a' c' a'' c'') E1.out fun q _ => id
  go_wp2_with fail
  refine htk.mono ?_
  rintro _ w4 ⟨rfl, H4⟩
  clear htk cx
  have hA : ∀ q, w.heap.size ≤ q → τ q = 0 := Hnew
  have l3 : ∀ {q : Nat} {x : Obj}, V3.heap[q]? = some x → q < V3.heap.size := fun hx => blk_lt hx
  have HB3 : Hid (w.heap.size ≤ A1 ∧ w.heap.size ≤ A2 ∧ w.heap.size ≤ A3) := HAs
  have cx := hcell (H4.out.blk HV3.out.2.1 (hA _ HB3.out.2.2))
  have htk := H4.out.tk (by omega) (m.wi g k g' k' g'' k'') E3.out fun q hq pp => pp.elim id fun pp => by
    have := (HS1.out.2 q pp).2
    have := HS3.out.2.1 q hq
    have := HS3.out.2.2
    omega
  go_wp2_with fail
  refine htk.mono ?_
  rintro _ w5 ⟨rfl, H5⟩
  clear htk cx
  have HV5 : Hid (w5.heap[A3]? = some (.cells #[.string m.ct, .slice g m.tn k, .int .i64 m.nu, .int .i64 m.tk, .slice g' m.cn k', .string m.cd, .slice g'' m.an k''] 30 (0, 0)) ∧ Own w5 W.heap.size (m.wi g k g' k' g'' k'') ∧ w5.heap[A2]? = some (.cells #[.string m.ct, .slice p m.tn d, .int .i64 m.nu, .int .i64 m.tk, .slice p' m.cn d', .string m.cd, .slice p'' m.an d''] 30 (0, 0)) ∧ Own w5 V1.heap.size (m.wi p d p' d' p'' d'') ∧ w5.heap[A1]? = some (.cells #[.string m.ct, .slice a m.tn c, .int .i64 m.nu, .int .i64 m.tk, .slice a' m.cn c', .string m.cd, .slice a'' m.an c''] 30 (0, 0)) ∧ Own w5 W.heap.size (m.wi a c a' c' a'' c'')) := ⟨H5.out.blk HV3.out.2.1 (hA _ HB3.out.2.2), H5.out.own E3.out.own E3.out.free, H5.out.blk HV3.out.2.2.2.1 (hA _ HB3.out.2.1), H5.out.own HV3.out.2.2.2.2.1 (fun q hq => hA q (by have := (HV3.out.2.2.2.2.1.blk hq).1; have := b0s.out; have := HW1.out; omega)), H5.out.blk HV3.out.2.2.2.2.2.1 (hA _ HB3.out.1), H5.out.own E1.out.own E1.out.free⟩
  have HQ5 : Hid (SQ W X K bv mk ke rm L o A A τ (n + 6) mm w w5 (fun _ => False)) := SQ.lift HV3.out.1 H5.out fun q hq => by
    rcases hq with (p | p) | p
    · exact p.elim
    · exact (HS1.out.2 q p).1
    · have := HS3.out.2.1 q p; omega
  clear H5 H4 HV3 HI hA E1 E3 l3 Hnew
  have cx := hcell HV5.out.2.2.2.2.1
  have cy := hcell HV5.out.2.2.1
  have hsm := same_true (m.wi a c a' c' a'' c'') (w := w5) (p := p) (c := d) (q := p') (d := d') (r := p'') (f := d'') HV5.out.2.2.2.2.2.lies HV5.out.2.2.2.1.lies (by show m.tn ≤ _; have := HN.out.1; omega) (by show m.cn ≤ _; have := HN.out.2.1; omega) (by show m.an ≤ _; have := HN.out.2.2; omega)
  go_wp2_with fail
  refine hsm.mono ?_
  rintro _ w6 ⟨rfl, b6⟩
  clear hsm cx cy
  have cx := hcell (blk_below HV5.out.1 b6)
  have cy := hcell (blk_below HV5.out.2.2.1 b6)
  have hsm := same_true (m.wi g k g' k' g'' k'') (w := w6) (p := p) (c := d) (q := p') (d := d') (r := p'') (f := d'') (HV5.out.2.1.below b6).lies (HV5.out.2.2.2.1.below b6).lies (by show m.tn ≤ _; have := HN.out.1; omega) (by show m.cn ≤ _; have := HN.out.2.1; omega) (by show m.an ≤ _; have := HN.out.2.2; omega)
  have HL : Hid (SQ W X K bv mk ke rm L o A A τ (n + 6) mm w w6 (fun _ => False)) := HQ5.out.below b6
  clear HV5 b6
  go_wp2_with fail
  refine hsm.mono ?_
  rintro _ w7 ⟨rfl, b7⟩
  have HZ : Hid (SQ W X K bv mk ke rm L o A A τ (n + 6) mm w w7 (fun _ => False)) := HL.out.below b7
  clear hsm b7 cx cy
  go_wp2_with fail
  go_ret
  exact ⟨rfl, HZ⟩
set_option maxRecDepth 100000 in
set_option maxHeartbeats 8000000 in
theorem all_s (h : SS W X K bv mk ke rm L o A A τ n m w) (hn : n ≤ 500000) (hm : m + 4 ≤ 80) : Calls Tryz.prog 8 #[.pointer (some ⟨X, 0, none⟩)] w fun e w' => e = .returned (.bool true) ∧ Hid (SQ W X K bv mk ke rm L o A A τ (n + 2000) (m + 4) w w' (fun _ => False)) := by
  have HL : Hid (SS W X K bv mk ke rm L o A A τ n m w) := h
  have hop := xr_open h.sx
  clear h
  go_enter Tryz.func8, Tryz.ntmps8
  go_wp2_with fail
  refine hop.mono ?_
  rintro _ w1 ⟨a, c, rfl, t1, b1⟩
  have L1 : Hid (SS W X K bv mk ke rm L o A A τ n m w1 ∧ TRow w1 w.heap.size (.slice a (opS A).length c) (opS A) ∧ Below w.heap.size w w1 ∧ ∀ q, w.heap.size ≤ q → τ q = 0) := ⟨HL.out.below b1, t1, b1, HL.out.new⟩
  obtain ⟨ol, hol⟩ : ∃ k, (opS A).length = k := ⟨_, rfl⟩
  rw [hol] at L1 ⊢
  clear hop t1 b1 HL hol
  go_wp2_with fail
  refine (tells4_s L1.out.1 (by omega) a ol c).mono ?_
  rintro _ w2 ⟨rfl, H2⟩
  go_wp2_with fail
  have R2 : Hid (∃ τ2, SS W X K bv mk ke rm L o A A τ2 (n + 6) m w2 ∧ TkQ τ τ2 w1 w2 (fun _ => False)) := H2.out
  obtain ⟨τ2, S2, T2⟩ := R2.out
  have z2 : ∀ b, (Value.slice a ol c).ownBlock = some b → τ2 b = 0 := fun b hb => by rw [T2.keep b (ERow.lt L1.out.2.1 hb).2 id]; exact L1.out.2.2.2 b (ERow.lt L1.out.2.1 hb).1
  have t2 := H2.out.row L1.out.2.1 fun b hb => L1.out.2.2.2 b (ERow.lt L1.out.2.1 hb).1
  refine (tells5_s S2 (by omega) t2 z2).mono ?_
  rintro _ w3 ⟨rfl, H3⟩
  have R3 : Hid (∃ τ3, SS W X K bv mk ke rm L o A A τ3 (n + 6) (m + 2) w3 ∧ TkQ τ τ3 w1 w3 (fun _ => False)) := by
    obtain ⟨τ3, S3, T3⟩ := H3.out
    exact ⟨τ3, S3, T2.trans T3 (fun q hq => Or.inl hq) fun q hq => hq.elim id id⟩
  clear H2 H3 R2 S2 T2 z2 t2
  go_wp2_with fail
  obtain ⟨τ3, S3, T3⟩ := R3.out
  refine (tells6_s S3 (by omega) (by omega) a ol c).mono ?_
  rintro _ w4 ⟨rfl, H4⟩
  have R4 : Hid (SQ W X K bv mk ke rm L o A A τ (n + 2000) (m + 4) w1 w4 (fun _ => False)) := by
    obtain ⟨τ4, S4, T4⟩ := H4.out
    exact ⟨τ4, S4.mono (by omega) (by omega), T3.trans T4 (fun q hq => Or.inl hq) fun q hq => hq.elim id id⟩
  clear H4 R3 S3 T3
  go_wp2_with fail
  refine (tells7_s R4.out.sx a ol c).mono ?_
  rintro _ w5 ⟨rfl, b5⟩
  have HZ : Hid (SQ W X K bv mk ke rm L o A A τ (n + 2000) (m + 4) w w5 (fun _ => False)) := SQ.lift L1.out.2.2.1 (R4.out.below b5) fun q hq => hq.elim
  clear R4 b5 L1
  go_wp2_with fail
  go_ret
  exact ⟨rfl, HZ⟩
end
end Go.Proofs.YtjbkfppibnlmoaaGreatDoor
