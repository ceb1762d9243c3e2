/-
  The law's walk.
-/
import Derived.Test.YtjdpjielpbiedaaGreatDoorKTk
namespace Go.Proofs.YtjdpjielpbiedaaGreatDoor.Td
open Go.RowKit

/-- All lists and refusals, where the counted blocks but the book are as they were. -/
structure Gy (w y : World) (K n1 n2 : Nat) (X T : List Value) (bs : List Bool) (v1 v2 v3 v4 v5 v6 b1 b2 b3 e l f no : Value) (cP cT : Int) : Prop where
  bl : Below w.heap.size w y
  r1 : TRow y K v1 X
  r2 : TRow y K v2 X
  r3 : TRow y K v3 X
  r4 : TRow y K v4 T
  r5 : TRow y K v5 T
  r6 : TRow y K v6 T
  q1 : BRow y K b1 (bools bs)
  q2 : BRow y K b2 (bools bs)
  q3 : BRow y K b3 (bools bs)
  te : TEv y e 0 cP
  tn : TNo y l 0 cP
  tf : TEv y f 0 cT
  tm : TNo y no 0 cT
theorem Gy.below {w y y' : World} {K n1 n2 : Nat} {X T : List Value} {bs : List Bool} {v1 v2 v3 v4 v5 v6 b1 b2 b3 e l f no : Value} {cP cT : Int} (h : Gy w y K n1 n2 X T bs v1 v2 v3 v4 v5 v6 b1 b2 b3 e l f no cP cT) (hb : Below y.heap.size y y') : Gy w y' K n1 n2 X T bs v1 v2 v3 v4 v5 v6 b1 b2 b3 e l f no cP cT :=
  ⟨below_then h.bl hb, VRow.below h.r1 hb, VRow.below h.r2 hb, VRow.below h.r3 hb, VRow.below h.r4 hb, VRow.below h.r5 hb, VRow.below h.r6 hb, VRow.below h.q1 hb, VRow.below h.q2 hb, VRow.below h.q3 hb, h.te.below hb, h.tn.below hb, h.tf.below hb, h.tm.below hb⟩
/-- What the calls have left, ahead of the book's. -/
structure Gd (w x : World) (K n1 n2 : Nat) (X T : List Value) (bs : List Bool) (v1 v2 v3 v4 v5 v6 b1 b2 b3 e l f no : Value) (cP cT : Int) : Prop where
  hk : w.heap.size = K
  bk : Bk x K K (fun k => if k = K then 1 else 0) (.slice none 0 0) (.slice none 0 0) []
  gy : Gy w x K n1 n2 X T bs v1 v2 v3 v4 v5 v6 b1 b2 b3 e l f no cP cT
  rg : ∃ N2 N3 N4 N5 N6, K + 1 ≤ N2 ∧ N2 ≤ N3 ∧ N3 ≤ N4 ∧ N4 ≤ N5 ∧ N5 ≤ N6 ∧ N6 ≤ x.heap.size ∧ Rg v1 (K + 1) N2 ∧ Rg v2 N2 N3 ∧ Rg v3 N3 N4 ∧ Rg v4 N4 N5 ∧ Rg v5 N5 N6 ∧ Rg v6 N6 x.heap.size ∧ Rg b1 (K + 1) N2 ∧ Rg b2 N2 N3 ∧ Rg b3 N3 N4
theorem Gd.to {w x y : World} {K n1 n2 : Nat} {X T : List Value} {bs : List Bool} {v1 v2 v3 v4 v5 v6 b1 b2 b3 e l f no : Value} {cP cT : Int} (h : Gd w x K n1 n2 X T bs v1 v2 v3 v4 v5 v6 b1 b2 b3 e l f no cP cT) (o : Off (fun z => z = K) x y) : Gy w y K n1 n2 X T bs v1 v2 v3 v4 v5 v6 b1 b2 b3 e l f no cP cT := by
  obtain ⟨N2, N3, N4, N5, N6, k1, k2, k3, k4, k5, k6, g1, g2, g3, g4, g5, g6, p1, p2, p3⟩ := h.rg
  have hc := h.bk.c0
  exact ⟨off_base h.gy.bl o (fun z e => by have := h.hk; omega), VRow.off h.gy.r1 o (fun z e q => by have := g1 z e; omega), VRow.off h.gy.r2 o (fun z e q => by have := g2 z e; omega), VRow.off h.gy.r3 o (fun z e q => by have := g3 z e; omega), VRow.off h.gy.r4 o (fun z e q => by have := g4 z e; omega), VRow.off h.gy.r5 o (fun z e q => by have := g5 z e; omega), VRow.off h.gy.r6 o (fun z e q => by have := g6 z e; omega), VRow.off h.gy.q1 o (fun z e q => by have := p1 z e; omega), VRow.off h.gy.q2 o (fun z e q => by have := p2 z e; omega), VRow.off h.gy.q3 o (fun z e q => by have := p3 z e; omega), h.gy.te.offK o hc, h.gy.tn.offK o hc, h.gy.tf.offK o hc, h.gy.tm.offK o hc⟩
theorem take_u {x y : World} {K n c : Nat} {ρ : Nat → Nat} {vb vw : Value} {es : List Ent} {a : Option Addr} {bs : List Value} (hb : Bk y K K ρ vb vw es) (ht : Tk x y K ρ es) (hr : TRow x K (.slice a n c) bs) (hz : ∀ g, (Value.slice a n c).ownBlock = some g → g ≠ K ∧ ∀ e ∈ es, e.val.ownBlock ≠ some g) (hn : n ≤ 1000) (hm : es.length + 1 ≤ 1000) (hT : ∀ u ∈ bs, ∃ s, u = .string s) :
    Calls Tryz.prog 9 #[.pointer (some ⟨K, 0, none⟩), .slice a n c] y fun e y' => e = .returned (.tuple #[]) ∧ Hid (∃ ρ' vb' vw' was, Bk y' K K ρ' vb' vw' (es ++ [⟨.slice a n c, was, bs, bs⟩]) ∧ Tk x y' K ρ' (es ++ [⟨.slice a n c, was, bs, bs⟩])) := by
  have hr2 : TRow y K (.slice a n c) bs := VRow.off hr ht.off (fun g hg e => (hz g hg).1 e)
  refine (Take_any hb hr2 (fun g hg => ht.zeroAt (VRow.lt hr hg).2 (hz g hg).1 (hz g hg).2) hn hm hT).mono ?_
  rintro _ y' ⟨rfl, ρ', vb', vw', was, h1, h2, h3⟩
  exact ⟨rfl, ρ', vb', vw', was, h1, ht.step hb h2 h3⟩
/-- The book with its lists, and all else. -/
structure Sy (w x y : World) (K n1 n2 : Nat) (X T : List Value) (bs : List Bool) (v1 v2 v3 v4 v5 v6 b1 b2 b3 e l f no : Value) (cP cT : Int) (ρ : Nat → Nat) (vb vw : Value) (es : List Ent) : Prop where
  gy : Gy w y K n1 n2 X T bs v1 v2 v3 v4 v5 v6 b1 b2 b3 e l f no cP cT
  bk : Bk y K K ρ vb vw es
  tk : Tk x y K ρ es
theorem Sy.below {w x y y' : World} {K n1 n2 : Nat} {X T : List Value} {bs : List Bool} {v1 v2 v3 v4 v5 v6 b1 b2 b3 e l f no : Value} {cP cT : Int} {ρ : Nat → Nat} {vb vw : Value} {es : List Ent} (h : Sy w x y K n1 n2 X T bs v1 v2 v3 v4 v5 v6 b1 b2 b3 e l f no cP cT ρ vb vw es) (hb : Below y.heap.size y y') : Sy w x y' K n1 n2 X T bs v1 v2 v3 v4 v5 v6 b1 b2 b3 e l f no cP cT ρ vb vw es :=
  ⟨h.gy.below hb, h.bk.off (Off.of_below (P := fun _ => False) hb) (fun _ p => p.elim), h.tk.below hb⟩
/-- What is left behind the book's look. -/
structure Az (w z : World) (K : Nat) (X : List Value) (bs : List Bool) (v3 b1 b2 b3 : Value) : Prop where
  bl : Below w.heap.size w z
  r3 : TRow z K v3 X
  q1 : BRow z K b1 (bools bs)
  q2 : BRow z K b2 (bools bs)
  q3 : BRow z K b3 (bools bs)
  d1 : ∀ g, b1.ownBlock = some g → b2.ownBlock ≠ some g
  d3 : ∀ g, b3.ownBlock = some g → b1.ownBlock ≠ some g ∧ b2.ownBlock ≠ some g
theorem Sy.alone {w x y z : World} {K n1 n2 : Nat} {X T : List Value} {bs : List Bool} {v1 v2 v3 v4 v5 v6 b1 b2 b3 e l f no : Value} {cP cT : Int} {ρ : Nat → Nat} {vb vw w1 w2 w4 w5 : Value} (h : Sy w x y K n1 n2 X T bs v1 v2 v3 v4 v5 v6 b1 b2 b3 e l f no cP cT ρ vb vw [⟨v1, w1, X, X⟩, ⟨v2, w2, X, X⟩, ⟨v4, w4, T, T⟩, ⟨v5, w5, T, T⟩]) (g : Gd w x K n1 n2 X T bs v1 v2 v3 v4 v5 v6 b1 b2 b3 e l f no cP cT) (o : Off (fun k => ρ k = 1 ∨ ∃ j, ρ k = 6 + 2 * j) y z) : Az w z K X bs v3 b1 b2 b3 := by
  obtain ⟨N2, N3, N4, N5, N6, k1, k2, k3, k4, k5, k6, g1, g2, g3, g4, g5, g6, p1, p2, p3⟩ := g.rg
  have hk := g.hk
  have hx : K < x.heap.size := g.bk.lt
  have hzero : ∀ q, q < x.heap.size → q ≠ K → (∀ j, v1.ownBlock = some j → j ≠ q) → (∀ j, v2.ownBlock = some j → j ≠ q) → (∀ j, v4.ownBlock = some j → j ≠ q) → (∀ j, v5.ownBlock = some j → j ≠ q) → ¬ (ρ q = 1 ∨ ∃ j, ρ q = 6 + 2 * j) := fun q hq hK n1 n2 n4 n5 => by
    have h0 : ρ q = 0 := h.tk.zeroAt hq hK (fun e he e1 => by
      simp only [List.mem_cons, List.not_mem_nil, or_false] at he
      rcases he with rfl | rfl | rfl | rfl
      · exact n1 q e1 rfl
      · exact n2 q e1 rfl
      · exact n4 q e1 rfl
      · exact n5 q e1 rfl)
    rintro (p | ⟨j, p⟩) <;> omega
  have hty : ∀ {v : Value} {xs : List Value} {b : Value}, TRow x K v xs → BRow x K b (bools bs) → ∀ q, b.ownBlock = some q → ∀ j, v.ownBlock = some j → j ≠ q := fun h1 h2 q hq j hj e => by
    subst e; exact rows_ne h1 h2 (by decide) j hj hq
  refine ⟨?_, VRow.off h.gy.r3 o (fun q e => ?_), VRow.off h.gy.q1 o (fun q e => ?_), VRow.off h.gy.q2 o (fun q e => ?_), VRow.off h.gy.q3 o (fun q e => ?_), fun q e e' => ?_, fun q e => ⟨fun e' => ?_, fun e' => ?_⟩⟩
  · refine off_base h.gy.bl o (fun q p => ?_)
    rcases Nat.lt_or_ge q w.heap.size with hq | hq
    · exact absurd p (hzero q (by omega) (by omega) (fun j e => by have := g1 j e; omega) (fun j e => by have := g2 j e; omega) (fun j e => by have := g4 j e; omega) (fun j e => by have := g5 j e; omega))
    · exact hq
  · have := g3 q e
    exact hzero q (by omega) (by omega) (fun j e => by have := g1 j e; omega) (fun j e => by have := g2 j e; omega) (fun j e => by have := g4 j e; omega) (fun j e => by have := g5 j e; omega)
  · have := p1 q e
    exact hzero q (by omega) (by omega) (hty g.gy.r1 g.gy.q1 q e) (hty g.gy.r2 g.gy.q1 q e) (hty g.gy.r4 g.gy.q1 q e) (hty g.gy.r5 g.gy.q1 q e)
  · have := p2 q e
    exact hzero q (by omega) (by omega) (hty g.gy.r1 g.gy.q2 q e) (hty g.gy.r2 g.gy.q2 q e) (hty g.gy.r4 g.gy.q2 q e) (hty g.gy.r5 g.gy.q2 q e)
  · have := p3 q e
    exact hzero q (by omega) (by omega) (hty g.gy.r1 g.gy.q3 q e) (hty g.gy.r2 g.gy.q3 q e) (hty g.gy.r4 g.gy.q3 q e) (hty g.gy.r5 g.gy.q3 q e)
  · have := p1 q e; have := p2 q e'; omega
  · have := p3 q e; have := p1 q e'; omega
  · have := p3 q e; have := p2 q e'; omega
set_option maxRecDepth 100000 in
set_option maxHeartbeats 16000000 in
theorem kinds_some (k : ByteArray) (n : Int) (w : World) (hV : KV w) (hE : ErrType w) (hq : ∃ l, tabI n = some l ∧ 0 < l.length) : Calls Tryz.prog 3 #[.string k, .int .i64 n] w fun r w' => r = .returned (.bool true) ∧ Below w.heap.size w w' := by
  have hl1 := pts_len (bl k)
  have hl2 := tl_small n
  have HV : Hid (KV w) := hV
  have HE : Hid (ErrType w) := hE
  have CP := Parts_u k
  have CR := rParts_u k
  have CT := Table_u n
  have CU := rTable_u n
  have CK := Known_any k
  have CL := rKnown_any k
  have hcT : cdT (tabI n) = 0 := by obtain ⟨l, h, _⟩ := hq; rw [h]; rfl
  have hisn : (tabI n).isNone = false := by obtain ⟨l, h, _⟩ := hq; rw [h]; rfl
  obtain ⟨ps, hps⟩ : ∃ ps, ptsOf (bl k) = ps := ⟨_, rfl⟩
  obtain ⟨T, hT⟩ : ∃ T, tl (tabI n) = T := ⟨_, rfl⟩
  have hTs : ∀ u ∈ T, ∃ s, u = .string s := by rw [← hT]; exact strs_str _
  rw [hps] at CP CR CK CL hl1
  rw [hT, hcT] at CT
  rw [hT, hisn] at CU
  rw [hT] at hl2
  obtain ⟨X, hX⟩ : ∃ X, nmV ps = X := ⟨_, rfl⟩
  have hXs : ∀ u ∈ X, ∃ s, u = .string s := by rw [← hX]; exact strs_str _
  obtain ⟨bs, hbs⟩ : ∃ bs, ps.map Prod.snd = bs := ⟨_, rfl⟩
  have hY : muV ps = bools bs := by unfold muV; rw [hbs]
  obtain ⟨n1, hn1⟩ : ∃ n1, ps.length = n1 := ⟨_, rfl⟩
  obtain ⟨cP, hcP⟩ : ∃ cP, cdP ps = cP := ⟨_, rfl⟩
  obtain ⟨n2, hn2⟩ : ∃ n2, T.length = n2 := ⟨_, rfl⟩
  rw [hX, hY, hn1, hcP] at CP CR
  rw [hn1] at CK CL hl1
  rw [hn2] at CT CU hl2
  obtain ⟨kq, hkq⟩ : ∃ kq, decide (0 < n1) = kq := ⟨_, rfl⟩
  rw [hkq] at CK CL
  have HS : Hid ((∀ u ∈ X, ∃ s, u = .string s) ∧ (∀ u ∈ T, ∃ s, u = .string s) ∧ T.length = n2 ∧ X.length = n1) := ⟨hXs, hTs, hn2, by rw [← hX, ← hn1]; unfold nmV; rw [strs_length, List.length_map]⟩
  have HP : Hid (∀ x, KV x → Calls Tryz.prog 4 #[.string k] x fun e x' => ∃ a c m d ev, e = .returned (.tuple #[.slice a n1 c, .slice m n1 d, ev]) ∧ Hid (TRow x' x.heap.size (.slice a n1 c) X ∧ BRow x' x.heap.size (.slice m n1 d) (bools bs) ∧ TEv x' ev 0 cP ∧ Below x.heap.size x x')) := CP
  have HR : Hid (∀ x, Calls Tryz.prog 5 #[.string k] x fun e x' => ∃ a c m d no, e = .returned (.tuple #[.slice a n1 c, .slice m n1 d, no]) ∧ Hid (TRow x' x.heap.size (.slice a n1 c) X ∧ BRow x' x.heap.size (.slice m n1 d) (bools bs) ∧ TNo x' no 0 cP ∧ Below x.heap.size x x')) := CR
  have HT : Hid (∀ x, KV x → Calls Tryz.prog 6 #[.int .i64 n] x fun e x' => ∃ a c ev, e = .returned (.tuple #[.slice a n2 c, ev]) ∧ Hid (TRow x' x.heap.size (.slice a n2 c) T ∧ TEv x' ev 0 0 ∧ Below x.heap.size x x')) := CT
  have HKn : Hid (∀ x, KV x → Calls Tryz.prog 10 #[.string k] x fun e x' => e = .returned (.bool kq) ∧ Below x.heap.size x x') := CK
  have HKr : Hid (∀ x, Calls Tryz.prog 11 #[.string k] x fun e x' => e = .returned (.bool kq) ∧ Below x.heap.size x x') := CL
  have HU : Hid (∀ x, Calls Tryz.prog 7 #[.int .i64 n] x fun e x' => ∃ g c, e = .returned (.slice (some g) n2 c) ∧ Hid (TRow x' x.heap.size (.slice (some g) n2 c) T ∧ Below x.heap.size x x')) := fun x => (CU x).mono fun e x' h => by
    obtain ⟨a, c, h1, h2, h3, h4⟩ := h
    cases a with
    | none => cases h3
    | some g => exact ⟨g, c, h1, h2, h4⟩
  have hnil : ∀ (x : World) (g : Addr) (l c : Nat), (binOp .eql 28 (.slice (some g) l c) (.slice none 0 0)).run Tryz.prog x = .ok (.bool false) x := fun x g l c => str_nil x (some g) l c
  clear CP CR CT CU CK CL hps hT hX hY hn1 hcP hn2 hkq hbs hTs hXs hV hE hcT hisn hq
  go_enter Tryz.func3, Tryz.ntmps3
  have HB0 : Hid (Bk (w.alloc (.cells #[.slice none 0 0, .slice none 0 0, .slice none 0 0, .slice none 0 0, .slice none 0 0, .slice none 0 0] 27)) w.heap.size w.heap.size (fun k => if k = w.heap.size then 1 else 0) (.slice none 0 0) (.slice none 0 0) [] ∧ Below w.heap.size w (w.alloc (.cells #[.slice none 0 0, .slice none 0 0, .slice none 0 0, .slice none 0 0, .slice none 0 0, .slice none 0 0] 27)) ∧ (w.alloc (.cells #[.slice none 0 0, .slice none 0 0, .slice none 0 0, .slice none 0 0, .slice none 0 0, .slice none 0 0] 27)).heap.size = w.heap.size + 1) := by
    refine ⟨Bk.empty (fun q hq => ?_) (fun q => (Box.new w _ _).free q) (by simp), (Below.refl _ _).alloc (Nat.le_refl _) _, by simp⟩
    rw [(Box.new w #[.slice none 0 0, .slice none 0 0, .slice none 0 0, .slice none 0 0, .slice none 0 0, .slice none 0 0] 27).cell q]
    rcases (by omega : q = 0 ∨ q = 1 ∨ q = 2 ∨ q = 3 ∨ q = 4 ∨ q = 5) with rfl | rfl | rfl | rfl | rfl | rfl <;> rfl
  go_upto_region 2 with fail
  obtain ⟨W, hW⟩ : ∃ W, w.alloc (.cells #[.slice none 0 0, .slice none 0 0, .slice none 0 0, .slice none 0 0, .slice none 0 0, .slice none 0 0] 27) = W := ⟨_, rfl⟩
  obtain ⟨K, hK⟩ : ∃ K, w.heap.size = K := ⟨_, rfl⟩
  rw [hW] at HB0
  rw [hW, hK]
  have HK : Hid (w.heap.size = K) := hK
  clear hW hK
  go_wp2_with fail
  refine (HP.out _ (HV.out.below HB0.out.2.1)).mono ?_
  rintro _ w1 ⟨a1, c1, m1, d1, e1, rfl, H1⟩
  go_wp2_with fail
  have b1 : Hid (Below w.heap.size w w1) := below_then HB0.out.2.1 H1.out.2.2.2
  refine (HP.out _ (HV.out.below b1.out)).mono ?_
  rintro _ w2 ⟨a2, c2, m2, d2, e2, rfl, H2⟩
  go_wp2_with fail
  have b2 : Hid (Below w.heap.size w w2) := below_then b1.out H2.out.2.2.2
  refine (HR.out _).mono ?_
  rintro _ w3 ⟨a3, c3, m3, d3, l3, rfl, H3⟩
  go_wp2_with fail
  have b3 : Hid (Below w.heap.size w w3) := below_then b2.out H3.out.2.2.2
  refine (HT.out _ (HV.out.below b3.out)).mono ?_
  rintro _ w4 ⟨a4, c4, f4, rfl, H4⟩
  go_wp2_with fail
  have b4 : Hid (Below w.heap.size w w4) := below_then b3.out H4.out.2.2
  refine (HT.out _ (HV.out.below b4.out)).mono ?_
  rintro _ w5 ⟨a5, c5, f5, rfl, H5⟩
  go_wp2_with fail
  have b5 : Hid (Below w.heap.size w w5) := below_then b4.out H5.out.2.2
  refine (HU.out _).mono ?_
  rintro _ w6 ⟨g6, c6, rfl, H6⟩
  go_wp2_with fail
  have b6 : Hid (Below w.heap.size w w6) := below_then b5.out H6.out.2
  obtain ⟨x, hx⟩ : ∃ x, x = w6 := ⟨_, rfl⟩
  subst hx
  obtain ⟨a6, ha6⟩ : ∃ a, a = some g6 := ⟨_, rfl⟩
  rw [← ha6] at H6
  rw [← ha6]
  clear ha6 hnil HU
  have HF : Hid (TNo x (.slice none 0 0) 0 0) := Or.inl ⟨rfl, rfl⟩
  obtain ⟨no, hno⟩ : ∃ no, Value.slice none 0 0 = no := ⟨_, rfl⟩
  have HG : Hid (Gd w x K n1 n2 X T bs (.slice a1 n1 c1) (.slice a2 n1 c2) (.slice a3 n1 c3) (.slice a4 n2 c4) (.slice a5 n2 c5) (.slice a6 n2 c6) (.slice m1 n1 d1) (.slice m2 n1 d2) (.slice m3 n1 d3) e1 l3 f4 (.slice none 0 0) cP 0) := by
    have z1 := H1.out.2.2.2
    have z2 := H2.out.2.2.2
    have z3 := H3.out.2.2.2
    have z4 := H4.out.2.2
    have z5 := H5.out.2.2
    have z6 := H6.out.2
    have y5 := z6
    have y4 := below_then z5 y5
    have y3 := below_then z4 y4
    have y2 := below_then z3 y3
    have y1 := below_then z2 y2
    have y0 := below_then z1 y1
    have s0 := HB0.out.2.2
    have hk := HK.out
    have hbk := HB0.out.1.off (Off.of_below (P := fun _ => False) y0) (fun _ p => p.elim)
    rw [hk] at hbk
    have s1 := b1.out.size
    have s2 := b2.out.size
    have s3 := b3.out.size
    have s4 := b4.out.size
    have s5 := b5.out.size
    refine ⟨hk, hbk, ⟨b6.out, VRow.base (VRow.below H1.out.1 y1) (by omega), VRow.base (VRow.below H2.out.1 y2) (by omega), VRow.base (VRow.below H3.out.1 y3) (by omega), VRow.base (VRow.below H4.out.1 y4) (by omega), VRow.base (VRow.below H5.out.1 y5) (by omega), VRow.base H6.out.1 (by omega), VRow.base (VRow.below H1.out.2.1 y1) (by omega), VRow.base (VRow.below H2.out.2.1 y2) (by omega), VRow.base (VRow.below H3.out.2.1 y3) (by omega), H1.out.2.2.1.below y1, H3.out.2.2.1.below y3, H4.out.2.1.below y4, HF.out⟩, ?_⟩
    have t1 := z1.size
    refine ⟨w1.heap.size, w2.heap.size, w3.heap.size, w4.heap.size, w5.heap.size, by omega, z2.size, z3.size, z4.size, z5.size, z6.size, fun g hg => ?_, Rg.of H2.out.1, Rg.of H3.out.1, Rg.of H4.out.1, Rg.of H5.out.1, Rg.of H6.out.1, fun g hg => ?_, Rg.of H2.out.2.1, Rg.of H3.out.2.1⟩
    · have := Rg.of H1.out.1 g hg; omega
    · have := Rg.of H1.out.2.1 g hg; omega
  rw [hno] at HG
  rw [hno]
  clear hno
  clear H1 H2 H3 H4 H5 H6 HF b1 b2 b3 b4 b5 b6 HB0 HT HR
  obtain ⟨N2, N3, N4, N5, N6, k1, k2, k3, k4, k5, k6, g1, g2, g3, g4, g5, g6, p1, p2, p3⟩ := HG.out.rg
  have HQ : Hid (K + 1 ≤ N2 ∧ N2 ≤ N3 ∧ N3 ≤ N4 ∧ N4 ≤ N5 ∧ N5 ≤ N6 ∧ Rg (.slice a1 n1 c1) (K + 1) N2 ∧ Rg (.slice a2 n1 c2) N2 N3 ∧ Rg (.slice a4 n2 c4) N4 N5 ∧ Rg (.slice a5 n2 c5) N5 N6) := ⟨k1, k2, k3, k4, k5, g1, g2, g4, g5⟩
  clear k1 k2 k3 k4 k5 k6 g1 g2 g3 g4 g5 g6 p1 p2 p3
  refine (take_u HG.out.bk (Tk.zero x K) HG.out.gy.r1 (fun g hg => ⟨by have := HQ.out.2.2.2.2.2.1 g hg; omega, fun e he => by simp at he⟩) (by omega) (by simp) HS.out.1).mono ?_
  rintro _ y1 ⟨rfl, T1⟩
  obtain ⟨ρ1, vb1, vw1, s1, B1, U1⟩ := T1
  have T1 : Hid (Bk y1 K K ρ1 vb1 vw1 [⟨.slice a1 n1 c1, s1, X, X⟩] ∧ Tk x y1 K ρ1 [⟨.slice a1 n1 c1, s1, X, X⟩]) := ⟨B1, U1⟩
  clear B1 U1
  go_wp2_with fail
  refine (take_u T1.out.1 T1.out.2 HG.out.gy.r2 (fun g hg => ⟨by have := HQ.out.2.2.2.2.2.2.1 g hg; have := HQ.out.1; omega, fun e he e' => by
    simp only [List.mem_singleton] at he; subst he
    have h1 := HQ.out.2.2.2.2.2.1 g e'; have h2 := HQ.out.2.2.2.2.2.2.1 g hg; omega⟩) (by omega) (by simp) HS.out.1).mono ?_
  rintro _ y2 ⟨rfl, T2⟩
  obtain ⟨ρ2, vb2, vw2, s2, B2, U2⟩ := T2
  have T2 : Hid (Bk y2 K K ρ2 vb2 vw2 [⟨.slice a1 n1 c1, s1, X, X⟩, ⟨.slice a2 n1 c2, s2, X, X⟩] ∧ Tk x y2 K ρ2 [⟨.slice a1 n1 c1, s1, X, X⟩, ⟨.slice a2 n1 c2, s2, X, X⟩]) := ⟨B2, U2⟩
  clear B2 U2 T1
  go_wp2_with fail
  refine (take_u T2.out.1 T2.out.2 HG.out.gy.r4 (fun g hg => ⟨by have := HQ.out.2.2.2.2.2.2.2.1 g hg; have := HQ.out; omega, fun e he e' => by
    simp only [List.mem_cons, List.not_mem_nil, or_false] at he
    have h4 := HQ.out.2.2.2.2.2.2.2.1 g hg
    have hh := HQ.out
    rcases he with rfl | rfl
    · have h1 := HQ.out.2.2.2.2.2.1 g e'; omega
    · have h1 := HQ.out.2.2.2.2.2.2.1 g e'; omega⟩) (by omega) (by simp) HS.out.2.1).mono ?_
  rintro _ y3 ⟨rfl, T3⟩
  obtain ⟨ρ3, vb3, vw3, s4, B3, U3⟩ := T3
  have T3 : Hid (Bk y3 K K ρ3 vb3 vw3 [⟨.slice a1 n1 c1, s1, X, X⟩, ⟨.slice a2 n1 c2, s2, X, X⟩, ⟨.slice a4 n2 c4, s4, T, T⟩] ∧ Tk x y3 K ρ3 [⟨.slice a1 n1 c1, s1, X, X⟩, ⟨.slice a2 n1 c2, s2, X, X⟩, ⟨.slice a4 n2 c4, s4, T, T⟩]) := ⟨B3, U3⟩
  clear B3 U3 T2
  go_wp2_with fail
  refine (take_u T3.out.1 T3.out.2 HG.out.gy.r5 (fun g hg => ⟨by have := HQ.out.2.2.2.2.2.2.2.2 g hg; have := HQ.out; omega, fun e he e' => by
    simp only [List.mem_cons, List.not_mem_nil, or_false] at he
    have h4 := HQ.out.2.2.2.2.2.2.2.2 g hg
    have hh := HQ.out
    rcases he with rfl | rfl | rfl
    · have h1 := HQ.out.2.2.2.2.2.1 g e'; omega
    · have h1 := HQ.out.2.2.2.2.2.2.1 g e'; omega
    · have h1 := HQ.out.2.2.2.2.2.2.2.1 g e'; omega⟩) (by omega) (by simp) HS.out.2.1).mono ?_
  rintro _ y4 ⟨rfl, T4⟩
  obtain ⟨ρ4, vb4, vw4, s5, B4, U4⟩ := T4
  have S0 : Hid (Sy w x y4 K n1 n2 X T bs (.slice a1 n1 c1) (.slice a2 n1 c2) (.slice a3 n1 c3) (.slice a4 n2 c4) (.slice a5 n2 c5) (.slice a6 n2 c6) (.slice m1 n1 d1) (.slice m2 n1 d2) (.slice m3 n1 d3) e1 l3 f4 no cP 0 ρ4 vb4 vw4 [⟨.slice a1 n1 c1, s1, X, X⟩, ⟨.slice a2 n1 c2, s2, X, X⟩, ⟨.slice a4 n2 c4, s4, T, T⟩, ⟨.slice a5 n2 c5, s5, T, T⟩]) := ⟨HG.out.to U4.off, B4, U4⟩
  clear B4 U4 T3 HQ
  go_wp2_with fail
  refine (HKn.out _ (HV.out.below S0.out.gy.bl)).mono ?_
  rintro _ y5 ⟨rfl, hb⟩
  have S1 : Hid (Sy w x y5 K n1 n2 X T bs (.slice a1 n1 c1) (.slice a2 n1 c2) (.slice a3 n1 c3) (.slice a4 n2 c4) (.slice a5 n2 c5) (.slice a6 n2 c6) (.slice m1 n1 d1) (.slice m2 n1 d2) (.slice m3 n1 d3) e1 l3 f4 no cP 0 ρ4 vb4 vw4 [⟨.slice a1 n1 c1, s1, X, X⟩, ⟨.slice a2 n1 c2, s2, X, X⟩, ⟨.slice a4 n2 c4, s4, T, T⟩, ⟨.slice a5 n2 c5, s5, T, T⟩]) := S0.out.below hb
  clear hb S0
  go_wp2_with fail
  refine (HKr.out _).mono ?_
  rintro _ y6 ⟨rfl, hb⟩
  have S2 : Hid (Sy w x y6 K n1 n2 X T bs (.slice a1 n1 c1) (.slice a2 n1 c2) (.slice a3 n1 c3) (.slice a4 n2 c4) (.slice a5 n2 c5) (.slice a6 n2 c6) (.slice m1 n1 d1) (.slice m2 n1 d2) (.slice m3 n1 d3) e1 l3 f4 no cP 0 ρ4 vb4 vw4 [⟨.slice a1 n1 c1, s1, X, X⟩, ⟨.slice a2 n1 c2, s2, X, X⟩, ⟨.slice a4 n2 c4, s4, T, T⟩, ⟨.slice a5 n2 c5, s5, T, T⟩]) := S1.out.below hb
  clear hb S1
  go_wp2_with fail
  refine (sameT_true S2.out.gy.r1 S2.out.gy.r3 HS.out.1 (by omega)).mono ?_
  rintro _ y7 ⟨rfl, q7, hw⟩
  have S3 : Hid (Sy w x y7 K n1 n2 X T bs (.slice a1 n1 c1) (.slice a2 n1 c2) (.slice a3 n1 c3) (.slice a4 n2 c4) (.slice a5 n2 c5) (.slice a6 n2 c6) (.slice m1 n1 d1) (.slice m2 n1 d2) (.slice m3 n1 d3) e1 l3 f4 no cP 0 ρ4 vb4 vw4 [⟨.slice a1 n1 c1, s1, X, X⟩, ⟨.slice a2 n1 c2, s2, X, X⟩, ⟨.slice a4 n2 c4, s4, T, T⟩, ⟨.slice a5 n2 c5, s5, T, T⟩]) := by rw [hw]; exact S2.out.below (below_drewN (Below.refl _ _) _)
  clear hw S2
  go_wp2_with fail
  refine (sameT_true S3.out.gy.r2 S3.out.gy.r3 HS.out.1 (by omega)).mono ?_
  rintro _ y8 ⟨rfl, q8, hw⟩
  have S4 : Hid (Sy w x y8 K n1 n2 X T bs (.slice a1 n1 c1) (.slice a2 n1 c2) (.slice a3 n1 c3) (.slice a4 n2 c4) (.slice a5 n2 c5) (.slice a6 n2 c6) (.slice m1 n1 d1) (.slice m2 n1 d2) (.slice m3 n1 d3) e1 l3 f4 no cP 0 ρ4 vb4 vw4 [⟨.slice a1 n1 c1, s1, X, X⟩, ⟨.slice a2 n1 c2, s2, X, X⟩, ⟨.slice a4 n2 c4, s4, T, T⟩, ⟨.slice a5 n2 c5, s5, T, T⟩]) := by rw [hw]; exact S3.out.below (below_drewN (Below.refl _ _) _)
  clear hw S3
  go_wp2_with fail
  refine (sameB_true S4.out.gy.q1 S4.out.gy.q3 (by omega)).mono ?_
  rintro _ y9 ⟨rfl, hb⟩
  have S5 : Hid (Sy w x y9 K n1 n2 X T bs (.slice a1 n1 c1) (.slice a2 n1 c2) (.slice a3 n1 c3) (.slice a4 n2 c4) (.slice a5 n2 c5) (.slice a6 n2 c6) (.slice m1 n1 d1) (.slice m2 n1 d2) (.slice m3 n1 d3) e1 l3 f4 no cP 0 ρ4 vb4 vw4 [⟨.slice a1 n1 c1, s1, X, X⟩, ⟨.slice a2 n1 c2, s2, X, X⟩, ⟨.slice a4 n2 c4, s4, T, T⟩, ⟨.slice a5 n2 c5, s5, T, T⟩]) := S4.out.below hb
  clear hb S4
  go_wp2_with fail
  refine (sameB_true S5.out.gy.q2 S5.out.gy.q3 (by omega)).mono ?_
  rintro _ ya ⟨rfl, hb⟩
  have S6 : Hid (Sy w x ya K n1 n2 X T bs (.slice a1 n1 c1) (.slice a2 n1 c2) (.slice a3 n1 c3) (.slice a4 n2 c4) (.slice a5 n2 c5) (.slice a6 n2 c6) (.slice m1 n1 d1) (.slice m2 n1 d2) (.slice m3 n1 d3) e1 l3 f4 no cP 0 ρ4 vb4 vw4 [⟨.slice a1 n1 c1, s1, X, X⟩, ⟨.slice a2 n1 c2, s2, X, X⟩, ⟨.slice a4 n2 c4, s4, T, T⟩, ⟨.slice a5 n2 c5, s5, T, T⟩]) := S5.out.below hb
  clear hb S5
  go_wp2_with fail
  refine (refused_any (errType_below HE.out S6.out.gy.bl) S6.out.gy.te S6.out.gy.tn).mono ?_
  rintro _ yb ⟨rfl, hb⟩
  have S7 : Hid (Sy w x yb K n1 n2 X T bs (.slice a1 n1 c1) (.slice a2 n1 c2) (.slice a3 n1 c3) (.slice a4 n2 c4) (.slice a5 n2 c5) (.slice a6 n2 c6) (.slice m1 n1 d1) (.slice m2 n1 d2) (.slice m3 n1 d3) e1 l3 f4 no cP 0 ρ4 vb4 vw4 [⟨.slice a1 n1 c1, s1, X, X⟩, ⟨.slice a2 n1 c2, s2, X, X⟩, ⟨.slice a4 n2 c4, s4, T, T⟩, ⟨.slice a5 n2 c5, s5, T, T⟩]) := S6.out.below hb
  clear hb S6
  go_wp2_with fail
  refine (sameT_true S7.out.gy.r4 S7.out.gy.r6 HS.out.2.1 (by omega)).mono ?_
  rintro _ yc ⟨rfl, qc, hw⟩
  have S8 : Hid (Sy w x yc K n1 n2 X T bs (.slice a1 n1 c1) (.slice a2 n1 c2) (.slice a3 n1 c3) (.slice a4 n2 c4) (.slice a5 n2 c5) (.slice a6 n2 c6) (.slice m1 n1 d1) (.slice m2 n1 d2) (.slice m3 n1 d3) e1 l3 f4 no cP 0 ρ4 vb4 vw4 [⟨.slice a1 n1 c1, s1, X, X⟩, ⟨.slice a2 n1 c2, s2, X, X⟩, ⟨.slice a4 n2 c4, s4, T, T⟩, ⟨.slice a5 n2 c5, s5, T, T⟩]) := by rw [hw]; exact S7.out.below (below_drewN (Below.refl _ _) _)
  clear hw S7
  go_wp2_with fail
  refine (sameT_true S8.out.gy.r5 S8.out.gy.r6 HS.out.2.1 (by omega)).mono ?_
  rintro _ yd ⟨rfl, qd, hw⟩
  have S9 : Hid (Sy w x yd K n1 n2 X T bs (.slice a1 n1 c1) (.slice a2 n1 c2) (.slice a3 n1 c3) (.slice a4 n2 c4) (.slice a5 n2 c5) (.slice a6 n2 c6) (.slice m1 n1 d1) (.slice m2 n1 d2) (.slice m3 n1 d3) e1 l3 f4 no cP 0 ρ4 vb4 vw4 [⟨.slice a1 n1 c1, s1, X, X⟩, ⟨.slice a2 n1 c2, s2, X, X⟩, ⟨.slice a4 n2 c4, s4, T, T⟩, ⟨.slice a5 n2 c5, s5, T, T⟩]) := by rw [hw]; exact S8.out.below (below_drewN (Below.refl _ _) _)
  clear hw S8
  go_wp2_with fail
  refine (refused_any (errType_below HE.out S9.out.gy.bl) S9.out.gy.tf S9.out.gy.tm).mono ?_
  rintro _ ye ⟨rfl, hb⟩
  have Sa : Hid (Sy w x ye K n1 n2 X T bs (.slice a1 n1 c1) (.slice a2 n1 c2) (.slice a3 n1 c3) (.slice a4 n2 c4) (.slice a5 n2 c5) (.slice a6 n2 c6) (.slice m1 n1 d1) (.slice m2 n1 d2) (.slice m3 n1 d3) e1 l3 f4 no cP 0 ρ4 vb4 vw4 [⟨.slice a1 n1 c1, s1, X, X⟩, ⟨.slice a2 n1 c2, s2, X, X⟩, ⟨.slice a4 n2 c4, s4, T, T⟩, ⟨.slice a5 n2 c5, s5, T, T⟩]) := S9.out.below hb
  clear hb S9
  go_wp2_with fail
  refine (Alone_true Sa.out.bk (fun i e he => ?_) (by simp)).mono ?_
  · have hm := List.mem_of_getElem? he
    simp only [List.mem_cons, List.not_mem_nil, or_false] at hm
    rcases hm with rfl | rfl | rfl | rfl
    · exact ⟨rfl, by have := HS.out.2.2.2; show X.length ≤ 1000; omega, HS.out.1⟩
    · exact ⟨rfl, by have := HS.out.2.2.2; show X.length ≤ 1000; omega, HS.out.1⟩
    · exact ⟨rfl, by have := HS.out.2.2.1; show T.length ≤ 1000; omega, HS.out.2.1⟩
    · exact ⟨rfl, by have := HS.out.2.2.1; show T.length ≤ 1000; omega, HS.out.2.1⟩
  rintro _ z1 ⟨rfl, _, ho⟩
  have A1 : Hid (Az w z1 K X bs (.slice a3 n1 c3) (.slice m1 n1 d1) (.slice m2 n1 d2) (.slice m3 n1 d3)) := Sa.out.alone HG.out ho
  have HKK : Hid (w.heap.size = K) := HG.out.hk
  clear ho Sa HG
  go_wp2_with fail
  refine (apart_true A1.out.q1 A1.out.q2 (by omega) (by omega) (by have := A1.out.bl.size; have := HKK.out; omega) (bools_bool _) (bools_bool _) A1.out.d1).mono ?_
  rintro _ z2 ⟨rfl, ho⟩
  have A2 : Hid (Below w.heap.size w z2 ∧ TRow z2 K (.slice a3 n1 c3) X ∧ BRow z2 K (.slice m3 n1 d3) (bools bs)) := by
    refine ⟨off_base A1.out.bl ho (fun q p => ?_), VRow.off A1.out.r3 ho (fun q e p => ?_), VRow.off A1.out.q3 ho (fun q e p => ?_)⟩
    · have hk := HKK.out
      rcases p with p | p
      · have := (VRow.lt A1.out.q1 p).1; omega
      · have := (VRow.lt A1.out.q2 p).1; omega
    · rcases p with p | p
      · exact rows_ne A1.out.r3 A1.out.q1 (by decide) q e p
      · exact rows_ne A1.out.r3 A1.out.q2 (by decide) q e p
    · rcases p with p | p
      · exact (A1.out.d3 q e).1 p
      · exact (A1.out.d3 q e).2 p
  clear ho A1
  go_wp2_with fail
  refine (HP.out _ (HV.out.below A2.out.1)).mono ?_
  rintro _ z3 ⟨a7, c7, m7, d7, e7, rfl, H7⟩
  have A3 : Hid (Below w.heap.size w z3 ∧ TRow z3 K (.slice a3 n1 c3) X ∧ BRow z3 K (.slice m3 n1 d3) (bools bs) ∧ BRow z3 z2.heap.size (.slice m7 n1 d7) (bools bs)) := ⟨below_then A2.out.1 H7.out.2.2.2, VRow.below A2.out.2.1 H7.out.2.2.2, VRow.below A2.out.2.2 H7.out.2.2.2, H7.out.2.1⟩
  clear A2 H7
  go_wp2_with fail
  refine (HP.out _ (HV.out.below A3.out.1)).mono ?_
  rintro _ z4 ⟨a8, c8, m8, d8, e8, rfl, H8⟩
  have A4 : Hid (Below w.heap.size w z4 ∧ TRow z4 K (.slice a3 n1 c3) X ∧ BRow z4 K (.slice m3 n1 d3) (bools bs) ∧ BRow z4 z2.heap.size (.slice m7 n1 d7) (bools bs) ∧ TRow z4 z3.heap.size (.slice a8 n1 c8) X) := ⟨below_then A3.out.1 H8.out.2.2.2, VRow.below A3.out.2.1 H8.out.2.2.2, VRow.below A3.out.2.2.1 H8.out.2.2.2, VRow.below A3.out.2.2.2 H8.out.2.2.2, H8.out.1⟩
  clear A3 H8
  go_wp2_with fail
  refine (sameB_true A4.out.2.2.2.1 A4.out.2.2.1 (by omega)).mono ?_
  rintro _ z5 ⟨rfl, hb⟩
  have A5 : Hid (Below w.heap.size w z5 ∧ TRow z5 K (.slice a3 n1 c3) X ∧ TRow z5 z3.heap.size (.slice a8 n1 c8) X) := ⟨below_then A4.out.1 hb, VRow.below A4.out.2.1 hb, VRow.below A4.out.2.2.2.2 hb⟩
  clear A4 hb
  go_wp2_with fail
  refine (sameT_true A5.out.2.2 A5.out.2.1 HS.out.1 (by omega)).mono ?_
  rintro _ z6 ⟨rfl, q6, hw⟩
  have A6 : Hid (Below w.heap.size w z6) := by rw [hw]; exact below_drewN A5.out.1 _
  clear hw A5
  go_wp2_with fail
  go_ret
  exact ⟨rfl, A6.out⟩
set_option maxRecDepth 100000 in
set_option maxHeartbeats 16000000 in
theorem kinds_none (k : ByteArray) (n : Int) (w : World) (hV : KV w) (hE : ErrType w) (hq : tabI n = none) : Calls Tryz.prog 3 #[.string k, .int .i64 n] w fun r w' => r = .returned (.bool true) ∧ Below w.heap.size w w' := by
  have hl1 := pts_len (bl k)
  have hl2 := tl_small n
  have HV : Hid (KV w) := hV
  have HE : Hid (ErrType w) := hE
  have CP := Parts_u k
  have CR := rParts_u k
  have CT := Table_u n
  have CU := rTable_u n
  have CK := Known_any k
  have CL := rKnown_any k
  have hcT : cdT (tabI n) = 161 := by rw [hq]; rfl
  have hisn : (tabI n).isNone = true := by rw [hq]; rfl
  obtain ⟨ps, hps⟩ : ∃ ps, ptsOf (bl k) = ps := ⟨_, rfl⟩
  obtain ⟨T, hT⟩ : ∃ T, tl (tabI n) = T := ⟨_, rfl⟩
  have hTs : ∀ u ∈ T, ∃ s, u = .string s := by rw [← hT]; exact strs_str _
  rw [hps] at CP CR CK CL hl1
  rw [hT, hcT] at CT
  rw [hT, hisn] at CU
  rw [hT] at hl2
  obtain ⟨X, hX⟩ : ∃ X, nmV ps = X := ⟨_, rfl⟩
  have hXs : ∀ u ∈ X, ∃ s, u = .string s := by rw [← hX]; exact strs_str _
  obtain ⟨bs, hbs⟩ : ∃ bs, ps.map Prod.snd = bs := ⟨_, rfl⟩
  have hY : muV ps = bools bs := by unfold muV; rw [hbs]
  obtain ⟨n1, hn1⟩ : ∃ n1, ps.length = n1 := ⟨_, rfl⟩
  obtain ⟨cP, hcP⟩ : ∃ cP, cdP ps = cP := ⟨_, rfl⟩
  obtain ⟨n2, hn2⟩ : ∃ n2, T.length = n2 := ⟨_, rfl⟩
  rw [hX, hY, hn1, hcP] at CP CR
  rw [hn1] at CK CL hl1
  rw [hn2] at CT CU hl2
  obtain ⟨kq, hkq⟩ : ∃ kq, decide (0 < n1) = kq := ⟨_, rfl⟩
  rw [hkq] at CK CL
  have HS : Hid ((∀ u ∈ X, ∃ s, u = .string s) ∧ (∀ u ∈ T, ∃ s, u = .string s) ∧ T.length = n2 ∧ X.length = n1) := ⟨hXs, hTs, hn2, by rw [← hX, ← hn1]; unfold nmV; rw [strs_length, List.length_map]⟩
  have HP : Hid (∀ x, KV x → Calls Tryz.prog 4 #[.string k] x fun e x' => ∃ a c m d ev, e = .returned (.tuple #[.slice a n1 c, .slice m n1 d, ev]) ∧ Hid (TRow x' x.heap.size (.slice a n1 c) X ∧ BRow x' x.heap.size (.slice m n1 d) (bools bs) ∧ TEv x' ev 0 cP ∧ Below x.heap.size x x')) := CP
  have HR : Hid (∀ x, Calls Tryz.prog 5 #[.string k] x fun e x' => ∃ a c m d no, e = .returned (.tuple #[.slice a n1 c, .slice m n1 d, no]) ∧ Hid (TRow x' x.heap.size (.slice a n1 c) X ∧ BRow x' x.heap.size (.slice m n1 d) (bools bs) ∧ TNo x' no 0 cP ∧ Below x.heap.size x x')) := CR
  have HT : Hid (∀ x, KV x → Calls Tryz.prog 6 #[.int .i64 n] x fun e x' => ∃ a c ev, e = .returned (.tuple #[.slice a n2 c, ev]) ∧ Hid (TRow x' x.heap.size (.slice a n2 c) T ∧ TEv x' ev 0 161 ∧ Below x.heap.size x x')) := CT
  have HKn : Hid (∀ x, KV x → Calls Tryz.prog 10 #[.string k] x fun e x' => e = .returned (.bool kq) ∧ Below x.heap.size x x') := CK
  have HKr : Hid (∀ x, Calls Tryz.prog 11 #[.string k] x fun e x' => e = .returned (.bool kq) ∧ Below x.heap.size x x') := CL
  have HU : Hid (∀ x, Calls Tryz.prog 7 #[.int .i64 n] x fun e x' => ∃ c, e = .returned (.slice none n2 c) ∧ Hid (TRow x' x.heap.size (.slice none n2 c) T ∧ Below x.heap.size x x')) := fun x => (CU x).mono fun e x' h => by
    obtain ⟨a, c, h1, h2, h3, h4⟩ := h
    cases a with
    | none => exact ⟨c, h1, h2, h4⟩
    | some g => cases h3
  have hnil : ∀ (x : World) (l c : Nat), (binOp .eql 28 (.slice none l c) (.slice none 0 0)).run Tryz.prog x = .ok (.bool true) x := fun x l c => str_nil x none l c
  clear CP CR CT CU CK CL hps hT hX hY hn1 hcP hn2 hkq hbs hTs hXs hV hE hcT hisn hq
  go_enter Tryz.func3, Tryz.ntmps3
  have HB0 : Hid (Bk (w.alloc (.cells #[.slice none 0 0, .slice none 0 0, .slice none 0 0, .slice none 0 0, .slice none 0 0, .slice none 0 0] 27)) w.heap.size w.heap.size (fun k => if k = w.heap.size then 1 else 0) (.slice none 0 0) (.slice none 0 0) [] ∧ Below w.heap.size w (w.alloc (.cells #[.slice none 0 0, .slice none 0 0, .slice none 0 0, .slice none 0 0, .slice none 0 0, .slice none 0 0] 27)) ∧ (w.alloc (.cells #[.slice none 0 0, .slice none 0 0, .slice none 0 0, .slice none 0 0, .slice none 0 0, .slice none 0 0] 27)).heap.size = w.heap.size + 1) := by
    refine ⟨Bk.empty (fun q hq => ?_) (fun q => (Box.new w _ _).free q) (by simp), (Below.refl _ _).alloc (Nat.le_refl _) _, by simp⟩
    rw [(Box.new w #[.slice none 0 0, .slice none 0 0, .slice none 0 0, .slice none 0 0, .slice none 0 0, .slice none 0 0] 27).cell q]
    rcases (by omega : q = 0 ∨ q = 1 ∨ q = 2 ∨ q = 3 ∨ q = 4 ∨ q = 5) with rfl | rfl | rfl | rfl | rfl | rfl <;> rfl
  go_upto_region 2 with fail
  obtain ⟨W, hW⟩ : ∃ W, w.alloc (.cells #[.slice none 0 0, .slice none 0 0, .slice none 0 0, .slice none 0 0, .slice none 0 0, .slice none 0 0] 27) = W := ⟨_, rfl⟩
  obtain ⟨K, hK⟩ : ∃ K, w.heap.size = K := ⟨_, rfl⟩
  rw [hW] at HB0
  rw [hW, hK]
  have HK : Hid (w.heap.size = K) := hK
  clear hW hK
  go_wp2_with fail
  refine (HP.out _ (HV.out.below HB0.out.2.1)).mono ?_
  rintro _ w1 ⟨a1, c1, m1, d1, e1, rfl, H1⟩
  go_wp2_with fail
  have b1 : Hid (Below w.heap.size w w1) := below_then HB0.out.2.1 H1.out.2.2.2
  refine (HP.out _ (HV.out.below b1.out)).mono ?_
  rintro _ w2 ⟨a2, c2, m2, d2, e2, rfl, H2⟩
  go_wp2_with fail
  have b2 : Hid (Below w.heap.size w w2) := below_then b1.out H2.out.2.2.2
  refine (HR.out _).mono ?_
  rintro _ w3 ⟨a3, c3, m3, d3, l3, rfl, H3⟩
  go_wp2_with fail
  have b3 : Hid (Below w.heap.size w w3) := below_then b2.out H3.out.2.2.2
  refine (HT.out _ (HV.out.below b3.out)).mono ?_
  rintro _ w4 ⟨a4, c4, f4, rfl, H4⟩
  go_wp2_with fail
  have b4 : Hid (Below w.heap.size w w4) := below_then b3.out H4.out.2.2
  refine (HT.out _ (HV.out.below b4.out)).mono ?_
  rintro _ w5 ⟨a5, c5, f5, rfl, H5⟩
  go_wp2_with fail
  have b5 : Hid (Below w.heap.size w w5) := below_then b4.out H5.out.2.2
  refine (HU.out _).mono ?_
  rintro _ w6 ⟨c6, rfl, H6⟩
  go_wp2_with fail
  have b6' : Hid (Below w.heap.size w w6) := below_then b5.out H6.out.2
  refine (rNo_any 0 161 (by decide) _).mono ?_
  rintro _ x ⟨no, rfl, hno, hbx⟩
  have HF : Hid (TNo x no 0 161) := hno
  have b6 : Hid (Below w.heap.size w x) := below_then b6'.out hbx
  have H6' : Hid (TRow x w5.heap.size (.slice none n2 c6) T ∧ Below w5.heap.size w5 x) := ⟨VRow.below H6.out.1 hbx, below_then H6.out.2 hbx⟩
  clear H6 hno hbx b6' hnil HU
  obtain ⟨a6, ha6⟩ : ∃ a : Option Addr, a = none := ⟨_, rfl⟩
  rw [← ha6] at H6'
  rw [← ha6]
  clear ha6
  have H6 := H6'
  clear H6'
  go_wp2_with fail
  have HG : Hid (Gd w x K n1 n2 X T bs (.slice a1 n1 c1) (.slice a2 n1 c2) (.slice a3 n1 c3) (.slice a4 n2 c4) (.slice a5 n2 c5) (.slice a6 n2 c6) (.slice m1 n1 d1) (.slice m2 n1 d2) (.slice m3 n1 d3) e1 l3 f4 no cP 161) := by
    have z1 := H1.out.2.2.2
    have z2 := H2.out.2.2.2
    have z3 := H3.out.2.2.2
    have z4 := H4.out.2.2
    have z5 := H5.out.2.2
    have z6 := H6.out.2
    have y5 := z6
    have y4 := below_then z5 y5
    have y3 := below_then z4 y4
    have y2 := below_then z3 y3
    have y1 := below_then z2 y2
    have y0 := below_then z1 y1
    have s0 := HB0.out.2.2
    have hk := HK.out
    have hbk := HB0.out.1.off (Off.of_below (P := fun _ => False) y0) (fun _ p => p.elim)
    rw [hk] at hbk
    have s1 := b1.out.size
    have s2 := b2.out.size
    have s3 := b3.out.size
    have s4 := b4.out.size
    have s5 := b5.out.size
    refine ⟨hk, hbk, ⟨b6.out, VRow.base (VRow.below H1.out.1 y1) (by omega), VRow.base (VRow.below H2.out.1 y2) (by omega), VRow.base (VRow.below H3.out.1 y3) (by omega), VRow.base (VRow.below H4.out.1 y4) (by omega), VRow.base (VRow.below H5.out.1 y5) (by omega), VRow.base H6.out.1 (by omega), VRow.base (VRow.below H1.out.2.1 y1) (by omega), VRow.base (VRow.below H2.out.2.1 y2) (by omega), VRow.base (VRow.below H3.out.2.1 y3) (by omega), H1.out.2.2.1.below y1, H3.out.2.2.1.below y3, H4.out.2.1.below y4, HF.out⟩, ?_⟩
    have t1 := z1.size
    refine ⟨w1.heap.size, w2.heap.size, w3.heap.size, w4.heap.size, w5.heap.size, by omega, z2.size, z3.size, z4.size, z5.size, z6.size, fun g hg => ?_, Rg.of H2.out.1, Rg.of H3.out.1, Rg.of H4.out.1, Rg.of H5.out.1, Rg.of H6.out.1, fun g hg => ?_, Rg.of H2.out.2.1, Rg.of H3.out.2.1⟩
    · have := Rg.of H1.out.1 g hg; omega
    · have := Rg.of H1.out.2.1 g hg; omega
  clear H1 H2 H3 H4 H5 H6 HF b1 b2 b3 b4 b5 b6 HB0 HT HR
  obtain ⟨N2, N3, N4, N5, N6, k1, k2, k3, k4, k5, k6, g1, g2, g3, g4, g5, g6, p1, p2, p3⟩ := HG.out.rg
  have HQ : Hid (K + 1 ≤ N2 ∧ N2 ≤ N3 ∧ N3 ≤ N4 ∧ N4 ≤ N5 ∧ N5 ≤ N6 ∧ Rg (.slice a1 n1 c1) (K + 1) N2 ∧ Rg (.slice a2 n1 c2) N2 N3 ∧ Rg (.slice a4 n2 c4) N4 N5 ∧ Rg (.slice a5 n2 c5) N5 N6) := ⟨k1, k2, k3, k4, k5, g1, g2, g4, g5⟩
  clear k1 k2 k3 k4 k5 k6 g1 g2 g3 g4 g5 g6 p1 p2 p3
  refine (take_u HG.out.bk (Tk.zero x K) HG.out.gy.r1 (fun g hg => ⟨by have := HQ.out.2.2.2.2.2.1 g hg; omega, fun e he => by simp at he⟩) (by omega) (by simp) HS.out.1).mono ?_
  rintro _ y1 ⟨rfl, T1⟩
  obtain ⟨ρ1, vb1, vw1, s1, B1, U1⟩ := T1
  have T1 : Hid (Bk y1 K K ρ1 vb1 vw1 [⟨.slice a1 n1 c1, s1, X, X⟩] ∧ Tk x y1 K ρ1 [⟨.slice a1 n1 c1, s1, X, X⟩]) := ⟨B1, U1⟩
  clear B1 U1
  go_wp2_with fail
  refine (take_u T1.out.1 T1.out.2 HG.out.gy.r2 (fun g hg => ⟨by have := HQ.out.2.2.2.2.2.2.1 g hg; have := HQ.out.1; omega, fun e he e' => by
    simp only [List.mem_singleton] at he; subst he
    have h1 := HQ.out.2.2.2.2.2.1 g e'; have h2 := HQ.out.2.2.2.2.2.2.1 g hg; omega⟩) (by omega) (by simp) HS.out.1).mono ?_
  rintro _ y2 ⟨rfl, T2⟩
  obtain ⟨ρ2, vb2, vw2, s2, B2, U2⟩ := T2
  have T2 : Hid (Bk y2 K K ρ2 vb2 vw2 [⟨.slice a1 n1 c1, s1, X, X⟩, ⟨.slice a2 n1 c2, s2, X, X⟩] ∧ Tk x y2 K ρ2 [⟨.slice a1 n1 c1, s1, X, X⟩, ⟨.slice a2 n1 c2, s2, X, X⟩]) := ⟨B2, U2⟩
  clear B2 U2 T1
  go_wp2_with fail
  refine (take_u T2.out.1 T2.out.2 HG.out.gy.r4 (fun g hg => ⟨by have := HQ.out.2.2.2.2.2.2.2.1 g hg; have := HQ.out; omega, fun e he e' => by
    simp only [List.mem_cons, List.not_mem_nil, or_false] at he
    have h4 := HQ.out.2.2.2.2.2.2.2.1 g hg
    have hh := HQ.out
    rcases he with rfl | rfl
    · have h1 := HQ.out.2.2.2.2.2.1 g e'; omega
    · have h1 := HQ.out.2.2.2.2.2.2.1 g e'; omega⟩) (by omega) (by simp) HS.out.2.1).mono ?_
  rintro _ y3 ⟨rfl, T3⟩
  obtain ⟨ρ3, vb3, vw3, s4, B3, U3⟩ := T3
  have T3 : Hid (Bk y3 K K ρ3 vb3 vw3 [⟨.slice a1 n1 c1, s1, X, X⟩, ⟨.slice a2 n1 c2, s2, X, X⟩, ⟨.slice a4 n2 c4, s4, T, T⟩] ∧ Tk x y3 K ρ3 [⟨.slice a1 n1 c1, s1, X, X⟩, ⟨.slice a2 n1 c2, s2, X, X⟩, ⟨.slice a4 n2 c4, s4, T, T⟩]) := ⟨B3, U3⟩
  clear B3 U3 T2
  go_wp2_with fail
  refine (take_u T3.out.1 T3.out.2 HG.out.gy.r5 (fun g hg => ⟨by have := HQ.out.2.2.2.2.2.2.2.2 g hg; have := HQ.out; omega, fun e he e' => by
    simp only [List.mem_cons, List.not_mem_nil, or_false] at he
    have h4 := HQ.out.2.2.2.2.2.2.2.2 g hg
    have hh := HQ.out
    rcases he with rfl | rfl | rfl
    · have h1 := HQ.out.2.2.2.2.2.1 g e'; omega
    · have h1 := HQ.out.2.2.2.2.2.2.1 g e'; omega
    · have h1 := HQ.out.2.2.2.2.2.2.2.1 g e'; omega⟩) (by omega) (by simp) HS.out.2.1).mono ?_
  rintro _ y4 ⟨rfl, T4⟩
  obtain ⟨ρ4, vb4, vw4, s5, B4, U4⟩ := T4
  have S0 : Hid (Sy w x y4 K n1 n2 X T bs (.slice a1 n1 c1) (.slice a2 n1 c2) (.slice a3 n1 c3) (.slice a4 n2 c4) (.slice a5 n2 c5) (.slice a6 n2 c6) (.slice m1 n1 d1) (.slice m2 n1 d2) (.slice m3 n1 d3) e1 l3 f4 no cP 161 ρ4 vb4 vw4 [⟨.slice a1 n1 c1, s1, X, X⟩, ⟨.slice a2 n1 c2, s2, X, X⟩, ⟨.slice a4 n2 c4, s4, T, T⟩, ⟨.slice a5 n2 c5, s5, T, T⟩]) := ⟨HG.out.to U4.off, B4, U4⟩
  clear B4 U4 T3 HQ
  go_wp2_with fail
  refine (HKn.out _ (HV.out.below S0.out.gy.bl)).mono ?_
  rintro _ y5 ⟨rfl, hb⟩
  have S1 : Hid (Sy w x y5 K n1 n2 X T bs (.slice a1 n1 c1) (.slice a2 n1 c2) (.slice a3 n1 c3) (.slice a4 n2 c4) (.slice a5 n2 c5) (.slice a6 n2 c6) (.slice m1 n1 d1) (.slice m2 n1 d2) (.slice m3 n1 d3) e1 l3 f4 no cP 161 ρ4 vb4 vw4 [⟨.slice a1 n1 c1, s1, X, X⟩, ⟨.slice a2 n1 c2, s2, X, X⟩, ⟨.slice a4 n2 c4, s4, T, T⟩, ⟨.slice a5 n2 c5, s5, T, T⟩]) := S0.out.below hb
  clear hb S0
  go_wp2_with fail
  refine (HKr.out _).mono ?_
  rintro _ y6 ⟨rfl, hb⟩
  have S2 : Hid (Sy w x y6 K n1 n2 X T bs (.slice a1 n1 c1) (.slice a2 n1 c2) (.slice a3 n1 c3) (.slice a4 n2 c4) (.slice a5 n2 c5) (.slice a6 n2 c6) (.slice m1 n1 d1) (.slice m2 n1 d2) (.slice m3 n1 d3) e1 l3 f4 no cP 161 ρ4 vb4 vw4 [⟨.slice a1 n1 c1, s1, X, X⟩, ⟨.slice a2 n1 c2, s2, X, X⟩, ⟨.slice a4 n2 c4, s4, T, T⟩, ⟨.slice a5 n2 c5, s5, T, T⟩]) := S1.out.below hb
  clear hb S1
  go_wp2_with fail
  refine (sameT_true S2.out.gy.r1 S2.out.gy.r3 HS.out.1 (by omega)).mono ?_
  rintro _ y7 ⟨rfl, q7, hw⟩
  have S3 : Hid (Sy w x y7 K n1 n2 X T bs (.slice a1 n1 c1) (.slice a2 n1 c2) (.slice a3 n1 c3) (.slice a4 n2 c4) (.slice a5 n2 c5) (.slice a6 n2 c6) (.slice m1 n1 d1) (.slice m2 n1 d2) (.slice m3 n1 d3) e1 l3 f4 no cP 161 ρ4 vb4 vw4 [⟨.slice a1 n1 c1, s1, X, X⟩, ⟨.slice a2 n1 c2, s2, X, X⟩, ⟨.slice a4 n2 c4, s4, T, T⟩, ⟨.slice a5 n2 c5, s5, T, T⟩]) := by rw [hw]; exact S2.out.below (below_drewN (Below.refl _ _) _)
  clear hw S2
  go_wp2_with fail
  refine (sameT_true S3.out.gy.r2 S3.out.gy.r3 HS.out.1 (by omega)).mono ?_
  rintro _ y8 ⟨rfl, q8, hw⟩
  have S4 : Hid (Sy w x y8 K n1 n2 X T bs (.slice a1 n1 c1) (.slice a2 n1 c2) (.slice a3 n1 c3) (.slice a4 n2 c4) (.slice a5 n2 c5) (.slice a6 n2 c6) (.slice m1 n1 d1) (.slice m2 n1 d2) (.slice m3 n1 d3) e1 l3 f4 no cP 161 ρ4 vb4 vw4 [⟨.slice a1 n1 c1, s1, X, X⟩, ⟨.slice a2 n1 c2, s2, X, X⟩, ⟨.slice a4 n2 c4, s4, T, T⟩, ⟨.slice a5 n2 c5, s5, T, T⟩]) := by rw [hw]; exact S3.out.below (below_drewN (Below.refl _ _) _)
  clear hw S3
  go_wp2_with fail
  refine (sameB_true S4.out.gy.q1 S4.out.gy.q3 (by omega)).mono ?_
  rintro _ y9 ⟨rfl, hb⟩
  have S5 : Hid (Sy w x y9 K n1 n2 X T bs (.slice a1 n1 c1) (.slice a2 n1 c2) (.slice a3 n1 c3) (.slice a4 n2 c4) (.slice a5 n2 c5) (.slice a6 n2 c6) (.slice m1 n1 d1) (.slice m2 n1 d2) (.slice m3 n1 d3) e1 l3 f4 no cP 161 ρ4 vb4 vw4 [⟨.slice a1 n1 c1, s1, X, X⟩, ⟨.slice a2 n1 c2, s2, X, X⟩, ⟨.slice a4 n2 c4, s4, T, T⟩, ⟨.slice a5 n2 c5, s5, T, T⟩]) := S4.out.below hb
  clear hb S4
  go_wp2_with fail
  refine (sameB_true S5.out.gy.q2 S5.out.gy.q3 (by omega)).mono ?_
  rintro _ ya ⟨rfl, hb⟩
  have S6 : Hid (Sy w x ya K n1 n2 X T bs (.slice a1 n1 c1) (.slice a2 n1 c2) (.slice a3 n1 c3) (.slice a4 n2 c4) (.slice a5 n2 c5) (.slice a6 n2 c6) (.slice m1 n1 d1) (.slice m2 n1 d2) (.slice m3 n1 d3) e1 l3 f4 no cP 161 ρ4 vb4 vw4 [⟨.slice a1 n1 c1, s1, X, X⟩, ⟨.slice a2 n1 c2, s2, X, X⟩, ⟨.slice a4 n2 c4, s4, T, T⟩, ⟨.slice a5 n2 c5, s5, T, T⟩]) := S5.out.below hb
  clear hb S5
  go_wp2_with fail
  refine (refused_any (errType_below HE.out S6.out.gy.bl) S6.out.gy.te S6.out.gy.tn).mono ?_
  rintro _ yb ⟨rfl, hb⟩
  have S7 : Hid (Sy w x yb K n1 n2 X T bs (.slice a1 n1 c1) (.slice a2 n1 c2) (.slice a3 n1 c3) (.slice a4 n2 c4) (.slice a5 n2 c5) (.slice a6 n2 c6) (.slice m1 n1 d1) (.slice m2 n1 d2) (.slice m3 n1 d3) e1 l3 f4 no cP 161 ρ4 vb4 vw4 [⟨.slice a1 n1 c1, s1, X, X⟩, ⟨.slice a2 n1 c2, s2, X, X⟩, ⟨.slice a4 n2 c4, s4, T, T⟩, ⟨.slice a5 n2 c5, s5, T, T⟩]) := S6.out.below hb
  clear hb S6
  go_wp2_with fail
  refine (sameT_true S7.out.gy.r4 S7.out.gy.r6 HS.out.2.1 (by omega)).mono ?_
  rintro _ yc ⟨rfl, qc, hw⟩
  have S8 : Hid (Sy w x yc K n1 n2 X T bs (.slice a1 n1 c1) (.slice a2 n1 c2) (.slice a3 n1 c3) (.slice a4 n2 c4) (.slice a5 n2 c5) (.slice a6 n2 c6) (.slice m1 n1 d1) (.slice m2 n1 d2) (.slice m3 n1 d3) e1 l3 f4 no cP 161 ρ4 vb4 vw4 [⟨.slice a1 n1 c1, s1, X, X⟩, ⟨.slice a2 n1 c2, s2, X, X⟩, ⟨.slice a4 n2 c4, s4, T, T⟩, ⟨.slice a5 n2 c5, s5, T, T⟩]) := by rw [hw]; exact S7.out.below (below_drewN (Below.refl _ _) _)
  clear hw S7
  go_wp2_with fail
  refine (sameT_true S8.out.gy.r5 S8.out.gy.r6 HS.out.2.1 (by omega)).mono ?_
  rintro _ yd ⟨rfl, qd, hw⟩
  have S9 : Hid (Sy w x yd K n1 n2 X T bs (.slice a1 n1 c1) (.slice a2 n1 c2) (.slice a3 n1 c3) (.slice a4 n2 c4) (.slice a5 n2 c5) (.slice a6 n2 c6) (.slice m1 n1 d1) (.slice m2 n1 d2) (.slice m3 n1 d3) e1 l3 f4 no cP 161 ρ4 vb4 vw4 [⟨.slice a1 n1 c1, s1, X, X⟩, ⟨.slice a2 n1 c2, s2, X, X⟩, ⟨.slice a4 n2 c4, s4, T, T⟩, ⟨.slice a5 n2 c5, s5, T, T⟩]) := by rw [hw]; exact S8.out.below (below_drewN (Below.refl _ _) _)
  clear hw S8
  go_wp2_with fail
  refine (refused_any (errType_below HE.out S9.out.gy.bl) S9.out.gy.tf S9.out.gy.tm).mono ?_
  rintro _ ye ⟨rfl, hb⟩
  have Sa : Hid (Sy w x ye K n1 n2 X T bs (.slice a1 n1 c1) (.slice a2 n1 c2) (.slice a3 n1 c3) (.slice a4 n2 c4) (.slice a5 n2 c5) (.slice a6 n2 c6) (.slice m1 n1 d1) (.slice m2 n1 d2) (.slice m3 n1 d3) e1 l3 f4 no cP 161 ρ4 vb4 vw4 [⟨.slice a1 n1 c1, s1, X, X⟩, ⟨.slice a2 n1 c2, s2, X, X⟩, ⟨.slice a4 n2 c4, s4, T, T⟩, ⟨.slice a5 n2 c5, s5, T, T⟩]) := S9.out.below hb
  clear hb S9
  go_wp2_with fail
  refine (Alone_true Sa.out.bk (fun i e he => ?_) (by simp)).mono ?_
  · have hm := List.mem_of_getElem? he
    simp only [List.mem_cons, List.not_mem_nil, or_false] at hm
    rcases hm with rfl | rfl | rfl | rfl
    · exact ⟨rfl, by have := HS.out.2.2.2; show X.length ≤ 1000; omega, HS.out.1⟩
    · exact ⟨rfl, by have := HS.out.2.2.2; show X.length ≤ 1000; omega, HS.out.1⟩
    · exact ⟨rfl, by have := HS.out.2.2.1; show T.length ≤ 1000; omega, HS.out.2.1⟩
    · exact ⟨rfl, by have := HS.out.2.2.1; show T.length ≤ 1000; omega, HS.out.2.1⟩
  rintro _ z1 ⟨rfl, _, ho⟩
  have A1 : Hid (Az w z1 K X bs (.slice a3 n1 c3) (.slice m1 n1 d1) (.slice m2 n1 d2) (.slice m3 n1 d3)) := Sa.out.alone HG.out ho
  have HKK : Hid (w.heap.size = K) := HG.out.hk
  clear ho Sa HG
  go_wp2_with fail
  refine (apart_true A1.out.q1 A1.out.q2 (by omega) (by omega) (by have := A1.out.bl.size; have := HKK.out; omega) (bools_bool _) (bools_bool _) A1.out.d1).mono ?_
  rintro _ z2 ⟨rfl, ho⟩
  have A2 : Hid (Below w.heap.size w z2 ∧ TRow z2 K (.slice a3 n1 c3) X ∧ BRow z2 K (.slice m3 n1 d3) (bools bs)) := by
    refine ⟨off_base A1.out.bl ho (fun q p => ?_), VRow.off A1.out.r3 ho (fun q e p => ?_), VRow.off A1.out.q3 ho (fun q e p => ?_)⟩
    · have hk := HKK.out
      rcases p with p | p
      · have := (VRow.lt A1.out.q1 p).1; omega
      · have := (VRow.lt A1.out.q2 p).1; omega
    · rcases p with p | p
      · exact rows_ne A1.out.r3 A1.out.q1 (by decide) q e p
      · exact rows_ne A1.out.r3 A1.out.q2 (by decide) q e p
    · rcases p with p | p
      · exact (A1.out.d3 q e).1 p
      · exact (A1.out.d3 q e).2 p
  clear ho A1
  go_wp2_with fail
  refine (HP.out _ (HV.out.below A2.out.1)).mono ?_
  rintro _ z3 ⟨a7, c7, m7, d7, e7, rfl, H7⟩
  have A3 : Hid (Below w.heap.size w z3 ∧ TRow z3 K (.slice a3 n1 c3) X ∧ BRow z3 K (.slice m3 n1 d3) (bools bs) ∧ BRow z3 z2.heap.size (.slice m7 n1 d7) (bools bs)) := ⟨below_then A2.out.1 H7.out.2.2.2, VRow.below A2.out.2.1 H7.out.2.2.2, VRow.below A2.out.2.2 H7.out.2.2.2, H7.out.2.1⟩
  clear A2 H7
  go_wp2_with fail
  refine (HP.out _ (HV.out.below A3.out.1)).mono ?_
  rintro _ z4 ⟨a8, c8, m8, d8, e8, rfl, H8⟩
  have A4 : Hid (Below w.heap.size w z4 ∧ TRow z4 K (.slice a3 n1 c3) X ∧ BRow z4 K (.slice m3 n1 d3) (bools bs) ∧ BRow z4 z2.heap.size (.slice m7 n1 d7) (bools bs) ∧ TRow z4 z3.heap.size (.slice a8 n1 c8) X) := ⟨below_then A3.out.1 H8.out.2.2.2, VRow.below A3.out.2.1 H8.out.2.2.2, VRow.below A3.out.2.2.1 H8.out.2.2.2, VRow.below A3.out.2.2.2 H8.out.2.2.2, H8.out.1⟩
  clear A3 H8
  go_wp2_with fail
  refine (sameB_true A4.out.2.2.2.1 A4.out.2.2.1 (by omega)).mono ?_
  rintro _ z5 ⟨rfl, hb⟩
  have A5 : Hid (Below w.heap.size w z5 ∧ TRow z5 K (.slice a3 n1 c3) X ∧ TRow z5 z3.heap.size (.slice a8 n1 c8) X) := ⟨below_then A4.out.1 hb, VRow.below A4.out.2.1 hb, VRow.below A4.out.2.2.2.2 hb⟩
  clear A4 hb
  go_wp2_with fail
  refine (sameT_true A5.out.2.2 A5.out.2.1 HS.out.1 (by omega)).mono ?_
  rintro _ z6 ⟨rfl, q6, hw⟩
  have A6 : Hid (Below w.heap.size w z6) := by rw [hw]; exact below_drewN A5.out.1 _
  clear hw A5
  go_wp2_with fail
  go_ret
  exact ⟨rfl, A6.out⟩
theorem kinds_law (k : ByteArray) (n : Int) (w : World) (hV : KV w) (hE : ErrType w) : Calls Tryz.prog 3 #[.string k, .int .i64 n] w fun r w' => r = .returned (.bool true) ∧ Below w.heap.size w w' := by
  cases h : tabI n with
  | none => exact kinds_none k n w hV hE h
  | some l => exact kinds_some k n w hV hE ⟨l, h, by
      by_cases h0 : 0 < l.length
      · exact h0
      · exfalso
        unfold tabI at h
        split at h
        · rcases tabN_nums (n := n.toNat) (by rw [h]; simp) with e | e | e | e | e | e | e | e | e
          all_goals
            rw [e] at h
            obtain rfl := Option.some.inj h
            exact h0 (by decide)
        · cases h⟩
end Go.Proofs.YtjdpjielpbiedaaGreatDoor.Td
