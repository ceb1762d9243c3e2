/-
  The law's 'told': Image twice, Counts, Alive; the book keeps both.
-/
import Derived.Test.YtlgjjemfckmidaaDkImage2
import Derived.Test.YtlgjjemfckmidaaDkBeyond
import Derived.Deep.DeepCutAuto
namespace Go.Proofs.Ytlgjjemfckmidaa
open Go.RowKit Go.BigFrame

theorem quiet_dr {P : Program} {f : FuncId} {args : Array Value} {W : World} {x : Nat} {v : Value} (h : Calls P f args (W.drewN x) fun e w' => e = .returned v ∧ ∃ m, w' = (W.drewN x).drewN m) :
    Calls P f args (W.drewN x) fun e w' => e = .returned v ∧ ∃ n, w' = W.drewN n := h.mono fun _ _ ⟨he, m, hw⟩ => ⟨he, x + m, by rw [hw, drew2]⟩
/-- Worlds that only have more memory than a base world. -/
def Sub (V : World) : Type := { x : World // Below V.heap.size V x }
theorem wp_region_class {P : Program} {V : World} {id : Nat} {Q : Exit → Act → World → Prop} {a : Act} {w : World} {l : List Oper} (hw : Below V.heap.size V w) (hm : P.follows .mixedOrders = true) (hB : Region.lexB .any l.toArray = true)
    (h : wpQuiet P l.toArray (fun w' => ∃ x : Sub V, w' = x.1) (fun a' => ∀ w', (∃ x : Sub V, w' = x.1) → Q .normal a' w') l a) : (Code.region id l.toArray true).wp P Q a w :=
  wp_region_quiet (C := fun w' => ∃ x : Sub V, w' = x.1) hm hB ⟨⟨_, Below.drew hw⟩, rfl⟩ (by simpa using h)
/-- Behind a base world: the book has taken some lists since; all blocks in a span are as they were. -/
structure Tk (ρ0 : Nat → Nat) (w V z : World) (L B K R : Nat) (v0 v1 : Value) (v : Nat → Value) (σ : Sg) (Q : Nat) (ρ : Nat → Nat) (vb vw : Value) (es : List Ent) : Prop where
  jt : Jt z B K R v0 v1 v σ Q ρ vb vw es
  bl : ∀ k, L ≤ k → k < V.heap.size → z.heap[k]? = V.heap[k]?
  ro : ∀ k, L ≤ k → k < V.heap.size → ρ k = 0 ∨ 4 ≤ ρ k
  sz : V.heap.size ≤ z.heap.size
  be : Below B w z
  ft : ∀ k, (Foot K v0 v1 k ∨ RFoot R v k) → k < L
  of : Off (fun k => ρ0 k = 1 ∨ ρ0 k = 2 ∨ ρ0 k = 3) w z
  ol : ∀ k, k < w.heap.size → ρ k = ρ0 k
section
variable {ρ0 : Nat → Nat} {w V z : World} {L B K R : Nat} {v0 v1 : Value} {v : Nat → Value} {σ : Sg} {Q : Nat} {ρ : Nat → Nat} {vb vw : Value} {es : List Ent}
theorem Tk.cell (h : Tk ρ0 w V z L B K R v0 v1 v σ Q ρ vb vw es) {b o : Nat} (h1 : L ≤ b) (h2 : b < V.heap.size) : z.cell? ⟨b, o, none⟩ = V.cell? ⟨b, o, none⟩ := World.cell?_of_block (h.bl b h1 h2)
theorem Tk.row (h : Tk ρ0 w V z L B K R v0 v1 v σ Q ρ vb vw es) {B' : Nat} {u : Value} {xs : List Int} (hr : Row V B' u xs) (hL : L ≤ B') : Row z B' u xs := hr.keep fun g e => h.bl g (by have := (hr.lt e).1; omega) (hr.lt e).2
theorem Tk.below {z' : World} (h : Tk ρ0 w V z L B K R v0 v1 v σ Q ρ vb vw es) (hb : Below z.heap.size z z') : Tk ρ0 w V z' L B K R v0 v1 v σ Q ρ vb vw es :=
  ⟨h.jt.below hb, fun k h1 h2 => (hb.block k (by have := h.sz; omega)).trans (h.bl k h1 h2), h.ro, Nat.le_trans h.sz hb.size, h.be.trans (hb.mono h.jt.hB), h.ft, h.of.trans (Off.of_below hb), h.ol⟩
theorem Tk.take (h : Tk ρ0 w V z L B K R v0 v1 v σ Q ρ vb vw es) (hwL : w.heap.size ≤ L) (hwV : w.heap.size ≤ V.heap.size) {B' : Nat} {a : Option Addr} {n c : Nat} {bs : List Int} (hr : Row V B' (.slice a n c) bs) (hL : L ≤ B') (hB : B ≤ L) (hz : ∀ g, (Value.slice a n c).ownBlock = some g → ρ g = 0) (hn : n ≤ 16777216) (hm : es.length + 1 ≤ 1099511627776) :
    Calls Try.prog 49 #[.pointer (some ⟨Q, 0, none⟩), .slice a n c] z fun e z' => e = .returned (.tuple #[]) ∧ ∃ ρ' vb' vw' es', Tk ρ0 w V z' L B K R v0 v1 v σ Q ρ' vb' vw' es' ∧ es'.length = es.length + 1 ∧ (∀ k, k < V.heap.size → (Value.slice a n c).ownBlock ≠ some k → ρ' k = ρ k) := by
  refine (Take_jt (w0 := { z with heap := z.heap.extract 0 L }) h.jt ((h.row hr hL).base (by omega)) (fun g e => ⟨?_, hz g e⟩) (fun k hk => ?_) (by omega) hm).mono ?_
  · have h1 := (hr.lt e).1
    have h2 := (hr.lt e).2
    have h3 := h.sz
    simp; omega
  · have h1 := h.ft k hk
    have h2 := h.jt.pr.foot_lt hk
    simp; omega
  · rintro e z' ⟨he, ρ', vb', vw', was, j, bb, rr, oo⟩
    refine ⟨he, ρ', vb', vw', _, ⟨j, fun k h1 h2 => ?_, fun k h1 h2 => ?_, Nat.le_trans h.sz oo.size, h.be.trans bb, h.ft, h.of.join oo (fun i hi pq => by rw [← h.ol i hi]; exact pq), fun k hk => ?_⟩, by simp, fun k hk hne => rr k (by have := h.sz; omega) hne⟩
    · have h3 := h.ro k h1 h2
      exact (oo.block k (by have := h.sz; omega) (by omega)).trans (h.bl k h1 h2)
    · by_cases hq : (Value.slice a n c).ownBlock = some k
      · have h1 := j.bk.pval es.length ⟨.slice a n c, was, bs, bs⟩ (by simp) k hq
        omega
      · rw [rr k (by have := h.sz; omega) hq]; exact h.ro k h1 h2
    · rw [rr k (by have := h.sz; omega) (fun e => by have := (hr.lt e).1; omega)]; exact h.ol k hk
end
set_option maxRecDepth 100000 in
set_option maxHeartbeats 8000000 in
theorem told_any {w : World} {B K R : Nat} {v0 v1 : Value} {v : Nat → Value} {σ : Sg} {Q : Nat} {ρ : Nat → Nat} {vb vw : Value} {es : List Ent} (h : Jt w B K R v0 v1 v σ Q ρ vb vw es) (hm : es.length + 4 ≤ 1099511627776) :
    Calls Try.prog 18 #[.agg #[.pointer (some ⟨K, 0, none⟩), .pointer (some ⟨R, 0, none⟩)], .pointer (some ⟨Q, 0, none⟩)] w fun e w' => e = .returned (.bool true) ∧ ∃ ρ' vb' vw' es', Jt w' B K R v0 v1 v σ Q ρ' vb' vw' es' ∧ es'.length = es.length + 4 ∧ Below B w w' ∧ Off (fun k => ρ k = 1 ∨ ρ k = 2 ∨ ρ k = 3) w w' ∧ (∀ k, k < w.heap.size → ρ' k = ρ k) := by
  obtain ⟨X0, hX0⟩ : ∃ x, σ.x0.take σ.s0 = x := ⟨_, rfl⟩
  obtain ⟨X1, hX1⟩ : ∃ x, σ.x1.take σ.s1 = x := ⟨_, rfl⟩
  have HX : Hid (X0.length ≤ 16777216 ∧ X1.length ≤ 16777216 ∧ rx σ 0 = X0 ∧ rx σ 2 = X1) := by
    have l0 := h.ok.l0
    have l1 := h.ok.l1
    exact ⟨by rw [← hX0, List.length_take]; omega, by rw [← hX1, List.length_take]; omega, by simp [rx, hX0], by simp [rx, hX1]⟩
  have HBw : Hid (B ≤ w.heap.size ∧ (∀ k, (Foot K v0 v1 k ∨ RFoot R v k) → k < w.heap.size) ∧ (∀ g, w.heap.size ≤ g → ρ g = 0)) := ⟨h.hB, fun k hk => h.pr.foot_lt hk, h.bk.new⟩
  obtain ⟨T, hT⟩ : ∃ y, w.alloc (.cells #[.pointer (some ⟨K, 0, none⟩), .pointer (some ⟨R, 0, none⟩)] 45) = y := ⟨_, rfl⟩
  have HW : Hid (w.alloc (.cells #[.pointer (some ⟨K, 0, none⟩), .pointer (some ⟨R, 0, none⟩)] 45) = T) := hT
  have bT : Below w.heap.size w T := by rw [← hT]; exact (Below.refl _ _).alloc (Nat.le_refl _) _
  have sT : T.heap.size = w.heap.size + 1 := by rw [← hT]; simp
  have cu0 : T.cell? ⟨w.heap.size, 0, none⟩ = some (.pointer (some ⟨K, 0, none⟩)) := by rw [← hT]; simp
  have cu0' : T.cell? ⟨w.heap.size, 1, none⟩ = some (.pointer (some ⟨R, 0, none⟩)) := by rw [← hT]; simp
  have HJ : Hid (Jt T B K R v0 v1 v σ Q ρ vb vw es ∧ Below w.heap.size w T ∧ T.cell? ⟨w.heap.size, 0, none⟩ = some (.pointer (some ⟨K, 0, none⟩)) ∧ T.cell? ⟨w.heap.size, 1, none⟩ = some (.pointer (some ⟨R, 0, none⟩)) ∧ T.heap.size = w.heap.size + 1) := ⟨h.below bT, bT, cu0, cu0', sT⟩
  clear h hT bT cu0' sT
  go_enter Try.func18, Try.ntmps18
  go_wp2_with fail
  rw [HW.out]
  go_wp2_with fail
  refine (Image_two HJ.out.1.pr.d (stOf_any _)).mono ?_
  rintro e w1 ⟨ai0, ni0, ci0, ai1, ni1, ci1, rfl, ri0, ri1, api, b1⟩
  have d1 : Below T.heap.size T (w1.alloc (.cells #[.slice ai0 ni0 ci0, .slice ai1 ni1 ci1] 26)) := b1.alloc b1.size _
  have H1 : Hid (Row w1 T.heap.size (.slice ai0 ni0 ci0) X0 ∧ Row w1 T.heap.size (.slice ai1 ni1 ci1) X1 ∧ (∃ N, (∀ g, (Value.slice ai0 ni0 ci0).ownBlock = some g → g < N) ∧ (∀ g, (Value.slice ai1 ni1 ci1).ownBlock = some g → N ≤ g)) ∧ Below T.heap.size T (w1.alloc (.cells #[.slice ai0 ni0 ci0, .slice ai1 ni1 ci1] 26)) ∧ T.heap.size ≤ w1.heap.size ∧ Below w1.heap.size w1 (w1.alloc (.cells #[.slice ai0 ni0 ci0, .slice ai1 ni1 ci1] 26))) := ⟨hX0 ▸ ri0, hX1 ▸ ri1, api, d1, b1.size, (Below.refl _ _).alloc (Nat.le_refl _) _⟩
  have cu1 : (w1.alloc (.cells #[.slice ai0 ni0 ci0, .slice ai1 ni1 ci1] 26)).cell? ⟨w.heap.size, 0, none⟩ = some (.pointer (some ⟨K, 0, none⟩)) := by rw [d1.cell (p := ⟨w.heap.size, 0, none⟩) (by have := HJ.out.2.2.2.2; simp only; omega)]; exact cu0
  have q1 : ∀ o, (w1.alloc (.cells #[.slice ai0 ni0 ci0, .slice ai1 ni1 ci1] 26)).cell? ⟨w1.heap.size, o, none⟩ = (#[.slice ai0 ni0 ci0, .slice ai1 ni1 ci1] : Array Value)[o]? := fun o => cell_new _ _ _ _ _
  clear ri0 ri1 api b1 d1 cu0
  go_wp2_with fail
  obtain ⟨W1, hW1⟩ : ∃ y, w1.alloc (.cells #[.slice ai0 ni0 ci0, .slice ai1 ni1 ci1] 26) = y := ⟨_, rfl⟩
  have hs1 : W1.heap.size = w1.heap.size + 1 := by rw [← hW1]; simp
  rw [hW1] at H1 cu1 q1 ⊢
  clear hW1
  have HS1 : Hid (W1.heap.size = w1.heap.size + 1 ∧ ∀ o, W1.cell? ⟨w1.heap.size, o, none⟩ = (#[.slice ai0 ni0 ci0, .slice ai1 ni1 ci1] : Array Value)[o]?) := ⟨hs1, q1⟩
  clear hs1 q1
  go_wp2_with fail
  refine (Image_two (HJ.out.1.below H1.out.2.2.2.1).pr.d (stOf_any _)).mono ?_
  rintro e w2 ⟨ak0, nk0, ck0, ak1, nk1, ck1, rfl, rk0, rk1, apk, b2⟩
  have d2 : Below W1.heap.size W1 (w2.alloc (.cells #[.slice ak0 nk0 ck0, .slice ak1 nk1 ck1] 26)) := b2.alloc b2.size _
  have e2 : Below T.heap.size T (w2.alloc (.cells #[.slice ak0 nk0 ck0, .slice ak1 nk1 ck1] 26)) := H1.out.2.2.2.1.trans (d2.mono H1.out.2.2.2.1.size)
  have H2 : Hid (Row w2 W1.heap.size (.slice ak0 nk0 ck0) X0 ∧ Row w2 W1.heap.size (.slice ak1 nk1 ck1) X1 ∧ (∃ N, (∀ g, (Value.slice ak0 nk0 ck0).ownBlock = some g → g < N) ∧ (∀ g, (Value.slice ak1 nk1 ck1).ownBlock = some g → N ≤ g)) ∧ Below T.heap.size T (w2.alloc (.cells #[.slice ak0 nk0 ck0, .slice ak1 nk1 ck1] 26)) ∧ Below W1.heap.size W1 (w2.alloc (.cells #[.slice ak0 nk0 ck0, .slice ak1 nk1 ck1] 26)) ∧ W1.heap.size ≤ w2.heap.size ∧ Below w2.heap.size w2 (w2.alloc (.cells #[.slice ak0 nk0 ck0, .slice ak1 nk1 ck1] 26))) := ⟨hX0 ▸ rk0, hX1 ▸ rk1, apk, e2, d2, b2.size, (Below.refl _ _).alloc (Nat.le_refl _) _⟩
  have cu2 : (w2.alloc (.cells #[.slice ak0 nk0 ck0, .slice ak1 nk1 ck1] 26)).cell? ⟨w.heap.size, 1, none⟩ = some (.pointer (some ⟨R, 0, none⟩)) := by rw [e2.cell (p := ⟨w.heap.size, 1, none⟩) (by have := HJ.out.2.2.2.2; simp only; omega)]; exact HJ.out.2.2.2.1
  have q2 : ∀ o, (w2.alloc (.cells #[.slice ak0 nk0 ck0, .slice ak1 nk1 ck1] 26)).cell? ⟨w2.heap.size, o, none⟩ = (#[.slice ak0 nk0 ck0, .slice ak1 nk1 ck1] : Array Value)[o]? := fun o => cell_new _ _ _ _ _
  clear rk0 rk1 apk b2 d2 e2 cu1
  go_wp2_with fail
  obtain ⟨W2, hW2⟩ : ∃ y, w2.alloc (.cells #[.slice ak0 nk0 ck0, .slice ak1 nk1 ck1] 26) = y := ⟨_, rfl⟩
  have hs2 : W2.heap.size = w2.heap.size + 1 := by rw [← hW2]; simp
  rw [hW2] at H2 cu2 q2 ⊢
  clear hW2
  have HS2 : Hid (W2.heap.size = w2.heap.size + 1 ∧ ∀ o, W2.cell? ⟨w2.heap.size, o, none⟩ = (#[.slice ak0 nk0 ck0, .slice ak1 nk1 ck1] : Array Value)[o]?) := ⟨hs2, q2⟩
  clear hs2 q2
  go_wp2_with fail
  refine (rImage_any (HJ.out.1.below H2.out.2.2.2.1).pr.r).mono ?_
  rintro e w3 ⟨al0, nl0, cl0, al1, nl1, cl1, rfl, rl0, rl1, b3⟩
  rw [HX.out.2.2.1] at rl0
  rw [HX.out.2.2.2] at rl1
  have d3 : Below W2.heap.size W2 (w3.alloc (.cells #[.slice al0 nl0 cl0, .slice al1 nl1 cl1] 26)) := b3.alloc b3.size _
  have e3 : Below T.heap.size T (w3.alloc (.cells #[.slice al0 nl0 cl0, .slice al1 nl1 cl1] 26)) := H2.out.2.2.2.1.trans (d3.mono H2.out.2.2.2.1.size)
  have H3 : Hid (Row w3 W2.heap.size (.slice al0 nl0 cl0) X0 ∧ Row w3 W2.heap.size (.slice al1 nl1 cl1) X1 ∧ Below T.heap.size T (w3.alloc (.cells #[.slice al0 nl0 cl0, .slice al1 nl1 cl1] 26)) ∧ Below W2.heap.size W2 (w3.alloc (.cells #[.slice al0 nl0 cl0, .slice al1 nl1 cl1] 26)) ∧ Below w3.heap.size w3 (w3.alloc (.cells #[.slice al0 nl0 cl0, .slice al1 nl1 cl1] 26)) ∧ W2.heap.size ≤ w3.heap.size) := ⟨rl0, rl1, e3, d3, (Below.refl _ _).alloc (Nat.le_refl _) _, b3.size⟩
  have q3 : ∀ o, (w3.alloc (.cells #[.slice al0 nl0 cl0, .slice al1 nl1 cl1] 26)).cell? ⟨w3.heap.size, o, none⟩ = (#[.slice al0 nl0 cl0, .slice al1 nl1 cl1] : Array Value)[o]? := fun o => cell_new _ _ _ _ _
  clear rl0 rl1 b3 d3 e3 cu2
  go_wp2_with fail
  obtain ⟨V, hV⟩ : ∃ y, w3.alloc (.cells #[.slice al0 nl0 cl0, .slice al1 nl1 cl1] 26) = y := ⟨_, rfl⟩
  have hs3 : V.heap.size = w3.heap.size + 1 := by rw [← hV]; simp
  rw [hV] at H3 q3 ⊢
  clear hV
  have HS3 : Hid (V.heap.size = w3.heap.size + 1 ∧ ∀ o, V.cell? ⟨w3.heap.size, o, none⟩ = (#[.slice al0 nl0 cl0, .slice al1 nl1 cl1] : Array Value)[o]?) := ⟨hs3, q3⟩
  clear hs3 q3
  obtain ⟨hri0, hri1, ⟨Ni, hni0, hni1⟩, hT1, hs01, hw1⟩ := H1.out
  obtain ⟨hrk0, hrk1, ⟨Nk, hnk0, hnk1⟩, hT2, h12, hs12, hw2⟩ := H2.out
  obtain ⟨hrl0, hrl1, hT3, h23, hw3, hs23⟩ := H3.out
  have hsT := HJ.out.2.2.2.2
  have hsA := HS1.out.1
  have hsB := HS2.out.1
  have hsC := HS3.out.1
  have b2V : Below w2.heap.size w2 V := hw2.trans (h23.mono (by omega))
  have b1V : Below w1.heap.size w1 V := hw1.trans ((h12.trans (h23.mono (by omega))).mono (by omega))
  have b1V' : Below W1.heap.size W1 V := h12.trans (h23.mono (by omega))
  have Ri0 : Row V T.heap.size (.slice ai0 ni0 ci0) X0 := hri0.below b1V
  have Ri1 : Row V T.heap.size (.slice ai1 ni1 ci1) X1 := hri1.below b1V
  have Rk0 : Row V W1.heap.size (.slice ak0 nk0 ck0) X0 := hrk0.below b2V
  have Rk1 : Row V W1.heap.size (.slice ak1 nk1 ck1) X1 := hrk1.below b2V
  have Rl0 : Row V W2.heap.size (.slice al0 nl0 cl0) X0 := hrl0.below hw3
  have Rl1 : Row V W2.heap.size (.slice al1 nl1 cl1) X1 := hrl1.below hw3
  have HR : Hid (Row V T.heap.size (.slice ai0 ni0 ci0) X0 ∧ Row V T.heap.size (.slice ai1 ni1 ci1) X1 ∧ Row V W1.heap.size (.slice ak0 nk0 ck0) X0 ∧ Row V W1.heap.size (.slice ak1 nk1 ck1) X1 ∧ Row V W2.heap.size (.slice al0 nl0 cl0) X0 ∧ Row V W2.heap.size (.slice al1 nl1 cl1) X1) := ⟨Ri0, Ri1, Rk0, Rk1, Rl0, Rl1⟩
  have HO : Hid ((∀ g, (Value.slice ai0 ni0 ci0).ownBlock = some g → w.heap.size ≤ g ∧ g < V.heap.size ∧ g < Ni ∧ g < W1.heap.size) ∧ (∀ g, (Value.slice ai1 ni1 ci1).ownBlock = some g → w.heap.size ≤ g ∧ g < V.heap.size ∧ Ni ≤ g ∧ g < W1.heap.size) ∧ (∀ g, (Value.slice ak0 nk0 ck0).ownBlock = some g → w.heap.size ≤ g ∧ g < V.heap.size ∧ g < Nk ∧ W1.heap.size ≤ g) ∧ (∀ g, (Value.slice ak1 nk1 ck1).ownBlock = some g → w.heap.size ≤ g ∧ g < V.heap.size ∧ Nk ≤ g ∧ W1.heap.size ≤ g)) := by
    refine ⟨fun g e => ?_, fun g e => ?_, fun g e => ?_, fun g e => ?_⟩
    · have h1 := hri0.lt e; have h2 := hni0 g e; omega
    · have h1 := hri1.lt e; have h2 := hni1 g e; omega
    · have h1 := hrk0.lt e; have h2 := hnk0 g e; omega
    · have h1 := hrk1.lt e; have h2 := hnk1 g e; omega
  have HN : Hid (ni0 = X0.length ∧ nk0 = X0.length ∧ nl0 = X0.length ∧ ni1 = X1.length ∧ nk1 = X1.length ∧ nl1 = X1.length) := ⟨Ri0.len.symm, Rk0.len.symm, Rl0.len.symm, Ri1.len.symm, Rk1.len.symm, Rl1.len.symm⟩
  have HC : Hid (V.cell? ⟨w1.heap.size, 0, none⟩ = some (.slice ai0 ni0 ci0) ∧ V.cell? ⟨w1.heap.size, 1, none⟩ = some (.slice ai1 ni1 ci1) ∧ V.cell? ⟨w2.heap.size, 0, none⟩ = some (.slice ak0 nk0 ck0) ∧ V.cell? ⟨w2.heap.size, 1, none⟩ = some (.slice ak1 nk1 ck1) ∧ V.cell? ⟨w3.heap.size, 0, none⟩ = some (.slice al0 nl0 cl0) ∧ V.cell? ⟨w3.heap.size, 1, none⟩ = some (.slice al1 nl1 cl1)) := by
    have r1 : ∀ o, V.cell? ⟨w1.heap.size, o, none⟩ = _ := fun o => (b1V'.cell (p := ⟨w1.heap.size, o, none⟩) (by simp only; omega)).trans (HS1.out.2 o)
    have r2 : ∀ o, V.cell? ⟨w2.heap.size, o, none⟩ = _ := fun o => (h23.cell (p := ⟨w2.heap.size, o, none⟩) (by simp only; omega)).trans (HS2.out.2 o)
    exact ⟨r1 0, r1 1, r2 0, r2 1, HS3.out.2 0, HS3.out.2 1⟩
  have HL : Hid (w.heap.size < T.heap.size ∧ T.heap.size ≤ w1.heap.size ∧ w1.heap.size < W1.heap.size ∧ W1.heap.size ≤ w2.heap.size ∧ w2.heap.size < W2.heap.size ∧ W2.heap.size ≤ w3.heap.size ∧ w3.heap.size < V.heap.size) := ⟨by omega, by omega, by omega, by omega, by omega, by omega, by omega⟩
  have HTV : Hid (Tk ρ w V V w.heap.size B K R v0 v1 v σ Q ρ vb vw es) := ⟨HJ.out.1.below hT3, fun _ _ _ => rfl, fun k h1 _ => Or.inl (HBw.out.2.2 k h1), Nat.le_refl _, (HJ.out.2.1.trans (hT3.mono (by omega))).mono HBw.out.1, HBw.out.2.1, Off.of_below (HJ.out.2.1.trans (hT3.mono (by omega))), fun _ _ => rfl⟩
  have hcu0 : V.cell? ⟨w.heap.size, 0, none⟩ = some (.pointer (some ⟨K, 0, none⟩)) := by rw [hT3.cell (p := ⟨w.heap.size, 0, none⟩) (by simp only; omega)]; exact HJ.out.2.2.1
  have hcu1 : V.cell? ⟨w.heap.size, 1, none⟩ = some (.pointer (some ⟨R, 0, none⟩)) := by rw [hT3.cell (p := ⟨w.heap.size, 1, none⟩) (by simp only; omega)]; exact HJ.out.2.2.2.1
  have hltV : w.heap.size < V.heap.size := by omega
  have hcD : ∀ x : Sub V, Calls Try.prog 46 #[.pointer (some ⟨K, 0, none⟩)] x.1 fun e x' => e = .returned (.agg #[.int .i64 σ.na, .int .i64 σ.ns, .int .i64 σ.nc]) ∧ ∃ y : Sub V, x' = y.1 := fun x => (Counts_ok (HTV.out.jt.below x.2).pr.d (stOf_any _)).mono fun e x' ⟨he, hb⟩ => ⟨he, ⟨x', x.2.trans (hb.mono x.2.size)⟩, rfl⟩
  have hcR : ∀ x : Sub V, Calls Try.prog 47 #[.pointer (some ⟨R, 0, none⟩)] x.1 fun e x' => e = .returned (.agg #[.int .i64 σ.na, .int .i64 σ.ns, .int .i64 σ.nc]) ∧ ∃ y : Sub V, x' = y.1 := fun x => (rCounts_any (HTV.out.jt.below x.2).pr.r).mono fun e x' ⟨he, hb⟩ => ⟨he, ⟨x', x.2.trans (hb.mono x.2.size)⟩, rfl⟩
  obtain ⟨dq, hdq⟩ : ∃ q, (!σ.dead) = q := ⟨_, rfl⟩
  have haD : ∀ x : Sub V, Calls Try.prog 24 #[.pointer (some ⟨K, 0, none⟩)] x.1 fun e x' => e = .returned (.bool dq) ∧ ∃ y : Sub V, x' = y.1 := fun x => by
    have hd := (HTV.out.jt.below x.2).pr.d
    cases hdd : σ.dead with
    | true =>
      rw [hdd] at hd hdq
      refine (Alive_dead hd).mono fun e x' ⟨he, hb⟩ => ⟨?_, x, hb⟩
      rw [he, ← hdq]; rfl
    | false =>
      rw [hdd] at hd hdq
      refine (Alive_ok hd).mono fun e x' ⟨he, hb⟩ => ⟨?_, x, hb⟩
      rw [he, ← hdq]; rfl
  have haR : ∀ x : Sub V, Calls Try.prog 48 #[.pointer (some ⟨R, 0, none⟩)] x.1 fun e x' => e = .returned (.bool dq) ∧ ∃ y : Sub V, x' = y.1 := fun x => (rAlive_any (HTV.out.jt.below x.2).pr.r).mono fun e x' ⟨he, hb⟩ => ⟨by rw [he, hdq], x, hb⟩
  have hlD : ∀ x : Sub V, x.1.cell? ⟨w.heap.size, 0, none⟩ = some (.pointer (some ⟨K, 0, none⟩)) := fun x => (x.2.cell (p := ⟨w.heap.size, 0, none⟩) hltV).trans hcu0
  have hlR : ∀ x : Sub V, x.1.cell? ⟨w.heap.size, 1, none⟩ = some (.pointer (some ⟨R, 0, none⟩)) := fun x => (x.2.cell (p := ⟨w.heap.size, 1, none⟩) hltV).trans hcu1
  clear hri0 hri1 hni0 hni1 hT1 hs01 hw1 hrk0 hrk1 hnk0 hnk1 hT2 h12 hs12 hw2 hrl0 hrl1 hT3 h23 hw3 hs23 hsT hsA hsB hsC b2V b1V b1V' Ri0 Ri1 Rk0 Rk1 Rl0 Rl1 HS1 HS2 HS3 H1 H2 H3 HJ hdq hX0 hX1
  clear hcu0 hcu1 hltV
  haveI hne : Nonempty (Sub V) := ⟨⟨V, Below.refl _ _⟩⟩
  refine wp_region_class (V := V) (Below.refl _ _) (by kernel_rfl) (by kernel_rfl) ?_
  repeat (go_big_quiet_step ((first | exact hcD _ | exact hcR _ | exact haD _ | exact haR _)))
  refine wpQuiet_nil ?_
  rintro wc ⟨xc, hwc⟩
  have HBY : Hid (Below V.heap.size V wc) := by unfold Hid; rw [hwc]; exact xc.2
  clear hne hwc hcD hcR haD haR hlD hlR
  have HT0 : Hid (Tk ρ w V wc w.heap.size B K R v0 v1 v σ Q ρ vb vw es) := HTV.out.below HBY.out
  obtain ⟨hx1, hx2, hx3, hx4, hx5, hx6⟩ := HN.out
  have HNN : Hid (X0.length ≤ 16777216 ∧ X1.length ≤ 16777216) := ⟨HX.out.1, HX.out.2.1⟩
  have hl0 : X0.length ≤ 16777216 := HX.out.1
  have hl1 : X1.length ≤ 16777216 := HX.out.2.1
  subst hx1 hx2 hx3 hx4 hx5 hx6
  have mkS : Hid (∀ (z : World) (ρz : Nat → Nat) (vbz vwz : Value) (ez : List Ent) (B1 B3 : Nat) (a c a' c' : _) (X : List Int), Tk ρ w V z w.heap.size B K R v0 v1 v σ Q ρz vbz vwz ez → Row V B1 (.slice a X.length c) X → Row V B3 (.slice a' X.length c') X → w.heap.size ≤ B1 → w.heap.size ≤ B3 → X.length ≤ 16777216 → ∀ x, Calls Try.prog 15 #[.slice a X.length c, .slice a' X.length c'] (z.drewN x) fun e w' => e = .returned (.bool true) ∧ ∃ m, w' = z.drewN m) := fun z ρz vbz vwz ez B1 B3 a c a' c' X ht r1 r3 l1 l3 hX x =>
    (same_true ((ht.row r1 l1).asByts0.below (drewB z x)) ((ht.row r3 l3).asByts0.below (drewB z x)) (by omega)).mono fun e w' ⟨he, m, hw⟩ => ⟨he, x + m, by rw [hw, drew2]⟩
  have hl := HL.out
  have fi0 : wc.cell? ⟨w1.heap.size, 0, none⟩ = some (.slice ai0 X0.length ci0) := (HT0.out.cell (by omega) (by omega)).trans HC.out.1
  have fk0 : wc.cell? ⟨w2.heap.size, 0, none⟩ = some (.slice ak0 X0.length ck0) := (HT0.out.cell (by omega) (by omega)).trans HC.out.2.2.1
  have fl0 : wc.cell? ⟨w3.heap.size, 0, none⟩ = some (.slice al0 X0.length cl0) := (HT0.out.cell (by omega) (by omega)).trans HC.out.2.2.2.2.1
  have hsi := mkS.out wc ρ vb vw es _ _ _ _ _ _ _ HT0.out HR.out.1 HR.out.2.2.2.2.1 (by omega) (by omega) hl0
  have hsk := mkS.out wc ρ vb vw es _ _ _ _ _ _ _ HT0.out HR.out.2.2.1 HR.out.2.2.2.2.1 (by omega) (by omega) hl0
  clear hl HBY
  go_wp2_with fail
  refine wp_loop_rounds 3 ?_
  rw [rounds_succ]
  go_wp2_with fail
  refine wp_region_quiet_lit (by kernel_rfl) (by kernel_rfl) ?_
  iterate 10 (go_big_quiet_step ((exact hsi _)))
  iterate 10 (go_big_quiet_step ((exact hsk _)))
  refine wpQuiet_nil ?_
  rintro _ ⟨nq, rfl⟩
  clear hsi hsk
  have HT1 : Hid (Tk ρ w V (wc.drewN nq) w.heap.size B K R v0 v1 v σ Q ρ vb vw es) := HT0.out.below (drewB _ _)
  have hci : (wc.drewN nq).cell? ⟨w1.heap.size, 0, none⟩ = some (.slice ai0 X0.length ci0) := fi0
  clear fi0 fl0
  go_wp2_with fail
  refine (HT1.out.take (Nat.le_refl _) (by have := HL.out; omega) HR.out.1 (by have := HL.out; omega) HBw.out.1 (fun g e => HBw.out.2.2 g (HO.out.1 g e).1) hl0 (by omega)).mono ?_
  rintro e z1 ⟨rfl, ρ1, vb1, vw1, es1, k1, el1, hr1⟩
  have HT2 : Hid (Tk ρ w V z1 w.heap.size B K R v0 v1 v σ Q ρ1 vb1 vw1 es1) := k1
  have HE1 : Hid (es1.length = es.length + 1 ∧ ∀ k, k < V.heap.size → (Value.slice ai0 X0.length ci0).ownBlock ≠ some k → ρ1 k = ρ k) := ⟨el1, hr1⟩
  have fk1 : z1.cell? ⟨w2.heap.size, 0, none⟩ = some (.slice ak0 X0.length ck0) := (HT2.out.cell (by have := HL.out; omega) (by have := HL.out; omega)).trans HC.out.2.2.1
  clear k1 el1 hr1 hci fk0
  go_wp2_with fail
  refine (HT2.out.take (Nat.le_refl _) (by have := HL.out; omega) HR.out.2.2.1 (by have := HL.out; omega) HBw.out.1 (fun g e => by rw [HE1.out.2 g (HO.out.2.2.1 g e).2.1 (fun e' => by have h1 := (HO.out.1 g e').2.2.2; have h2 := (HO.out.2.2.1 g e).2.2.2; omega)]; exact HBw.out.2.2 g (HO.out.2.2.1 g e).1) hl0 (by have := HE1.out.1; omega)).mono ?_
  rintro e z2 ⟨rfl, ρ2, vb2, vw2, es2, k2, el2, hr2⟩
  have HT3 : Hid (Tk ρ w V z2 w.heap.size B K R v0 v1 v σ Q ρ2 vb2 vw2 es2) := k2
  have HE2 : Hid (es2.length = es.length + 2 ∧ ∀ k, k < V.heap.size → (Value.slice ai0 X0.length ci0).ownBlock ≠ some k → (Value.slice ak0 X0.length ck0).ownBlock ≠ some k → ρ2 k = ρ k) := ⟨by have := HE1.out.1; omega, fun k hk n1 n2 => (hr2 k hk n2).trans (HE1.out.2 k hk n1)⟩
  have fi1 : z2.cell? ⟨w1.heap.size, 1, none⟩ = some (.slice ai1 X1.length ci1) := (HT3.out.cell (by have := HL.out; omega) (by have := HL.out; omega)).trans HC.out.2.1
  have ck1' : z2.cell? ⟨w2.heap.size, 1, none⟩ = some (.slice ak1 X1.length ck1) := (HT3.out.cell (by have := HL.out; omega) (by have := HL.out; omega)).trans HC.out.2.2.2.1
  have fl1 : z2.cell? ⟨w3.heap.size, 1, none⟩ = some (.slice al1 X1.length cl1) := (HT3.out.cell (by have := HL.out; omega) (by have := HL.out; omega)).trans HC.out.2.2.2.2.2
  have hsi := mkS.out z2 ρ2 vb2 vw2 es2 _ _ _ _ _ _ _ HT3.out HR.out.2.1 HR.out.2.2.2.2.2 (by have := HL.out; omega) (by have := HL.out; omega) hl1
  have hsk := mkS.out z2 ρ2 vb2 vw2 es2 _ _ _ _ _ _ _ HT3.out HR.out.2.2.2.1 HR.out.2.2.2.2.2 (by have := HL.out; omega) (by have := HL.out; omega) hl1
  clear k2 el2 hr2 fk1
  go_wp2_with fail
  rw [rounds_succ]
  go_wp2_with fail
  refine wp_region_quiet_lit (by kernel_rfl) (by kernel_rfl) ?_
  iterate 10 (go_big_quiet_step ((exact hsi _)))
  iterate 10 (go_big_quiet_step ((exact hsk _)))
  refine wpQuiet_nil ?_
  rintro _ ⟨nr, rfl⟩
  clear hsi hsk
  have HT4 : Hid (Tk ρ w V (z2.drewN nr) w.heap.size B K R v0 v1 v σ Q ρ2 vb2 vw2 es2) := HT3.out.below (drewB _ _)
  have hci1 : (z2.drewN nr).cell? ⟨w1.heap.size, 1, none⟩ = some (.slice ai1 X1.length ci1) := fi1
  go_wp2_with fail
  refine (HT4.out.take (Nat.le_refl _) (by have := HL.out; omega) HR.out.2.1 (by have := HL.out; omega) HBw.out.1 (fun g e => by rw [HE2.out.2 g (HO.out.2.1 g e).2.1 (fun e' => by have h1 := (HO.out.1 g e').2.2.1; have h2 := (HO.out.2.1 g e).2.2.1; omega) (fun e' => by have h1 := (HO.out.2.2.1 g e').2.2.2; have h2 := (HO.out.2.1 g e).2.2.2; omega)]; exact HBw.out.2.2 g (HO.out.2.1 g e).1) hl1 (by have := HE2.out.1; omega)).mono ?_
  rintro e z3 ⟨rfl, ρ3, vb3, vw3, es3, k3, el3, hr3⟩
  have HT5 : Hid (Tk ρ w V z3 w.heap.size B K R v0 v1 v σ Q ρ3 vb3 vw3 es3) := k3
  have HE3 : Hid (es3.length = es.length + 3 ∧ ∀ k, k < V.heap.size → (Value.slice ai0 X0.length ci0).ownBlock ≠ some k → (Value.slice ak0 X0.length ck0).ownBlock ≠ some k → (Value.slice ai1 X1.length ci1).ownBlock ≠ some k → ρ3 k = ρ k) := ⟨by have := HE2.out.1; omega, fun k hk n1 n2 n3 => (hr3 k hk n3).trans (HE2.out.2 k hk n1 n2)⟩
  have ck3 : z3.cell? ⟨w2.heap.size, 1, none⟩ = some (.slice ak1 X1.length ck1) := (HT5.out.cell (by have := HL.out; omega) (by have := HL.out; omega)).trans HC.out.2.2.2.1
  clear k3 el3 hr3 hci1 ck1' fl1 fi1
  go_wp2_with fail
  refine (HT5.out.take (Nat.le_refl _) (by have := HL.out; omega) HR.out.2.2.2.1 (by have := HL.out; omega) HBw.out.1 (fun g e => by rw [HE3.out.2 g (HO.out.2.2.2 g e).2.1 (fun e' => by have h1 := (HO.out.1 g e').2.2.2; have h2 := (HO.out.2.2.2 g e).2.2.2; omega) (fun e' => by have h1 := (HO.out.2.2.1 g e').2.2.1; have h2 := (HO.out.2.2.2 g e).2.2.1; omega) (fun e' => by have h1 := (HO.out.2.1 g e').2.2.2; have h2 := (HO.out.2.2.2 g e).2.2.2; omega)]; exact HBw.out.2.2 g (HO.out.2.2.2 g e).1) hl1 (by have := HE3.out.1; omega)).mono ?_
  rintro e z4 ⟨rfl, ρ4, vb4, vw4, es4, k4, el4, hr4⟩
  have HT6 : Hid (Tk ρ w V z4 w.heap.size B K R v0 v1 v σ Q ρ4 vb4 vw4 es4) := k4
  have HE4 : Hid (es4.length = es.length + 4) := by have := HE3.out.1; unfold Hid; omega
  clear k4 el4 hr4 ck3
  go_wp2_with fail
  rw [rounds_succ]
  go_wp2_with fail
  go_ret
  exact ⟨rfl, ρ4, vb4, vw4, es4, HT6.out.jt, HE4.out, HT6.out.be, HT6.out.of, HT6.out.ol⟩
end Go.Proofs.Ytlgjjemfckmidaa
