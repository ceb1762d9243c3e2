import Derived.Test.YtjbkfppibnlmoaaGreatDoorIbRe
import Derived.Test.YtjbkfppibnlmoaaGreatDoorIbRb6
import Derived.Test.YtjbkfppibnlmoaaGreatDoorIbRbA
import Derived.Test.YtjbkfppibnlmoaaGreatDoorIbRbB
import Derived.Test.YtjbkfppibnlmoaaGreatDoorIbOff
import Derived.Test.YtjbkfppibnlmoaaGreatDoorIbHand
/-
  Both boxes side by side: the program's at A, the document's at A'.
-/
namespace Go.Proofs.YtjbkfppibnlmoaaGreatDoor
open Go.RowKit

/-! ### what a call leaves, whatever it answers -/
def accS (R : Int) (A : List Ent) (e : Ent) : List Ent := if accC R A e = 0 then A ++ [e] else A
def dcS (K : Int) (A : List Ent) (s cd : ByteArray) (n : Nat) (bs : List Int) : List Ent := if decC A s cd n = 0 then (match fi s A with | some i => shedS K (A.set i ((A.getD i zE).vd cd none n 0 bs)) | none => A) else A
def gnS (K : Int) (A : List Ent) (s cd : ByteArray) (n : Nat) (bs : List Int) : List ByteArray := if decC A s cd n = 0 then (match fi s A with | some i => goneS K (A.set i ((A.getD i zE).vd cd none n 0 bs)) | none => []) else []
theorem Tws.at_ {es A : List Ent} (h : Tws es A) {i : Nat} {x : Ent} (hx : es[i]? = some x) : ∃ y, A[i]? = some y ∧ Tw x y := by
  have hi := (List.getElem?_eq_some_iff.1 hx).1
  have hj : i < A.length := by rw [← h.1]; exact hi
  exact ⟨A[i], List.getElem?_eq_getElem hj, h.2 i x _ hx (List.getElem?_eq_getElem hj)⟩
theorem Tw.vd {x y : Ent} (h : Tw x y) (cd : ByteArray) (p : Option Addr) (n c : Nat) (bs : List Int) (p' : Option Addr) (c' : Nat) : Tw (x.vd cd p n c bs) (y.vd cd p' n c' bs) := by
  obtain ⟨a, d, a', d', a'', d'', rfl⟩ := h
  exact ⟨a, d, a', d', p', c', rfl⟩
/-- The blocks of an entry's lists. -/
def Blk (e : Ent) (q : Nat) : Prop := (Value.slice e.tp e.tn e.tc).ownBlock = some q ∨ (Value.slice e.cp e.cn e.cc).ownBlock = some q ∨ (Value.slice e.ap e.an e.ac).ownBlock = some q
section
variable {w w' : World} {B : Nat} {e : Ent} {P : Nat → Prop}
theorem Own.blk (h : Own w B e) {q : Nat} (hq : Blk e q) : B ≤ q ∧ q < w.heap.size := by
  rcases hq with g | g | g
  · exact ERow.lt h.t g
  · exact ERow.lt h.c g
  · exact ERow.lt h.a g
theorem Own.offB (h : Own w B e) (o : Off P w w') (hP : ∀ q, Blk e q → ¬ P q) : Own w' B e :=
  ⟨ERow.off h.t o fun g hg => hP g (Or.inl hg), ERow.off h.c o fun g hg => hP g (Or.inr (Or.inl hg)), ERow.off h.a o fun g hg => hP g (Or.inr (Or.inr hg))⟩
end
/-- Both boxes; what they are of lies out of C to D (the program's), C to E (the document's, X with it). -/
structure Sm (w : World) (B C D E X b sb M : Nat) (v L : Value) (K R : Int) (es A es' A' : List Ent) : Prop where
  bx : Bx w B b sb M v K R es
  t : Tws es A
  row : NRow w B L es'
  own : ∀ e ∈ es', Own w B e
  t' : Tws es' A'
  inv : Inv K R es'
  ap : ∀ q, v.ownBlock = some q → L.ownBlock ≠ some q
  hp : ∀ q, (q = b ∨ Ft sb M v q ∨ ∃ e ∈ es, Blk e q) → q < C ∨ D ≤ q
  hd : ∀ q, (q = X ∨ L.ownBlock = some q ∨ ∃ e ∈ es', Blk e q) → q < C ∨ E ≤ q
theorem Bx.ftlt {w : World} {B b sb M : Nat} {v : Value} {K R : Int} {es : List Ent} (h : Bx w B b sb M v K R es) {q : Nat} (hq : Ft sb M v q) : q < w.heap.size := by
  rcases hq with rfl | rfl | hg
  · exact h.sh.lt
  · obtain ⟨es', clock, hm⟩ := h.sh.map.isMap
    exact blk_lt hm
  · exact (h.sh.row.lt hg).2
section
variable {w w' : World} {B C D E X b sb M : Nat} {v L : Value} {K R : Int} {es A es' A' es1 A1 : List Ent}
theorem Sm.below (h : Sm w B C D E X b sb M v L K R es A es' A') (hb : Below w.heap.size w w') : Sm w' B C D E X b sb M v L K R es A es' A' :=
  ⟨h.bx.below hb, h.t, ERow.below h.row hb, fun e he => (h.own e he).below hb, h.t', h.inv, h.ap, h.hp, h.hd⟩
theorem Sm.free (h : Sm w B C D E X b sb M v L K R es A es' A') : Sm w B 0 0 0 X b sb M v L K R es A es' A' :=
  ⟨h.bx, h.t, h.row, h.own, h.t', h.inv, h.ap, fun _ _ => Or.inr (Nat.zero_le _), fun _ _ => Or.inr (Nat.zero_le _)⟩
theorem Sm.plt (h : Sm w B C D E X b sb M v L K R es A es' A') {q : Nat} (hq : q = b ∨ Ft sb M v q ∨ ∃ e ∈ es, Blk e q) : q < w.heap.size := by
  rcases hq with rfl | g | ⟨e, he, g⟩
  · exact h.bx.lt
  · exact h.bx.ftlt g
  · exact ((h.bx.own e he).blk g).2
theorem Sm.dlt (h : Sm w B C D E X b sb M v L K R es A es' A') (hX : X < w.heap.size) {q : Nat} (hq : q = X ∨ L.ownBlock = some q ∨ ∃ e ∈ es', Blk e q) : q < w.heap.size := by
  rcases hq with rfl | g | ⟨e, he, g⟩
  · exact hX
  · exact (ERow.lt h.row g).2
  · exact ((h.own e he).blk g).2
/-- Nothing of them lies in what is new. -/
theorem Sm.hole (h : Sm w B C D E X b sb M v L K R es A es' A') (hX : X < w.heap.size) (hb : Below w.heap.size w w') (d e : Nat) : Sm w' B w.heap.size d e X b sb M v L K R es A es' A' :=
  ⟨h.bx.below hb, h.t, ERow.below h.row hb, fun e he => (h.own e he).below hb, h.t', h.inv, h.ap, fun _ hq => Or.inl (h.plt hq), fun _ hq => Or.inl (h.dlt hX hq)⟩
theorem Sm.notF (h : Sm w B C D E X b sb M v L K R es A es' A') {g : Nat} (hg : L.ownBlock = some g) : ¬ Ft sb M v g := by
  rintro (rfl | rfl | hf)
  · obtain ⟨cs, hc⟩ := row_type h.row hg
    rw [h.bx.sh.blk] at hc
    simp only [Option.some.injEq, Obj.cells.injEq] at hc
    exact absurd hc.2.1 (by decide)
  · obtain ⟨cs, hc⟩ := row_type h.row hg
    obtain ⟨es', clock, hm⟩ := h.bx.sh.map.isMap
    rw [hm] at hc
    simp at hc
  · exact h.ap g hf hg
/-- The program's call. -/
theorem Sm.up (h : Sm w B C D E X b sb M v L K R es A es' A') (hX : X < w.heap.size) (hD : D ≤ w.heap.size) (hE : E = w.heap.size) (hq : BxQ w B b sb M v K R es1 w') (ht : Tws es1 A1) (hn : ∀ e ∈ es1, ∀ q, Blk e q → (∃ e0 ∈ es, Blk e0 q) ∨ w.heap.size ≤ q) : ∃ v', Sm w' B C D w'.heap.size X b sb M v' L K R es1 A1 es' A' ∧ Off (Ft sb M v) w w' := by
  obtain ⟨v', h1, h2, h3⟩ := hq
  refine ⟨v', ⟨h1, ht, ERow.off h.row h2 fun g hg => h.notF hg, fun e he => (h.own e he).byType h2 h.bx.sh.notBytes, h.t', h.inv, fun q hq hq' => ?_, fun q hq => ?_, fun q hq => ?_⟩, h2⟩
  · rcases h3 q hq with g | g
    · exact h.ap q g hq'
    · have := (ERow.lt h.row hq').2; omega
  · rcases hq with g | g | ⟨e, he, g⟩
    · exact h.hp q (Or.inl g)
    · rcases g with g | g | g
      · exact h.hp q (Or.inr (Or.inl (Or.inl g)))
      · exact h.hp q (Or.inr (Or.inl (Or.inr (Or.inl g))))
      · rcases h3 q g with g2 | g2
        · exact h.hp q (Or.inr (Or.inl (Or.inr (Or.inr g2))))
        · exact Or.inr (by omega)
    · rcases hn e he q g with g2 | g2
      · exact h.hp q (Or.inr (Or.inr g2))
      · exact Or.inr (by omega)
  · have := h.dlt hX hq
    rcases h.hd q hq with g | g
    · exact Or.inl g
    · omega
theorem Sm.rbx (h : Sm w B C D E X b sb M v L K R es A es' A') {v0 v5 v6 v7 : Value} (hX : w.heap[X]? = some (.cells #[v0, .bool true, .int .i64 K, .int .i64 R, L, v5, v6, v7] 55 (0, 0))) : RBx w B X L K R es' :=
  ⟨blk_lt hX, hcell hX 1, hcell hX 2, hcell hX 3, hcell hX 4, hfroz hX 4, h.row, h.own, h.inv⟩
/-- The document's call. -/
theorem Sm.dn (h : Sm w B C D E X b sb M v L K R es A es' A') {v0 v5 v6 v7 : Value} (hX : w.heap[X]? = some (.cells #[v0, .bool true, .int .i64 K, .int .i64 R, L, v5, v6, v7] 55 (0, 0))) (hE : E ≤ w.heap.size) (hq : RBQ w B X L K R es1 w') (ht : Tws es1 A1) (hn : ∀ e ∈ es1, ∀ q, Blk e q → (∃ e0 ∈ es', Blk e0 q) ∨ w.heap.size ≤ q) : ∃ L', Sm w' B C D E X b sb M v L' K R es A es1 A1 ∧ w'.heap[X]? = some (.cells #[v0, .bool true, .int .i64 K, .int .i64 R, L', v5, v6, v7] 55 (0, 0)) ∧ Off (fun q => q = X ∨ L.ownBlock = some q) w w' := by
  obtain ⟨L', h1, h2, h3, h4⟩ := hq
  have nb : ¬ (b = X ∨ L.ownBlock = some b) := by
    rintro (g | g)
    · have := h.bx.blk
      rw [g, hX] at this
      simp at this
    · obtain ⟨cs, hc⟩ := row_type h.row g
      rw [h.bx.blk] at hc
      simp at hc
  have nF : ∀ q, Ft sb M v q → ¬ (q = X ∨ L.ownBlock = some q) := fun q hq => by
    rintro (g | g)
    · exact h.bx.sh.notType (by decide) (by decide) hX (g ▸ hq)
    · exact h.notF g hq
  have nB : ∀ q cs, w.heap[q]? = some (.cells cs 5 (0, 0)) → ¬ (q = X ∨ L.ownBlock = some q) := fun q cs hc => by
    rintro (g | g)
    · rw [g, hX] at hc
      simp at hc
    · obtain ⟨cs', hc'⟩ := row_type h.row g
      rw [hc] at hc'
      simp at hc'
  refine ⟨L', ⟨h.bx.off h2 nb nF nB, h.t, h1.row, h1.own, ht, h1.inv, fun q hq hq' => ?_, h.hp, fun q hq => ?_⟩, ?_, h2⟩
  · rcases h3 q hq' with g | g
    · exact h.ap q hq g
    · have := h.bx.ftlt (Or.inr (Or.inr hq)); omega
  · rcases hq with g | g | ⟨e, he, g⟩
    · exact h.hd q (Or.inl g)
    · rcases h3 q g with g2 | g2
      · exact h.hd q (Or.inr (Or.inl g2))
      · exact Or.inr (by omega)
    · rcases hn e he q g with g2 | g2
      · exact h.hd q (Or.inr (Or.inr g2))
      · exact Or.inr (by omega)
  · obtain ⟨u, hu⟩ := h4 _ _ hX
    have hc := hcell hu 4
    rw [h1.c4] at hc
    have e1 : u = L' := by simpa using hc.symm
    rw [hu, e1]
    simp
end
end Go.Proofs.YtjbkfppibnlmoaaGreatDoor

/-
  The law's pair and its book, loosely: what was taken is not looked at. Both boxes at what they hold.
-/
namespace Go.Proofs.YtjbkfppibnlmoaaGreatDoor
open Go.RowKit

abbrev Sl := Option Addr × Nat × Nat
def encSl (s : Sl) : List Value := [.slice s.1 s.2.1 s.2.2]
theorem encSl_len (s : Sl) : (encSl s).length = 1 := rfl
theorem encSl_one (s : Sl) : ∀ u ∈ encSl s, u.oneCell' = true := fun u hu => by
  simp only [encSl, List.mem_singleton] at hu
  rw [hu]; rfl
theorem celSB : Cel Tryz.prog 28 1 24 := cel_of (by kernel_rfl)
theorem celST : Cel Tryz.prog 66 1 24 := cel_of (by kernel_rfl)
theorem celSE : Cel Tryz.prog 22 1 24 := cel_of (by kernel_rfl)
theorem hfree {w : World} {b : Nat} {cs : Array Value} {t : TypeId} (h : w.heap[b]? = some (.cells cs t (0, 0))) (o : Nat) : w.frozen? ⟨b, o, none⟩ = false := by simp [World.frozen?, h]
theorem erow_type {α : Type} {w : World} {B k g : Nat} {e : TypeId} {enc : α → List Value} {v : Value} {xs : List α} (h : ERow w B e k enc v xs) (hg : v.ownBlock = some g) : ∃ cs, w.heap[g]? = some (.cells cs e (0, 0)) := by
  rcases h.2 with ⟨rfl, _⟩ | ⟨g1, c1, u1, rfl, _, b1, _⟩
  · cases hg
  · simp only [Value.ownBlock, Option.some.injEq] at hg
    subst hg
    exact ⟨_, b1⟩
/-- Rows of slices in two neighbouring cells of a block: each gets one more. -/
theorem push2 {w : World} {B K i : Nat} {t e tK : TypeId} {v0 v1 : Value} {x0 x1 : List Sl} {cs : Array Value} (ht : Tryz.prog.underlying t = some (.slice e)) (ho : Cel Tryz.prog e 1 24) (hne : tK ≠ e)
    (hK : w.heap[K]? = some (.cells cs tK (0, 0))) (hi : cs[i]? = some v0) (hj : cs[i + 1]? = some v1) (h0 : ERow w B e 1 encSl v0 x0) (h1 : ERow w B e 1 encSl v1 x1) (hap : ∀ q, v0.ownBlock = some q → v1.ownBlock ≠ some q)
    (l0 : x0.length ≤ 1000000) (l1 : x1.length ≤ 1000000) (hB : B ≤ w.heap.size) (s0 s1 : Sl) :
    ∃ a0 n0 c0 w2 a1 n1 c1 w4, (Builtin.append_ #[t, t] t #[v0, .slice (some ⟨w.heap.size, 0, none⟩) 1 1]).run Tryz.prog (w.alloc (.cells #[.slice s0.1 s0.2.1 s0.2.2] e)) = .ok (.slice a0 n0 c0) w2 ∧
      w2.cell? ⟨K, i, none⟩ = some v0 ∧ w2.frozen? ⟨K, i, none⟩ = false ∧ (w2.setCell ⟨K, i, none⟩ (.slice a0 n0 c0)).cell? ⟨K, i + 1, none⟩ = some v1 ∧
      (Builtin.append_ #[t, t] t #[v1, .slice (some ⟨w2.heap.size, 0, none⟩) 1 1]).run Tryz.prog ((w2.setCell ⟨K, i, none⟩ (.slice a0 n0 c0)).alloc (.cells #[.slice s1.1 s1.2.1 s1.2.2] e)) = .ok (.slice a1 n1 c1) w4 ∧
      w4.cell? ⟨K, i + 1, none⟩ = some v1 ∧ w4.frozen? ⟨K, i + 1, none⟩ = false ∧
      Hid ((w4.setCell ⟨K, i + 1, none⟩ (.slice a1 n1 c1)).heap[K]? = some (.cells ((cs.set! i (.slice a0 n0 c0)).set! (i + 1) (.slice a1 n1 c1)) tK (0, 0)) ∧ ERow (w4.setCell ⟨K, i + 1, none⟩ (.slice a1 n1 c1)) B e 1 encSl (.slice a0 n0 c0) (x0 ++ [s0]) ∧ ERow (w4.setCell ⟨K, i + 1, none⟩ (.slice a1 n1 c1)) B e 1 encSl (.slice a1 n1 c1) (x1 ++ [s1]) ∧ (∀ q, (Value.slice a0 n0 c0).ownBlock = some q → (Value.slice a1 n1 c1).ownBlock ≠ some q) ∧ Off (fun q => q = K ∨ v0.ownBlock = some q ∨ v1.ownBlock = some q) w (w4.setCell ⟨K, i + 1, none⟩ (.slice a1 n1 c1))) := by
  have hlt := blk_lt hK
  have nK : ∀ {w' : World} {v : Value} {xs : List Sl} {cs' : Array Value}, w'.heap[K]? = some (.cells cs' tK (0, 0)) → ERow w' B e 1 encSl v xs → v.ownBlock ≠ some K := fun {w' v xs cs'} hk hr hq => by
    obtain ⟨cs2, b1⟩ := erow_type hr hq
    rw [hk] at b1
    simp only [Option.some.injEq, Obj.cells.injEq] at b1
    exact hne b1.2.1
  obtain ⟨a0, c0, w2, r2, e2, o2, s2⟩ := run_epush (P := Tryz.prog) ht ho encSl_len encSl_one h0 s0 #[.slice s0.1 s0.2.1 s0.2.2] rfl (by omega) (by decide) hB
  have k2 : w2.heap[K]? = some (.cells cs tK (0, 0)) := (o2.block K hlt (nK hK h0)).trans hK
  have h12 : ERow w2 B e 1 encSl v1 x1 := ERow.off h1 o2 fun q hq hq' => hap q hq' hq
  obtain ⟨w3, hw3⟩ : ∃ x, w2.setCell ⟨K, i, none⟩ (.slice a0 (x0.length + 1) c0) = x := ⟨_, rfl⟩
  have o3 : Off (fun q => q = K) w2 w3 := by rw [← hw3]; exact Off.setCell (P := fun q => q = K) (Off.refl _ _) (p := ⟨K, i, none⟩) rfl _
  have k3 : w3.heap[K]? = some (.cells (cs.set! i (.slice a0 (x0.length + 1) c0)) tK (0, 0)) := by rw [← hw3]; exact set_heap k2 i _
  have h13 : ERow w3 B e 1 encSl v1 x1 := ERow.off h12 o3 fun q hq e1 => nK k2 h12 (e1 ▸ hq)
  have h03 : ERow w3 B e 1 encSl (.slice a0 (x0.length + 1) c0) (x0 ++ [s0]) := ERow.off e2 o3 fun q hq e1 => nK k2 e2 (e1 ▸ hq)
  obtain ⟨a1, c1, w4, r4, e4, o4, s4⟩ := run_epush (P := Tryz.prog) ht ho encSl_len encSl_one h13 s1 #[.slice s1.1 s1.2.1 s1.2.2] rfl (by omega) (by decide) (Nat.le_trans hB (Nat.le_trans o2.size o3.size))
  have k4 : w4.heap[K]? = some (.cells (cs.set! i (.slice a0 (x0.length + 1) c0)) tK (0, 0)) := (o4.block K (blk_lt k3) (nK k3 h13)).trans k3
  have hap2 : ∀ q, (Value.slice a0 (x0.length + 1) c0).ownBlock = some q → v1.ownBlock ≠ some q := fun q hq hq' => by
    rcases s2 with g | g
    · exact hap q (g ▸ hq) hq'
    · rw [g] at hq
      have := (ERow.lt h1 hq').2
      simp only [Option.some.injEq] at hq
      omega
  have h04 : ERow w4 B e 1 encSl (.slice a0 (x0.length + 1) c0) (x0 ++ [s0]) := ERow.off h03 o4 fun q hq hq' => hap2 q hq hq'
  have hsz : w3.heap.size = w2.heap.size := by rw [← hw3]; simp
  have o5 : Off (fun q => q = K) w4 (w4.setCell ⟨K, i + 1, none⟩ (.slice a1 (x1.length + 1) c1)) := Off.setCell (P := fun q => q = K) (Off.refl _ _) (p := ⟨K, i + 1, none⟩) rfl _
  have cj : (cs.set! i (.slice a0 (x0.length + 1) c0))[i + 1]? = some v1 := by rw [Array.set!_eq_setIfInBounds, Array.getElem?_setIfInBounds_ne (by omega)]; exact hj
  refine ⟨a0, x0.length + 1, c0, w2, a1, x1.length + 1, c1, w4, r2, ?_, ?_, ?_, ?_, ?_, ?_, ?_⟩
  · rw [hcell k2]; exact hi
  · exact hfree k2 i
  · rw [hw3, hcell k3]; exact cj
  · rw [hw3, ← hsz]; exact r4
  · rw [hcell k4]; exact cj
  · exact hfree k4 _
  · refine ⟨set_heap k4 _ _, ERow.off h04 o5 fun q hq e1 => nK k4 h04 (e1 ▸ hq), ERow.off e4 o5 fun q hq e1 => nK k4 e4 (e1 ▸ hq), fun q hq hq' => ?_, ?_⟩
    · rcases s4 with g | g
      · exact hap2 q hq (g ▸ hq')
      · rw [g] at hq'
        have := (ERow.lt h03 hq).2
        simp only [Option.some.injEq] at hq'
        omega
    · refine Off.trans (Off.trans (Off.trans (o2.mono fun q h => Or.inr (Or.inl h)) (o3.mono fun q h => Or.inl h)) (o4.mono fun q h => Or.inr (Or.inr h))) (o5.mono fun q h => Or.inl h)
/-- The types of what the pair and the book write. -/
def LTy (t : TypeId) : Prop := t = 55 ∨ t = 52 ∨ t = 28 ∨ t = 66 ∨ t = 22
theorem LTy.no {t s : TypeId} (h : LTy t) (h0 : s ≠ 55) (h1 : s ≠ 52) (h2 : s ≠ 28) (h3 : s ≠ 66) (h4 : s ≠ 22) : s ≠ t := fun e => by
  subst e
  rcases h with h | h | h | h | h
  · exact h0 h
  · exact h1 h
  · exact h2 h
  · exact h3 h
  · exact h4 h
/-- All blocks of other types stay. -/
def Kp (w w' : World) : Prop := w.heap.size ≤ w'.heap.size ∧ ∀ (q : Nat) (cs : Array Value) (t : TypeId), w.heap[q]? = some (.cells cs t (0, 0)) → ¬ LTy t → w'.heap[q]? = some (.cells cs t (0, 0))
theorem Kp.trans {a b c : World} (h : Kp a b) (k : Kp b c) : Kp a c := ⟨Nat.le_trans h.1 k.1, fun q cs t hq ht => k.2 q cs t (h.2 q cs t hq ht) ht⟩
theorem Kp.of_below {w w' : World} (h : Below w.heap.size w w') : Kp w w' := ⟨h.size, fun q _ _ hq _ => (h.block q (blk_lt hq)).trans hq⟩
theorem Kp.off {w w' : World} {P : Nat → Prop} (o : Off P w w') (hP : ∀ q, P q → ∃ cs t, w.heap[q]? = some (.cells cs t (0, 0)) ∧ LTy t) : Kp w w' := ⟨o.size, fun q cs t hq ht => (o.block q (blk_lt hq) fun hp => by
  obtain ⟨cs', t', hc, ht'⟩ := hP q hp
  rw [hq] at hc
  simp only [Option.some.injEq, Obj.cells.injEq] at hc
  exact ht (hc.2.1 ▸ ht')).trans hq⟩
/-- Both boxes: none, or made with these numbers. -/
def Sd (w : World) (B C D E X : Nat) (bv mk ke rm L : Value) (A A' : List Ent) : Option (Int × Int) → Prop
  | none => bv = .pointer none ∧ mk = .bool false ∧ ke = .int .i64 0 ∧ rm = .int .i64 0 ∧ L = .slice none 0 0 ∧ A = [] ∧ A' = []
  | some (K, R) => mk = .bool true ∧ ke = .int .i64 K ∧ rm = .int .i64 R ∧ ∃ b sb M v es es', bv = .pointer (some ⟨b, 0, none⟩) ∧ Sm w B C D E X b sb M v L K R es A es' A'
section
variable {w w' : World} {B C D E X : Nat} {bv mk ke rm L : Value} {A A' : List Ent} {o : Option (Int × Int)}
theorem Sd.below (h : Sd w B C D E X bv mk ke rm L A A' o) (hb : Below w.heap.size w w') : Sd w' B C D E X bv mk ke rm L A A' o := by
  rcases o with _ | ⟨K, R⟩
  · exact h
  · obtain ⟨e1, e2, e3, b, sb, M, v, es, es', e4, hs⟩ := h
    exact ⟨e1, e2, e3, b, sb, M, v, es, es', e4, hs.below hb⟩
theorem Sd.free (h : Sd w B C D E X bv mk ke rm L A A' o) : Sd w B 0 0 0 X bv mk ke rm L A A' o := by
  rcases o with _ | ⟨K, R⟩
  · exact h
  · obtain ⟨e1, e2, e3, b, sb, M, v, es, es', e4, hs⟩ := h
    exact ⟨e1, e2, e3, b, sb, M, v, es, es', e4, hs.free⟩
theorem Sd.hole (h : Sd w B C D E X bv mk ke rm L A A' o) (hX : X < w.heap.size) (hb : Below w.heap.size w w') (d e : Nat) : Sd w' B w.heap.size d e X bv mk ke rm L A A' o := by
  rcases o with _ | ⟨K, R⟩
  · exact h
  · obtain ⟨e1, e2, e3, b, sb, M, v, es, es', e4, hs⟩ := h
    exact ⟨e1, e2, e3, b, sb, M, v, es, es', e4, hs.hole hX hb d e⟩
/-- Where blocks of the pair's and the book's types change. -/
theorem Sd.off {P : Nat → Prop} (h : Sd w B C D E X bv mk ke rm L A A' o) (ho : Off P w w') (hP : ∀ q, P q → ∃ cs t, w.heap[q]? = some (.cells cs t (0, 0)) ∧ LTy t) : Sd w' B C D E X bv mk ke rm L A A' o := by
  rcases o with _ | ⟨K, R⟩
  · exact h
  · obtain ⟨e1, e2, e3, b, sb, M, v, es, es', e4, hs⟩ := h
    have nT : ∀ (s : TypeId) q cs, (∀ t, LTy t → s ≠ t) → w.heap[q]? = some (.cells cs s (0, 0)) → ¬ P q := fun s q cs hs' hc hp => by
      obtain ⟨cs', t, hc', ht⟩ := hP q hp
      rw [hc] at hc'
      simp only [Option.some.injEq, Obj.cells.injEq] at hc'
      exact hs' t ht hc'.2.1
    have nB : ∀ q cs, w.heap[q]? = some (.cells cs 5 (0, 0)) → ¬ P q := fun q cs hc => nT _ q cs (fun t ht => ht.no (by decide) (by decide) (by decide) (by decide) (by decide)) hc
    refine ⟨e1, e2, e3, b, sb, M, v, es, es', e4, ⟨Bx.off hs.bx ho (nT _ b _ (fun t ht => ht.no (by decide) (by decide) (by decide) (by decide) (by decide)) hs.bx.blk) (fun q hq hp => ?_) nB, hs.t, ERow.off hs.row ho fun g hg => ?_, fun e he => (hs.own e he).byType ho nB, hs.t', hs.inv, hs.ap, hs.hp, hs.hd⟩⟩
    · obtain ⟨cs, t, hc, ht⟩ := hP q hp
      exact hs.bx.sh.notType (ht.no (by decide) (by decide) (by decide) (by decide) (by decide)) (ht.no (by decide) (by decide) (by decide) (by decide) (by decide)) hc hq
    · obtain ⟨cs, hc⟩ := row_type hs.row hg
      exact nT _ g cs (fun t ht => ht.no (by decide) (by decide) (by decide) (by decide) (by decide)) hc
/-- Where blocks within the hole change. -/
theorem Sd.within {P : Nat → Prop} (h : Sd w B C D E X bv mk ke rm L A A' o) (ho : Off P w w') (hP : ∀ q, P q → C ≤ q ∧ q < D ∧ q < E) : Sd w' B C D E X bv mk ke rm L A A' o := by
  rcases o with _ | ⟨K, R⟩
  · exact h
  · obtain ⟨e1, e2, e3, b, sb, M, v, es, es', e4, hs⟩ := h
    have np : ∀ q, (q = b ∨ Ft sb M v q ∨ ∃ e ∈ es, Blk e q) → ¬ P q := fun q hq hp => by
      have := hP q hp
      have := hs.hp q hq
      omega
    have nd : ∀ q, (q = X ∨ L.ownBlock = some q ∨ ∃ e ∈ es', Blk e q) → ¬ P q := fun q hq hp => by
      have := hP q hp
      have := hs.hd q hq
      omega
    exact ⟨e1, e2, e3, b, sb, M, v, es, es', e4, ⟨⟨(ho.block b hs.bx.lt (np b (Or.inl rfl))).trans hs.bx.blk, hs.bx.sh.off ho fun q hq => np q (Or.inr (Or.inl hq)), fun e he => (hs.bx.own e he).offB ho fun q hq => np q (Or.inr (Or.inr ⟨e, he, hq⟩)), hs.bx.lb, hs.bx.ls, hs.bx.lm, hs.bx.inv⟩, hs.t, ERow.off hs.row ho fun g hg => nd g (Or.inr (Or.inl hg)), fun e he => (hs.own e he).offB ho fun q hq => nd q (Or.inr (Or.inr ⟨e, he, hq⟩)), hs.t', hs.inv, hs.ap, hs.hp, hs.hd⟩⟩
end
/-- The pair at X, its book at K: what was taken is not looked at. -/
structure LS (W : World) (X K : Nat) (bv mk ke rm L : Value) (C D E : Nat) (o : Option (Int × Int)) (A A' : List Ent) (n : Nat) (w : World) : Prop where
  ex : ∃ v0 v1 v4 v5 v6 v7 x0 x1 x4 x5 x6 x7, w.heap[X]? = some (.cells #[bv, mk, ke, rm, L, .pointer (some ⟨K, 0, none⟩), v6, v7] 55 (0, 0)) ∧ w.heap[K]? = some (.cells #[v0, v1, .slice none 0 0, .slice none 0 0, v4, v5] 52 (0, 0)) ∧
    (ERow w W.heap.size 28 1 encSl v0 x0 ∧ ERow w W.heap.size 28 1 encSl v1 x1 ∧ (∀ q, v0.ownBlock = some q → v1.ownBlock ≠ some q) ∧ x0.length ≤ n ∧ x1.length ≤ n) ∧
    (ERow w W.heap.size 66 1 encSl v4 x4 ∧ ERow w W.heap.size 66 1 encSl v5 x5 ∧ (∀ q, v4.ownBlock = some q → v5.ownBlock ≠ some q) ∧ x4.length ≤ n ∧ x5.length ≤ n) ∧
    (ERow w W.heap.size 22 1 encSl v6 x6 ∧ ERow w W.heap.size 22 1 encSl v7 x7 ∧ (∀ q, v6.ownBlock = some q → v7.ownBlock ≠ some q) ∧ x6.length ≤ n ∧ x7.length ≤ n)
  sd : Sd w W.heap.size C D E X bv mk ke rm L A A' o
  bel : Below W.heap.size W w
  lX : W.heap.size ≤ X
  lK : W.heap.size ≤ K
section
variable {W w w' : World} {X K n C D E : Nat} {bv mk ke rm L : Value} {o : Option (Int × Int)} {A A' : List Ent}
theorem LS.below (h : LS W X K bv mk ke rm L C D E o A A' n w) (hb : Below w.heap.size w w') : LS W X K bv mk ke rm L C D E o A A' n w' := by
  obtain ⟨v0, v1, v4, v5, v6, v7, x0, x1, x4, x5, x6, x7, hX, hK, ⟨a0, a1, a2, a3, a4⟩, ⟨b0, b1, b2, b3, b4⟩, ⟨c0, c1, c2, c3, c4⟩⟩ := h.ex
  exact ⟨⟨v0, v1, v4, v5, v6, v7, x0, x1, x4, x5, x6, x7, (hb.block X (blk_lt hX)).trans hX, (hb.block K (blk_lt hK)).trans hK, ⟨ERow.below a0 hb, ERow.below a1 hb, a2, a3, a4⟩, ⟨ERow.below b0 hb, ERow.below b1 hb, b2, b3, b4⟩, ⟨ERow.below c0 hb, ERow.below c1 hb, c2, c3, c4⟩⟩, h.sd.below hb, below_then h.bel hb, h.lX, h.lK⟩
theorem LS.mono {m : Nat} (h : LS W X K bv mk ke rm L C D E o A A' n w) (hm : n ≤ m) : LS W X K bv mk ke rm L C D E o A A' m w := by
  obtain ⟨v0, v1, v4, v5, v6, v7, x0, x1, x4, x5, x6, x7, hX, hK, ⟨a0, a1, a2, a3, a4⟩, ⟨b0, b1, b2, b3, b4⟩, ⟨c0, c1, c2, c3, c4⟩⟩ := h.ex
  exact ⟨⟨v0, v1, v4, v5, v6, v7, x0, x1, x4, x5, x6, x7, hX, hK, ⟨a0, a1, a2, by omega, by omega⟩, ⟨b0, b1, b2, by omega, by omega⟩, ⟨c0, c1, c2, by omega, by omega⟩⟩, h.sd, h.bel, h.lX, h.lK⟩
theorem LS.cells (h : LS W X K bv mk ke rm L C D E o A A' n w) : w.cell? ⟨X, 0, none⟩ = some bv ∧ w.cell? ⟨X, 1, none⟩ = some mk ∧ w.cell? ⟨X, 4, none⟩ = some L ∧ w.cell? ⟨X, 5, none⟩ = some (.pointer (some ⟨K, 0, none⟩)) ∧ X < w.heap.size := by
  obtain ⟨v0, v1, v4, v5, v6, v7, x0, x1, x4, x5, x6, x7, hX, _⟩ := h.ex
  exact ⟨hcell hX 0, hcell hX 1, hcell hX 4, hcell hX 5, blk_lt hX⟩
theorem LS.free (h : LS W X K bv mk ke rm L C D E o A A' n w) : LS W X K bv mk ke rm L 0 0 0 o A A' n w := ⟨h.ex, h.sd.free, h.bel, h.lX, h.lK⟩
theorem LS.hole (h : LS W X K bv mk ke rm L C D E o A A' n w) (hb : Below w.heap.size w w') (d e : Nat) : LS W X K bv mk ke rm L w.heap.size d e o A A' n w' :=
  ⟨(h.below hb).ex, h.sd.hole h.cells.2.2.2.2 hb d e, (h.below hb).bel, h.lX, h.lK⟩
/-- Blocks of other types change, by a call of a box. -/
theorem LS.offT {P : Nat → Prop} (h : LS W X K bv mk ke rm L C D E o A A' n w) (ho : Off P w w') (hP : ∀ q cs t, w.heap[q]? = some (.cells cs t (0, 0)) → LTy t → ¬ P q) : (∃ v0 v1 v4 v5 v6 v7 x0 x1 x4 x5 x6 x7, w'.heap[X]? = some (.cells #[bv, mk, ke, rm, L, .pointer (some ⟨K, 0, none⟩), v6, v7] 55 (0, 0)) ∧ w'.heap[K]? = some (.cells #[v0, v1, .slice none 0 0, .slice none 0 0, v4, v5] 52 (0, 0)) ∧
    (ERow w' W.heap.size 28 1 encSl v0 x0 ∧ ERow w' W.heap.size 28 1 encSl v1 x1 ∧ (∀ q, v0.ownBlock = some q → v1.ownBlock ≠ some q) ∧ x0.length ≤ n ∧ x1.length ≤ n) ∧
    (ERow w' W.heap.size 66 1 encSl v4 x4 ∧ ERow w' W.heap.size 66 1 encSl v5 x5 ∧ (∀ q, v4.ownBlock = some q → v5.ownBlock ≠ some q) ∧ x4.length ≤ n ∧ x5.length ≤ n) ∧
    (ERow w' W.heap.size 22 1 encSl v6 x6 ∧ ERow w' W.heap.size 22 1 encSl v7 x7 ∧ (∀ q, v6.ownBlock = some q → v7.ownBlock ≠ some q) ∧ x6.length ≤ n ∧ x7.length ≤ n)) := by
  obtain ⟨v0, v1, v4, v5, v6, v7, x0, x1, x4, x5, x6, x7, hX, hK, ⟨a0, a1, a2, a3, a4⟩, ⟨b0, b1, b2, b3, b4⟩, ⟨c0, c1, c2, c3, c4⟩⟩ := h.ex
  have key : ∀ {e : TypeId} {v : Value} {xs : List Sl}, LTy e → ERow w W.heap.size e 1 encSl v xs → ERow w' W.heap.size e 1 encSl v xs := fun {e v xs} he hr => ERow.off hr ho fun g hg => by
    obtain ⟨cs, hc⟩ := erow_type hr hg
    exact hP g cs e hc he
  exact ⟨v0, v1, v4, v5, v6, v7, x0, x1, x4, x5, x6, x7, (ho.block X (blk_lt hX) (hP X _ _ hX (Or.inl rfl))).trans hX, (ho.block K (blk_lt hK) (hP K _ _ hK (Or.inr (Or.inl rfl)))).trans hK, ⟨key (Or.inr (Or.inr (Or.inl rfl))) a0, key (Or.inr (Or.inr (Or.inl rfl))) a1, a2, a3, a4⟩, ⟨key (Or.inr (Or.inr (Or.inr (Or.inl rfl)))) b0, key (Or.inr (Or.inr (Or.inr (Or.inl rfl)))) b1, b2, b3, b4⟩, ⟨key (Or.inr (Or.inr (Or.inr (Or.inr rfl)))) c0, key (Or.inr (Or.inr (Or.inr (Or.inr rfl)))) c1, c2, c3, c4⟩⟩
theorem row_own {w : World} {B : Nat} {e : TypeId} {v : Value} {xs : List Sl} (h : ERow w B e 1 encSl v xs) (he : LTy e) {q : Nat} (hq : v.ownBlock = some q) : ∃ cs t, w.heap[q]? = some (.cells cs t (0, 0)) ∧ LTy t := by
  obtain ⟨cs, hc⟩ := erow_type h hq
  exact ⟨cs, e, hc, he⟩
end
end Go.Proofs.YtjbkfppibnlmoaaGreatDoor
