import Derived.Test.YtjbkfppibnlmoaaGreatDoorIbOpen
import Derived.Deep.DeepAppendRoom
import Derived.Maps.AppendAt
import Derived.Laws.OwnMore
/-
  Lists of the call's own, whatever their elements (one cell each): append in full, stores, cuts.
-/
namespace Go.Proofs.YtjbkfppibnlmoaaGreatDoor.Bt
open Go.RowKit

/-- All blocks but those of P are as they were. -/
structure Off (P : Nat → Prop) (w w' : World) : Prop where
  os : w'.os = w.os
  tape : w'.tape = w.tape
  output : w'.output = w.output
  size : w.heap.size ≤ w'.heap.size
  block : ∀ k, k < w.heap.size → ¬ P k → w'.heap[k]? = w.heap[k]?
theorem Off.refl (P : Nat → Prop) (w : World) : Off P w w := ⟨rfl, rfl, rfl, Nat.le_refl _, fun _ _ _ => rfl⟩
theorem Off.trans {P : Nat → Prop} {a b c : World} (h : Off P a b) (k : Off P b c) : Off P a c :=
  ⟨k.os.trans h.os, k.tape.trans h.tape, k.output.trans h.output, Nat.le_trans h.size k.size, fun i hi hp => (k.block i (Nat.lt_of_lt_of_le hi h.size) hp).trans (h.block i hi hp)⟩
theorem Off.mono {P Q : Nat → Prop} {a b : World} (h : Off P a b) (hq : ∀ k, P k → Q k) : Off Q a b := ⟨h.os, h.tape, h.output, h.size, fun i hi hp => h.block i hi fun g => hp (hq i g)⟩
theorem Off.drewN {P : Nat → Prop} {a b : World} (h : Off P a b) (n : Nat) : Off P a (b.drewN n) := h.trans ⟨rfl, rfl, rfl, Nat.le_refl _, fun _ _ _ => rfl⟩
theorem Off.drew {P : Nat → Prop} {a b : World} (h : Off P a b) : Off P a b.drew := h.trans ⟨rfl, rfl, rfl, Nat.le_refl _, fun _ _ _ => rfl⟩
theorem Off.alloc {P : Nat → Prop} {a b : World} (h : Off P a b) (o : Obj) : Off P a (b.alloc o) :=
  h.trans ⟨rfl, rfl, rfl, by simp, fun k hk _ => Below.heap_alloc b o k hk⟩
theorem Off.setCell {P : Nat → Prop} {a b : World} (h : Off P a b) {p : Addr} (hp : P p.block) (u : Value) : Off P a (b.setCell p u) :=
  h.trans ⟨rfl, rfl, rfl, by simp, fun k _ hk => Below.heap_setCell b p u k fun e => hk (e ▸ hp)⟩
theorem Off.of_below {P : Nat → Prop} {a b : World} (h : Below a.heap.size a b) : Off P a b := ⟨h.os, h.tape, h.output, h.size, fun k hk _ => h.block k hk⟩
theorem Off.below {P : Nat → Prop} {B : Nat} {a b : World} (h : Off P a b) (hB : B ≤ a.heap.size) (hP : ∀ k, P k → B ≤ k) : Below B a b :=
  ⟨h.os, h.tape, h.output, h.size, fun k hk => h.block k (Nat.lt_of_lt_of_le hk hB) fun g => absurd (hP k g) (by omega)⟩
theorem Off.cell {P : Nat → Prop} {a b : World} (h : Off P a b) {p : Addr} (hp : p.block < a.heap.size) (hn : ¬ P p.block) : b.cell? p = a.cell? p := World.cell?_of_block (w := a) (h.block p.block hp hn)
theorem Off.frozen {P : Nat → Prop} {a b : World} (h : Off P a b) {p : Addr} (hp : p.block < a.heap.size) (hn : ¬ P p.block) : b.frozen? p = a.frozen? p := World.frozen?_of_block (w := a) (h.block p.block hp hn)
theorem Off.setNew {P : Nat → Prop} {a b : World} (h : Off P a b) {p : Addr} (hp : a.heap.size ≤ p.block) (u : Value) : Off P a (b.setCell p u) :=
  ⟨h.os, h.tape, h.output, by simpa using h.size, fun k hk hn => (Below.heap_setCell b p u k (by omega)).trans (h.block k hk hn)⟩
theorem Off.of_grown {w w' : World} {row : Option Nat} (h : w.grownBy w' row) : Off (fun k => row = some k) w w' := ⟨h.os, h.tape, h.output, h.size, fun k hk hn => h.block k hk (fun e => hn e.symm)⟩
/-- Two steps: what the second may touch is old and touched by the first's leave, or new. -/
theorem Off.join {P Q : Nat → Prop} {a b c : World} (h : Off P a b) (k : Off Q b c) (hq : ∀ i, i < a.heap.size → Q i → P i) : Off P a c :=
  ⟨k.os.trans h.os, k.tape.trans h.tape, k.output.trans h.output, Nat.le_trans h.size k.size, fun i hi hn => (k.block i (Nat.lt_of_lt_of_le hi h.size) (fun g => hn (hq i hi g))).trans (h.block i hi hn)⟩
/-- A slice of the call's own, whatever its elements (one cell each). -/
def VRow (w : World) (B : Nat) (e : TypeId) (v : Value) (xs : List Value) : Prop := w.ownsRow B e 1 v xs.length xs
/-- How an append leaves its row. -/
inductive Put (w w' : World) (v v' : Value) (n m : Nat) : Prop
  | same (g cap : Nat) (hv : v = .slice (some ⟨g, 0, none⟩) n cap) (hv' : v' = .slice (some ⟨g, 0, none⟩) (n + m) cap) (hg : w.grownBy w' (some g)) : Put w w' v v' n m
  | idle (hv : v' = v) (hm : m = 0) (hw : w' = w) : Put w w' v v' n m
  | fresh (cap : Nat) (hv' : v' = .slice (some ⟨w.heap.size, 0, none⟩) (n + m) cap) (hg : w.grownBy w' none) (hs : w.heap.size < w'.heap.size) : Put w w' v v' n m
theorem run_append_two {P : Program} (w : World) (base : Nat) (t ty e : TypeId) (i : TypeInfo) (z : Value) (bytes : Nat) (ht : P.underlying t = some (.slice e)) (hi : P.info? e = some i) (hz : i.zero = some z)
    (hsize : i.size = 1) (hby : i.bytes = bytes) (hzs : z.cells.size = 1)
    (v : Value) (xs : List Value) (hown : VRow w base e v xs)
    (a : Addr) (m c : Nat) (news : List Value) (hl : news.length = m) (hnews : ∀ j u, news[j]? = some u → w.cell? (a.add j) = some u) (h1 : ∀ u ∈ news, u.oneCell' = true)
    (h63 : xs.length + m ≤ maxLen) (hbytes : (xs.length + m) * bytes ≤ 140737488355328) (hbase : base ≤ w.heap.size) :
    ∃ v' w', (Builtin.append_ #[t, t] ty #[v, .slice (some a) m c]).run P w = .ok v' w' ∧ VRow w' base e v' (xs ++ news) ∧ Put w w' v v' xs.length m := by
  have hl1 : news.length = m * i.size := by rw [hsize]; omega
  subst hby
  have hsmall : xs.length + m ≤ 9223372036854775807 := by simp only [maxLen] at h63; omega
  have hlen : (xs ++ news).length = xs.length + m := by rw [List.length_append, hl]
  have grown : ∀ (old : Nat), old < xs.length + m →
      VRow (w.drew.alloc (.cells (xs.toArray ++ news.toArray ++ Builtin.zeroCells z.cells (grownCap w (xs.length + m) old e - (xs.length + m))) e)) base e
        (.slice (some ⟨w.heap.size, 0, none⟩) (xs.length + m) (grownCap w (xs.length + m) old e)) (xs ++ news) ∧
      w.grownBy (w.drew.alloc (.cells (xs.toArray ++ news.toArray ++ Builtin.zeroCells z.cells (grownCap w (xs.length + m) old e - (xs.length + m))) e)) none ∧ w.heap.size < (w.drew.alloc (.cells (xs.toArray ++ news.toArray ++ Builtin.zeroCells z.cells (grownCap w (xs.length + m) old e - (xs.length + m))) e)).heap.size := by
    intro old ho
    have hge := grownCap_ge w (xs.length + m) old e
    have hcm : grownCap w (xs.length + m) old e ≤ maxLen := grownCap_le_maxLen w (xs.length + m) old e h63
    refine ⟨⟨by omega, .inr ⟨w.heap.size, _, _, by rw [hlen], hbase, heap_alloc_new w.drew _, by omega, hcm, ?_, ?_⟩⟩, ⟨rfl, rfl, rfl, by simp, fun k hk _ => Below.heap_alloc w.drew _ k hk⟩, by simp⟩
    · simp only [Array.size_append, List.size_toArray, size_zeroCells, hzs, hl]
      omega
    · simp only [Array.toList_append, List.append_assoc, Nat.mul_one]
      rw [← List.append_assoc]
      exact List.take_left
  rcases hown.2 with ⟨rfl, h0⟩ | ⟨g, cap, cur, rfl, hbg, hg, hnc, hcm, hcs, htake⟩
  · have hx : xs = [] := List.eq_nil_of_length_eq_zero h0
    subst hx
    by_cases hm : m = 0
    · subst hm
      obtain rfl : news = [] := List.eq_nil_of_length_eq_zero hl
      refine ⟨.slice none 0 0, w, ?_, World.ownsRow_nil w base e 1, .idle rfl rfl rfl⟩
      simp [Builtin.append_, run_underlying ht, sizeOf, typeInfo, hi, Builtin.lenOf, Builtin.firstCells, loadCells, loadCellsFrom]
    · have hr := run_append_nil (P := P) w t ty e i z ht hi hz a m c news hl1 hnews (by omega) (by simp only [List.length_nil] at hsmall; omega) (by have hb := hbytes; simp only [List.length_nil, Nat.zero_add] at hb; omega)
      have hgr := grown 0 (by simp; omega)
      simp only [List.length_nil, Nat.zero_add, List.nil_append, Array.empty_append] at hgr ⊢
      exact ⟨_, _, hr, hgr.1, .fresh _ (by rw [Nat.zero_add]) hgr.2.1 hgr.2.2⟩
  · by_cases hroom : xs.length + m ≤ cap
    · obtain ⟨w', hr, h2, h3⟩ := run_append_own_spare (P := P) w base t ty e i 1 ht hi hsize g xs.length cap xs hown a m c news (by omega) hnews h1 hroom
      refine ⟨_, w', hr, ?_, .same g cap rfl rfl h3⟩
      unfold VRow
      rw [hlen]
      exact h2
    · have holds : ∀ j u, xs[j]? = some u → w.cell? ((⟨g, 0, none⟩ : Addr).add j) = some u := hown.cells (g := g) rfl
      have hr := run_append_grow (P := P) w t ty e i z ht hi hz ⟨g, 0, none⟩ xs.length cap xs (by rw [hsize]; omega) holds a m c news hl1 hnews (by omega) (by omega) (growslice_fits (by omega) hbytes)
      have hgr := grown cap (by omega)
      exact ⟨_, _, hr, hgr.1, .fresh _ rfl hgr.2.1 hgr.2.2⟩
theorem VRow.nil (w : World) (B : Nat) (e : TypeId) : VRow w B e (.slice none 0 0) [] := ⟨rfl, Or.inl ⟨rfl, rfl⟩⟩
theorem VRow.form {w : World} {B : Nat} {e : TypeId} {v : Value} {xs : List Value} (h : VRow w B e v xs) : (v = .slice none 0 0 ∧ xs = []) ∨ ∃ g cap, v = .slice (some ⟨g, 0, none⟩) xs.length cap ∧ B ≤ g ∧ g < w.heap.size ∧ xs.length ≤ cap ∧ cap ≤ maxLen := by
  rcases h.2 with ⟨rfl, h0⟩ | ⟨g, cap, cur, rfl, hB, hg, hn, hm, _, _⟩
  · exact Or.inl ⟨rfl, List.eq_nil_of_length_eq_zero h0⟩
  · refine Or.inr ⟨g, cap, rfl, hB, ?_, hn, hm⟩
    rcases Nat.lt_or_ge g w.heap.size with g1 | g1
    · exact g1
    · rw [Array.getElem?_eq_none g1] at hg; cases hg
theorem VRow.keep {w w' : World} {B : Nat} {e : TypeId} {v : Value} {xs : List Value} (h : VRow w B e v xs) (hk : ∀ g, v.ownBlock = some g → w'.heap[g]? = w.heap[g]?) : VRow w' B e v xs := by
  rcases h.2 with ⟨rfl, h0⟩ | ⟨g, cap, cur, rfl, hB, hg, rest⟩
  · exact ⟨h.1, Or.inl ⟨rfl, h0⟩⟩
  · exact ⟨h.1, Or.inr ⟨g, cap, cur, rfl, hB, by rw [hk g rfl]; exact hg, rest⟩⟩
theorem VRow.lt {w : World} {B : Nat} {e : TypeId} {v : Value} {xs : List Value} (h : VRow w B e v xs) {g : Nat} (hg : v.ownBlock = some g) : B ≤ g ∧ g < w.heap.size := by
  rcases h.form with ⟨rfl, _⟩ | ⟨g', cap, rfl, hB, hl, _⟩
  · cases hg
  · simp only [Value.ownBlock, Option.some.injEq] at hg; subst hg; exact ⟨hB, hl⟩
theorem VRow.slot {w : World} {B : Nat} {e : TypeId} {xs : List Value} {g cap n : Nat} (h : VRow w B e (.slice (some ⟨g, 0, none⟩) n cap) xs) {j : Nat} {u : Value} (hj : xs[j]? = some u) : w.cell? ⟨g, j, none⟩ = some u := by
  rcases h.2 with ⟨h0, _⟩ | ⟨g', cap', cur, e', hB, hg, hn, hm, hc, ht⟩
  · cases h0
  · simp only [Value.slice.injEq, Option.some.injEq, Addr.mk.injEq, and_true] at e'
    obtain ⟨rfl, rfl, rfl⟩ := e'
    have hl := (List.getElem?_eq_some_iff.1 hj).1
    have e1 : (cur.toList.take (xs.length * 1))[j]? = xs[j]? := by rw [ht]
    rw [List.getElem?_take, if_pos (by omega)] at e1
    have e2 : w.cell? ⟨g, j, none⟩ = cur[j]? := by simp [World.cell?, hg]
    rw [e2, ← Array.getElem?_toList, e1, hj]
theorem VRow.off {P : Nat → Prop} {w w' : World} {B : Nat} {e : TypeId} {v : Value} {xs : List Value} (h : VRow w B e v xs) (o : Off P w w') (hP : ∀ g, v.ownBlock = some g → ¬ P g) : VRow w' B e v xs :=
  h.keep fun g hg => o.block g (h.lt hg).2 (hP g hg)

theorem VRow.below {w w' : World} {B : Nat} {e : TypeId} {v : Value} {xs : List Value} (h : VRow w B e v xs) (hb : Below w.heap.size w w') : VRow w' B e v xs :=
  h.keep fun g hg => hb.block g (h.lt hg).2
theorem VRow.base {w : World} {B B' : Nat} {e : TypeId} {v : Value} {xs : List Value} (h : VRow w B e v xs) (hB : B' ≤ B) : VRow w B' e v xs :=
  ⟨h.1, by
    rcases h.2 with q | ⟨g, c, u, e1, hb, rest⟩
    · exact Or.inl q
    · exact Or.inr ⟨g, c, u, e1, Nat.le_trans hB hb, rest⟩⟩
theorem VRow.isSlice {w : World} {B : Nat} {e : TypeId} {v : Value} {xs : List Value} (h : VRow w B e v xs) : ∃ a c, v = .slice a xs.length c ∧ (0 < xs.length → ∃ g, a = some ⟨g, 0, none⟩) := by
  rcases h.form with ⟨rfl, rfl⟩ | ⟨g, cap, rfl, _⟩
  · exact ⟨_, _, rfl, fun h => by simp at h⟩
  · exact ⟨_, _, rfl, fun _ => ⟨g, rfl⟩⟩
theorem VRow.len {w : World} {B : Nat} {e : TypeId} {a : Option Addr} {n c : Nat} {xs : List Value} (h : VRow w B e (.slice a n c) xs) : xs.length = n := by
  obtain ⟨_, _, e, _⟩ := h.isSlice
  simp only [Value.slice.injEq] at e
  exact e.2.1.symm
theorem VRow.at_ {w : World} {B : Nat} {e : TypeId} {a : Option Addr} {n c : Nat} {xs : List Value} (h : VRow w B e (.slice a n c) xs) {j : Nat} {u : Value} (hu : xs[j]? = some u) : ∃ g, a = some ⟨g, 0, none⟩ ∧ w.cell? ⟨g, j, none⟩ = some u := by
  have hj := (List.getElem?_eq_some_iff.1 hu).1
  rcases h.form with ⟨e1, rfl⟩ | ⟨g, cap, e1, _⟩
  · simp at hj
  · simp only [Value.slice.injEq] at e1
    obtain ⟨rfl, _, _⟩ := e1
    exact ⟨g, rfl, h.slot hu⟩
theorem VRow.stored {w : World} {B g n cap : Nat} {e : TypeId} {xs : List Value} (h : VRow w B e (.slice (some ⟨g, 0, none⟩) n cap) xs) (j : Nat) (z : Value) : VRow (w.setCell ⟨g, j, none⟩ z) B e (.slice (some ⟨g, 0, none⟩) n cap) (xs.set j z) := by
  obtain rfl := h.len
  have := (World.ownsRow.stored h j z).1
  unfold VRow
  rw [List.length_set]
  exact this
theorem VRow.thaw {w : World} {B g n cap : Nat} {e : TypeId} {xs : List Value} (h : VRow w B e (.slice (some ⟨g, 0, none⟩) n cap) xs) (j : Nat) : w.frozen? ⟨g, j, none⟩ = false := by
  rcases h.2 with ⟨h0, _⟩ | ⟨g', cap', cur, e, hB, hg, _⟩
  · cases h0
  · simp only [Value.slice.injEq, Option.some.injEq, Addr.mk.injEq, and_true] at e
    obtain ⟨rfl, _, _⟩ := e
    simp [World.frozen?, hg]
theorem VRow.prefix {w : World} {B g n cap m : Nat} {e : TypeId} {xs : List Value} (h : VRow w B e (.slice (some ⟨g, 0, none⟩) n cap) xs) (hm : m ≤ n) : VRow w B e (.slice (some ⟨g, 0, none⟩) m cap) (xs.take m) := by
  have hn := h.len
  rcases h.2 with ⟨h0, _⟩ | ⟨g', cap', cur, e, hB, hg, hc, hM, hs, ht⟩
  · cases h0
  · simp only [Value.slice.injEq, Option.some.injEq, Addr.mk.injEq, and_true] at e
    obtain ⟨rfl, hnn, rfl⟩ := e
    have hl : (xs.take m).length = m := by rw [List.length_take]; omega
    refine ⟨by omega, Or.inr ⟨g, cap, cur, by rw [hl], hB, hg, by omega, hM, hs, ?_⟩⟩
    rw [hl, ← ht, List.take_take]
    congr 1
    omega
theorem VRow.new (w : World) (cs : List Value) (e : TypeId) (h : cs.length ≤ 1000000) : VRow (w.alloc (.cells cs.toArray e)) w.heap.size e (.slice (some ⟨w.heap.size, 0, none⟩) cs.length cs.length) cs :=
  ⟨by omega, Or.inr ⟨w.heap.size, cs.length, cs.toArray, rfl, Nat.le_refl _, by show (Array.push _ _)[_]? = _; simp, Nat.le_refl _, by unfold maxLen; omega, by simp, by simp⟩⟩
/-- Rows of unlike types lie in unlike blocks. -/
theorem rows_ne {w : World} {B B' : Nat} {e e' : TypeId} {sz sz' n n' : Nat} {v v' : Value} {xs ys : List Value} (h : w.ownsRow B e sz v n xs) (h' : w.ownsRow B' e' sz' v' n' ys) (he : e ≠ e') : ∀ g, v.ownBlock = some g → v'.ownBlock ≠ some g := fun g hg hg' => by
  rcases h.2 with ⟨rfl, _⟩ | ⟨g1, c1, u1, rfl, _, b1, _⟩
  · cases hg
  rcases h'.2 with ⟨rfl, _⟩ | ⟨g2, c2, u2, rfl, _, b2, _⟩
  · cases hg'
  simp only [Value.ownBlock, Option.some.injEq] at hg hg'
  subst hg; subst hg'
  rw [b1] at b2
  simp only [Option.some.injEq, Obj.cells.injEq] at b2
  exact he b2.2.1
/-- An element's type: one cell. -/
def One (P : Program) (e : TypeId) (bytes : Nat) : Prop := ∃ i z, P.info? e = some i ∧ i.zero = some z ∧ z.cells.size = 1 ∧ i.size = 1 ∧ i.bytes = bytes
theorem one_of {P : Program} {e : TypeId} {bytes : Nat} (h : (P.info? e).map (fun i => (i.zero.map (fun z => z.cells.size), i.size, i.bytes)) = some (some 1, 1, bytes)) : One P e bytes := by
  obtain ⟨i, hi, e⟩ := Option.map_eq_some_iff.1 h
  simp only [Prod.mk.injEq] at e
  obtain ⟨z, hz, e1⟩ := Option.map_eq_some_iff.1 e.1
  exact ⟨i, z, hi, hz, e1, e.2.1, e.2.2⟩
theorem oneS : One Tryz.prog 9 16 := one_of (by kernel_rfl)
theorem oneL : One Tryz.prog 66 24 := one_of (by kernel_rfl)
theorem vcell_one (w : World) (u : Value) (t : TypeId) (j : Nat) (x : Value) (h : [u][j]? = some x) : (w.alloc (.cells #[u] t)).cell? ((⟨w.heap.size, 0, none⟩ : Addr).add j) = some x := by
  rw [show (⟨w.heap.size, 0, none⟩ : Addr).add j = ⟨w.heap.size, j, none⟩ by rw [Addr.add_lit, Nat.zero_add], cell_new]
  simpa using h
/-- append of one element. -/
theorem run_vpush {P : Program} {t e : TypeId} {bytes : Nat} (ht : P.underlying t = some (.slice e)) (ho : One P e bytes) (hbb : bytes ≤ 24) {w : World} {B : Nat} {v : Value} {xs : List Value} (h : VRow w B e v xs) (hB : B ≤ w.heap.size) (hl : xs.length + 1 ≤ 1000000) (u : Value) (hu : u.oneCell' = true) :
    ∃ a c w', (Builtin.append_ #[t, t] t #[v, .slice (some ⟨w.heap.size, 0, none⟩) 1 1]).run P (w.alloc (.cells #[u] e)) = .ok (.slice a (xs.length + 1) c) w' ∧ VRow w' B e (.slice a (xs.length + 1) c) (xs ++ [u]) ∧ Off (fun k => v.ownBlock = some k) w w' ∧ ((Value.slice a (xs.length + 1) c).ownBlock = v.ownBlock ∨ ∃ g, (Value.slice a (xs.length + 1) c).ownBlock = some g ∧ w.heap.size ≤ g) ∧ Put (w.alloc (.cells #[u] e)) w' v (.slice a (xs.length + 1) c) xs.length 1 := by
  obtain ⟨i, z, hi, hz, hzs, hs, hby⟩ := ho
  have hrow : VRow (w.alloc (.cells #[u] e)) B e v xs := h.below ((Below.refl w.heap.size w).alloc (Nat.le_refl _) _)
  have hbn : (xs.length + 1) * bytes ≤ 140737488355328 := Nat.le_trans (Nat.mul_le_mul hl hbb) (by decide)
  obtain ⟨v', w', hr, r, p⟩ := run_append_two (P := P) (w.alloc (.cells #[u] e)) B t t e i z bytes ht hi hz hs hby hzs v xs hrow ⟨w.heap.size, 0, none⟩ 1 1 [u] rfl (vcell_one w u e) (fun x hx => by simp only [List.mem_singleton] at hx; subst hx; exact hu) (by unfold maxLen; omega) hbn (by simp; omega)
  have hof : Off (fun k => v.ownBlock = some k) w w' := by
    refine ((Off.refl _ w).alloc (.cells #[u] e)).trans ?_
    cases p with
    | same g cap hv hv' hg => rw [hv]; exact Off.of_grown hg
    | idle hv hm hw => omega
    | fresh cap hv' hg hs => exact (Off.of_grown hg).mono (fun k e => by cases e)
  obtain ⟨a, c, e1, _⟩ := r.isSlice
  rw [List.length_append, List.length_singleton] at e1
  subst e1
  refine ⟨a, c, w', hr, r, hof, ?_, p⟩
  cases p with
  | same g cap hv hv' hg => exact Or.inl (by rw [hv', hv]; rfl)
  | idle hv hm hw => omega
  | fresh cap hv' hg hs => exact Or.inr ⟨w.heap.size + 1, by rw [hv']; simp [Value.ownBlock], by omega⟩
end Go.Proofs.YtjbkfppibnlmoaaGreatDoor.Bt

/-
  couriermem.Book in memory: lists of texts that were handed out, and what they were.
-/
namespace Go.Proofs.YtjbkfppibnlmoaaGreatDoor.Bt
open Go.RowKit

/-- A list of texts of the call's own. -/
abbrev TRow (w : World) (B : Nat) (v : Value) (xs : List Value) : Prop := VRow w B 9 v xs
theorem TRow.off {P : Nat → Prop} {w w' : World} {B : Nat} {v : Value} {xs : List Value} (h : TRow w B v xs) (o : Off P w w') (hP : ∀ g, v.ownBlock = some g → ¬ P g) : TRow w' B v xs := VRow.off h o hP
/-- One list of the book: where it lies, what it holds; the copy, what that holds. -/
structure Ent where
  val : Value
  was : Value
  bs : List Value
  old : List Value
/-- The book at block K. The blocks' roles: 1 the book, 2 and 3 its two lists, 4 the copies, 6 + 2 i the list of place i; 0: none of them. -/
structure Bk (w : World) (B K : Nat) (ρ : Nat → Nat) (vb vw vt vu : Value) (es : List Ent) : Prop where
  c0 : w.cell? ⟨K, 0, none⟩ = some vt
  c1 : w.cell? ⟨K, 1, none⟩ = some vu
  c2 : w.cell? ⟨K, 2, none⟩ = some (.slice none 0 0)
  c3 : w.cell? ⟨K, 3, none⟩ = some (.slice none 0 0)
  c4 : w.cell? ⟨K, 4, none⟩ = some vb
  c5 : w.cell? ⟨K, 5, none⟩ = some vw
  fz : ∀ q, w.frozen? ⟨K, q, none⟩ = false
  hB : B ≤ w.heap.size
  rb : VRow w B 66 vb (es.map Ent.val)
  rws : VRow w B 66 vw (es.map Ent.was)
  val : ∀ (i : Nat) (e : Ent), es[i]? = some e → TRow w B e.val e.bs
  was : ∀ (i : Nat) (e : Ent), es[i]? = some e → TRow w B e.was e.old
  pK : ρ K = 1
  pb : ∀ g, vb.ownBlock = some g → ρ g = 2
  pw : ∀ g, vw.ownBlock = some g → ρ g = 3
  pwas : ∀ (i : Nat) (e : Ent), es[i]? = some e → ∀ g, e.was.ownBlock = some g → ρ g = 4
  pval : ∀ (i : Nat) (e : Ent), es[i]? = some e → ∀ g, e.val.ownBlock = some g → ρ g = 6 + 2 * i
  new : ∀ g, w.heap.size ≤ g → ρ g = 0
theorem Bk.lt {w : World} {B K : Nat} {ρ : Nat → Nat} {vb vw vt vu : Value} {es : List Ent} (h : Bk w B K ρ vb vw vt vu es) : K < w.heap.size := by
  rcases Nat.lt_or_ge K w.heap.size with g | g
  · exact g
  · have := h.c0; simp [World.cell?, Array.getElem?_eq_none g] at this
/-- What others do, and new roles for new blocks. -/
theorem Bk.role {P : Nat → Prop} {w w' : World} {B K : Nat} {ρ ρ' : Nat → Nat} {vb vw vt vu : Value} {es : List Ent} (h : Bk w B K ρ vb vw vt vu es) (o : Off P w w') (hP : ∀ k, P k → ρ k = 0 ∨ ρ k = 5) (hr : ∀ k, k < w.heap.size → ρ k ≠ 0 → ρ k ≠ 5 → ρ' k = ρ k) (hn : ∀ g, w'.heap.size ≤ g → ρ' g = 0) : Bk w' B K ρ' vb vw vt vu es := by
  have hK := h.lt
  have nP : ∀ {k r : Nat}, ρ k = r → r ≠ 0 → r ≠ 5 → ¬ P k := fun {k r} e h0 h5 p => by rcases hP k p with q | q <;> omega
  have hc : ∀ q, w'.cell? ⟨K, q, none⟩ = w.cell? ⟨K, q, none⟩ := fun q => o.cell (p := ⟨K, q, none⟩) hK (nP h.pK (by decide) (by decide))
  refine ⟨by rw [hc]; exact h.c0, by rw [hc]; exact h.c1, by rw [hc]; exact h.c2, by rw [hc]; exact h.c3, by rw [hc]; exact h.c4, by rw [hc]; exact h.c5, fun q => by rw [o.frozen (p := ⟨K, q, none⟩) hK (nP h.pK (by decide) (by decide))]; exact h.fz q, Nat.le_trans h.hB o.size,
    h.rb.off o (fun g e => nP (h.pb g e) (by decide) (by decide)), h.rws.off o (fun g e => nP (h.pw g e) (by decide) (by decide)),
    fun i e he => (h.val i e he).off o (fun g eg => nP (h.pval i e he g eg) (by omega) (by omega)), fun i e he => (h.was i e he).off o (fun g eg => nP (h.pwas i e he g eg) (by decide) (by decide)),
    ?_, fun g e => ?_, fun g e => ?_, fun i e he g eg => ?_, fun i e he g eg => ?_, hn⟩
  · rw [hr K hK (by rw [h.pK]; decide) (by rw [h.pK]; decide)]; exact h.pK
  · have := h.pb g e; rw [hr g (h.rb.lt e).2 (by omega) (by omega)]; exact this
  · have := h.pw g e; rw [hr g (h.rws.lt e).2 (by omega) (by omega)]; exact this
  · have := h.pwas i e he g eg; rw [hr g ((h.was i e he).lt eg).2 (by omega) (by omega)]; exact this
  · have := h.pval i e he g eg; rw [hr g ((h.val i e he).lt eg).2 (by omega) (by omega)]; exact this
theorem Bk.off {P : Nat → Prop} {w w' : World} {B K : Nat} {ρ : Nat → Nat} {vb vw vt vu : Value} {es : List Ent} (h : Bk w B K ρ vb vw vt vu es) (o : Off P w w') (hP : ∀ k, P k → ρ k = 0) : Bk w' B K ρ vb vw vt vu es :=
  h.role o (fun k p => Or.inl (hP k p)) (fun _ _ _ _ => rfl) (fun g hg => h.new g (Nat.le_trans o.size hg))
/-- One list is touched. -/
theorem Bk.touch {w w' : World} {B K : Nat} {ρ : Nat → Nat} {vb vw vt vu : Value} {es : List Ent} (h : Bk w B K ρ vb vw vt vu es) {i : Nat} {e : Ent} (he : es[i]? = some e) (o : Off (fun k => ρ k = 6 + 2 * i) w w') {bs' : List Value} (hv : TRow w' B e.val bs') :
    Bk w' B K ρ vb vw vt vu (es.set i { e with bs := bs' }) := by
  have hK := h.lt
  have hi : i < es.length := (List.getElem?_eq_some_iff.1 he).1
  have hat : ∀ j x, (es.set i { e with bs := bs' })[j]? = some x → (j = i ∧ x = { e with bs := bs' }) ∨ (j ≠ i ∧ es[j]? = some x) := fun j x hx => by
    by_cases hj : i = j
    · subst hj
      rw [List.getElem?_set_self hi] at hx
      exact Or.inl ⟨rfl, by simpa using hx.symm⟩
    · rw [List.getElem?_set_ne hj] at hx
      exact Or.inr ⟨fun q => hj q.symm, hx⟩
  have hc : ∀ q, w'.cell? ⟨K, q, none⟩ = w.cell? ⟨K, q, none⟩ := fun q => o.cell (p := ⟨K, q, none⟩) hK (fun (q : ρ K = _) => by have := h.pK; omega)
  have hge : ∀ (f : Ent → Value), f { e with bs := bs' } = f e → (es.set i { e with bs := bs' }).map f = es.map f := fun f hf => by
    rw [List.map_set, hf]
    refine List.ext_getElem? fun j => ?_
    by_cases hj : i = j
    · subst hj; rw [List.getElem?_set_self (by simpa using hi), List.getElem?_map, he]; rfl
    · rw [List.getElem?_set_ne hj]
  refine ⟨by rw [hc]; exact h.c0, by rw [hc]; exact h.c1, by rw [hc]; exact h.c2, by rw [hc]; exact h.c3, by rw [hc]; exact h.c4, by rw [hc]; exact h.c5, fun q => by rw [o.frozen (p := ⟨K, q, none⟩) hK (fun (q : ρ K = _) => by have := h.pK; omega)]; exact h.fz q, Nat.le_trans h.hB o.size,
    ?_, ?_, fun j x hx => ?_, fun j x hx => ?_, h.pK, h.pb, h.pw, fun j x hx g eg => ?_, fun j x hx g eg => ?_, fun g hg => h.new g (Nat.le_trans o.size hg)⟩
  · rw [hge Ent.val rfl]; exact h.rb.off o (fun g e (q : ρ g = _) => by have := h.pb g e; omega)
  · rw [hge Ent.was rfl]; exact h.rws.off o (fun g e (q : ρ g = _) => by have := h.pw g e; omega)
  · rcases hat j x hx with ⟨rfl, rfl⟩ | ⟨hj, hx'⟩
    · exact hv
    · exact (h.val j x hx').off o (fun g eg (q : ρ g = _) => by have := h.pval j x hx' g eg; omega)
  · rcases hat j x hx with ⟨rfl, rfl⟩ | ⟨hj, hx'⟩
    · exact (h.was j e he).off o (fun g eg (q : ρ g = _) => by have := h.pwas j e he g eg; omega)
    · exact (h.was j x hx').off o (fun g eg (q : ρ g = _) => by have := h.pwas j x hx' g eg; omega)
  · rcases hat j x hx with ⟨rfl, rfl⟩ | ⟨hj, hx'⟩
    · exact h.pwas j e he g eg
    · exact h.pwas j x hx' g eg
  · rcases hat j x hx with ⟨rfl, rfl⟩ | ⟨hj, hx'⟩
    · exact h.pval j e he g eg
    · exact h.pval j x hx' g eg
end Go.Proofs.YtjbkfppibnlmoaaGreatDoor.Bt
