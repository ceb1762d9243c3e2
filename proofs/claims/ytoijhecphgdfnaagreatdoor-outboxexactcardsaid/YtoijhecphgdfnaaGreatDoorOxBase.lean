/-
  Memory: worlds that are alike but for some blocks; rows of so many cells an element.
-/
import Derived.Test.YtoijhecphgdfnaaGreatDoorDcPa
import Derived.WalkKit
import Derived.WalkSpells
import Derived.WalkLawsBesides
import Derived.Below
import Derived.BigQuiet
import Derived.Deep.QuietTactic
import Derived.Deep.RegionWith
import Derived.Deep.RegionHeld3
import Derived.RowKitTokens
import Derived.Lib.IndexAny
import Derived.LoopTactic
import Derived.Laws.Cells
import Derived.Maps.OwnSet
import Derived.Deep.Cut
import Derived.Deep.DeepAppendRoom
import Derived.Deep.DeepAppendWide
import Derived.Maps.AppendAt
import Derived.Laws.OwnMore
import Derived.Sort.Row
namespace Go.Proofs.YtoijhecphgdfnaaGreatDoor
open Go.RowKit

/-- All blocks but those of P are as they were. -/
structure Off (P : Nat → Prop) (w w' : World) : Prop where
  os : w'.os = w.os
  tape : w'.tape = w.tape
  output : w'.output = w.output
  size : w.heap.size ≤ w'.heap.size
  block : ∀ k, k < w.heap.size → ¬ P k → w'.heap[k]? = w.heap[k]?
theorem Off.refl (P : Nat → Prop) (w : World) : Off P w w := ⟨rfl, rfl, rfl, Nat.le_refl _, fun _ _ _ => rfl⟩
theorem Off.trans {P : Nat → Prop} {a b c : World} (h : Off P a b) (k : Off P b c) : Off P a c :=
  ⟨k.os.trans h.os, k.tape.trans h.tape, k.output.trans h.output, Nat.le_trans h.size k.size, fun i hi hp => (k.block i (Nat.lt_of_lt_of_le hi h.size) hp).trans (h.block i hi hp)⟩
theorem Off.mono {P Q : Nat → Prop} {a b : World} (h : Off P a b) (hq : ∀ k, P k → Q k) : Off Q a b := ⟨h.os, h.tape, h.output, h.size, fun i hi hp => h.block i hi fun g => hp (hq i g)⟩
theorem Off.drewN {P : Nat → Prop} {a b : World} (h : Off P a b) (n : Nat) : Off P a (b.drewN n) := h.trans ⟨rfl, rfl, rfl, Nat.le_refl _, fun _ _ _ => rfl⟩
theorem Off.drew {P : Nat → Prop} {a b : World} (h : Off P a b) : Off P a b.drew := h.trans ⟨rfl, rfl, rfl, Nat.le_refl _, fun _ _ _ => rfl⟩
theorem Off.alloc {P : Nat → Prop} {a b : World} (h : Off P a b) (o : Obj) : Off P a (b.alloc o) :=
  h.trans ⟨rfl, rfl, rfl, by simp, fun k hk _ => Below.heap_alloc b o k hk⟩
theorem Off.setCell {P : Nat → Prop} {a b : World} (h : Off P a b) {p : Addr} (hp : P p.block) (u : Value) : Off P a (b.setCell p u) :=
  h.trans ⟨rfl, rfl, rfl, by simp, fun k _ hk => Below.heap_setCell b p u k fun e => hk (e ▸ hp)⟩
theorem Off.of_below {P : Nat → Prop} {a b : World} (h : Below a.heap.size a b) : Off P a b := ⟨h.os, h.tape, h.output, h.size, fun k hk _ => h.block k hk⟩
theorem Off.below {P : Nat → Prop} {B : Nat} {a b : World} (h : Off P a b) (hB : B ≤ a.heap.size) (hP : ∀ k, P k → B ≤ k) : Below B a b :=
  ⟨h.os, h.tape, h.output, h.size, fun k hk => h.block k (Nat.lt_of_lt_of_le hk hB) fun g => absurd (hP k g) (by omega)⟩
theorem Off.cell {P : Nat → Prop} {a b : World} (h : Off P a b) {p : Addr} (hp : p.block < a.heap.size) (hn : ¬ P p.block) : b.cell? p = a.cell? p := World.cell?_of_block (w := a) (h.block p.block hp hn)
theorem Off.frozen {P : Nat → Prop} {a b : World} (h : Off P a b) {p : Addr} (hp : p.block < a.heap.size) (hn : ¬ P p.block) : b.frozen? p = a.frozen? p := World.frozen?_of_block (w := a) (h.block p.block hp hn)
theorem Off.of_grown {w w' : World} {row : Option Nat} (h : w.grownBy w' row) : Off (fun k => row = some k) w w' := ⟨h.os, h.tape, h.output, h.size, fun k hk hn => h.block k hk (fun e => hn e.symm)⟩
/-- Two steps: what the second may touch is old and touched by the first's leave, or new. -/
theorem Off.join {P Q : Nat → Prop} {a b c : World} (h : Off P a b) (k : Off Q b c) (hq : ∀ i, i < a.heap.size → Q i → P i) : Off P a c :=
  ⟨k.os.trans h.os, k.tape.trans h.tape, k.output.trans h.output, Nat.le_trans h.size k.size, fun i hi hn => (k.block i (Nat.lt_of_lt_of_le hi h.size) (fun g => hn (hq i hi g))).trans (h.block i hi hn)⟩
theorem Box.off {P : Nat → Prop} {w w' : World} {b : Nat} {cs : Array Value} (h : Box w b cs) (ho : Off P w w') (hP : ¬ P b) : Box w' b cs :=
  ⟨Nat.lt_of_lt_of_le h.lt ho.size, fun o => by rw [ho.cell (p := ⟨b, o, none⟩) h.lt hP]; exact h.cell o, fun o => by rw [ho.frozen (p := ⟨b, o, none⟩) h.lt hP]; exact h.free o⟩
theorem Box.drew {w : World} {b : Nat} {cs : Array Value} (h : Box w b cs) : Box w.drew b cs := h.below (Below.drew (Below.refl _ _))

/-! ### rows, k cells an element -/
/-- append, told in full: in the row's own block, or in a new one. -/
theorem run_append_k {P : Program} (w : World) (base : Nat) (t ty e : TypeId) (i : TypeInfo) (z : Value) (size bytes : Nat) (ht : P.underlying t = some (.slice e)) (hi : P.info? e = some i) (hz : i.zero = some z)
    (hsize : i.size = size) (hby : i.bytes = bytes) (hzs : z.cells.size = size)
    (v : Value) (n : Nat) (xs : List Value) (hown : w.ownsRow base e size v n xs)
    (a : Option Addr) (m c : Nat) (news : List Value) (hl : news.length = m * size) (ha : a = none → m = 0) (hnews : ∀ a', a = some a' → ∀ j u, news[j]? = some u → w.cell? (a'.add j) = some u) (h1 : ∀ u ∈ news, u.oneCell' = true)
    (h63 : n + m ≤ maxLen) (hbytes : ((n + m) + (n + m) / 4 + 192) * bytes ≤ 281474976710656) (hbase : base ≤ w.heap.size) :
    ∃ v' w', (Builtin.append_ #[t, t] ty #[v, .slice a m c]).run P w = .ok v' w' ∧ w'.ownsRow base e size v' (n + m) (xs ++ news) ∧ Off (fun k => v.ownBlock = some k) w w' ∧ (v'.ownBlock = v.ownBlock ∨ v'.ownBlock = some w.heap.size) := by
  subst hsize
  subst hby
  have hsmall : n + m ≤ 9223372036854775807 := by simp only [maxLen] at h63; omega
  have hlen : (xs ++ news).length = (n + m) * i.size := by rw [List.length_append, hown.1, hl, Nat.add_mul]
  rcases Nat.eq_zero_or_pos m with hm | hm
  · subst hm
    obtain rfl : news = [] := List.eq_nil_of_length_eq_zero (by simpa using hl)
    refine ⟨v, w, ?_, by simpa using hown, Off.refl _ _, Or.inl rfl⟩
    rcases hown.2 with ⟨rfl, rfl⟩ | ⟨g, cap, cur, rfl, hbg, hg, hnc, _⟩
    · cases a <;> simp [Builtin.append_, run_underlying ht, sizeOf, typeInfo, hi, Builtin.lenOf, Builtin.firstCells, loadCells, loadCellsFrom]
    · cases a <;> simp [Builtin.append_, run_underlying ht, sizeOf, typeInfo, hi, Builtin.lenOf, Builtin.firstCells, loadCells, loadCellsFrom, hnc, storeCells]
  obtain ⟨a', rfl⟩ : ∃ a', a = some a' := by
    cases a with
    | none => have := ha rfl; omega
    | some a' => exact ⟨a', rfl⟩
  have hnews' := hnews a' rfl
  have grown : ∀ (old : Nat), old < n + m →
      (w.drew.alloc (.cells (xs.toArray ++ news.toArray ++ Builtin.zeroCells z.cells (grownCap w (n + m) old e - (n + m))) e)).ownsRow base e i.size
        (.slice (some ⟨w.heap.size, 0, none⟩) (n + m) (grownCap w (n + m) old e)) (n + m) (xs ++ news) ∧
      Off (fun k => v.ownBlock = some k) w (w.drew.alloc (.cells (xs.toArray ++ news.toArray ++ Builtin.zeroCells z.cells (grownCap w (n + m) old e - (n + m))) e)) := by
    intro old ho
    have hge := grownCap_ge w (n + m) old e
    have hcm : grownCap w (n + m) old e ≤ maxLen := grownCap_le_maxLen w (n + m) old e h63
    refine ⟨⟨hlen, .inr ⟨w.heap.size, _, _, rfl, hbase, heap_alloc_new w.drew _, hge, hcm, ?_, ?_⟩⟩, ⟨rfl, rfl, rfl, by simp, fun k hk _ => Below.heap_alloc w.drew _ k hk⟩⟩
    · simp only [Array.size_append, List.size_toArray, size_zeroCells, hzs, hown.1, hl, ← Nat.add_mul]
      congr 1
      omega
    · simp only [Array.toList_append, List.append_assoc]
      rw [← List.append_assoc, ← hlen]
      exact List.take_left
  rcases hown.2 with ⟨rfl, rfl⟩ | ⟨g, cap, cur, rfl, hbg, hg, hnc, hcm, hcs, htake⟩
  · have hx : xs = [] := List.eq_nil_of_length_eq_zero (by simpa using hown.1)
    subst hx
    have hr := run_append_nil (P := P) w t ty e i z ht hi hz a' m c news hl hnews' (by omega) (by omega) (by have hb := hbytes; simp only [Nat.zero_add] at hb; exact Nat.le_trans (Nat.mul_le_mul_right _ (by omega)) hb)
    have hgr := grown 0 (by omega)
    simp only [Nat.zero_add, List.nil_append, Array.empty_append] at hgr ⊢
    exact ⟨_, _, hr, hgr.1, hgr.2, Or.inr rfl⟩
  · by_cases hroom : n + m ≤ cap
    · have hfit : n * i.size + news.length ≤ cur.size := by rw [hl, hcs, ← Nat.add_mul]; exact Nat.mul_le_mul_right _ hroom
      have hr := run_append_room (P := P) w t ty e i ht hi g n cap cur hg a' m c news hl hnews' h1 hroom hfit
      refine ⟨_, _, hr, ⟨hlen, .inr ⟨g, cap, _, rfl, hbg, setRow_heap w g cur _ e _ hg, hroom, hcm, ?_, ?_⟩⟩, Off.of_grown (row := some g) ⟨rfl, rfl, rfl, by simp, fun k _ hk => setRow_other w g k _ (fun e => hk (by simp [e]))⟩, Or.inl rfl⟩
      · simp only [List.size_toArray, List.length_append, List.length_take, List.length_drop, Array.length_toList]
        omega
      · rw [htake, ← hlen]
        exact List.take_left
    · have holds : ∀ j u, xs[j]? = some u → w.cell? ((⟨g, 0, none⟩ : Addr).add j) = some u := hown.cells (g := g) rfl
      have hr := run_append_grow (P := P) w t ty e i z ht hi hz ⟨g, 0, none⟩ n cap xs hown.1 holds a' m c news hl hnews' (by omega) (by omega) (growslice_fits_wide (by omega) hbytes)
      have hgr := grown cap (by omega)
      exact ⟨_, _, hr, hgr.1, hgr.2, Or.inr rfl⟩
theorem own_keep {w w' : World} {B sz n : Nat} {t : TypeId} {v : Value} {l : List Value} (h : w.ownsRow B t sz v n l) (hk : ∀ g, v.ownBlock = some g → w'.heap[g]? = w.heap[g]?) : w'.ownsRow B t sz v n l := by
  refine ⟨h.1, ?_⟩
  rcases h.2 with h | ⟨g, cap, cur, rfl, hbg, hg, r⟩
  · exact Or.inl h
  · exact Or.inr ⟨g, cap, cur, rfl, hbg, by rw [hk g rfl]; exact hg, r⟩
/-- Rows of unlike types lie in unlike blocks. -/
theorem own_ne {w : World} {B B' : Nat} {e e' : TypeId} {sz sz' n n' : Nat} {v v' : Value} {xs ys : List Value} (h : w.ownsRow B e sz v n xs) (h' : w.ownsRow B' e' sz' v' n' ys) (he : e ≠ e') : ∀ g, v.ownBlock = some g → v'.ownBlock ≠ some g := fun g hg hg' => by
  rcases h.2 with ⟨rfl, _⟩ | ⟨g1, c1, u1, rfl, _, b1, _⟩
  · cases hg
  rcases h'.2 with ⟨rfl, _⟩ | ⟨g2, c2, u2, rfl, _, b2, _⟩
  · cases hg'
  simp only [Value.ownBlock, Option.some.injEq] at hg hg'
  subst hg; subst hg'
  rw [b1] at b2
  simp only [Option.some.injEq, Obj.cells.injEq] at b2
  exact he b2.2.1
/-- An element's type: k cells. -/
def Cel (P : Program) (e : TypeId) (k bytes : Nat) : Prop := ∃ i z, P.info? e = some i ∧ i.zero = some z ∧ z.cells.size = k ∧ i.size = k ∧ i.bytes = bytes
theorem cel_of {P : Program} {e : TypeId} {k bytes : Nat} (h : (P.info? e).map (fun i => (i.zero.map (fun z => z.cells.size), i.size, i.bytes)) = some (some k, k, bytes)) : Cel P e k bytes := by
  obtain ⟨i, hi, e⟩ := Option.map_eq_some_iff.1 h
  simp only [Prod.mk.injEq] at e
  obtain ⟨z, hz, e1⟩ := Option.map_eq_some_iff.1 e.1
  exact ⟨i, z, hi, hz, e1, e.2.1, e.2.2⟩
/-! ### rows of things that are so many cells each -/
section
variable {α : Type}
/-- A row of the call's own, told by its elements. -/
def ERow (w : World) (B : Nat) (e : TypeId) (k : Nat) (enc : α → List Value) (v : Value) (xs : List α) : Prop := w.ownsRow B e k v xs.length (xs.flatMap enc)
variable {w w' : World} {B B' k : Nat} {e : TypeId} {enc : α → List Value} {v : Value} {xs : List α} {a : Option Addr} {n c g : Nat}
theorem flat_get (hk : ∀ x, (enc x).length = k) : ∀ (xs : List α) (j : Nat) (x : α) (o : Nat), xs[j]? = some x → o < k → (xs.flatMap enc)[j * k + o]? = (enc x)[o]?
  | [], j, x, o, h, _ => by simp at h
  | y :: r, 0, x, o, h, ho => by
    simp only [List.getElem?_cons_zero, Option.some.injEq] at h
    subst h
    rw [List.flatMap_cons, Nat.zero_mul, Nat.zero_add, List.getElem?_append_left (by rw [hk]; exact ho)]
  | y :: r, j + 1, x, o, h, ho => by
    rw [List.getElem?_cons_succ] at h
    rw [List.flatMap_cons, List.getElem?_append_right (by rw [hk, Nat.succ_mul]; omega), hk, ← flat_get hk r j x o h ho]
    congr 1
    rw [Nat.succ_mul]; omega
theorem flat_len (hk : ∀ x, (enc x).length = k) : ∀ xs : List α, (xs.flatMap enc).length = xs.length * k
  | [] => by simp
  | y :: r => by rw [List.flatMap_cons, List.length_append, flat_len hk r, hk, List.length_cons, Nat.succ_mul]; omega
theorem ERow.nil (w : World) (B : Nat) (e : TypeId) (k : Nat) (enc : α → List Value) : ERow w B e k enc (.slice none 0 0) [] := World.ownsRow_nil w B e k
theorem ERow.form (h : ERow w B e k enc v xs) : (v = .slice none 0 0 ∧ xs = []) ∨ ∃ g cap, v = .slice (some ⟨g, 0, none⟩) xs.length cap ∧ B ≤ g ∧ g < w.heap.size ∧ xs.length ≤ cap ∧ cap ≤ maxLen := by
  rcases h.2 with ⟨rfl, h0⟩ | ⟨g, cap, cur, rfl, hB, hg, hn, hm, _, _⟩
  · exact Or.inl ⟨rfl, List.eq_nil_of_length_eq_zero h0⟩
  · refine Or.inr ⟨g, cap, rfl, hB, ?_, hn, hm⟩
    rcases Nat.lt_or_ge g w.heap.size with g1 | g1
    · exact g1
    · rw [Array.getElem?_eq_none g1] at hg; cases hg
theorem ERow.isSlice (h : ERow w B e k enc v xs) : ∃ a c, v = .slice a xs.length c ∧ (0 < xs.length → ∃ g, a = some ⟨g, 0, none⟩) ∧ (a = none → xs.length = 0) := by
  rcases h.form with ⟨rfl, rfl⟩ | ⟨g, cap, rfl, _⟩
  · exact ⟨_, _, rfl, fun h => by simp at h, fun _ => rfl⟩
  · exact ⟨_, _, rfl, fun _ => ⟨g, rfl⟩, fun e => by cases e⟩
theorem ERow.len (h : ERow w B e k enc (.slice a n c) xs) : n = xs.length := by
  obtain ⟨_, _, e, _⟩ := h.isSlice
  simp only [Value.slice.injEq] at e
  exact e.2.1
theorem ERow.lt (h : ERow w B e k enc v xs) (hg : v.ownBlock = some g) : B ≤ g ∧ g < w.heap.size := World.ownsRow.lt h g hg
theorem ERow.keep (h : ERow w B e k enc v xs) (hk : ∀ g, v.ownBlock = some g → w'.heap[g]? = w.heap[g]?) : ERow w' B e k enc v xs := own_keep h hk
theorem ERow.off {P : Nat → Prop} (h : ERow w B e k enc v xs) (o : Off P w w') (hP : ∀ g, v.ownBlock = some g → ¬ P g) : ERow w' B e k enc v xs := h.keep fun g hg => o.block g (h.lt hg).2 (hP g hg)
theorem ERow.below (h : ERow w B e k enc v xs) (hb : Below w.heap.size w w') : ERow w' B e k enc v xs := h.keep fun g hg => hb.block g (h.lt hg).2
theorem ERow.base (h : ERow w B e k enc v xs) (hB : B' ≤ B) : ERow w B' e k enc v xs := ⟨h.1, h.2.imp id fun ⟨g, cap, cur, e1, hb, rest⟩ => ⟨g, cap, cur, e1, Nat.le_trans hB hb, rest⟩⟩
theorem ERow.at_ (hk : ∀ x, (enc x).length = k) (h : ERow w B e k enc (.slice a n c) xs) {j : Nat} {x : α} (hx : xs[j]? = some x) : ∃ g, a = some ⟨g, 0, none⟩ ∧ g < w.heap.size ∧ ∀ o, o < k → w.cell? ⟨g, j * k + o, none⟩ = (enc x)[o]? := by
  have hj := (List.getElem?_eq_some_iff.1 hx).1
  have hcl := fun g e => World.ownsRow.cells h (g := g) e
  have hlt := World.ownsRow.lt h
  rcases h.2 with ⟨e1, h0⟩ | ⟨g, cap, cur, e1, _⟩
  · omega
  · obtain ⟨rfl, -, -⟩ : a = some ⟨g, 0, none⟩ ∧ n = xs.length ∧ c = cap := by simpa using e1
    refine ⟨g, rfl, (hlt g rfl).2, fun o ho => ?_⟩
    have hg := flat_get hk xs j x o hx ho
    have hol : o < (enc x).length := by rw [hk]; exact ho
    rw [List.getElem?_eq_getElem hol] at hg ⊢
    have := hcl g rfl _ _ hg
    rwa [Addr.add_lit, Nat.zero_add] at this
theorem ERow.thaw (h : ERow w B e k enc (.slice (some ⟨g, 0, none⟩) n c) xs) (j : Nat) : w.frozen? ⟨g, j, none⟩ = false := by
  rcases h.2 with ⟨h0, _⟩ | ⟨g', cap', cur, e1, hB, hg, _⟩
  · cases h0
  · simp only [Value.slice.injEq, Option.some.injEq, Addr.mk.injEq, and_true] at e1
    obtain ⟨rfl, _, _⟩ := e1
    simp [World.frozen?, hg]
/-- append of so many. -/
theorem run_eapp {P : Program} {t : TypeId} {bytes : Nat} (ht : P.underlying t = some (.slice e)) (ho : Cel P e k bytes) (hk : ∀ x, (enc x).length = k) (hone : ∀ x, ∀ u ∈ enc x, u.oneCell' = true) (h : ERow w B e k enc v xs) {ys : List α} (hn : n = ys.length) (ha : a = none → n = 0)
    (hy : ∀ a', a = some a' → ∀ j u, (ys.flatMap enc)[j]? = some u → w.cell? (a'.add j) = some u) (hl : xs.length + ys.length ≤ 1000000000) (hb : bytes ≤ 1000) (hB : B ≤ w.heap.size) :
    ∃ a' c' w', (Builtin.append_ #[t, t] t #[v, .slice a n c]).run P w = .ok (.slice a' (xs.length + ys.length) c') w' ∧ ERow w' B e k enc (.slice a' (xs.length + ys.length) c') (xs ++ ys) ∧ Off (fun q => v.ownBlock = some q) w w' ∧ ((Value.slice a' (xs.length + ys.length) c').ownBlock = v.ownBlock ∨ (Value.slice a' (xs.length + ys.length) c').ownBlock = some w.heap.size) := by
  subst hn
  obtain ⟨i, z, hi, hz, hzs, hs, hby⟩ := ho
  have hbn : ((xs.length + ys.length) + (xs.length + ys.length) / 4 + 192) * bytes ≤ 281474976710656 := Nat.le_trans (Nat.mul_le_mul (show _ ≤ 2000000000 by omega) hb) (by decide)
  obtain ⟨v', w', hr, r, o, l⟩ := run_append_k (P := P) w B t t e i z k bytes ht hi hz hs hby hzs v xs.length (xs.flatMap enc) h a ys.length c (ys.flatMap enc) (flat_len hk ys) ha hy (fun u hu => by
    obtain ⟨x, _, hx⟩ := List.mem_flatMap.1 hu
    exact hone x u hx) (by unfold maxLen; omega) hbn hB
  have hR : ERow w' B e k enc v' (xs ++ ys) := by
    unfold ERow
    rw [List.length_append, List.flatMap_append]
    exact r
  obtain ⟨a', c', e1, _⟩ := hR.isSlice
  rw [List.length_append] at e1
  subst e1
  exact ⟨a', c', w', hr, hR, o, l⟩
/-- append of one. -/
theorem run_epush {P : Program} {t : TypeId} {bytes : Nat} (ht : P.underlying t = some (.slice e)) (ho : Cel P e k bytes) (hk : ∀ x, (enc x).length = k) (hone : ∀ x, ∀ u ∈ enc x, u.oneCell' = true) (h : ERow w B e k enc v xs) (x : α) (cs : Array Value) (hcs : cs = (enc x).toArray) (hl : xs.length + 1 ≤ 1000000000) (hb : bytes ≤ 1000) (hB : B ≤ w.heap.size) :
    ∃ a' c' w', (Builtin.append_ #[t, t] t #[v, .slice (some ⟨w.heap.size, 0, none⟩) 1 1]).run P (w.alloc (.cells cs e)) = .ok (.slice a' (xs.length + 1) c') w' ∧ ERow w' B e k enc (.slice a' (xs.length + 1) c') (xs ++ [x]) ∧ Off (fun q => v.ownBlock = some q) w w' ∧ ((Value.slice a' (xs.length + 1) c').ownBlock = v.ownBlock ∨ (Value.slice a' (xs.length + 1) c').ownBlock = some (w.heap.size + 1)) := by
  subst hcs
  have hrow : ERow (w.alloc (.cells (enc x).toArray e)) B e k enc v xs := h.below ((Below.refl w.heap.size w).alloc (Nat.le_refl _) _)
  obtain ⟨a', c', w', hr, r, o, l⟩ := run_eapp (P := P) ht ho hk hone hrow (ys := [x]) (n := 1) (a := some ⟨w.heap.size, 0, none⟩) (c := 1) rfl (fun e => by cases e) (fun a' ea j u hu => by
    cases ea
    rw [show (⟨w.heap.size, 0, none⟩ : Addr).add j = ⟨w.heap.size, j, none⟩ by rw [Addr.add_lit, Nat.zero_add], cell_new]
    simpa using hu) hl hb (by simp; omega)
  refine ⟨a', c', w', hr, r, (Off.alloc (Off.refl _ w) _).trans o, ?_⟩
  rw [World.size_alloc] at l
  exact l
end
end Go.Proofs.YtoijhecphgdfnaaGreatDoor
