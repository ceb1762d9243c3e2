/-
  Lists written over and grown: of no function.
-/
import Derived.Test.YtoijhecphgdfnaaDoorHsAct
namespace Go.Proofs.YtoijhecphgdfnaaDoor
open Go.RowKit

/-- append, told in full: in the row's own block with its room, or in a new one. -/
theorem run_append_k2 {P : Program} (w : World) (base : Nat) (t ty e : TypeId) (i : TypeInfo) (z : Value) (size bytes : Nat) (ht : P.underlying t = some (.slice e)) (hi : P.info? e = some i) (hz : i.zero = some z)
    (hsize : i.size = size) (hby : i.bytes = bytes) (hzs : z.cells.size = size)
    (v : Value) (n : Nat) (xs : List Value) (hown : w.ownsRow base e size v n xs)
    (a : Option Addr) (m c : Nat) (news : List Value) (hl : news.length = m * size) (ha : a = none → m = 0) (hnews : ∀ a', a = some a' → ∀ j u, news[j]? = some u → w.cell? (a'.add j) = some u) (h1 : ∀ u ∈ news, u.oneCell' = true) (hm : 0 < m)
    (h63 : n + m ≤ maxLen) (hbytes : ((n + m) + (n + m) / 4 + 192) * bytes ≤ 281474976710656) (hbase : base ≤ w.heap.size) :
    ∃ v' w', (Builtin.append_ #[t, t] ty #[v, .slice a m c]).run P w = .ok v' w' ∧ w'.ownsRow base e size v' (n + m) (xs ++ news) ∧ Off (fun k => v.ownBlock = some k) w w' ∧ ((∃ g cap, v = .slice (some ⟨g, 0, none⟩) n cap ∧ v' = .slice (some ⟨g, 0, none⟩) (n + m) cap) ∨ (v'.ownBlock = some w.heap.size ∧ Below w.heap.size w w')) := by
  subst hsize
  subst hby
  have hsmall : n + m ≤ 9223372036854775807 := by simp only [maxLen] at h63; omega
  have hlen : (xs ++ news).length = (n + m) * i.size := by rw [List.length_append, hown.1, hl, Nat.add_mul]
  obtain ⟨a', rfl⟩ : ∃ a', a = some a' := by
    cases a with
    | none => have := ha rfl; omega
    | some a' => exact ⟨a', rfl⟩
  have hnews' := hnews a' rfl
  have grown : ∀ (old : Nat), old < n + m →
      (w.drew.alloc (.cells (xs.toArray ++ news.toArray ++ Builtin.zeroCells z.cells (grownCap w (n + m) old e - (n + m))) e)).ownsRow base e i.size
        (.slice (some ⟨w.heap.size, 0, none⟩) (n + m) (grownCap w (n + m) old e)) (n + m) (xs ++ news) ∧
      Below w.heap.size w (w.drew.alloc (.cells (xs.toArray ++ news.toArray ++ Builtin.zeroCells z.cells (grownCap w (n + m) old e - (n + m))) e)) := by
    intro old ho
    have hge := grownCap_ge w (n + m) old e
    have hcm : grownCap w (n + m) old e ≤ maxLen := grownCap_le_maxLen w (n + m) old e h63
    refine ⟨⟨hlen, .inr ⟨w.heap.size, _, _, rfl, hbase, heap_alloc_new w.drew _, hge, hcm, ?_, ?_⟩⟩, ⟨rfl, rfl, rfl, by simp, fun k hk => Below.heap_alloc w.drew _ k hk⟩⟩
    · simp only [Array.size_append, List.size_toArray, size_zeroCells, hzs, hown.1, hl, ← Nat.add_mul]
      congr 1
      omega
    · simp only [Array.toList_append, List.append_assoc]
      rw [← List.append_assoc, ← hlen]
      exact List.take_left
  rcases hown.2 with ⟨rfl, rfl⟩ | ⟨g, cap, cur, rfl, hbg, hg, hnc, hcm, hcs, htake⟩
  · have hx : xs = [] := List.eq_nil_of_length_eq_zero (by simpa using hown.1)
    subst hx
    have hr := run_append_nil (P := P) w t ty e i z ht hi hz a' m c news hl hnews' (by omega) (by omega) (by have hb := hbytes; simp only [Nat.zero_add] at hb; exact Nat.le_trans (Nat.mul_le_mul_right _ (by omega)) hb)
    have hgr := grown 0 (by omega)
    simp only [Nat.zero_add, List.nil_append, Array.empty_append] at hgr ⊢
    exact ⟨_, _, hr, hgr.1, Off.of_below hgr.2, Or.inr ⟨rfl, hgr.2⟩⟩
  · by_cases hroom : n + m ≤ cap
    · have hfit : n * i.size + news.length ≤ cur.size := by rw [hl, hcs, ← Nat.add_mul]; exact Nat.mul_le_mul_right _ hroom
      have hr := run_append_room (P := P) w t ty e i ht hi g n cap cur hg a' m c news hl hnews' h1 hroom hfit
      refine ⟨_, _, hr, ⟨hlen, .inr ⟨g, cap, _, rfl, hbg, setRow_heap w g cur _ e _ hg, hroom, hcm, ?_, ?_⟩⟩, Off.of_grown (row := some g) ⟨rfl, rfl, rfl, by simp, fun k _ hk => setRow_other w g k _ (fun e => hk (by simp [e]))⟩, Or.inl ⟨g, cap, rfl, rfl⟩⟩
      · simp only [List.size_toArray, List.length_append, List.length_take, List.length_drop, Array.length_toList]
        omega
      · rw [htake, ← hlen]
        exact List.take_left
    · have holds : ∀ j u, xs[j]? = some u → w.cell? ((⟨g, 0, none⟩ : Addr).add j) = some u := hown.cells (g := g) rfl
      have hr := run_append_grow (P := P) w t ty e i z ht hi hz ⟨g, 0, none⟩ n cap xs hown.1 holds a' m c news hl hnews' (by omega) (by omega) (growslice_fits_wide (by omega) hbytes)
      have hgr := grown cap (by omega)
      exact ⟨_, _, hr, hgr.1, Off.of_below hgr.2, Or.inr ⟨rfl, hgr.2⟩⟩
section
variable {α : Type} {w w' : World} {B k : Nat} {e : TypeId} {enc : α → List Value} {xs : List α} {a : Option Addr} {n c : Nat}
/-- The first of a row. -/
theorem ERow.prefix (hk : ∀ x, (enc x).length = k) (h : ERow w B e k enc (.slice a n c) xs) {m : Nat} (hm : m ≤ n) : ERow w B e k enc (.slice a m c) (xs.take m) := by
  have hn := ERow.len h
  have hml : (xs.take m).length = m := by rw [List.length_take]; omega
  rcases h.2 with ⟨h0, h1⟩ | ⟨g, cap, cur, e1, hB, hg, hc, hM, hs, ht⟩
  · obtain ⟨rfl, rfl, rfl⟩ : a = none ∧ n = 0 ∧ c = 0 := by simpa using h0
    obtain rfl : m = 0 := by omega
    have hx : xs = [] := List.eq_nil_of_length_eq_zero hn.symm
    subst hx
    exact ERow.nil _ _ _ _ _
  · obtain ⟨rfl, e2, rfl⟩ : a = some ⟨g, 0, none⟩ ∧ n = xs.length ∧ c = cap := by simpa using e1
    refine ⟨flat_len hk _, Or.inr ⟨g, c, cur, by rw [hml], hB, hg, by omega, hM, hs, ?_⟩⟩
    have h2 : (xs.flatMap enc).take (m * k) = (xs.take m).flatMap enc := by
      conv => lhs; rw [← List.take_append_drop m xs]
      rw [List.flatMap_append, ← hml, ← flat_len hk (xs.take m), hml]
      exact List.take_left
    rw [hml, ← h2, ← ht, List.take_take]
    congr 1
    have := Nat.mul_le_mul_right k (show m ≤ xs.length by omega)
    omega
/-- append of one, told in full. -/
theorem run_epush2 {P : Program} {t : TypeId} {bytes : Nat} (ht : P.underlying t = some (.slice e)) (ho : Cel P e k bytes) (hk : ∀ x, (enc x).length = k) (hone : ∀ x, ∀ u ∈ enc x, u.oneCell' = true) (h : ERow w B e k enc (.slice a n c) xs) (x : α) (cs : Array Value) (hcs : cs = (enc x).toArray) (hl : n + 1 ≤ 1000000000) (hb : bytes ≤ 1000) (hB : B ≤ w.heap.size) :
    ∃ a' c' w', (Builtin.append_ #[t, t] t #[.slice a n c, .slice (some ⟨w.heap.size, 0, none⟩) 1 1]).run P (w.alloc (.cells cs e)) = .ok (.slice a' (n + 1) c') w' ∧ ERow w' B e k enc (.slice a' (n + 1) c') (xs ++ [x]) ∧ ((a' = a ∧ c' = c ∧ Off (fun q => (Value.slice a n c).ownBlock = some q) w w' ∧ ∃ g, a = some ⟨g, 0, none⟩) ∨ (∃ g, a' = some ⟨g, 0, none⟩ ∧ w.heap.size ≤ g ∧ Below w.heap.size w w')) := by
  subst hcs
  have hn := ERow.len h
  have hrow : ERow (w.alloc (.cells (enc x).toArray e)) B e k enc (.slice a n c) xs := h.below ((Below.refl w.heap.size w).alloc (Nat.le_refl _) _)
  obtain ⟨i, z, hi, hz, hzs, hs, hby⟩ := ho
  have hbn : ((xs.length + 1) + (xs.length + 1) / 4 + 192) * bytes ≤ 281474976710656 := Nat.le_trans (Nat.mul_le_mul (show _ ≤ 2000000000 by omega) hb) (by decide)
  obtain ⟨v', w', hr, r, o, l⟩ := run_append_k2 (P := P) (w.alloc (.cells (enc x).toArray e)) B t t e i z k bytes ht hi hz hs hby hzs (.slice a n c) xs.length (xs.flatMap enc) hrow (some ⟨w.heap.size, 0, none⟩) 1 1 (enc x) (by rw [hk]; omega) (fun e => by cases e) (fun a' ea j u hu => by
    cases ea
    rw [show (⟨w.heap.size, 0, none⟩ : Addr).add j = ⟨w.heap.size, j, none⟩ by rw [Addr.add_lit, Nat.zero_add], cell_new]
    simpa using hu) (fun u hu => hone x u hu) (by omega) (by unfold maxLen; omega) hbn (by simp; omega)
  have hR : ERow w' B e k enc v' (xs ++ [x]) := by
    unfold ERow
    rw [List.length_append, List.flatMap_append]
    simpa using r
  obtain ⟨a', c', e1, _⟩ := hR.isSlice
  rw [List.length_append, List.length_singleton, ← hn] at e1
  subst e1
  refine ⟨a', c', w', hr, hR, ?_⟩
  rcases l with ⟨g, cap, h1, h2⟩ | ⟨h1, h2⟩
  · obtain ⟨rfl, _, rfl⟩ : a = some ⟨g, 0, none⟩ ∧ n = xs.length ∧ c = cap := by simpa using h1
    obtain ⟨rfl, _, rfl⟩ : a' = some ⟨g, 0, none⟩ ∧ n + 1 = xs.length + 1 ∧ c' = c := by simpa using h2
    exact Or.inl ⟨rfl, rfl, (Off.alloc (Off.refl _ w) _).trans o, g, rfl⟩
  · right
    rcases ERow.form hR with ⟨e2, _⟩ | ⟨g, cap, e2, _⟩
    · have := hR.1
      simp only [Value.slice.injEq] at e2
      omega
    · simp only [Value.slice.injEq] at e2
      obtain ⟨rfl, _, _⟩ := e2
      simp only [Value.ownBlock, Option.some.injEq, World.size_alloc] at h1
      refine ⟨g, rfl, by omega, ?_⟩
      have b1 : Below w.heap.size w (w.alloc (.cells (enc x).toArray e)) := (Below.refl _ _).alloc (Nat.le_refl _) _
      exact below_then b1 h2
end
/-! ### lists by their places -/
structure LV {α : Type} (w : World) (B : Nat) (e : TypeId) (k : Nat) (enc : α → List Value) (vals : List Sl) (C : Nat → List α) : Prop where
  row : ∀ (i : Nat) (s : Sl), vals[i]? = some s → ERow w B e k enc (Sl.v s) (C i)
  dis : ∀ (i j : Nat) (s t : Sl) (g : Nat), vals[i]? = some s → vals[j]? = some t → i ≠ j → (Sl.v s).ownBlock = some g → (Sl.v t).ownBlock ≠ some g
def LVf (vals : List Sl) (g : Nat) : Prop := ∃ s ∈ vals, (Sl.v s).ownBlock = some g
section
variable {α : Type} {w w' : World} {B k : Nat} {e : TypeId} {enc : α → List Value} {vals : List Sl} {C C' : Nat → List α} {P : Nat → Prop}
theorem LV.off (h : LV w B e k enc vals C) (o : Off P w w') (hP : ∀ g, LVf vals g → ¬ P g) : LV w' B e k enc vals C := ⟨fun i s hs => ERow.off (h.row i s hs) o fun g hg => hP g ⟨s, List.mem_of_getElem? hs, hg⟩, h.dis⟩
theorem LV.below (h : LV w B e k enc vals C) (hb : Below w.heap.size w w') : LV w' B e k enc vals C := h.off (P := fun _ => False) (Off.of_below hb) fun _ _ => id
theorem LV.congr (h : LV w B e k enc vals C) (hc : ∀ i, i < vals.length → C i = C' i) : LV w B e k enc vals C' := ⟨fun i s hs => by rw [← hc i (List.getElem?_eq_some_iff.1 hs).1]; exact h.row i s hs, h.dis⟩
theorem LV.lt (h : LV w B e k enc vals C) {g : Nat} (hg : LVf vals g) : B ≤ g ∧ g < w.heap.size := by
  obtain ⟨s, hs, e⟩ := hg
  obtain ⟨i, hi, e2⟩ := List.getElem_of_mem hs
  exact ERow.lt (h.row i s (by rw [List.getElem?_eq_getElem hi, e2])) e
theorem LV.type (h : LV w B e k enc vals C) {g : Nat} (hg : LVf vals g) : ∃ cs, w.heap[g]? = some (.cells cs e (0, 0)) := by
  obtain ⟨s, hs, e⟩ := hg
  obtain ⟨i, hi, e2⟩ := List.getElem_of_mem hs
  exact own_type (h.row i s (by rw [List.getElem?_eq_getElem hi, e2])) e
/-- One list has changed. -/
theorem LV.upd (h : LV w B e k enc vals C) {i : Nat} {s : Sl} {xs : List α} (hs : vals[i]? = some s) (o : Off (fun g => (Sl.v s).ownBlock = some g) w w') (hr : ERow w' B e k enc (Sl.v s) xs) : LV w' B e k enc vals (fun j => if j = i then xs else C j) := by
  refine ⟨fun j t ht => ?_, h.dis⟩
  by_cases e : j = i
  · subst e
    rw [hs] at ht
    cases ht
    rw [if_pos rfl]
    exact hr
  · rw [if_neg e]
    exact ERow.off (h.row j t ht) o fun g hg e2 => h.dis j i t s g ht hs e hg e2
end
/-- What stood in the lists. -/
def contents {α : Type} (ls : List (TD α)) : Nat → List α := fun i => match ls[i]? with | some x => x.xs | none => []
theorem LB.lv {α : Type} {w : World} {B k : Nat} {e : TypeId} {enc : α → List Value} {ls : List (TD α)} (h : LB w B e k enc ls) : LV w B e k enc (ls.map TD.val) (contents ls) := by
  refine ⟨fun i s hs => ?_, fun i j s t g hs ht hij hg => ?_⟩
  · rw [List.getElem?_map] at hs
    obtain ⟨x, hx, rfl⟩ := Option.map_eq_some_iff.1 hs
    unfold contents
    rw [hx]
    exact h.val x (List.mem_of_getElem? hx)
  · rw [List.getElem?_map] at hs ht
    obtain ⟨x, hx, rfl⟩ := Option.map_eq_some_iff.1 hs
    obtain ⟨y, hy, rfl⟩ := Option.map_eq_some_iff.1 ht
    exact h.dis i j x y g hx hy hij hg
theorem LVf.lb {α : Type} {ls : List (TD α)} {g : Nat} (h : LVf (ls.map TD.val) g) : LBf ls g := by
  obtain ⟨s, hs, e⟩ := h
  obtain ⟨x, hx, rfl⟩ := List.mem_map.1 hs
  exact ⟨x, hx, Or.inl e⟩
/-- The lists ahead of i written over, of list i the first j. -/
def fillC {α : Type} (mk : Nat → α) (C : Nat → List α) (i j : Nat) (q : Nat) : List α := if q < i then List.replicate (C q).length (mk q) else if q = i then List.replicate j (mk i) ++ (C i).drop j else C q
section
variable {α : Type} {mk : Nat → α} {C : Nat → List α} {i j : Nat}
theorem fill_zero : fillC mk C 0 0 = C := by
  funext q
  unfold fillC
  rw [if_neg (by omega)]
  by_cases e : q = 0
  · subst e; rw [if_pos rfl]; simp
  · rw [if_neg e]
theorem fill_next (h : (C i).length ≤ j) (hj : j ≤ (C i).length) : fillC mk C i j = fillC mk C (i + 1) 0 := by
  obtain rfl : j = (C i).length := by omega
  funext q
  unfold fillC
  by_cases e1 : q < i
  · rw [if_pos e1, if_pos (by omega)]
  · rw [if_neg e1]
    by_cases e : q = i
    · subst e
      rw [if_pos rfl, if_pos (by omega), List.drop_length, List.append_nil]
    · rw [if_neg e, if_neg (by omega)]
      by_cases e2 : q = i + 1
      · subst e2; rw [if_pos rfl]; simp
      · rw [if_neg e2]
theorem fill_self : fillC mk C i j i = List.replicate j (mk i) ++ (C i).drop j := by
  unfold fillC
  rw [if_neg (by omega), if_pos rfl]
theorem fill_step (h : j < (C i).length) : (fun q => if q = i then (fillC mk C i j i).set j (mk i) else fillC mk C i j q) = fillC mk C i (j + 1) := by
  funext q
  by_cases e : q = i
  · subst e
    rw [if_pos rfl, fill_self, fill_self]
    refine List.ext_getElem? fun p => ?_
    by_cases e1 : p = j
    · subst e1
      rw [List.getElem?_set_self (by simp; omega), List.getElem?_append_left (by simp), List.getElem?_replicate, if_pos (by omega)]
    · rw [List.getElem?_set_ne (fun x => e1 x.symm)]
      rcases Nat.lt_or_ge p j with g | g
      · rw [List.getElem?_append_left (by simpa using g), List.getElem?_append_left (by simp; omega), List.getElem?_replicate, List.getElem?_replicate, if_pos g, if_pos (by omega)]
      · rw [List.getElem?_append_right (by simpa using g), List.getElem?_append_right (by simp; omega), List.getElem?_drop, List.getElem?_drop]
        congr 1
        simp; omega
  · rw [if_neg e]
    unfold fillC
    rw [if_neg e]
    by_cases e1 : q < i
    · rw [if_pos e1, if_pos e1]
    · rw [if_neg e1, if_neg e1, if_neg e]
theorem fill_len (q : Nat) (h : j ≤ (C i).length) : (fillC mk C i j q).length = (C q).length := by
  unfold fillC
  split
  · simp
  · split
    · rename_i e; subst e; simp; omega
    · rfl
/-- All is written over. -/
def markC (mk : Nat → α) (C : Nat → List α) (q : Nat) : List α := List.replicate (C q).length (mk q)
theorem fill_all {n : Nat} (q : Nat) (h : q < n) : fillC mk C n 0 q = markC mk C q := by
  unfold fillC markC
  rw [if_pos h]
end
/-! ### growing -/
structure GrE {α : Type} (X : World) (B : Nat) (e : TypeId) (k : Nat) (enc : α → List Value) (s : Sl) (m : α) (l : Sl) (wx : World) : Prop where
  rl : ERow wx B e k enc (Sl.v s) (List.replicate s.2.1 m)
  rg : ERow wx B e k enc (Sl.v l) (List.replicate l.2.1 m)
  o : Off (fun q => (Sl.v s).ownBlock = some q) X wx
  b : (l.1 = s.1 ∧ l.2.2 = s.2.2) ∨ ∃ q, (Sl.v l).ownBlock = some q ∧ X.heap.size ≤ q
  ol : ∀ q, (Sl.v s).ownBlock = some q → q < X.heap.size
  le : s.2.1 ≤ l.2.1
section
variable {α : Type} {X wx : World} {B k bytes : Nat} {e t : TypeId} {enc : α → List Value} {s l : Sl} {m : α}
theorem GrE.start (h : ERow X B e k enc (Sl.v s) (List.replicate s.2.1 m)) : GrE X B e k enc s m s X := ⟨h, h, Off.refl _ _, Or.inl ⟨rfl, rfl⟩, fun _ hq => (ERow.lt h hq).2, Nat.le_refl _⟩
theorem GrE.own (h : GrE X B e k enc s m l wx) {q : Nat} (hq : (Sl.v l).ownBlock = some q) : (Sl.v s).ownBlock = some q ∨ X.heap.size ≤ q := by
  rcases h.b with ⟨e1, e2⟩ | ⟨g, hg, hl⟩
  · left
    rcases ERow.form h.rg with ⟨e3, _⟩ | ⟨g, cap, e3, _⟩
    · rw [e3] at hq; cases hq
    · simp only [Value.slice.injEq] at e3
      change (Value.slice l.1 l.2.1 l.2.2).ownBlock = some q at hq
      rw [e3.1] at hq
      show (Value.slice s.1 s.2.1 s.2.2).ownBlock = some q
      rw [← e1, e3.1]
      exact hq
  · rw [hg] at hq
    cases hq
    exact Or.inr hl
theorem GrE.push (ht : Tryd.prog.underlying t = some (.slice e)) (ho : Cel Tryd.prog e k bytes) (hk : ∀ x, (enc x).length = k) (hone : ∀ x, ∀ u ∈ enc x, u.oneCell' = true) (hby : bytes ≤ 1000) (h : GrE X B e k enc s m l wx) (cs : Array Value) (hcs : cs = (enc m).toArray) (hn : l.2.1 + 1 ≤ 1000000000) (hB : B ≤ X.heap.size) :
    ∃ a' c' w', (Builtin.append_ #[t, t] t #[.slice l.1 l.2.1 l.2.2, .slice (some ⟨wx.heap.size, 0, none⟩) 1 1]).run Tryd.prog (wx.alloc (.cells cs e)) = .ok (.slice a' (l.2.1 + 1) c') w' ∧ Hid (GrE X B e k enc s m (a', l.2.1 + 1, c') w') := by
  obtain ⟨a', c', w', hr, r, hx⟩ := run_epush2 (P := Tryd.prog) (t := t) ht ho hk hone h.rg m cs hcs hn hby (Nat.le_trans hB h.o.size)
  have hR : ERow w' B e k enc (Sl.v (a', l.2.1 + 1, c')) (List.replicate (l.2.1 + 1) m) := by rw [List.replicate_succ']; exact r
  refine ⟨a', c', w', hr, ?_⟩
  rcases hx with ⟨e1, e2, o, g, hg⟩ | ⟨g, e1, hg, hb⟩
  · rcases h.b with ⟨b1, b2⟩ | ⟨q, hq, hqX⟩
    · refine ⟨?_, hR, h.o.trans (o.mono fun q hq => ?_), Or.inl ⟨e1.trans b1, e2.trans b2⟩, h.ol, by have := h.le; show _ ≤ l.2.1 + 1; omega⟩
      · have := ERow.prefix hk hR (m := s.2.1) (by have := h.le; show _ ≤ l.2.1 + 1; omega)
        rw [List.take_replicate, Nat.min_eq_left (by have := h.le; omega)] at this
        rw [e1, b1, e2, b2] at this
        exact this
      · rcases h.own hq with e3 | e3
        · exact e3
        · have h1 := h.ol
          have : (Sl.v s).ownBlock = some q := by
            show (Value.slice s.1 s.2.1 s.2.2).ownBlock = some q
            rw [← b1, hg]
            rw [hg] at hq
            exact hq
          exact this
    · have hne : ∀ p, (Sl.v s).ownBlock = some p → ¬ (Sl.v l).ownBlock = some p := fun p hp e3 => by
        rw [hq] at e3
        have := h.ol p hp
        injection e3 with e3
        omega
      refine ⟨ERow.off h.rl o hne, hR, h.o.join o (fun i hi e3 => ?_), Or.inr ⟨q, ?_, hqX⟩, h.ol, by have := h.le; show _ ≤ l.2.1 + 1; omega⟩
      · have e' : q = i := Option.some.inj (hq.symm.trans e3)
        omega
      · show (Value.slice a' (l.2.1 + 1) c').ownBlock = some q
        rw [e1, hg]
        change (Value.slice l.1 l.2.1 l.2.2).ownBlock = some q at hq
        rw [hg] at hq
        exact hq
  · exact ⟨ERow.below h.rl hb, hR, h.o.trans (Off.of_below hb), Or.inr ⟨g, by show (Value.slice a' (l.2.1 + 1) c').ownBlock = some g; rw [e1]; rfl, Nat.le_trans h.o.size hg⟩, h.ol, by have := h.le; show _ ≤ l.2.1 + 1; omega⟩
end
end Go.Proofs.YtoijhecphgdfnaaDoor
