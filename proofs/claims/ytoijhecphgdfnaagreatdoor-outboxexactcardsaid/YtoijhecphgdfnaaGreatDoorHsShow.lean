import Derived.Test.YtoijhecphgdfnaaGreatDoorHsPush
/-
  Lists written over and grown: of no function.
-/
namespace Go.Proofs.YtoijhecphgdfnaaGreatDoor
open Go.RowKit

/-- append, told in full: in the row's own block with its room, or in a new one. -/
theorem run_append_k2 {P : Program} (w : World) (base : Nat) (t ty e : TypeId) (i : TypeInfo) (z : Value) (size bytes : Nat) (ht : P.underlying t = some (.slice e)) (hi : P.info? e = some i) (hz : i.zero = some z)
    (hsize : i.size = size) (hby : i.bytes = bytes) (hzs : z.cells.size = size)
    (v : Value) (n : Nat) (xs : List Value) (hown : w.ownsRow base e size v n xs)
    (a : Option Addr) (m c : Nat) (news : List Value) (hl : news.length = m * size) (ha : a = none → m = 0) (hnews : ∀ a', a = some a' → ∀ j u, news[j]? = some u → w.cell? (a'.add j) = some u) (h1 : ∀ u ∈ news, u.oneCell' = true) (hm : 0 < m)
    (h63 : n + m ≤ maxLen) (hbytes : ((n + m) + (n + m) / 4 + 192) * bytes ≤ 281474976710656) (hbase : base ≤ w.heap.size) :
    ∃ v' w', (Builtin.append_ #[t, t] ty #[v, .slice a m c]).run P w = .ok v' w' ∧ w'.ownsRow base e size v' (n + m) (xs ++ news) ∧ Off (fun k => v.ownBlock = some k) w w' ∧ ((∃ g cap, v = .slice (some ⟨g, 0, none⟩) n cap ∧ v' = .slice (some ⟨g, 0, none⟩) (n + m) cap) ∨ (v'.ownBlock = some w.heap.size ∧ Below w.heap.size w w')) := by
  subst hsize
  subst hby
  have hsmall : n + m ≤ 9223372036854775807 := by simp only [maxLen] at h63; omega
  have hlen : (xs ++ news).length = (n + m) * i.size := by rw [List.length_append, hown.1, hl, Nat.add_mul]
  obtain ⟨a', rfl⟩ : ∃ a', a = some a' := by
    cases a with
    | none => have := ha rfl; omega
    | some a' => exact ⟨a', rfl⟩
  have hnews' := hnews a' rfl
  have grown : ∀ (old : Nat), old < n + m →
      (w.drew.alloc (.cells (xs.toArray ++ news.toArray ++ Builtin.zeroCells z.cells (grownCap w (n + m) old e - (n + m))) e)).ownsRow base e i.size
        (.slice (some ⟨w.heap.size, 0, none⟩) (n + m) (grownCap w (n + m) old e)) (n + m) (xs ++ news) ∧
      Below w.heap.size w (w.drew.alloc (.cells (xs.toArray ++ news.toArray ++ Builtin.zeroCells z.cells (grownCap w (n + m) old e - (n + m))) e)) := by
    intro old ho
    have hge := grownCap_ge w (n + m) old e
    have hcm : grownCap w (n + m) old e ≤ maxLen := grownCap_le_maxLen w (n + m) old e h63
    refine ⟨⟨hlen, .inr ⟨w.heap.size, _, _, rfl, hbase, heap_alloc_new w.drew _, hge, hcm, ?_, ?_⟩⟩, ⟨rfl, rfl, rfl, by simp, fun k hk => Below.heap_alloc w.drew _ k hk⟩⟩
    · simp only [Array.size_append, List.size_toArray, size_zeroCells, hzs, hown.1, hl, ← Nat.add_mul]
      congr 1
      omega
    · simp only [Array.toList_append, List.append_assoc]
      rw [← List.append_assoc, ← hlen]
      exact List.take_left
  rcases hown.2 with ⟨rfl, rfl⟩ | ⟨g, cap, cur, rfl, hbg, hg, hnc, hcm, hcs, htake⟩
  · have hx : xs = [] := List.eq_nil_of_length_eq_zero (by simpa using hown.1)
    subst hx
    have hr := run_append_nil (P := P) w t ty e i z ht hi hz a' m c news hl hnews' (by omega) (by omega) (by have hb := hbytes; simp only [Nat.zero_add] at hb; exact Nat.le_trans (Nat.mul_le_mul_right _ (by omega)) hb)
    have hgr := grown 0 (by omega)
    simp only [Nat.zero_add, List.nil_append, Array.empty_append] at hgr ⊢
    exact ⟨_, _, hr, hgr.1, Off.of_below hgr.2, Or.inr ⟨rfl, hgr.2⟩⟩
  · by_cases hroom : n + m ≤ cap
    · have hfit : n * i.size + news.length ≤ cur.size := by rw [hl, hcs, ← Nat.add_mul]; exact Nat.mul_le_mul_right _ hroom
      have hr := run_append_room (P := P) w t ty e i ht hi g n cap cur hg a' m c news hl hnews' h1 hroom hfit
      refine ⟨_, _, hr, ⟨hlen, .inr ⟨g, cap, _, rfl, hbg, setRow_heap w g cur _ e _ hg, hroom, hcm, ?_, ?_⟩⟩, Off.of_grown (row := some g) ⟨rfl, rfl, rfl, by simp, fun k _ hk => setRow_other w g k _ (fun e => hk (by simp [e]))⟩, Or.inl ⟨g, cap, rfl, rfl⟩⟩
      · simp only [List.size_toArray, List.length_append, List.length_take, List.length_drop, Array.length_toList]
        omega
      · rw [htake, ← hlen]
        exact List.take_left
    · have holds : ∀ j u, xs[j]? = some u → w.cell? ((⟨g, 0, none⟩ : Addr).add j) = some u := hown.cells (g := g) rfl
      have hr := run_append_grow (P := P) w t ty e i z ht hi hz ⟨g, 0, none⟩ n cap xs hown.1 holds a' m c news hl hnews' (by omega) (by omega) (growslice_fits_wide (by omega) hbytes)
      have hgr := grown cap (by omega)
      exact ⟨_, _, hr, hgr.1, Off.of_below hgr.2, Or.inr ⟨rfl, hgr.2⟩⟩
section
variable {α : Type} {w w' : World} {B k : Nat} {e : TypeId} {enc : α → List Value} {xs : List α} {a : Option Addr} {n c : Nat}
/-- The first of a row. -/
theorem ERow.prefix (hk : ∀ x, (enc x).length = k) (h : ERow w B e k enc (.slice a n c) xs) {m : Nat} (hm : m ≤ n) : ERow w B e k enc (.slice a m c) (xs.take m) := by
  have hn := ERow.len h
  have hml : (xs.take m).length = m := by rw [List.length_take]; omega
  rcases h.2 with ⟨h0, h1⟩ | ⟨g, cap, cur, e1, hB, hg, hc, hM, hs, ht⟩
  · obtain ⟨rfl, rfl, rfl⟩ : a = none ∧ n = 0 ∧ c = 0 := by simpa using h0
    obtain rfl : m = 0 := by omega
    have hx : xs = [] := List.eq_nil_of_length_eq_zero hn.symm
    subst hx
    exact ERow.nil _ _ _ _ _
  · obtain ⟨rfl, e2, rfl⟩ : a = some ⟨g, 0, none⟩ ∧ n = xs.length ∧ c = cap := by simpa using e1
    refine ⟨flat_len hk _, Or.inr ⟨g, c, cur, by rw [hml], hB, hg, by omega, hM, hs, ?_⟩⟩
    have h2 : (xs.flatMap enc).take (m * k) = (xs.take m).flatMap enc := by
      conv => lhs; rw [← List.take_append_drop m xs]
      rw [List.flatMap_append, ← hml, ← flat_len hk (xs.take m), hml]
      exact List.take_left
    rw [hml, ← h2, ← ht, List.take_take]
    congr 1
    have := Nat.mul_le_mul_right k (show m ≤ xs.length by omega)
    omega
/-- append of one, told in full. -/
theorem run_epush2 {P : Program} {t : TypeId} {bytes : Nat} (ht : P.underlying t = some (.slice e)) (ho : Cel P e k bytes) (hk : ∀ x, (enc x).length = k) (hone : ∀ x, ∀ u ∈ enc x, u.oneCell' = true) (h : ERow w B e k enc (.slice a n c) xs) (x : α) (cs : Array Value) (hcs : cs = (enc x).toArray) (hl : n + 1 ≤ 1000000000) (hb : bytes ≤ 1000) (hB : B ≤ w.heap.size) :
    ∃ a' c' w', (Builtin.append_ #[t, t] t #[.slice a n c, .slice (some ⟨w.heap.size, 0, none⟩) 1 1]).run P (w.alloc (.cells cs e)) = .ok (.slice a' (n + 1) c') w' ∧ ERow w' B e k enc (.slice a' (n + 1) c') (xs ++ [x]) ∧ ((a' = a ∧ c' = c ∧ Off (fun q => (Value.slice a n c).ownBlock = some q) w w' ∧ ∃ g, a = some ⟨g, 0, none⟩) ∨ (∃ g, a' = some ⟨g, 0, none⟩ ∧ w.heap.size ≤ g ∧ Below w.heap.size w w')) := by
  subst hcs
  have hn := ERow.len h
  have hrow : ERow (w.alloc (.cells (enc x).toArray e)) B e k enc (.slice a n c) xs := h.below ((Below.refl w.heap.size w).alloc (Nat.le_refl _) _)
  obtain ⟨i, z, hi, hz, hzs, hs, hby⟩ := ho
  have hbn : ((xs.length + 1) + (xs.length + 1) / 4 + 192) * bytes ≤ 281474976710656 := Nat.le_trans (Nat.mul_le_mul (show _ ≤ 2000000000 by omega) hb) (by decide)
  obtain ⟨v', w', hr, r, o, l⟩ := run_append_k2 (P := P) (w.alloc (.cells (enc x).toArray e)) B t t e i z k bytes ht hi hz hs hby hzs (.slice a n c) xs.length (xs.flatMap enc) hrow (some ⟨w.heap.size, 0, none⟩) 1 1 (enc x) (by rw [hk]; omega) (fun e => by cases e) (fun a' ea j u hu => by
    cases ea
    rw [show (⟨w.heap.size, 0, none⟩ : Addr).add j = ⟨w.heap.size, j, none⟩ by rw [Addr.add_lit, Nat.zero_add], cell_new]
    simpa using hu) (fun u hu => hone x u hu) (by omega) (by unfold maxLen; omega) hbn (by simp; omega)
  have hR : ERow w' B e k enc v' (xs ++ [x]) := by
    unfold ERow
    rw [List.length_append, List.flatMap_append]
    simpa using r
  obtain ⟨a', c', e1, _⟩ := hR.isSlice
  rw [List.length_append, List.length_singleton, ← hn] at e1
  subst e1
  refine ⟨a', c', w', hr, hR, ?_⟩
  rcases l with ⟨g, cap, h1, h2⟩ | ⟨h1, h2⟩
  · obtain ⟨rfl, _, rfl⟩ : a = some ⟨g, 0, none⟩ ∧ n = xs.length ∧ c = cap := by simpa using h1
    obtain ⟨rfl, _, rfl⟩ : a' = some ⟨g, 0, none⟩ ∧ n + 1 = xs.length + 1 ∧ c' = c := by simpa using h2
    exact Or.inl ⟨rfl, rfl, (Off.alloc (Off.refl _ w) _).trans o, g, rfl⟩
  · right
    rcases ERow.form hR with ⟨e2, _⟩ | ⟨g, cap, e2, _⟩
    · have := hR.1
      simp only [Value.slice.injEq] at e2
      omega
    · simp only [Value.slice.injEq] at e2
      obtain ⟨rfl, _, _⟩ := e2
      simp only [Value.ownBlock, Option.some.injEq, World.size_alloc] at h1
      refine ⟨g, rfl, by omega, ?_⟩
      have b1 : Below w.heap.size w (w.alloc (.cells (enc x).toArray e)) := (Below.refl _ _).alloc (Nat.le_refl _) _
      exact below_then b1 h2
end
/-! ### lists by their places -/
structure LV {α : Type} (w : World) (B : Nat) (e : TypeId) (k : Nat) (enc : α → List Value) (vals : List Sl) (C : Nat → List α) : Prop where
  row : ∀ (i : Nat) (s : Sl), vals[i]? = some s → ERow w B e k enc (Sl.v s) (C i)
  dis : ∀ (i j : Nat) (s t : Sl) (g : Nat), vals[i]? = some s → vals[j]? = some t → i ≠ j → (Sl.v s).ownBlock = some g → (Sl.v t).ownBlock ≠ some g
def LVf (vals : List Sl) (g : Nat) : Prop := ∃ s ∈ vals, (Sl.v s).ownBlock = some g
section
variable {α : Type} {w w' : World} {B k : Nat} {e : TypeId} {enc : α → List Value} {vals : List Sl} {C C' : Nat → List α} {P : Nat → Prop}
theorem LV.off (h : LV w B e k enc vals C) (o : Off P w w') (hP : ∀ g, LVf vals g → ¬ P g) : LV w' B e k enc vals C := ⟨fun i s hs => ERow.off (h.row i s hs) o fun g hg => hP g ⟨s, List.mem_of_getElem? hs, hg⟩, h.dis⟩
theorem LV.below (h : LV w B e k enc vals C) (hb : Below w.heap.size w w') : LV w' B e k enc vals C := h.off (P := fun _ => False) (Off.of_below hb) fun _ _ => id
theorem LV.congr (h : LV w B e k enc vals C) (hc : ∀ i, i < vals.length → C i = C' i) : LV w B e k enc vals C' := ⟨fun i s hs => by rw [← hc i (List.getElem?_eq_some_iff.1 hs).1]; exact h.row i s hs, h.dis⟩
theorem LV.lt (h : LV w B e k enc vals C) {g : Nat} (hg : LVf vals g) : B ≤ g ∧ g < w.heap.size := by
  obtain ⟨s, hs, e⟩ := hg
  obtain ⟨i, hi, e2⟩ := List.getElem_of_mem hs
  exact ERow.lt (h.row i s (by rw [List.getElem?_eq_getElem hi, e2])) e
theorem LV.type (h : LV w B e k enc vals C) {g : Nat} (hg : LVf vals g) : ∃ cs, w.heap[g]? = some (.cells cs e (0, 0)) := by
  obtain ⟨s, hs, e⟩ := hg
  obtain ⟨i, hi, e2⟩ := List.getElem_of_mem hs
  exact own_type (h.row i s (by rw [List.getElem?_eq_getElem hi, e2])) e
/-- One list has changed. -/
theorem LV.upd (h : LV w B e k enc vals C) {i : Nat} {s : Sl} {xs : List α} (hs : vals[i]? = some s) (o : Off (fun g => (Sl.v s).ownBlock = some g) w w') (hr : ERow w' B e k enc (Sl.v s) xs) : LV w' B e k enc vals (fun j => if j = i then xs else C j) := by
  refine ⟨fun j t ht => ?_, h.dis⟩
  by_cases e : j = i
  · subst e
    rw [hs] at ht
    cases ht
    rw [if_pos rfl]
    exact hr
  · rw [if_neg e]
    exact ERow.off (h.row j t ht) o fun g hg e2 => h.dis j i t s g ht hs e hg e2
end
/-- What stood in the lists. -/
def contents {α : Type} (ls : List (TD α)) : Nat → List α := fun i => match ls[i]? with | some x => x.xs | none => []
theorem LB.lv {α : Type} {w : World} {B k : Nat} {e : TypeId} {enc : α → List Value} {ls : List (TD α)} (h : LB w B e k enc ls) : LV w B e k enc (ls.map TD.val) (contents ls) := by
  refine ⟨fun i s hs => ?_, fun i j s t g hs ht hij hg => ?_⟩
  · rw [List.getElem?_map] at hs
    obtain ⟨x, hx, rfl⟩ := Option.map_eq_some_iff.1 hs
    unfold contents
    rw [hx]
    exact h.val x (List.mem_of_getElem? hx)
  · rw [List.getElem?_map] at hs ht
    obtain ⟨x, hx, rfl⟩ := Option.map_eq_some_iff.1 hs
    obtain ⟨y, hy, rfl⟩ := Option.map_eq_some_iff.1 ht
    exact h.dis i j x y g hx hy hij hg
theorem LVf.lb {α : Type} {ls : List (TD α)} {g : Nat} (h : LVf (ls.map TD.val) g) : LBf ls g := by
  obtain ⟨s, hs, e⟩ := h
  obtain ⟨x, hx, rfl⟩ := List.mem_map.1 hs
  exact ⟨x, hx, Or.inl e⟩
/-- The lists ahead of i written over, of list i the first j. -/
def fillC {α : Type} (mk : Nat → α) (C : Nat → List α) (i j : Nat) (q : Nat) : List α := if q < i then List.replicate (C q).length (mk q) else if q = i then List.replicate j (mk i) ++ (C i).drop j else C q
section
variable {α : Type} {mk : Nat → α} {C : Nat → List α} {i j : Nat}
theorem fill_zero : fillC mk C 0 0 = C := by
  funext q
  unfold fillC
  rw [if_neg (by omega)]
  by_cases e : q = 0
  · subst e; rw [if_pos rfl]; simp
  · rw [if_neg e]
theorem fill_next (h : (C i).length ≤ j) (hj : j ≤ (C i).length) : fillC mk C i j = fillC mk C (i + 1) 0 := by
  obtain rfl : j = (C i).length := by omega
  funext q
  unfold fillC
  by_cases e1 : q < i
  · rw [if_pos e1, if_pos (by omega)]
  · rw [if_neg e1]
    by_cases e : q = i
    · subst e
      rw [if_pos rfl, if_pos (by omega), List.drop_length, List.append_nil]
    · rw [if_neg e, if_neg (by omega)]
      by_cases e2 : q = i + 1
      · subst e2; rw [if_pos rfl]; simp
      · rw [if_neg e2]
theorem fill_self : fillC mk C i j i = List.replicate j (mk i) ++ (C i).drop j := by
  unfold fillC
  rw [if_neg (by omega), if_pos rfl]
theorem fill_step (h : j < (C i).length) : (fun q => if q = i then (fillC mk C i j i).set j (mk i) else fillC mk C i j q) = fillC mk C i (j + 1) := by
  funext q
  by_cases e : q = i
  · subst e
    rw [if_pos rfl, fill_self, fill_self]
    refine List.ext_getElem? fun p => ?_
    by_cases e1 : p = j
    · subst e1
      rw [List.getElem?_set_self (by simp; omega), List.getElem?_append_left (by simp), List.getElem?_replicate, if_pos (by omega)]
    · rw [List.getElem?_set_ne (fun x => e1 x.symm)]
      rcases Nat.lt_or_ge p j with g | g
      · rw [List.getElem?_append_left (by simpa using g), List.getElem?_append_left (by simp; omega), List.getElem?_replicate, List.getElem?_replicate, if_pos g, if_pos (by omega)]
      · rw [List.getElem?_append_right (by simpa using g), List.getElem?_append_right (by simp; omega), List.getElem?_drop, List.getElem?_drop]
        congr 1
        simp; omega
  · rw [if_neg e]
    unfold fillC
    rw [if_neg e]
    by_cases e1 : q < i
    · rw [if_pos e1, if_pos e1]
    · rw [if_neg e1, if_neg e1, if_neg e]
theorem fill_len (q : Nat) (h : j ≤ (C i).length) : (fillC mk C i j q).length = (C q).length := by
  unfold fillC
  split
  · simp
  · split
    · rename_i e; subst e; simp; omega
    · rfl
/-- All is written over. -/
def markC (mk : Nat → α) (C : Nat → List α) (q : Nat) : List α := List.replicate (C q).length (mk q)
theorem fill_all {n : Nat} (q : Nat) (h : q < n) : fillC mk C n 0 q = markC mk C q := by
  unfold fillC markC
  rw [if_pos h]
end
/-! ### growing -/
structure GrE {α : Type} (X : World) (B : Nat) (e : TypeId) (k : Nat) (enc : α → List Value) (s : Sl) (m : α) (l : Sl) (wx : World) : Prop where
  rl : ERow wx B e k enc (Sl.v s) (List.replicate s.2.1 m)
  rg : ERow wx B e k enc (Sl.v l) (List.replicate l.2.1 m)
  o : Off (fun q => (Sl.v s).ownBlock = some q) X wx
  b : (l.1 = s.1 ∧ l.2.2 = s.2.2) ∨ ∃ q, (Sl.v l).ownBlock = some q ∧ X.heap.size ≤ q
  ol : ∀ q, (Sl.v s).ownBlock = some q → q < X.heap.size
  le : s.2.1 ≤ l.2.1
section
variable {α : Type} {X wx : World} {B k bytes : Nat} {e t : TypeId} {enc : α → List Value} {s l : Sl} {m : α}
theorem GrE.start (h : ERow X B e k enc (Sl.v s) (List.replicate s.2.1 m)) : GrE X B e k enc s m s X := ⟨h, h, Off.refl _ _, Or.inl ⟨rfl, rfl⟩, fun _ hq => (ERow.lt h hq).2, Nat.le_refl _⟩
theorem GrE.own (h : GrE X B e k enc s m l wx) {q : Nat} (hq : (Sl.v l).ownBlock = some q) : (Sl.v s).ownBlock = some q ∨ X.heap.size ≤ q := by
  rcases h.b with ⟨e1, e2⟩ | ⟨g, hg, hl⟩
  · left
    rcases ERow.form h.rg with ⟨e3, _⟩ | ⟨g, cap, e3, _⟩
    · rw [e3] at hq; cases hq
    · simp only [Value.slice.injEq] at e3
      change (Value.slice l.1 l.2.1 l.2.2).ownBlock = some q at hq
      rw [e3.1] at hq
      show (Value.slice s.1 s.2.1 s.2.2).ownBlock = some q
      rw [← e1, e3.1]
      exact hq
  · rw [hg] at hq
    cases hq
    exact Or.inr hl
theorem GrE.push (ht : Tryz.prog.underlying t = some (.slice e)) (ho : Cel Tryz.prog e k bytes) (hk : ∀ x, (enc x).length = k) (hone : ∀ x, ∀ u ∈ enc x, u.oneCell' = true) (hby : bytes ≤ 1000) (h : GrE X B e k enc s m l wx) (cs : Array Value) (hcs : cs = (enc m).toArray) (hn : l.2.1 + 1 ≤ 1000000000) (hB : B ≤ X.heap.size) :
    ∃ a' c' w', (Builtin.append_ #[t, t] t #[.slice l.1 l.2.1 l.2.2, .slice (some ⟨wx.heap.size, 0, none⟩) 1 1]).run Tryz.prog (wx.alloc (.cells cs e)) = .ok (.slice a' (l.2.1 + 1) c') w' ∧ Hid (GrE X B e k enc s m (a', l.2.1 + 1, c') w') := by
  obtain ⟨a', c', w', hr, r, hx⟩ := run_epush2 (P := Tryz.prog) (t := t) ht ho hk hone h.rg m cs hcs hn hby (Nat.le_trans hB h.o.size)
  have hR : ERow w' B e k enc (Sl.v (a', l.2.1 + 1, c')) (List.replicate (l.2.1 + 1) m) := by rw [List.replicate_succ']; exact r
  refine ⟨a', c', w', hr, ?_⟩
  rcases hx with ⟨e1, e2, o, g, hg⟩ | ⟨g, e1, hg, hb⟩
  · rcases h.b with ⟨b1, b2⟩ | ⟨q, hq, hqX⟩
    · refine ⟨?_, hR, h.o.trans (o.mono fun q hq => ?_), Or.inl ⟨e1.trans b1, e2.trans b2⟩, h.ol, by have := h.le; show _ ≤ l.2.1 + 1; omega⟩
      · have := ERow.prefix hk hR (m := s.2.1) (by have := h.le; show _ ≤ l.2.1 + 1; omega)
        rw [List.take_replicate, Nat.min_eq_left (by have := h.le; omega)] at this
        rw [e1, b1, e2, b2] at this
        exact this
      · rcases h.own hq with e3 | e3
        · exact e3
        · have h1 := h.ol
          have : (Sl.v s).ownBlock = some q := by
            show (Value.slice s.1 s.2.1 s.2.2).ownBlock = some q
            rw [← b1, hg]
            rw [hg] at hq
            exact hq
          exact this
    · have hne : ∀ p, (Sl.v s).ownBlock = some p → ¬ (Sl.v l).ownBlock = some p := fun p hp e3 => by
        rw [hq] at e3
        have := h.ol p hp
        injection e3 with e3
        omega
      refine ⟨ERow.off h.rl o hne, hR, h.o.join o (fun i hi e3 => ?_), Or.inr ⟨q, ?_, hqX⟩, h.ol, by have := h.le; show _ ≤ l.2.1 + 1; omega⟩
      · have e' : q = i := Option.some.inj (hq.symm.trans e3)
        omega
      · show (Value.slice a' (l.2.1 + 1) c').ownBlock = some q
        rw [e1, hg]
        change (Value.slice l.1 l.2.1 l.2.2).ownBlock = some q at hq
        rw [hg] at hq
        exact hq
  · exact ⟨ERow.below h.rl hb, hR, h.o.trans (Off.of_below hb), Or.inr ⟨g, by show (Value.slice a' (l.2.1 + 1) c').ownBlock = some g; rw [e1]; rfl, Nat.le_trans h.o.size hg⟩, h.ol, by have := h.le; show _ ≤ l.2.1 + 1; omega⟩
end
end Go.Proofs.YtoijhecphgdfnaaGreatDoor

/-
  Held behind Book.Alone: rows, and lists by their places (AL); what shows reads.
-/
namespace Go.Proofs.YtoijhecphgdfnaaGreatDoor
open Go.RowKit

def rho0 (hb : Nat) : Nat → Nat := fun k => if k = hb then 1 else 0
theorem rho0_ne {hb g : Nat} (h : g ≠ hb) : rho0 hb g = 0 := if_neg h
theorem rho0_of {hb g : Nat} (h : rho0 hb g ≠ 0) : g = hb := by
  unfold rho0 at h
  split at h
  · assumption
  · exact absurd rfl h
def mkD (i : Nat) : Deed := (⟨#[]⟩, -1 - (i : Int), ⟨#[]⟩)
def mkS (i : Nat) : Msg := { zM with nu := -1 - (i : Int) }
structure AL (w : World) (B hb : Nat) (f : Nat → Value) (X : Nat → List Sl) (CD : Nat → List Deed) (CS : Nat → List Msg) : Prop where
  hr : HR w B hb f (rho0 hb) [] X
  ld : LV w B 105 3 encD (X 0) CD
  ls : LV w B 91 10 encM (X 2) CS
  nb : ¬ LVf (X 0) hb ∧ ¬ LVf (X 2) hb
section
variable {w w' : World} {B hb : Nat} {f : Nat → Value} {X : Nat → List Sl} {CD CD' : Nat → List Deed} {CS CS' : Nat → List Msg} {P : Nat → Prop}
theorem AL.off (h : AL w B hb f X CD CS) (o : Off P w w') (hP : ∀ g, P g → ¬ RFt f (rho0 hb) g ∧ ¬ LVf (X 0) g ∧ ¬ LVf (X 2) g) : AL w' B hb f X CD CS :=
  ⟨h.hr.off o fun g hg p => (hP g p).1 hg, h.ld.off o fun g hg p => (hP g p).2.1 hg, h.ls.off o fun g hg p => (hP g p).2.2 hg, h.nb⟩
theorem AL.below (h : AL w B hb f X CD CS) (h9 : Below w.heap.size w w') : AL w' B hb f X CD CS := h.off (P := fun _ => False) (Off.of_below h9) fun _ p => p.elim
theorem AL.congr (h : AL w B hb f X CD CS) (h1 : ∀ i, i < (X 0).length → CD i = CD' i) (h2 : ∀ i, i < (X 2).length → CS i = CS' i) : AL w B hb f X CD' CS' := ⟨h.hr, h.ld.congr h1, h.ls.congr h2, h.nb⟩
/-- A list's block is none of the rows'. -/
theorem AL.nrow (h : AL w B hb f X CD CS) {g : Nat} (hg : LVf (X 0) g ∨ LVf (X 2) g) : ¬ RFt f (rho0 hb) g := fun e => by
  rcases e with e | ⟨q, hq, e⟩
  · rw [rho0_of e] at hg
    exact hg.elim h.nb.1 h.nb.2
  · obtain ⟨cs, hc⟩ := own_type (h.hr.row q hq) e
    have key : ∃ cs' t, w.heap[g]? = some (.cells cs' t (0, 0)) ∧ t ≠ hty q := by
      rcases hg with g1 | g1
      · obtain ⟨cs', h'⟩ := h.ld.type g1
        refine ⟨cs', _, h', ?_⟩
        unfold hty
        split <;> first | decide | (split <;> decide)
      · obtain ⟨cs', h'⟩ := h.ls.type g1
        refine ⟨cs', _, h', ?_⟩
        unfold hty
        split <;> first | decide | (split <;> decide)
    obtain ⟨cs', t, h', ht⟩ := key
    rw [hc] at h'
    simp only [Option.some.injEq, Obj.cells.injEq] at h'
    exact ht h'.2.1.symm
theorem AL.dsne (h : AL w B hb f X CD CS) {g : Nat} (h1 : LVf (X 0) g) (h2 : LVf (X 2) g) : False := by
  obtain ⟨cs, hc⟩ := h.ld.type h1
  obtain ⟨cs', hc'⟩ := h.ls.type h2
  rw [hc] at hc'
  simp at hc'
theorem AL.updD (h : AL w B hb f X CD CS) {i : Nat} {s : Sl} {xs : List Deed} (hs : (X 0)[i]? = some s) (o : Off (fun g => (Sl.v s).ownBlock = some g) w w') (hr : DRow w' B (Sl.v s) xs) : AL w' B hb f X (fun j => if j = i then xs else CD j) CS := by
  have hm : ∀ g, (Sl.v s).ownBlock = some g → LVf (X 0) g := fun g hg => ⟨s, List.mem_of_getElem? hs, hg⟩
  exact ⟨h.hr.off o fun g hg p => h.nrow (Or.inl (hm g p)) hg, h.ld.upd hs o hr, h.ls.off o fun g hg p => h.dsne (hm g p) hg, h.nb⟩
theorem AL.updS (h : AL w B hb f X CD CS) {i : Nat} {s : Sl} {xs : List Msg} (hs : (X 2)[i]? = some s) (o : Off (fun g => (Sl.v s).ownBlock = some g) w w') (hr : ERow w' B 91 10 encM (Sl.v s) xs) : AL w' B hb f X CD (fun j => if j = i then xs else CS j) := by
  have hm : ∀ g, (Sl.v s).ownBlock = some g → LVf (X 2) g := fun g hg => ⟨s, List.mem_of_getElem? hs, hg⟩
  exact ⟨h.hr.off o fun g hg p => h.nrow (Or.inr (hm g p)) hg, h.ld.off o fun g hg p => h.dsne hg (hm g p), h.ls.upd hs o hr, h.nb⟩
/-- The rows by their cells. -/
theorem HR.at_ {ρ : Nat → Nat} {es : List Bo.Ent} (h : HR w B hb f ρ es X) {q : Nat} (hq : q < 4) : ∃ a c, f q = .slice a (X q).length c ∧ w.cell? ⟨hb, q, none⟩ = some (.slice a (X q).length c) ∧ ∀ i s, (X q)[i]? = some s → ∃ g, a = some ⟨g, 0, none⟩ ∧ w.cell? ⟨g, i, none⟩ = some (.slice s.1 s.2.1 s.2.2) := by
  have hr := h.row q hq
  obtain ⟨a, c, e, _⟩ := ERow.isSlice hr
  refine ⟨a, c, e, (h.cell hq).trans (by rw [e]), fun i s hs => ?_⟩
  rw [e] at hr
  obtain ⟨g, ha, _, hc⟩ := ERow.at_ encSl_len hr hs
  refine ⟨g, ha, ?_⟩
  have := hc 0 (by decide)
  rw [Nat.mul_one, Nat.add_zero] at this
  exact this
end
/-- A list of lists that were grown: in memory of its own, each with its marks. -/
structure GL {α : Type} (w : World) (N B : Nat) (le e : TypeId) (k : Nat) (enc : α → List Value) (mk : Nat → α) (v : Value) (gs : List Sl) : Prop where
  row : ERow w N le 1 encSl v gs
  el : ∀ (i : Nat) (s : Sl), gs[i]? = some s → ERow w B e k enc (Sl.v s) (List.replicate s.2.1 (mk i))
section
variable {α : Type} {w w' : World} {N B k : Nat} {le e : TypeId} {enc : α → List Value} {mk : Nat → α} {v : Value} {gs : List Sl} {P : Nat → Prop}
theorem GL.off (h : GL w N B le e k enc mk v gs) (o : Off P w w') (h1 : ∀ g, v.ownBlock = some g → ¬ P g) (h2 : ∀ g, LVf gs g → ¬ P g) : GL w' N B le e k enc mk v gs :=
  ⟨ERow.off h.row o h1, fun i s hs => ERow.off (h.el i s hs) o fun g hg => h2 g ⟨s, List.mem_of_getElem? hs, hg⟩⟩
theorem GL.at_ (h : GL w N B le e k enc mk v gs) : ∃ a c, v = .slice a gs.length c ∧ ∀ i s, gs[i]? = some s → ∃ g, a = some ⟨g, 0, none⟩ ∧ w.cell? ⟨g, i, none⟩ = some (.slice s.1 s.2.1 s.2.2) := by
  obtain ⟨a, c, e, _⟩ := ERow.isSlice h.row
  refine ⟨a, c, e, fun i s hs => ?_⟩
  have hr := h.row
  rw [e] at hr
  obtain ⟨g, ha, _, hc⟩ := ERow.at_ encSl_len hr hs
  refine ⟨g, ha, ?_⟩
  have := hc 0 (by decide)
  rw [Nat.mul_one, Nat.add_zero] at this
  exact this
end
/-- An element of marks, by its cell. -/
theorem mark_at {α : Type} {w : World} {B k : Nat} {e : TypeId} {enc : α → List Value} (hk : ∀ x, (enc x).length = k) {s : Sl} {m : α} (h : ERow w B e k enc (Sl.v s) (List.replicate s.2.1 m)) {j : Nat} (hj : j < s.2.1) : ∃ g, s.1 = some ⟨g, 0, none⟩ ∧ ∀ o, o < k → w.cell? ⟨g, j * k + o, none⟩ = (enc m)[o]? := by
  obtain ⟨g, ha, _, hc⟩ := ERow.at_ hk h (j := j) (x := m) (by rw [List.getElem?_replicate, if_pos hj])
  exact ⟨g, ha, hc⟩
end Go.Proofs.YtoijhecphgdfnaaGreatDoor

/-
  Held.shows: each list has its own mark; Held is empty then.
-/
namespace Go.Proofs.YtoijhecphgdfnaaGreatDoor
open Go.RowKit

/-- What shows asks. -/
structure ShI (w : World) (B hb N : Nat) (f : Nat → Value) (X : Nat → List Sl) (v5 v6 : Value) (gD gS : List Sl) (ND NS : Nat) : Prop where
  hr : HR w B hb f (rho0 hb) [] X
  glD : GL w N B 77 105 3 encD mkD v5 gD
  glS : GL w N B 97 91 10 encM mkS v6 gS
  mD : ∀ (i : Nat) (s : Sl), (X 0)[i]? = some s → ERow w B 105 3 encD (Sl.v s) (List.replicate s.2.1 (mkD i))
  mS : ∀ (i : Nat) (s : Sl), (X 2)[i]? = some s → ERow w B 91 10 encM (Sl.v s) (List.replicate s.2.1 (mkS i))
  nD : (X 0).length = ND
  nS : (X 2).length = NS
  lD : gD.length = (X 0).length
  lS : gS.length = (X 2).length
  bD : ∀ (i : Nat) (s : Sl), gD[i]? = some s → s.2.1 ≤ 2000000000
  bS : ∀ (i : Nat) (s : Sl), gS[i]? = some s → s.2.1 ≤ 2000000000
theorem rows_nil {w : World} {B hb : Nat} {f : Nat → Value} {X : Nat → List Sl} (h : HR w B hb f (rho0 hb) [] X) : HR ((((w.setCell ⟨hb, 0, none⟩ (.slice none 0 0)).setCell ⟨hb, 1, none⟩ (.slice none 0 0)).setCell ⟨hb, 2, none⟩ (.slice none 0 0)).setCell ⟨hb, 3, none⟩ (.slice none 0 0)) B hb (fun k => if k = 3 then .slice none 0 0 else if k = 2 then .slice none 0 0 else if k = 1 then .slice none 0 0 else if k = 0 then .slice none 0 0 else f k) (rho0 hb) [] (fun _ => []) := by
  obtain ⟨vb, vw, hk⟩ := h.bk
  have e : ∀ q, q < 4 → (if q = 3 then Value.slice none 0 0 else if q = 2 then .slice none 0 0 else if q = 1 then .slice none 0 0 else if q = 0 then .slice none 0 0 else f q) = .slice none 0 0 := fun q hq => by
    rcases q with _ | _ | _ | _ | q
    · rfl
    · rfl
    · rfl
    · rfl
    · omega
  refine ⟨⟨vb, vw, bk_cell (bk_cell (bk_cell (bk_cell hk (by decide : 0 < 4) _) (by decide : 1 < 4) _) (by decide : 2 < 4) _) (by decide : 3 < 4) _⟩, fun q hq => ?_, fun i j g hi hj hij hg => ?_, fun q g hq hg => ?_, h.lo⟩
  · rw [e q hq]; exact ERow.nil _ _ _ _ _
  · rw [e i hi] at hg; cases hg
  · rw [e q hq] at hg; cases hg
section
variable {w : World} {B hb N : Nat} {f : Nat → Value} {X : Nat → List Sl} {v5 v6 : Value} {gD gS : List Sl} {ND NS : Nat}
set_option maxRecDepth 100000 in
set_option maxHeartbeats 16000000 in
theorem shows_s (h : ShI w B hb N f X v5 v6 gD gS ND NS) (hND : ND ≤ 1000000000) (hNS : NS ≤ 1000000000) :
    Calls Tryz.prog 41 #[.pointer (some ⟨hb, 0, none⟩), v5, v6] w fun e w' => e = .returned (.bool true) ∧ Hid ((∃ f', HR w' B hb f' (rho0 hb) [] (fun _ => []) ∧ ∀ q, q < 4 → f' q = .slice none 0 0) ∧ Off (fun g => g = hb) w w') := by
  have HH : Hid (ShI w B hb N f X v5 v6 gD gS ND NS) := h
  have hNDi : (ND : Int) ≤ 1000000000 := by omega
  have hNSi : (NS : Int) ≤ 1000000000 := by omega
  obtain ⟨aD, cD, _, k0D, hAD⟩ := h.hr.at_ (q := 0) (by decide)
  obtain ⟨aS, cS, _, k0S, hAS⟩ := h.hr.at_ (q := 2) (by decide)
  obtain ⟨vD, uD, eD, hVD⟩ := h.glD.at_
  obtain ⟨vS, uS, eS, hVS⟩ := h.glS.at_
  rw [h.nD] at k0D
  rw [h.nS] at k0S
  rw [h.lD, h.nD] at eD
  rw [h.lS, h.nS] at eS
  subst eD
  subst eS
  have HAD : Hid (True ∧ ∀ i s, (X 0)[i]? = some s → ∃ g, aD = some ⟨g, 0, none⟩ ∧ w.cell? ⟨g, i, none⟩ = some (.slice s.1 s.2.1 s.2.2)) := ⟨trivial, hAD⟩
  have HAS : Hid (True ∧ ∀ i s, (X 2)[i]? = some s → ∃ g, aS = some ⟨g, 0, none⟩ ∧ w.cell? ⟨g, i, none⟩ = some (.slice s.1 s.2.1 s.2.2)) := ⟨trivial, hAS⟩
  have HVD : Hid (∀ i s, gD[i]? = some s → ∃ g, vD = some ⟨g, 0, none⟩ ∧ w.cell? ⟨g, i, none⟩ = some (.slice s.1 s.2.1 s.2.2)) := hVD
  have HVS : Hid (∀ i s, gS[i]? = some s → ∃ g, vS = some ⟨g, 0, none⟩ ∧ w.cell? ⟨g, i, none⟩ = some (.slice s.1 s.2.1 s.2.2)) := hVS
  have k1D := h.hr.cell (q := 1) (by decide)
  have k1S := h.hr.cell (q := 3) (by decide)
  have f0 := h.hr.free 0
  have f1 := h.hr.free 1
  have f2 := h.hr.free 2
  have f3 := h.hr.free 3
  clear h hAD hAS hVD hVS hND hNS
  go_enter Tryz.func41, Tryz.ntmps41
  go_upto_region 2 with fail
  go_loopw [6, 7] (fun u t wx => u = .bool false ∧ ∃ i : Nat, i ≤ ND ∧ t = .int .i64 i ∧ wx = w) (fun _ t _ => ND - (intOf t).toNat)
  case atStart => exact ⟨rfl, 0, Nat.zero_le _, rfl, rfl⟩
  case round =>
  obtain ⟨rfl, i, hi, rfl, hwr⟩ := hrel
  rw [hwr]
  clear hwr
  by_cases hlt : i < ND
  · have hlt1 : (i : Int) < ND := by omega
    obtain ⟨s, hs⟩ : ∃ s, (X 0)[i]? = some s := ⟨_, List.getElem?_eq_getElem (by have := HH.out.nD; omega)⟩
    obtain ⟨l, hl⟩ : ∃ l, gD[i]? = some l := ⟨_, List.getElem?_eq_getElem (by have := HH.out.nD; have := HH.out.lD; omega)⟩
    obtain ⟨gr, ha, k1⟩ := HAD.out.2 i s hs
    obtain ⟨gv, hb2, k2⟩ := HVD.out i l hl
    rw [ha] at k0D
    subst hb2
    have hlb := HH.out.bD i l hl
    have hln : (l.2.1 : Int) ≤ 2000000000 := by omega
    go_upto_region 5 with fail
    go_loopw [6, 8] (fun u t wx => u = .bool false ∧ ∃ j : Nat, j ≤ l.2.1 ∧ t = .int .i64 j ∧ wx = w) (fun _ t _ => l.2.1 - (intOf t).toNat)
    case atStart => exact ⟨rfl, 0, Nat.zero_le _, rfl, rfl⟩
    case round =>
    obtain ⟨rfl, j, hj, rfl, hwr⟩ := hrel
    rw [hwr]
    clear hwr
    by_cases hjt : j < l.2.1
    · have hjt1 : (j : Int) < l.2.1 := by omega
      obtain ⟨ge, he, hc⟩ := mark_at encD_len (HH.out.glD.el i l hl) hjt
      have k3 : w.cell? ⟨ge, j * 3 + 1, none⟩ = some (.int .i64 (-1 - (i : Int))) := hc 1 (by decide)
      rw [he] at k2
      by_cases hjs : j < s.2.1
      · have hjs1 : (j : Int) < s.2.1 := by omega
        obtain ⟨gf, hf, hd⟩ := mark_at encD_len (HH.out.mD i s hs) hjs
        have k4 : w.cell? ⟨gf, j * 3 + 1, none⟩ = some (.int .i64 (-1 - (i : Int))) := hd 1 (by decide)
        rw [hf] at k1
        clear hc hd hs hl
        go_wp2_with fail
        go_roundw
        case rel => exact ⟨rfl, j + 1, hjt, by go_num, trivial⟩
        case measure => simp [intOf]; omega
      · have hjs1 : ¬ (j : Int) < s.2.1 := by omega
        clear hc hs hl
        go_wp2_with fail
        go_roundw
        case rel => exact ⟨rfl, j + 1, hjt, by go_num, trivial⟩
        case measure => simp [intOf]; omega
    · have hjt1 : ¬ (j : Int) < l.2.1 := by omega
      clear hs hl
      go_wp2_with fail
      go_roundw
      case rel => exact ⟨rfl, i + 1, hlt, by go_num, trivial⟩
      case measure => simp [intOf]; omega
  have hltD : ¬ (i : Int) < ND := by omega
  obtain rfl : i = ND := by omega
  go_upto_region 10 with fail
  go_loopw [6, 9] (fun u t wx => u = .bool false ∧ ∃ i : Nat, i ≤ NS ∧ t = .int .i64 i ∧ wx = w) (fun _ t _ => NS - (intOf t).toNat)
  case atStart => exact ⟨rfl, 0, Nat.zero_le _, rfl, rfl⟩
  case round =>
  obtain ⟨rfl, i, hi, rfl, hwr⟩ := hrel
  rw [hwr]
  clear hwr
  by_cases hlt : i < NS
  · have hlt1 : (i : Int) < NS := by omega
    obtain ⟨s, hs⟩ : ∃ s, (X 2)[i]? = some s := ⟨_, List.getElem?_eq_getElem (by have := HH.out.nS; omega)⟩
    obtain ⟨l, hl⟩ : ∃ l, gS[i]? = some l := ⟨_, List.getElem?_eq_getElem (by have := HH.out.nS; have := HH.out.lS; omega)⟩
    obtain ⟨gr, ha, k1⟩ := HAS.out.2 i s hs
    obtain ⟨gv, hb2, k2⟩ := HVS.out i l hl
    rw [ha] at k0S
    subst hb2
    have hlb := HH.out.bS i l hl
    have hln : (l.2.1 : Int) ≤ 2000000000 := by omega
    go_upto_region 13 with fail
    go_loopw [6, 10] (fun u t wx => u = .bool false ∧ ∃ j : Nat, j ≤ l.2.1 ∧ t = .int .i64 j ∧ wx = w) (fun _ t _ => l.2.1 - (intOf t).toNat)
    case atStart => exact ⟨rfl, 0, Nat.zero_le _, rfl, rfl⟩
    case round =>
    obtain ⟨rfl, j, hj, rfl, hwr⟩ := hrel
    rw [hwr]
    clear hwr
    by_cases hjt : j < l.2.1
    · have hjt1 : (j : Int) < l.2.1 := by omega
      obtain ⟨ge, he, hc⟩ := mark_at encM_len (HH.out.glS.el i l hl) hjt
      have k3 : w.cell? ⟨ge, j * 10 + 5, none⟩ = some (.int .i64 (-1 - (i : Int))) := hc 5 (by decide)
      rw [he] at k2
      by_cases hjs : j < s.2.1
      · have hjs1 : (j : Int) < s.2.1 := by omega
        obtain ⟨gf, hf, hd⟩ := mark_at encM_len (HH.out.mS i s hs) hjs
        have k4 : w.cell? ⟨gf, j * 10 + 5, none⟩ = some (.int .i64 (-1 - (i : Int))) := hd 5 (by decide)
        rw [hf] at k1
        clear hc hd hs hl
        go_wp2_with fail
        go_roundw
        case rel => exact ⟨rfl, j + 1, hjt, by go_num, trivial⟩
        case measure => simp [intOf]; omega
      · have hjs1 : ¬ (j : Int) < s.2.1 := by omega
        clear hc hs hl
        go_wp2_with fail
        go_roundw
        case rel => exact ⟨rfl, j + 1, hjt, by go_num, trivial⟩
        case measure => simp [intOf]; omega
    · have hjt1 : ¬ (j : Int) < l.2.1 := by omega
      clear hs hl
      go_wp2_with fail
      go_roundw
      case rel => exact ⟨rfl, i + 1, hlt, by go_num, trivial⟩
      case measure => simp [intOf]; omega
  have hltS : ¬ (i : Int) < NS := by omega
  obtain rfl : i = NS := by omega
  have HE : Hid ((∃ f', HR ((((w.setCell ⟨hb, 0, none⟩ (.slice none 0 0)).setCell ⟨hb, 1, none⟩ (.slice none 0 0)).setCell ⟨hb, 2, none⟩ (.slice none 0 0)).setCell ⟨hb, 3, none⟩ (.slice none 0 0)) B hb f' (rho0 hb) [] (fun _ => []) ∧ ∀ q, q < 4 → f' q = .slice none 0 0) ∧ Off (fun g => g = hb) w ((((w.setCell ⟨hb, 0, none⟩ (.slice none 0 0)).setCell ⟨hb, 1, none⟩ (.slice none 0 0)).setCell ⟨hb, 2, none⟩ (.slice none 0 0)).setCell ⟨hb, 3, none⟩ (.slice none 0 0))) :=
    ⟨⟨_, rows_nil HH.out.hr, fun q hq => by
      rcases q with _ | _ | _ | _ | q
      · rfl
      · rfl
      · rfl
      · rfl
      · omega⟩, ((((Off.refl (fun g => g = hb) w).setCell (p := ⟨hb, 0, none⟩) rfl _).setCell (p := ⟨hb, 1, none⟩) rfl _).setCell (p := ⟨hb, 2, none⟩) rfl _).setCell (p := ⟨hb, 3, none⟩) rfl _⟩
  go_wp2_with fail
  go_ret
  exact ⟨rfl, HE⟩
end
end Go.Proofs.YtoijhecphgdfnaaGreatDoor
