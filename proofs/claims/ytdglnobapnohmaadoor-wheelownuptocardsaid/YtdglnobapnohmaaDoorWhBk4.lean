import Derived.Test.YtdglnobapnohmaaDoorWhNum
import Derived.Test.YtdglnobapnohmaaDoorWhRem
/-
  The law's own book of lists: rows of pairs, what is shown.
-/
namespace Go.Proofs.YtdglnobapnohmaaDoor
open Go.RowKit

theorem run_append_k2 {P : Program} (w : World) (base : Nat) (t ty e : TypeId) (i : TypeInfo) (z : Value) (size bytes : Nat) (ht : P.underlying t = some (.slice e)) (hi : P.info? e = some i) (hz : i.zero = some z)
    (hsize : i.size = size) (hby : i.bytes = bytes) (hzs : z.cells.size = size)
    (v : Value) (n : Nat) (xs : List Value) (hown : w.ownsRow base e size v n xs)
    (a : Option Addr) (m c : Nat) (news : List Value) (hl : news.length = m * size) (ha : a = none → m = 0) (hnews : ∀ a', a = some a' → ∀ j u, news[j]? = some u → w.cell? (a'.add j) = some u) (h1 : ∀ u ∈ news, u.oneCell' = true) (hm : 0 < m)
    (h63 : n + m ≤ maxLen) (hbytes : ((n + m) + (n + m) / 4 + 192) * bytes ≤ 281474976710656) (hbase : base ≤ w.heap.size) :
    ∃ v' w', (Builtin.append_ #[t, t] ty #[v, .slice a m c]).run P w = .ok v' w' ∧ w'.ownsRow base e size v' (n + m) (xs ++ news) ∧ Off (fun k => v.ownBlock = some k) w w' ∧ ((∃ g cap, v = .slice (some ⟨g, 0, none⟩) n cap ∧ v' = .slice (some ⟨g, 0, none⟩) (n + m) cap) ∨ (v'.ownBlock = some w.heap.size ∧ Below w.heap.size w w')) := by
  subst hsize
  subst hby
  have hsmall : n + m ≤ 9223372036854775807 := by simp only [maxLen] at h63; omega
  have hlen : (xs ++ news).length = (n + m) * i.size := by rw [List.length_append, hown.1, hl, Nat.add_mul]
  obtain ⟨a', rfl⟩ : ∃ a', a = some a' := by
    cases a with
    | none => have := ha rfl; omega
    | some a' => exact ⟨a', rfl⟩
  have hnews' := hnews a' rfl
  have grown : ∀ (old : Nat), old < n + m →
      (w.drew.alloc (.cells (xs.toArray ++ news.toArray ++ Builtin.zeroCells z.cells (grownCap w (n + m) old e - (n + m))) e)).ownsRow base e i.size
        (.slice (some ⟨w.heap.size, 0, none⟩) (n + m) (grownCap w (n + m) old e)) (n + m) (xs ++ news) ∧
      Below w.heap.size w (w.drew.alloc (.cells (xs.toArray ++ news.toArray ++ Builtin.zeroCells z.cells (grownCap w (n + m) old e - (n + m))) e)) := by
    intro old ho
    have hge := grownCap_ge w (n + m) old e
    have hcm : grownCap w (n + m) old e ≤ maxLen := grownCap_le_maxLen w (n + m) old e h63
    refine ⟨⟨hlen, .inr ⟨w.heap.size, _, _, rfl, hbase, heap_alloc_new w.drew _, hge, hcm, ?_, ?_⟩⟩, ⟨rfl, rfl, rfl, by simp, fun k hk => Below.heap_alloc w.drew _ k hk⟩⟩
    · simp only [Array.size_append, List.size_toArray, size_zeroCells, hzs, hown.1, hl, ← Nat.add_mul]
      congr 1
      omega
    · simp only [Array.toList_append, List.append_assoc]
      rw [← List.append_assoc, ← hlen]
      exact List.take_left
  rcases hown.2 with ⟨rfl, rfl⟩ | ⟨g, cap, cur, rfl, hbg, hg, hnc, hcm, hcs, htake⟩
  · have hx : xs = [] := List.eq_nil_of_length_eq_zero (by simpa using hown.1)
    subst hx
    have hr := run_append_nil (P := P) w t ty e i z ht hi hz a' m c news hl hnews' (by omega) (by omega) (by have hb := hbytes; simp only [Nat.zero_add] at hb; exact Nat.le_trans (Nat.mul_le_mul_right _ (by omega)) hb)
    have hgr := grown 0 (by omega)
    simp only [Nat.zero_add, List.nil_append, Array.empty_append] at hgr ⊢
    exact ⟨_, _, hr, hgr.1, Off.of_below hgr.2, Or.inr ⟨rfl, hgr.2⟩⟩
  · by_cases hroom : n + m ≤ cap
    · have hfit : n * i.size + news.length ≤ cur.size := by rw [hl, hcs, ← Nat.add_mul]; exact Nat.mul_le_mul_right _ hroom
      have hr := run_append_room (P := P) w t ty e i ht hi g n cap cur hg a' m c news hl hnews' h1 hroom hfit
      refine ⟨_, _, hr, ⟨hlen, .inr ⟨g, cap, _, rfl, hbg, setRow_heap w g cur _ e _ hg, hroom, hcm, ?_, ?_⟩⟩, Off.of_grown (row := some g) ⟨rfl, rfl, rfl, by simp, fun k _ hk => setRow_other w g k _ (fun e => hk (by simp [e]))⟩, Or.inl ⟨g, cap, rfl, rfl⟩⟩
      · simp only [List.size_toArray, List.length_append, List.length_take, List.length_drop, Array.length_toList]
        omega
      · rw [htake, ← hlen]
        exact List.take_left
    · have holds : ∀ j u, xs[j]? = some u → w.cell? ((⟨g, 0, none⟩ : Addr).add j) = some u := hown.cells (g := g) rfl
      have hr := run_append_grow (P := P) w t ty e i z ht hi hz ⟨g, 0, none⟩ n cap xs hown.1 holds a' m c news hl hnews' (by omega) (by omega) (growslice_fits_wide (by omega) hbytes)
      have hgr := grown cap (by omega)
      exact ⟨_, _, hr, hgr.1, Off.of_below hgr.2, Or.inr ⟨rfl, hgr.2⟩⟩

/-! ### rows of pairs: the program's timers, whatever stands in them -/
def encP (x : Int × Int) : List Value := [.int .i64 x.1, .int .i64 x.2]
theorem encP_len (x : Int × Int) : (encP x).length = 2 := rfl
theorem encP_one (x : Int × Int) : ∀ u ∈ encP x, u.oneCell' = true := fun u hu => by
  simp only [encP, List.mem_cons, List.not_mem_nil, or_false] at hu
  rcases hu with rfl | rfl <;> rfl
abbrev PRow (w : World) (B : Nat) (v : Value) (xs : List (Int × Int)) : Prop := ERow w B 68 2 encP v xs
def tmP (x : Tm) : Int × Int := (x.1, (x.2 : Int))
theorem TRow.pairs {w : World} {B : Nat} {v : Value} {xs : List Tm} (h : TRow w B v xs) : PRow w B v (xs.map tmP) := by
  unfold PRow ERow
  rw [List.length_map, List.flatMap_map]
  exact h
theorem PRow.setAt {w : World} {B g n c j : Nat} {xs : List (Int × Int)} (h : PRow w B (.slice (some ⟨g, 0, none⟩) n c) xs) (x : Int × Int) (hj : j < xs.length) : PRow (w.setCells g (j * 2) (encP x)) B (.slice (some ⟨g, 0, none⟩) n c) (xs.set j x) ∧ Off (fun q => q = g) w (w.setCells g (j * 2) (encP x)) := by
  have hn := h.len
  rcases h.2 with ⟨h0, _⟩ | ⟨g', cap', cur, e, hB, hg, hc, hM, hs, ht⟩
  · cases h0
  simp only [Value.slice.injEq, Option.some.injEq, Addr.mk.injEq, and_true] at e
  obtain ⟨rfl, hnn, rfl⟩ := e
  show PRow (w.setCells g (j * 2) [.int .i64 x.1, .int .i64 x.2]) _ _ _ ∧ Off _ _ (w.setCells g (j * 2) [.int .i64 x.1, .int .i64 x.2])
  rw [setCells2]
  have h1 := heap_set (j := j * 2) (u := .int .i64 x.1) hg
  have h2 := heap_set (j := j * 2 + 1) (u := .int .i64 x.2) h1
  have hcs : xs.length * 2 ≤ cur.size := by rw [hs]; exact Nat.mul_le_mul_right 2 hc
  refine ⟨⟨by rw [flat_len encP_len, List.length_set], Or.inr ⟨g, c, _, by rw [List.length_set, hn], hB, h2, by rw [List.length_set]; exact hc, hM, by simpa using hs, ?_⟩⟩, (((Off.refl (fun q => q = g) w).setCell (p := ⟨g, j * 2, none⟩) rfl _).setCell (p := ⟨g, j * 2 + 1, none⟩) rfl _)⟩
  rw [List.length_set]
  refine List.ext_getElem? fun q => ?_
  rw [List.getElem?_take]
  have hfl : ((xs.set j x).flatMap encP).length = xs.length * 2 := by rw [flat_len encP_len, List.length_set]
  split
  · rename_i hq
    obtain ⟨y, hy⟩ : ∃ y, (xs.set j x)[q / 2]? = some y := ⟨_, List.getElem?_eq_getElem (by rw [List.length_set]; omega)⟩
    have hgt := flat_get encP_len _ _ y (q % 2) hy (by omega)
    rw [show q / 2 * 2 + q % 2 = q by omega] at hgt
    rw [hgt, Array.getElem?_toList]
    by_cases e : q / 2 = j
    · subst e
      rw [List.getElem?_set_self hj] at hy
      cases hy
      rcases (by omega : q % 2 = 0 ∨ q % 2 = 1) with r | r
      · rw [r, Array.getElem?_setIfInBounds_ne (by omega), show q / 2 * 2 = q by omega, Array.getElem?_setIfInBounds_self, if_pos (by omega)]
        rfl
      · rw [r, show q / 2 * 2 + 1 = q by omega, Array.getElem?_setIfInBounds_self, if_pos (by simp; omega)]
        rfl
    · rw [List.getElem?_set_ne (fun e' => e e'.symm)] at hy
      rw [Array.getElem?_setIfInBounds_ne (by omega), Array.getElem?_setIfInBounds_ne (by omega)]
      have hgt2 := flat_get encP_len _ _ y (q % 2) hy (by omega)
      rw [show q / 2 * 2 + q % 2 = q by omega, ← ht, List.getElem?_take, if_pos hq, Array.getElem?_toList] at hgt2
      exact hgt2
  · rename_i hq
    rw [List.getElem?_eq_none (by rw [hfl]; omega)]
/-- The first i written over. -/
def fillP (i : Nat) (m : Int) (ps : List (Int × Int)) : List (Int × Int) := List.replicate i (m, m) ++ ps.drop i
theorem fill_zero (m : Int) (ps : List (Int × Int)) : fillP 0 m ps = ps := by simp [fillP]
theorem fill_len {i : Nat} {m : Int} {ps : List (Int × Int)} (h : i ≤ ps.length) : (fillP i m ps).length = ps.length := by simp [fillP]; omega
theorem fill_set {i : Nat} {m : Int} {ps : List (Int × Int)} (h : i < ps.length) : (fillP i m ps).set i (m, m) = fillP (i + 1) m ps := by
  unfold fillP
  rw [List.set_append_right _ _ (by simp), List.length_replicate, Nat.sub_self, List.drop_eq_getElem_cons h, List.set_cons_zero, List.replicate_succ', List.append_assoc]
  rfl
theorem fill_all {i : Nat} {m : Int} {ps : List (Int × Int)} (h : ps.length ≤ i) (hi : i ≤ ps.length) : fillP i m ps = List.replicate ps.length (m, m) := by
  unfold fillP
  rw [List.drop_eq_nil_of_le h, List.append_nil, Nat.le_antisymm hi h]
theorem PRow.prefix {w : World} {B g N n cap : Nat} {mm : Int × Int} (h : PRow w B (.slice (some ⟨g, 0, none⟩) N cap) (List.replicate N mm)) (hn : n ≤ N) : PRow w B (.slice (some ⟨g, 0, none⟩) n cap) (List.replicate n mm) := by
  rcases h.2 with ⟨h0, _⟩ | ⟨g', cap', cur, e, hB, hg, hc, hM, hs, ht⟩
  · cases h0
  simp only [Value.slice.injEq, Option.some.injEq, Addr.mk.injEq, and_true, List.length_replicate] at e
  obtain ⟨rfl, _, rfl⟩ := e
  rw [List.length_replicate] at hc ht
  refine ⟨by rw [flat_len encP_len, List.length_replicate], Or.inr ⟨g, cap, cur, by rw [List.length_replicate], hB, hg, by rw [List.length_replicate]; omega, hM, hs, ?_⟩⟩
  rw [List.length_replicate]
  have h1 : (cur.toList.take (N * 2)).take (n * 2) = cur.toList.take (n * 2) := by rw [List.take_take, Nat.min_eq_left (by omega)]
  rw [← h1, ht, show N = n + (N - n) by omega, ← List.replicate_append_replicate, List.flatMap_append, List.take_left' (by rw [flat_len encP_len, List.length_replicate])]
theorem celP : Cel Tryd.prog 68 2 16 := cel_of (by kernel_rfl)
/-- append of one pair, told in full. -/
theorem run_ppush {w : World} {B n c : Nat} {a : Option Addr} {xs : List (Int × Int)} (h : PRow w B (.slice a n c) xs) (x : Int × Int) (hl : xs.length ≤ 1000000) (hB : B ≤ w.heap.size) :
    ∃ a' c' w', (Builtin.append_ #[49, 49] 49 #[.slice a n c, .slice (some ⟨w.heap.size, 0, none⟩) 1 1]).run Tryd.prog (w.alloc (.cells #[.int .i64 x.1, .int .i64 x.2] 68)) = .ok (.slice a' (n + 1) c') w' ∧ PRow w' B (.slice a' (n + 1) c') (xs ++ [x]) ∧ ((a' = a ∧ c' = c ∧ (∃ g, a = some ⟨g, 0, none⟩) ∧ Off (fun q => (Value.slice a n c).ownBlock = some q) w w') ∨ ((Value.slice a' (n + 1) c').ownBlock = some (w.heap.size + 1) ∧ Below w.heap.size w w')) := by
  have hn := h.len
  have b1 := (Below.refl w.heap.size w).alloc (Nat.le_refl _) (.cells #[.int .i64 x.1, .int .i64 x.2] 68)
  have h1 : PRow (w.alloc (.cells #[.int .i64 x.1, .int .i64 x.2] 68)) B (.slice a n c) xs := h.below b1
  obtain ⟨i, z, hi, hz, hzs, hs, hby⟩ := celP
  obtain ⟨v', w', hr, r, o, l⟩ := run_append_k2 (P := Tryd.prog) (w.alloc (.cells #[.int .i64 x.1, .int .i64 x.2] 68)) B 49 49 68 i z 2 16 Tryd.underlying49 hi hz hs hby hzs (.slice a n c) xs.length (xs.flatMap encP) h1 (some ⟨w.heap.size, 0, none⟩) 1 1 (encP x) rfl (fun e => by cases e) (fun a' ea j u hu => by
    cases ea
    rw [show (⟨w.heap.size, 0, none⟩ : Addr).add j = ⟨w.heap.size, j, none⟩ by rw [Addr.add_lit, Nat.zero_add], cell_new]
    simpa [encP] using hu) (encP_one x) (by omega) (by unfold maxLen; omega) (Nat.le_trans (Nat.mul_le_mul_right 16 (show _ ≤ 2000000 by omega)) (by decide)) (by simp; omega)
  have hR : PRow w' B v' (xs ++ [x]) := by
    unfold PRow ERow
    rw [List.length_append, List.flatMap_append]
    exact (show xs.flatMap encP ++ [x].flatMap encP = xs.flatMap encP ++ encP x by simp) ▸ r
  obtain ⟨a', c', e1, _⟩ := hR.isSlice
  rw [List.length_append, ← hn] at e1
  simp only [List.length_singleton] at e1
  subst e1
  refine ⟨a', c', w', hr, hR, ?_⟩
  rcases l with ⟨g, cap, e1, e2⟩ | ⟨l1, l2⟩
  · simp only [Value.slice.injEq] at e1 e2
    refine Or.inl ⟨by rw [e1.1, e2.1], by rw [e1.2.2, e2.2.2], ⟨g, e1.1⟩, (Off.of_below b1).trans o⟩
  · rw [World.size_alloc] at l1 l2
    exact Or.inr ⟨l1, b1.trans (l2.mono (by omega))⟩
end Go.Proofs.YtdglnobapnohmaaDoor

/-
  The law's own book: its state, its look at all lists.
-/
namespace Go.Proofs.YtdglnobapnohmaaDoor
open Go.RowKit

/-- A list of the book: where it lies, and what is written in it. -/
structure LsE where
  a : Option Addr
  n : Nat
  c : Nat
  m : Int
def encL (x : LsE) : List Value := [.slice x.a x.n x.c]
theorem encL_len (x : LsE) : (encL x).length = 1 := rfl
theorem encL_one (x : LsE) : ∀ u ∈ encL x, u.oneCell' = true := fun u hu => by
  simp only [encL, List.mem_cons, List.not_mem_nil, or_false] at hu
  rcases hu with rfl; rfl
def encK (x : LsE) : List Value := [.int .i64 x.m]
theorem encK_len (x : LsE) : (encK x).length = 1 := rfl
theorem encK_one (x : LsE) : ∀ u ∈ encK x, u.oneCell' = true := fun u hu => by
  simp only [encK, List.mem_cons, List.not_mem_nil, or_false] at hu
  rcases hu with rfl; rfl
abbrev LRow (w : World) (B : Nat) (v : Value) (xs : List LsE) : Prop := ERow w B 49 1 encL v xs
abbrev KRow (w : World) (B : Nat) (v : Value) (xs : List LsE) : Prop := ERow w B 3 1 encK v xs
theorem celL : Cel Tryd.prog 49 1 24 := cel_of (by kernel_rfl)
theorem celK : Cel Tryd.prog 3 1 8 := cel_of (by kernel_rfl)
/-- It shows what is written. -/
def Shw (X : World) (B : Nat) (x : LsE) : Prop := x.n ≤ 5000 ∧ PRow X B (.slice x.a x.n x.c) (List.replicate x.n (x.m, x.m))
structure BkD (X : World) (kb : Nat) (va vm : Value) (ls : List LsE) : Prop where
  box : X.heap[kb]? = some (.cells #[va, vm] 40 (0, 0))
  la : LRow X (kb + 1) va ls
  ma : KRow X (kb + 1) vm ls
  sh : ∀ x ∈ ls, Shw X (kb + 1) x
/-- The book's blocks. -/
def BG (kb : Nat) (va vm : Value) (ls : List LsE) (q : Nat) : Prop := q = kb ∨ va.ownBlock = some q ∨ vm.ownBlock = some q ∨ ∃ x ∈ ls, (Value.slice x.a x.n x.c).ownBlock = some q
section
variable {X Y : World} {kb : Nat} {va vm : Value} {ls : List LsE}
theorem BkD.cell (h : BkD X kb va vm ls) (o : Nat) : X.cell? ⟨kb, o, none⟩ = (#[va, vm] : Array Value)[o]? := by
  unfold World.cell?
  rw [h.box]
  rfl
theorem BkD.free (h : BkD X kb va vm ls) (o : Nat) : X.frozen? ⟨kb, o, none⟩ = false := by
  simp [World.frozen?, h.box]
theorem BkD.lt (h : BkD X kb va vm ls) {q : Nat} (hq : BG kb va vm ls q) : kb ≤ q ∧ q < X.heap.size := by
  rcases hq with rfl | hq | hq | ⟨x, hx, hq⟩
  · exact ⟨Nat.le_refl _, blk_lt h.box⟩
  · have := h.la.lt hq; exact ⟨by omega, this.2⟩
  · have := h.ma.lt hq; exact ⟨by omega, this.2⟩
  · have := (h.sh x hx).2.lt hq; exact ⟨by omega, this.2⟩
theorem BkD.off {P : Nat → Prop} (h : BkD X kb va vm ls) (o : Off P X Y) (hP : ∀ q, BG kb va vm ls q → ¬ P q) : BkD Y kb va vm ls :=
  ⟨(o.block kb (blk_lt h.box) (hP kb (Or.inl rfl))).trans h.box, ERow.off h.la o fun g hg => hP g (Or.inr (Or.inl hg)), ERow.off h.ma o fun g hg => hP g (Or.inr (Or.inr (Or.inl hg))), fun x hx => ⟨(h.sh x hx).1, ERow.off (h.sh x hx).2 o fun g hg => hP g (Or.inr (Or.inr (Or.inr ⟨x, hx, hg⟩)))⟩⟩
theorem BkD.below (h : BkD X kb va vm ls) (hb : Below X.heap.size X Y) : BkD Y kb va vm ls := h.off (Off.of_below (P := fun _ => False) hb) (fun _ _ => id)
/-- None of the book's blocks is one of the document's rows. -/
theorem BkD.nrow (h : BkD X kb va vm ls) {B : Nat} {v : Value} {xs : List Tm} (hr : RRow X B v xs) {q : Nat} (hq : BG kb va vm ls q) : v.ownBlock ≠ some q := fun e => by
  rcases hq with rfl | hq | hq | ⟨x, hx, hq⟩
  · rcases hr.2 with ⟨rfl, _⟩ | ⟨g, cap, cur, rfl, _, hg, _⟩
    · cases e
    simp only [Value.ownBlock, Option.some.injEq] at e
    subst e
    have := h.box
    rw [hg] at this
    simp only [Option.some.injEq, Obj.cells.injEq] at this
    exact absurd this.2.1 (by decide)
  · exact own_ne h.la hr (by decide) q hq e
  · exact own_ne h.ma hr (by decide) q hq e
  · exact own_ne (h.sh x hx).2 hr (by decide) q hq e
set_option maxRecDepth 100000 in
set_option maxHeartbeats 2000000 in
theorem still_true (h : BkD X kb va vm ls) (hl : ls.length ≤ 100000000) : Calls Tryd.prog 9 #[.pointer (some ⟨kb, 0, none⟩)] X fun e w' => e = .returned (.bool true) ∧ ∃ q, w' = X.drewN q := by
  obtain ⟨La, Lc, rfl, _⟩ := h.la.isSlice
  obtain ⟨Ma, Mc, rfl, _⟩ := h.ma.isSlice
  obtain ⟨N, hN⟩ : ∃ q, ls.length = q := ⟨_, rfl⟩
  rw [hN] at h hl
  have cr := h.cell
  have hNi : (N : Int) ≤ 100000000 := by omega
  have HB : Hid (BkD X kb (.slice La N Lc) (.slice Ma N Mc) ls ∧ ls.length = N) := ⟨h, hN⟩
  clear h hN hl
  go_enter Tryd.func9, Tryd.ntmps9
  go_wp2_with fail
  go_loopw [3, 4] (fun t3 _ wx => ∃ (i q : Nat), i ≤ N ∧ t3 = .int .i64 (i : Int) ∧ wx = X.drewN q) (fun t3 _ _ => N - (intOf t3).toNat)
  case atStart => exact ⟨0, 0, Nat.zero_le _, rfl, rfl⟩
  case round =>
    obtain ⟨i, q, hi, rfl, hw⟩ := hrel
    subst wr
    by_cases hlt : i < N
    · have hlt1 : (i : Int) < N := by omega
      obtain ⟨x, hx⟩ : ∃ x, ls[i]? = some x := ⟨_, List.getElem?_eq_getElem (by have := HB.out.2; omega)⟩
      obtain ⟨g, rfl, hg, hcg⟩ := HB.out.1.la.at_ encL_len hx
      obtain ⟨g', rfl, hg', hcg'⟩ := HB.out.1.ma.at_ encK_len hx
      have c0 : X.cell? ⟨g, i, none⟩ = some (.slice x.a x.n x.c) := by have := hcg 0 (by omega); rw [Nat.mul_one] at this; exact this
      have c1 : X.cell? ⟨g', i, none⟩ = some (.int .i64 x.m) := by have := hcg' 0 (by omega); rw [Nat.mul_one] at this; exact this
      have HS : Hid (Shw X (kb + 1) x) := HB.out.1.sh x (List.mem_of_getElem? hx)
      obtain ⟨xa, xn, xc, m⟩ := x
      have hxn : (xn : Int) ≤ 5000 := by have := HS.out.1; simp only at this; omega
      simp only at c0 c1
      clear hcg hcg' hx hg hg'
      go_wp2_with fail
      go_loopw [4] (fun t4 wx => ∃ (j q : Nat), j ≤ xn ∧ t4 = .int .i64 (j : Int) ∧ wx = X.drewN q) (fun t4 _ => xn - (intOf t4).toNat)
      case atStart => exact ⟨0, q, Nat.zero_le _, rfl, rfl⟩
      case round =>
        obtain ⟨j, q1, hj, rfl, hw⟩ := hrel
        subst wr
        by_cases hjt : j < xn
        · have hjt1 : (j : Int) < xn := by omega
          obtain ⟨b, rfl, hb, hcb⟩ := HS.out.2.at_ encP_len (j := j) (x := (m, m)) (by simp only [List.getElem?_replicate]; rw [if_pos hjt])
          have d0 : X.cell? ⟨b, j * 2, none⟩ = some (.int .i64 m) := hcb 0 (by omega)
          have d1 : X.cell? ⟨b, j * 2 + 1, none⟩ = some (.int .i64 m) := hcb 1 (by omega)
          clear hcb hb
          go_wp2_with fail
          go_quiet (fail)
          go_wp2_with fail
          go_roundw
          case rel => exact ⟨j + 1, _, hjt, by go_num, rfl⟩
          case measure => simp [intOf]; omega
        · have hjt1 : ¬ (j : Int) < xn := by omega
          go_wp2_with fail
          go_roundw
          case rel => exact ⟨i + 1, _, hlt, by go_num, rfl⟩
          case measure => simp [intOf]; omega
    · have hlt1 : ¬ (i : Int) < N := by omega
      go_wp2_with fail
      go_ret
      exact ⟨rfl, q, rfl⟩
end
end Go.Proofs.YtdglnobapnohmaaDoor

/-
  The law's own book: growing, appends.
-/
namespace Go.Proofs.YtdglnobapnohmaaDoor
open Go.RowKit

/-- append of two. -/
theorem run_etwo {P : Program} {α : Type} {w : World} {B k : Nat} {e : TypeId} {enc : α → List Value} {v : Value} {xs : List α} {t : TypeId} {bytes : Nat} (ht : P.underlying t = some (.slice e)) (ho : Cel P e k bytes) (hk : ∀ x, (enc x).length = k) (hone : ∀ x, ∀ u ∈ enc x, u.oneCell' = true) (h : ERow w B e k enc v xs) (x y : α) (cs : Array Value) (hcs : cs = (enc x ++ enc y).toArray) (hl : xs.length + 2 ≤ 1000000000) (hb : bytes ≤ 1000) (hB : B ≤ w.heap.size) :
    ∃ a' c' w', (Builtin.append_ #[t, t] t #[v, .slice (some ⟨w.heap.size, 0, none⟩) 2 2]).run P (w.alloc (.cells cs e)) = .ok (.slice a' (xs.length + 2) c') w' ∧ ERow w' B e k enc (.slice a' (xs.length + 2) c') (xs ++ [x, y]) ∧ Off (fun q => v.ownBlock = some q) w w' ∧ ((Value.slice a' (xs.length + 2) c').ownBlock = v.ownBlock ∨ (Value.slice a' (xs.length + 2) c').ownBlock = some (w.heap.size + 1)) := by
  subst hcs
  have hrow : ERow (w.alloc (.cells (enc x ++ enc y).toArray e)) B e k enc v xs := h.below ((Below.refl w.heap.size w).alloc (Nat.le_refl _) _)
  obtain ⟨a', c', w', hr, r, o, l⟩ := run_eapp (P := P) ht ho hk hone hrow (ys := [x, y]) (n := 2) (a := some ⟨w.heap.size, 0, none⟩) (c := 2) rfl (fun e => by cases e) (fun a' ea j u hu => by
    cases ea
    rw [show (⟨w.heap.size, 0, none⟩ : Addr).add j = ⟨w.heap.size, j, none⟩ by rw [Addr.add_lit, Nat.zero_add], cell_new]
    simpa using hu) hl hb (by simp; omega)
  refine ⟨a', c', w', hr, r, (Off.alloc (Off.refl _ w) _).trans o, ?_⟩
  rw [World.size_alloc] at l
  exact l
/-- Growing: the list as it was, and what it has grown to. -/
structure GrI (X : World) (B : Nat) (a : Option Addr) (n c : Nat) (m : Int) (ag : Option Addr) (ng cg : Nat) (wx : World) : Prop where
  l : PRow wx B (.slice a n c) (List.replicate n (m, m))
  g : PRow wx B (.slice ag ng cg) (List.replicate ng (m, m))
  o : Off (fun q => (Value.slice a n c).ownBlock = some q) X wx
  b : (ag = a ∧ cg = c) ∨ ∃ q, (Value.slice ag ng cg).ownBlock = some q ∧ X.heap.size ≤ q
  e : ∀ q, (Value.slice a n c).ownBlock = some q → q < X.heap.size
  le : n ≤ ng
theorem GrI.push {X wx : World} {B : Nat} {a : Option Addr} {n c : Nat} {m : Int} {ag : Option Addr} {ng cg : Nat} (h : GrI X B a n c m ag ng cg wx) (hn : ng ≤ 1000000) (hB : B ≤ X.heap.size) :
    ∃ a' c' w', (Builtin.append_ #[49, 49] 49 #[.slice ag ng cg, .slice (some ⟨wx.heap.size, 0, none⟩) 1 1]).run Tryd.prog (wx.alloc (.cells #[.int .i64 m, .int .i64 m] 68)) = .ok (.slice a' (ng + 1) c') w' ∧ Hid (GrI X B a n c m a' (ng + 1) c' w') := by
  obtain ⟨a', c', w', hr, r, ho⟩ := run_ppush h.g (m, m) (by rw [List.length_replicate]; exact hn) (Nat.le_trans hB h.o.size)
  have hR : PRow w' B (.slice a' (ng + 1) c') (List.replicate (ng + 1) (m, m)) := by rw [List.replicate_succ']; exact r
  refine ⟨a', c', w', hr, ?_⟩
  rcases ho with ⟨rfl, rfl, ⟨g, hg⟩, o⟩ | ⟨hf, hb⟩
  · rcases h.b with ⟨rfl, rfl⟩ | ⟨q, hq, hqX⟩
    · subst hg
      exact ⟨PRow.prefix hR (by have := h.le; omega), hR, h.o.trans o, Or.inl ⟨rfl, rfl⟩, h.e, by have := h.le; omega⟩
    · have hne : ∀ p, (Value.slice a n c).ownBlock = some p → ¬ (Value.slice a' ng c').ownBlock = some p := fun p hp e => by
        rw [hq] at e
        have := h.e p hp
        injection e with e
        omega
      refine ⟨ERow.off h.l o hne, hR, h.o.join o (fun i hi e => ?_), Or.inr ⟨q, ?_, hqX⟩, h.e, by have := h.le; omega⟩
      · have e' : q = i := Option.some.inj (hq.symm.trans e)
        omega
      · rw [hg] at hq ⊢
        exact hq
  · refine ⟨ERow.below h.l hb, hR, h.o.trans (Off.of_below hb), Or.inr ⟨_, hf, by have := h.o.size; omega⟩, h.e, by have := h.le; omega⟩
/-- Both appends of take, and both stores. -/
theorem BkD.push {w : World} {kb N : Nat} {La Ma : Option Addr} {Lc Mc : Nat} {ls : List LsE} (h : BkD w kb (.slice La N Lc) (.slice Ma N Mc) ls) (hN : ls.length = N) (x y : LsE) (hx : Shw w (kb + 1) x) (hy : Shw w (kb + 1) y) (hl : N ≤ 100000000) :
    ∃ (La2 : Option Addr) (Lc2 : Nat) (W1 : World) (Ma2 : Option Addr) (Mc2 : Nat) (W3 : World),
      (Builtin.append_ #[37, 37] 37 #[.slice La N Lc, .slice (some ⟨w.heap.size, 0, none⟩) 2 2]).run Tryd.prog (w.alloc (.cells #[.slice x.a x.n x.c, .slice y.a y.n y.c] 49)) = .ok (.slice La2 (N + 2) Lc2) W1 ∧
      (∀ o, W1.cell? ⟨kb, o, none⟩ = (#[.slice La N Lc, .slice Ma N Mc] : Array Value)[o]?) ∧ (∀ o, W1.frozen? ⟨kb, o, none⟩ = false) ∧
      (∀ o, (W1.setCell ⟨kb, 0, none⟩ (.slice La2 (N + 2) Lc2)).cell? ⟨kb, o, none⟩ = (#[.slice La2 (N + 2) Lc2, .slice Ma N Mc] : Array Value)[o]?) ∧
      (Builtin.append_ #[38, 38] 38 #[.slice Ma N Mc, .slice (some ⟨(W1.setCell ⟨kb, 0, none⟩ (.slice La2 (N + 2) Lc2)).heap.size, 0, none⟩) 2 2]).run Tryd.prog ((W1.setCell ⟨kb, 0, none⟩ (.slice La2 (N + 2) Lc2)).alloc (.cells #[.int .i64 x.m, .int .i64 y.m] 3)) = .ok (.slice Ma2 (N + 2) Mc2) W3 ∧
      (∀ o, W3.cell? ⟨kb, o, none⟩ = (#[.slice La2 (N + 2) Lc2, .slice Ma N Mc] : Array Value)[o]?) ∧ (∀ o, W3.frozen? ⟨kb, o, none⟩ = false) ∧
      Hid (BkD (W3.setCell ⟨kb, 1, none⟩ (.slice Ma2 (N + 2) Mc2)) kb (.slice La2 (N + 2) Lc2) (.slice Ma2 (N + 2) Mc2) (ls ++ [x, y]) ∧
        Off (BG kb (.slice La N Lc) (.slice Ma N Mc) ls) w (W3.setCell ⟨kb, 1, none⟩ (.slice Ma2 (N + 2) Mc2)) ∧
        ∀ q, BG kb (.slice La2 (N + 2) Lc2) (.slice Ma2 (N + 2) Mc2) (ls ++ [x, y]) q → BG kb (.slice La N Lc) (.slice Ma N Mc) ls q ∨ (Value.slice x.a x.n x.c).ownBlock = some q ∨ (Value.slice y.a y.n y.c).ownBlock = some q ∨ w.heap.size ≤ q) := by
  have hkl := blk_lt h.box
  obtain ⟨La2, Lc2, W1, hap1, r1, o1, l1⟩ := run_etwo (P := Tryd.prog) (t := 37) Tryd.underlying37 celL encL_len encL_one h.la x y #[.slice x.a x.n x.c, .slice y.a y.n y.c] rfl (by omega) (by omega) (by omega)
  rw [hN] at hap1 r1 l1
  have k1 : ¬ (Value.slice La N Lc).ownBlock = some kb := fun e => by have := (h.la.lt e).1; omega
  have bx1 : W1.heap[kb]? = some (.cells #[.slice La N Lc, .slice Ma N Mc] 40 (0, 0)) := (o1.block kb hkl k1).trans h.box
  have m1 : KRow W1 (kb + 1) (.slice Ma N Mc) ls := ERow.off h.ma o1 (fun g hg e => own_ne h.ma h.la (by decide) g hg e)
  have s1 : ∀ z, Shw w (kb + 1) z → Shw W1 (kb + 1) z := fun z hz => ⟨hz.1, ERow.off hz.2 o1 (fun g hg e => own_ne hz.2 h.la (by decide) g hg e)⟩
  have bx2 : (W1.setCell ⟨kb, 0, none⟩ (.slice La2 (N + 2) Lc2)).heap[kb]? = some (.cells #[.slice La2 (N + 2) Lc2, .slice Ma N Mc] 40 (0, 0)) := heap_set bx1
  have ro2 : ∀ {α : Type} {e : TypeId} {k : Nat} {enc : α → List Value} {v : Value} {xs : List α}, ERow W1 (kb + 1) e k enc v xs → ERow (W1.setCell ⟨kb, 0, none⟩ (.slice La2 (N + 2) Lc2)) (kb + 1) e k enc v xs := fun hr => ERow.keep hr fun g hg => heap_set_ne (by have := (ERow.lt hr hg).1; omega)
  have hsz2 : w.heap.size ≤ (W1.setCell ⟨kb, 0, none⟩ (.slice La2 (N + 2) Lc2)).heap.size := by have := o1.size; simpa using this
  obtain ⟨Ma2, Mc2, W3, hap2, r3, o3, l3⟩ := run_etwo (P := Tryd.prog) (t := 38) Tryd.underlying38 celK encK_len encK_one (ro2 m1) x y #[.int .i64 x.m, .int .i64 y.m] rfl (by omega) (by omega) (by omega)
  rw [hN] at hap2 r3 l3
  have k3 : ¬ (Value.slice Ma N Mc).ownBlock = some kb := fun e => by have := (h.ma.lt e).1; omega
  have bx3 : W3.heap[kb]? = some (.cells #[.slice La2 (N + 2) Lc2, .slice Ma N Mc] 40 (0, 0)) := (o3.block kb (by omega) k3).trans bx2
  have r13 : LRow W3 (kb + 1) (.slice La2 (N + 2) Lc2) (ls ++ [x, y]) := ERow.off (ro2 r1) o3 (fun g hg e => own_ne (ro2 r1) (ro2 m1) (by decide) g hg e)
  have s3 : ∀ z, Shw w (kb + 1) z → Shw W3 (kb + 1) z := fun z hz => ⟨hz.1, ERow.off (ro2 (s1 z hz).2) o3 (fun g hg e => own_ne (ro2 (s1 z hz).2) (ro2 m1) (by decide) g hg e)⟩
  have ro4 : ∀ {α : Type} {e : TypeId} {k : Nat} {enc : α → List Value} {v : Value} {xs : List α}, ERow W3 (kb + 1) e k enc v xs → ERow (W3.setCell ⟨kb, 1, none⟩ (.slice Ma2 (N + 2) Mc2)) (kb + 1) e k enc v xs := fun hr => ERow.keep hr fun g hg => heap_set_ne (by have := (ERow.lt hr hg).1; omega)
  have cl : ∀ {W : World} {u v : Value}, W.heap[kb]? = some (.cells #[u, v] 40 (0, 0)) → (∀ o, W.cell? ⟨kb, o, none⟩ = (#[u, v] : Array Value)[o]?) ∧ ∀ o, W.frozen? ⟨kb, o, none⟩ = false := fun {W u v} hb => ⟨fun o => by unfold World.cell?; rw [hb]; rfl, fun o => by simp [World.frozen?, hb]⟩
  refine ⟨La2, Lc2, W1, Ma2, Mc2, W3, hap1, (cl bx1).1, (cl bx1).2, (cl bx2).1, hap2, (cl bx3).1, (cl bx3).2, ⟨heap_set bx3, ro4 r13, ro4 r3, fun z hz => ?_⟩, ?_, fun q hq => ?_⟩
  · have hz' : Shw w (kb + 1) z := by
      rcases List.mem_append.1 hz with hz | hz
      · exact h.sh z hz
      · simp only [List.mem_cons, List.not_mem_nil, or_false] at hz
        rcases hz with rfl | rfl
        · exact hx
        · exact hy
    exact ⟨hz'.1, ro4 (s3 z hz').2⟩
  · have p1 : Off (BG kb (.slice La N Lc) (.slice Ma N Mc) ls) w W1 := o1.mono fun q e => Or.inr (Or.inl e)
    have p2 : Off (BG kb (.slice La N Lc) (.slice Ma N Mc) ls) w (W1.setCell ⟨kb, 0, none⟩ (.slice La2 (N + 2) Lc2)) := p1.setCell (p := ⟨kb, 0, none⟩) (Or.inl rfl) _
    have p3 : Off (BG kb (.slice La N Lc) (.slice Ma N Mc) ls) w W3 := p2.trans (o3.mono fun q e => Or.inr (Or.inr (Or.inl e)))
    exact p3.setCell (p := ⟨kb, 1, none⟩) (Or.inl rfl) _
  · rcases hq with hq | hq | hq | ⟨z, hz, hq⟩
    · exact Or.inl (Or.inl hq)
    · rcases l1 with e | e
      · rw [e] at hq; exact Or.inl (Or.inr (Or.inl hq))
      · rw [e] at hq
        injection hq with hq
        exact Or.inr (Or.inr (Or.inr (by omega)))
    · rcases l3 with e | e
      · rw [e] at hq; exact Or.inl (Or.inr (Or.inr (Or.inl hq)))
      · rw [e] at hq
        injection hq with hq
        exact Or.inr (Or.inr (Or.inr (by omega)))
    · rcases List.mem_append.1 hz with hz | hz
      · exact Or.inl (Or.inr (Or.inr (Or.inr ⟨z, hz, hq⟩)))
      · simp only [List.mem_cons, List.not_mem_nil, or_false] at hz
        rcases hz with rfl | rfl
        · exact Or.inr (Or.inl hq)
        · exact Or.inr (Or.inr (Or.inl hq))
end Go.Proofs.YtdglnobapnohmaaDoor

/-
  The law's own book: a list is taken.
-/
namespace Go.Proofs.YtdglnobapnohmaaDoor
open Go.RowKit

/-- How take leaves the book. -/
def TkQ (X : World) (kb : Nat) (va vm : Value) (ls : List LsE) (lv : Value) (w' : World) : Prop :=
  ∃ va' vm' ls', BkD w' kb va' vm' ls' ∧ ls'.length = ls.length + 2 ∧ Off (fun q => BG kb va vm ls q ∨ lv.ownBlock = some q) X w' ∧ ∀ q, BG kb va' vm' ls' q → BG kb va vm ls q ∨ lv.ownBlock = some q ∨ X.heap.size ≤ q
section
variable {X : World} {kb : Nat} {va vm : Value} {ls : List LsE}
set_option maxRecDepth 100000 in
set_option maxHeartbeats 4000000 in
theorem take_any (h : BkD X kb va vm ls) (hl : ls.length ≤ 100000000) {a : Option Addr} {n c : Nat} {xs : List Tm} (ht : TRow X (kb + 1) (.slice a n c) xs) (hxl : xs.length ≤ 4096) (hd : ∀ q, (Value.slice a n c).ownBlock = some q → ¬ BG kb va vm ls q) :
    Calls Tryd.prog 19 #[.pointer (some ⟨kb, 0, none⟩), .slice a n c] X fun e w' => e = .returned (.tuple #[]) ∧ TkQ X kb va vm ls (.slice a n c) w' := by
  obtain ⟨La, Lc, rfl, _⟩ := h.la.isSlice
  obtain ⟨Ma, Mc, rfl, _⟩ := h.ma.isSlice
  obtain ⟨N, hN⟩ : ∃ q, ls.length = q := ⟨_, rfl⟩
  rw [hN] at h hl hd ⊢
  have hn := ht.len
  have cr := h.cell
  have hNi : (N : Int) ≤ 100000000 := by omega
  have hni : (n : Int) ≤ 4096 := by omega
  have HB : Hid (BkD X kb (.slice La N Lc) (.slice Ma N Mc) ls ∧ ls.length = N ∧ (∀ q, (Value.slice a n c).ownBlock = some q → ¬ BG kb (.slice La N Lc) (.slice Ma N Mc) ls q) ∧ kb + 1 ≤ X.heap.size) := ⟨h, hN, hd, blk_lt h.box⟩
  have HP : Hid (PRow X (kb + 1) (.slice a n c) (xs.map tmP) ∧ (xs.map tmP).length = n) := ⟨ht.pairs, by rw [List.length_map, hn]⟩
  generalize xs.map tmP = ps at HP
  clear h hN hl hd ht hn hxl
  go_enter Tryd.func19, Tryd.ntmps19
  go_wp2_with fail
  obtain ⟨m, hm⟩ : ∃ m : Int, -1000 - (N : Int) = m := ⟨_, rfl⟩
  rw [hm]
  clear hm
  have HE : Hid (∀ q, (Value.slice a n c).ownBlock = some q → q < X.heap.size) := fun q hq => (HP.out.1.lt hq).2
  go_loopw [5] (fun t5 wx => ∃ i : Nat, i ≤ n ∧ t5 = .int .i64 (i : Int) ∧ Hid (PRow wx (kb + 1) (.slice a n c) (fillP i m ps) ∧ Off (fun q => (Value.slice a n c).ownBlock = some q) X wx)) (fun t5 _ => n - (intOf t5).toNat)
  case atStart => exact ⟨0, Nat.zero_le _, rfl, by rw [fill_zero]; exact HP.out.1, Off.refl _ _⟩
  case round =>
    obtain ⟨i, hi, rfl, HJ⟩ := hrel
    by_cases hlt : i < n
    · have hlt1 : (i : Int) < n := by omega
      have hfl : (fillP i m ps).length = n := by rw [fill_len (by have := HP.out.2; omega)]; exact HP.out.2
      obtain ⟨x, hx⟩ : ∃ x, (fillP i m ps)[i]? = some x := ⟨_, List.getElem?_eq_getElem (by omega)⟩
      obtain ⟨g, rfl, hg, hcg⟩ := HJ.out.1.at_ encP_len hx
      have c0 : wr.cell? ⟨g, i * 2, none⟩ = some (.int .i64 x.1) := hcg 0 (by omega)
      have c1 : wr.cell? ⟨g, i * 2 + 1, none⟩ = some (.int .i64 x.2) := hcg 1 (by omega)
      have f0 := HJ.out.1.thaw
      have HN : Hid (PRow ((wr.setCell ⟨g, i * 2, none⟩ (.int .i64 m)).setCell ⟨g, i * 2 + 1, none⟩ (.int .i64 m)) (kb + 1) (.slice (some ⟨g, 0, none⟩) n c) (fillP (i + 1) m ps) ∧ Off (fun q => (Value.slice (some ⟨g, 0, none⟩) n c).ownBlock = some q) X ((wr.setCell ⟨g, i * 2, none⟩ (.int .i64 m)).setCell ⟨g, i * 2 + 1, none⟩ (.int .i64 m))) := by
        have h1 := PRow.setAt HJ.out.1 (m, m) (j := i) (by omega)
        rw [fill_set (by have := HP.out.2; omega)] at h1
        exact ⟨h1.1, HJ.out.2.trans (h1.2.mono fun k e => by rw [e]; rfl)⟩
      clear hcg hx hfl hg HJ
      go_wp2_with fail
      go_roundw
      case rel => exact ⟨i + 1, hlt, by go_num, HN.out⟩
      case measure => simp [intOf]; omega
    · have hlt1 : ¬ (i : Int) < n := by omega
      have HG : Hid (GrI X (kb + 1) a n c m a n c wr) := by
        have h1 := HJ.out.1
        rw [fill_all (by have := HP.out.2; omega) (by have := HP.out.2; omega), HP.out.2] at h1
        exact ⟨h1, h1, HJ.out.2, Or.inl ⟨rfl, rfl⟩, HE.out, Nat.le_refl _⟩
      clear HJ
      go_wp2_with fail
      go_loopw [6, 7] (fun t6 t7 wx => ∃ (j : Nat) (ag : Option Addr) (cg : Nat), j ≤ 70 ∧ t7 = .int .i64 (j : Int) ∧ t6 = .slice ag (n + j) cg ∧ Hid (GrI X (kb + 1) a n c m ag (n + j) cg wx)) (fun _ t7 _ => 70 - (intOf t7).toNat)
      case atStart => exact ⟨0, a, c, by omega, rfl, rfl, HG.out⟩
      case round =>
        obtain ⟨j, ag, cg, hj, rfl, rfl, HK⟩ := hrel
        clear HG
        by_cases hjt : j < 70
        · have hjt1 : (j : Int) < 70 := by omega
          obtain ⟨ng, hng⟩ : ∃ q, n + j = q := ⟨_, rfl⟩
          rw [hng] at HK ⊢
          obtain ⟨a2, c2, W1, hap, HG1⟩ := HK.out.push (by omega) HB.out.2.2.2
          have HG2 : Hid (GrI X (kb + 1) a n c m a2 (n + (j + 1)) c2 W1) := by rw [show n + (j + 1) = ng + 1 by omega]; exact HG1.out
          have hn2 : n + (j + 1) = ng + 1 := by omega
          clear HK hng HG1
          have HN2 : Hid (n + (j + 1) = ng + 1) := hn2
          clear hn2
          go_wp2_with (at_builtin; refine wpList_append_run rfl (.tmp 31) (.tmp 35) 49 _ rfl hap ?_)
          go_roundw
          case rel => exact ⟨j + 1, a2, c2, by omega, by go_num, by rw [HN2.out], HG2.out⟩
          case measure => simp [intOf]; omega
        · have hjt1 : ¬ (j : Int) < 70 := by omega
          obtain rfl : j = 70 := by omega
          obtain ⟨ng, hng⟩ : ∃ q, n + 70 = q := ⟨_, rfl⟩
          rw [hng] at HK ⊢
          have HN2 : Hid (n + 70 = ng ∧ n ≤ 4096) := ⟨hng, by omega⟩
          have HW : Hid (BkD wr kb (.slice La N Lc) (.slice Ma N Mc) ls) := HB.out.1.off HK.out.o (fun q hq e => HB.out.2.2.1 q e hq)
          obtain ⟨La2, Lc2, W1, Ma2, Mc2, W3, hap1, d1, e1, d2, hap2, d3, e3, HZ⟩ := HW.out.push HB.out.2.1 ⟨a, n, c, m⟩ ⟨ag, ng, cg, m⟩ ⟨by simp only; omega, HK.out.l⟩ ⟨by simp only; omega, HK.out.g⟩ (by omega)
          have d0 := HW.out.cell
          have e0 := HW.out.free
          simp only [World.size_setCell] at hap1 hap2
          have HQ : Hid (TkQ X kb (.slice La N Lc) (.slice Ma N Mc) ls (.slice a n c) (W3.setCell ⟨kb, 1, none⟩ (.slice Ma2 (N + 2) Mc2))) := by
            obtain ⟨hb, ho, hg⟩ := HZ.out
            refine ⟨_, _, _, hb, by rw [List.length_append]; rfl, (HK.out.o.mono fun q e => Or.inr e).trans (ho.mono fun q e => Or.inl e), fun q hq => ?_⟩
            have hsz := HK.out.o.size
            rcases hg q hq with g | g | g | g
            · exact Or.inl g
            · exact Or.inr (Or.inl g)
            · rcases HK.out.b with ⟨b1, b2⟩ | ⟨p, hp, hpX⟩
              · subst b1 b2
                refine Or.inr (Or.inl ?_)
                cases ag with
                | none => cases g
                | some ad => exact g
              · have : p = q := Option.some.inj (hp.symm.trans g)
                exact Or.inr (Or.inr (by omega))
            · exact Or.inr (Or.inr (by omega))
          clear HK hng HW HZ HB HP HE
          go_wp2_with (at_builtin; first | (refine wpList_append_run rfl (.tmp 41) (.tmp 44) 37 _ rfl hap1 ?_; clear hap1) | refine wpList_append_run rfl (.tmp 52) (.tmp 55) 38 _ rfl hap2 ?_)
          go_end0
          exact ⟨rfl, HQ.out⟩
end
end Go.Proofs.YtdglnobapnohmaaDoor
