/-
  DecideExact: lists that are held, each in memory of its own: blocks by their roles (1: the list of what is held; 2: the list of what has grown; 4 + 2 i: what the i-th list may lie in; 5 + 2 i: how it was).
-/
import Derived.Test.YtjmjimbhoncidaaDoorDcAsk
import Derived.Laws.OwnMore
import Derived.Deep.DeepAppendWide
namespace Go.Proofs.YtjmjimbhoncidaaDoor
open Go.RowKit

theorem rowAt {w w' : World} {B : Nat} {v : Value} {l : ActL} (h : ActRow w B v l) (hk : ∀ g, v.ownBlock = some g → w'.heap[g]? = w.heap[g]?) : ActRow w' B v l := by
  refine ⟨h.1, ?_⟩
  rcases h.2 with h | ⟨g, cap, cur, rfl, hbg, hg, r⟩
  · exact Or.inl h
  · exact Or.inr ⟨g, cap, cur, rfl, hbg, by rw [hk g rfl]; exact hg, r⟩
theorem ownAt {w w' : World} {B sz n : Nat} {t : TypeId} {v : Value} {l : List Value} (h : w.ownsRow B t sz v n l) (hk : ∀ g, v.ownBlock = some g → w'.heap[g]? = w.heap[g]?) : w'.ownsRow B t sz v n l := by
  refine ⟨h.1, ?_⟩
  rcases h.2 with h | ⟨g, cap, cur, rfl, hbg, hg, r⟩
  · exact Or.inl h
  · exact Or.inr ⟨g, cap, cur, rfl, hbg, by rw [hk g rfl]; exact hg, r⟩
def hcells (y : Value × Value) : List Value := [y.1, y.2]
theorem hflat_get : ∀ (xs : List (Value × Value)) (k : Nat) (x : Value × Value), xs[k]? = some x → (xs.flatMap hcells)[k * 2]? = some x.1 ∧ (xs.flatMap hcells)[k * 2 + 1]? = some x.2
  | [], k, x, h => by simp at h
  | y :: r, 0, x, h => by
    simp only [List.getElem?_cons_zero, Option.some.injEq] at h
    subst h
    rw [List.flatMap_cons]
    exact ⟨by simp [hcells], by simp [hcells]⟩
  | y :: r, k + 1, x, h => by
    rw [List.getElem?_cons_succ] at h
    obtain ⟨h1, h2⟩ := hflat_get r k x h
    rw [List.flatMap_cons]
    constructor
    · rw [List.getElem?_append_right (by simp [hcells]; omega), ← h1]
      congr 1
      simp [hcells]; omega
    · rw [List.getElem?_append_right (by simp [hcells]; omega), ← h2]
      congr 1
      simp [hcells]; omega
theorem hinfo : ∃ i z, Tryd.prog.info? 98 = some i ∧ i.zero = some z ∧ z.cells.size = 2 ∧ i.size = 2 ∧ i.bytes = 48 := by
  have h : (Tryd.prog.info? 98).map (fun i => (i.zero.map (fun z => z.cells.size), i.size, i.bytes)) = some (some 2, 2, 48) := by kernel_rfl
  obtain ⟨i, hi, e⟩ := Option.map_eq_some_iff.1 h
  simp only [Prod.mk.injEq] at e
  obtain ⟨z, hz, e1⟩ := Option.map_eq_some_iff.1 e.1
  exact ⟨i, z, hi, hz, e1, e.2.1, e.2.2⟩
/-- What is held: two slices each. -/
def HRow (w : World) (B : Nat) (v : Value) (hs : List (Value × Value)) : Prop := w.ownsRow B 98 2 v hs.length (hs.flatMap hcells)
theorem HRow.isSlice {w : World} {B : Nat} {v : Value} {hs : List (Value × Value)} (h : HRow w B v hs) : ∃ a c, v = .slice a hs.length c ∧ hs.length ≤ c := by
  rcases h.2 with ⟨rfl, h0⟩ | ⟨g, cap, cur, rfl, _, _, hc, _⟩
  · exact ⟨none, 0, by rw [h0], by omega⟩
  · exact ⟨_, _, rfl, hc⟩
theorem HRow.at {w : World} {B n c : Nat} {a : Option Addr} {hs : List (Value × Value)} (h : HRow w B (.slice a n c) hs) {k : Nat} {x : Value × Value} (hk : hs[k]? = some x) : ∃ g, a = some ⟨g, 0, none⟩ ∧ g < w.heap.size ∧ w.cell? ⟨g, k * 2, none⟩ = some x.1 ∧ w.cell? ⟨g, k * 2 + 1, none⟩ = some x.2 := by
  obtain ⟨h1, h2⟩ := hflat_get hs k x hk
  have hcl := fun g e => World.ownsRow.cells h (g := g) e
  have hlt := World.ownsRow.lt h
  rcases h.2 with ⟨e, h0⟩ | ⟨g, cap, cur, e, _⟩
  · have := List.getElem?_eq_none (l := hs) (i := k) (by omega); rw [this] at hk; cases hk
  · obtain ⟨rfl, -, -⟩ : a = some ⟨g, 0, none⟩ ∧ n = hs.length ∧ c = cap := by simpa using e
    have c0 := hcl g rfl _ _ h1
    have c1 := hcl g rfl _ _ h2
    rw [Addr.add_lit, Nat.zero_add] at c0 c1
    exact ⟨g, rfl, (hlt g rfl).2, c0, c1⟩
/-- append of something, told in full: in place, or in a new block. -/
theorem run_append_full {P : Program} (w : World) (base : Nat) (t ty e : TypeId) (i : TypeInfo) (z : Value) (size bytes : Nat) (ht : P.underlying t = some (.slice e)) (hi : P.info? e = some i) (hz : i.zero = some z)
    (hsize : i.size = size) (hby : i.bytes = bytes) (hzs : z.cells.size = size) (_hsz : 0 < size)
    (v : Value) (n : Nat) (xs : List Value) (hown : w.ownsRow base e size v n xs)
    (a : Addr) (m c : Nat) (news : List Value) (hl : news.length = m * size) (hnews : ∀ j u, news[j]? = some u → w.cell? (a.add j) = some u) (h1 : ∀ u ∈ news, u.oneCell' = true) (hm : 0 < m)
    (h63 : n + m ≤ maxLen) (hbytes : ((n + m) + (n + m) / 4 + 192) * bytes ≤ 281474976710656) (hbase : base ≤ w.heap.size) :
    ∃ v' w', (Builtin.append_ #[t, t] ty #[v, .slice (some a) m c]).run P w = .ok v' w' ∧ w'.ownsRow base e size v' (n + m) (xs ++ news) ∧
      ((∃ g cur cur', v.ownBlock = some g ∧ v'.ownBlock = some g ∧ w.grownBy w' (some g) ∧ w'.heap.size = w.heap.size ∧ w.heap[g]? = some (.cells cur e (0, 0)) ∧ w'.heap[g]? = some (.cells cur' e (0, 0)) ∧ cur'.size = cur.size ∧ cur'.toList.take (n * size) = cur.toList.take (n * size)) ∨ (v'.ownBlock = some w.heap.size ∧ w.grownBy w' none ∧ w'.heap.size = w.heap.size + 1)) := by
  subst hsize
  subst hby
  have hsmall : n + m ≤ 9223372036854775807 := by simp only [maxLen] at h63; omega
  have hlen : (xs ++ news).length = (n + m) * i.size := by rw [List.length_append, hown.1, hl, Nat.add_mul]
  have grown : ∀ (old : Nat), old < n + m →
      (w.drew.alloc (.cells (xs.toArray ++ news.toArray ++ Builtin.zeroCells z.cells (grownCap w (n + m) old e - (n + m))) e)).ownsRow base e i.size
        (.slice (some ⟨w.heap.size, 0, none⟩) (n + m) (grownCap w (n + m) old e)) (n + m) (xs ++ news) ∧
      w.grownBy (w.drew.alloc (.cells (xs.toArray ++ news.toArray ++ Builtin.zeroCells z.cells (grownCap w (n + m) old e - (n + m))) e)) none := by
    intro old ho
    have hge := grownCap_ge w (n + m) old e
    have hcm : grownCap w (n + m) old e ≤ maxLen := grownCap_le_maxLen w (n + m) old e h63
    refine ⟨⟨hlen, .inr ⟨w.heap.size, _, _, rfl, hbase, heap_alloc_new w.drew _, hge, hcm, ?_, ?_⟩⟩, ⟨rfl, rfl, rfl, by simp, fun k hk _ => Below.heap_alloc w.drew _ k hk⟩⟩
    · simp only [Array.size_append, List.size_toArray, size_zeroCells, hzs, hown.1, hl, ← Nat.add_mul]
      congr 1
      omega
    · simp only [Array.toList_append, List.append_assoc]
      rw [← List.append_assoc, ← hlen]
      exact List.take_left
  rcases hown.2 with ⟨rfl, rfl⟩ | ⟨g, cap, cur, rfl, hbg, hg, hnc, hcm, hcs, htake⟩
  · have hx : xs = [] := List.eq_nil_of_length_eq_zero (by simpa using hown.1)
    subst hx
    have hr := run_append_nil (P := P) w t ty e i z ht hi hz a m c news hl hnews (by omega) (by omega) (by have hb := hbytes; simp only [Nat.zero_add] at hb; exact Nat.le_trans (Nat.mul_le_mul_right _ (by omega)) hb)
    have hgr := grown 0 (by omega)
    simp only [Nat.zero_add, List.nil_append, Array.empty_append] at hgr ⊢
    exact ⟨_, _, hr, hgr.1, Or.inr ⟨rfl, hgr.2, by simp⟩⟩
  · by_cases hroom : n + m ≤ cap
    · have hfit : n * i.size + news.length ≤ cur.size := by rw [hl, hcs, ← Nat.add_mul]; exact Nat.mul_le_mul_right _ hroom
      have hr := run_append_room (P := P) w t ty e i ht hi g n cap cur hg a m c news hl hnews h1 hroom hfit
      refine ⟨_, _, hr, ⟨hlen, .inr ⟨g, cap, _, rfl, hbg, setRow_heap w g cur _ e _ hg, hroom, hcm, ?_, ?_⟩⟩, Or.inl ⟨g, cur, _, rfl, rfl, ⟨rfl, rfl, rfl, by simp, fun k _ hk => setRow_other w g k _ (fun e => hk (by simp [e]))⟩, by simp, hg, setRow_heap w g cur _ e _ hg, ?_, ?_⟩⟩
      · simp only [List.size_toArray, List.length_append, List.length_take, List.length_drop, Array.length_toList]
        omega
      · rw [htake, ← hlen]
        exact List.take_left
      · simp only [List.size_toArray, List.length_append, List.length_take, List.length_drop, Array.length_toList]
        omega
      · show (cur.toList.take (n * i.size) ++ news ++ cur.toList.drop (n * i.size + news.length)).take (n * i.size) = _
        rw [List.append_assoc, List.take_append_of_le_length (by rw [List.length_take, Array.length_toList]; omega), List.take_take, Nat.min_self]
    · have holds : ∀ j u, xs[j]? = some u → w.cell? ((⟨g, 0, none⟩ : Addr).add j) = some u := hown.cells (g := g) rfl
      have hr := run_append_grow (P := P) w t ty e i z ht hi hz ⟨g, 0, none⟩ n cap xs hown.1 holds a m c news hl hnews (by omega) (by omega) (growslice_fits_wide (by omega) hbytes)
      have hgr := grown cap (by omega)
      exact ⟨_, _, hr, hgr.1, Or.inr ⟨rfl, hgr.2, by simp⟩⟩
/-- How an append leaves memory: in place, or in a new block (N: how many blocks there were). -/
inductive PutAt (w w' : World) (v v' : Value) (N c : Nat) (e : TypeId) : Prop
  | same (g : Nat) (cur cur' : Array Value) (hv : v.ownBlock = some g) (hv' : v'.ownBlock = some g) (hg : w.grownBy w' (some g)) (hs : w'.heap.size = N) (h1 : w.heap[g]? = some (.cells cur e (0, 0))) (h2 : w'.heap[g]? = some (.cells cur' e (0, 0))) (h3 : cur'.size = cur.size) (h4 : cur'.toList.take c = cur.toList.take c) : PutAt w w' v v' N c e
  | fresh (hv' : v'.ownBlock = some N) (hg : w.grownBy w' none) (hs : w'.heap.size = N + 1) : PutAt w w' v v' N c e
set_option maxRecDepth 100000 in
theorem run_hpush {w : World} {B : Nat} {v : Value} {hs : List (Value × Value)} (h : HRow w B v hs) (hB : B ≤ w.heap.size) (hl : hs.length + 1 ≤ 4059735240901) (y : Value × Value) (h1 : y.1.oneCell' = true) (h2 : y.2.oneCell' = true) :
    ∃ a c w', (Builtin.append_ #[92, 92] 92 #[v, .slice (some ⟨w.heap.size, 0, none⟩) 1 1]).run Tryd.prog (w.alloc (.cells #[y.1, y.2] 98)) = .ok (.slice a (hs.length + 1) c) w' ∧ HRow w' B (.slice a (hs.length + 1) c) (hs ++ [y]) ∧ PutAt (w.alloc (.cells #[y.1, y.2] 98)) w' v (.slice a (hs.length + 1) c) (w.heap.size + 1) (hs.length * 2) 98 := by
  obtain ⟨i, z, hi, hz, hzs, hs2, hby⟩ := hinfo
  have hrow : HRow (w.alloc (.cells #[y.1, y.2] 98)) B v hs := World.ownsRow.alloc h _
  obtain ⟨v', w', hr, r, hp⟩ := run_append_full (P := Tryd.prog) (w.alloc (.cells #[y.1, y.2] 98)) B 92 92 98 i z 2 48 Tryd.underlying92 hi hz hs2 hby hzs (by omega) v hs.length (hs.flatMap hcells) hrow ⟨w.heap.size, 0, none⟩ 1 1 (hcells y) rfl (fun j u hu => by
      rw [show (⟨w.heap.size, 0, none⟩ : Addr).add j = ⟨w.heap.size, j, none⟩ by rw [Addr.add_lit, Nat.zero_add], cell_new]
      simpa [hcells] using hu) (fun u hu => by simp only [hcells, List.mem_cons, List.not_mem_nil, or_false] at hu; rcases hu with rfl | rfl <;> assumption) (by omega) (by unfold maxLen; omega) (by omega) (by simp; omega)
  have hR : HRow w' B v' (hs ++ [y]) := by
    unfold HRow
    simpa using r
  obtain ⟨a, c, rfl, _⟩ := hR.isSlice
  simp only [List.length_append, List.length_singleton] at hr hR hp
  refine ⟨a, c, w', hr, hR, ?_⟩
  rcases hp with ⟨g, cur, cur', e1, e2, e3, e4, e5, e6, e7, e8⟩ | ⟨e1, e2, e3⟩
  · exact .same g cur cur' e1 e2 e3 (by simpa using e4) e5 e6 e7 e8
  · exact .fresh (by simpa using e1) e2 (by simpa using e3)
/-- One more act, told in full. -/
theorem run_apush2 {w : World} {B : Nat} {v : Value} {xs : ActL} (h : ActRow w B v xs) (hB : B ≤ w.heap.size) (hl : xs.length + 1 ≤ 100) (y : Int × ByteArray) (cs : Array Value) (hcs : cs = (acells y).toArray) :
    ∃ a c w', (Builtin.append_ #[51, 51] 51 #[v, .slice (some ⟨w.heap.size, 0, none⟩) 1 1]).run Tryd.prog (w.alloc (.cells cs 85)) = .ok (.slice a (xs.length + 1) c) w' ∧ ActRow w' B (.slice a (xs.length + 1) c) (xs ++ [y]) ∧ PutAt (w.alloc (.cells cs 85)) w' v (.slice a (xs.length + 1) c) (w.heap.size + 1) (xs.length * 2) 85 := by
  subst hcs
  obtain ⟨i, z, hi, hz, hzs, hs, hby⟩ := actinfo
  have hrow : ActRow (w.alloc (.cells (acells y).toArray 85)) B v xs := World.ownsRow.alloc h _
  obtain ⟨v', w', hr, r, hp⟩ := run_append_full (P := Tryd.prog) (w.alloc (.cells (acells y).toArray 85)) B 51 51 85 i z 2 24 Tryd.underlying51 hi hz hs hby hzs (by omega) v xs.length (xs.flatMap acells) hrow ⟨w.heap.size, 0, none⟩ 1 1 (acells y) rfl (fun j u hu => by
      rw [show (⟨w.heap.size, 0, none⟩ : Addr).add j = ⟨w.heap.size, j, none⟩ by rw [Addr.add_lit, Nat.zero_add], cell_new]
      simpa using hu) (fun u hu => by simp only [acells, List.mem_cons, List.not_mem_nil, or_false] at hu; rcases hu with rfl | rfl <;> rfl) (by omega) (by unfold maxLen; omega) (by omega) (by simp; omega)
  have hR : ActRow w' B v' (xs ++ [y]) := by
    unfold ActRow
    simpa using r
  obtain ⟨a, c, rfl, _⟩ := hR.isSlice
  simp only [List.length_append, List.length_singleton] at hr hR hp
  refine ⟨a, c, w', hr, hR, ?_⟩
  rcases hp with ⟨g, cur, cur', e1, e2, e3, e4, e5, e6, e7, e8⟩ | ⟨e1, e2, e3⟩
  · exact .same g cur cur' e1 e2 e3 (by simpa using e4) e5 e6 e7 e8
  · exact .fresh (by simpa using e1) e2 (by simpa using e3)
theorem ginfo : ∃ i z, Tryd.prog.info? 51 = some i ∧ i.zero = some z ∧ z.cells.size = 1 ∧ i.size = 1 ∧ i.bytes = 24 := by
  have h : (Tryd.prog.info? 51).map (fun i => (i.zero.map (fun z => z.cells.size), i.size, i.bytes)) = some (some 1, 1, 24) := by kernel_rfl
  obtain ⟨i, hi, e⟩ := Option.map_eq_some_iff.1 h
  simp only [Prod.mk.injEq] at e
  obtain ⟨z, hz, e1⟩ := Option.map_eq_some_iff.1 e.1
  exact ⟨i, z, hi, hz, e1, e.2.1, e.2.2⟩
/-- What has grown: slices. -/
def GRow (w : World) (B : Nat) (v : Value) (gs : List Value) : Prop := w.ownsRow B 51 1 v gs.length gs
theorem GRow.isSlice {w : World} {B : Nat} {v : Value} {gs : List Value} (h : GRow w B v gs) : ∃ a c, v = .slice a gs.length c ∧ gs.length ≤ c := by
  rcases h.2 with ⟨rfl, h0⟩ | ⟨g, cap, cur, rfl, _, _, hc, _⟩
  · exact ⟨none, 0, by rw [h0], by omega⟩
  · exact ⟨_, _, rfl, hc⟩
theorem GRow.at {w : World} {B n c : Nat} {a : Option Addr} {gs : List Value} (h : GRow w B (.slice a n c) gs) {k : Nat} {x : Value} (hk : gs[k]? = some x) : ∃ g, a = some ⟨g, 0, none⟩ ∧ g < w.heap.size ∧ w.cell? ⟨g, k, none⟩ = some x := by
  have hcl := fun g e => World.ownsRow.cells h (g := g) e
  have hlt := World.ownsRow.lt h
  rcases h.2 with ⟨e, h0⟩ | ⟨g, cap, cur, e, _⟩
  · have := List.getElem?_eq_none (l := gs) (i := k) (by omega); rw [this] at hk; cases hk
  · obtain ⟨rfl, -, -⟩ : a = some ⟨g, 0, none⟩ ∧ n = gs.length ∧ c = cap := by simpa using e
    have c0 := hcl g rfl _ _ hk
    rw [Addr.add_lit, Nat.zero_add] at c0
    exact ⟨g, rfl, (hlt g rfl).2, c0⟩
set_option maxRecDepth 100000 in
theorem run_gpush {w : World} {B : Nat} {v : Value} {gs : List Value} (h : GRow w B v gs) (hB : B ≤ w.heap.size) (hl : gs.length + 1 ≤ 4059735240901) (y : Value) (h1 : y.oneCell' = true) :
    ∃ a c w', (Builtin.append_ #[99, 99] 99 #[v, .slice (some ⟨w.heap.size, 0, none⟩) 1 1]).run Tryd.prog (w.alloc (.cells #[y] 51)) = .ok (.slice a (gs.length + 1) c) w' ∧ GRow w' B (.slice a (gs.length + 1) c) (gs ++ [y]) ∧ PutAt (w.alloc (.cells #[y] 51)) w' v (.slice a (gs.length + 1) c) (w.heap.size + 1) (gs.length * 1) 51 := by
  obtain ⟨i, z, hi, hz, hzs, hs2, hby⟩ := ginfo
  have hrow : GRow (w.alloc (.cells #[y] 51)) B v gs := World.ownsRow.alloc h _
  obtain ⟨v', w', hr, r, hp⟩ := run_append_full (P := Tryd.prog) (w.alloc (.cells #[y] 51)) B 99 99 51 i z 1 24 Tryd.underlying99 hi hz hs2 hby hzs (by omega) v gs.length gs hrow ⟨w.heap.size, 0, none⟩ 1 1 [y] rfl (fun j u hu => by
      rw [show (⟨w.heap.size, 0, none⟩ : Addr).add j = ⟨w.heap.size, j, none⟩ by rw [Addr.add_lit, Nat.zero_add], cell_new]
      simpa using hu) (fun u hu => (List.mem_singleton.1 hu) ▸ h1) (by omega) (by unfold maxLen; omega) (by omega) (by simp; omega)
  have hR : GRow w' B v' (gs ++ [y]) := by
    unfold GRow
    simpa using r
  obtain ⟨a, c, rfl, _⟩ := hR.isSlice
  simp only [List.length_append, List.length_singleton] at hr hR hp
  refine ⟨a, c, w', hr, hR, ?_⟩
  rcases hp with ⟨g, cur, cur', e1, e2, e3, e4, e5, e6, e7, e8⟩ | ⟨e1, e2, e3⟩
  · exact .same g cur cur' e1 e2 e3 (by simpa using e4) e5 e6 e7 e8
  · exact .fresh (by simpa using e1) e2 (by simpa using e3)
end Go.Proofs.YtjmjimbhoncidaaDoor
