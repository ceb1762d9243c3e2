/-
  slices.SortFunc with inOrder: a row of timers, no key twice, in order.
-/
import Derived.Test.YtdglnobapnohmaaDoorWhOrd
import Derived.Test.YtdglnobapnohmaaDoorWhShelf
import Derived.Shelf.SlSortCmp.NoneTotal
namespace Go.Proofs.YtdglnobapnohmaaDoor
open Go.RowKit

def encT (x : Tm) : List Value := [.int .i64 x.1, .int .i64 (x.2 : Int)]
theorem encT_len (x : Tm) : (encT x).length = 2 := rfl
theorem encT_one (x : Tm) : ∀ u ∈ encT x, u.oneCell' = true := fun u hu => by
  simp only [encT, List.mem_cons, List.not_mem_nil, or_false] at hu
  rcases hu with rfl | rfl <;> rfl
/-- A row of timers. -/
abbrev TRow (w : World) (B : Nat) (v : Value) (xs : List Tm) : Prop := ERow w B 68 2 encT v xs
theorem celT : Cel Tryd.prog 68 2 16 := cel_of (by kernel_rfl)
theorem ltOf_cf (x y : Tm) : (ltOf cfT x y = true) ↔ tlt x y := by
  unfold ltOf cfT cmpI tlt
  by_cases h1 : x.2 < y.2
  · have : (x.2 : Int) < y.2 := by omega
    simp [h1, this]
  · by_cases h2 : y.2 < x.2
    · have h3 : ¬ (x.2 : Int) < y.2 := by omega
      have h4 : (y.2 : Int) < x.2 := by omega
      simp [h1, h3, h4]; omega
    · have h3 : ¬ (x.2 : Int) < y.2 := by omega
      have h4 : ¬ (y.2 : Int) < x.2 := by omega
      have h5 : x.2 = y.2 := by omega
      by_cases h6 : x.1 < y.1
      · simp [h5, h6]
      · by_cases h7 : y.1 < x.1 <;> simp [h5, h6, h7]
theorem swoT : Sort.SWO (ltOf cfT) where
  irrefl x := by
    cases h : ltOf cfT x x with
    | false => rfl
    | true => exact (tlt_irr ((ltOf_cf x x).1 h)).elim
  trans x y z h1 h2 := (ltOf_cf x z).2 (tlt_trans ((ltOf_cf x y).1 h1) ((ltOf_cf y z).1 h2))
  ntrans x y z h1 h2 := by
    cases h : ltOf cfT x z with
    | false => rfl
    | true =>
      have h3 := (ltOf_cf x z).1 h
      have h4 : ¬ tlt x y := fun e => by rw [(ltOf_cf x y).2 e] at h1; cases h1
      have h5 : ¬ tlt y z := fun e => by rw [(ltOf_cf y z).2 e] at h2; cases h2
      unfold tlt at h3 h4 h5
      omega
theorem arr_bang {α : Type} [Inhabited α] (a : Array α) (i : Nat) (h : i < a.size) : a[i]! = a[i] := getElem!_pos a i h
theorem lst_bang {α : Type} [Inhabited α] (a : List α) (i : Nat) (h : i < a.length) : a[i]! = a[i] := getElem!_pos a i h
theorem flatK_list (d : Array Tm) : (Sort.flatK encT 2 d).toList = d.toList.flatMap encT := by
  refine List.ext_getElem? fun j => ?_
  rw [Array.getElem?_toList]
  rcases Nat.lt_or_ge j (d.size * 2) with h | h
  · have hj : j / 2 < d.size := by omega
    have hx : d.toList[j / 2]? = some d[j / 2]! := by
      rw [Array.getElem?_toList, Array.getElem?_eq_getElem hj, getElem!_pos d (j / 2) hj]
    have h1 := flat_get encT_len d.toList (j / 2) _ (j % 2) hx (by omega)
    rw [show j / 2 * 2 + j % 2 = j by omega] at h1
    rw [h1]
    have h2 := Sort.get_flatK encT 2 d j h
    have h3 : j < (Sort.flatK encT 2 d).size := by rw [Sort.size_flatK]; exact h
    rw [Array.getElem?_eq_getElem h3, ← arr_bang _ _ h3, h2]
    have h4 : j % 2 < (encT d[j / 2]!).length := by rw [encT_len]; omega
    rw [List.getElem?_eq_getElem h4, lst_bang _ _ h4]
  · rw [Array.getElem?_eq_none (by rw [Sort.size_flatK]; exact h), List.getElem?_eq_none (by rw [flat_len encT_len]; simpa using h)]
theorem holds_of {w : World} {B g cap : Nat} {xs : List Tm} (h : TRow w B (.slice (some ⟨g, 0, none⟩) xs.length cap) xs) : Sort.HoldsK encT 2 w g 0 xs.toArray := by
  intro j hj
  have hl : (Sort.flatK encT 2 xs.toArray).toList = xs.flatMap encT := flatK_list _
  rw [Sort.size_flatK] at hj
  have h3 : j < (Sort.flatK encT 2 xs.toArray).size := by rw [Sort.size_flatK]; exact hj
  refine ⟨?_, by rw [Nat.zero_add]; exact h.thaw j⟩
  have h5 := World.ownsRow.cellAt h j (by simpa using hj)
  rw [Nat.zero_add, h5, ← hl, Array.getElem?_toList, Array.getElem?_eq_getElem h3, arr_bang _ _ h3]
  rfl
theorem sorted_row {w : World} {B g cap n : Nat} {xs : List Tm} {d : Array Tm} {os : Array Obj} (h : TRow w B (.slice (some ⟨g, 0, none⟩) xs.length cap) xs) (hd : d.size = xs.length) :
    TRow (sortWorldK encT 2 w g 0 n d os) B (.slice (some ⟨g, 0, none⟩) xs.length cap) d.toList ∧ Off (fun q => q = g) w (sortWorldK encT 2 w g 0 n d os) := by
  have hlt := (h.lt (g := g) rfl)
  rcases h.2 with ⟨h0, _⟩ | ⟨g', cap', cur, e1, hB, hg, hn, hm, hs, ht⟩
  · cases h0
  simp only [Value.slice.injEq, Option.some.injEq, Addr.mk.injEq, and_true, true_and] at e1
  obtain ⟨rfl, rfl⟩ := e1
  have hh : ∀ k, (sortWorldK encT 2 w g 0 n d os).heap[k]? = if k < w.heap.size then (if k = g then some (.cells (Sort.putCells id 0 (Sort.flatK encT 2 d) cur) 68 (0, 0)) else w.heap[k]?) else os[k - w.heap.size]? := fun k => by
    show ((w.heap.modify g (Sort.onCells (Sort.putCells id 0 (Sort.flatK encT 2 d)))) ++ os)[k]? = _
    by_cases hk : k < w.heap.size
    · rw [Array.getElem?_append_left (by simpa using hk), Array.getElem?_modify, if_pos hk]
      by_cases e : k = g
      · subst e
        rw [if_pos rfl, if_pos rfl, hg]
        rfl
      · rw [if_neg (fun e' => e e'.symm), if_neg e]
    · rw [Array.getElem?_append_right (by simp; omega), if_neg hk]
      simp
  refine ⟨⟨?_, Or.inr ⟨g, cap, Sort.putCells id 0 (Sort.flatK encT 2 d) cur, by simp [hd], hB, by rw [hh g, if_pos hlt.2, if_pos rfl], by simpa [hd] using hn, hm, ?_, ?_⟩⟩, ⟨rfl, rfl, rfl, ?_, fun k hk hn => by rw [hh k, if_pos hk, if_neg hn]⟩⟩
  · rw [flat_len encT_len]
  · simpa [Sort.putCells] using hs
  · rw [← flatK_list]
    refine List.ext_getElem? fun j => ?_
    simp only [Array.length_toList]
    rcases Nat.lt_or_ge j (d.size * 2) with p | p
    · rw [List.getElem?_take, if_pos p, Array.getElem?_toList, Array.getElem?_toList]
      have h3 : j < (Sort.flatK encT 2 d).size := by rw [Sort.size_flatK]; exact p
      have hc : j < cur.size := by rw [hs]; have := Nat.mul_le_mul_right 2 hn; omega
      unfold Sort.putCells
      rw [Array.getElem?_mapIdx, Array.getElem?_eq_getElem hc, Array.getElem?_eq_getElem h3]
      simp only [Option.map_some, Nat.zero_le, true_and, Nat.zero_add, Nat.sub_zero, id_eq, if_pos h3, arr_bang _ _ h3]
    · rw [List.getElem?_take, if_neg (by omega), Array.getElem?_toList, Array.getElem?_eq_none (by rw [Sort.size_flatK]; exact p)]
  · show w.heap.size ≤ ((w.heap.modify g (Sort.onCells (Sort.putCells id 0 (Sort.flatK encT 2 d)))) ++ os).size
    simp
theorem cmpLaysT (blk off size : Nat) (w : World) : CmpLays Tryd.prog 35 #[] encT 2 cfT blk off size w := fun _ _ _ _ x y => inOrder_any _ x y
theorem enterOrd : ∀ args w, (callFunc 35 args).run Tryd.prog w = .ok (.enter 35 args) w := enters_of Tryd.func35 (by kernel_rfl) rfl
/-- The sort. -/
theorem sort_any {w : World} {B : Nat} {v : Value} {xs : List Tm} (h : TRow w B v xs) (hu : Uniq xs) (hl : xs.length ≤ 1000000000) :
    Calls Tryd.prog 34 #[v, .func (.func 35) #[] #[]] w fun e w' => e = .returned (.tuple #[]) ∧ ∃ ys, ys.Perm xs ∧ Srt ys ∧ TRow w' B v ys ∧ Off (fun q => v.ownBlock = some q) w w' := by
  rcases h.form with ⟨rfl, rfl⟩ | ⟨g, cap, rfl, hB, hg, _⟩
  · refine (AnyF.slices_SortFunc_none { Tryd.sortT with } none 0 _ w).mono ?_
    rintro e w' ⟨he, rfl⟩
    exact ⟨he, [], List.Perm.refl _, List.Pairwise.nil, h, Off.refl _ _⟩
  · have hc := AnyQ.slices_SortFunc Tryd.sortT 2 Tryd.isAgg68 Tryd.sizeOf68 encT encT_len encT_one cfT swoT 35 #[] g 0 cap xs.toArray w enterOrd (cmpLaysT _ _ _ _) (holds_of h) hg (by simp; omega)
    change Calls Tryd.prog 34 _ _ _ at hc
    simp only [List.size_toArray] at hc
    refine hc.mono ?_
    rintro e w' ⟨he, d, n, os, ⟨hs, _, hp⟩, hsd, rfl⟩
    have hsz : d.size = xs.length := by simpa using hs
    obtain ⟨r, o⟩ := sorted_row (n := n) (os := os) h hsz
    have hperm : d.toList.Perm xs := by
      have e1 : d.extract 0 xs.length = d := by rw [← hsz]; simp
      have e2 : (xs.toArray.extract 0 xs.length).toList = xs := by simp
      rw [e1, e2] at hp
      exact hp
    refine ⟨he, d.toList, hperm, ?_, r, o.mono fun q e => by rw [e]; rfl⟩
    have hq : Uniq d.toList := hu.perm hperm.symm
    unfold Srt
    rw [List.pairwise_iff_getElem]
    intro i j hi hj hij
    have h1 := hsd i j (Nat.zero_le _) hij (by simpa [hsz] using hj)
    have hi' : i < d.size := by simpa using hi
    have hj' : j < d.size := by simpa using hj
    rw [arr_bang _ _ hi', arr_bang _ _ hj'] at h1
    have h2 : ¬ tlt d[j] d[i] := fun e => by rw [(ltOf_cf _ _).2 e] at h1; cases h1
    have h3 := (List.pairwise_iff_getElem.1 hq) i j hi hj hij
    simp only [Array.getElem_toList] at h3 ⊢
    unfold tlt at h2 ⊢
    omega
end Go.Proofs.YtdglnobapnohmaaDoor
