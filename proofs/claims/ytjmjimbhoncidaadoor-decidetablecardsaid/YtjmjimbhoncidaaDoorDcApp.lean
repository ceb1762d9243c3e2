/-
  append of one list of acts to another; right by functions; the verdict's code.
-/
import Derived.Test.YtjmjimbhoncidaaDoorDcMeetP
namespace Go.Proofs.YtjmjimbhoncidaaDoor
open Go.RowKit

theorem aflat_len (l : ActL) : (l.flatMap acells).length = l.length * 2 := by
  induction l with
  | nil => rfl
  | cons y r ih => rw [List.flatMap_cons, List.length_append, ih, List.length_cons]; simp [acells]; omega
theorem aflat_one {l : ActL} {u : Value} (h : u ∈ l.flatMap acells) : u.oneCell' = true := by
  obtain ⟨y, _, hy⟩ := List.mem_flatMap.1 h
  simp only [acells, List.mem_cons, List.not_mem_nil, or_false] at hy
  rcases hy with rfl | rfl <;> rfl
theorem aflat_split (l : ActL) {j : Nat} {u : Value} (h : (l.flatMap acells)[j]? = some u) : ∃ k y, l[k]? = some y ∧ ((j = k * 2 ∧ u = .int .i64 y.1) ∨ (j = k * 2 + 1 ∧ u = .string y.2)) := by
  have hj : j < l.length * 2 := by rw [← aflat_len]; exact (List.getElem?_eq_some_iff.1 h).1
  obtain ⟨y, hy⟩ : ∃ y, l[j / 2]? = some y := ⟨_, List.getElem?_eq_getElem (by omega)⟩
  refine ⟨j / 2, y, hy, ?_⟩
  rcases (by omega : j = j / 2 * 2 ∨ j = j / 2 * 2 + 1) with e | e
  · have := aflat_get l (j / 2) y hy 0 (by omega)
    rw [Nat.add_zero, ← e, h] at this
    exact Or.inl ⟨e, by simpa [acells] using this⟩
  · have := aflat_get l (j / 2) y hy 1 (by omega)
    rw [← e, h] at this
    exact Or.inr ⟨e, by simpa [acells] using this⟩
/-- Some more acts. -/
theorem run_aapp {w : World} {B N : Nat} {v x : Value} {xs ys : ActL} (h : ActRow w B v xs) (hB : B ≤ w.heap.size) (hx : Acts w N x ys) (hl : xs.length + ys.length ≤ 100) :
    ∃ a c w', (Builtin.append_ #[51, 51] 51 #[v, x]).run Tryd.prog w = .ok (.slice a (xs.length + ys.length) c) w' ∧ ActRow w' B (.slice a (xs.length + ys.length) c) (xs ++ ys) ∧ Below B w w' := by
  obtain ⟨i, z, hi, hz, hzs, hs, hby⟩ := actinfo
  obtain ⟨po, cap, rfl, hcap, hc⟩ := hx
  cases po with
  | none =>
    have hy : ys = [] := by
      cases ys with
      | nil => rfl
      | cons y r => obtain ⟨b, o, e, _⟩ := hc 0 y rfl; cases e
    subst hy
    obtain ⟨a, c, rfl, hac⟩ := h.isSlice
    refine ⟨a, c, w, ?_, by simpa using h, Below.refl _ _⟩
    cases a with
    | none => simp [Builtin.append_, run_underlying Tryd.underlying51, sizeOf, typeInfo, hi, Builtin.lenOf, Builtin.firstCells, hac]
    | some a => simp [Builtin.append_, run_underlying Tryd.underlying51, sizeOf, typeInfo, hi, Builtin.lenOf, Builtin.firstCells, hac, storeCells]
  | some a =>
    obtain ⟨v', w', hr, r, hg, _⟩ := run_append_own (P := Tryd.prog) w B 51 51 85 i z 2 24 Tryd.underlying51 hi hz hs hby hzs (by omega) v xs.length (xs.flatMap acells) h a ys.length cap (ys.flatMap acells) (aflat_len ys) (fun j u hu => by
        obtain ⟨k, y, hk, hh⟩ := aflat_split ys hu
        obtain ⟨b, o, e, _, _, c0, c1⟩ := hc k y hk
        obtain rfl : a = ⟨b, o, none⟩ := by simpa using e
        rcases hh with ⟨rfl, rfl⟩ | ⟨rfl, rfl⟩
        · rw [Addr.add_lit]; exact c0
        · rw [Addr.add_lit, ← Nat.add_assoc]; exact c1) (fun u hu => aflat_one hu) (by unfold maxLen; omega) (by omega) hB
    have hR : ActRow w' B v' (xs ++ ys) := by
      unfold ActRow
      rw [List.length_append, List.flatMap_append]
      exact r
    obtain ⟨a', c', rfl, _⟩ := hR.isSlice
    rw [List.length_append] at hr hR
    refine ⟨a', c', w', hr, hR, below_grown hg hB (fun g e => ?_)⟩
    rcases h.2 with ⟨rfl, h0⟩ | ⟨g', cap', cur, rfl, hbg, _⟩
    · cases e
    · simp [Value.ownBlock] at e; omega
theorem ActRow.empty (w : World) (B b : Nat) (hb : w.heap.size = b) (hB : B ≤ b) : ActRow (w.alloc (.cells #[] 85)) B (.slice (some ⟨b, 0, none⟩) 0 0) [] := by
  subst hb
  refine ⟨rfl, Or.inr ⟨w.heap.size, 0, #[], rfl, hB, ?_, Nat.le_refl _, by unfold maxLen; omega, rfl, rfl⟩⟩
  show (w.heap.push _)[w.heap.size]? = _
  simp
/-- A beginning of a list. -/
theorem Acts.take {w : World} {N : Nat} {po : Option Addr} {n cap : Nat} {l : ActL} (h : Acts w N (.slice po n cap) l) (m : Nat) (hm : m ≤ n) : Acts w N (.slice po m cap) (l.take m) := by
  obtain ⟨po', cap', e, hc, hl⟩ := h
  obtain ⟨rfl, rfl, rfl⟩ : po = po' ∧ n = l.length ∧ cap = cap' := by simpa using e
  refine ⟨po, cap, by rw [List.length_take, Nat.min_eq_left hm], by rw [List.length_take]; omega, fun j y hj => hl j y ?_⟩
  rw [List.getElem?_take] at hj
  split at hj
  · exact hj
  · cases hj
def rX (e : Bool) (a : Int) : Int := if e = true then bits .and .i64 a 3 else 0
theorem ok_r (e : Bool) (a p : Int) : okB e (rX e a) (rX e p) = true := by
  unfold rX okB
  have h1 := i64_and3 a
  have h2 := i64_and3 p
  cases e <;> simp
  omega
set_option maxRecDepth 100000 in
set_option maxHeartbeats 1000000 in
theorem right_at (e : Bool) (a p : Int) (w : World) : Calls Tryd.prog 37 #[.agg #[.bool e, .int .i64 a, .int .i64 p]] w fun r w' => r = .returned (.agg #[.bool e, .int .i64 (rX e a), .int .i64 (rX e p)]) ∧ Below w.heap.size w w' := by
  cases e with
  | false =>
    go_enter Tryd.func37, Tryd.ntmps37
    go_wp2_with fail
    refine bodyPost_ret ?_ rfl ⟨rfl, ?_⟩
    · simp [results, Tryd.results37, go_sem, rX]
    · repeat (first | exact Below.refl _ _ | refine Below.setCell ?_ (by simp) _ | refine Below.alloc ?_ (by simp) _)
  | true =>
    go_enter Tryd.func37, Tryd.ntmps37
    go_wp2_with fail
    refine bodyPost_ret ?_ rfl ⟨rfl, ?_⟩
    · simp [results, Tryd.results37, go_sem, rX]
    · repeat (first | exact Below.refl _ _ | refine Below.setCell ?_ (by simp) _ | refine Below.alloc ?_ (by simp) _)
theorem tmod3 (n : Int) : -2 ≤ n.tmod 3 ∧ n.tmod 3 ≤ 2 := by
  have h := Int.natAbs_tmod n 3
  have h2 : (3 : Int).natAbs = 3 := rfl
  rw [h2] at h
  omega
theorem vidx (w : World) : (Instr.index 87 (.agg #[.string ⟨#[65, 65]⟩, .string ⟨#[65, 69]⟩, .string ⟨#[65, 82]⟩]) (.int .i64 0)).run Tryd.prog w = .ok (.string ⟨#[65, 65]⟩) w ∧ (Instr.index 87 (.agg #[.string ⟨#[65, 65]⟩, .string ⟨#[65, 69]⟩, .string ⟨#[65, 82]⟩]) (.int .i64 1)).run Tryd.prog w = .ok (.string ⟨#[65, 69]⟩) w ∧ (Instr.index 87 (.agg #[.string ⟨#[65, 65]⟩, .string ⟨#[65, 69]⟩, .string ⟨#[65, 82]⟩]) (.int .i64 2)).run Tryd.prog w = .ok (.string ⟨#[65, 82]⟩) w := by
  refine ⟨?_, ?_, ?_⟩ <;> kernel_rfl
theorem vidx_at (d : Int) : ∃ cd : ByteArray, vcode cd ∧ ∀ w : World, (Instr.index 87 (.agg #[.string ⟨#[65, 65]⟩, .string ⟨#[65, 69]⟩, .string ⟨#[65, 82]⟩]) (.int .i64 (d % 3))).run Tryd.prog w = .ok (.string cd) w := by
  rcases (by omega : d % 3 = 0 ∨ d % 3 = 1 ∨ d % 3 = 2) with h | h | h <;> rw [h]
  · exact ⟨_, Or.inl rfl, fun w => (vidx w).1⟩
  · exact ⟨_, Or.inr (Or.inl rfl), fun w => (vidx w).2.1⟩
  · exact ⟨_, Or.inr (Or.inr rfl), fun w => (vidx w).2.2⟩
end Go.Proofs.YtjmjimbhoncidaaDoor
