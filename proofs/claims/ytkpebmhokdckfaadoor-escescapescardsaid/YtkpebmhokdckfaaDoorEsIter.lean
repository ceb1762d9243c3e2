/-
  Ranging over a string: the iterator in any block; what a rune is to its bytes.
-/
import Derived.Laws.RangeAny
import Derived.Below
import Derived.WideLaws
namespace Go.Proofs.YtkpebmhokdckfaaDoor
open Go.RowKit

/-- The iterator of block k set to a place. -/
def itSet (w : World) (k : Nat) (s : ByteArray) (p : Nat) : World := { w with heap := w.heap.setIfInBounds k (.stringIter s p) }
theorem run_next_at {P : Program} {w : World} {k : Nat} {s : ByteArray} {pos : Nat} (ty : TypeId) (hk : w.heap[k]? = some (.stringIter s pos)) (h : pos < s.size) :
    (Instr.next (.pointer (some ⟨k, 0, none⟩)) true ty).run P w = .ok (.tuple #[.bool true, .int .i64 pos, .int .i32 (Utf8.decode s pos).1]) (itSet w k s (pos + (Utf8.decode s pos).2)) := by
  simp only [Instr.next, getObj, setObj, Sem.run_bind, Sem.run, hk, Result.andThen, h, if_true, itSet]
  simp [goInt]
theorem run_next_over {P : Program} {w : World} {k : Nat} {s : ByteArray} {pos : Nat} (ty : TypeId) (hk : w.heap[k]? = some (.stringIter s pos)) (h : ¬ pos < s.size) :
    (Instr.next (.pointer (some ⟨k, 0, none⟩)) true ty).run P w = .ok (.tuple #[.bool false]) w := by
  simp [Instr.next, getObj, Sem.run, hk, h]
theorem itSet_at {w : World} {k : Nat} {s : ByteArray} {p : Nat} (h : k < w.heap.size) : (itSet w k s p).heap[k]? = some (.stringIter s p) := by
  simp [itSet, h]
theorem itSet_size (w : World) (k : Nat) (s : ByteArray) (p : Nat) : (itSet w k s p).heap.size = w.heap.size := by simp [itSet]
theorem itSet_below {B : Nat} {a w : World} (h : Below B a w) {k : Nat} (hk : B ≤ k) (s : ByteArray) (p : Nat) : Below B a (itSet w k s p) :=
  h.trans ⟨rfl, rfl, rfl, by simp [itSet], fun i hi => by simp only [itSet]; rw [Array.getElem?_setIfInBounds_ne (by omega)]⟩
theorem itSet_block (w : World) (k : Nat) (s : ByteArray) (p : Nat) {i : Nat} (hi : i ≠ k) : (itSet w k s p).heap[i]? = w.heap[i]? := by
  simp only [itSet]; rw [Array.getElem?_setIfInBounds_ne (by omega)]

/-- The byte at a place, 0 behind the end. -/
def bt (s : ByteArray) (i : Nat) : Nat := (s.data.toList.getD i 0).toNat
theorem bt_in {s : ByteArray} {i : Nat} (h : i < s.size) : bt s i = (s[i]).toNat := by
  unfold bt; rw [List.getD_eq_getElem?_getD, List.getElem?_eq_getElem (by simpa using h)]; rfl
theorem bt_bd (s : ByteArray) (i : Nat) : bt s i ≤ 255 := by
  have := (s.data.toList.getD i 0).toNat_lt; unfold bt; omega
theorem bt_get (s : ByteArray) {i : Nat} (h : i < s.size) : (s.get! i).toNat = bt s i := by
  rw [bt_in h]; have := get_at s i h; simp only [Nat.add_zero] at this; rw [this]
/-- The rune at a place, and how many bytes it takes. -/
def rn (s : ByteArray) (p : Nat) : Nat := (Utf8.decode s p).1
def wd (s : ByteArray) (p : Nat) : Nat := (Utf8.decode s p).2
theorem rn_low {s : ByteArray} {p : Nat} (h : p < s.size) (ha : bt s p < 128) : rn s p = bt s p ∧ wd s p = 1 := by
  rw [bt_in h] at ha
  have := decode_ascii s p h ha
  unfold rn wd; rw [this, bt_in h]; exact ⟨rfl, rfl⟩
theorem rn_high {s : ByteArray} {p : Nat} (h : p < s.size) (ha : 128 ≤ bt s p) : 128 ≤ rn s p ∧ 1 ≤ wd s p := by
  rw [bt_in h] at ha
  exact decode_high s p h ha
theorem rn_top (s : ByteArray) (p : Nat) : rn s p ≤ 1114111 := by
  have hb : ∀ k, (s.get! (p + k)).toNat < 256 := fun k => (s.get! (p + k)).toNat_lt
  have h0 := hb 0; have h1 := hb 1; have h2 := hb 2; have h3 := hb 3
  simp only [rn, Utf8.decode]
  repeat' split
  all_goals simp_all [Utf8.runeError, Utf8.valid]
  all_goals omega
theorem wd_span {s : ByteArray} {p : Nat} (h : p < s.size) : p + wd s p ≤ s.size := by
  simp only [wd, Utf8.decode]
  repeat' split
  all_goals simp_all
  all_goals omega
theorem wd_high {s : ByteArray} {p : Nat} (h : p < s.size) (ha : 128 ≤ bt s p) {k : Nat} (hk : k < wd s p) : 128 ≤ bt s (p + k) := by
  have hg : ∀ j, p + j < s.size → (s.get! (p + j)).toNat = bt s (p + j) := fun j hj => bt_get s hj
  have e0 := hg 0 (by omega)
  have hs := wd_span h
  rcases Nat.lt_or_ge k 1 with q | q
  · obtain rfl : k = 0 := by omega
    exact ha
  · revert hk
    simp only [wd, Utf8.decode]
    repeat' split
    all_goals simp_all only [Bool.and_eq_true, decide_eq_true_eq, beq_iff_eq]
    all_goals intro hk
    all_goals try simp only at hk
    all_goals first
      | omega
      | (rcases (by omega : k = 1 ∨ k = 2 ∨ k = 3) with rfl | rfl | rfl <;> first | omega | (have := hg 1 (by omega); omega) | (have := hg 2 (by omega); omega) | (have := hg 3 (by omega); omega))
end Go.Proofs.YtkpebmhokdckfaaDoor
