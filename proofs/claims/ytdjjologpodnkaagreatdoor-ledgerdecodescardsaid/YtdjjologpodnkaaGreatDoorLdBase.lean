/-
  Reading records: the bytes as data; taking pieces.
-/
import Derived.Test.YtdjjologpodnkaaGreatDoorLgEnc
namespace Go.Proofs.YtdjjologpodnkaaGreatDoor
open Go.RowKit

/-- The number that bytes tell, the highest first. -/
def valB (l : List Int) : Int := l.foldl (fun v c => v * 256 + c) 0
/-- Each is a byte. -/
def Rng (l : List Int) : Prop := ∀ x ∈ l, 0 ≤ x ∧ x < 256
def piece (bs : List Int) (p m : Nat) : List Int := (bs.drop p).take m
theorem piece_len {bs : List Int} {p m : Nat} (h : p + m ≤ bs.length) : (piece bs p m).length = m := by
  unfold piece; rw [List.length_take, List.length_drop]; omega
theorem Rng.piece {bs : List Int} (h : Rng bs) (p m : Nat) : Rng (piece bs p m) := fun x hx => h x (List.mem_of_mem_drop (List.mem_of_mem_take hx))
theorem piece_getD {bs : List Int} {p m j : Nat} (hj : j < m) : (piece bs p m).getD j 0 = bs.getD (p + j) 0 := by
  unfold piece
  rw [List.getD_eq_getElem?_getD, List.getD_eq_getElem?_getD, List.getElem?_take_of_lt hj, List.getElem?_drop]
theorem valB_snoc (l : List Int) (c : Int) : valB (l ++ [c]) = valB l * 256 + c := by unfold valB; rw [List.foldl_append]; rfl
theorem valB_bound : ∀ (k : Nat) (l : List Int), l.length = k → Rng l → 0 ≤ valB l ∧ valB l < 256 ^ k
  | 0, l, h, _ => by
    obtain rfl := List.eq_nil_of_length_eq_zero h
    exact ⟨by decide, by decide⟩
  | k + 1, l, h, hr => by
    obtain ⟨l', c, rfl⟩ : ∃ l' c, l = l' ++ [c] := ⟨l.dropLast, l.getLast (by intro e; rw [e] at h; cases h), (List.dropLast_concat_getLast _).symm⟩
    have hl : l'.length = k := by simpa using h
    obtain ⟨h0, h1⟩ := valB_bound k l' hl (fun x hx => hr x (by simp [hx]))
    obtain ⟨c0, c1⟩ := hr c (by simp)
    rw [valB_snoc, Int.pow_succ]
    exact ⟨by omega, by omega⟩
/-- The answer of a reading that gives up. -/
def gaveUp (e : Int) : Ending := .panicked [{ v := .iface 56 (.int .i64 e), recovered := false }]
theorem giveUp_any (e : Int) (w : World) : Calls Tryz.prog 39 #[.int .i64 e] w fun r w' => r = gaveUp e ∧ w' = w := by
  go_enter Tryz.func39, Tryz.ntmps39
  go_wp2
  exact ⟨rfl, rfl, rfl⟩
/-- A slice's window. -/
def winA (a : Option Addr) (c lo : Nat) : Option Addr := match a with
  | none => none
  | some x => if c - lo = 0 then some x else some (x.add lo)
theorem slice_win (a : Option Addr) (n c lo hi : Nat) (W : World) (ha : a = none → c = 0) (h1 : lo ≤ hi) (h2 : hi ≤ c) : (Instr.sliceAt 22 (.slice a n c) (some (.int .i64 (lo : Int))) (some (.int .i64 (hi : Int))) none).run Tryz.prog W = .ok (.slice (winA a c lo) (hi - lo) (c - lo)) W := by
  cases a with
  | none =>
    obtain rfl := ha rfl
    obtain rfl : hi = 0 := by omega
    obtain rfl : lo = 0 := by omega
    simp [Instr.sliceAt, Instr.sliceBounds, Instr.sliceBound, asIntOf, run_underlying Tryz.underlying22, go_sem, winA]
  | some x =>
    by_cases hc : c - lo = 0
    · simp [Instr.sliceAt, Instr.sliceBounds, Instr.sliceBound, asIntOf, run_underlying Tryz.underlying22, h1, h2, hc, go_sem, winA]
      omega
    · simp [Instr.sliceAt, Instr.sliceBounds, Instr.sliceBound, asIntOf, run_underlying Tryz.underlying22, h1, h2, hc, go_sem, winA]
      omega
theorem win_byts {w : World} {a : Option Addr} {n c : Nat} {bs : List Int} (h : Byts w a n bs) {p m : Nat} (hp : p + m ≤ n) (hn : n ≤ c) : Byts w (winA a c p) m (piece bs p m) := by
  refine ⟨piece_len (by rw [h.len]; exact hp), fun j hj => ?_⟩
  obtain ⟨b, o, e, hl, hc⟩ := h.cell (p + j) (by omega)
  refine ⟨b, o + p, ?_, hl, ?_⟩
  · rw [e]
    unfold winA
    simp only
    rw [if_neg (by omega), Addr.add_lit]
  · rw [piece_getD hj, Nat.add_assoc]; exact hc
end Go.Proofs.YtdjjologpodnkaaGreatDoor
