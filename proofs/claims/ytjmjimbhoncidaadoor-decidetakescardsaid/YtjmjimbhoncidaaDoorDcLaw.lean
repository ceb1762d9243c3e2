/-
  Errors of layer "decide", lists of acts in memory; the law's refused, same.
-/
import Derived.Test.YtjmjimbhoncidaaDoorDcRef
import Derived.LoopTactic
import Derived.Laws.Cells
namespace Go.Proofs.YtjmjimbhoncidaaDoor
open Go.RowKit

theorem cell_lt {w : World} {a : Addr} {v : Value} (h : w.cell? a = some v) : a.block < w.heap.size := by
  rcases Nat.lt_or_ge a.block w.heap.size with g | g
  · exact g
  · simp [World.cell?, Array.getElem?_eq_none g] at h
/-- The cells of a fault of layer "decide". -/
def DFault (w : World) (b : Nat) (a code : Int) : Prop :=
  w.cell? ⟨b, 0, none⟩ = some (.string ⟨#[100, 101, 99, 105, 100, 101]⟩) ∧ w.cell? ⟨b, 1, none⟩ = some (.int .i64 a) ∧ w.cell? ⟨b, 2, none⟩ = some (.int .i64 code) ∧ w.cell? ⟨b, 3, none⟩ = some .nilIface
theorem DFault.below {w w' : World} {b : Nat} {a c : Int} (h : DFault w b a c) (hb : Below w.heap.size w w') : DFault w' b a c := by
  have hl : b < w.heap.size := cell_lt h.1
  have hc : ∀ o, w'.cell? ⟨b, o, none⟩ = w.cell? ⟨b, o, none⟩ := fun o => hb.cell (p := ⟨b, o, none⟩) hl
  exact ⟨by rw [hc]; exact h.1, by rw [hc]; exact h.2.1, by rw [hc]; exact h.2.2.1, by rw [hc]; exact h.2.2.2⟩
/-- An error that is just that: none where the number is 0. -/
def Ev (w : World) (v : Value) (a code : Int) : Prop := (v = .nilIface ∧ code = 0) ∨ (code ≠ 0 ∧ ∃ b, v = .iface 108 (.pointer (some ⟨b, 0, none⟩)) ∧ DFault w b a code)
theorem Ev.below {w w' : World} {v : Value} {a c : Int} (h : Ev w v a c) (hb : Below w.heap.size w w') : Ev w' v a c := by
  rcases h with h | ⟨h0, b, h1, h2⟩
  · exact Or.inl h
  · exact Or.inr ⟨h0, b, h1, h2.below hb⟩
theorem Ev.drewN {w : World} {v : Value} {a c : Int} (h : Ev w v a c) (n : Nat) : Ev (w.drewN n) v a c := h
theorem asFault (v : Value) (xT : TypeId) (w : World) : (Instr.typeAssert (.iface 108 v) xT 108 true).run Tryd.prog w = .ok (.tuple #[v, .bool true]) w := by
  simp [Instr.typeAssert, run_underlying Tryd.underlying108, go_sem, Result.andThen]
set_option maxRecDepth 100000 in
set_option maxHeartbeats 1000000 in
theorem refused_any {w : World} {ev : Value} {a c : Int} (h : Ev w ev a c) : Calls Tryd.prog 16 #[ev, .int .i64 a, .int .i64 c] w fun e w' => e = .returned (.bool true) ∧ w' = w := by
  rcases h with ⟨rfl, rfl⟩ | ⟨h0, b, rfl, f0, f1, f2, f3⟩
  · go_enter Tryd.func16, Tryd.ntmps16
    go_wp2
    go_ret
    exact ⟨rfl, rfl⟩
  · have hc : (c == 0) = false := by simpa using h0
    clear h0
    have hta := asFault
    go_enter Tryd.func16, Tryd.ntmps16
    go_wp2
    go_ret
    exact ⟨rfl, rfl⟩

/-- A list of acts in memory, from block N on. -/
def Acts (w : World) (N : Nat) (v : Value) (l : ActL) : Prop :=
  ∃ po cap, v = .slice po l.length cap ∧ l.length ≤ cap ∧ ∀ j y, l[j]? = some y → ∃ b o, po = some ⟨b, o, none⟩ ∧ N ≤ b ∧ b < w.heap.size ∧ w.cell? ⟨b, o + j * 2, none⟩ = some (.int .i64 y.1) ∧ w.cell? ⟨b, o + j * 2 + 1, none⟩ = some (.string y.2)
theorem Acts.below {w w' : World} {N : Nat} {v : Value} {l : ActL} (h : Acts w N v l) (hb : Below w.heap.size w w') : Acts w' N v l := by
  obtain ⟨po, cap, h1, h2, h3⟩ := h
  refine ⟨po, cap, h1, h2, fun j y hj => ?_⟩
  obtain ⟨b, o, e, hn, hl, c1, c2⟩ := h3 j y hj
  exact ⟨b, o, e, hn, Nat.lt_of_lt_of_le hl hb.size, by rw [hb.cell (p := ⟨b, o + j * 2, none⟩) hl]; exact c1, by rw [hb.cell (p := ⟨b, o + j * 2 + 1, none⟩) hl]; exact c2⟩
theorem Acts.nil (w : World) (N : Nat) : Acts w N (.slice none 0 0) [] := ⟨none, 0, rfl, Nat.le_refl _, fun j y h => by simp at h⟩
set_option maxRecDepth 100000 in
set_option maxHeartbeats 2000000 in
theorem same_true {w : World} {N M : Nat} {x y : Value} {l : ActL} (ha : Acts w N x l) (hb : Acts w M y l) (hn : l.length ≤ 100) :
    Calls Tryd.prog 25 #[x, y] w fun e w' => e = .returned (.bool true) ∧ ∃ m, w' = w.drewN m := by
  obtain ⟨ao, ac, rfl, hac, ca⟩ := ha
  obtain ⟨bo, bc, rfl, hbc, cb⟩ := hb
  have HA : Hid (∀ j y, l[j]? = some y → ∃ b o, ao = some ⟨b, o, none⟩ ∧ N ≤ b ∧ b < w.heap.size ∧ w.cell? ⟨b, o + j * 2, none⟩ = some (.int .i64 y.1) ∧ w.cell? ⟨b, o + j * 2 + 1, none⟩ = some (.string y.2)) := ca
  have HB : Hid (∀ j y, l[j]? = some y → ∃ b o, bo = some ⟨b, o, none⟩ ∧ M ≤ b ∧ b < w.heap.size ∧ w.cell? ⟨b, o + j * 2, none⟩ = some (.int .i64 y.1) ∧ w.cell? ⟨b, o + j * 2 + 1, none⟩ = some (.string y.2)) := cb
  obtain ⟨n, hl⟩ : ∃ n, l.length = n := ⟨_, rfl⟩
  rw [hl] at hac hbc hn ⊢
  have HL : Hid (l.length = n) := hl
  clear ca cb hl
  go_enter Tryd.func25, Tryd.ntmps25
  go_wp2_with fail
  go_loopw [5] (fun ti wx => ∃ j m : Nat, j ≤ n ∧ ti = .int .i64 j ∧ wx = w.drewN m) (fun ti _ => n - (intOf ti).toNat)
  case atStart => exact ⟨0, 0, Nat.zero_le _, rfl, rfl⟩
  case round =>
    obtain ⟨j, m, hj, rfl, rfl⟩ := hrel
    by_cases hlt : j < n
    · obtain ⟨⟨k, s⟩, hy⟩ : ∃ y, l[j]? = some y := ⟨_, List.getElem?_eq_getElem (by rw [HL.out]; exact hlt)⟩
      obtain ⟨ab, aof, rfl, _, hal, ka0, ka1⟩ := HA.out j _ hy
      obtain ⟨bb, bof, rfl, _, hbl, kb0, kb1⟩ := HB.out j _ hy
      have hlt1 : (j : Int) < n := by omega
      simp only at ka0 ka1 kb0 kb1
      clear hy
      go_wp2_with fail
      go_quiet (fail)
      go_wp2_with fail
      go_roundw
      case rel => exact ⟨j + 1, _, hlt, by go_num, rfl⟩
      case measure => simp [intOf]; omega
    · have hlt1 : ¬ ((j : Int) < n) := by omega
      go_wp2_with fail
      go_ret
      exact ⟨rfl, _, rfl⟩
end Go.Proofs.YtjmjimbhoncidaaDoor
