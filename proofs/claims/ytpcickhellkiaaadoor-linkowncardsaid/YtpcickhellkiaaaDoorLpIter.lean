/-
  The program's link: the walk over a side's pieces (a range over a function): all, half.
-/
import Derived.RangeFuncNested
import Derived.RangeFuncBound
import Derived.RangeFuncCalls
import Derived.RangeFuncLeaves
import Derived.Shelf.Abstract
import Derived.Shelf.RegionOpen
import Derived.WalkKit
import Derived.OwnWalkIn
import Derived.TacticsInMore
import Derived.LoopNIn
import Derived.LoopIn
import Derived.Test.YtpcickhellkiaaaDoorLpLeaf
namespace Go.Proofs.YtpcickhellkiaaaDoor
open Go.RowKit Go.Shelf

attribute [local go_sem] Oper.semAt_some

/-- The pieces by their places. -/
def encs (ps : List Pp) (j : Fin ps.length) : Array Value := #[.int .i64 (j.val : Int), .agg #[.slice ps[j].a ps[j].n ps[j].c, .bool ps[j].br]]
/-- What lies of a list below n₀. -/
structure PLies (n₀ : Nat) (W : World) (a : Option Addr) (ps : List Pp) : Prop where
  len : ps.length ≤ 256
  cell : ∀ j (hj : j < ps.length), ∃ g, a = some ⟨g, 0, none⟩ ∧ g < n₀ ∧ W.cell? ⟨g, j * 2, none⟩ = some (.slice ps[j].a ps[j].n ps[j].c) ∧ W.cell? ⟨g, j * 2 + 1, none⟩ = some (.bool ps[j].br)
theorem PLies.below {n₀ : Nat} {A B : World} {a : Option Addr} {ps : List Pp} (h : PLies n₀ A a ps) (hb : Below n₀ A B) : PLies n₀ B a ps := ⟨h.len, fun j hj => by
  obtain ⟨g, e, hg, h1, h2⟩ := h.cell j hj
  exact ⟨g, e, hg, (hb.cell (p := ⟨g, j * 2, none⟩) hg).trans h1, (hb.cell (p := ⟨g, j * 2 + 1, none⟩) hg).trans h2⟩⟩
theorem DwOk.lies {w : World} {F : Nat → Prop} {z : Dw} (h : DwOk w F z) : PLies w.heap.size w z.a z.ps := ⟨by have := h.len; omega, fun j hj => by
  obtain ⟨g, e, hg, hc⟩ := ERow.at_ encP_len h.row (List.getElem?_eq_getElem hj)
  exact ⟨g, e, hg, hc 0 (by decide), hc 1 (by decide)⟩⟩
theorem fin_take_succ {n k : Nat} (hk : k < n) : (List.finRange n).take (k + 1) = (List.finRange n).take k ++ [⟨k, hk⟩] := by
  rw [List.take_succ_eq_append_getElem (by simpa using hk)]
  simp
set_option maxRecDepth 100000 in
set_option maxHeartbeats 2000000 in
/-- The closure that all answers: for every loop body that keeps what lay below n₀. -/
theorem all1_in (F : Fence) (n : Nat) (hf : F.fn 63) (hro : F.round = none) (hn : 1 ≤ n) (l Bn n₀ lb s : Nat) (za : Option Addr) (zc : Nat) (ps : List Pp) (J Jx : List (Fin ps.length) → World → Prop) (B₀ : Nat) (hJ : AbidesFrom B₀ J)
    (hY : ∀ pre x W, J pre W → pre.length < ps.length → YieldAt F (n - 1) Tryd.prog l (encs ps x) W fun e W' =>
      (e = .returned (.bool true) ∧ J (pre ++ [x]) W' ∧ Below n₀ W W') ∨ (e = .returned (.bool false) ∧ Jx (pre ++ [x]) W'))
    (W : World) (hn0 : n₀ ≤ W.heap.size) (hBn : W.cell? ⟨Bn, 0, none⟩ = some (.pointer (some ⟨lb, s, none⟩))) (hlc : W.cell? ⟨lb, s, none⟩ = some (.slice za ps.length zc)) (hL : PLies n₀ W za ps) (h0 : J [] W) :
    CallsIn F n Tryd.prog 63 #[.func (.yield l) #[] #[], .pointer (some ⟨Bn, 0, none⟩)] W fun e W' => (∃ v, e = .returned v) ∧
      ((∃ ys, ys = List.finRange ps.length ∧ J ys W') ∨ (∃ pre, (∃ k, k ≤ ps.length ∧ pre = (List.finRange ps.length).take k) ∧ Jx pre W')) := by
  have hm := hL.len
  refine callsIn_of_wp Tryd.func63 rfl hf ?_ hro
  simp only [Tryd.ntmps63, List.size_toArray, List.length_cons, List.length_nil, Nat.reduceAdd, Nat.reduceSub, Array.replicate_succ, Array.replicate_zero, List.push_toArray, List.append_toArray, List.nil_append, List.cons_append]
  gi_wp2
  gi_loopw [10] (fun i wr => ∃ k : Nat, k ≤ ps.length ∧ i = .int .i64 k ∧ J ((List.finRange ps.length).take k) wr ∧ Below n₀ W wr)
    (fun i _ => ps.length - (intOf i).toNat)
  case atStart => exact ⟨0, Nat.zero_le _, rfl, h0, Below.refl _ _⟩
  case round =>
    obtain ⟨k, hk, rfl, hJs, hnx⟩ := hrel
    by_cases hlt : k < ps.length
    · obtain ⟨g, rfl, hg, c0, c1⟩ := (hL.below hnx).cell k hlt
      obtain ⟨V, hV⟩ : ∃ V, wr.alloc (.cells #[.slice ps[k].a ps[k].n ps[k].c, .bool ps[k].br] 79) = V := ⟨_, rfl⟩
      have hJV : J ((List.finRange ps.length).take k) V := by rw [← hV]; exact hJ _ wr _ none hJs (World.grownBy_alloc wr _ none) (fun r e => by cases e)
      have hbV : Below n₀ wr V := by rw [← hV]; exact (Below.refl n₀ wr).alloc (Nat.le_trans hn0 hnx.size) _
      obtain ⟨fn, tmps, assign, body, hy, hR⟩ := hY _ ⟨k, hlt⟩ V hJV (by rw [List.length_take]; simp; omega)
      simp only [encs, Fin.getElem_fin] at hy
      have hlt1 : (k : Int) < (ps.length : Int) := by omega
      have cv0 : V.cell? ⟨wr.heap.size, 0, none⟩ = some (.slice ps[k].a ps[k].n ps[k].c) := by rw [← hV, cell_new]; rfl
      have cv1 : V.cell? ⟨wr.heap.size, 1, none⟩ = some (.bool ps[k].br) := by rw [← hV, cell_new]; rfl
      gi_wp2
      refine hR.mono ?_
      rintro e W3 (⟨rfl, hJ3, hk3⟩ | ⟨rfl, hJx3⟩)
      · gi_wp2
        go_roundw
        case rel => exact ⟨k + 1, hlt, by simp, by rw [fin_take_succ hlt]; exact hJ3, hnx.trans (hbV.trans hk3)⟩
        case measure => simp [intOf]; omega
      · gi_wp2
        refine bodyPost_ret (results_none rfl _ _ _) rfl ?_
        exact ⟨⟨_, rfl⟩, .inr ⟨_, ⟨k + 1, hlt, (fin_take_succ hlt).symm⟩, hJx3⟩⟩
    · obtain rfl : k = ps.length := by omega
      gi_wp2
      go_end0
      exact ⟨⟨_, rfl⟩, .inl ⟨_, rfl, by rw [List.take_of_length_le (by simp)] at hJs; exact hJs⟩⟩
set_option maxHeartbeats 1000000 in
theorem all_in (F : Fence) (n : Nat) (hf : F.fn 37) (hro : F.round = none) (p : Option Addr) (w : World) :
    CallsIn F n Tryd.prog 37 #[.pointer p] w fun e w' => e = .returned (.func (.func 63) #[] #[.pointer (some ⟨w.heap.size, 0, none⟩)]) ∧ w' = w.alloc (.cells #[.pointer p] 71) := by
  refine callsIn_of_wp Tryd.func37 rfl hf ?_ hro
  simp only [Tryd.ntmps37, List.size_toArray, List.length_cons, List.length_nil, Nat.reduceAdd, Nat.reduceSub, Array.replicate_succ, Array.replicate_zero, List.push_toArray, List.append_toArray, List.nil_append, List.cons_append]
  gi_wp2
  go_ret
  exact ⟨rfl, rfl⟩
theorem all_stops (F : Fence) (n : Nat) (hf : F.fn 63) (hro : F.round = none) (hn : 1 ≤ n) (Bn n₀ lb s : Nat) (za : Option Addr) (zc : Nat) (ps : List Pp) (w : World) (hl0 : lb < n₀) (hBn : Bn < w.heap.size) (hn₀ : n₀ ≤ w.heap.size)
    (hc : w.cell? ⟨Bn, 0, none⟩ = some (.pointer (some ⟨lb, s, none⟩))) (hlc : w.cell? ⟨lb, s, none⟩ = some (.slice za ps.length zc)) (hL : PLies n₀ w za ps) :
    SeqStopsK F n Tryd.prog 63 #[.pointer (some ⟨Bn, 0, none⟩)] (encs ps) (Below n₀) (fun ys => ys = List.finRange ps.length) (fun pre => ∃ k, k ≤ ps.length ∧ pre = (List.finRange ps.length).take k) ps.length w := fun l J Jx W hW hJ _ hY h0 =>
  all1_in F n hf hro hn l Bn n₀ lb s za zc ps J Jx W.heap.size hJ hY W (Nat.le_trans hn₀ hW.size) ((hW.cell (p := ⟨Bn, 0, none⟩) hBn).trans hc) ((hW.cell (p := ⟨lb, s, none⟩) (by show lb < _; omega)).trans hlc) (hL.below (hW.mono hn₀)) h0
end Go.Proofs.YtpcickhellkiaaaDoor
