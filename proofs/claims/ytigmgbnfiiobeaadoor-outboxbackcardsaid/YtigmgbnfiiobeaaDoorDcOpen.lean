import Derived.Test.YtigmgbnfiiobeaaDoorDcRow
import Derived.Test.YtigmgbnfiiobeaaDoorCards
import Derived.Test.YtigmgbnfiiobeaaDoorTie
import Derived.ProofKit
import Derived.OpenShut
import Derived.Deep.DeepHandedRow
import Derived.Deep.Slices
import Derived.Lib.LaidTab
import Derived.LaidMore
import Derived.ChangeMaps5
/-
  What the program's package-level variables hold: the words of conditions, the table of codes.
-/
namespace Go.Proofs.YtigmgbnfiiobeaaDoor
open Go.RowKit

def CV : List Value := [.string ⟨#[67, 65]⟩, .bool true, .int .i64 3, .string ⟨#[67, 69]⟩, .bool true, .int .i64 2, .string ⟨#[67, 82]⟩, .bool true, .int .i64 2, .string ⟨#[65, 65]⟩, .bool false, .int .i64 3, .string ⟨#[65, 69]⟩, .bool false, .int .i64 2, .string ⟨#[65, 82]⟩, .bool false, .int .i64 2]
def PVc (w : World) : Prop := ∀ j u, CV[j]? = some u → w.cell? ⟨0, j, none⟩ = some u
theorem PVc.below {w w' : World} (h : PVc w) (hb : Below w.heap.size w w') : PVc w' := fun j u hu => by
  have h1 : 0 < w.heap.size := cell_lt (h 0 _ rfl)
  rw [hb.cell (p := ⟨0, j, none⟩) h1]; exact h j u hu
end Go.Proofs.YtigmgbnfiiobeaaDoor

/-
  What the program's calls owe: the document's answers. (PV: what its package-level variables hold: laid by the text DcVar.)
-/
namespace Go.Proofs.YtigmgbnfiiobeaaDoor
open Go.RowKit

def PAnsQ (x : Ans) (w : World) (r : Ending) (w' : World) : Prop := ∃ lv ev, r = .returned (.tuple #[.agg #[.int .i64 x.st, .int .i64 x.lf], lv, ev]) ∧ ActRow w' w.heap.size lv x.l ∧ Ev w' ev x.at_ x.n ∧ Below w.heap.size w w'
def PAns2Q (x : Ans2) (w : World) (r : Ending) (w' : World) : Prop := ∃ lv ev, r = .returned (.tuple #[.agg #[.bool x.d, .string x.c], lv, ev]) ∧ ActRow w' w.heap.size lv x.l ∧ Ev w' ev 0 x.n ∧ Below w.heap.size w w'
def PCopyQ (x : Ans2) (w : World) (r : Ending) (w' : World) : Prop := ∃ lv ev, r = .returned (.tuple #[lv, ev]) ∧ ActRow w' w.heap.size lv x.l ∧ Ev w' ev 0 x.n ∧ Below w.heap.size w w'
def PModeQ (x : AnsM) (w : World) (r : Ending) (w' : World) : Prop := ∃ ev, r = .returned (.tuple #[.agg #[.bool x.e, .int .i64 x.a, .int .i64 x.p], ev]) ∧ Ev w' ev x.at_ x.n ∧ Below w.heap.size w w'
theorem heardS_len (e : Bool) (a p st lf : Int) (s : ByteArray) (number : Bool) : (heardS e a p st lf s number).l.length ≤ 3 := by
  unfold heardS; repeat' split
  all_goals simp
theorem heardS_at (e : Bool) (a p st lf : Int) (s : ByteArray) (number : Bool) : (heardS e a p st lf s number).at_ = 0 := by
  unfold heardS; repeat' split
  all_goals rfl
theorem dueS_at (e : Bool) (a p st lf : Int) : (dueS e a p st lf).at_ = 0 := by
  unfold dueS; repeat' split
  all_goals rfl
theorem dueS_len (e : Bool) (a p st lf : Int) : (dueS e a p st lf).l.length ≤ 3 := by
  unfold dueS; repeat' split
  all_goals simp
theorem startS_len (e : Bool) (a p t : Int) (noted : Bool) : (startS e a p t noted).l.length ≤ 3 := by
  unfold startS; repeat' split
  all_goals simp
theorem takeS_len (e : Bool) (a p : Int) : (takeS e a p).l.length ≤ 3 := by
  unfold takeS caL; repeat' split
  all_goals simp
theorem judgeS_len (e : Bool) (a p : Int) (d : Bool) (c s : ByteArray) : (judgeS e a p d c s).l.length ≤ 3 := by
  unfold judgeS; repeat' split
  all_goals simp
theorem copyS_len (e : Bool) (a p : Int) (d : Bool) (c : ByteArray) : (copyS e a p d c).l.length ≤ 3 := by
  unfold copyS caL; repeat' split
  all_goals simp
theorem Acts.drewN {w : World} {N : Nat} {v : Value} {l : ActL} (h : Acts w N v l) (n : Nat) : Acts (w.drewN n) N v l := h
end Go.Proofs.YtigmgbnfiiobeaaDoor

/-
  Arguments opened: conditions, wants, what is kept.
-/
namespace Go.Proofs.YtigmgbnfiiobeaaDoor
open Go.ChangeShapes Go.WideShapes Go.ChangeAt Go.RowKit

theorem own : ownKnob Tryd.prog.godebug = none := by kernel_rfl
theorem typesSize : Tryd.prog.types.size = 156 := by kernel_rfl
theorem cellsString : Tryd.prog.cellsOf 9 = 1 := by kernel_rfl
theorem cellsInt : Tryd.prog.cellsOf 3 = 1 := by kernel_rfl
theorem cellsBool : Tryd.prog.cellsOf 4 = 1 := by kernel_rfl
theorem cellsCond : Tryd.prog.cellsOf 37 = 3 := by kernel_rfl
theorem cellsWant : Tryd.prog.cellsOf 47 = 2 := by kernel_rfl
theorem two {α : Type} {l : List α} (h : l.length = 2) : ∃ a b, l = [a, b] := by
  match l, h with
  | [a, b], _ => exact ⟨a, b, rfl⟩
theorem three {α : Type} {l : List α} (h : l.length = 3) : ∃ a b c, l = [a, b, c] := by
  match l, h with
  | [a, b, c], _ => exact ⟨a, b, c, rfl⟩
section
variable {H : Type} {enc : TypeId × Value → H} {W : World} {base : Nat} {spare : Nat → Bool} {held : Bool}
theorem one_int {n : Nat} {c : Value} {x : DataW H × List MemPlace} (h : DataW.trod enc Tryd.prog W base spare held n 3 [c] = some x) : ∃ k, c = .int .i64 k ∧ x.2 = [] := by
  obtain ⟨k, e, hx, _⟩ := DataW.trod_int Tryd.underlying3 h
  exact ⟨k, List.head_eq_of_cons_eq e, by rw [hx]⟩
theorem one_bool {n : Nat} {c : Value} {x : DataW H × List MemPlace} (h : DataW.trod enc Tryd.prog W base spare held n 4 [c] = some x) : ∃ k, c = .bool k ∧ x.2 = [] := by
  obtain ⟨k, e, hx⟩ := DataW.trod_bool Tryd.underlying4 h
  exact ⟨k, List.head_eq_of_cons_eq e, by rw [hx]⟩
theorem one_string {n : Nat} {c : Value} {x : DataW H × List MemPlace} (h : DataW.trod enc Tryd.prog W base spare held n 9 [c] = some x) : ∃ k, c = .string k ∧ x.2 = [] := by
  obtain ⟨s, e, hx, _⟩ := DataW.trod_string Tryd.underlying9 h
  exact ⟨s, List.head_eq_of_cons_eq e, by rw [hx]⟩
set_option maxRecDepth 100000 in
set_option maxHeartbeats 1000000 in
theorem open_cond {r : Reach} {b0 : Nat} {v : Value} {d : DataW H} {p : List MemPlace}
    (hv : Value.okWide Tryd.prog W r b0 37 v) (h : DataW.Trod enc Tryd.prog W base spare held 37 v d p) :
    ∃ (e : Bool) (a b : Int), v = .agg #[.bool e, .int .i64 a, .int .i64 b] ∧ p = [] := by
  obtain ⟨cs, rfl, hsz⟩ := okWide_struct Tryd.underlying37 hv
  obtain ⟨l⟩ := cs
  obtain ⟨c0, c1, c2, rfl⟩ := three (l := l) (by simpa [cellsCond] using hsz)
  obtain ⟨fuel, hf⟩ := h
  obtain ⟨xs, n, _, hx, hl, hlen, hfl⟩ := DataW.trod_struct Tryd.underlying37 hf
  obtain ⟨x0, x1, x2, rfl⟩ := three (l := xs) hlen
  have g0 : DataW.trod enc Tryd.prog W base spare held n 4 [c0] = some x0 := by simpa [Value.cells, cellsBool] using hfl 0 _ rfl
  have g1 : DataW.trod enc Tryd.prog W base spare held n 3 [c1] = some x1 := by simpa [Value.cells, cellsInt] using hfl 1 _ rfl
  have g2 : DataW.trod enc Tryd.prog W base spare held n 3 [c2] = some x2 := by simpa [Value.cells, cellsInt] using hfl 2 _ rfl
  obtain ⟨k0, rfl, e0⟩ := one_bool g0
  obtain ⟨k1, rfl, e1⟩ := one_int g1
  obtain ⟨k2, rfl, e2⟩ := one_int g2
  simp only [Prod.mk.injEq, List.flatMap_cons, List.flatMap_nil, e0, e1, e2, List.append_nil] at hx
  exact ⟨k0, k1, k2, rfl, hx.2⟩
set_option maxRecDepth 100000 in
set_option maxHeartbeats 1000000 in
theorem open_want {r : Reach} {b0 : Nat} {v : Value} {d : DataW H} {p : List MemPlace}
    (hv : Value.okWide Tryd.prog W r b0 47 v) (h : DataW.Trod enc Tryd.prog W base spare held 47 v d p) :
    ∃ (a b : Int), v = .agg #[.int .i64 a, .int .i64 b] ∧ p = [] := by
  obtain ⟨cs, rfl, hsz⟩ := okWide_struct Tryd.underlying47 hv
  obtain ⟨l⟩ := cs
  obtain ⟨c0, c1, rfl⟩ := two (l := l) (by simpa [cellsWant] using hsz)
  obtain ⟨fuel, hf⟩ := h
  obtain ⟨xs, n, _, hx, hl, hlen, hfl⟩ := DataW.trod_struct Tryd.underlying47 hf
  obtain ⟨x0, x1, rfl⟩ := two (l := xs) hlen
  have g0 : DataW.trod enc Tryd.prog W base spare held n 3 [c0] = some x0 := by simpa [Value.cells, cellsInt] using hfl 0 _ rfl
  have g1 : DataW.trod enc Tryd.prog W base spare held n 3 [c1] = some x1 := by simpa [Value.cells, cellsInt] using hfl 1 _ rfl
  obtain ⟨k0, rfl, e0⟩ := one_int g0
  obtain ⟨k1, rfl, e1⟩ := one_int g1
  simp only [Prod.mk.injEq, List.flatMap_cons, List.flatMap_nil, e0, e1, List.append_nil] at hx
  exact ⟨k0, k1, rfl, hx.2⟩
end
end Go.Proofs.YtigmgbnfiiobeaaDoor
