import Derived.Test.YtoijhecphgdfnaaDoorDcLaw
import Derived.OwnWalk
import Derived.Laws.AppendOwn
import Derived.Test.YtoijhecphgdfnaaDoorCards
import Derived.Test.YtoijhecphgdfnaaDoorTie
import Derived.ProofKit
import Derived.OpenShut
import Derived.Deep.DeepHandedRow
import Derived.Deep.Slices
import Derived.Lib.LaidTab
import Derived.LaidMore
import Derived.ChangeMaps5
/-
  Lists of acts of a call's own: made, grown, kept.
-/
namespace Go.Proofs.YtoijhecphgdfnaaDoor
open Go.RowKit

theorem below_drewN {B : Nat} {w w' : World} (h : Below B w w') (n : Nat) : Below B w (w'.drewN n) := h.trans ⟨rfl, rfl, rfl, Nat.le_refl _, fun _ _ => rfl⟩
def acells (y : Int × ByteArray) : List Value := [.int .i64 y.1, .string y.2]
def ActRow (w : World) (B : Nat) (v : Value) (l : ActL) : Prop := w.ownsRow B 68 2 v l.length (l.flatMap acells)
theorem actinfo : ∃ i z, Tryd.prog.info? 68 = some i ∧ i.zero = some z ∧ z.cells.size = 2 ∧ i.size = 2 ∧ i.bytes = 24 := by
  have h : (Tryd.prog.info? 68).map (fun i => (i.zero.map (fun z => z.cells.size), i.size, i.bytes)) = some (some 2, 2, 24) := by kernel_rfl
  obtain ⟨i, hi, e⟩ := Option.map_eq_some_iff.1 h
  simp only [Prod.mk.injEq] at e
  obtain ⟨z, hz, e1⟩ := Option.map_eq_some_iff.1 e.1
  exact ⟨i, z, hi, hz, e1, e.2.1, e.2.2⟩
theorem aflat_get : ∀ (xs : ActL) (k : Nat) (x : Int × ByteArray), xs[k]? = some x → ∀ q, q < 2 → (xs.flatMap acells)[k * 2 + q]? = (acells x)[q]?
  | [], k, x, h, q, hq => by simp at h
  | y :: r, 0, x, h, q, hq => by
    simp only [List.getElem?_cons_zero, Option.some.injEq] at h
    subst h
    rw [List.flatMap_cons, List.getElem?_append_left (by simp [acells]; omega)]
    simp
  | y :: r, k + 1, x, h, q, hq => by
    rw [List.getElem?_cons_succ] at h
    rw [List.flatMap_cons, List.getElem?_append_right (by simp [acells]; omega)]
    have := aflat_get r k x h q hq
    rw [← this]
    congr 1
    simp [acells]; omega
theorem ActRow.nil (w : World) (B : Nat) : ActRow w B (.slice none 0 0) [] := World.ownsRow_nil w B _ 2
theorem ActRow.isSlice {w : World} {B : Nat} {v : Value} {xs : ActL} (h : ActRow w B v xs) : ∃ a c, v = .slice a xs.length c ∧ xs.length ≤ c := by
  rcases h.2 with ⟨rfl, h0⟩ | ⟨g, cap, cur, rfl, _, _, hc, _⟩
  · exact ⟨none, 0, by rw [h0], by omega⟩
  · exact ⟨_, _, rfl, hc⟩
theorem ActRow.below {w w' : World} {B : Nat} {v : Value} {xs : ActL} (h : ActRow w B v xs) (hk : Below w.heap.size w w') : ActRow w' B v xs := by
  refine ⟨h.1, ?_⟩
  rcases h.2 with h | ⟨g, cap, cur, hv, hbg, hg, r⟩
  · exact Or.inl h
  · refine Or.inr ⟨g, cap, cur, hv, hbg, ?_, r⟩
    rw [hk.block g (by rcases Nat.lt_or_ge g w.heap.size with q | q
                       · exact q
                       · rw [Array.getElem?_eq_none q] at hg; cases hg)]
    exact hg
theorem ActRow.mono {w : World} {B C : Nat} {v : Value} {xs : ActL} (h : ActRow w B v xs) (hc : C ≤ B) : ActRow w C v xs := by
  refine ⟨h.1, ?_⟩
  rcases h.2 with h | ⟨g, cap, cur, hv, hbg, r⟩
  · exact Or.inl h
  · exact Or.inr ⟨g, cap, cur, hv, Nat.le_trans hc hbg, r⟩
theorem ActRow.acts {w : World} {B : Nat} {v : Value} {xs : ActL} (h : ActRow w B v xs) : Acts w B v xs := by
  obtain ⟨a, c, rfl, hc⟩ := h.isSlice
  refine ⟨a, c, rfl, hc, fun j y hj => ?_⟩
  have hcl := fun g e => World.ownsRow.cells h (g := g) e
  rcases h.2 with ⟨e, h0⟩ | ⟨g, cap, cur, e, hbg, hg, r⟩
  · have := List.getElem?_eq_none (l := xs) (i := j) (by omega); rw [this] at hj; cases hj
  · obtain ⟨rfl, rfl⟩ : a = some ⟨g, 0, none⟩ ∧ c = cap := by simpa using e
    have h0 := hcl g rfl (j * 2) (.int .i64 y.1) (by have := aflat_get xs j y hj 0 (by omega); simpa [acells] using this)
    have h1 := hcl g rfl (j * 2 + 1) (.string y.2) (by have := aflat_get xs j y hj 1 (by omega); simpa [acells] using this)
    rw [Addr.add_lit] at h0 h1
    refine ⟨g, 0, rfl, hbg, ?_, h0, by rw [← h1, Nat.add_assoc]⟩
    rcases Nat.lt_or_ge g w.heap.size with q | q
    · exact q
    · rw [Array.getElem?_eq_none q] at hg; cases hg
theorem ActRow.set {w : World} {B : Nat} {v : Value} {xs : ActL} (h : ActRow w B v xs) {p : Addr} {u : Value} (hp : ∀ g, v.ownBlock = some g → g ≠ p.block) : ActRow (w.setCell p u) B v xs := by
  refine ⟨h.1, ?_⟩
  rcases h.2 with h | ⟨g, cap, cur, rfl, hbg, hg, r⟩
  · exact Or.inl h
  · refine Or.inr ⟨g, cap, cur, rfl, hbg, ?_, r⟩
    rw [Below.heap_setCell w p u g (hp g rfl)]
    exact hg
/-- What the initiator's calls answer. -/
def AnsQ (x : Ans) (w : World) (r : Ending) (w' : World) : Prop := ∃ lv, r = .returned (.tuple #[.agg #[.int .i64 x.st, .int .i64 x.lf], lv, .int .i64 x.n]) ∧ ActRow w' w.heap.size lv x.l ∧ Below w.heap.size w w'
def AnsQ4 (x : Ans) (w : World) (r : Ending) (w' : World) : Prop := ∃ lv, r = .returned (.tuple #[.agg #[.int .i64 x.st, .int .i64 x.lf], lv, .int .i64 x.at_, .int .i64 x.n]) ∧ ActRow w' w.heap.size lv x.l ∧ Below w.heap.size w w'
/-- What the responder's calls answer. -/
def Ans2Q (x : Ans2) (w : World) (r : Ending) (w' : World) : Prop := ∃ lv, r = .returned (.tuple #[.agg #[.bool x.d, .string x.c], lv, .int .i64 x.n]) ∧ ActRow w' w.heap.size lv x.l ∧ Below w.heap.size w w'
def CopyQ (x : Ans2) (w : World) (r : Ending) (w' : World) : Prop := ∃ lv, r = .returned (.tuple #[lv, .int .i64 x.n]) ∧ ActRow w' w.heap.size lv x.l ∧ Below w.heap.size w w'
theorem Box.new' (w : World) (cs : Array Value) (t : TypeId) (n : Nat) (hn : w.heap.size = n) : Box (w.alloc (.cells cs t)) n cs := hn ▸ Box.new w cs t
theorem Box.belowB {w w' : World} {b B : Nat} {cs : Array Value} (h : Box w b cs) (hb : Below B w w') (hB : b < B) (hw : B ≤ w.heap.size) : Box w' b cs :=
  ⟨by have := hb.size; omega, fun o => by rw [hb.cell (p := ⟨b, o, none⟩) hB]; exact h.cell o, fun o => by rw [hb.frozen (p := ⟨b, o, none⟩) hB]; exact h.free o⟩
theorem ActRow.ne {w : World} {B : Nat} {v : Value} {xs : ActL} (h : ActRow w B v xs) {g : Nat} (hg : v.ownBlock = some g) : B ≤ g := by
  rcases h.2 with ⟨rfl, _⟩ | ⟨g', cap, cur, rfl, hbg, _⟩
  · cases hg
  · simp [Value.ownBlock] at hg; omega
/-- A literal list. -/
theorem ActRow.lit (w : World) (l : ActL) (n : Nat) (cs : Array Value) (hn : n = l.length) (hc : cs = (l.flatMap acells).toArray) (hl : l.length ≤ 100) (h0 : 0 < l.length) : ActRow (w.alloc (.cells cs 68)) w.heap.size (.slice (some ⟨w.heap.size, 0, none⟩) n n) l := by
  subst hn hc
  have hfl : (l.flatMap acells).length = l.length * 2 := by
    clear h0 hl
    induction l with
    | nil => rfl
    | cons y r ih => rw [List.flatMap_cons, List.length_append, ih, List.length_cons]; simp [acells]; omega
  refine ⟨hfl, Or.inr ⟨w.heap.size, l.length, (l.flatMap acells).toArray, rfl, Nat.le_refl _, ?_, Nat.le_refl _, by unfold maxLen; omega, ?_, ?_⟩⟩
  · show (w.heap.push _)[w.heap.size]? = _
    simp
  · simp [hfl]
  · rw [← hfl]; exact List.take_length
theorem ActRow.lit' (w : World) (B : Nat) (l : ActL) (b n : Nat) (cs : Array Value) (hb : w.heap.size = b) (hB : B ≤ b) (hn : n = l.length) (hc : cs = (l.flatMap acells).toArray) (hl : l.length ≤ 100) (h0 : 0 < l.length) : ActRow (w.alloc (.cells cs 68)) B (.slice (some ⟨b, 0, none⟩) n n) l :=
  (hb ▸ ActRow.lit w l n cs hn hc hl h0 : ActRow (w.alloc (.cells cs 68)) b (.slice (some ⟨b, 0, none⟩) n n) l).mono hB
theorem below_grown {w w' : World} {B : Nat} {row : Option Nat} (h : w.grownBy w' row) (hB : B ≤ w.heap.size) (hr : ∀ g, row = some g → B ≤ g) : Below B w w' :=
  ⟨h.os, h.tape, h.output, h.size, fun k hk => h.block k (by omega) (fun e => by have := hr k e.symm; omega)⟩
/-- Worlds that keep what lies in V. -/
def Sub (V : World) : Type := { x : World // Below V.heap.size V x }
theorem wp_region_class {P : Program} {V : World} {id : Nat} {Q : Exit → Act → World → Prop} {a : Act} {w : World} {l : List Oper} (hw : Below V.heap.size V w) (hm : P.follows .mixedOrders = true) (hB : Region.lexB .any l.toArray = true)
    (h : wpQuiet P l.toArray (fun w' => ∃ x : Sub V, w' = x.1) (fun a' => ∀ w', (∃ x : Sub V, w' = x.1) → Q .normal a' w') l a) : (Code.region id l.toArray true).wp P Q a w :=
  wp_region_quiet (C := fun w' => ∃ x : Sub V, w' = x.1) hm hB ⟨⟨_, Below.drew hw⟩, rfl⟩ (by simpa using h)
theorem sub_of {P : Program} {f : FuncId} {args : Array Value} {R : Ending} {V : World} (c : ∀ w, Calls P f args w fun r w' => r = R ∧ Below w.heap.size w w') (x : Sub V) : Calls P f args x.1 fun r x' => r = R ∧ ∃ y : Sub V, x' = y.1 :=
  (c x.1).mono fun _ x' ⟨h, hb⟩ => ⟨h, ⟨x', below_then x.2 hb⟩, rfl⟩
theorem sub_box {V : World} {b : Nat} {cs : Array Value} (h : Box V b cs) (x : Sub V) (o : Nat) : x.1.cell? ⟨b, o, none⟩ = cs[o]? := (h.below x.2).cell o
/-- append, in the walk, by an equation of its run. -/
theorem wpList_append_run {P : Program} {w w' : World} {ops : Array Oper} {rest : List Oper} {o : Oper} {a : Act} {Q : Exit → Act → World → Prop} (hgd : o.guard = none) (s x : Operand) (t : TypeId) (v' : Value)
    (ho : o.op = .call { callee := .builtin .append, args := #[s, x], argTypes := #[t, t] }) (hr : (Builtin.append_ #[t, t] o.type #[a.eval s, a.eval x]).run P w = .ok v' w') (h : wpList P ops Q rest (a.put o.dst v') w') : wpList P ops Q (o :: rest) a w :=
  wpList_plain hgd fun _ hK => by
    unfold Oper.wp execOp
    simp only [ho, resolve, invoke, builtin, Sem.run_bind, Sem.run_pure, Result.andThen_ok, List.map_toArray, List.map_cons, List.map_nil, hr]
    exact hK _ _ h
end Go.Proofs.YtoijhecphgdfnaaDoor

/-
  What the program's package-level variables hold: the words of conditions, the table of codes.
-/
namespace Go.Proofs.YtoijhecphgdfnaaDoor
open Go.RowKit

def CV : List Value := [.string ⟨#[67, 65]⟩, .bool true, .int .i64 3, .string ⟨#[67, 69]⟩, .bool true, .int .i64 2, .string ⟨#[67, 82]⟩, .bool true, .int .i64 2, .string ⟨#[65, 65]⟩, .bool false, .int .i64 3, .string ⟨#[65, 69]⟩, .bool false, .int .i64 2, .string ⟨#[65, 82]⟩, .bool false, .int .i64 2]
def PVc (w : World) : Prop := ∀ j u, CV[j]? = some u → w.cell? ⟨0, j, none⟩ = some u
theorem PVc.below {w w' : World} (h : PVc w) (hb : Below w.heap.size w w') : PVc w' := fun j u hu => by
  have h1 : 0 < w.heap.size := cell_lt (h 0 _ rfl)
  rw [hb.cell (p := ⟨0, j, none⟩) h1]; exact h j u hu
end Go.Proofs.YtoijhecphgdfnaaDoor

/-
  What the program's calls owe: the document's answers. (PV: what its package-level variables hold: laid by the text DcVar.)
-/
namespace Go.Proofs.YtoijhecphgdfnaaDoor
open Go.RowKit

def PAnsQ (x : Ans) (w : World) (r : Ending) (w' : World) : Prop := ∃ lv ev, r = .returned (.tuple #[.agg #[.int .i64 x.st, .int .i64 x.lf], lv, ev]) ∧ ActRow w' w.heap.size lv x.l ∧ Ev w' ev x.at_ x.n ∧ Below w.heap.size w w'
def PAns2Q (x : Ans2) (w : World) (r : Ending) (w' : World) : Prop := ∃ lv ev, r = .returned (.tuple #[.agg #[.bool x.d, .string x.c], lv, ev]) ∧ ActRow w' w.heap.size lv x.l ∧ Ev w' ev 0 x.n ∧ Below w.heap.size w w'
def PCopyQ (x : Ans2) (w : World) (r : Ending) (w' : World) : Prop := ∃ lv ev, r = .returned (.tuple #[lv, ev]) ∧ ActRow w' w.heap.size lv x.l ∧ Ev w' ev 0 x.n ∧ Below w.heap.size w w'
def PModeQ (x : AnsM) (w : World) (r : Ending) (w' : World) : Prop := ∃ ev, r = .returned (.tuple #[.agg #[.bool x.e, .int .i64 x.a, .int .i64 x.p], ev]) ∧ Ev w' ev x.at_ x.n ∧ Below w.heap.size w w'
theorem heardS_len (e : Bool) (a p st lf : Int) (s : ByteArray) (number : Bool) : (heardS e a p st lf s number).l.length ≤ 3 := by
  unfold heardS; repeat' split
  all_goals simp
theorem heardS_at (e : Bool) (a p st lf : Int) (s : ByteArray) (number : Bool) : (heardS e a p st lf s number).at_ = 0 := by
  unfold heardS; repeat' split
  all_goals rfl
theorem dueS_at (e : Bool) (a p st lf : Int) : (dueS e a p st lf).at_ = 0 := by
  unfold dueS; repeat' split
  all_goals rfl
theorem dueS_len (e : Bool) (a p st lf : Int) : (dueS e a p st lf).l.length ≤ 3 := by
  unfold dueS; repeat' split
  all_goals simp
theorem startS_len (e : Bool) (a p t : Int) (noted : Bool) : (startS e a p t noted).l.length ≤ 3 := by
  unfold startS; repeat' split
  all_goals simp
theorem takeS_len (e : Bool) (a p : Int) : (takeS e a p).l.length ≤ 3 := by
  unfold takeS caL; repeat' split
  all_goals simp
theorem judgeS_len (e : Bool) (a p : Int) (d : Bool) (c s : ByteArray) : (judgeS e a p d c s).l.length ≤ 3 := by
  unfold judgeS; repeat' split
  all_goals simp
theorem copyS_len (e : Bool) (a p : Int) (d : Bool) (c : ByteArray) : (copyS e a p d c).l.length ≤ 3 := by
  unfold copyS caL; repeat' split
  all_goals simp
theorem Acts.drewN {w : World} {N : Nat} {v : Value} {l : ActL} (h : Acts w N v l) (n : Nat) : Acts (w.drewN n) N v l := h
end Go.Proofs.YtoijhecphgdfnaaDoor

/-
  Arguments opened: conditions, wants, what is kept.
-/
namespace Go.Proofs.YtoijhecphgdfnaaDoor
open Go.ChangeShapes Go.WideShapes Go.ChangeAt Go.RowKit

theorem own : ownKnob Tryd.prog.godebug = none := by kernel_rfl
theorem typesSize : Tryd.prog.types.size = 141 := by kernel_rfl
theorem cellsString : Tryd.prog.cellsOf 9 = 1 := by kernel_rfl
theorem cellsInt : Tryd.prog.cellsOf 3 = 1 := by kernel_rfl
theorem cellsBool : Tryd.prog.cellsOf 4 = 1 := by kernel_rfl
theorem cellsCond : Tryd.prog.cellsOf 46 = 3 := by kernel_rfl
theorem cellsWant : Tryd.prog.cellsOf 72 = 2 := by kernel_rfl
theorem two {α : Type} {l : List α} (h : l.length = 2) : ∃ a b, l = [a, b] := by
  match l, h with
  | [a, b], _ => exact ⟨a, b, rfl⟩
theorem three {α : Type} {l : List α} (h : l.length = 3) : ∃ a b c, l = [a, b, c] := by
  match l, h with
  | [a, b, c], _ => exact ⟨a, b, c, rfl⟩
section
variable {H : Type} {enc : TypeId × Value → H} {W : World} {base : Nat} {spare : Nat → Bool} {held : Bool}
theorem one_int {n : Nat} {c : Value} {x : DataW H × List MemPlace} (h : DataW.trod enc Tryd.prog W base spare held n 3 [c] = some x) : ∃ k, c = .int .i64 k ∧ x.2 = [] := by
  obtain ⟨k, e, hx, _⟩ := DataW.trod_int Tryd.underlying3 h
  exact ⟨k, List.head_eq_of_cons_eq e, by rw [hx]⟩
theorem one_bool {n : Nat} {c : Value} {x : DataW H × List MemPlace} (h : DataW.trod enc Tryd.prog W base spare held n 4 [c] = some x) : ∃ k, c = .bool k ∧ x.2 = [] := by
  obtain ⟨k, e, hx⟩ := DataW.trod_bool Tryd.underlying4 h
  exact ⟨k, List.head_eq_of_cons_eq e, by rw [hx]⟩
theorem one_string {n : Nat} {c : Value} {x : DataW H × List MemPlace} (h : DataW.trod enc Tryd.prog W base spare held n 9 [c] = some x) : ∃ k, c = .string k ∧ x.2 = [] := by
  obtain ⟨s, e, hx, _⟩ := DataW.trod_string Tryd.underlying9 h
  exact ⟨s, List.head_eq_of_cons_eq e, by rw [hx]⟩
set_option maxRecDepth 100000 in
set_option maxHeartbeats 1000000 in
theorem open_cond {r : Reach} {b0 : Nat} {v : Value} {d : DataW H} {p : List MemPlace}
    (hv : Value.okWide Tryd.prog W r b0 46 v) (h : DataW.Trod enc Tryd.prog W base spare held 46 v d p) :
    ∃ (e : Bool) (a b : Int), v = .agg #[.bool e, .int .i64 a, .int .i64 b] ∧ p = [] := by
  obtain ⟨cs, rfl, hsz⟩ := okWide_struct Tryd.underlying46 hv
  obtain ⟨l⟩ := cs
  obtain ⟨c0, c1, c2, rfl⟩ := three (l := l) (by simpa [cellsCond] using hsz)
  obtain ⟨fuel, hf⟩ := h
  obtain ⟨xs, n, _, hx, hl, hlen, hfl⟩ := DataW.trod_struct Tryd.underlying46 hf
  obtain ⟨x0, x1, x2, rfl⟩ := three (l := xs) hlen
  have g0 : DataW.trod enc Tryd.prog W base spare held n 4 [c0] = some x0 := by simpa [Value.cells, cellsBool] using hfl 0 _ rfl
  have g1 : DataW.trod enc Tryd.prog W base spare held n 3 [c1] = some x1 := by simpa [Value.cells, cellsInt] using hfl 1 _ rfl
  have g2 : DataW.trod enc Tryd.prog W base spare held n 3 [c2] = some x2 := by simpa [Value.cells, cellsInt] using hfl 2 _ rfl
  obtain ⟨k0, rfl, e0⟩ := one_bool g0
  obtain ⟨k1, rfl, e1⟩ := one_int g1
  obtain ⟨k2, rfl, e2⟩ := one_int g2
  simp only [Prod.mk.injEq, List.flatMap_cons, List.flatMap_nil, e0, e1, e2, List.append_nil] at hx
  exact ⟨k0, k1, k2, rfl, hx.2⟩
set_option maxRecDepth 100000 in
set_option maxHeartbeats 1000000 in
theorem open_want {r : Reach} {b0 : Nat} {v : Value} {d : DataW H} {p : List MemPlace}
    (hv : Value.okWide Tryd.prog W r b0 72 v) (h : DataW.Trod enc Tryd.prog W base spare held 72 v d p) :
    ∃ (a b : Int), v = .agg #[.int .i64 a, .int .i64 b] ∧ p = [] := by
  obtain ⟨cs, rfl, hsz⟩ := okWide_struct Tryd.underlying72 hv
  obtain ⟨l⟩ := cs
  obtain ⟨c0, c1, rfl⟩ := two (l := l) (by simpa [cellsWant] using hsz)
  obtain ⟨fuel, hf⟩ := h
  obtain ⟨xs, n, _, hx, hl, hlen, hfl⟩ := DataW.trod_struct Tryd.underlying72 hf
  obtain ⟨x0, x1, rfl⟩ := two (l := xs) hlen
  have g0 : DataW.trod enc Tryd.prog W base spare held n 3 [c0] = some x0 := by simpa [Value.cells, cellsInt] using hfl 0 _ rfl
  have g1 : DataW.trod enc Tryd.prog W base spare held n 3 [c1] = some x1 := by simpa [Value.cells, cellsInt] using hfl 1 _ rfl
  obtain ⟨k0, rfl, e0⟩ := one_int g0
  obtain ⟨k1, rfl, e1⟩ := one_int g1
  simp only [Prod.mk.injEq, List.flatMap_cons, List.flatMap_nil, e0, e1, List.append_nil] at hx
  exact ⟨k0, k1, rfl, hx.2⟩
end
end Go.Proofs.YtoijhecphgdfnaaDoor
