import Derived.Test.YtoijhecphgdfnaaGreatDoorDcRow
import Derived.Test.YtoijhecphgdfnaaGreatDoorCards
import Derived.Test.YtoijhecphgdfnaaGreatDoorTie
import Derived.ProofKit
import Derived.OpenShut
import Derived.Deep.DeepHandedRow
import Derived.Deep.Slices
import Derived.Lib.LaidTab
import Derived.LaidMore
import Derived.ChangeMaps5
import Derived.Deep.MidRow
/-
  What the program's package-level variables hold: the words of conditions, the table of codes.
-/
namespace Go.Proofs.YtoijhecphgdfnaaGreatDoor
open Go.RowKit

def CV : List Value := [.string ⟨#[67, 65]⟩, .bool true, .int .i64 3, .string ⟨#[67, 69]⟩, .bool true, .int .i64 2, .string ⟨#[67, 82]⟩, .bool true, .int .i64 2, .string ⟨#[65, 65]⟩, .bool false, .int .i64 3, .string ⟨#[65, 69]⟩, .bool false, .int .i64 2, .string ⟨#[65, 82]⟩, .bool false, .int .i64 2]
def PVc (w : World) : Prop := ∀ j u, CV[j]? = some u → w.cell? ⟨0, j, none⟩ = some u
theorem PVc.below {w w' : World} (h : PVc w) (hb : Below w.heap.size w w') : PVc w' := fun j u hu => by
  have h1 : 0 < w.heap.size := cell_lt (h 0 _ rfl)
  rw [hb.cell (p := ⟨0, j, none⟩) h1]; exact h j u hu
end Go.Proofs.YtoijhecphgdfnaaGreatDoor

/-
  What the program's calls owe: the document's answers. (PV: what its package-level variables hold: laid by the text DcVar.)
-/
namespace Go.Proofs.YtoijhecphgdfnaaGreatDoor
open Go.RowKit

def PAnsQ (x : Ans) (w : World) (r : Ending) (w' : World) : Prop := ∃ lv ev, r = .returned (.tuple #[.agg #[.int .i64 x.st, .int .i64 x.lf], lv, ev]) ∧ ActRow w' w.heap.size lv x.l ∧ Ev w' ev x.at_ x.n ∧ Below w.heap.size w w'
theorem heardS_len (e : Bool) (a p st lf : Int) (s : ByteArray) (number : Bool) : (heardS e a p st lf s number).l.length ≤ 3 := by
  unfold heardS; repeat' split
  all_goals simp
theorem dueS_len (e : Bool) (a p st lf : Int) : (dueS e a p st lf).l.length ≤ 3 := by
  unfold dueS; repeat' split
  all_goals simp
theorem startS_len (e : Bool) (a p t : Int) (noted : Bool) : (startS e a p t noted).l.length ≤ 3 := by
  unfold startS; repeat' split
  all_goals simp
theorem Acts.drewN {w : World} {N : Nat} {v : Value} {l : ActL} (h : Acts w N v l) (n : Nat) : Acts (w.drewN n) N v l := h
end Go.Proofs.YtoijhecphgdfnaaGreatDoor

/-
  Arguments opened: conditions, wants, what is kept.
-/
namespace Go.Proofs.YtoijhecphgdfnaaGreatDoor
open Go.ChangeShapes Go.WideShapes Go.ChangeAt Go.RowKit

theorem own : ownKnob Tryz.prog.godebug = none := by kernel_rfl
theorem typesSize : Tryz.prog.types.size = 216 := by kernel_rfl
theorem cellsString : Tryz.prog.cellsOf 9 = 1 := by kernel_rfl
theorem cellsInt : Tryz.prog.cellsOf 3 = 1 := by kernel_rfl
theorem cellsBool : Tryz.prog.cellsOf 4 = 1 := by kernel_rfl
theorem cellsCond : Tryz.prog.cellsOf 45 = 3 := by kernel_rfl
theorem two {α : Type} {l : List α} (h : l.length = 2) : ∃ a b, l = [a, b] := by
  match l, h with
  | [a, b], _ => exact ⟨a, b, rfl⟩
theorem three {α : Type} {l : List α} (h : l.length = 3) : ∃ a b c, l = [a, b, c] := by
  match l, h with
  | [a, b, c], _ => exact ⟨a, b, c, rfl⟩
section
variable {H : Type} {enc : TypeId × Value → H} {W : World} {base : Nat} {spare : Nat → Bool} {held : Bool}
theorem one_int {n : Nat} {c : Value} {x : DataW H × List MemPlace} (h : DataW.trod enc Tryz.prog W base spare held n 3 [c] = some x) : ∃ k, c = .int .i64 k ∧ x.2 = [] := by
  obtain ⟨k, e, hx, _⟩ := DataW.trod_int Tryz.underlying3 h
  exact ⟨k, List.head_eq_of_cons_eq e, by rw [hx]⟩
theorem one_bool {n : Nat} {c : Value} {x : DataW H × List MemPlace} (h : DataW.trod enc Tryz.prog W base spare held n 4 [c] = some x) : ∃ k, c = .bool k ∧ x.2 = [] := by
  obtain ⟨k, e, hx⟩ := DataW.trod_bool Tryz.underlying4 h
  exact ⟨k, List.head_eq_of_cons_eq e, by rw [hx]⟩
theorem one_string {n : Nat} {c : Value} {x : DataW H × List MemPlace} (h : DataW.trod enc Tryz.prog W base spare held n 9 [c] = some x) : ∃ k, c = .string k ∧ x.2 = [] := by
  obtain ⟨s, e, hx, _⟩ := DataW.trod_string Tryz.underlying9 h
  exact ⟨s, List.head_eq_of_cons_eq e, by rw [hx]⟩
end
end Go.Proofs.YtoijhecphgdfnaaGreatDoor

/-
  What the listed package-level variables give: the words, the table of codes.
-/
namespace Go.Proofs.YtoijhecphgdfnaaGreatDoor
open Go.ChangeShapes Go.WideShapes Go.ChangeAt Go.RowKit

theorem gCodes : Tryz.prog.globalNamed "courier/decide.codes" = some 0 := by kernel_rfl
theorem tCodes : (Tryz.prog.globals[0]?).map (·.type) = some 188 := by kernel_rfl
theorem cellsCodes : Tryz.prog.cellsOf 188 = 18 := by kernel_rfl
theorem cellsRule : Tryz.prog.cellsOf 187 = 3 := by kernel_rfl
theorem cellsStr' : Tryz.prog.cellsOf 9 = 1 := by kernel_rfl
theorem cellsInt' : Tryz.prog.cellsOf 3 = 1 := by kernel_rfl
theorem cellsBool' : Tryz.prog.cellsOf 4 = 1 := by kernel_rfl
theorem strl_of {s : ByteArray} {l : List UInt8} (h : s.data.toList = l) : s = ⟨l.toArray⟩ := by
  obtain ⟨⟨d⟩⟩ := s; simp at h; subst h; rfl
theorem threeL {α : Type} {l : List α} (h : l.length = 3) : ∃ a b c, l = [a, b, c] := by
  match l, h with
  | [a, b, c], _ => exact ⟨a, b, c, rfl⟩
set_option maxRecDepth 100000 in
set_option maxHeartbeats 1000000 in
theorem rule_of {H : Type} {enc : TypeId × Value → H} {W : World} {base : Nat} {spare : Nat → Bool} {held : Bool} {m : Nat} {cs : List Value} {x : DataW H × List MemPlace} {b : List UInt8} {k : Bool} {n : Int}
    (h : DataW.trod enc Tryz.prog W base spare held m 187 cs = some x) (hx : x.1 = .agg [.lit (.string b), .lit (.bool k), .lit (.int .i64 n)]) : cs = [.string ⟨b.toArray⟩, .bool k, .int .i64 n] := by
  obtain ⟨xs, m2, _, hy, hl, hlen, hf⟩ := DataW.trod_struct Tryz.underlying187 h
  rw [cellsRule] at hl
  obtain ⟨c0, c1, c2, rfl⟩ := threeL hl
  obtain ⟨z0, z1, z2, rfl⟩ := threeL (l := xs) hlen
  have f0 : DataW.trod enc Tryz.prog W base spare held m2 9 [c0] = some z0 := by simpa [cellsStr'] using hf 0 _ rfl
  have f1 : DataW.trod enc Tryz.prog W base spare held m2 4 [c1] = some z1 := by simpa [cellsBool'] using hf 1 _ rfl
  have f2 : DataW.trod enc Tryz.prog W base spare held m2 3 [c2] = some z2 := by simpa [cellsInt'] using hf 2 _ rfl
  obtain ⟨s0, e0, h0, _⟩ := DataW.trod_string Tryz.underlying9 f0
  obtain ⟨k1, e1, h1⟩ := DataW.trod_bool Tryz.underlying4 f1
  obtain ⟨k2, e2, h2, _⟩ := DataW.trod_int Tryz.underlying3 f2
  simp only [List.cons.injEq, and_true] at e0 e1 e2
  subst e0 e1 e2
  rw [hy, h0, h1, h2] at hx
  simp only [List.map_cons, List.map_nil, DataW.agg.injEq, List.cons.injEq, DataW.lit.injEq, Lit.string.injEq, Lit.bool.injEq, Lit.int.injEq, and_true, true_and] at hx
  obtain ⟨a0, a1, a2⟩ := hx
  rw [strl_of a0, a1, a2]
theorem chunk3 {l n : List Value} {j : Nat} (h : (l.drop (j / 3 * 3)).take 3 = (n.drop (j / 3 * 3)).take 3) : l[j]? = n[j]? := by
  have h1 := congrArg (fun q => q[j % 3]?) h
  simp only [List.getElem?_take, List.getElem?_drop] at h1
  rw [if_pos (by omega), if_pos (by omega), show j / 3 * 3 + j % 3 = j by omega] at h1
  exact h1
set_option maxRecDepth 100000 in
set_option maxHeartbeats 1000000 in
theorem codes_of {W : World} {rest : List (String × DataW Unit)} (h : laidMet Tryz.prog (("courier/decide.codes", Rows.laid_courier_decide_codes) :: rest) W) : PVc W := by
  obtain ⟨ps, ⟨g', t', cs, fuel, p, q, hg', ht', hvar, hd, _, _⟩, _⟩ := h
  obtain rfl := Option.some.inj (gCodes.symm.trans hg')
  obtain rfl := Option.some.inj (tCodes.symm.trans ht')
  obtain ⟨xs, m, _, hx, hl, hlen, hfl⟩ := DataW.trod_array Tryz.underlying188 hd
  rw [cellsCodes] at hl
  rw [cellsRule] at hfl
  have hx1 := congrArg Prod.fst hx
  simp only [Rows.laid_courier_decide_codes, DataW.agg.injEq] at hx1
  have el : ∀ i y, i < 6 → xs[i]? = some y → (xs.map (·.1))[i]? = some y.1 := fun i y _ hy => by rw [List.getElem?_map, hy]; rfl
  have ch : ∀ i, i < 6 → (cs.toList.drop (i * 3)).take 3 = (CV.drop (i * 3)).take 3 := fun i hi => by
    have gi := hfl i hi
    obtain ⟨y, hy⟩ : ∃ y, xs[i]? = some y := ⟨_, List.getElem?_eq_getElem (by omega)⟩
    rw [hy] at gi
    have ey := el i y hi hy
    rw [← hx1] at ey
    rcases (by omega : i = 0 ∨ i = 1 ∨ i = 2 ∨ i = 3 ∨ i = 4 ∨ i = 5) with rfl | rfl | rfl | rfl | rfl | rfl
    · exact (rule_of (b := [67, 65]) (k := true) (n := 3) gi (by simpa using ey.symm)).trans rfl
    · exact (rule_of (b := [67, 69]) (k := true) (n := 2) gi (by simpa using ey.symm)).trans rfl
    · exact (rule_of (b := [67, 82]) (k := true) (n := 2) gi (by simpa using ey.symm)).trans rfl
    · exact (rule_of (b := [65, 65]) (k := false) (n := 3) gi (by simpa using ey.symm)).trans rfl
    · exact (rule_of (b := [65, 69]) (k := false) (n := 2) gi (by simpa using ey.symm)).trans rfl
    · exact (rule_of (b := [65, 82]) (k := false) (n := 2) gi (by simpa using ey.symm)).trans rfl
  intro j u hu
  have hj : j < 18 := by
    rcases Nat.lt_or_ge j 18 with g | g
    · exact g
    · rw [List.getElem?_eq_none (by exact g)] at hu; cases hu
  have k := World.var?_cell gCodes hvar j
  have e := chunk3 (ch (j / 3) (by omega))
  rw [← Array.getElem?_toList, e, hu] at k
  simpa using k
end Go.Proofs.YtoijhecphgdfnaaGreatDoor

/-
  outbox as plain data: messages, what is refused, what is done. Of no program.
-/
namespace Go.Proofs.YtoijhecphgdfnaaGreatDoor
open Go.RowKit

/-- A message as it stands; its text: where it lies (tp, tn, tc), its bytes (tx). -/
structure Msg where
  ct : ByteArray
  tp : Option Addr
  tn : Nat
  tc : Nat
  tx : List Int
  e : Bool
  a : Int
  p : Int
  nu : Int
  nt : Bool
  st : Int
  lf : Int
  un : Bool
def zM : Msg := ⟨⟨#[]⟩, none, 0, 0, [], false, 0, 0, 0, false, 0, 0, false⟩
def encM (m : Msg) : List Value := [.string m.ct, .slice m.tp m.tn m.tc, .bool m.e, .int .i64 m.a, .int .i64 m.p, .int .i64 m.nu, .bool m.nt, .int .i64 m.st, .int .i64 m.lf, .bool m.un]
def encO (m : Msg) : List Value := [.string m.ct, .slice m.tp m.tn m.tc, .bool m.e, .int .i64 m.a, .int .i64 m.p, .int .i64 m.nu, .bool m.nt]
theorem encM_len (m : Msg) : (encM m).length = 10 := rfl
theorem encM_one (m : Msg) : ∀ u ∈ encM m, u.oneCell' = true := fun u hu => by
  simp only [encM, List.mem_cons, List.not_mem_nil, or_false] at hu
  rcases hu with rfl | rfl | rfl | rfl | rfl | rfl | rfl | rfl | rfl | rfl <;> rfl
/-- The place of the first of a control id. -/
def fi (s : ByteArray) (ms : List Msg) : Option Nat := ms.findIdx? (fun m => m.ct.toList == s.toList)
def fiI (s : ByteArray) (ms : List Msg) : Int := match fi s ms with | some i => (i : Int) | none => -1
def putS (m : Msg) (ms : List Msg) : List Msg := match fi m.ct ms with | some i => ms.set i m | none => ms ++ [m]
def delS (s : ByteArray) (ms : List Msg) : List Msg := match fi s ms with | some i => ms.eraseIdx i | none => ms
/-- The one that goes out next. -/
def nextS (sq : Bool) : List Msg → Option Msg
  | [] => none
  | m :: r => if m.un = true then (if sq = true then none else nextS sq r) else some m
def cbB (c : Int) : Bool := (decide (48 ≤ c) && decide (c ≤ 57)) || (decide (65 ≤ c) && decide (c ≤ 90)) || (decide (97 ≤ c) && decide (c ≤ 122)) || decide (c = 46) || decide (c = 45)
def ctB (s : ByteArray) : Bool := decide (1 ≤ s.size) && decide (s.size ≤ 18) && s.data.toList.all (fun c => cbB (c.toNat : Int))
def nmB (n : Int) : Bool := decide (1 ≤ n) && decide (n ≤ 2147483647)
/-- Why a message can't stand behind those. -/
def refS (sq : Bool) (ms : List Msg) (m : Msg) : Int :=
  if ctB m.ct = false then 280 else if (fi m.ct ms).isSome = true then 6 else if (decide (m.tn = 0) || decide (8192 < m.tn)) = true then 4 else
  if (okB m.e m.a m.p && (caB m.e m.a || !m.nt)) = false then 220 else if (decide (m.nu ≠ 0) && !(sq && decide (ms.length = 0) && nmB m.nu)) = true then 282 else 0
/-- Acts done to a message: the message, and whether it is over. -/
def tkS (x : Int) (t : Msg × Bool) (k : Int) : Msg × Bool :=
  if k = 3 then ({ t.1 with nt := true }, t.2) else if k = 5 then ({ t.1 with nu := x }, t.2) else if k = 4 then (t.1, true) else t
def tksS (x : Int) (t : Msg × Bool) (l : ActL) : Msg × Bool := l.foldl (fun t y => tkS x t y.1) t
def doS (ms : List Msg) (m : Msg) (x : Int) (l : ActL) : List Msg := if (tksS x (m, false) l).2 = true then delS (tksS x (m, false) l).1.ct ms else putS (tksS x (m, false) l).1 ms
abbrev Deed := ByteArray × Int × ByteArray
def deedsS (c : ByteArray) (l : ActL) : List Deed := l.map fun y => (c, y.1, y.2)
def encD (d : Deed) : List Value := [.string d.1, .int .i64 d.2.1, .string d.2.2]
theorem tkS_ct (x : Int) (t : Msg × Bool) (k : Int) : (tkS x t k).1.ct = t.1.ct ∧ (tkS x t k).1.tp = t.1.tp ∧ (tkS x t k).1.tn = t.1.tn ∧ (tkS x t k).1.tc = t.1.tc ∧ (tkS x t k).1.tx = t.1.tx := by
  unfold tkS; repeat' split
  all_goals exact ⟨rfl, rfl, rfl, rfl, rfl⟩
theorem tksS_ct (x : Int) (l : ActL) : ∀ t : Msg × Bool, (tksS x t l).1.ct = t.1.ct ∧ (tksS x t l).1.tp = t.1.tp ∧ (tksS x t l).1.tn = t.1.tn ∧ (tksS x t l).1.tc = t.1.tc ∧ (tksS x t l).1.tx = t.1.tx := by
  induction l with
  | nil => intro t; exact ⟨rfl, rfl, rfl, rfl, rfl⟩
  | cons y r ih =>
    intro t
    have h := ih (tkS x t y.1)
    have g := tkS_ct x t y.1
    exact ⟨h.1.trans g.1, h.2.1.trans g.2.1, h.2.2.1.trans g.2.2.1, h.2.2.2.1.trans g.2.2.2.1, h.2.2.2.2.trans g.2.2.2.2⟩
theorem fi_some {s : ByteArray} {ms : List Msg} {i : Nat} (h : fi s ms = some i) : ∃ m, ms[i]? = some m ∧ (m.ct.toList == s.toList) = true ∧ ∀ j m', j < i → ms[j]? = some m' → (m'.ct.toList == s.toList) = false := by
  obtain ⟨hi, h1, h2⟩ := List.findIdx?_eq_some_iff_getElem.1 h
  refine ⟨ms[i], List.getElem?_eq_getElem hi, h1, fun j m' hj hm => ?_⟩
  obtain ⟨hj', rfl⟩ := List.getElem?_eq_some_iff.1 hm
  simpa using h2 j hj
theorem fi_none {s : ByteArray} {ms : List Msg} (h : fi s ms = none) : ∀ (j : Nat) (m' : Msg), ms[j]? = some m' → (m'.ct.toList == s.toList) = false := fun j m' hm => by
  have := List.findIdx?_eq_none_iff.1 h m' (List.mem_of_getElem? hm)
  simpa using this
theorem str_of {s t : ByteArray} (h : (s.toList == t.toList) = true) : s = t := by
  rw [Lib.toList_data, Lib.toList_data] at h
  obtain ⟨⟨x⟩⟩ := s
  obtain ⟨⟨y⟩⟩ := t
  have h' : x = y := by simpa using h
  rw [h']
theorem mem_set {α : Type} {l : List α} {i : Nat} {x y : α} (h : y ∈ l.set i x) : y ∈ l ∨ y = x := List.mem_or_eq_of_mem_set h
theorem putS_mem {m y : Msg} {ms : List Msg} (h : y ∈ putS m ms) : y ∈ ms ∨ y = m := by
  unfold putS at h
  split at h
  · exact mem_set h
  · simpa using h
theorem delS_mem {s : ByteArray} {y : Msg} {ms : List Msg} (h : y ∈ delS s ms) : y ∈ ms := by
  unfold delS at h
  split at h
  · exact List.mem_of_mem_eraseIdx h
  · exact h
theorem nextS_mem {sq : Bool} {ms : List Msg} {m : Msg} (h : nextS sq ms = some m) : m ∈ ms ∧ m.un = false := by
  induction ms with
  | nil => cases h
  | cons x r ih =>
    unfold nextS at h
    split at h
    · split at h
      · cases h
      · exact ⟨List.mem_cons_of_mem _ (ih h).1, (ih h).2⟩
    · rename_i hu
      simp only [Option.some.injEq] at h
      subst h
      exact ⟨List.mem_cons_self, by simpa using hu⟩
end Go.Proofs.YtoijhecphgdfnaaGreatDoor

/-
  The program's leaves: faults, the table of codes gone through, the words.
-/
namespace Go.Proofs.YtoijhecphgdfnaaGreatDoor
open Go.RowKit

theorem bl_alloc {V x : World} (h : Below V.heap.size V x) (c : Obj) : Below V.heap.size V (x.alloc c) := h.alloc h.size c
/-- What lies in a world lies in a later one. -/
structure Held (x y : World) : Prop where
  cell : ∀ b o, b < x.heap.size → y.cell? ⟨b, o, none⟩ = x.cell? ⟨b, o, none⟩
  froz : ∀ b o, b < x.heap.size → y.frozen? ⟨b, o, none⟩ = x.frozen? ⟨b, o, none⟩
  size : ∀ b, b < x.heap.size → b < y.heap.size
theorem held_of {x y : World} (h : Below x.heap.size x y) : Held x y := ⟨fun b o hb => h.cell (p := ⟨b, o, none⟩) hb, fun b o hb => h.frozen (p := ⟨b, o, none⟩) hb, fun _ hb => Nat.lt_of_lt_of_le hb h.size⟩
theorem Box.pPut {w : World} {b : Nat} {cs : Array Value} (h : Box w b cs) {j : Nat} (hj : j < cs.size) (v : Value) : Box (w.setCell ⟨b, j, none⟩ v) b (cs.set! j v) := by
  refine ⟨by have := h.lt; simpa [World.setCell] using this, fun o => ?_, fun o => (World.frozen?_setCell _ _ _ _).trans (h.free o)⟩
  by_cases ho : j = o
  · subst ho
    rw [World.cell?_setCell_same' _ _ _ (by rw [h.cell j]; simp [hj])]
    simp [hj]
  · rw [World.cell?_setCell_other _ _ _ _ (by simp), h.cell o, Array.set!_eq_setIfInBounds, Array.getElem?_setIfInBounds_ne (by omega)]
theorem Box.pOff {w : World} {b : Nat} {cs : Array Value} (h : Box w b cs) {p : Addr} (hp : p.block ≠ b) (v : Value) : Box (w.setCell p v) b cs := by
  refine ⟨by have := h.lt; simpa [World.setCell] using this, fun o => ?_, fun o => (World.frozen?_setCell _ _ _ _).trans (h.free o)⟩
  rw [World.cell?_setCell_other _ _ _ _ (fun e => hp (by rw [e])), h.cell o]
theorem Box.pPut3 {w : World} {b : Nat} {z0 z1 z2 : Value} (h : Box w b #[z0, z1, z2]) (v0 v1 v2 : Value) : Box (((w.setCell ⟨b, 0, none⟩ v0).setCell ⟨b, 1, none⟩ v1).setCell ⟨b, 2, none⟩ v2) b #[v0, v1, v2] := by
  have h1 := h.pPut (j := 0) (by simp) v0
  have h2 := h1.pPut (j := 1) (by simp) v1
  have h3 := h2.pPut (j := 2) (by simp) v2
  simpa using h3
theorem Box.pPut2 {w : World} {b : Nat} {z0 z1 : Value} (h : Box w b #[z0, z1]) (v0 v1 : Value) : Box ((w.setCell ⟨b, 0, none⟩ v0).setCell ⟨b, 1, none⟩ v1) b #[v0, v1] := by
  have h1 := h.pPut (j := 0) (by simp) v0
  have h2 := h1.pPut (j := 1) (by simp) v1
  simpa using h2
set_option maxHeartbeats 400000 in
theorem pfault_any (a code : Int) (w : World) : Calls Tryz.prog 85 #[.int .i64 a, .int .i64 code] w fun e w' => e = .returned (.iface 122 (.pointer (some ⟨w.heap.size, 0, none⟩))) ∧ DFault w' w.heap.size a code ∧ Below w.heap.size w w' := by
  go_enter Tryz.func85, Tryz.ntmps85
  go_wp2
  go_ret
  exact ⟨rfl, ⟨by simp, by simp, by simp, by simp⟩, (Below.refl _ _).alloc (Nat.le_refl _) _⟩
/-- A fault told. -/
def FltQ (a code : Int) (w : World) (r : Ending) (w' : World) : Prop := ∃ b, r = .returned (.iface 122 (.pointer (some ⟨b, 0, none⟩))) ∧ DFault w' b a code ∧ Below w.heap.size w w'
theorem pfault_ex (a code : Int) (w : World) : Calls Tryz.prog 85 #[.int .i64 a, .int .i64 code] w (FltQ a code w) := (pfault_any a code w).mono fun _ _ ⟨h, g, b⟩ => ⟨_, h, g, b⟩
/-- When a row of the table holds. -/
def holdB (e : Bool) (a p : Int) (cm : Bool) (on : Int) : Bool := if e = true then (if cm = true then (decide (a = 1) || decide (a = on)) else (decide (p = 1) || decide (p = on))) else !cm
set_option maxHeartbeats 1000000 in
theorem holds_any (cd : ByteArray) (cm : Bool) (on : Int) (e : Bool) (a p : Int) (w : World) : Calls Tryz.prog 105 #[.agg #[.string cd, .bool cm, .int .i64 on], .agg #[.bool e, .int .i64 a, .int .i64 p]] w fun r w' => r = .returned (.bool (holdB e a p cm on)) ∧ Below w.heap.size w w' := by
  cases e <;> cases cm
  all_goals
    go_enter Tryz.func105, Tryz.ntmps105
    go_wp2
    all_goals (go_ret; exact ⟨ret_bool (by first | rfl | (unfold holdB; rw [Bool.eq_iff_iff]; simp; done) | (unfold holdB; rw [Bool.eq_iff_iff]; simp; first | omega | (intros; omega))), ((Below.refl _ _).alloc (by first | omega | (simp; done) | (simp; omega)) _).alloc (by first | omega | (simp; done) | (simp; omega)) _⟩)
def cB : Nat → ByteArray
  | 0 => ⟨#[67, 65]⟩
  | 1 => ⟨#[67, 69]⟩
  | 2 => ⟨#[67, 82]⟩
  | 3 => ⟨#[65, 65]⟩
  | 4 => ⟨#[65, 69]⟩
  | 5 => ⟨#[65, 82]⟩
  | _ => ⟨#[]⟩
def cM : Nat → Bool
  | 0 => true
  | 1 => true
  | 2 => true
  | _ => false
def cO : Nat → Int
  | 0 => 3
  | 3 => 3
  | _ => 2
theorem index6 (i : Nat) (hi : i < 6) (w : World) : (Instr.index 188 (.agg #[.string ⟨#[67, 65]⟩, .bool true, .int .i64 3, .string ⟨#[67, 69]⟩, .bool true, .int .i64 2, .string ⟨#[67, 82]⟩, .bool true, .int .i64 2, .string ⟨#[65, 65]⟩, .bool false, .int .i64 3, .string ⟨#[65, 69]⟩, .bool false, .int .i64 2, .string ⟨#[65, 82]⟩, .bool false, .int .i64 2]) (.int .i64 (i : Int))).run Tryz.prog w = .ok (.agg #[.string (cB i), .bool (cM i), .int .i64 (cO i)]) w := by
  rcases (by omega : i = 0 ∨ i = 1 ∨ i = 2 ∨ i = 3 ∨ i = 4 ∨ i = 5) with rfl | rfl | rfl | rfl | rfl | rfl <;> kernel_rfl
theorem str_apart {s t : ByteArray} (h : ¬ s = t) : (s.toList == t.toList) = false := by
  rw [Lib.toList_data, Lib.toList_data]
  refine beq_eq_false_iff_ne.2 fun g => h ?_
  obtain ⟨⟨x⟩⟩ := s
  obtain ⟨⟨y⟩⟩ := t
  have g' : x = y := g
  rw [g']
theorem sent_at (e : Bool) (a p : Int) (i : Nat) (hi : i < 6) : sentB e a p (cB i) = holdB e a p (cM i) (cO i) := by
  rcases (by omega : i = 0 ∨ i = 1 ∨ i = 2 ∨ i = 3 ∨ i = 4 ∨ i = 5) with rfl | rfl | rfl | rfl | rfl | rfl
  · rw [show cB 0 = ⟨#[67, 65]⟩ from rfl, sent_1]; cases e <;> rfl
  · rw [show cB 1 = ⟨#[67, 69]⟩ from rfl, sent_2]; cases e <;> rfl
  · rw [show cB 2 = ⟨#[67, 82]⟩ from rfl, sent_3]; cases e <;> rfl
  · rw [show cB 3 = ⟨#[65, 65]⟩ from rfl, sent_4]; cases e <;> rfl
  · rw [show cB 4 = ⟨#[65, 69]⟩ from rfl, sent_5]; cases e <;> rfl
  · rw [show cB 5 = ⟨#[65, 82]⟩ from rfl, sent_6]; cases e <;> rfl
theorem none_of {s : ByteArray} (h : ∀ j, j < 6 → ¬ cB j = s) : codeN s = 0 ∧ verB s = false := by
  rcases code_cases s with rfl | rfl | rfl | rfl | rfl | rfl | ⟨ho, h0⟩
  · exact absurd rfl (h 0 (by omega))
  · exact absurd rfl (h 1 (by omega))
  · exact absurd rfl (h 2 (by omega))
  · exact absurd rfl (h 3 (by omega))
  · exact absurd rfl (h 4 (by omega))
  · exact absurd rfl (h 5 (by omega))
  · exact ⟨h0, by unfold verB; rw [ho.h4, ho.h5, ho.h6]; rfl⟩
theorem less_step {P : Nat → Prop} {i : Nat} (h : ∀ j, j < i → P j) (hi : P i) : ∀ j, j < i + 1 → P j := fun j hj => by
  rcases Nat.lt_or_ge j i with g | g
  · exact h j g
  · obtain rfl : j = i := by omega
    exact hi
set_option maxRecDepth 100000 in
set_option maxHeartbeats 4000000 in
theorem may_any (e : Bool) (a p : Int) (s : ByteArray) (w : World) (hV : PVc w) : Calls Tryz.prog 86 #[.agg #[.bool e, .int .i64 a, .int .i64 p], .string s] w fun r w' => r = .returned (.bool (sentB e a p s)) ∧ Below w.heap.size w w' := by
  have hV' := hV.below ((Below.refl _ w).alloc (Nat.le_refl _) (.cells #[.bool e, .int .i64 a, .int .i64 p] 45))
  have b1 : Below w.heap.size w (w.alloc (.cells #[.bool e, .int .i64 a, .int .i64 p] 45)) := (Below.refl _ w).alloc (Nat.le_refl _) _
  have x1 := Box.new w #[.bool e, .int .i64 a, .int .i64 p] 45
  obtain ⟨W1, hW1⟩ : ∃ W, w.alloc (.cells #[.bool e, .int .i64 a, .int .i64 p] 45) = W := ⟨_, rfl⟩
  rw [hW1] at hV' b1 x1
  have hr : W1.rangeAt 0 0 CV := fun j v hv => by rw [Nat.zero_add]; exact hV' j v hv
  have HQ : Hid (Below w.heap.size w W1 ∧ Box W1 w.heap.size #[.bool e, .int .i64 a, .int .i64 p]) := ⟨b1, x1⟩
  have hix := index6
  rw [show (#[.string ⟨#[67, 65]⟩, .bool true, .int .i64 3, .string ⟨#[67, 69]⟩, .bool true, .int .i64 2, .string ⟨#[67, 82]⟩, .bool true, .int .i64 2, .string ⟨#[65, 65]⟩, .bool false, .int .i64 3, .string ⟨#[65, 69]⟩, .bool false, .int .i64 2, .string ⟨#[65, 82]⟩, .bool false, .int .i64 2] : Array Value) = CV.toArray from rfl] at hix
  clear hV hV' b1 x1
  go_enter Tryz.func86, Tryz.ntmps86
  go_wp2_with (refine wpList_load_mid rfl 188 (.global 0) rfl 0 0 rfl CV _ hr Tryz.underlying188 rfl (by kernel_rfl) ?_)
  obtain ⟨A, hA⟩ : ∃ A, CV.toArray = A := ⟨_, rfl⟩
  rw [hA] at hix ⊢
  clear hA hr
  go_wp2_with fail
  go_loopw [8] (fun t8 wx => ∃ i : Nat, i ≤ 6 ∧ t8 = .int .i64 i ∧ Hid (Below W1.heap.size W1 wx ∧ ∀ j, j < i → ¬ cB j = s)) (fun t8 _ => 6 - (intOf t8).toNat)
  case atStart => exact ⟨0, Nat.zero_le _, rfl, Below.refl _ _, fun j hj => by omega⟩
  case round =>
    obtain ⟨i, hi, rfl, HI⟩ := hrel
    have HB : Hid (Box wr w.heap.size #[.bool e, .int .i64 a, .int .i64 p]) := HQ.out.2.below HI.out.1
    obtain ⟨l1, k1, f1⟩ := HB.out
    have HBw : Hid (Below w.heap.size w wr) := below_then HQ.out.1 HI.out.1
    by_cases hlt : i < 6
    · have hlti : (i : Int) < 6 := by omega
      have hxi := hix i hlt
      clear hix
      by_cases hs : cB i = s
      · have hh := fun w => holds_any (cB i) (cM i) (cO i) e a p w
        rw [← sent_at e a p i hlt] at hh
        subst hs
        go_wp2_with fail
        refine (hh _).mono ?_
        rintro _ w2 ⟨rfl, b2⟩
        have HB2 : Hid (Below w.heap.size w w2) := below_then HBw.out (below_then ((Below.refl _ _).alloc (Nat.le_refl _) _) b2)
        clear b2
        go_wp2_with fail
        go_ret
        exact ⟨rfl, HB2.out⟩
      · have hs' := str_apart hs
        go_wp2_with fail
        go_roundw
        case rel => exact ⟨i + 1, by omega, by go_num, below_then HI.out.1 ((Below.refl _ _).alloc (Nat.le_refl _) _), less_step HI.out.2 hs⟩
        case measure => simp [intOf]; omega
    · obtain rfl : i = 6 := by omega
      clear hix
      have h0 : sentB e a p s = false := by unfold sentB; rw [(none_of HI.out.2).1]; rfl
      go_wp2_with fail
      go_ret
      exact ⟨ret_bool h0.symm, HBw.out⟩
end Go.Proofs.YtoijhecphgdfnaaGreatDoor
