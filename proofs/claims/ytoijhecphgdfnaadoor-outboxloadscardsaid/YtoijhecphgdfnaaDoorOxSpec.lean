import Derived.Test.YtoijhecphgdfnaaDoorDcOpen
import Derived.LaidMore
/-
  What the listed package-level variables give: the words, the table of codes.
-/
namespace Go.Proofs.YtoijhecphgdfnaaDoor
open Go.ChangeShapes Go.WideShapes Go.ChangeAt Go.RowKit

theorem gCodes : Tryd.prog.globalNamed "courier/decide.codes" = some 0 := by kernel_rfl
theorem tCodes : (Tryd.prog.globals[0]?).map (·.type) = some 124 := by kernel_rfl
theorem cellsCodes : Tryd.prog.cellsOf 124 = 18 := by kernel_rfl
theorem cellsRule : Tryd.prog.cellsOf 123 = 3 := by kernel_rfl
theorem cellsStr' : Tryd.prog.cellsOf 9 = 1 := by kernel_rfl
theorem cellsInt' : Tryd.prog.cellsOf 3 = 1 := by kernel_rfl
theorem cellsBool' : Tryd.prog.cellsOf 4 = 1 := by kernel_rfl
theorem strl_of {s : ByteArray} {l : List UInt8} (h : s.data.toList = l) : s = ⟨l.toArray⟩ := by
  obtain ⟨⟨d⟩⟩ := s; simp at h; subst h; rfl
theorem threeL {α : Type} {l : List α} (h : l.length = 3) : ∃ a b c, l = [a, b, c] := by
  match l, h with
  | [a, b, c], _ => exact ⟨a, b, c, rfl⟩
theorem oneL {α : Type} {l : List α} (h : l.length = 1) : ∃ a, l = [a] := by
  match l, h with
  | [a], _ => exact ⟨a, rfl⟩
theorem laid_tail {P : Program} {W : World} {x : String × DataW Unit} {r : List (String × DataW Unit)} (h : laidMet P (x :: r) W) : laidMet P r W := by
  obtain ⟨ps, ⟨g, t, cs, fuel, p, q, hg, ht, hv, hd, hr, rfl⟩, hnd, hall⟩ := h
  exact ⟨q, hr, (List.nodup_append.1 hnd).2.1, fun b off hm => hall b off (List.mem_append_right _ hm)⟩
set_option maxRecDepth 100000 in
set_option maxHeartbeats 1000000 in
theorem rule_of {H : Type} {enc : TypeId × Value → H} {W : World} {base : Nat} {spare : Nat → Bool} {held : Bool} {m : Nat} {cs : List Value} {x : DataW H × List MemPlace} {b : List UInt8} {k : Bool} {n : Int}
    (h : DataW.trod enc Tryd.prog W base spare held m 123 cs = some x) (hx : x.1 = .agg [.lit (.string b), .lit (.bool k), .lit (.int .i64 n)]) : cs = [.string ⟨b.toArray⟩, .bool k, .int .i64 n] := by
  obtain ⟨xs, m2, _, hy, hl, hlen, hf⟩ := DataW.trod_struct Tryd.underlying123 h
  rw [cellsRule] at hl
  obtain ⟨c0, c1, c2, rfl⟩ := threeL hl
  obtain ⟨z0, z1, z2, rfl⟩ := threeL (l := xs) hlen
  have f0 : DataW.trod enc Tryd.prog W base spare held m2 9 [c0] = some z0 := by simpa [cellsStr'] using hf 0 _ rfl
  have f1 : DataW.trod enc Tryd.prog W base spare held m2 4 [c1] = some z1 := by simpa [cellsBool'] using hf 1 _ rfl
  have f2 : DataW.trod enc Tryd.prog W base spare held m2 3 [c2] = some z2 := by simpa [cellsInt'] using hf 2 _ rfl
  obtain ⟨s0, e0, h0, _⟩ := DataW.trod_string Tryd.underlying9 f0
  obtain ⟨k1, e1, h1⟩ := DataW.trod_bool Tryd.underlying4 f1
  obtain ⟨k2, e2, h2, _⟩ := DataW.trod_int Tryd.underlying3 f2
  simp only [List.cons.injEq, and_true] at e0 e1 e2
  subst e0 e1 e2
  rw [hy, h0, h1, h2] at hx
  simp only [List.map_cons, List.map_nil, DataW.agg.injEq, List.cons.injEq, DataW.lit.injEq, Lit.string.injEq, Lit.bool.injEq, Lit.int.injEq, and_true, true_and] at hx
  obtain ⟨a0, a1, a2⟩ := hx
  rw [strl_of a0, a1, a2]
theorem chunk3 {l n : List Value} {j : Nat} (h : (l.drop (j / 3 * 3)).take 3 = (n.drop (j / 3 * 3)).take 3) : l[j]? = n[j]? := by
  have h1 := congrArg (fun q => q[j % 3]?) h
  simp only [List.getElem?_take, List.getElem?_drop] at h1
  rw [if_pos (by omega), if_pos (by omega), show j / 3 * 3 + j % 3 = j by omega] at h1
  exact h1
set_option maxRecDepth 100000 in
set_option maxHeartbeats 1000000 in
theorem codes_of {W : World} {rest : List (String × DataW Unit)} (h : laidMet Tryd.prog (("courier/decide.codes", Rows.laid_courier_decide_codes) :: rest) W) : PVc W := by
  obtain ⟨ps, ⟨g', t', cs, fuel, p, q, hg', ht', hvar, hd, _, _⟩, _⟩ := h
  obtain rfl := Option.some.inj (gCodes.symm.trans hg')
  obtain rfl := Option.some.inj (tCodes.symm.trans ht')
  obtain ⟨xs, m, _, hx, hl, hlen, hfl⟩ := DataW.trod_array Tryd.underlying124 hd
  rw [cellsCodes] at hl
  rw [cellsRule] at hfl
  have hx1 := congrArg Prod.fst hx
  simp only [Rows.laid_courier_decide_codes, DataW.agg.injEq] at hx1
  have el : ∀ i y, i < 6 → xs[i]? = some y → (xs.map (·.1))[i]? = some y.1 := fun i y _ hy => by rw [List.getElem?_map, hy]; rfl
  have ch : ∀ i, i < 6 → (cs.toList.drop (i * 3)).take 3 = (CV.drop (i * 3)).take 3 := fun i hi => by
    have gi := hfl i hi
    obtain ⟨y, hy⟩ : ∃ y, xs[i]? = some y := ⟨_, List.getElem?_eq_getElem (by omega)⟩
    rw [hy] at gi
    have ey := el i y hi hy
    rw [← hx1] at ey
    rcases (by omega : i = 0 ∨ i = 1 ∨ i = 2 ∨ i = 3 ∨ i = 4 ∨ i = 5) with rfl | rfl | rfl | rfl | rfl | rfl
    · exact (rule_of (b := [67, 65]) (k := true) (n := 3) gi (by simpa using ey.symm)).trans rfl
    · exact (rule_of (b := [67, 69]) (k := true) (n := 2) gi (by simpa using ey.symm)).trans rfl
    · exact (rule_of (b := [67, 82]) (k := true) (n := 2) gi (by simpa using ey.symm)).trans rfl
    · exact (rule_of (b := [65, 65]) (k := false) (n := 3) gi (by simpa using ey.symm)).trans rfl
    · exact (rule_of (b := [65, 69]) (k := false) (n := 2) gi (by simpa using ey.symm)).trans rfl
    · exact (rule_of (b := [65, 82]) (k := false) (n := 2) gi (by simpa using ey.symm)).trans rfl
  intro j u hu
  have hj : j < 18 := by
    rcases Nat.lt_or_ge j 18 with g | g
    · exact g
    · rw [List.getElem?_eq_none (by exact g)] at hu; cases hu
  have k := World.var?_cell gCodes hvar j
  have e := chunk3 (ch (j / 3) (by omega))
  rw [← Array.getElem?_toList, e, hu] at k
  simpa using k
end Go.Proofs.YtoijhecphgdfnaaDoor

/-
  outbox as plain data: messages, what is refused, what is done. Of no program.
-/
namespace Go.Proofs.YtoijhecphgdfnaaDoor
open Go.RowKit

/-- A message as it stands; its text: where it lies (tp, tn, tc), its bytes (tx). -/
structure Msg where
  ct : ByteArray
  tp : Option Addr
  tn : Nat
  tc : Nat
  tx : List Int
  e : Bool
  a : Int
  p : Int
  nu : Int
  nt : Bool
  st : Int
  lf : Int
  un : Bool
def zM : Msg := ⟨⟨#[]⟩, none, 0, 0, [], false, 0, 0, 0, false, 0, 0, false⟩
def encM (m : Msg) : List Value := [.string m.ct, .slice m.tp m.tn m.tc, .bool m.e, .int .i64 m.a, .int .i64 m.p, .int .i64 m.nu, .bool m.nt, .int .i64 m.st, .int .i64 m.lf, .bool m.un]
def encO (m : Msg) : List Value := [.string m.ct, .slice m.tp m.tn m.tc, .bool m.e, .int .i64 m.a, .int .i64 m.p, .int .i64 m.nu, .bool m.nt]
theorem encM_len (m : Msg) : (encM m).length = 10 := rfl
theorem encO_len (m : Msg) : (encO m).length = 7 := rfl
theorem encM_one (m : Msg) : ∀ u ∈ encM m, u.oneCell' = true := fun u hu => by
  simp only [encM, List.mem_cons, List.not_mem_nil, or_false] at hu
  rcases hu with rfl | rfl | rfl | rfl | rfl | rfl | rfl | rfl | rfl | rfl <;> rfl
/-- The place of the first of a control id. -/
def fi (s : ByteArray) (ms : List Msg) : Option Nat := ms.findIdx? (fun m => m.ct.toList == s.toList)
def fiI (s : ByteArray) (ms : List Msg) : Int := match fi s ms with | some i => (i : Int) | none => -1
def putS (m : Msg) (ms : List Msg) : List Msg := match fi m.ct ms with | some i => ms.set i m | none => ms ++ [m]
def delS (s : ByteArray) (ms : List Msg) : List Msg := match fi s ms with | some i => ms.eraseIdx i | none => ms
/-- The one that goes out next. -/
def nextS (sq : Bool) : List Msg → Option Msg
  | [] => none
  | m :: r => if m.un = true then (if sq = true then none else nextS sq r) else some m
def cbB (c : Int) : Bool := (decide (48 ≤ c) && decide (c ≤ 57)) || (decide (65 ≤ c) && decide (c ≤ 90)) || (decide (97 ≤ c) && decide (c ≤ 122)) || decide (c = 46) || decide (c = 45)
def ctB (s : ByteArray) : Bool := decide (1 ≤ s.size) && decide (s.size ≤ 18) && s.data.toList.all (fun c => cbB (c.toNat : Int))
def nmB (n : Int) : Bool := decide (1 ≤ n) && decide (n ≤ 2147483647)
/-- Why a message can't stand behind those. -/
def refS (sq : Bool) (ms : List Msg) (m : Msg) : Int :=
  if ctB m.ct = false then 280 else if (fi m.ct ms).isSome = true then 6 else if (decide (m.tn = 0) || decide (8192 < m.tn)) = true then 4 else
  if (okB m.e m.a m.p && (caB m.e m.a || !m.nt)) = false then 220 else if (decide (m.nu ≠ 0) && !(sq && decide (ms.length = 0) && nmB m.nu)) = true then 282 else 0
/-- Acts done to a message: the message, and whether it is over. -/
def tkS (x : Int) (t : Msg × Bool) (k : Int) : Msg × Bool :=
  if k = 3 then ({ t.1 with nt := true }, t.2) else if k = 5 then ({ t.1 with nu := x }, t.2) else if k = 4 then (t.1, true) else t
def tksS (x : Int) (t : Msg × Bool) (l : ActL) : Msg × Bool := l.foldl (fun t y => tkS x t y.1) t
def doS (ms : List Msg) (m : Msg) (x : Int) (l : ActL) : List Msg := if (tksS x (m, false) l).2 = true then delS (tksS x (m, false) l).1.ct ms else putS (tksS x (m, false) l).1 ms
abbrev Deed := ByteArray × Int × ByteArray
def deedsS (c : ByteArray) (l : ActL) : List Deed := l.map fun y => (c, y.1, y.2)
def encD (d : Deed) : List Value := [.string d.1, .int .i64 d.2.1, .string d.2.2]
theorem tkS_ct (x : Int) (t : Msg × Bool) (k : Int) : (tkS x t k).1.ct = t.1.ct ∧ (tkS x t k).1.tp = t.1.tp ∧ (tkS x t k).1.tn = t.1.tn ∧ (tkS x t k).1.tc = t.1.tc ∧ (tkS x t k).1.tx = t.1.tx := by
  unfold tkS; repeat' split
  all_goals exact ⟨rfl, rfl, rfl, rfl, rfl⟩
theorem tksS_ct (x : Int) (l : ActL) : ∀ t : Msg × Bool, (tksS x t l).1.ct = t.1.ct ∧ (tksS x t l).1.tp = t.1.tp ∧ (tksS x t l).1.tn = t.1.tn ∧ (tksS x t l).1.tc = t.1.tc ∧ (tksS x t l).1.tx = t.1.tx := by
  induction l with
  | nil => intro t; exact ⟨rfl, rfl, rfl, rfl, rfl⟩
  | cons y r ih =>
    intro t
    have h := ih (tkS x t y.1)
    have g := tkS_ct x t y.1
    exact ⟨h.1.trans g.1, h.2.1.trans g.2.1, h.2.2.1.trans g.2.2.1, h.2.2.2.1.trans g.2.2.2.1, h.2.2.2.2.trans g.2.2.2.2⟩
theorem fi_some {s : ByteArray} {ms : List Msg} {i : Nat} (h : fi s ms = some i) : ∃ m, ms[i]? = some m ∧ (m.ct.toList == s.toList) = true ∧ ∀ j m', j < i → ms[j]? = some m' → (m'.ct.toList == s.toList) = false := by
  obtain ⟨hi, h1, h2⟩ := List.findIdx?_eq_some_iff_getElem.1 h
  refine ⟨ms[i], List.getElem?_eq_getElem hi, h1, fun j m' hj hm => ?_⟩
  obtain ⟨hj', rfl⟩ := List.getElem?_eq_some_iff.1 hm
  simpa using h2 j hj
theorem fi_none {s : ByteArray} {ms : List Msg} (h : fi s ms = none) : ∀ (j : Nat) (m' : Msg), ms[j]? = some m' → (m'.ct.toList == s.toList) = false := fun j m' hm => by
  have := List.findIdx?_eq_none_iff.1 h m' (List.mem_of_getElem? hm)
  simpa using this
theorem str_of {s t : ByteArray} (h : (s.toList == t.toList) = true) : s = t := by
  rw [Lib.toList_data, Lib.toList_data] at h
  obtain ⟨⟨x⟩⟩ := s
  obtain ⟨⟨y⟩⟩ := t
  have h' : x = y := by simpa using h
  rw [h']
theorem mem_set {α : Type} {l : List α} {i : Nat} {x y : α} (h : y ∈ l.set i x) : y ∈ l ∨ y = x := List.mem_or_eq_of_mem_set h
theorem putS_mem {m y : Msg} {ms : List Msg} (h : y ∈ putS m ms) : y ∈ ms ∨ y = m := by
  unfold putS at h
  split at h
  · exact mem_set h
  · simpa using h
theorem delS_mem {s : ByteArray} {y : Msg} {ms : List Msg} (h : y ∈ delS s ms) : y ∈ ms := by
  unfold delS at h
  split at h
  · exact List.mem_of_mem_eraseIdx h
  · exact h
theorem delS_len (s : ByteArray) (ms : List Msg) : (delS s ms).length ≤ ms.length := by
  unfold delS
  split
  · exact List.length_eraseIdx_le _ _
  · exact Nat.le_refl _
theorem nextS_mem {sq : Bool} {ms : List Msg} {m : Msg} (h : nextS sq ms = some m) : m ∈ ms ∧ m.un = false := by
  induction ms with
  | nil => cases h
  | cons x r ih =>
    unfold nextS at h
    split at h
    · split at h
      · cases h
      · exact ⟨List.mem_cons_of_mem _ (ih h).1, (ih h).2⟩
    · rename_i hu
      simp only [Option.some.injEq] at h
      subst h
      exact ⟨List.mem_cons_self, by simpa using hu⟩
end Go.Proofs.YtoijhecphgdfnaaDoor
