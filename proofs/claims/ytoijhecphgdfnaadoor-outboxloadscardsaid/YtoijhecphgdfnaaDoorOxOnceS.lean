import Derived.Test.YtoijhecphgdfnaaDoorOxHeard2
import Derived.Test.YtoijhecphgdfnaaDoorOxLaw0
import Derived.Lib.SlBytesConst
/-
  The document's second example as plain data. Of no program.
-/
namespace Go.Proofs.YtoijhecphgdfnaaDoor
open Go.RowKit

abbrev cA1 : ByteArray := ⟨#[65, 49]⟩
abbrev cA2 : ByteArray := ⟨#[65, 50]⟩
def M1 (a : Option Addr) (c : Nat) (nu st lf : Int) (un : Bool) : Msg := ⟨cA1, a, 1, c, [116], true, 1, 1, nu, false, st, lf, un⟩
def M2 (a : Option Addr) (c : Nat) : Msg := ⟨cA2, a, 1, c, [116], true, 1, 1, 0, false, 0, 0, false⟩
variable (a a2 : Option Addr) (c c2 : Nat)
theorem ctA1 : ctB cA1 = true := by decide
theorem ctA2 : ctB cA2 = true := by decide
theorem ne12 : ((cA1 : ByteArray).toList == cA2.toList) = false := by rw [Lib.toList_data, Lib.toList_data]; decide
theorem hd1 : addC true [] (M1 a c 0 0 0 false) = 0 := by
  unfold addC refS
  rw [show ctB (M1 a c 0 0 0 false).ct = true from ctA1]
  rfl
theorem fi1 (nu st lf : Int) (un : Bool) : fi cA1 [M1 a c nu st lf un, M2 a2 c2] = some 0 := by
  unfold fi M1 M2
  rw [List.findIdx?_cons]
  simp
theorem hd2 : addC true [M1 a c 0 0 0 false] (M2 a2 c2) = 0 := by
  have hf : fi cA2 [M1 a c 0 0 0 false] = none := by
    unfold fi M1
    rw [List.findIdx?_cons]
    simp only [ne12]
    rfl
  unfold addC refS
  rw [show ctB (M2 a2 c2).ct = true from ctA2, show fi (M2 a2 c2).ct [M1 a c 0 0 0 false] = none from hf]
  rfl
theorem hd4 : putS { M1 a c 0 0 0 false with nu := 7 } [M1 a c 0 0 0 false, M2 a2 c2] = [M1 a c 7 0 0 false, M2 a2 c2] := by
  unfold putS
  rw [show fi ({ M1 a c 0 0 0 false with nu := 7 } : Msg).ct [M1 a c 0 0 0 false, M2 a2 c2] = some 0 from fi1 a a2 c c2 0 0 0 false]
  rfl
theorem hd6 : startS true 1 1 1 false = ⟨1, 1, [(1, nT), (2, nT)], 0, 0⟩ := by rfl
theorem hd7 : doS [M1 a c 7 0 0 false, M2 a2 c2] { M1 a c 7 0 0 false with st := 1, lf := 1, un := true } 0 [(1, nT), (2, nT)] = [M1 a c 7 1 1 true, M2 a2 c2] := by
  show putS (M1 a c 7 1 1 true) [M1 a c 7 0 0 false, M2 a2 c2] = _
  unfold putS
  rw [show fi (M1 a c 7 1 1 true).ct [M1 a c 7 0 0 false, M2 a2 c2] = some 0 from fi1 a a2 c c2 7 0 0 false]
  rfl
theorem hd10 : heardS true 1 1 1 1 kCE true = ⟨1, 0, [(5, nT), (1, nT), (2, nT)], 0, 0⟩ := by
  unfold heardS
  rw [show sentB true 1 1 kCE = true by decide, show ((kCE : ByteArray).toList == [67, 65]) = false by rw [Lib.toList_data]; decide, show ((kCE : ByteArray).toList == [67, 69]) = true by rw [Lib.toList_data]; decide]
  rfl
theorem hd11 : doS [M1 a c 7 1 1 true, M2 a2 c2] { M1 a c 7 1 1 true with st := 1, lf := 0, un := true } 9 [(5, nT), (1, nT), (2, nT)] = [M1 a c 9 1 0 true, M2 a2 c2] := by
  show putS (M1 a c 9 1 0 true) [M1 a c 7 1 1 true, M2 a2 c2] = _
  unfold putS
  rw [show fi (M1 a c 9 1 0 true).ct [M1 a c 7 1 1 true, M2 a2 c2] = some 0 from fi1 a a2 c c2 7 1 1 true]
  rfl
end Go.Proofs.YtoijhecphgdfnaaDoor

/-
  The document's second example, walked: the law's 'heads'.
-/
namespace Go.Proofs.YtoijhecphgdfnaaDoor
open Go.RowKit

section
variable {W w : World} {b kb : Nat} {v : Value}
theorem DRow.first {w : World} {B : Nat} {a : Option Addr} {n c : Nat} {d : Deed} {ds : List Deed} (h : DRow w B (.slice a n c) (d :: ds)) : ∃ g, a = some ⟨g, 0, none⟩ := by
  obtain ⟨g, e, _⟩ := ERow.at_ encD_len h (j := 0) (x := d) rfl
  exact ⟨g, e⟩
theorem DRow.cells {w : World} {B g : Nat} {n c : Nat} {d : Deed} {ds : List Deed} (h : DRow w B (.slice (some ⟨g, 0, none⟩) n c) (d :: ds)) : w.cell? ⟨g, 0, none⟩ = some (.string d.1) ∧ w.cell? ⟨g, 1, none⟩ = some (.int .i64 d.2.1) ∧ w.cell? ⟨g, 2, none⟩ = some (.string d.2.2) := by
  obtain ⟨g', e, _, hc⟩ := ERow.at_ encD_len h (j := 0) (x := d) rfl
  simp only [Option.some.injEq, Addr.mk.injEq] at e
  obtain ⟨rfl, _⟩ := e
  exact ⟨hc 0 (by decide), hc 1 (by decide), hc 2 (by decide)⟩
theorem byts_t (w : World) : Byts (w.alloc (.cells #[.int .u8 116] 5 (1, 2))) (some ⟨w.heap.size, 0, none⟩) 1 [116] :=
  ⟨rfl, fun j hj => by
    obtain rfl : j = 0 := by omega
    refine ⟨w.heap.size, 0, rfl, by simp, ?_⟩
    unfold World.cell?
    rw [show (w.alloc (.cells #[.int .u8 116] 5 (1, 2))).heap[w.heap.size]? = some (.cells #[.int .u8 116] 5 (1, 2)) from heap_alloc_new _ _]
    rfl⟩
end
end Go.Proofs.YtoijhecphgdfnaaDoor

/-
  One call of the box, whatever it answers.
-/
namespace Go.Proofs.YtoijhecphgdfnaaDoor
open Go.RowKit

/-- What a call that is done tells and leaves. -/
inductive StepR (sq : Bool) (ms : List Msg) (kd : Int) (ct : ByteArray) : List Deed → List Msg → Prop
  | idle (h : kd ≠ 1) : StepR sq ms kd ct [] ms
  | add (m : Msg) (h : kd = 1) (he : m.ct = ct) (hc : addC sq ms m = 0) (hnu : m.nu = 0) (hun : m.un = false) : StepR sq ms kd ct [] (ms ++ [m])
  | give (m : Msg) (n : Int) (h : kd ≠ 1) (hs : sq = true) (hn : nextS sq ms = some m) (hg : nmB n = true) : StepR sq ms kd ct [] (putS { m with nu := n } ms)
  | go (m : Msg) (st lf : Int) (l : ActL) (h : kd ≠ 1) (hn : nextS sq ms = some m) (hq : (sq && (m.nu == 0)) = false) (h5 : ∀ y ∈ l, y.1 ≠ 5 ∧ y.1 ≠ 3) : StepR sq ms kd ct (deedsS m.ct l) (doS ms { m with st := st, lf := lf, un := true } 0 l)
  | ans (m : Msg) (i : Nat) (st lf x : Int) (l : ActL) (h : kd ≠ 1) (hf : fi m.ct ms = some i) (hm : ms[i]? = some m) (hu : m.un = true) (h5 : ∀ y ∈ l, (y.1 = 5 → sq = true ∧ nmB x = true) ∧ (y.1 = 3 → caB m.e m.a = true)) : StepR sq ms kd ct (deedsS m.ct l) (doS ms { m with st := st, lf := lf, un := true } x l)
theorem start_no5 (e : Bool) (a p t : Int) (nt : Bool) : ∀ y ∈ (startS e a p t nt).l, y.1 ≠ 5 ∧ y.1 ≠ 3 := by
  unfold startS
  repeat' split
  all_goals simp
theorem due_no5 (e : Bool) (a p st lf : Int) : ∀ y ∈ (dueS e a p st lf).l, y.1 ≠ 5 ∧ y.1 ≠ 3 := by
  unfold dueS
  repeat' split
  all_goals simp
theorem heard_5 (e : Bool) (a p st lf : Int) (s : ByteArray) (T : Bool) : ∀ y ∈ (heardS e a p st lf s T).l, y.1 = 5 → T = true := by
  cases T with
  | true => exact fun _ _ _ => rfl
  | false =>
    unfold heardS
    simp only [Bool.false_and]
    repeat' split
    all_goals simp_all
theorem heard_3 (e : Bool) (a p st lf : Int) (s : ByteArray) (T : Bool) : ∀ y ∈ (heardS e a p st lf s T).l, y.1 = 3 → caB e a = true := by
  unfold heardS
  split
  · simp
  split
  · simp
  rename_i _ hf
  split
  · simp
  split
  · split
    · rename_i hst
      have hc : caB e a = true := by
        rw [Bool.not_eq_false] at hf
        unfold fitB at hf
        rw [hst] at hf
        simp only [if_pos] at hf
        exact (Bool.and_eq_true_iff.1 hf).2
      exact fun _ _ _ => hc
    · simp
  · repeat' split
    all_goals simp
/-- A call's answer: the deeds d, the error ev. -/
def StQ (W : World) (b kb : Nat) (v0 : Value) (w0 : World) (sq : Bool) (tr : Int) (ms : List Msg) (kd : Int) (ct : ByteArray) (d ev : Value) (w' : World) : Prop :=
  Off (fun q => q = kb ∨ v0.ownBlock = some q) w0 w' ∧ ∃ a c ds v ms', d = .slice a (List.length ds) c ∧ DRow w' W.heap.size (.slice a (List.length ds) c) ds ∧ Li W w' b kb v sq tr ms' ∧ ((ev = .nilIface ∧ StepR sq ms kd ct ds ms') ∨ ((∃ z, ev = .iface 91 (.pointer (some ⟨z, 0, none⟩))) ∧ ds = [] ∧ ms' = ms))
section
variable {W w w' : World} {b kb : Nat} {v : Value} {sq : Bool} {tr : Int} {ms : List Msg} {kd : Int} {ct : ByteArray}
theorem st_no (L : Li W w b kb v sq tr ms) (hb : Below w.heap.size w w') (z : Nat) : StQ W b kb v w sq tr ms kd ct (.slice none 0 0) (.iface 91 (.pointer (some ⟨z, 0, none⟩))) w' :=
  ⟨Off.of_below hb, none, 0, [], v, ms, rfl, ERow.nil _ _ _ _ _, L.below hb, Or.inr ⟨⟨z, rfl⟩, rfl, rfl⟩⟩
theorem st_yes {ms' : List Msg} (L : Li W w b kb v sq tr ms) (hq : BxQ w b kb v sq tr ms' w') (hs : StepR sq ms kd ct [] ms') : StQ W b kb v w sq tr ms kd ct (.slice none 0 0) .nilIface w' := by
  obtain ⟨v', L'⟩ := L.step hq
  exact ⟨L.keep hq, none, 0, [], v', ms', rfl, ERow.nil _ _ _ _ _, L', Or.inl ⟨rfl, hs⟩⟩
theorem StQ.back {w0 : World} {d ev : Value} (h : StQ W b kb v w sq tr ms kd ct d ev w') (hb : Below w0.heap.size w0 w) : StQ W b kb v w0 sq tr ms kd ct d ev w' := ⟨(Off.of_below hb).trans h.1, h.2⟩
/-- A call that answers deeds. -/
def DsQ (W : World) (b kb : Nat) (v : Value) (w : World) (sq : Bool) (tr : Int) (ms : List Msg) (kd : Int) (ct : ByteArray) (e : Ending) (w' : World) : Prop := ∃ d ev, e = .returned (.tuple #[d, ev]) ∧ StQ W b kb v w sq tr ms kd ct d ev w'
theorem ds_no {cd : Int} {f : Nat} {xs : Array Value} (L : Li W w b kb v sq tr ms) (h : Calls Tryd.prog f xs w (DFl w cd)) : Calls Tryd.prog f xs w (DsQ W b kb v w sq tr ms kd ct) :=
  h.mono fun _ _ ⟨z, he, _, _, hb⟩ => ⟨_, _, he, st_no L hb z⟩
theorem ds_yes {ds : List Deed} {ms' : List Msg} {f : Nat} {xs : Array Value} (L : Li W w b kb v sq tr ms) (h : Calls Tryd.prog f xs w (DoQ w b kb v sq tr ds ms')) (hs : StepR sq ms kd ct ds ms') : Calls Tryd.prog f xs w (DsQ W b kb v w sq tr ms kd ct) :=
  h.mono fun _ _ ⟨a, c, he, hr, hq⟩ => by
    obtain ⟨v', L'⟩ := L.step hq
    exact ⟨_, _, he, L.keep hq, a, c, ds, v', ms', rfl, ERow.base hr L.bel.size, L', Or.inl ⟨rfl, hs⟩⟩
end
end Go.Proofs.YtoijhecphgdfnaaDoor

/-
  A sequenced box: none but the head is under way or has a number. Of no program.
-/
namespace Go.Proofs.YtoijhecphgdfnaaDoor
open Go.RowKit

structure Inv (ms : List Msg) : Prop where
  tail : ∀ (k : Nat) (m : Msg), 1 ≤ k → ms[k]? = some m → m.un = false ∧ m.nu = 0
  head : ∀ m : Msg, ms[0]? = some m → m.un = true → m.nu ≠ 0
theorem Inv.nil : Inv [] := ⟨fun k m _ h => by simp at h, fun m h => by simp at h⟩
theorem Inv.rest {m : Msg} {r : List Msg} (h : Inv (m :: r)) : Inv r :=
  ⟨fun k x _ hx => h.tail (k + 1) x (by omega) (by simpa using hx), fun x hx hu => by
    have := (h.tail 1 x (Nat.le_refl _) (by simpa using hx)).1
    rw [hu] at this; cases this⟩
theorem Inv.new {m m' : Msg} {r : List Msg} (h : Inv (m :: r)) (hm : m'.un = true → m'.nu ≠ 0) : Inv (m' :: r) :=
  ⟨fun k x hk hx => by
    obtain ⟨j, rfl⟩ : ∃ j, k = j + 1 := ⟨k - 1, by omega⟩
    exact h.tail (j + 1) x hk (by simpa using hx), fun x hx => by
    obtain rfl : m' = x := by simpa using hx
    exact hm⟩
theorem fi_head (m : Msg) (r : List Msg) : fi m.ct (m :: r) = some 0 := by
  unfold fi
  rw [List.findIdx?_cons]
  simp
theorem nextS_true {ms : List Msg} {m : Msg} (h : nextS true ms = some m) : ∃ r, ms = m :: r := by
  cases ms with
  | nil => cases h
  | cons x r =>
    unfold nextS at h
    split at h
    · simp at h
    · exact ⟨r, by simp only [Option.some.injEq] at h; rw [h]⟩
theorem tksS_nu (x : Int) (l : ActL) : ∀ t : Msg × Bool, t.1.nu ≠ 0 → (∀ y ∈ l, y.1 = 5 → x ≠ 0) → (tksS x t l).1.nu ≠ 0 := by
  induction l with
  | nil => intro t h _; exact h
  | cons y r ih =>
    intro t h h5
    refine ih (tkS x t y.1) ?_ (fun z hz => h5 z (List.mem_cons_of_mem _ hz))
    unfold tkS
    split
    · exact h
    · split
      · rename_i hy
        exact h5 y List.mem_cons_self hy
      · split <;> exact h
theorem doS_head {m m' : Msg} {r : List Msg} {x : Int} {l : ActL} (he : m'.ct = m.ct) : doS (m :: r) m' x l = r ∨ doS (m :: r) m' x l = (tksS x (m', false) l).1 :: r := by
  have hc : (tksS x (m', false) l).1.ct = m.ct := by rw [(tksS_ct x l (m', false)).1, he]
  unfold doS
  split
  · left
    unfold delS
    rw [hc, fi_head]
    rfl
  · right
    unfold putS
    rw [hc, fi_head]
    rfl
theorem inv_do {m m' : Msg} {r : List Msg} {x : Int} {l : ActL} (h : Inv (m :: r)) (he : m'.ct = m.ct) (hn : m'.nu ≠ 0) (h5 : ∀ y ∈ l, y.1 = 5 → x ≠ 0) : Inv (doS (m :: r) m' x l) := by
  rcases doS_head (m := m) (r := r) (x := x) (l := l) he with e | e
  · rw [e]; exact h.rest
  · rw [e]; exact h.new fun _ => tksS_nu x l (m', false) hn h5
theorem inv_step {ms ms' : List Msg} {kd : Int} {ct : ByteArray} {ds : List Deed} (h : Inv ms) (hs : StepR true ms kd ct ds ms') : Inv ms' ∧ ∀ d ∈ ds, ∃ m, ms[0]? = some m ∧ d.1 = m.ct ∧ m.nu ≠ 0 := by
  have hd : ∀ (m : Msg) (r : List Msg) (l : ActL), ms = m :: r → m.nu ≠ 0 → ∀ d ∈ deedsS m.ct l, ∃ m, ms[0]? = some m ∧ d.1 = m.ct ∧ m.nu ≠ 0 := fun m r l e hn d hd => by
    unfold deedsS at hd
    obtain ⟨y, _, rfl⟩ := List.mem_map.1 hd
    exact ⟨m, by rw [e]; rfl, rfl, hn⟩
  cases hs with
  | idle _ => exact ⟨h, fun d hd => by cases hd⟩
  | add m _ _ _ hnu hun =>
    refine ⟨⟨fun k x hk hx => ?_, fun x hx hu => ?_⟩, fun d hd => by cases hd⟩
    · by_cases hl : k < ms.length
      · rw [List.getElem?_append_left hl] at hx
        exact h.tail k x hk hx
      · have hm := List.mem_of_getElem? hx
        rw [List.getElem?_append_right (by omega)] at hx
        have := List.mem_of_getElem? hx
        simp only [List.mem_singleton] at this
        rw [this]; exact ⟨hun, hnu⟩
    · by_cases hl : 0 < ms.length
      · rw [List.getElem?_append_left hl] at hx
        exact h.head x hx hu
      · rw [List.getElem?_append_right (by omega)] at hx
        have := List.mem_of_getElem? hx
        simp only [List.mem_singleton] at this
        rw [this, hun] at hu; cases hu
  | give m n _ _ hn _ =>
    obtain ⟨r, rfl⟩ := nextS_true hn
    have hun := (nextS_mem hn).2
    refine ⟨?_, fun d hd => by cases hd⟩
    unfold putS
    rw [show fi ({ m with nu := n } : Msg).ct (m :: r) = some 0 from fi_head m r]
    exact h.new fun hu => by rw [show ({ m with nu := n } : Msg).un = m.un from rfl, hun] at hu; cases hu
  | go m st lf l _ hn hq h5 =>
    obtain ⟨r, rfl⟩ := nextS_true hn
    have hnu : m.nu ≠ 0 := by simpa using hq
    exact ⟨inv_do h rfl hnu fun y hy e => absurd e (h5 y hy).1, hd m r l rfl hnu⟩
  | ans m i st lf x l _ hf hm hu h5 =>
    have hi : i = 0 := by
      rcases Nat.eq_zero_or_pos i with g | g
      · exact g
      · have := (h.tail i m g hm).1
        rw [hu] at this; cases this
    subst hi
    have hnu := h.head m hm hu
    obtain ⟨r, rfl⟩ : ∃ r, ms = m :: r := by
      cases ms with
      | nil => simp at hm
      | cons y r => exact ⟨r, by simp at hm; rw [hm]⟩
    exact ⟨inv_do h rfl hnu (fun y hy e => by
      have := ((h5 y hy).1 e).2
      unfold nmB at this
      simp at this
      omega), hd m r l rfl hnu⟩
end Go.Proofs.YtoijhecphgdfnaaDoor

/-
  The law's 'final' and 'has'.
-/
namespace Go.Proofs.YtoijhecphgdfnaaDoor
open Go.RowKit

def finB (ds : List Deed) (s : ByteArray) : Bool := ds.any fun d => d.2.1 == 4 && d.1.toList == s.toList
def hasB (ms : List Msg) (s : ByteArray) : Bool := ms.any fun m => m.ct.toList == s.toList
theorem any_no {α : Type} {p : α → Bool} {l : List α} (h : ∀ (i : Nat) (x : α), i < l.length → l[i]? = some x → p x = false) : l.any p = false := by
  rw [List.any_eq_false]
  intro x hx
  obtain ⟨i, hi, e⟩ := List.getElem_of_mem hx
  rw [h i x hi (by rw [List.getElem?_eq_getElem hi, e])]
  simp
theorem any_yes {α : Type} {p : α → Bool} {l : List α} {i : Nat} {x : α} (hi : l[i]? = some x) (h : p x = true) : l.any p = true := List.any_eq_true.2 ⟨x, List.mem_of_getElem? hi, h⟩
end Go.Proofs.YtoijhecphgdfnaaDoor

/-
  A box whose control ids stand apart: what a call leaves of it. Of no program.
-/
namespace Go.Proofs.YtoijhecphgdfnaaDoor
open Go.RowKit

/-- The control ids, in their order. -/
def ids (ms : List Msg) : List (List UInt8) := ms.map fun m => m.ct.toList
theorem map_erase {α β : Type} (f : α → β) : ∀ (l : List α) (i : Nat), (l.eraseIdx i).map f = (l.map f).eraseIdx i
  | [], i => by simp
  | y :: r, 0 => rfl
  | y :: r, i + 1 => by
    show f y :: (r.eraseIdx i).map f = f y :: (r.map f).eraseIdx i
    rw [map_erase f r i]
theorem erase_filter {l : List (List UInt8)} (hn : l.Nodup) : ∀ {i : Nat} {x : List UInt8}, l[i]? = some x → l.eraseIdx i = l.filter (fun k => !(k == x)) := by
  induction l with
  | nil => intro i x h; simp at h
  | cons y r ih =>
    obtain ⟨h1, h2⟩ := List.nodup_cons.1 hn
    intro i x h
    cases i with
    | zero =>
      obtain rfl : y = x := by simpa using h
      show r = _
      rw [List.filter_cons_of_neg (by simp)]
      symm
      rw [List.filter_eq_self]
      intro k hk
      have : ¬ k = y := fun e => h1 (e ▸ hk)
      simpa using this
    | succ i =>
      have h' : r[i]? = some x := by simpa using h
      have hne : ¬ y = x := fun e => h1 (e ▸ List.mem_of_getElem? h')
      show y :: r.eraseIdx i = _
      rw [List.filter_cons_of_pos (by simpa using hne), ih h2 h']
theorem ids_len (ms : List Msg) : (ids ms).length = ms.length := by simp [ids]
theorem fi_ids {s : ByteArray} {ms : List Msg} {i : Nat} (h : fi s ms = some i) : (ids ms)[i]? = some s.toList := by
  obtain ⟨m, hm, he, _⟩ := fi_some h
  unfold ids
  rw [List.getElem?_map, hm]
  simpa using he
theorem ids_put {m : Msg} {ms : List Msg} {i : Nat} (h : fi m.ct ms = some i) : ids (putS m ms) = ids ms := by
  have hi := fi_ids h
  unfold putS
  rw [h]
  show ids (ms.set i m) = ids ms
  unfold ids at hi ⊢
  rw [List.map_set]
  have hl := (List.getElem?_eq_some_iff.1 hi).1
  have he := (List.getElem?_eq_some_iff.1 hi).2
  rw [← he]
  exact List.set_getElem_self hl
theorem ids_del {s : ByteArray} {ms : List Msg} {i : Nat} (h : fi s ms = some i) (hn : (ids ms).Nodup) : ids (delS s ms) = (ids ms).filter (fun k => !(k == s.toList)) := by
  have hi := fi_ids h
  unfold delS
  rw [h]
  show ids (ms.eraseIdx i) = _
  have e1 : ids (ms.eraseIdx i) = (ids ms).eraseIdx i := map_erase _ ms i
  rw [e1]
  exact erase_filter hn hi
theorem tksS_over (x : Int) (l : ActL) : ∀ t : Msg × Bool, (tksS x t l).2 = (t.2 || l.any fun y => y.1 == 4) := by
  induction l with
  | nil => intro t; simp [tksS]
  | cons y r ih =>
    intro t
    have e : tksS x t (y :: r) = tksS x (tkS x t y.1) r := rfl
    rw [e, ih, List.any_cons]
    unfold tkS
    split
    · rename_i h; rw [h]; simp
    · split
      · rename_i h; rw [h]; simp
      · split
        · rename_i h; rw [h]; simp
        · rename_i h
          have : (y.1 == 4) = false := by simpa using h
          rw [this]; simp
theorem fin_deeds (c s : ByteArray) (l : ActL) : finB (deedsS c l) s = ((l.any fun y => y.1 == 4) && c.toList == s.toList) := by
  unfold finB deedsS
  rw [List.any_map]
  cases h : (c.toList == s.toList) with
  | true => simp [Function.comp_def, h]
  | false => simp [Function.comp_def, h]
/-- What a call that is done leaves. -/
structure StepI (ms ms' : List Msg) (kd : Int) (ct : ByteArray) (ds : List Deed) : Prop where
  nodup : (ids ms').Nodup
  one : ∀ d ∈ ds, ∀ d' ∈ ds, d.1 = d'.1
  add : kd = 1 → ds = [] ∧ ∃ m, ms' = ms ++ [m] ∧ m.ct = ct ∧ m.un = false
  stay : kd ≠ 1 → ids ms' = (ids ms).filter fun k => !(ds.any fun d => d.2.1 == 4 && d.1.toList == k)
theorem step_do {ms : List Msg} {m m' : Msg} {i : Nat} {kd x : Int} {ct : ByteArray} {l : ActL} (hn : (ids ms).Nodup) (h : kd ≠ 1) (hf : fi m.ct ms = some i) (he : m'.ct = m.ct) : StepI ms (doS ms m' x l) kd ct (deedsS m.ct l) := by
  have hc : (tksS x (m', false) l).1.ct = m.ct := by rw [(tksS_ct x l (m', false)).1, he]
  have hv := tksS_over x l (m', false)
  rw [Bool.false_or] at hv
  have hfin : ∀ k, ((deedsS m.ct l).any fun d => d.2.1 == 4 && d.1.toList == k) = ((l.any fun y => y.1 == 4) && m.ct.toList == k) := fun k => by
    unfold deedsS
    rw [List.any_map]
    cases h : (m.ct.toList == k) with
    | true => simp [Function.comp_def, h]
    | false => simp [Function.comp_def, h]
  have e1 : ids (doS ms m' x l) = (ids ms).filter fun k => !((deedsS m.ct l).any fun d => d.2.1 == 4 && d.1.toList == k) := by
    unfold doS
    rw [hv]
    cases ho : (l.any fun y => y.1 == 4) with
    | true =>
      rw [if_pos rfl, hc, ids_del hf hn]
      congr 1
      funext k
      rw [hfin, ho, Bool.true_and]
      cases hk : (m.ct.toList == k) with
      | true => rw [show (k == m.ct.toList) = true by simp at hk ⊢; exact hk.symm]
      | false => rw [show (k == m.ct.toList) = false by simp at hk ⊢; exact fun e => hk e.symm]
    | false =>
      rw [if_neg (by decide), ids_put (by rw [hc]; exact hf)]
      symm
      rw [List.filter_eq_self]
      intro k _
      rw [hfin, ho]
      rfl
  refine ⟨by rw [e1]; exact hn.filter _, fun d hd d' hd' => ?_, fun e => absurd e h, fun _ => e1⟩
  unfold deedsS at hd hd'
  obtain ⟨y, _, rfl⟩ := List.mem_map.1 hd
  obtain ⟨y', _, rfl⟩ := List.mem_map.1 hd'
  rfl
theorem ids_all (ms : List Msg) : (ids ms).filter (fun k => !(([] : List Deed).any fun d => d.2.1 == 4 && d.1.toList == k)) = ids ms := by simp
theorem step_ids {sq : Bool} {ms ms' : List Msg} {kd : Int} {ct : ByteArray} {ds : List Deed} (hn : (ids ms).Nodup) (hs : StepR sq ms kd ct ds ms') : StepI ms ms' kd ct ds := by
  cases hs with
  | idle h => exact ⟨hn, fun d hd => (by cases hd), fun e => absurd e h, fun _ => (ids_all ms).symm⟩
  | add m h he hc hnu hun =>
    refine ⟨?_, fun d hd => (by cases hd), fun _ => ⟨rfl, m, rfl, he, hun⟩, fun e => absurd h e⟩
    have hr : refS sq ms m = 0 := by
      unfold addC at hc
      split at hc
      · omega
      · exact hc
    have hf := (refS_zero hr).1
    unfold ids
    rw [List.map_append, List.nodup_append]
    refine ⟨hn, by simp, fun a ha b hb => ?_⟩
    obtain ⟨x, hx, rfl⟩ := List.mem_map.1 ha
    simp only [List.map_cons, List.map_nil, List.mem_singleton] at hb
    rw [hb]
    obtain ⟨j, hj, e⟩ := List.getElem_of_mem hx
    have := fi_none hf j x (by rw [List.getElem?_eq_getElem hj, e])
    simpa using this
  | give m n h hs hx hg =>
    obtain ⟨i, hi⟩ := fi_mem (nextS_mem hx).1
    have e : ids (putS { m with nu := n } ms) = ids ms := ids_put (m := { m with nu := n }) hi
    exact ⟨by rw [e]; exact hn, fun d hd => (by cases hd), fun e => absurd e h, fun _ => by rw [e]; exact (ids_all ms).symm⟩
  | go m st lf l h hx hq h5 =>
    obtain ⟨i, hi⟩ := fi_mem (nextS_mem hx).1
    exact step_do hn h hi rfl
  | ans m i st lf x l h hf hm hu h5 => exact step_do hn h hf rfl
end Go.Proofs.YtoijhecphgdfnaaDoor
