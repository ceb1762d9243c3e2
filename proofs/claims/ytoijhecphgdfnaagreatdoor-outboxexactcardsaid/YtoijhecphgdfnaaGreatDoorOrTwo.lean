import Derived.Test.YtoijhecphgdfnaaGreatDoorOrBase
import Derived.Test.YtoijhecphgdfnaaGreatDoorOrMade
/-
  OutboxBack: what List tells is taken again; every one of it goes out. Of no program.
-/
namespace Go.Proofs.YtoijhecphgdfnaaGreatDoor
open Go.RowKit

/-- The same but for the turn and the text's place. -/
def Lk (xs ms : List Msg) : Prop := xs.length = ms.length ∧ ∀ (i : Nat) (x m : Msg), xs[i]? = some x → ms[i]? = some m → x.ct = m.ct ∧ x.tn = m.tn ∧ x.e = m.e ∧ x.a = m.a ∧ x.p = m.p ∧ x.nu = m.nu ∧ x.nt = m.nt
theorem good_bk {sq : Bool} {tr : Int} {xs ms : List Msg} (h : Good sq tr xs) (hp : ∀ x ∈ xs, Plain x) (hw : Wis ms xs) : Bk sq ms := by
  have key : ∀ k, k ≤ ms.length → Bk sq (ms.take k) := by
    intro k
    induction k with
    | zero => intro _; simpa using Bk.nil sq
    | succ k ih =>
      intro hk
      obtain ⟨m, hm⟩ : ∃ m, ms[k]? = some m := ⟨_, List.getElem?_eq_getElem (by omega)⟩
      obtain ⟨x, hx⟩ : ∃ x, xs[k]? = some x := ⟨_, List.getElem?_eq_getElem (by rw [← hw.1]; omega)⟩
      obtain ⟨a, c, rfl⟩ := hw.2 k m x hm hx
      rw [List.take_add_one, hm]
      refine (ih (by omega)).snoc ?_ (hp x (List.mem_of_getElem? hx)).2.2
      exact ((refS_wis (hw.take k) (x.wi a c)).trans rfl : refS sq (ms.take k) (x.wi a c) = refS sq (xs.take k) x).trans (h.ref k x hx)
  have := key ms.length (Nat.le_refl _)
  rwa [List.take_length] at this
/-- How many are not under way. -/
def cnt (ms : List Msg) : Nat := ms.countP fun m => !m.un
theorem cnt_erase : ∀ (ms : List Msg) (i : Nat) (m : Msg), ms[i]? = some m → m.un = false → cnt (ms.eraseIdx i) + 1 = cnt ms
  | [], i, m, h, _ => by simp at h
  | y :: r, 0, m, h, hu => by
    obtain rfl : y = m := by simpa using h
    show cnt r + 1 = cnt (y :: r)
    unfold cnt
    rw [List.countP_cons_of_pos (by simp [hu])]
  | y :: r, i + 1, m, h, hu => by
    have := cnt_erase r i m (by simpa using h) hu
    show cnt (y :: r.eraseIdx i) + 1 = cnt (y :: r)
    unfold cnt at this ⊢
    rw [List.countP_cons, List.countP_cons]
    omega
theorem cnt_set : ∀ (ms : List Msg) (i : Nat) (m m' : Msg), ms[i]? = some m → m.un = false → m'.un = true → cnt (ms.set i m') + 1 = cnt ms
  | [], i, m, m', h, _, _ => by simp at h
  | y :: r, 0, m, m', h, hu, hu' => by
    obtain rfl : y = m := by simpa using h
    show cnt (m' :: r) + 1 = cnt (y :: r)
    unfold cnt
    rw [List.countP_cons_of_pos (p := fun m : Msg => !m.un) (a := y) (by simp [hu]), List.countP_cons_of_neg (p := fun m : Msg => !m.un) (a := m') (by simp [hu'])]
  | y :: r, i + 1, m, m', h, hu, hu' => by
    have := cnt_set r i m m' (by simpa using h) hu hu'
    show cnt (y :: r.set i m') + 1 = cnt (y :: r)
    unfold cnt at this ⊢
    rw [List.countP_cons, List.countP_cons]
    omega
theorem cnt_same : ∀ (ms : List Msg) (i : Nat) (m m' : Msg), ms[i]? = some m → m'.un = m.un → cnt (ms.set i m') = cnt ms
  | [], i, m, m', h, _ => by simp at h
  | y :: r, 0, m, m', h, hu => by
    obtain rfl : y = m := by simpa using h
    show cnt (m' :: r) = cnt (y :: r)
    unfold cnt
    rw [List.countP_cons, List.countP_cons, hu]
  | y :: r, i + 1, m, m', h, hu => by
    have := cnt_same r i m m' (by simpa using h) hu
    show cnt (y :: r.set i m') = cnt (y :: r)
    unfold cnt at this ⊢
    rw [List.countP_cons, List.countP_cons]
    omega
/-- The last loop, between two rounds. -/
structure Fn (sq : Bool) (N n : Nat) (ms : List Msg) : Prop where
  bk : Bk sq ms
  st : (cnt ms = N - n ∧ (sq = true → ∀ m ∈ ms, m.un = false)) ∨ (sq = true ∧ 0 < n ∧ nextS sq ms = none)
theorem Fn.start {sq : Bool} {ms : List Msg} (h : Bk sq ms) (hu : ∀ m ∈ ms, m.un = false) : Fn sq ms.length 0 ms := by
  refine ⟨h, Or.inl ⟨?_, fun _ => hu⟩⟩
  unfold cnt
  rw [Nat.sub_zero, List.countP_eq_length]
  exact fun m hm => by rw [hu m hm]; rfl
/-- Behind a Give: the same, and the next one has a number. -/
theorem Fn.give {N n : Nat} {ms : List Msg} {m : Msg} (h : Fn true N n ms) (hn : nextS true ms = some m) : Fn true N n (putS { m with nu := 1 } ms) ∧ nextS true (putS { m with nu := 1 } ms) = some { m with nu := 1 } := by
  rcases h.st with ⟨h1, h2⟩ | ⟨_, _, e⟩
  · obtain ⟨r, rfl⟩ := nextS_true hn
    have hu := (nextS_mem hn).2
    have e1 : putS { m with nu := 1 } (m :: r) = { m with nu := 1 } :: r := by
      unfold putS
      rw [show fi ({ m with nu := 1 } : Msg).ct (m :: r) = some 0 from fi_head m r]
      rfl
    have hb := bk_step (ct := nT) (kd := 0) h.bk (StepR.give m 1 (by decide) rfl hn (by decide))
    rw [e1] at hb ⊢
    refine ⟨⟨hb, Or.inl ⟨?_, fun _ x hx => ?_⟩⟩, ?_⟩
    · rw [← h1]
      exact cnt_same (m :: r) 0 m { m with nu := 1 } rfl rfl
    · rcases List.mem_cons.1 hx with rfl | g
      · exact hu
      · exact h2 rfl x (List.mem_cons_of_mem _ g)
    · unfold nextS
      rw [if_neg (by show ¬ m.un = true; rw [hu]; decide)]
  · rw [e] at hn; cases hn
theorem Fn.go {sq : Bool} {N n : Nat} {ms : List Msg} {m : Msg} {st lf : Int} {l : ActL} (h : Fn sq N n ms) (hn : nextS sq ms = some m) (h5 : ∀ y ∈ l, y.1 ≠ 5 ∧ y.1 ≠ 3) : Fn sq N (n + 1) (doS ms { m with st := st, lf := lf, un := true } 0 l) := by
  rcases h.st with ⟨h1, h2⟩ | ⟨_, _, e⟩
  · obtain ⟨i, hm, hi⟩ := next_at hn
    have hu := (nextS_mem hn).2
    refine ⟨bk_do h.bk hm hi fun y hy => ⟨fun e => absurd e (h5 y hy).1, fun e => absurd e (h5 y hy).2⟩, ?_⟩
    rcases doS_at (m := m) (m' := { m with st := st, lf := lf, un := true }) (x := 0) (l := l) (fi_at h.bk.id hm) rfl with e | e
    · rw [e]
      have := cnt_erase ms i m hm hu
      exact Or.inl ⟨by omega, fun hq x hx => h2 hq x (List.mem_of_mem_eraseIdx hx)⟩
    · rw [e]
      have hu' : (tksS 0 ({ m with st := st, lf := lf, un := true }, false) l).1.un = true := (tks_keep 0 l ({ m with st := st, lf := lf, un := true }, false)).2.2.2.1
      have := cnt_set ms i m _ hm hu hu'
      cases sq with
      | false => exact Or.inl ⟨by omega, fun hq => by cases hq⟩
      | true =>
        obtain rfl := hi rfl
        obtain ⟨r, rfl⟩ := nextS_true hn
        refine Or.inr ⟨rfl, by omega, ?_⟩
        show nextS true (_ :: r) = none
        unfold nextS
        rw [if_pos hu', if_pos rfl]
  · rw [e] at hn; cases hn
end Go.Proofs.YtoijhecphgdfnaaGreatDoor

/-
  The two boxes in one state.
-/
namespace Go.Proofs.YtoijhecphgdfnaaGreatDoor
open Go.RowKit

/-- A text's block. -/
abbrev Msg.blk (m : Msg) : Option Nat := (Value.slice m.tp m.tn m.tc).ownBlock
/-- The texts are those of before. -/
def TxIn (ms' ms : List Msg) : Prop := ∀ y ∈ ms', ∃ z ∈ ms, y.tp = z.tp ∧ y.tn = z.tn ∧ y.tc = z.tc
theorem TxIn.refl (ms : List Msg) : TxIn ms ms := fun y hy => ⟨y, hy, rfl, rfl, rfl⟩
theorem TxIn.blk {ms' ms : List Msg} (h : TxIn ms' ms) {y : Msg} (hy : y ∈ ms') {q : Nat} (hq : y.blk = some q) : ∃ z ∈ ms, z.blk = some q := by
  obtain ⟨z, hz, e1, e2, e3⟩ := h y hy
  refine ⟨z, hz, ?_⟩
  unfold Msg.blk at hq ⊢
  rw [← e1, ← e2, ← e3]; exact hq
theorem txin_do {ms : List Msg} {i : Nat} {m m' : Msg} (hm : ms[i]? = some m) (e1 : m'.tp = m.tp) (e2 : m'.tn = m.tn) (e3 : m'.tc = m.tc) (x : Int) (l : ActL) : TxIn (donS ms i m' x l) ms := fun y hy => by
  unfold donS at hy
  split at hy
  · exact ⟨y, List.mem_of_mem_eraseIdx hy, rfl, rfl, rfl⟩
  · rcases mem_set hy with g | rfl
    · exact ⟨y, g, rfl, rfl, rfl⟩
    · have h := tksS_ct x l (m', false)
      exact ⟨m, List.mem_of_getElem? hm, h.2.1.trans e1, h.2.2.1.trans e2, h.2.2.2.1.trans e3⟩
section
variable {sq : Bool} {tr : Int} {ms : List Msg}
theorem txin_go : TxIn (goA sq tr ms).ms ms := by
  unfold goA
  cases nxI sq ms with
  | none => exact TxIn.refl ms
  | some i =>
    simp only []
    cases hm : ms[i]? with
    | none => exact TxIn.refl ms
    | some m =>
      simp only []
      split
      · exact TxIn.refl ms
      · exact txin_do hm (by rfl) (by rfl) (by rfl) _ _
theorem txin_due (s : ByteArray) : TxIn (dueA ms s).ms ms := by
  unfold dueA
  cases fi s ms with
  | none => exact TxIn.refl ms
  | some i =>
    simp only []
    cases hm : ms[i]? with
    | none => exact TxIn.refl ms
    | some m =>
      simp only []
      split
      · exact TxIn.refl ms
      · exact txin_do hm (by rfl) (by rfl) (by rfl) _ _
theorem txin_heard (s cd : ByteArray) (x : Int) : TxIn (heardA sq ms s cd x).ms ms := by
  unfold heardA
  cases fi s ms with
  | none => exact TxIn.refl ms
  | some i =>
    simp only []
    cases hm : ms[i]? with
    | none => exact TxIn.refl ms
    | some m =>
      simp only []
      split
      · exact TxIn.refl ms
      split
      · exact TxIn.refl ms
      split
      · exact TxIn.refl ms
      · exact txin_do hm (by rfl) (by rfl) (by rfl) _ _
theorem txin_give (x : Int) : TxIn (givM sq ms x) ms := by
  unfold givM
  split
  · cases hm : ms[0]? with
    | none => exact TxIn.refl ms
    | some m =>
      intro y hy
      rcases mem_set hy with g | rfl
      · exact ⟨y, g, rfl, rfl, rfl⟩
      · exact ⟨m, List.mem_of_getElem? hm, rfl, rfl, rfl⟩
  · exact TxIn.refl ms
end
/-- The two boxes beside one another, all of it behind K. -/
structure Pb (w : World) (K b kb r : Nat) (v L : Value) (sq : Bool) (tr : Int) (ms rs : List Msg) : Prop where
  bx : Bx w b kb v sq tr ms
  rb : RB w K r L sq tr rs
  b0 : K ≤ b
  k0 : K ≤ kb
  v0 : ∀ q, v.ownBlock = some q → K ≤ q ∧ L.ownBlock ≠ some q
  t0 : ∀ m ∈ ms, ∀ q, m.blk = some q → K ≤ q
/-- What is theirs. -/
def Ft (b kb r : Nat) (v L : Value) (ms rs : List Msg) (q : Nat) : Prop := q = b ∨ q = kb ∨ q = r ∨ v.ownBlock = some q ∨ L.ownBlock = some q ∨ (∃ m ∈ ms, m.blk = some q) ∨ ∃ m ∈ rs, m.blk = some q
section
variable {w w' : World} {K b kb r : Nat} {v L : Value} {sq : Bool} {tr : Int} {ms rs ms' rs' : List Msg}
theorem Pb.off {P : Nat → Prop} (h : Pb w K b kb r v L sq tr ms rs) (o : Off P w w') (hP : ∀ q, Ft b kb r v L ms rs q → ¬ P q) : Pb w' K b kb r v L sq tr ms rs :=
  ⟨h.bx.off o (hP _ (Or.inl rfl)) (hP _ (Or.inr (Or.inl rfl))) (fun q hq => hP q (Or.inr (Or.inr (Or.inr (Or.inl hq))))) (fun m hm q hq => hP q (Or.inr (Or.inr (Or.inr (Or.inr (Or.inr (Or.inl ⟨m, hm, hq⟩))))))),
   h.rb.off o (hP _ (Or.inr (Or.inr (Or.inl rfl)))) (fun q hq => hP q (Or.inr (Or.inr (Or.inr (Or.inr (Or.inl hq)))))) (fun m hm q hq => hP q (Or.inr (Or.inr (Or.inr (Or.inr (Or.inr (Or.inr ⟨m, hm, hq⟩))))))), h.b0, h.k0, h.v0, h.t0⟩
theorem Pb.below (h : Pb w K b kb r v L sq tr ms rs) (hb : Below w.heap.size w w') : Pb w' K b kb r v L sq tr ms rs := ⟨h.bx.below hb, h.rb.below hb, h.b0, h.k0, h.v0, h.t0⟩
theorem Pb.lt (h : Pb w K b kb r v L sq tr ms rs) {q : Nat} (hq : Ft b kb r v L ms rs q) : K ≤ q ∧ q < w.heap.size := by
  rcases hq with e | e | e | e | e | ⟨m, hm, e⟩ | ⟨m, hm, e⟩
  · subst e; exact ⟨h.b0, h.bx.lt⟩
  · subst e; exact ⟨h.k0, blk_lt h.bx.2.1.1⟩
  · subst e; exact ⟨h.rb.lB, h.rb.lt⟩
  · exact ⟨(h.v0 q e).1, (ERow.lt h.bx.2.1.2.1 e).2⟩
  · exact ERow.lt h.rb.row e
  · exact ⟨h.t0 m hm q e, (ERow.lt (h.bx.2.2 m hm).1 e).2⟩
  · exact ERow.lt (h.rb.own m hm).1 e
theorem kd_type {g : Nat} (h : Bx w b kb v sq tr ms) : v.ownBlock = some g → ∃ cs, w.heap[g]? = some (.cells cs 91 (0, 0)) := fun hg => msrow_type h.2.1.2.1 hg
/-- The program's box moves; the document's stays. -/
theorem Pb.left (h : Pb w K b kb r v L sq tr ms rs) (hq : BxQ w b kb v sq tr ms' w') (ht : ∀ y ∈ ms', ∀ q, y.blk = some q → (∃ z ∈ ms, z.blk = some q) ∨ w.heap.size ≤ q) : ∃ v', Pb w' K b kb r v' L sq tr ms' rs ∧ (∀ q, Ft b kb r v' L ms' rs q → Ft b kb r v L ms rs q ∨ w.heap.size ≤ q) ∧ Off (fun q => q = kb ∨ v.ownBlock = some q) w w' := by
  obtain ⟨v', q1, q2, q3⟩ := hq
  have hK : K ≤ w.heap.size := Nat.le_trans h.b0 (Nat.le_of_lt h.bx.lt)
  have rk : r ≠ kb := fun e => by have h1 := h.rb.blk; rw [e, h.bx.2.1.1] at h1; simp at h1
  have rv : v.ownBlock ≠ some r := fun e => by
    obtain ⟨cs, hc⟩ := kd_type h.bx e
    rw [h.rb.blk] at hc
    simp at hc
  have Lk : L.ownBlock ≠ some kb := fun e => by
    obtain ⟨cs, hc⟩ := msrow_type h.rb.row e
    rw [h.bx.2.1.1] at hc
    simp at hc
  have hrb : RB w' K r L sq tr rs := h.rb.off q2 (fun e => by
    rcases e with e | e
    · exact rk e
    · exact rv e) (fun q hq e => by
    rcases e with e | e
    · exact Lk (by rw [← e]; exact hq)
    · exact (h.v0 q e).2 hq) (fun m hm q hq e => by
    obtain ⟨cs, hc⟩ := brow_type (h.rb.own m hm).1 hq
    rcases e with e | e
    · rw [e, h.bx.2.1.1] at hc; simp at hc
    · obtain ⟨cs', hc'⟩ := kd_type h.bx e
      rw [hc] at hc'; simp at hc')
  refine ⟨v', ⟨q1, hrb, h.b0, h.k0, fun q hq => ?_, fun m hm q hq => ?_⟩, fun q hq => ?_, q2⟩
  · rcases q3 q hq with e | e
    · exact h.v0 q e
    · exact ⟨Nat.le_trans hK e, fun hl => by have := (ERow.lt h.rb.row hl).2; omega⟩
  · rcases ht m hm q hq with ⟨z, hz, e⟩ | e
    · exact h.t0 z hz q e
    · exact Nat.le_trans hK e
  · rcases hq with e | e | e | e | e | ⟨m, hm, e⟩ | e
    · exact Or.inl (Or.inl e)
    · exact Or.inl (Or.inr (Or.inl e))
    · exact Or.inl (Or.inr (Or.inr (Or.inl e)))
    · rcases q3 q e with g | g
      · exact Or.inl (Or.inr (Or.inr (Or.inr (Or.inl g))))
      · exact Or.inr g
    · exact Or.inl (Or.inr (Or.inr (Or.inr (Or.inr (Or.inl e)))))
    · rcases ht m hm q e with g | g
      · exact Or.inl (Or.inr (Or.inr (Or.inr (Or.inr (Or.inr (Or.inl g))))))
      · exact Or.inr g
    · exact Or.inl (Or.inr (Or.inr (Or.inr (Or.inr (Or.inr (Or.inr e))))))
/-- The document's box moves; the program's stays. -/
theorem Pb.right (h : Pb w K b kb r v L sq tr ms rs) (hq : RBQ w K r L sq tr rs' w') (ht : ∀ y ∈ rs', ∀ q, y.blk = some q → (∃ z ∈ rs, z.blk = some q) ∨ w.heap.size ≤ q) : ∃ L', Pb w' K b kb r v L' sq tr ms rs' ∧ (∀ q, Ft b kb r v L' ms rs' q → Ft b kb r v L ms rs q ∨ w.heap.size ≤ q) ∧ Off (fun q => q = r ∨ L.ownBlock = some q) w w' := by
  obtain ⟨L', q1, q2, q3⟩ := hq
  have rk : kb ≠ r := fun e => by have h1 := h.rb.blk; rw [← e, h.bx.2.1.1] at h1; simp at h1
  have rb_ : b ≠ r := fun e => by have h1 := h.rb.blk; rw [← e, h.bx.1] at h1; simp at h1
  have Lk : ∀ {q : Nat} {cs : Array Value} {t : TypeId}, t ≠ 91 → w.heap[q]? = some (.cells cs t (0, 0)) → L.ownBlock ≠ some q := fun {q cs t} ht hc e => by
    obtain ⟨cs', hc'⟩ := msrow_type h.rb.row e
    rw [hc] at hc'
    simp only [Option.some.injEq, Obj.cells.injEq] at hc'
    exact ht hc'.2.1
  have hbx : Bx w' b kb v sq tr ms := h.bx.off q2 (fun e => e.elim rb_ (Lk (by decide) h.bx.1)) (fun e => e.elim rk (Lk (by decide) h.bx.2.1.1)) (fun q hq e => by
    rcases e with e | e
    · obtain ⟨cs, hc⟩ := kd_type h.bx hq
      rw [e, h.rb.blk] at hc; simp at hc
    · exact (h.v0 q hq).2 e) (fun m hm q hq e => by
    obtain ⟨cs, hc⟩ := brow_type (h.bx.2.2 m hm).1 hq
    rcases e with e | e
    · rw [e, h.rb.blk] at hc; simp at hc
    · exact Lk (by decide) hc e)
  refine ⟨L', ⟨hbx, q1, h.b0, h.k0, fun q hq => ⟨(h.v0 q hq).1, fun hl => ?_⟩, h.t0⟩, fun q hq => ?_, q2⟩
  · rcases q3 q hl with g | g
    · exact (h.v0 q hq).2 g
    · have := (ERow.lt h.bx.2.1.2.1 hq).2; omega
  · rcases hq with e | e | e | e | e | e | ⟨m, hm, e⟩
    · exact Or.inl (Or.inl e)
    · exact Or.inl (Or.inr (Or.inl e))
    · exact Or.inl (Or.inr (Or.inr (Or.inl e)))
    · exact Or.inl (Or.inr (Or.inr (Or.inr (Or.inl e))))
    · rcases q3 q e with g | g
      · exact Or.inl (Or.inr (Or.inr (Or.inr (Or.inr (Or.inl g)))))
      · exact Or.inr g
    · exact Or.inl (Or.inr (Or.inr (Or.inr (Or.inr (Or.inr (Or.inl e))))))
    · rcases ht m hm q e with g | g
      · exact Or.inl (Or.inr (Or.inr (Or.inr (Or.inr (Or.inr (Or.inr g))))))
      · exact Or.inr g
end
/-- The two boxes, from call to call. -/
structure Pr (w : World) (K b kb r : Nat) (v L : Value) (sq : Bool) (tr : Int) (ms rs : List Msg) : Prop where
  pb : Pb w K b kb r v L sq tr ms rs
  wis : Wis ms rs
  ok : Okk sq tr ms
theorem good_okk {sq : Bool} {tr : Int} {ms xs : List Msg} (h : Good sq tr xs) (hp : ∀ x ∈ xs, Plain x) (hw : Wis ms xs) : Okk sq tr ms := by
  refine ⟨h.t0, h.t1, good_bk h hp hw, fun m hm hu => ?_⟩
  obtain ⟨i, hi, e⟩ := List.getElem_of_mem hm
  obtain ⟨y, a, c, hy, rfl⟩ := hw.at_ (show ms[i]? = some m by rw [List.getElem?_eq_getElem hi, e])
  have := (hp y (List.mem_of_getElem? hy)).2.2
  rw [show (y.wi a c).un = y.un from rfl, this] at hu
  cases hu
/-- What made leaves. -/
theorem MRes.pr {K : Nat} {sq : Bool} {tr : Int} {xs : List Msg} {bv rv : Value} {w : World} (h : MRes K sq tr xs bv rv w) (hp : ∀ x ∈ xs, Plain x) : (bv = .pointer none ∧ rv = .pointer none) ∨ ∃ b kb v ms r L rs, bv = .pointer (some ⟨b, 0, none⟩) ∧ rv = .pointer (some ⟨r, 0, none⟩) ∧ Pr w K b kb r v L sq tr ms rs := by
  rcases h with h | ⟨b, kb, v, ms, r, L, rs, h1, h2, h3, h4, h5, h6, h7, h8, h9, h10, h11⟩
  · exact Or.inl h
  · exact Or.inr ⟨b, kb, v, ms, r, L, rs, h1, h2, ⟨h3, h4, h8, h9, h10, h11⟩, h5.trans h6.swap, good_okk h7 hp h5⟩
end Go.Proofs.YtoijhecphgdfnaaGreatDoor
