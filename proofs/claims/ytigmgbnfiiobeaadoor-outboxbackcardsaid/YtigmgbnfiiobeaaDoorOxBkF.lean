import Derived.Test.YtigmgbnfiiobeaaDoorOxOuts
import Derived.Test.YtigmgbnfiiobeaaDoorOxAdd
/-
  Load of any list.
-/
namespace Go.Proofs.YtigmgbnfiiobeaaDoor
open Go.RowKit

set_option maxRecDepth 100000 in
set_option maxHeartbeats 4000000 in
theorem load_any (sq : Bool) (tr : Int) (ao : Option Addr) (cap : Nat) (xs : List Msg) (w : World) (hV : PVc w) (ho : Outs w ao xs) (hp : ∀ x ∈ xs, Plain x) (hl : xs.length ≤ 140737488355328) :
    Calls Tryd.prog 5 #[.slice ao xs.length cap, .bool sq, .int .i64 tr] w (LdQ w sq tr xs) := by
  obtain ⟨n, hn⟩ : ∃ n, xs.length = n := ⟨_, rfl⟩
  have HN : Hid (xs.length = n) := hn
  rw [hn] at hl ⊢
  clear hn
  by_cases h0 : tr < 0
  · have HG : Hid (¬ Good sq tr xs) := fun g => by have := g.t0; omega
    clear ho hp hV
    go_enter Tryd.func5, Tryd.ntmps5
    go_wp2_with fail
    refine (fault_any _ _ _).mono ?_
    rintro _ w2 ⟨rfl, hf2, hb2⟩
    have HE : Hid (Below w.heap.size w w2) := hb2
    clear hf2 hb2
    go_wp2_with fail
    go_ret2
    exact Or.inl ⟨⟨_, rfl⟩, HG.out, HE.out⟩
  by_cases h1 : tr > 16
  · have HG : Hid (¬ Good sq tr xs) := fun g => by have := g.t1; omega
    clear ho hp hV
    go_enter Tryd.func5, Tryd.ntmps5
    go_wp2_with fail
    refine (fault_any _ _ _).mono ?_
    rintro _ w2 ⟨rfl, hf2, hb2⟩
    have HE : Hid (Below w.heap.size w w2) := hb2
    clear hf2 hb2
    go_wp2_with fail
    go_ret2
    exact Or.inl ⟨⟨_, rfl⟩, HG.out, HE.out⟩
  by_cases h2 : n > 32
  · have g2 : (n : Int) > 32 := by omega
    have HG : Hid (¬ Good sq tr xs) := fun g => by have := g.len; have := HN.out; omega
    clear ho hp hV h2
    go_enter Tryd.func5, Tryd.ntmps5
    go_wp2_with fail
    refine (fault_any _ _ _).mono ?_
    rintro _ w2 ⟨rfl, hf2, hb2⟩
    have HE : Hid (Below w.heap.size w w2) := hb2
    clear hf2 hb2
    go_wp2_with fail
    go_ret2
    exact Or.inl ⟨⟨_, rfl⟩, HG.out, HE.out⟩
  have g2 : ¬ (n : Int) > 32 := by omega
  have HH : Hid (PVc w ∧ Outs w ao xs ∧ (∀ x ∈ xs, Plain x) ∧ 0 ≤ tr ∧ tr ≤ 16 ∧ n ≤ 32) := ⟨hV, ho, hp, by omega, by omega, by omega⟩
  have HS : Hid (LdI w (w.heap.size + 1) w.heap.size sq tr xs 0 ((w.alloc (.cells #[.func (.func 17) #[] #[], .slice none 0 0] 71)).alloc (.cells #[.pointer (some ⟨w.heap.size, 0, none⟩), .bool sq, .int .i64 tr] 73))) := ld_start w sq tr xs
  clear hV ho hp h2
  go_enter Tryd.func5, Tryd.ntmps5
  go_wp2_with fail
  go_loopw [33] (fun t wx => ∃ i : Nat, i ≤ n ∧ t = .int .i64 i ∧ Hid (LdI w (w.heap.size + 1) w.heap.size sq tr xs i wx)) (fun t _ => n - (intOf t).toNat)
  case atStart => exact ⟨0, Nat.zero_le _, rfl, HS⟩
  case round =>
    obtain ⟨i, hi, rfl, HR⟩ := hrel
    clear HS
    by_cases hlt : i < n
    · have hlt1 : (i : Int) < n := by omega
      obtain ⟨x, hx⟩ : ∃ x, xs[i]? = some x := ⟨_, List.getElem?_eq_getElem (by rw [HN.out]; exact hlt)⟩
      obtain ⟨v, ms, L, hW⟩ := HR.out.ex
      obtain ⟨pb, off, rfl, hat⟩ := HH.out.2.1 i x hx
      have hatr := hat.below L.bel
      have f0 := hatr.c0
      have f1 := hatr.c1
      have f2 := hatr.c2
      have f3 := hatr.c3
      have f4 := hatr.c4
      have f5 := hatr.c5
      have f6 := hatr.c6
      have lp := hatr.lt
      have HX : Hid (xs[i]? = some x ∧ Li w wr (w.heap.size + 1) w.heap.size v sq tr ms ∧ Wis ms (xs.take i) ∧ Byts wr x.tp x.tn x.tx ∧ (x.tp = none → x.tc = 0)) := ⟨hx, L, hW, hatr.p, hatr.q⟩
      have HC : Hid (refS sq ms x = refS sq (xs.take i) x) := refS_wis hW x
      clear hx L hW hat hatr
      have HV : Hid (Below wr.heap.size wr (wr.alloc (.cells #[.string x.ct, .slice x.tp x.tn x.tc, .bool x.e, .int .i64 x.a, .int .i64 x.p, .int .i64 x.nu, .bool x.nt] 45)) ∧ Box (wr.alloc (.cells #[.string x.ct, .slice x.tp x.tn x.tc, .bool x.e, .int .i64 x.a, .int .i64 x.p, .int .i64 x.nu, .bool x.nt] 45)) wr.heap.size #[.string x.ct, .slice x.tp x.tn x.tc, .bool x.e, .int .i64 x.a, .int .i64 x.p, .int .i64 x.nu, .bool x.nt]) := ⟨(Below.refl _ _).alloc (Nat.le_refl _) _, Box.new wr #[.string x.ct, .slice x.tp x.tn x.tc, .bool x.e, .int .i64 x.a, .int .i64 x.p, .int .i64 x.nu, .bool x.nt] 45⟩
      have hrf := refuse_any (HX.out.2.1.below HV.out.1).bx x (HH.out.1.below (HX.out.2.1.below HV.out.1).bel)
      by_cases hz : refS sq ms x = 0
      · rw [hz] at hrf
        have HZ : Hid (refS sq ms x = 0) := hz
        clear hz
        go_wp2_with fail
        refine hrf.mono ?_
        rintro _ w2 ⟨rfl, hb2⟩
        have cx := (HV.out.2.below hb2).cell
        have L2 := HX.out.2.1.below (below_then HV.out.1 hb2)
        have hz2 := refS_zero HZ.out
        have hpt := bput_any (m := x) L2.bx hz2.1 (by have h9 := HX.out.2.2.1.1; rw [List.length_take, HN.out] at h9; have := HH.out.2.2.2.2.2; omega) (HH.out.2.2.1 x (List.mem_of_getElem? HX.out.1)).1 (HH.out.2.2.1 x (List.mem_of_getElem? HX.out.1)).2.1 (HH.out.2.2.1 x (List.mem_of_getElem? HX.out.1)).2.2 (HX.out.2.2.2.1.below (below_then HV.out.1 hb2)) HX.out.2.2.2.2 hz2.2
        have HL2 : Hid (Li w w2 (w.heap.size + 1) w.heap.size v sq tr ms) := L2
        clear hrf hb2 L2 hz2 f0 f1 f2 f3 f4 f5 f6 lp
        go_wp2_with fail
        refine hpt.mono ?_
        rintro _ w3 ⟨rfl, a, c, hq⟩
        have HI : Hid (LdI w (w.heap.size + 1) w.heap.size sq tr xs (i + 1) w3) := LdI.next HR.out.ref HL2.out HX.out.2.2.1 HX.out.1 (by rw [← HC.out]; exact HZ.out) hq
        clear hpt cx hq
        go_wp2_with fail
        go_roundw
        case rel => exact ⟨i + 1, hlt, by go_num, HI⟩
        case measure => simp [intOf]; omega
      · have HZ : Hid (¬ refS sq ms x = 0) := hz
        obtain ⟨cd, hcd⟩ : ∃ cd, refS sq ms x = cd := ⟨_, rfl⟩
        rw [hcd] at hrf hz
        have hne : (cd != 0) = true := by simpa using hz
        clear hz hcd
        go_wp2_with fail
        refine hrf.mono ?_
        rintro _ w2 ⟨rfl, hb2⟩
        have HB2 : Hid (Below w.heap.size w w2) := (HX.out.2.1.below (below_then HV.out.1 hb2)).bel
        clear hrf hb2 f0 f1 f2 f3 f4 f5 f6 lp
        go_wp2_with fail
        refine (fault_any _ _ _).mono ?_
        rintro _ w3 ⟨rfl, hf3, hb3⟩
        have HB3 : Hid (Below w.heap.size w w3) := below_then HB2.out hb3
        clear hf3 hb3
        go_wp2_with fail
        go_ret2
        refine Or.inl ⟨⟨_, rfl⟩, fun g => ?_, HB3.out⟩
        exact HZ.out (HC.out.trans (g.ref i x HX.out.1))
    · have hlt1 : ¬ (i : Int) < n := by omega
      obtain rfl : i = n := by omega
      go_wp2_with fail
      go_ret2
      obtain ⟨v, ms, L, hW⟩ := HR.out.ex
      rw [List.take_of_length_le (by rw [HN.out]; exact Nat.le_refl _)] at hW
      refine Or.inr ⟨_, _, v, ms, rfl, L, hW, HH.out.2.2.2.1, HH.out.2.2.2.2.1, by rw [HN.out]; exact HH.out.2.2.2.2.2, fun j y hy => HR.out.ref j y ?_ hy⟩
      have := (List.getElem?_eq_some_iff.1 hy).1
      have := HN.out
      omega
end Go.Proofs.YtigmgbnfiiobeaaDoor

/-
  OutboxBack: what List tells is taken again; every one of it goes out. Of no program.
-/
namespace Go.Proofs.YtigmgbnfiiobeaaDoor
open Go.RowKit

/-- The same but for the turn and the text's place. -/
def Lk (xs ms : List Msg) : Prop := xs.length = ms.length ∧ ∀ (i : Nat) (x m : Msg), xs[i]? = some x → ms[i]? = some m → x.ct = m.ct ∧ x.tn = m.tn ∧ x.e = m.e ∧ x.a = m.a ∧ x.p = m.p ∧ x.nu = m.nu ∧ x.nt = m.nt
theorem good_of {sq : Bool} {tr : Int} {xs ms : List Msg} (h : Bk sq ms) (hl : ms.length ≤ 32) (t0 : 0 ≤ tr) (t1 : tr ≤ 16) (hx : Lk xs ms) : Good sq tr xs := by
  refine ⟨t0, t1, by rw [hx.1]; exact hl, fun j x hj => ?_⟩
  have hjl := (List.getElem?_eq_some_iff.1 hj).1
  obtain ⟨m, hm⟩ : ∃ m, ms[j]? = some m := ⟨_, List.getElem?_eq_getElem (by rw [← hx.1]; exact hjl)⟩
  obtain ⟨e1, e2, e3, e4, e5, e6, e7⟩ := hx.2 j x m hj hm
  obtain ⟨o1, o2, o3⟩ := h.ok m (List.mem_of_getElem? hm)
  refine refS_of ⟨by rw [e1]; exact o1, by rw [e2]; exact o2, by rw [e3, e4, e5, e7]; exact o3⟩ ?_ (fun hn => ?_)
  · cases hf : fi x.ct (xs.take j) with
    | none => rfl
    | some i =>
      exfalso
      obtain ⟨y, hy, he, _⟩ := fi_some hf
      rw [List.getElem?_take] at hy
      split at hy
      · rename_i hij
        obtain ⟨m', hm'⟩ : ∃ m', ms[i]? = some m' := ⟨_, List.getElem?_eq_getElem (by have := (List.getElem?_eq_some_iff.1 hm).1; omega)⟩
        have k1 : y.ct = m'.ct := (hx.2 i y m' hy hm').1
        have k2 := fi_at h.id hm
        have k3 := fi_at h.id hm'
        have : m'.ct = m.ct := by rw [← k1, ← e1]; exact str_of he
        rw [this, k2] at k3
        have := Option.some.inj k3
        omega
      · cases hy
  · obtain ⟨g1, g2, g3⟩ := h.nu j m hm (by rw [← e6]; exact hn)
    exact ⟨g1, by rw [g2]; simp, by rw [e6]; exact g3⟩
theorem good_bk {sq : Bool} {tr : Int} {xs ms : List Msg} (h : Good sq tr xs) (hp : ∀ x ∈ xs, Plain x) (hw : Wis ms xs) : Bk sq ms := by
  have key : ∀ k, k ≤ ms.length → Bk sq (ms.take k) := by
    intro k
    induction k with
    | zero => intro _; simpa using Bk.nil sq
    | succ k ih =>
      intro hk
      obtain ⟨m, hm⟩ : ∃ m, ms[k]? = some m := ⟨_, List.getElem?_eq_getElem (by omega)⟩
      obtain ⟨x, hx⟩ : ∃ x, xs[k]? = some x := ⟨_, List.getElem?_eq_getElem (by rw [← hw.1]; omega)⟩
      obtain ⟨a, c, rfl⟩ := hw.2 k m x hm hx
      rw [List.take_add_one, hm]
      refine (ih (by omega)).snoc ?_ (hp x (List.mem_of_getElem? hx)).2.2
      exact ((refS_wis (hw.take k) (x.wi a c)).trans rfl : refS sq (ms.take k) (x.wi a c) = refS sq (xs.take k) x).trans (h.ref k x hx)
  have := key ms.length (Nat.le_refl _)
  rwa [List.take_length] at this
/-- How many are not under way. -/
def cnt (ms : List Msg) : Nat := ms.countP fun m => !m.un
theorem cnt_erase : ∀ (ms : List Msg) (i : Nat) (m : Msg), ms[i]? = some m → m.un = false → cnt (ms.eraseIdx i) + 1 = cnt ms
  | [], i, m, h, _ => by simp at h
  | y :: r, 0, m, h, hu => by
    obtain rfl : y = m := by simpa using h
    show cnt r + 1 = cnt (y :: r)
    unfold cnt
    rw [List.countP_cons_of_pos (by simp [hu])]
  | y :: r, i + 1, m, h, hu => by
    have := cnt_erase r i m (by simpa using h) hu
    show cnt (y :: r.eraseIdx i) + 1 = cnt (y :: r)
    unfold cnt at this ⊢
    rw [List.countP_cons, List.countP_cons]
    omega
theorem cnt_set : ∀ (ms : List Msg) (i : Nat) (m m' : Msg), ms[i]? = some m → m.un = false → m'.un = true → cnt (ms.set i m') + 1 = cnt ms
  | [], i, m, m', h, _, _ => by simp at h
  | y :: r, 0, m, m', h, hu, hu' => by
    obtain rfl : y = m := by simpa using h
    show cnt (m' :: r) + 1 = cnt (y :: r)
    unfold cnt
    rw [List.countP_cons_of_pos (p := fun m : Msg => !m.un) (a := y) (by simp [hu]), List.countP_cons_of_neg (p := fun m : Msg => !m.un) (a := m') (by simp [hu'])]
  | y :: r, i + 1, m, m', h, hu, hu' => by
    have := cnt_set r i m m' (by simpa using h) hu hu'
    show cnt (y :: r.set i m') + 1 = cnt (y :: r)
    unfold cnt at this ⊢
    rw [List.countP_cons, List.countP_cons]
    omega
theorem cnt_same : ∀ (ms : List Msg) (i : Nat) (m m' : Msg), ms[i]? = some m → m'.un = m.un → cnt (ms.set i m') = cnt ms
  | [], i, m, m', h, _ => by simp at h
  | y :: r, 0, m, m', h, hu => by
    obtain rfl : y = m := by simpa using h
    show cnt (m' :: r) = cnt (y :: r)
    unfold cnt
    rw [List.countP_cons, List.countP_cons, hu]
  | y :: r, i + 1, m, m', h, hu => by
    have := cnt_same r i m m' (by simpa using h) hu
    show cnt (y :: r.set i m') = cnt (y :: r)
    unfold cnt at this ⊢
    rw [List.countP_cons, List.countP_cons]
    omega
theorem next_some {sq : Bool} : ∀ {ms : List Msg}, 0 < cnt ms → (sq = true → ∀ m ∈ ms, m.un = false) → ∃ m, nextS sq ms = some m
  | [], h, _ => by simp [cnt] at h
  | y :: r, h, hs => by
    unfold nextS
    split
    · rename_i hu
      split
      · rename_i hq
        have := hs hq y List.mem_cons_self
        rw [hu] at this; cases this
      · refine next_some (ms := r) ?_ (fun e m hm => hs e m (List.mem_cons_of_mem _ hm))
        unfold cnt at h ⊢
        rwa [List.countP_cons_of_neg (by simp [hu])] at h
    · exact ⟨y, rfl⟩
theorem start_good {m : Msg} {tr : Int} (h : okM m) (h0 : 0 ≤ tr) (h1 : tr ≤ 16) : (startS m.e m.a m.p tr m.nt).n = 0 ∧ ∃ r, (startS m.e m.a m.p tr m.nt).l = (1, nT) :: r := by
  obtain ⟨o1, o2⟩ := Bool.and_eq_true_iff.1 h.2.2
  unfold startS
  rw [if_neg (by rw [o1]; decide), if_neg (fun g => g ⟨h0, h1⟩), if_neg (by revert o2; cases caB m.e m.a <;> cases m.nt <;> decide)]
  repeat' split
  all_goals exact ⟨rfl, _, rfl⟩
/-- The last loop, between two rounds. -/
structure Fn (sq : Bool) (N n : Nat) (ms : List Msg) : Prop where
  bk : Bk sq ms
  st : (cnt ms = N - n ∧ (sq = true → ∀ m ∈ ms, m.un = false)) ∨ (sq = true ∧ 0 < n ∧ nextS sq ms = none)
theorem Fn.start {sq : Bool} {ms : List Msg} (h : Bk sq ms) (hu : ∀ m ∈ ms, m.un = false) : Fn sq ms.length 0 ms := by
  refine ⟨h, Or.inl ⟨?_, fun _ => hu⟩⟩
  unfold cnt
  rw [Nat.sub_zero, List.countP_eq_length]
  exact fun m hm => by rw [hu m hm]; rfl
/-- Behind a Give: the same, and the next one has a number. -/
theorem Fn.give {N n : Nat} {ms : List Msg} {m : Msg} (h : Fn true N n ms) (hn : nextS true ms = some m) : Fn true N n (putS { m with nu := 1 } ms) ∧ nextS true (putS { m with nu := 1 } ms) = some { m with nu := 1 } := by
  rcases h.st with ⟨h1, h2⟩ | ⟨_, _, e⟩
  · obtain ⟨r, rfl⟩ := nextS_true hn
    have hu := (nextS_mem hn).2
    have e1 : putS { m with nu := 1 } (m :: r) = { m with nu := 1 } :: r := by
      unfold putS
      rw [show fi ({ m with nu := 1 } : Msg).ct (m :: r) = some 0 from fi_head m r]
      rfl
    have hb := bk_step (ct := nT) (kd := 0) h.bk (StepR.give m 1 (by decide) rfl hn (by decide))
    rw [e1] at hb ⊢
    refine ⟨⟨hb, Or.inl ⟨?_, fun _ x hx => ?_⟩⟩, ?_⟩
    · rw [← h1]
      exact cnt_same (m :: r) 0 m { m with nu := 1 } rfl rfl
    · rcases List.mem_cons.1 hx with rfl | g
      · exact hu
      · exact h2 rfl x (List.mem_cons_of_mem _ g)
    · unfold nextS
      rw [if_neg (by show ¬ m.un = true; rw [hu]; decide)]
  · rw [e] at hn; cases hn
theorem Fn.go {sq : Bool} {N n : Nat} {ms : List Msg} {m : Msg} {st lf : Int} {l : ActL} (h : Fn sq N n ms) (hn : nextS sq ms = some m) (h5 : ∀ y ∈ l, y.1 ≠ 5 ∧ y.1 ≠ 3) : Fn sq N (n + 1) (doS ms { m with st := st, lf := lf, un := true } 0 l) := by
  rcases h.st with ⟨h1, h2⟩ | ⟨_, _, e⟩
  · obtain ⟨i, hm, hi⟩ := next_at hn
    have hu := (nextS_mem hn).2
    refine ⟨bk_do h.bk hm hi fun y hy => ⟨fun e => absurd e (h5 y hy).1, fun e => absurd e (h5 y hy).2⟩, ?_⟩
    rcases doS_at (m := m) (m' := { m with st := st, lf := lf, un := true }) (x := 0) (l := l) (fi_at h.bk.id hm) rfl with e | e
    · rw [e]
      have := cnt_erase ms i m hm hu
      exact Or.inl ⟨by omega, fun hq x hx => h2 hq x (List.mem_of_mem_eraseIdx hx)⟩
    · rw [e]
      have hu' : (tksS 0 ({ m with st := st, lf := lf, un := true }, false) l).1.un = true := (tks_keep 0 l ({ m with st := st, lf := lf, un := true }, false)).2.2.2.1
      have := cnt_set ms i m _ hm hu hu'
      cases sq with
      | false => exact Or.inl ⟨by omega, fun hq => by cases hq⟩
      | true =>
        obtain rfl := hi rfl
        obtain ⟨r, rfl⟩ := nextS_true hn
        refine Or.inr ⟨rfl, by omega, ?_⟩
        show nextS true (_ :: r) = none
        unfold nextS
        rw [if_pos hu', if_pos rfl]
  · rw [e] at hn; cases hn
end Go.Proofs.YtigmgbnfiiobeaaDoor
