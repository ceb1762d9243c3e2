import Derived.Test.YtkngafnfenmfeaaDoorOxHeads2
import Derived.Test.YtkngafnfenmfeaaDoorOxZero
/-
  One call of the box, whatever it answers.
-/
namespace Go.Proofs.YtkngafnfenmfeaaDoor
open Go.RowKit

/-- What a call that is done tells and leaves. -/
inductive StepR (sq : Bool) (ms : List Msg) (kd : Int) (ct : ByteArray) : List Deed → List Msg → Prop
  | idle (h : kd ≠ 1) : StepR sq ms kd ct [] ms
  | add (m : Msg) (h : kd = 1) (he : m.ct = ct) (hc : addC sq ms m = 0) (hnu : m.nu = 0) (hun : m.un = false) : StepR sq ms kd ct [] (ms ++ [m])
  | give (m : Msg) (n : Int) (h : kd ≠ 1) (hs : sq = true) (hn : nextS sq ms = some m) (hg : nmB n = true) : StepR sq ms kd ct [] (putS { m with nu := n } ms)
  | go (m : Msg) (st lf : Int) (l : ActL) (h : kd ≠ 1) (hn : nextS sq ms = some m) (hq : (sq && (m.nu == 0)) = false) (h5 : ∀ y ∈ l, y.1 ≠ 5) : StepR sq ms kd ct (deedsS m.ct l) (doS ms { m with st := st, lf := lf, un := true } 0 l)
  | ans (m : Msg) (i : Nat) (st lf x : Int) (l : ActL) (h : kd ≠ 1) (hf : fi m.ct ms = some i) (hm : ms[i]? = some m) (hu : m.un = true) (h5 : ∀ y ∈ l, y.1 = 5 → x ≠ 0) : StepR sq ms kd ct (deedsS m.ct l) (doS ms { m with st := st, lf := lf, un := true } x l)
theorem start_no5 (e : Bool) (a p t : Int) (nt : Bool) : ∀ y ∈ (startS e a p t nt).l, y.1 ≠ 5 := by
  unfold startS
  repeat' split
  all_goals simp
theorem due_no5 (e : Bool) (a p st lf : Int) : ∀ y ∈ (dueS e a p st lf).l, y.1 ≠ 5 := by
  unfold dueS
  repeat' split
  all_goals simp
theorem heard_5 (e : Bool) (a p st lf : Int) (s : ByteArray) (T : Bool) : ∀ y ∈ (heardS e a p st lf s T).l, y.1 = 5 → T = true := by
  cases T with
  | true => exact fun _ _ _ => rfl
  | false =>
    unfold heardS
    simp only [Bool.false_and]
    repeat' split
    all_goals simp_all
/-- A call's answer: the deeds d, the error ev. -/
def StQ (W : World) (b kb : Nat) (v0 : Value) (w0 : World) (sq : Bool) (tr : Int) (ms : List Msg) (kd : Int) (ct : ByteArray) (d ev : Value) (w' : World) : Prop :=
  Off (fun q => q = kb ∨ v0.ownBlock = some q) w0 w' ∧ ∃ a c ds v ms', d = .slice a (List.length ds) c ∧ DRow w' W.heap.size (.slice a (List.length ds) c) ds ∧ Li W w' b kb v sq tr ms' ∧ ((ev = .nilIface ∧ StepR sq ms kd ct ds ms') ∨ ((∃ z, ev = .iface 116 (.pointer (some ⟨z, 0, none⟩))) ∧ ds = [] ∧ ms' = ms))
section
variable {W w w' : World} {b kb : Nat} {v : Value} {sq : Bool} {tr : Int} {ms : List Msg} {kd : Int} {ct : ByteArray}
theorem st_no (L : Li W w b kb v sq tr ms) (hb : Below w.heap.size w w') (z : Nat) : StQ W b kb v w sq tr ms kd ct (.slice none 0 0) (.iface 116 (.pointer (some ⟨z, 0, none⟩))) w' :=
  ⟨Off.of_below hb, none, 0, [], v, ms, rfl, ERow.nil _ _ _ _ _, L.below hb, Or.inr ⟨⟨z, rfl⟩, rfl, rfl⟩⟩
theorem st_yes {ms' : List Msg} (L : Li W w b kb v sq tr ms) (hq : BxQ w b kb v sq tr ms' w') (hs : StepR sq ms kd ct [] ms') : StQ W b kb v w sq tr ms kd ct (.slice none 0 0) .nilIface w' := by
  obtain ⟨v', L'⟩ := L.step hq
  exact ⟨L.keep hq, none, 0, [], v', ms', rfl, ERow.nil _ _ _ _ _, L', Or.inl ⟨rfl, hs⟩⟩
theorem StQ.back {w0 : World} {d ev : Value} (h : StQ W b kb v w sq tr ms kd ct d ev w') (hb : Below w0.heap.size w0 w) : StQ W b kb v w0 sq tr ms kd ct d ev w' := ⟨(Off.of_below hb).trans h.1, h.2⟩
/-- A call that answers deeds. -/
def DsQ (W : World) (b kb : Nat) (v : Value) (w : World) (sq : Bool) (tr : Int) (ms : List Msg) (kd : Int) (ct : ByteArray) (e : Ending) (w' : World) : Prop := ∃ d ev, e = .returned (.tuple #[d, ev]) ∧ StQ W b kb v w sq tr ms kd ct d ev w'
theorem ds_no {cd : Int} {f : Nat} {xs : Array Value} (L : Li W w b kb v sq tr ms) (h : Calls Tryd.prog f xs w (DFl w cd)) : Calls Tryd.prog f xs w (DsQ W b kb v w sq tr ms kd ct) :=
  h.mono fun _ _ ⟨z, he, _, _, hb⟩ => ⟨_, _, he, st_no L hb z⟩
theorem ds_yes {ds : List Deed} {ms' : List Msg} {f : Nat} {xs : Array Value} (L : Li W w b kb v sq tr ms) (h : Calls Tryd.prog f xs w (DoQ w b kb v sq tr ds ms')) (hs : StepR sq ms kd ct ds ms') : Calls Tryd.prog f xs w (DsQ W b kb v w sq tr ms kd ct) :=
  h.mono fun _ _ ⟨a, c, he, hr, hq⟩ => by
    obtain ⟨v', L'⟩ := L.step hq
    exact ⟨_, _, he, L.keep hq, a, c, ds, v', ms', rfl, ERow.base hr L.bel.size, L', Or.inl ⟨rfl, hs⟩⟩
theorem st_add {m : Msg} (L : Li W w b kb v sq tr ms) (hV : PVc W) (h1 : kd = 1) (he : m.ct = ct) (hnu : m.nu = 0) (hnt : m.nt = false) (hst : m.st = 0) (hlf : m.lf = 0) (hun : m.un = false) (hb : Byts w m.tp m.tn m.tx) (hpo : m.tp = none → m.tc = 0) :
    Calls Tryd.prog 18 #[.pointer (some ⟨b, 0, none⟩), .string m.ct, .slice m.tp m.tn m.tc, .agg #[.bool m.e, .int .i64 m.a, .int .i64 m.p]] w fun e w' => ∃ ev, e = .returned ev ∧ StQ W b kb v w sq tr ms kd ct (.slice none 0 0) ev w' := by
  by_cases hc : addC sq ms m = 0
  · refine (add_yes L.bx (hV.below L.bel) hnu hnt hst hlf hun hb hpo hc).mono fun e w' ⟨h, a, c, hq⟩ => ⟨_, h, st_yes L hq ?_⟩
    exact StepR.add (m.wi a c) h1 he hc hnu hun
  · exact (add_no L.bx (hV.below L.bel) hnu hnt hc).mono fun _ _ ⟨z, h, _, _, hb⟩ => ⟨_, h, st_no L hb z⟩
theorem st_give (L : Li W w b kb v sq tr ms) (n : Int) (h1 : kd ≠ 1) :
    Calls Tryd.prog 19 #[.pointer (some ⟨b, 0, none⟩), .int .i64 n] w fun e w' => ∃ ev, e = .returned ev ∧ StQ W b kb v w sq tr ms kd ct (.slice none 0 0) ev w' := by
  have no : ∀ {cd : Int}, Calls Tryd.prog 19 #[.pointer (some ⟨b, 0, none⟩), .int .i64 n] w (Fl w 0 cd) → Calls Tryd.prog 19 #[.pointer (some ⟨b, 0, none⟩), .int .i64 n] w fun e w' => ∃ ev, e = .returned ev ∧ StQ W b kb v w sq tr ms kd ct (.slice none 0 0) ev w' := fun h =>
    h.mono fun _ _ ⟨z, h, _, _, hb⟩ => ⟨_, h, st_no L hb z⟩
  cases hn : nextS sq ms with
  | none => exact no (give_state (M := zM) (o := false) L.bx (next_no L.bx hn) (by cases sq <;> rfl))
  | some m =>
    cases sq with
    | false => exact no (give_state L.bx (next_yes L.bx hn) rfl)
    | true =>
      cases hg : nmB n with
      | false => exact no (give_given L.bx hn hg)
      | true => exact (give_yes L.bx hn hg).mono fun e w' ⟨h, hq⟩ => ⟨_, h, st_yes L hq (StepR.give m n h1 rfl hn hg)⟩
theorem st_go (L : Li W w b kb v sq tr ms) (hV : PVc W) (h1 : kd ≠ 1) : Calls Tryd.prog 13 #[.pointer (some ⟨b, 0, none⟩)] w (DsQ W b kb v w sq tr ms kd ct) := by
  cases hn : nextS sq ms with
  | none => exact ds_no L (go_none L.bx hn)
  | some m =>
    by_cases hq : (sq && (m.nu == 0)) = false
    · by_cases h0 : (startS m.e m.a m.p tr m.nt).n = 0
      · exact ds_yes L (go_go L.bx (hV.below L.bel) hn hq h0) (StepR.go m _ _ _ h1 hn hq (start_no5 _ _ _ _ _))
      · exact ds_no L (go_bad L.bx (hV.below L.bel) hn hq h0)
    · simp only [Bool.and_eq_false_imp, Classical.not_imp, Bool.not_eq_false, beq_iff_eq] at hq
      obtain ⟨rfl, h0⟩ := hq
      exact ds_no L (go_unnumbered L.bx hn h0)
theorem st_due (L : Li W w b kb v sq tr ms) (hV : PVc W) (h1 : kd ≠ 1) (s : ByteArray) : Calls Tryd.prog 15 #[.pointer (some ⟨b, 0, none⟩), .string s] w (DsQ W b kb v w sq tr ms kd ct) := by
  cases hf : fi s ms with
  | none => exact ds_no L (due_un (under_no L.bx s hf))
  | some i =>
    obtain ⟨m, hm, he, _⟩ := fi_some hf
    cases hu : m.un with
    | false => exact ds_no L (due_un (under_not L.bx s hf hm hu))
    | true =>
      by_cases h0 : (dueS m.e m.a m.p m.st m.lf).n = 0
      · exact ds_yes L (due_go L.bx (hV.below L.bel) hf hm hu h0) (StepR.ans m i _ _ 0 _ h1 (by rw [str_of he]; exact hf) hm hu fun y hy h => absurd h (due_no5 _ _ _ _ _ y hy))
      · exact ds_no L (due_bad L.bx (hV.below L.bel) hf hm hu h0)
theorem st_heard (L : Li W w b kb v sq tr ms) (hV : PVc W) (h1 : kd ≠ 1) (t s : ByteArray) (x : Int) : Calls Tryd.prog 14 #[.pointer (some ⟨b, 0, none⟩), .string t, .string s, .int .i64 x] w (DsQ W b kb v w sq tr ms kd ct) := by
  cases hf : fi t ms with
  | none => exact ds_no L (heard_un (under_no L.bx t hf))
  | some i =>
    obtain ⟨m, hm, he, _⟩ := fi_some hf
    have hf' : fi m.ct ms = some i := by rw [str_of he]; exact hf
    cases hu : m.un with
    | false => exact ds_no L (heard_un (under_not L.bx t hf hm hu))
    | true =>
      by_cases hg : x = 0 ∨ nmB x = true
      · cases hs : ((sq && (x != 0)) && (x == m.nu) && (s.toList == [67, 69] || s.toList == [65, 69])) with
        | true =>
          simp only [Bool.and_eq_true, bne_iff_ne, ne_eq, beq_iff_eq] at hs
          obtain ⟨⟨⟨rfl, hx0⟩, hx⟩, hs⟩ := hs
          exact ds_yes L (heard_strange L.bx hf hm hu hx0 (hg.resolve_left hx0) hx hs) (StepR.ans m i m.st m.lf 0 _ h1 hf' hm hu fun y hy h => by simp only [List.mem_singleton] at hy; rw [hy] at h; cases h)
        | false =>
          by_cases h0 : (heardS m.e m.a m.p m.st m.lf s (sq && (x != 0))).n = 0
          · exact ds_yes L (heard_go L.bx (hV.below L.bel) hf hm hu hg rfl hs h0) (StepR.ans m i _ _ x _ h1 hf' hm hu fun y hy h => by
              have := heard_5 _ _ _ _ _ _ _ y hy h
              simp only [Bool.and_eq_true, bne_iff_ne, ne_eq] at this
              exact this.2)
          · exact ds_no L (heard_bad L.bx (hV.below L.bel) hf hm hu hg rfl hs h0)
      · have hx0 : x ≠ 0 := fun h => hg (Or.inl h)
        exact ds_no L (heard_given L.bx hf hm hu hx0 (by cases h : nmB x with | false => rfl | true => exact absurd (Or.inr h) hg))
end
end Go.Proofs.YtkngafnfenmfeaaDoor

/-
  A text copied by append, whatever its length.
-/
namespace Go.Proofs.YtkngafnfenmfeaaDoor
open Go.RowKit

theorem run_bapp {w : World} {B n : Nat} {po : Option Addr} {m c : Nat} {bs : List Int} (h : BRow w B (.slice (some ⟨n, 0, none⟩) 0 0) []) (hb : Byts w po m bs) (hl : m ≤ 140737488355328) (hB : B ≤ w.heap.size) :
    ∃ a' c' w', (Builtin.append_ #[34, 34] 34 #[.slice (some ⟨n, 0, none⟩) 0 0, .slice po m c]).run Tryd.prog w = .ok (.slice a' m c') w' ∧ BRow w' B (.slice a' m c') bs ∧ Off (fun q => q = n) w w' := by
  obtain ⟨i, z, hi, hz, hzs, hs, hby⟩ := celB
  have hm := hb.len
  have hbn : ((0 + bs.length) + (0 + bs.length) / 4 + 192) * 1 ≤ 281474976710656 := by omega
  have hh : w.ownsRow B 5 1 (.slice (some ⟨n, 0, none⟩) 0 0) 0 ([] : List Value) := h
  obtain ⟨v', w', hr, r, o, l⟩ := run_append_k (P := Tryd.prog) w B 34 34 5 i z 1 1 Tryd.underlying34 hi hz hs hby hzs (.slice (some ⟨n, 0, none⟩) 0 0) 0 [] hh po bs.length c (bs.flatMap encB) (flat_len encB_len bs) (fun e => by
    rcases Nat.eq_zero_or_pos m with g | g
    · omega
    · obtain ⟨_, _, e', _⟩ := hb.cell 0 g
      rw [e] at e'; cases e') (fun a' ha j u hu => by
    obtain ⟨hj, rfl⟩ := flatB bs hu
    obtain ⟨b, o, e, _, hc⟩ := hb.cell j (by omega)
    rw [ha] at e
    obtain rfl : a' = ⟨b, o, none⟩ := by simpa using e
    rw [Addr.add_lit]; exact hc) (fun u hu => by
    obtain ⟨x, _, hx⟩ := List.mem_flatMap.1 hu
    exact encB_one x u hx) (by unfold maxLen; omega) hbn hB
  have hR : BRow w' B v' bs := by
    unfold BRow ERow
    rw [Nat.zero_add, List.nil_append] at r
    exact r
  obtain ⟨a', c', e1, _⟩ := ERow.isSlice hR
  rw [hm] at e1 hr
  subst e1
  exact ⟨a', c', w', hr, hR, o.mono fun k e => by simp [Value.ownBlock] at e; exact e.symm⟩
/-- A copy by append, as a step of a region that draws. -/
theorem step_copy {w0 w : World} {ops : Array Oper} {o : Oper} {a : Act} {K : Act → World → Prop} {Q : Exit → Act → World → Prop} {E : Prop} {n : Nat} {po : Option Addr} {m c : Nat} {bs : List Int} (hgd : o.guard = none) (s x : Operand)
    (ho : o.op = .call { callee := .builtin .append, args := #[s, x], argTypes := #[34, 34] }) (hty : o.type = 34) (hs : a.eval s = .slice (some ⟨n, 0, none⟩) 0 0) (hx : a.eval x = .slice po m c)
    (hb : Byts w0 po m bs) (hl : m ≤ 140737488355328) (ha : Off (fun _ => False) w0 w) (hn : w0.heap.size ≤ n) (hg : w.heap[n]? = some (.cells #[] 5))
    (h : ∀ a' c' w', BRow w' w0.heap.size (.slice a' m c') bs → Below w0.heap.size w0 w' → K (a.put o.dst (.slice a' m c')) w') :
    if Region.wanted o (yielded ops a.tmps) = true then Oper.wp Tryd.prog o a w K Q else E := by
  have hw : Region.wanted o (yielded ops a.tmps) = true := by simp [Region.wanted, hgd]
  have h0 : BRow w w0.heap.size (.slice (some ⟨n, 0, none⟩) 0 0) [] := ⟨rfl, Or.inr ⟨n, 0, #[], rfl, hn, hg, Nat.le_refl _, Nat.zero_le _, rfl, rfl⟩⟩
  obtain ⟨a', c', w', hr, r1, o1⟩ := run_bapp (c := c) h0 (hb.off ha (fun _ _ _ _ => id)) hl ha.size
  rw [if_pos hw]
  unfold Oper.wp execOp
  simp only [ho, hty, resolve, invoke, builtin, Sem.run_bind, Sem.run_pure, Result.andThen_ok, List.map_toArray, List.map_cons, List.map_nil, hs, hx, hr]
  exact h _ _ _ r1 ((ha.below (Nat.le_refl _) (fun _ g => g.elim)).trans (o1.below ha.size (fun k e => by omega)))
end Go.Proofs.YtkngafnfenmfeaaDoor

/-
  The law's 'does': one call, brought to a message of the box.
-/
namespace Go.Proofs.YtkngafnfenmfeaaDoor
open Go.RowKit

/-- What 'does' answers. -/
def DoesQ (W : World) (b kb : Nat) (v0 : Value) (w0 : World) (sq : Bool) (tr : Int) (ms : List Msg) (kd : Int) (ct : ByteArray) (e : Ending) (w' : World) : Prop :=
  Off (fun q => q = kb ∨ v0.ownBlock = some q) w0 w' ∧ ∃ a c ds v ms' dn, e = .returned (.tuple #[.slice a (List.length ds) c, .bool dn]) ∧ DRow w' W.heap.size (.slice a (List.length ds) c) ds ∧ Li W w' b kb v sq tr ms' ∧ ((dn = true ∧ StepR sq ms kd ct ds ms') ∨ (dn = false ∧ ds = [] ∧ ms' = ms))
theorem StQ.ev {W w w0 w' : World} {b kb : Nat} {v : Value} {sq : Bool} {tr : Int} {ms : List Msg} {kd : Int} {ct : ByteArray} {d ev : Value} (h : StQ W b kb v w sq tr ms kd ct d ev w') (hb : Below w0.heap.size w0 w) : (ev = .nilIface ∧ DoesQ W b kb v w0 sq tr ms kd ct (.returned (.tuple #[d, .bool true])) w') ∨ ((∃ z, ev = .iface 116 (.pointer (some ⟨z, 0, none⟩))) ∧ DoesQ W b kb v w0 sq tr ms kd ct (.returned (.tuple #[d, .bool false])) w') := by
  obtain ⟨ho, a, c, ds, v1, ms', rfl, hr, L, hh⟩ := h
  have ho := (Off.of_below (P := fun q => q = kb ∨ v.ownBlock = some q) hb).trans ho
  rcases hh with ⟨he, hs⟩ | ⟨he, h0, h1⟩
  · exact Or.inl ⟨he, ho, a, c, ds, v1, ms', true, rfl, hr, L, Or.inl ⟨rfl, hs⟩⟩
  · exact Or.inr ⟨he, ho, a, c, ds, v1, ms', false, rfl, hr, L, Or.inr ⟨rfl, h0, h1⟩⟩
theorem DoesQ.drewN {W w w' : World} {b kb : Nat} {v : Value} {sq : Bool} {tr : Int} {ms : List Msg} {kd : Int} {ct : ByteArray} {e : Ending} (h : DoesQ W b kb v w sq tr ms kd ct e w') (k : Nat) : DoesQ W b kb v w sq tr ms kd ct e (w'.drewN k) := by
  obtain ⟨ho, a, c, ds, v1, ms', dn, he, hr, L, hh⟩ := h
  have hb : Below w'.heap.size w' (w'.drewN k) := ((Off.refl (fun _ => False) _).drewN k).below (Nat.le_refl _) (fun _ g => g.elim)
  exact ⟨ho.drewN k, a, c, ds, v1, ms', dn, he, ERow.below hr hb, L.below hb, hh⟩
set_option maxRecDepth 100000 in
set_option maxHeartbeats 4000000 in
theorem does_any {W w : World} {b kb : Nat} {v : Value} {sq : Bool} {tr : Int} {ms : List Msg} (L : Li W w b kb v sq tr ms) (hV : PVc W) (x : Opv) (pick : Int) (hp : Byts w x.tp x.tn x.tx) (hpo : x.tp = none → x.tc = 0) (hl : x.tn ≤ 140737488355328) :
    Calls Tryd.prog 11 #[.pointer (some ⟨b, 0, none⟩), .agg #[.int .i64 x.kd, .string x.ct, .slice x.tp x.tn x.tc, .bool x.e, .int .i64 x.a, .int .i64 x.p, .string x.cd, .int .i64 x.n], .int .i64 pick] w (DoesQ W b kb v w sq tr ms x.kd x.ct) := by
  have HV : Hid (PVc W ∧ Byts w x.tp x.tn x.tx ∧ (x.tp = none → x.tc = 0) ∧ x.tn ≤ 140737488355328) := ⟨hV, hp, hpo, hl⟩
  have bv : Below w.heap.size w (w.alloc (.cells #[.int .i64 x.kd, .string x.ct, .slice x.tp x.tn x.tc, .bool x.e, .int .i64 x.a, .int .i64 x.p, .string x.cd, .int .i64 x.n] 38)) := (Below.refl _ _).alloc (Nat.le_refl _) _
  have HL : Hid (Li W w b kb v sq tr ms) := L
  have bx := Box.new w #[.int .i64 x.kd, .string x.ct, .slice x.tp x.tn x.tc, .bool x.e, .int .i64 x.a, .int .i64 x.p, .string x.cd, .int .i64 x.n] 38
  have HNE : Hid (∀ q, (q = kb ∨ v.ownBlock = some q) → ¬ w.heap.size = q) := fun q hq e => by
    rcases hq with rfl | hq
    · have := blk_lt L.bx.2.1.1; omega
    · have := (ERow.lt L.bx.2.1.2.1 hq).2; omega
  clear hV hp hpo hl L
  go_enter Tryd.func11, Tryd.ntmps11
  go_wp2_with fail
  obtain ⟨V, hW⟩ : ∃ V, w.alloc (.cells #[.int .i64 x.kd, .string x.ct, .slice x.tp x.tn x.tc, .bool x.e, .int .i64 x.a, .int .i64 x.p, .string x.cd, .int .i64 x.n] 38) = V := ⟨_, rfl⟩
  rw [hW] at bv bx ⊢
  clear hW
  have HB : Hid (Below w.heap.size w V ∧ Box V w.heap.size #[.int .i64 x.kd, .string x.ct, .slice x.tp x.tn x.tc, .bool x.e, .int .i64 x.a, .int .i64 x.p, .string x.cd, .int .i64 x.n]) := ⟨bv, bx⟩
  clear bv bx
  refine (list_any (HL.out.below HB.out.1).bx).mono ?_
  rintro _ w1 ⟨ls, la, lc, rfl, hr, hc, b1⟩
  have x1 := (HB.out.2.below b1).cell
  have f0 := x1 0
  have f1 := x1 1
  have f2 := x1 2
  have f3 := x1 3
  have f4 := x1 4
  have f5 := x1 5
  have f6 := x1 6
  have f7 := x1 7
  simp at f0 f1 f2 f3 f4 f5 f6 f7
  clear x1
  have HL1 : Hid (Li W w1 b kb v sq tr ms ∧ Byts w1 x.tp x.tn x.tx) := ⟨HL.out.below (below_then HB.out.1 b1), HV.out.2.1.below (below_then HB.out.1 b1)⟩
  have HOF : Hid (Below w.heap.size w w1) := below_then HB.out.1 b1
  have HR : Hid (ERow w1 V.heap.size 50 10 encM (.slice la ms.length lc) ls ∧ Cps w1 ls ms) := ⟨hr, hc⟩
  clear hr hc b1 HB HL
  obtain ⟨n, hn⟩ : ∃ n, ms.length = n := ⟨_, rfl⟩
  have HN : Hid (ms.length = n) := hn
  rw [hn] at HR ⊢
  clear hn
  go_upto_region 3 with fail
  go_cut [22] from 12 to 81 (fun t22 wx => ∃ q : Bool, t22 = .bool q ∧ (q = true → 0 < n ∧ 0 ≤ pick) ∧ wx = w1)
  case first =>
    clear HR HN HL1 HV
    by_cases hn0 : 0 < n
    · have hn1 : (0 : Int) < n := by omega
      by_cases hpk : 0 ≤ pick
      · go_wp2_with fail
        go_meet
        exact ⟨_, rfl, fun _ => ⟨hn0, hpk⟩, rfl⟩
      · go_wp2_with fail
        go_meet
        refine ⟨_, rfl, fun h => ?_, rfl⟩
        simp at h <;> omega
    · obtain rfl : n = 0 := by omega
      go_wp2_with fail
      go_meet
      refine ⟨_, rfl, fun h => ?_, rfl⟩
      simp at h
  case rest =>
    obtain ⟨q, rfl, hq, hw⟩ := hcut
    subst hw
    go_upto_if 22 with fail
    go_cut [9] from 12 to 81 (fun t9 wx => ∃ s : ByteArray, t9 = .string s ∧ wx = wc)
    case first =>
      cases q with
      | false =>
        go_wp2_with fail
        go_meet
        exact ⟨_, rfl, rfl⟩
      | true =>
        obtain ⟨hn0, hpk⟩ := hq rfl
        obtain ⟨j, hj⟩ : ∃ j : Nat, pick.tmod n = j := ⟨(pick.tmod n).toNat, (Int.toNat_of_nonneg (Int.tmod_nonneg _ hpk)).symm⟩
        have hjn : j < n := by have := Int.tmod_lt_of_pos pick (show (0 : Int) < n by omega); omega
        have hj1 : (j : Int) < n := by omega
        have hn9 : ¬ (n : Int) = 0 := by omega
        obtain ⟨l, hl⟩ : ∃ l, ls[j]? = some l := ⟨_, List.getElem?_eq_getElem (by rw [HR.out.2.1, HN.out]; exact hjn)⟩
        obtain ⟨g, rfl, hgl, hgc⟩ := ERow.at_ encM_len HR.out.1 hl
        have k0 := hgc 0 (by decide)
        simp [encM] at k0
        clear hgc HR HL1 HV
        go_wp2_with fail
        go_meet
        exact ⟨_, rfl, rfl⟩
    case rest =>
      obtain ⟨s, rfl, hw⟩ := hcut
      subst hw
      by_cases h1 : x.kd = 1
      · have g1 : (x.kd == 1) = true := by simpa using h1
        have lx : w.heap.size < wc.heap.size := cell_lt f1
        have HA : Hid (∀ a' c' z, BRow z wc.heap.size (.slice a' x.tn c') x.tx → Below wc.heap.size wc z → Calls Tryd.prog 18 #[.pointer (some ⟨b, 0, none⟩), .string x.ct, .slice a' x.tn c', .agg #[.bool x.e, .int .i64 x.a, .int .i64 x.p]] z fun e w' => ∃ ev, e = .returned ev ∧ StQ W b kb v wc sq tr ms x.kd x.ct (.slice none 0 0) ev w' ∧ Hid (Off (fun q => ¬ w.heap.size = q) wc w')) := fun a' c' z hr hz =>
          (st_add (m := ⟨x.ct, a', x.tn, c', x.tx, x.e, x.a, x.p, 0, false, 0, 0, false⟩) (HL1.out.1.below hz) HV.out.1 h1 rfl rfl rfl rfl rfl rfl hr.byts hr.nilcap).mono fun e w' ⟨ev, he, hs⟩ => ⟨ev, he, hs.back hz, (Off.of_below hz).trans (hs.1.mono HNE.out)⟩
        have HB : Hid (Byts wc x.tp x.tn x.tx ∧ x.tn ≤ 140737488355328) := ⟨HL1.out.2, HV.out.2.2.2⟩
        clear HL1 HV f6 f7 hq HR HN HNE
        go_wp2_with fail
        have gs : ∀ {z : World}, Off (fun q => ¬ w.heap.size = q) wc z → z.cell? ⟨w.heap.size, 1, none⟩ = some (.string x.ct) ∧ z.cell? ⟨w.heap.size, 2, none⟩ = some (.slice x.tp x.tn x.tc) ∧ z.cell? ⟨w.heap.size, 3, none⟩ = some (.bool x.e) ∧ z.cell? ⟨w.heap.size, 4, none⟩ = some (.int .i64 x.a) ∧ z.cell? ⟨w.heap.size, 5, none⟩ = some (.int .i64 x.p) := fun {z} hz => ⟨(hz.cell (p := ⟨w.heap.size, 1, none⟩) lx (fun h => h rfl)).trans f1, (hz.cell (p := ⟨w.heap.size, 2, none⟩) lx (fun h => h rfl)).trans f2, (hz.cell (p := ⟨w.heap.size, 3, none⟩) lx (fun h => h rfl)).trans f3, (hz.cell (p := ⟨w.heap.size, 4, none⟩) lx (fun h => h rfl)).trans f4, (hz.cell (p := ⟨w.heap.size, 5, none⟩) lx (fun h => h rfl)).trans f5⟩
        go_region_held3 (fun z => z.cell? ⟨w.heap.size, 1, none⟩ = some (.string x.ct) ∧ z.cell? ⟨w.heap.size, 2, none⟩ = some (.slice x.tp x.tn x.tc) ∧ z.cell? ⟨w.heap.size, 3, none⟩ = some (.bool x.e) ∧ z.cell? ⟨w.heap.size, 4, none⟩ = some (.int .i64 x.a) ∧ z.cell? ⟨w.heap.size, 5, none⟩ = some (.int .i64 x.p)) (first | (refine gs ?_; (repeat' (first | (with_reducible exact Off.refl _ _) | (with_reducible exact Hid.out (by assumption)) | (with_reducible refine Off.alloc ?_ _) | (with_reducible refine Off.drew ?_))))) (first | (refine step_copy (w0 := wc) rfl (.tmp 39) (.tmp 41) rfl rfl rfl rfl HB.out.1 HB.out.2 (by first | exact (Off.refl _ _).alloc _ | exact ((Off.refl _ _).alloc _).drew | exact ((Off.refl _ _).drew).alloc _ | exact (((Off.refl _ _).drew).alloc _).drew) (Nat.le_refl _) (by exact heap_alloc_new _ _) ?_; intro a5 c5 x5 hR hO; have hb5 : Hid (Below wc.heap.size wc x5) := hO; have ho5 : Hid (Off (fun q => ¬ w.heap.size = q) wc x5) := Off.of_below hO; have HR5 : Hid (BRow x5 wc.heap.size (.slice a5 x.tn c5) x.tx) := hR; clear hR hO) | (go_at_call 18; refine (HA.out _ _ _ (by first | exact HR5.out | exact ERow.keep HR5.out (fun _ _ => rfl)) (by first | exact hb5.out | exact hb5.out.drew)).mono ?_; rintro _ w2 ⟨ev, rfl, HS, ho2⟩))
        all_goals
          rcases HS.ev HOF.out with ⟨rfl, hD⟩ | ⟨⟨z, rfl⟩, hD⟩
          all_goals
            have HD : Hid (∀ k, DoesQ W b kb v w sq tr ms x.kd x.ct _ (w2.drewN k)) := hD.drewN
            clear HS hD f0 f1 f2 f3 f4 f5 g1 gs HA HB HR5 hb5 ho5 ho2
            go_wp2_with fail
            go_quiet (fail)
            go_wp2_with fail
            go_ret2
            exact HD.out _
      have g1 : (x.kd == 1) = false := by simpa using h1
      clear hq HR HN f1 f2 f3 f4 f5
      by_cases h3 : x.kd = 3
      · have g3 : (x.kd == 3) = true := by simpa using h3
        clear h3
        go_wp2_with fail
        refine (st_give (kd := x.kd) (ct := x.ct) HL1.out.1 x.n h1).mono ?_
        rintro _ w2 ⟨ev, rfl, HS⟩
        rcases HS.ev HOF.out with ⟨rfl, hD⟩ | ⟨⟨z, rfl⟩, hD⟩
        all_goals
          have HD : Hid (∀ k, DoesQ W b kb v w sq tr ms x.kd x.ct _ (w2.drewN k)) := hD.drewN
          clear HS hD HL1 HV f0 f6 f7 g1 g3
          go_wp2_with fail
          go_quiet (fail)
          go_wp2_with fail
          go_ret2
          exact HD.out _
      have g3 : (x.kd == 3) = false := by simpa using h3
      by_cases h4 : x.kd = 4
      · have g4 : (x.kd == 4) = true := by simpa using h4
        clear h3 h4
        go_wp2_with fail
        refine (st_go (kd := x.kd) (ct := x.ct) HL1.out.1 HV.out.1 h1).mono ?_
        rintro _ w2 ⟨d, ev, rfl, HS⟩
        rcases HS.ev HOF.out with ⟨rfl, hD⟩ | ⟨⟨z, rfl⟩, hD⟩
        all_goals
          have HD : Hid (∀ k, DoesQ W b kb v w sq tr ms x.kd x.ct _ (w2.drewN k)) := hD.drewN
          clear HS hD HL1 HV f0 f6 f7 g1 g3 g4
          go_wp2_with fail
          go_quiet (fail)
          go_wp2_with fail
          go_ret2
          exact HD.out _
      have g4 : (x.kd == 4) = false := by simpa using h4
      by_cases h5 : x.kd = 5
      · have g5 : (x.kd == 5) = true := by simpa using h5
        clear h3 h4 h5
        go_wp2_with fail
        refine (st_heard (kd := x.kd) (ct := x.ct) HL1.out.1 HV.out.1 h1 s x.cd x.n).mono ?_
        rintro _ w2 ⟨d, ev, rfl, HS⟩
        rcases HS.ev HOF.out with ⟨rfl, hD⟩ | ⟨⟨z, rfl⟩, hD⟩
        all_goals
          have HD : Hid (∀ k, DoesQ W b kb v w sq tr ms x.kd x.ct _ (w2.drewN k)) := hD.drewN
          clear HS hD HL1 HV f0 f6 f7 g1 g3 g4 g5
          go_wp2_with fail
          go_quiet (fail)
          go_wp2_with fail
          go_ret2
          exact HD.out _
      have g5 : (x.kd == 5) = false := by simpa using h5
      by_cases h6 : x.kd = 6
      · have g6 : (x.kd == 6) = true := by simpa using h6
        clear h3 h4 h5 h6
        go_wp2_with fail
        refine (st_due (kd := x.kd) (ct := x.ct) HL1.out.1 HV.out.1 h1 s).mono ?_
        rintro _ w2 ⟨d, ev, rfl, HS⟩
        rcases HS.ev HOF.out with ⟨rfl, hD⟩ | ⟨⟨z, rfl⟩, hD⟩
        all_goals
          have HD : Hid (∀ k, DoesQ W b kb v w sq tr ms x.kd x.ct _ (w2.drewN k)) := hD.drewN
          clear HS hD HL1 HV f0 f6 f7 g1 g3 g4 g5 g6
          go_wp2_with fail
          go_quiet (fail)
          go_wp2_with fail
          go_ret2
          exact HD.out _
      have g6 : (x.kd == 6) = false := by simpa using h6
      have HD : Hid (∀ k, DoesQ W b kb v w sq tr ms x.kd x.ct (.returned (.tuple #[.slice none 0 0, .bool true])) (wc.drewN k)) := DoesQ.drewN ⟨Off.of_below HOF.out, none, 0, [], v, ms, true, rfl, ERow.nil _ _ _ _ _, HL1.out.1, Or.inl ⟨rfl, StepR.idle h1⟩⟩
      clear HL1 HV h3 h4 h5 h6
      go_wp2_with fail
      go_quiet (fail)
      go_wp2_with fail
      go_ret2
      exact HD.out _
end Go.Proofs.YtkngafnfenmfeaaDoor
