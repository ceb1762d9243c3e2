import Derived.Test.YtoijhecphgdfnaaDoorOrPure
import Derived.Test.YtoijhecphgdfnaaDoorOxSameL
/-
  What stays true of a box from call to call. Of no program.
-/
namespace Go.Proofs.YtoijhecphgdfnaaDoor
open Go.RowKit

/-- A box that Load made, whatever was called since. -/
structure Okk (sq : Bool) (tr : Int) (ms : List Msg) : Prop where
  t0 : 0 ≤ tr
  t1 : tr ≤ 16
  bk : Bk sq ms
  fit : ∀ m ∈ ms, m.un = true → fitB m.e m.a m.p m.st m.lf = true
theorem tks_st (x : Int) (l : ActL) : ∀ t : Msg × Bool, (tksS x t l).1.st = t.1.st ∧ (tksS x t l).1.lf = t.1.lf := by
  induction l with
  | nil => intro t; exact ⟨rfl, rfl⟩
  | cons y r ih =>
    intro t
    have e : tksS x t (y :: r) = tksS x (tkS x t y.1) r := rfl
    rw [e]
    have k : (tkS x t y.1).1.st = t.1.st ∧ (tkS x t y.1).1.lf = t.1.lf := by
      unfold tkS
      split
      · exact ⟨rfl, rfl⟩
      split
      · exact ⟨rfl, rfl⟩
      split <;> exact ⟨rfl, rfl⟩
    exact ⟨(ih _).1.trans k.1, (ih _).2.trans k.2⟩
theorem un_eta {m : Msg} (h : m.un = true) (st lf : Int) : ({ m with st := st, lf := lf } : Msg) = { m with st := st, lf := lf, un := true } := by
  cases m
  simp only at h
  subst h
  rfl
theorem un_eta0 {m : Msg} (h : m.un = true) : ({ m with un := true } : Msg) = m := by
  cases m
  simp only at h
  subst h
  rfl
section
variable {ms : List Msg} {sq : Bool} {tr : Int} {m : Msg} {i : Nat} {st lf x : Int} {l : ActL}
theorem okk_do (h : Okk sq tr ms) (hm : ms[i]? = some m) (hs : sq = true → i = 0) (h5 : ∀ y ∈ l, (y.1 = 5 → sq = true ∧ nmB x = true) ∧ (y.1 = 3 → caB m.e m.a = true)) (hf : fitB m.e m.a m.p st lf = true) : Okk sq tr (donS ms i { m with st := st, lf := lf, un := true } x l) := by
  have e := doS_don (ms := ms) (m := m) (m' := { m with st := st, lf := lf, un := true }) (x := x) (l := l) (fi_at h.bk.id hm) rfl
  refine ⟨h.t0, h.t1, by rw [← e]; exact bk_do h.bk hm hs h5, fun y hy hu => ?_⟩
  unfold donS at hy
  split at hy
  · exact h.fit y (List.mem_of_mem_eraseIdx hy) hu
  · rcases mem_set hy with g | rfl
    · exact h.fit y g hu
    · obtain ⟨k1, k2, k3, _⟩ := tks_keep x l ({ m with st := st, lf := lf, un := true }, false)
      obtain ⟨k4, k5⟩ := tks_st x l ({ m with st := st, lf := lf, un := true }, false)
      rw [k1, k2, k3, k4, k5]
      exact hf
theorem un_zero (h : Okk sq tr ms) (hm : ms[i]? = some m) (hu : m.un = true) : sq = true → i = 0 := fun hq => by
  rcases Nat.eq_zero_or_pos i with g | g
  · exact g
  · have := h.bk.un hq i m g hm
    rw [hu] at this; cases this
theorem ok_start (h : Okk sq tr ms) (hm : ms[i]? = some m) : (startS m.e m.a m.p tr m.nt).n = 0 ∧ fitB m.e m.a m.p (startS m.e m.a m.p tr m.nt).st (startS m.e m.a m.p tr m.nt).lf = true := by
  obtain ⟨_, _, o3⟩ := h.bk.ok m (List.mem_of_getElem? hm)
  rw [Bool.and_eq_true] at o3
  have := startS_run (t := tr) (noted := m.nt) o3.1 ⟨h.t0, h.t1⟩ fun hn => by
    have g := o3.2
    rw [hn] at g
    simpa using g
  exact ⟨this.1, by rw [this.2.1]; exact this.2.2.1⟩
theorem ok_due (h : Okk sq tr ms) (hm : ms[i]? = some m) (hu : m.un = true) : (dueS m.e m.a m.p m.st m.lf).n = 0 ∧ fitB m.e m.a m.p (dueS m.e m.a m.p m.st m.lf).st (dueS m.e m.a m.p m.st m.lf).lf = true := by
  obtain ⟨_, _, o3⟩ := h.bk.ok m (List.mem_of_getElem? hm)
  rw [Bool.and_eq_true] at o3
  have := (dueS_run o3.1 (h.fit m (List.mem_of_getElem? hm) hu)).1
  exact ⟨this.n, this.fit⟩
theorem ok_heard (h : Okk sq tr ms) (hm : ms[i]? = some m) (hu : m.un = true) (s : ByteArray) (T : Bool) : (heardS m.e m.a m.p m.st m.lf s T).n = 0 ∧ fitB m.e m.a m.p (heardS m.e m.a m.p m.st m.lf s T).st (heardS m.e m.a m.p m.st m.lf s T).lf = true := by
  obtain ⟨_, _, o3⟩ := h.bk.ok m (List.mem_of_getElem? hm)
  rw [Bool.and_eq_true] at o3
  have := heardS_run (s := s) (number := T) o3.1 (h.fit m (List.mem_of_getElem? hm) hu)
  exact ⟨this.n, this.fit⟩
theorem okk_go (h : Okk sq tr ms) : Okk sq tr (goA sq tr ms).ms := by
  unfold goA
  cases hn : nxI sq ms with
  | none => exact h
  | some i =>
    simp only []
    cases hm : ms[i]? with
    | none => exact h
    | some m =>
      simp only []
      split
      · exact h
      · obtain ⟨_, _, _, _, hz, _⟩ := nxI_some hn
        exact okk_do h hm hz (fun y hy => ⟨fun e => absurd e (start_no5 _ _ _ _ _ y hy).1, fun e => absurd e (start_no5 _ _ _ _ _ y hy).2⟩) (ok_start h hm).2
theorem okk_due (h : Okk sq tr ms) (s : ByteArray) : Okk sq tr (dueA ms s).ms := by
  unfold dueA
  cases hn : fi s ms with
  | none => exact h
  | some i =>
    simp only []
    cases hm : ms[i]? with
    | none => exact h
    | some m =>
      simp only []
      split
      · exact h
      · rename_i hu
        have hu : m.un = true := (Bool.not_eq_false _).mp hu
        show Okk sq tr (donS ms i { m with st := _, lf := _ } 0 _)
        rw [un_eta hu]
        exact okk_do h hm (un_zero h hm hu) (fun y hy => ⟨fun e => absurd e (due_no5 _ _ _ _ _ y hy).1, fun e => absurd e (due_no5 _ _ _ _ _ y hy).2⟩) (ok_due h hm hu).2
theorem okk_heard (h : Okk sq tr ms) (s cd : ByteArray) (x : Int) : Okk sq tr (heardA sq ms s cd x).ms := by
  unfold heardA
  cases hn : fi s ms with
  | none => exact h
  | some i =>
    simp only []
    cases hm : ms[i]? with
    | none => exact h
    | some m =>
      simp only []
      split
      · exact h
      split
      · exact h
      split
      · exact h
      · rename_i hu hx _
        have hu : m.un = true := (Bool.not_eq_false _).mp hu
        show Okk sq tr (donS ms i { m with st := _, lf := _ } x _)
        rw [un_eta hu]
        refine okk_do h hm (un_zero h hm hu) (fun y hy => ⟨fun e => ?_, heard_3 _ _ _ _ _ _ _ y hy⟩) (ok_heard h hm hu _ _).2
        have := heard_5 _ _ _ _ _ _ _ y hy e
        simp only [Bool.and_eq_true, decide_eq_true_eq] at this
        refine ⟨this.1, ?_⟩
        unfold nmB
        simp only [Bool.and_eq_true, decide_eq_true_eq]
        omega
theorem okk_add (h : Okk sq tr ms) (hc : addC sq ms m = 0) (hu : m.un = false) : Okk sq tr (ms ++ [m]) := by
  refine ⟨h.t0, h.t1, h.bk.snoc ?_ hu, fun y hy hy2 => ?_⟩
  · unfold addC at hc
    split at hc
    · cases hc
    · exact hc
  · rcases List.mem_append.1 hy with g | g
    · exact h.fit y g hy2
    · obtain rfl : y = m := by simpa using g
      rw [hu] at hy2; cases hy2
theorem okk_give (h : Okk sq tr ms) (hs : sq = true) (hm : ms[0]? = some m) (hg : nmB x = true) : Okk sq tr (ms.set 0 { m with nu := x }) := by
  refine ⟨h.t0, h.t1, h.bk.set hm rfl (h.bk.ok m (List.mem_of_getElem? hm)) (fun _ => ⟨hs, rfl, hg⟩) (fun _ g2 => by omega), fun y hy hu => ?_⟩
  rcases mem_set hy with g | rfl
  · exact h.fit y g hu
  · exact h.fit m (List.mem_of_getElem? hm) hu
end
end Go.Proofs.YtoijhecphgdfnaaDoor

/-
  Both boxes' calls, in the words of OrPure.
-/
namespace Go.Proofs.YtoijhecphgdfnaaDoor
open Go.RowKit

/-- An error told: none, or a fault of that place and code. -/
def ErrV (w : World) (ev : Value) (at_ cd : Int) : Prop := (cd = 0 ∧ ev = .nilIface) ∨ (cd ≠ 0 ∧ ∃ z, ev = .iface 91 (.pointer (some ⟨z, 0, none⟩)) ∧ OFault w z at_ cd)
theorem OEv.err {w : World} {B : Nat} {v : Value} {a c : Int} (h : OEv w B v a c) : ErrV w v a c := by
  rcases h with ⟨h1, h2⟩ | ⟨h0, b, h1, _, h3⟩
  · exact Or.inl ⟨h2, h1⟩
  · exact Or.inr ⟨h0, b, h1, h3⟩
/-- Behind writes that are elsewhere. -/
theorem OEv.off {P : Nat → Prop} {w w' : World} {B : Nat} {v : Value} {a c : Int} (h : OEv w B v a c) (o : Off P w w') (hP : ∀ q, B ≤ q → q < w.heap.size → ¬ P q) : OEv w' B v a c := h.keep fun b q hl hB => o.cell (p := ⟨b, q, none⟩) hl (hP b hB hl)
/-- What a call of the program's that answers deeds leaves. -/
def PcQ (w : World) (b kb : Nat) (v : Value) (sq : Bool) (tr : Int) (y : CaA) (e : Ending) (w' : World) : Prop :=
  ∃ a c ev, e = .returned (.tuple #[.slice a y.ds.length c, ev]) ∧ Hid (DRow w' w.heap.size (.slice a y.ds.length c) y.ds ∧ OEv w' w.heap.size ev 0 y.cd ∧ BxQ w b kb v sq tr y.ms w')
/-- What a call of the program's that answers an error alone leaves. -/
def PeQ (w : World) (b kb : Nat) (v : Value) (sq : Bool) (tr : Int) (ms' : List Msg) (cd : Int) (e : Ending) (w' : World) : Prop :=
  ∃ ev, e = .returned ev ∧ Hid (OEv w' w.heap.size ev 0 cd ∧ BxQ w b kb v sq tr ms' w')
section
variable {w w' : World} {b kb : Nat} {v : Value} {sq : Bool} {tr : Int} {ms : List Msg}
theorem bxq_below (h : Bx w b kb v sq tr ms) (hb : Below w.heap.size w w') : BxQ w b kb v sq tr ms w' := ⟨v, h.below hb, Off.of_below hb, fun _ e => Or.inl e⟩
theorem pc_no {cd : Int} {f : Nat} {xs : Array Value} (h : Bx w b kb v sq tr ms) (hc : cd ≠ 0) (hq : Calls Tryd.prog f xs w (DFl w cd)) : Calls Tryd.prog f xs w (PcQ w b kb v sq tr ⟨[], ms, cd⟩) :=
  hq.mono fun _ _ ⟨z, he, hz, hf, hb⟩ => ⟨none, 0, _, he, ERow.nil _ _ _ _ _, Or.inr ⟨hc, z, rfl, hz, hf⟩, bxq_below h hb⟩
theorem pc_yes {ds : List Deed} {ms' : List Msg} {f : Nat} {xs : Array Value} (hq : Calls Tryd.prog f xs w (DoQ w b kb v sq tr ds ms')) : Calls Tryd.prog f xs w (PcQ w b kb v sq tr ⟨ds, ms', 0⟩) :=
  hq.mono fun _ _ ⟨a, c, he, hr, hb⟩ => ⟨a, c, _, he, hr, Or.inl ⟨rfl, rfl⟩, hb⟩
theorem pe_no {cd : Int} {f : Nat} {xs : Array Value} (h : Bx w b kb v sq tr ms) (hc : cd ≠ 0) (hq : Calls Tryd.prog f xs w (Fl w 0 cd)) : Calls Tryd.prog f xs w (PeQ w b kb v sq tr ms cd) :=
  hq.mono fun _ _ ⟨z, he, hz, hf, hb⟩ => ⟨_, he, Or.inr ⟨hc, z, rfl, hz, hf⟩, bxq_below h hb⟩
/-- Give's code, and what it leaves. -/
def givM (sq : Bool) (ms : List Msg) (x : Int) : List Msg := if givC sq ms x = 0 then (match ms[0]? with | some m => ms.set 0 { m with nu := x } | none => ms) else ms
end
/-- What a call of the document's that answers deeds leaves. -/
def RcY (w : World) (B r : Nat) (L : Value) (sq : Bool) (tr : Int) (y : CaA) (e : Ending) (w' : World) : Prop := RCaQ w B r L sq tr y.ms y.ds y.cd e w'
section
variable {w w' : World} {B r : Nat} {L : Value} {sq : Bool} {tr : Int} {ms : List Msg}
end
end Go.Proofs.YtoijhecphgdfnaaDoor

/-
  The law's looks at an error and at deeds.
-/
namespace Go.Proofs.YtoijhecphgdfnaaDoor
open Go.RowKit

set_option maxRecDepth 100000 in
set_option maxHeartbeats 1000000 in
theorem refused_any {w : World} {ev : Value} {a c : Int} (h : ErrV w ev a c) : Calls Tryd.prog 10 #[ev, .int .i64 a, .int .i64 c] w fun e w' => e = .returned (.bool true) ∧ w' = w := by
  rcases h with ⟨rfl, rfl⟩ | ⟨hc, z, rfl, hf⟩
  · go_enter Tryd.func10, Tryd.ntmps10
    go_wp2
    go_ret
    exact ⟨rfl, rfl⟩
  · exact refused_fault hc hf
theorem deed_cells {w : World} {B n c : Nat} {a : Option Addr} {ds : List Deed} {j : Nat} {d : Deed} (h : DRow w B (.slice a n c) ds) (hd : ds[j]? = some d) : ∃ g, a = some ⟨g, 0, none⟩ ∧ g < w.heap.size ∧ w.cell? ⟨g, j * 3, none⟩ = some (.string d.1) ∧ w.cell? ⟨g, j * 3 + 1, none⟩ = some (.int .i64 d.2.1) ∧ w.cell? ⟨g, j * 3 + 2, none⟩ = some (.string d.2.2) := by
  obtain ⟨g, e, hg, hc⟩ := ERow.at_ encD_len h hd
  exact ⟨g, e, hg, hc 0 (by decide), hc 1 (by decide), hc 2 (by decide)⟩
set_option maxRecDepth 100000 in
set_option maxHeartbeats 4000000 in
theorem sameDeeds_any {w : World} {B B' n n' c c' : Nat} {a a' : Option Addr} {ds : List Deed} (h1 : DRow w B (.slice a n c) ds) (h2 : DRow w B' (.slice a' n' c') ds) :
    Calls Tryd.prog 19 #[.slice a n c, .slice a' n' c'] w fun e w' => e = .returned (.bool true) ∧ ∃ m, w' = w.drewN m := by
  obtain rfl : n = ds.length := ERow.len h1
  obtain rfl : n' = ds.length := ERow.len h2
  have hx : ds.length ≤ 9223372036854775807 := by
    rcases ERow.form h1 with ⟨_, e⟩ | ⟨g, cap, _, _, _, h3, h4⟩
    · rw [e]; simp
    · unfold maxLen at h4; omega
  obtain ⟨n, hn⟩ : ∃ n, ds.length = n := ⟨_, rfl⟩
  have HH : Hid (DRow w B (.slice a n c) ds ∧ DRow w B' (.slice a' n c') ds ∧ ds.length = n) := ⟨by rw [← hn]; exact h1, by rw [← hn]; exact h2, hn⟩
  rw [hn] at hx ⊢
  clear h1 h2 hn
  go_enter Tryd.func19, Tryd.ntmps19
  go_wp2_with fail
  go_loopw [5] (fun ti wx => ∃ j m : Nat, j ≤ n ∧ ti = .int .i64 j ∧ wx = w.drewN m) (fun ti _ => n - (intOf ti).toNat)
  case atStart => exact ⟨0, 0, Nat.zero_le _, rfl, rfl⟩
  case round =>
    obtain ⟨j, m, hj, rfl, rfl⟩ := hrel
    by_cases hlt : j < n
    · have hlt1 : (j : Int) < n := by omega
      obtain ⟨d, hd⟩ : ∃ d, ds[j]? = some d := ⟨_, List.getElem?_eq_getElem (by rw [HH.out.2.2]; exact hlt)⟩
      obtain ⟨g, rfl, hg, p0, p1, p2⟩ := deed_cells HH.out.1 hd
      obtain ⟨g', rfl, hg', q0, q1, q2⟩ := deed_cells HH.out.2.1 hd
      clear hd
      go_wp2_with fail
      go_quiet (fail)
      go_wp2_with fail
      go_roundw
      case rel => exact ⟨j + 1, _, hlt, by go_num, rfl⟩
      case measure => simp [intOf]; omega
    · have hlt1 : ¬ ((j : Int) < n) := by omega
      go_wp2_with fail
      go_ret
      exact ⟨rfl, _, rfl⟩
end Go.Proofs.YtoijhecphgdfnaaDoor
