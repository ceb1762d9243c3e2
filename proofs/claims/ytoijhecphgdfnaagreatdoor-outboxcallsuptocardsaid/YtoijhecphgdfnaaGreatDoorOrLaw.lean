import Derived.Test.YtoijhecphgdfnaaGreatDoorOrInv
import Derived.Test.YtoijhecphgdfnaaGreatDoorOxSameL
/-
  Both boxes' calls, in the words of OrPure.
-/
namespace Go.Proofs.YtoijhecphgdfnaaGreatDoor
open Go.RowKit

/-- An error told: none, or a fault of that place and code. -/
def ErrV (w : World) (ev : Value) (at_ cd : Int) : Prop := (cd = 0 ∧ ev = .nilIface) ∨ (cd ≠ 0 ∧ ∃ z, ev = .iface 122 (.pointer (some ⟨z, 0, none⟩)) ∧ OFault w z at_ cd)
theorem OEv.err {w : World} {B : Nat} {v : Value} {a c : Int} (h : OEv w B v a c) : ErrV w v a c := by
  rcases h with ⟨h1, h2⟩ | ⟨h0, b, h1, _, h3⟩
  · exact Or.inl ⟨h2, h1⟩
  · exact Or.inr ⟨h0, b, h1, h3⟩
/-- Behind writes that are elsewhere. -/
theorem OEv.off {P : Nat → Prop} {w w' : World} {B : Nat} {v : Value} {a c : Int} (h : OEv w B v a c) (o : Off P w w') (hP : ∀ q, B ≤ q → q < w.heap.size → ¬ P q) : OEv w' B v a c := h.keep fun b q hl hB => o.cell (p := ⟨b, q, none⟩) hl (hP b hB hl)
/-- What a call of the program's that answers deeds leaves. -/
def PcQ (w : World) (b kb : Nat) (v : Value) (sq : Bool) (tr : Int) (y : CaA) (e : Ending) (w' : World) : Prop :=
  ∃ a c ev, e = .returned (.tuple #[.slice a y.ds.length c, ev]) ∧ Hid (DRow w' w.heap.size (.slice a y.ds.length c) y.ds ∧ OEv w' w.heap.size ev 0 y.cd ∧ BxQ w b kb v sq tr y.ms w')
/-- What a call of the program's that answers an error alone leaves. -/
def PeQ (w : World) (b kb : Nat) (v : Value) (sq : Bool) (tr : Int) (ms' : List Msg) (cd : Int) (e : Ending) (w' : World) : Prop :=
  ∃ ev, e = .returned ev ∧ Hid (OEv w' w.heap.size ev 0 cd ∧ BxQ w b kb v sq tr ms' w')
section
variable {w w' : World} {b kb : Nat} {v : Value} {sq : Bool} {tr : Int} {ms : List Msg}
theorem bxq_below (h : Bx w b kb v sq tr ms) (hb : Below w.heap.size w w') : BxQ w b kb v sq tr ms w' := ⟨v, h.below hb, Off.of_below hb, fun _ e => Or.inl e⟩
theorem pc_no {cd : Int} {f : Nat} {xs : Array Value} (h : Bx w b kb v sq tr ms) (hc : cd ≠ 0) (hq : Calls Tryz.prog f xs w (DFl w cd)) : Calls Tryz.prog f xs w (PcQ w b kb v sq tr ⟨[], ms, cd⟩) :=
  hq.mono fun _ _ ⟨z, he, hz, hf, hb⟩ => ⟨none, 0, _, he, ERow.nil _ _ _ _ _, Or.inr ⟨hc, z, rfl, hz, hf⟩, bxq_below h hb⟩
theorem pc_yes {ds : List Deed} {ms' : List Msg} {f : Nat} {xs : Array Value} (hq : Calls Tryz.prog f xs w (DoQ w b kb v sq tr ds ms')) : Calls Tryz.prog f xs w (PcQ w b kb v sq tr ⟨ds, ms', 0⟩) :=
  hq.mono fun _ _ ⟨a, c, he, hr, hb⟩ => ⟨a, c, _, he, hr, Or.inl ⟨rfl, rfl⟩, hb⟩
theorem pe_no {cd : Int} {f : Nat} {xs : Array Value} (h : Bx w b kb v sq tr ms) (hc : cd ≠ 0) (hq : Calls Tryz.prog f xs w (Fl w 0 cd)) : Calls Tryz.prog f xs w (PeQ w b kb v sq tr ms cd) :=
  hq.mono fun _ _ ⟨z, he, hz, hf, hb⟩ => ⟨_, he, Or.inr ⟨hc, z, rfl, hz, hf⟩, bxq_below h hb⟩
theorem pGo (h : Bx w b kb v sq tr ms) (hV : PVc w) (hk : Okk sq tr ms) : Calls Tryz.prog 23 #[.pointer (some ⟨b, 0, none⟩)] w (PcQ w b kb v sq tr (goA sq tr ms)) := by
  unfold goA
  cases hn : nxI sq ms with
  | none => exact pc_no h (by decide) (go_none h (nxI_none.1 hn))
  | some i =>
    obtain ⟨m, hm, hnx, hu, _, _⟩ := nxI_some hn
    simp only []
    rw [hm]
    simp only []
    by_cases hq : (sq && (m.nu == 0)) = true
    · rw [if_pos hq]
      simp only [Bool.and_eq_true, beq_iff_eq] at hq
      obtain ⟨rfl, h0⟩ := hq
      exact pc_no h (by decide) (go_unnumbered h hnx h0)
    · rw [if_neg hq, ← doS_don (m := m) (m' := { m with st := _, lf := _, un := true }) (fi_at hk.bk.id hm) rfl]
      exact pc_yes (go_go h hV hnx ((Bool.not_eq_true _).mp hq) (ok_start hk hm).1)
theorem pDue (h : Bx w b kb v sq tr ms) (hV : PVc w) (hk : Okk sq tr ms) (s : ByteArray) : Calls Tryz.prog 29 #[.pointer (some ⟨b, 0, none⟩), .string s] w (PcQ w b kb v sq tr (dueA ms s)) := by
  unfold dueA
  cases hn : fi s ms with
  | none => exact pc_no h (by decide) (due_un (under_no h s hn))
  | some i =>
    obtain ⟨m, hm, _, _⟩ := fi_some hn
    simp only []
    rw [hm]
    simp only []
    by_cases hu : m.un = false
    · rw [if_pos hu]
      exact pc_no h (by decide) (due_un (under_not h s hn hm hu))
    · rw [if_neg hu]
      have hu : m.un = true := (Bool.not_eq_false _).mp hu
      rw [un_eta hu, ← doS_don (m := m) (m' := { m with st := _, lf := _, un := true }) (fi_at hk.bk.id hm) rfl]
      exact pc_yes (due_go h hV hn hm hu (ok_due hk hm hu).1)
theorem pHeard (h : Bx w b kb v sq tr ms) (hV : PVc w) (hk : Okk sq tr ms) (s cd : ByteArray) (x : Int) : Calls Tryz.prog 27 #[.pointer (some ⟨b, 0, none⟩), .string s, .string cd, .int .i64 x] w (PcQ w b kb v sq tr (heardA sq ms s cd x)) := by
  unfold heardA
  cases hn : fi s ms with
  | none => exact pc_no h (by decide) (heard_un (under_no h s hn))
  | some i =>
    obtain ⟨m, hm, hct, _⟩ := fi_some hn
    simp only []
    rw [hm]
    simp only []
    by_cases hu : m.un = false
    · rw [if_pos hu]
      exact pc_no h (by decide) (heard_un (under_not h s hn hm hu))
    rw [if_neg hu]
    have hu : m.un = true := (Bool.not_eq_false _).mp hu
    by_cases hx : x < 0 ∨ 2147483647 < x
    · rw [if_pos hx]
      exact pc_no h (by decide) (heard_given h hn hm hu (by omega) (by unfold nmB; rw [Bool.and_eq_false_iff, decide_eq_false_iff_not, decide_eq_false_iff_not]; omega))
    rw [if_neg hx]
    have hg : x = 0 ∨ nmB x = true := by
      by_cases g : x = 0
      · exact Or.inl g
      · right; unfold nmB; rw [decide_eq_true (by omega), decide_eq_true (by omega)]; rfl
    have hT : (sq && decide (0 < x)) = (sq && (x != 0)) := by
      by_cases g : x = 0
      · subst g; simp
      · have g2 : 0 < x := by omega
        simp [g, g2]
    have hst : strB sq m.nu cd x = ((sq && (x != 0)) && (x == m.nu) && (cd.toList == [67, 69] || cd.toList == [65, 69])) := by
      rw [← hT]
      unfold strB
      cases sq <;> cases (cd.toList == [67, 69] || cd.toList == [65, 69]) <;> cases decide (0 < x) <;> cases (x == m.nu) <;> rfl
    by_cases hs : strB sq m.nu cd x = true
    · rw [if_pos hs]
      rw [hst] at hs
      simp only [Bool.and_eq_true, bne_iff_ne, ne_eq, beq_iff_eq] at hs
      obtain ⟨⟨⟨rfl, hx0⟩, he⟩, hc⟩ := hs
      have e : doS ms { m with un := true } 0 [(6, nT)] = ms := by
        rw [un_eta0 hu, doS_don (m := m) (m' := m) (fi_at hk.bk.id hm) rfl]
        unfold donS
        have e1 : tksS 0 (m, false) [(6, nT)] = (m, false) := rfl
        rw [e1]
        simp only [Bool.false_eq_true, if_false]
        have hl := (List.getElem?_eq_some_iff.1 hm).1
        rw [← (List.getElem?_eq_some_iff.1 hm).2]
        exact List.set_getElem_self hl
      have := heard_strange h hn hm hu hx0 (hg.resolve_left hx0) he hc
      rw [e, str_of hct] at this
      exact pc_yes this
    · rw [if_neg hs, un_eta hu, ← doS_don (m := m) (m' := { m with st := _, lf := _, un := true }) (fi_at hk.bk.id hm) rfl]
      rw [hst] at hs
      exact pc_yes (heard_go h hV hn hm hu hg hT ((Bool.not_eq_true _).mp (by rw [hT]; exact hs)) (ok_heard hk hm hu cd _).1)
/-- Give's code, and what it leaves. -/
def givM (sq : Bool) (ms : List Msg) (x : Int) : List Msg := if givC sq ms x = 0 then (match ms[0]? with | some m => ms.set 0 { m with nu := x } | none => ms) else ms
theorem pGive (h : Bx w b kb v sq tr ms) (hk : Okk sq tr ms) (x : Int) : Calls Tryz.prog 21 #[.pointer (some ⟨b, 0, none⟩), .int .i64 x] w (PeQ w b kb v sq tr (givM sq ms x) (givC sq ms x)) := by
  cases hn : nxI sq ms with
  | none =>
    have e : givC sq ms x = 281 := by unfold givC; rw [if_pos (Or.inr hn)]
    unfold givM
    rw [e, if_neg (by decide)]
    exact pe_no h (by decide) (give_state (M := zM) (o := false) h (next_no h (nxI_none.1 hn)) (by cases sq <;> rfl))
  | some i =>
    obtain ⟨m, hm, hnx, hu, hz, _⟩ := nxI_some hn
    cases sq with
    | false =>
      have e : givC false ms x = 281 := by unfold givC; rw [if_pos (Or.inl rfl)]
      unfold givM
      rw [e, if_neg (by decide)]
      exact pe_no h (by decide) (give_state h (next_yes h hnx) rfl)
    | true =>
      obtain rfl := hz rfl
      cases hg : nmB x with
      | false =>
        have e : givC true ms x = 282 := by unfold givC; rw [if_neg (by rw [hn]; simp), if_pos hg]
        unfold givM
        rw [e, if_neg (by decide)]
        exact pe_no h (by decide) (give_given h hnx hg)
      | true =>
        have e : givC true ms x = 0 := by unfold givC; rw [if_neg (by rw [hn]; simp), if_neg (by simp [hg])]
        have e2 : putS { m with nu := x } ms = ms.set 0 { m with nu := x } := by
          unfold putS
          rw [show fi ({ m with nu := x } : Msg).ct ms = some 0 from fi_at (m := m) hk.bk.id hm]
        unfold givM
        rw [e, if_pos rfl, hm]
        have := give_yes h hnx hg
        rw [e2] at this
        exact this.mono fun _ _ ⟨he, hq⟩ => ⟨_, he, Or.inl ⟨rfl, rfl⟩, hq⟩
end
/-- What a call of the document's that answers deeds leaves. -/
def RcY (w : World) (B r : Nat) (L : Value) (sq : Bool) (tr : Int) (y : CaA) (e : Ending) (w' : World) : Prop := RCaQ w B r L sq tr y.ms y.ds y.cd e w'
section
variable {w w' : World} {B r : Nat} {L : Value} {sq : Bool} {tr : Int} {ms : List Msg}
theorem rGo (h : RB w B r L sq tr ms) : Calls Tryz.prog 24 #[.pointer (some ⟨r, 0, none⟩)] w (RcY w B r L sq tr (goA sq tr ms)) := by
  unfold goA
  cases hn : nxI sq ms with
  | none => exact rGo_no h (Or.inl hn)
  | some i =>
    obtain ⟨m, hm, hnx, hu, _, _⟩ := nxI_some hn
    simp only []
    rw [hm]
    simp only []
    by_cases hq : (sq && (m.nu == 0)) = true
    · rw [if_pos hq]
      simp only [Bool.and_eq_true, beq_iff_eq] at hq
      exact rGo_no h (Or.inr ⟨hq.1, i, m, hn, hm, hq.2⟩)
    · rw [if_neg hq]
      exact rGo_yes h hn hm ((Bool.not_eq_true _).mp hq)
theorem rDue (h : RB w B r L sq tr ms) (s : ByteArray) : Calls Tryz.prog 30 #[.pointer (some ⟨r, 0, none⟩), .string s] w (RcY w B r L sq tr (dueA ms s)) := by
  unfold dueA
  cases hn : fi s ms with
  | none => exact rDue_no h s hn
  | some i =>
    obtain ⟨m, hm, _, _⟩ := fi_some hn
    simp only []
    rw [hm]
    simp only []
    by_cases hu : m.un = false
    · rw [if_pos hu]
      exact rDue_not h s hn hm hu
    · rw [if_neg hu]
      exact rDue_yes h s hn hm ((Bool.not_eq_false _).mp hu)
theorem rHeard (h : RB w B r L sq tr ms) (s cd : ByteArray) (x : Int) : Calls Tryz.prog 28 #[.pointer (some ⟨r, 0, none⟩), .string s, .string cd, .int .i64 x] w (RcY w B r L sq tr (heardA sq ms s cd x)) := by
  unfold heardA
  cases hn : fi s ms with
  | none => exact rHeard_no h s cd x hn
  | some i =>
    obtain ⟨m, hm, _, _⟩ := fi_some hn
    simp only []
    rw [hm]
    simp only []
    by_cases hu : m.un = false
    · rw [if_pos hu]
      exact rHeard_not h s cd x hn hm hu
    rw [if_neg hu]
    have hu : m.un = true := (Bool.not_eq_false _).mp hu
    by_cases hx : x < 0 ∨ 2147483647 < x
    · rw [if_pos hx]
      exact rHeard_given h s cd x hn hm hu hx
    rw [if_neg hx]
    by_cases hs : strB sq m.nu cd x = true
    · rw [if_pos hs]
      exact rHeard_strange h s cd x hn hm hu (by omega) hs (by omega)
    · rw [if_neg hs]
      exact rHeard_yes h s cd x hn hm hu (by omega) (by omega) ((Bool.not_eq_true _).mp hs)
end
end Go.Proofs.YtoijhecphgdfnaaGreatDoor

/-
  The law's looks at an error and at deeds.
-/
namespace Go.Proofs.YtoijhecphgdfnaaGreatDoor
open Go.RowKit

set_option maxRecDepth 100000 in
set_option maxHeartbeats 1000000 in
theorem refused_any {w : World} {ev : Value} {a c : Int} (h : ErrV w ev a c) : Calls Tryz.prog 13 #[ev, .int .i64 a, .int .i64 c] w fun e w' => e = .returned (.bool true) ∧ w' = w := by
  rcases h with ⟨rfl, rfl⟩ | ⟨hc, z, rfl, hf⟩
  · go_enter Tryz.func13, Tryz.ntmps13
    go_wp2
    go_ret
    exact ⟨rfl, rfl⟩
  · exact refused_fault hc hf
theorem deed_cells {w : World} {B n c : Nat} {a : Option Addr} {ds : List Deed} {j : Nat} {d : Deed} (h : DRow w B (.slice a n c) ds) (hd : ds[j]? = some d) : ∃ g, a = some ⟨g, 0, none⟩ ∧ g < w.heap.size ∧ w.cell? ⟨g, j * 3, none⟩ = some (.string d.1) ∧ w.cell? ⟨g, j * 3 + 1, none⟩ = some (.int .i64 d.2.1) ∧ w.cell? ⟨g, j * 3 + 2, none⟩ = some (.string d.2.2) := by
  obtain ⟨g, e, hg, hc⟩ := ERow.at_ encD_len h hd
  exact ⟨g, e, hg, hc 0 (by decide), hc 1 (by decide), hc 2 (by decide)⟩
set_option maxRecDepth 100000 in
set_option maxHeartbeats 4000000 in
theorem sameDeeds_any {w : World} {B B' n n' c c' : Nat} {a a' : Option Addr} {ds : List Deed} (h1 : DRow w B (.slice a n c) ds) (h2 : DRow w B' (.slice a' n' c') ds) :
    Calls Tryz.prog 26 #[.slice a n c, .slice a' n' c'] w fun e w' => e = .returned (.bool true) ∧ ∃ m, w' = w.drewN m := by
  obtain rfl : n = ds.length := ERow.len h1
  obtain rfl : n' = ds.length := ERow.len h2
  have hx : ds.length ≤ 9223372036854775807 := by
    rcases ERow.form h1 with ⟨_, e⟩ | ⟨g, cap, _, _, _, h3, h4⟩
    · rw [e]; simp
    · unfold maxLen at h4; omega
  obtain ⟨n, hn⟩ : ∃ n, ds.length = n := ⟨_, rfl⟩
  have HH : Hid (DRow w B (.slice a n c) ds ∧ DRow w B' (.slice a' n c') ds ∧ ds.length = n) := ⟨by rw [← hn]; exact h1, by rw [← hn]; exact h2, hn⟩
  rw [hn] at hx ⊢
  clear h1 h2 hn
  go_enter Tryz.func26, Tryz.ntmps26
  go_wp2_with fail
  go_loopw [5] (fun ti wx => ∃ j m : Nat, j ≤ n ∧ ti = .int .i64 j ∧ wx = w.drewN m) (fun ti _ => n - (intOf ti).toNat)
  case atStart => exact ⟨0, 0, Nat.zero_le _, rfl, rfl⟩
  case round =>
    obtain ⟨j, m, hj, rfl, rfl⟩ := hrel
    by_cases hlt : j < n
    · have hlt1 : (j : Int) < n := by omega
      obtain ⟨d, hd⟩ : ∃ d, ds[j]? = some d := ⟨_, List.getElem?_eq_getElem (by rw [HH.out.2.2]; exact hlt)⟩
      obtain ⟨g, rfl, hg, p0, p1, p2⟩ := deed_cells HH.out.1 hd
      obtain ⟨g', rfl, hg', q0, q1, q2⟩ := deed_cells HH.out.2.1 hd
      clear hd
      go_wp2_with fail
      go_quiet (fail)
      go_wp2_with fail
      go_roundw
      case rel => exact ⟨j + 1, _, hlt, by go_num, rfl⟩
      case measure => simp [intOf]; omega
    · have hlt1 : ¬ ((j : Int) < n) := by omega
      go_wp2_with fail
      go_ret
      exact ⟨rfl, _, rfl⟩
end Go.Proofs.YtoijhecphgdfnaaGreatDoor
