import Derived.Test.YtoijhecphgdfnaaGreatDoorOxDo3
import Derived.Test.YtoijhecphgdfnaaGreatDoorOxGet
/-
  put and Add of a box.
-/
namespace Go.Proofs.YtoijhecphgdfnaaGreatDoor
open Go.RowKit

section
variable {w w' : World} {b kb : Nat} {v : Value} {sq : Bool} {tr : Int} {ms : List Msg}
set_option maxRecDepth 100000 in
set_option maxHeartbeats 4000000 in
theorem bput_any {m : Msg} (h : Bx w b kb v sq tr ms) (hf : fi m.ct ms = none) (h32 : ms.length < 32) (hst : m.st = 0) (hlf : m.lf = 0) (hun : m.un = false) (hb : Byts w m.tp m.tn m.tx) (hpo : m.tp = none → m.tc = 0) (hm : m.tn ≤ 8192) :
    Calls Tryz.prog 45 #[.pointer (some ⟨b, 0, none⟩), .agg #[.string m.ct, .slice m.tp m.tn m.tc, .bool m.e, .int .i64 m.a, .int .i64 m.p, .int .i64 m.nu, .bool m.nt]] w fun e w' => e = .returned (.tuple #[]) ∧ ∃ a c, BxQ w b kb v sq tr (ms ++ [m.wi a c]) w' := by
  have hb0 : Below w.heap.size w (w.alloc (.cells #[.string m.ct, .slice m.tp m.tn m.tc, .bool m.e, .int .i64 m.a, .int .i64 m.p, .int .i64 m.nu, .bool m.nt] 58)) := (Below.refl _ _).alloc (Nat.le_refl _) _
  have hx0 := Box.new w #[.string m.ct, .slice m.tp m.tn m.tc, .bool m.e, .int .i64 m.a, .int .i64 m.p, .int .i64 m.nu, .bool m.nt] 58
  have HH : Hid (Bx (w.alloc (.cells #[.string m.ct, .slice m.tp m.tn m.tc, .bool m.e, .int .i64 m.a, .int .i64 m.p, .int .i64 m.nu, .bool m.nt] 58)) b kb v sq tr ms ∧ Below w.heap.size w (w.alloc (.cells #[.string m.ct, .slice m.tp m.tn m.tc, .bool m.e, .int .i64 m.a, .int .i64 m.p, .int .i64 m.nu, .bool m.nt] 58))) := ⟨h.below hb0, hb0⟩
  have hcp : Hid (∀ z, Below (w.alloc (.cells #[.string m.ct, .slice m.tp m.tn m.tc, .bool m.e, .int .i64 m.a, .int .i64 m.p, .int .i64 m.nu, .bool m.nt] 58)).heap.size (w.alloc (.cells #[.string m.ct, .slice m.tp m.tn m.tc, .bool m.e, .int .i64 m.a, .int .i64 m.p, .int .i64 m.nu, .bool m.nt] 58)) z → Calls Tryz.prog 55 #[.agg #[.string m.ct, .slice m.tp m.tn m.tc, .bool m.e, .int .i64 m.a, .int .i64 m.p, .int .i64 m.nu, .bool m.nt, .int .i64 0, .int .i64 0, .bool false]] z fun e z' => ∃ a c, e = .returned (.agg #[.string m.ct, .slice a m.tn c, .bool m.e, .int .i64 m.a, .int .i64 m.p, .int .i64 m.nu, .bool m.nt, .int .i64 0, .int .i64 0, .bool false]) ∧ Hid (BRow z' 0 (.slice a m.tn c) m.tx ∧ Below (w.alloc (.cells #[.string m.ct, .slice m.tp m.tn m.tc, .bool m.e, .int .i64 m.a, .int .i64 m.p, .int .i64 m.nu, .bool m.nt] 58)).heap.size (w.alloc (.cells #[.string m.ct, .slice m.tp m.tn m.tc, .bool m.e, .int .i64 m.a, .int .i64 m.p, .int .i64 m.nu, .bool m.nt] 58)) z' ∧ Below z.heap.size z z')) := fun z hz => by
    have := copied_any m z ((hb.below hb0).below hz) hpo (by omega)
    rw [hst, hlf, hun] at this
    exact this.mono fun e z' ⟨a, c, h1, h2, h3⟩ => ⟨a, c, h1, ERow.base h2 (Nat.zero_le _), below_then hz h3, h3⟩
  obtain ⟨V, hV⟩ : ∃ V, w.alloc (.cells #[.string m.ct, .slice m.tp m.tn m.tc, .bool m.e, .int .i64 m.a, .int .i64 m.p, .int .i64 m.nu, .bool m.nt] 58) = V := ⟨_, rfl⟩
  have hpt : Hid (∀ a c z, Below V.heap.size V z → Calls Tryz.prog 58 #[.pointer (some ⟨kb, 0, none⟩), .agg #[.string m.ct, .slice a m.tn c, .bool m.e, .int .i64 m.a, .int .i64 m.p, .int .i64 m.nu, .bool m.nt, .int .i64 0, .int .i64 0, .bool false]] z fun e z' => e = .returned (.tuple #[]) ∧ Hid (KdQ z kb v (ms ++ [m.wi a c]) z')) := fun a c z hz => by
    have hk : Kd z kb v ms := (by have := HH.out.1; rw [hV] at this; exact this.2.1 : Kd V kb v ms).below hz
    have := put_new hk (m.wi a c) hf h32
    rw [show putS (m.wi a c) ms = ms ++ [m.wi a c] by unfold putS; rw [show fi (m.wi a c).ct ms = none from hf]] at this
    have e2 : Value.agg #[.string (m.wi a c).ct, .slice (m.wi a c).tp (m.wi a c).tn (m.wi a c).tc, .bool (m.wi a c).e, .int .i64 (m.wi a c).a, .int .i64 (m.wi a c).p, .int .i64 (m.wi a c).nu, .bool (m.wi a c).nt, .int .i64 (m.wi a c).st, .int .i64 (m.wi a c).lf, .bool (m.wi a c).un] = .agg #[.string m.ct, .slice a m.tn c, .bool m.e, .int .i64 m.a, .int .i64 m.p, .int .i64 m.nu, .bool m.nt, .int .i64 0, .int .i64 0, .bool false] := by
      show Value.agg #[.string m.ct, .slice a m.tn c, .bool m.e, .int .i64 m.a, .int .i64 m.p, .int .i64 m.nu, .bool m.nt, .int .i64 m.st, .int .i64 m.lf, .bool m.un] = _
      rw [hst, hlf, hun]
    rw [e2] at this
    exact this
  have HM : Hid (m.tn ≤ 8192) := hm
  rw [hV] at HH hcp hx0
  have c0 := hcell HH.out.1.1 0
  have cx := hx0.cell
  have lb := HH.out.1.lt
  have lx := hx0.lt
  clear h hf h32 hst hlf hun hb hpo hm hb0
  go_enter Tryz.func45, Tryz.ntmps45
  go_wp2_with fail
  clear hV
  go_region_law (first | (go_simp; go_at_call 55; refine (hcp.out _ ?_).mono ?_; (repeat' (first | exact Below.refl _ _ | refine Below.drew ?_)); rintro _ w5 ⟨a5, c5, rfl, hh5⟩; have hc5 := (held_of hh5.out.2.1).cell; go_wp2_with fail) | (go_simp; go_at_call 58; refine (hpt.out _ _ _ ?_).mono ?_; (exact (Hid.out (by assumption : Hid (BRow _ _ _ _ ∧ _ ∧ _))).2.1); rintro _ w6 ⟨rfl, hh6⟩; go_wp2_with fail))
  all_goals
    go_wp2_with fail
    go_end0
    refine ⟨rfl, a5, c5, ?_⟩
    refine bxq_of (HH.out.1.below hh5.out.2.1) (below_then HH.out.2 hh5.out.2.1) hh6.out (fun y hy => ?_)
    rcases List.mem_append.1 hy with g | g
    · exact (HH.out.1.below hh5.out.2.1).2.2 y g
    · obtain rfl : y = m.wi a5 c5 := by simpa using g
      exact ⟨hh5.out.1, HM.out⟩
end
end Go.Proofs.YtoijhecphgdfnaaGreatDoor

/-
  Add; Give.
-/
namespace Go.Proofs.YtoijhecphgdfnaaGreatDoor
open Go.RowKit

/-- Why Add refuses. -/
def addC (sq : Bool) (ms : List Msg) (m : Msg) : Int := if ms.length = 32 then 7 else refS sq ms m
/-- A fault told. -/
def Fl (w : World) (at_ code : Int) (e : Ending) (w' : World) : Prop := ∃ z, e = .returned (.iface 122 (.pointer (some ⟨z, 0, none⟩))) ∧ w.heap.size ≤ z ∧ OFault w' z at_ code ∧ Below w.heap.size w w'
theorem refS_zero {sq : Bool} {ms : List Msg} {m : Msg} (h : refS sq ms m = 0) : fi m.ct ms = none ∧ m.tn ≤ 8192 := by
  unfold refS at h
  split at h
  · omega
  split at h
  · omega
  rename_i h1 h2
  split at h
  · omega
  rename_i h3
  refine ⟨by simpa using h2, ?_⟩
  simp only [Bool.or_eq_true, decide_eq_true_eq] at h3
  omega
section
variable {w w' : World} {b kb : Nat} {v : Value} {sq : Bool} {tr : Int} {ms : List Msg}
set_option maxRecDepth 100000 in
set_option maxHeartbeats 4000000 in
theorem add_yes {m : Msg} (h : Bx w b kb v sq tr ms) (hV : PVc w) (hnu : m.nu = 0) (hnt : m.nt = false) (hst : m.st = 0) (hlf : m.lf = 0) (hun : m.un = false) (hb : Byts w m.tp m.tn m.tx) (hpo : m.tp = none → m.tc = 0) (hc : addC sq ms m = 0) :
    Calls Tryz.prog 16 #[.pointer (some ⟨b, 0, none⟩), .string m.ct, .slice m.tp m.tn m.tc, .agg #[.bool m.e, .int .i64 m.a, .int .i64 m.p]] w fun e w' => e = .returned .nilIface ∧ ∃ a c, BxQ w b kb v sq tr (ms ++ [m.wi a c]) w' := by
  have h32 : ms.length < 32 := by
    have := h.2.1.2.2
    unfold addC at hc
    split at hc
    · omega
    · omega
  have hr0 : refS sq ms m = 0 := by unfold addC at hc; rwa [if_neg (by omega)] at hc
  obtain ⟨hfn, htn⟩ := refS_zero hr0
  have hb1 : Below w.heap.size w (w.alloc (.cells #[.bool m.e, .int .i64 m.a, .int .i64 m.p] 45)) := (Below.refl _ _).alloc (Nat.le_refl _) _
  have hb2 : Below w.heap.size w ((w.alloc (.cells #[.bool m.e, .int .i64 m.a, .int .i64 m.p] 45)).alloc (.cells #[.string m.ct, .slice m.tp m.tn m.tc, .bool m.e, .int .i64 m.a, .int .i64 m.p, .int .i64 0, .bool false] 58)) := hb1.alloc (by simp) _
  have hmk := made_yes (h.below hb1)
  have hct := count_any (h.below hb1).2.1
  have hrf := refuse_any (h.below hb2) m (hV.below hb2)
  have hx2 := Box.new (w.alloc (.cells #[.bool m.e, .int .i64 m.a, .int .i64 m.p] 45)) #[.string m.ct, .slice m.tp m.tn m.tc, .bool m.e, .int .i64 m.a, .int .i64 m.p, .int .i64 0, .bool false] 58
  rw [World.size_alloc] at hx2
  rw [hr0, hnu, hnt] at hrf
  have HH : Hid (∀ z, Below w.heap.size w z → Calls Tryz.prog 45 #[.pointer (some ⟨b, 0, none⟩), .agg #[.string m.ct, .slice m.tp m.tn m.tc, .bool m.e, .int .i64 m.a, .int .i64 m.p, .int .i64 0, .bool false]] z fun e z' => e = .returned (.tuple #[]) ∧ Hid (∃ a c, BxQ w b kb v sq tr (ms ++ [m.wi a c]) z')) := fun z hz => by
    have := bput_any (m := m) (h.below hz) hfn h32 hst hlf hun (hb.below hz) hpo htn
    rw [hnu, hnt] at this
    refine this.mono fun e z' ⟨h1, a, c, v', q1, q2, q3⟩ => ⟨h1, a, c, v', q1, (Off.of_below hz).trans q2, fun q e => (q3 q e).imp id fun g => Nat.le_trans hz.size g⟩
  have HB2 : Hid (Below w.heap.size w ((w.alloc (.cells #[.bool m.e, .int .i64 m.a, .int .i64 m.p] 45)).alloc (.cells #[.string m.ct, .slice m.tp m.tn m.tc, .bool m.e, .int .i64 m.a, .int .i64 m.p, .int .i64 0, .bool false] 58))) := hb2
  have c0 := hcell (h.below hb1).1 0
  have c0' := hcell h.1 0
  have lb := h.lt
  obtain ⟨n, hn⟩ : ∃ n, ms.length = n := ⟨_, rfl⟩
  rw [hn] at hct h32
  have g32 : ((n : Int) == 32) = false := by rw [beq_eq_false_iff_ne]; omega
  clear h hV hnu hnt hst hlf hun hb hpo hc hr0 hfn htn hb1 hb2 hn h32
  go_enter Tryz.func16, Tryz.ntmps16
  go_wp2_with fail
  refine hmk.mono ?_
  rintro _ w9 ⟨rfl, h9⟩
  subst w9
  clear hmk
  go_wp2_with fail
  refine hct.mono ?_
  rintro _ w9 ⟨rfl, h9⟩
  subst w9
  clear hct
  go_wp2_with fail
  refine hrf.mono ?_
  rintro _ w3 ⟨rfl, hb3⟩
  have HB3 : Hid (Below w.heap.size w w3) := below_then HB2.out hb3
  have cx := (hx2.below hb3).cell
  clear hrf hb3 c0 c0' lb hx2
  go_wp2_with fail
  refine (HH.out _ HB3.out).mono ?_
  rintro _ w4 ⟨rfl, h4⟩
  clear cx
  go_wp2_with fail
  go_ret
  exact ⟨rfl, h4.out⟩
set_option maxRecDepth 100000 in
set_option maxHeartbeats 4000000 in
theorem add_no {m : Msg} (h : Bx w b kb v sq tr ms) (hV : PVc w) (hnu : m.nu = 0) (hnt : m.nt = false) (hc : addC sq ms m ≠ 0) :
    Calls Tryz.prog 16 #[.pointer (some ⟨b, 0, none⟩), .string m.ct, .slice m.tp m.tn m.tc, .agg #[.bool m.e, .int .i64 m.a, .int .i64 m.p]] w (Fl w 0 (addC sq ms m)) := by
  have hb1 : Below w.heap.size w (w.alloc (.cells #[.bool m.e, .int .i64 m.a, .int .i64 m.p] 45)) := (Below.refl _ _).alloc (Nat.le_refl _) _
  have hmk := made_yes (h.below hb1)
  have hct := count_any (h.below hb1).2.1
  have c0 := hcell (h.below hb1).1 0
  have c0' := hcell h.1 0
  have lb := h.lt
  have HB1 : Hid (Below w.heap.size w (w.alloc (.cells #[.bool m.e, .int .i64 m.a, .int .i64 m.p] 45))) := hb1
  obtain ⟨n, hn⟩ : ∃ n, ms.length = n := ⟨_, rfl⟩
  rw [hn] at hct
  by_cases h32 : n = 32
  · have e : addC sq ms m = 7 := by unfold addC; rw [hn, if_pos h32]
    rw [e]
    subst h32
    clear h hV hnu hnt hc hb1 hn e
    go_enter Tryz.func16, Tryz.ntmps16
    go_wp2_with fail
    refine hmk.mono ?_
    rintro _ w9 ⟨rfl, h9⟩
    subst w9
    clear hmk
    go_wp2_with fail
    refine hct.mono ?_
    rintro _ w9 ⟨rfl, h9⟩
    subst w9
    clear hct
    go_wp2_with fail
    refine (fault_any _ _ _).mono ?_
    rintro _ w2 ⟨rfl, hf2, hb2⟩
    have HE : Hid (OFault w2 (w.heap.size + 1) 0 7 ∧ Below w.heap.size w w2) := ⟨by simpa using hf2, below_then HB1.out hb2⟩
    clear hf2 hb2
    go_wp2_with fail
    go_ret
    exact ⟨w.heap.size + 1, rfl, by omega, HE.out.1, HE.out.2⟩
  · have e : addC sq ms m = refS sq ms m := by unfold addC; rw [hn, if_neg h32]
    rw [e] at hc ⊢
    have hb2 : Below w.heap.size w ((w.alloc (.cells #[.bool m.e, .int .i64 m.a, .int .i64 m.p] 45)).alloc (.cells #[.string m.ct, .slice m.tp m.tn m.tc, .bool m.e, .int .i64 m.a, .int .i64 m.p, .int .i64 0, .bool false] 58)) := hb1.alloc (by simp) _
    have hrf := refuse_any (h.below hb2) m (hV.below hb2)
    rw [hnu, hnt] at hrf
    have HB2 : Hid (Below w.heap.size w ((w.alloc (.cells #[.bool m.e, .int .i64 m.a, .int .i64 m.p] 45)).alloc (.cells #[.string m.ct, .slice m.tp m.tn m.tc, .bool m.e, .int .i64 m.a, .int .i64 m.p, .int .i64 0, .bool false] 58))) := hb2
    obtain ⟨cd, hcd⟩ : ∃ cd, refS sq ms m = cd := ⟨_, rfl⟩
    rw [hcd] at hc hrf ⊢
    have g32 : ((n : Int) == 32) = false := by rw [beq_eq_false_iff_ne]; omega
    have gc : (cd != 0) = true := by simpa using hc
    clear h hV hnu hnt hc hb1 hb2 hn e h32 hcd
    go_enter Tryz.func16, Tryz.ntmps16
    go_wp2_with fail
    refine hmk.mono ?_
    rintro _ w9 ⟨rfl, h9⟩
    subst w9
    clear hmk
    go_wp2_with fail
    refine hct.mono ?_
    rintro _ w9 ⟨rfl, h9⟩
    subst w9
    clear hct
    go_wp2_with fail
    refine hrf.mono ?_
    rintro _ w3 ⟨rfl, hb3⟩
    have HB3 : Hid (Below w.heap.size w w3) := below_then HB2.out hb3
    clear hrf hb3 c0 c0' lb
    go_wp2_with fail
    refine (fault_any _ _ _).mono ?_
    rintro _ w4 ⟨rfl, hf2, hb2⟩
    have HE : Hid (OFault w4 w3.heap.size 0 cd ∧ Below w.heap.size w w4) := ⟨hf2, below_then HB3.out hb2⟩
    clear hf2 hb2
    go_wp2_with fail
    go_ret
    exact ⟨w3.heap.size, rfl, HB3.out.size, HE.out.1, HE.out.2⟩
end
end Go.Proofs.YtoijhecphgdfnaaGreatDoor

/-
  Due.
-/
namespace Go.Proofs.YtoijhecphgdfnaaGreatDoor
open Go.RowKit

/-- A fault told with no deeds. -/
def DFl (w : World) (code : Int) (e : Ending) (w' : World) : Prop := ∃ z, e = .returned (.tuple #[.slice none 0 0, .iface 122 (.pointer (some ⟨z, 0, none⟩))]) ∧ w.heap.size ≤ z ∧ OFault w' z 0 code ∧ Below w.heap.size w w'
theorem Acts.off {P : Nat → Prop} {w w' : World} {N : Nat} {v : Value} {l : ActL} (h : Acts w N v l) (o : Off P w w') (hP : ∀ q, N ≤ q → ¬ P q) : Acts w' N v l := by
  obtain ⟨po, cap, h1, h2, h3⟩ := h
  refine ⟨po, cap, h1, h2, fun j y hj => ?_⟩
  obtain ⟨b, of, e, hn, hl, c1, c2⟩ := h3 j y hj
  exact ⟨b, of, e, hn, Nat.lt_of_lt_of_le hl o.size, by rw [o.cell (p := ⟨b, of + j * 2, none⟩) hl (hP b hn)]; exact c1, by rw [o.cell (p := ⟨b, of + j * 2 + 1, none⟩) hl (hP b hn)]; exact c2⟩
theorem BxQ.of_below {w w1 w' : World} {b kb : Nat} {v : Value} {sq : Bool} {tr : Int} {ms' : List Msg} (hb : Below w.heap.size w w1) (h : BxQ w1 b kb v sq tr ms' w') : BxQ w b kb v sq tr ms' w' := by
  obtain ⟨v', q1, q2, q3⟩ := h
  exact ⟨v', q1, (Off.of_below hb).trans q2, fun q e => (q3 q e).imp id fun g => Nat.le_trans hb.size g⟩
theorem DoQ.of_below {w w1 w' : World} {b kb : Nat} {v : Value} {sq : Bool} {tr : Int} {ds : List Deed} {ms' : List Msg} {e : Ending} (hb : Below w.heap.size w w1) (h : DoQ w1 b kb v sq tr ds ms' e w') : DoQ w b kb v sq tr ds ms' e w' := by
  obtain ⟨a, c, h1, h2, h3⟩ := h
  exact ⟨a, c, h1, ERow.base h2 hb.size, h3.of_below hb⟩
theorem ans_yes {f : FuncId} {args : Array Value} {x : Ans} {w : World} (h : Calls Tryz.prog f args w (PAnsQ x w)) (hn : x.n = 0) : Calls Tryz.prog f args w fun r w' => ∃ a c, r = .returned (.tuple #[.agg #[.int .i64 x.st, .int .i64 x.lf], .slice a x.l.length c, .nilIface]) ∧ Hid (Acts w' w.heap.size (.slice a x.l.length c) x.l ∧ Below w.heap.size w w') :=
  h.mono fun r w' ⟨lv, ev, h1, h2, h3, h4⟩ => by
    obtain ⟨a, c, rfl, _⟩ := h2.isSlice
    rcases h3 with ⟨rfl, _⟩ | ⟨g, _⟩
    · exact ⟨a, c, h1, h2.acts, h4⟩
    · exact absurd hn g
theorem ans_no {f : FuncId} {args : Array Value} {x : Ans} {w : World} (h : Calls Tryz.prog f args w (PAnsQ x w)) (hn : x.n ≠ 0) : Calls Tryz.prog f args w fun r w' => ∃ a c z, r = .returned (.tuple #[.agg #[.int .i64 x.st, .int .i64 x.lf], .slice a x.l.length c, .iface 122 (.pointer (some ⟨z, 0, none⟩))]) ∧ Below w.heap.size w w' :=
  h.mono fun r w' ⟨lv, ev, h1, h2, h3, h4⟩ => by
    obtain ⟨a, c, rfl, _⟩ := h2.isSlice
    rcases h3 with ⟨_, g⟩ | ⟨_, z, rfl, _⟩
    · exact absurd g hn
    · exact ⟨a, c, z, h1, h4⟩
section
variable {w w' : World} {b kb : Nat} {v : Value} {sq : Bool} {tr : Int} {ms : List Msg}
set_option maxRecDepth 100000 in
set_option maxHeartbeats 2000000 in
theorem due_un {s : ByteArray} {cd : Int} (h : Calls Tryz.prog 63 #[.pointer (some ⟨b, 0, none⟩), .string s] w (ZFl w cd)) : Calls Tryz.prog 29 #[.pointer (some ⟨b, 0, none⟩), .string s] w (DFl w cd) := by
  go_enter Tryz.func29, Tryz.ntmps29
  go_wp2_with fail
  refine h.mono ?_
  rintro _ w1 ⟨z, rfl, hz, hf, hb⟩
  have HE : Hid (w.heap.size ≤ z ∧ (∀ o, OFault (w1.alloc o) z 0 cd) ∧ ∀ o, Below w.heap.size w (w1.alloc o)) := ⟨hz, fun o => hf.below ((Below.refl _ _).alloc (Nat.le_refl _) _), fun o => hb.alloc hb.size o⟩
  clear h hz hf hb
  go_wp2_with fail
  go_ret2
  exact ⟨z, rfl, HE.out.1, HE.out.2.1 _, HE.out.2.2 _⟩
set_option maxRecDepth 100000 in
set_option maxHeartbeats 1000000 in
theorem due_go {s : ByteArray} {i : Nat} {m : Msg} (h : Bx w b kb v sq tr ms) (hV : PVc w) (hf : fi s ms = some i) (hm : ms[i]? = some m) (hu : m.un = true) (hn : (dueS m.e m.a m.p m.st m.lf).n = 0) :
    Calls Tryz.prog 29 #[.pointer (some ⟨b, 0, none⟩), .string s] w (DoQ w b kb v sq tr (deedsS m.ct (dueS m.e m.a m.p m.st m.lf).l) (doS ms { m with st := (dueS m.e m.a m.p m.st m.lf).st, lf := (dueS m.e m.a m.p m.st m.lf).lf, un := true } 0 (dueS m.e m.a m.p m.st m.lf).l)) := by
  have hun := under_yes h s hf hm hu
  have hdu := fun z hz => ans_yes (due_ok m.e m.a m.p m.st m.lf z hz) hn
  obtain ⟨m0, hm0, he0, _⟩ := fi_some hf
  obtain rfl : m0 = m := by rw [hm] at hm0; exact (Option.some.inj hm0).symm
  have hfm : fi m0.ct ms = some i := by rw [str_of he0]; exact hf
  have hlen := dueS_len m0.e m0.a m0.p m0.st m0.lf
  obtain ⟨X, hX⟩ : ∃ X, dueS m0.e m0.a m0.p m0.st m0.lf = X := ⟨_, rfl⟩
  rw [hX] at hdu hlen ⊢
  have HH : Hid (Bx w b kb v sq tr ms ∧ PVc w ∧ fi m0.ct ms = some i ∧ Tx w m0) := ⟨h, hV, hfm, h.2.2 m0 (List.mem_of_getElem? hm)⟩
  have HD : Hid (∀ z, PVc z → Calls Tryz.prog 66 #[.agg #[.bool m0.e, .int .i64 m0.a, .int .i64 m0.p], .agg #[.int .i64 m0.st, .int .i64 m0.lf]] z fun r w' => ∃ a c, r = .returned (.tuple #[.agg #[.int .i64 X.st, .int .i64 X.lf], .slice a X.l.length c, .nilIface]) ∧ Hid (Acts w' z.heap.size (.slice a X.l.length c) X.l ∧ Below z.heap.size z w')) := hdu
  rw [hu] at hun
  have HLn : Hid (X.l.length ≤ 3) := hlen
  clear h hV hf hm hn hdu hX hm0 he0 hfm hu hlen
  go_enter Tryz.func29, Tryz.ntmps29
  go_wp2_with fail
  refine hun.mono ?_
  rintro _ w1 ⟨rfl, hb1⟩
  have x2 := Box.new w1 #[.string m0.ct, .slice m0.tp m0.tn m0.tc, .bool m0.e, .int .i64 m0.a, .int .i64 m0.p, .int .i64 m0.nu, .bool m0.nt, .int .i64 m0.st, .int .i64 m0.lf, .bool true] 91
  have HB2 : Hid (Below w.heap.size w (w1.alloc (.cells #[.string m0.ct, .slice m0.tp m0.tn m0.tc, .bool m0.e, .int .i64 m0.a, .int .i64 m0.p, .int .i64 m0.nu, .bool m0.nt, .int .i64 m0.st, .int .i64 m0.lf, .bool true] 91))) := hb1.alloc hb1.size _
  clear hun
  go_wp2_with fail
  obtain ⟨W2, hW2⟩ : ∃ W, w1.alloc (.cells #[.string m0.ct, .slice m0.tp m0.tn m0.tc, .bool m0.e, .int .i64 m0.a, .int .i64 m0.p, .int .i64 m0.nu, .bool m0.nt, .int .i64 m0.st, .int .i64 m0.lf, .bool true] 91) = W := ⟨_, rfl⟩
  rw [hW2] at x2 HB2 ⊢
  have HS2 : Hid (W2.heap.size = w1.heap.size + 1 ∧ w.heap.size ≤ w1.heap.size) := ⟨by rw [← hW2]; simp, hb1.size⟩
  clear hW2 hb1
  refine (HD.out W2 (HH.out.2.1.below HB2.out)).mono ?_
  rintro _ w3 ⟨a, c, rfl, h3⟩
  have x3 := x2.below h3.out.2
  have c3 := x3.cell
  have f3 := x3.free
  have l3 := x3.lt
  have HB3 : Hid (∀ o, Below w.heap.size w (((w3.setCell ⟨w1.heap.size, 7, none⟩ (.int .i64 X.st)).setCell ⟨w1.heap.size, 8, none⟩ (.int .i64 X.lf)).alloc o) ∧ Acts (((w3.setCell ⟨w1.heap.size, 7, none⟩ (.int .i64 X.st)).setCell ⟨w1.heap.size, 8, none⟩ (.int .i64 X.lf)).alloc o) W2.heap.size (.slice a X.l.length c) X.l) := fun o => by
    have hs := HS2.out
    have o1 : Off (fun q => q = w1.heap.size) w3 (((w3.setCell ⟨w1.heap.size, 7, none⟩ (.int .i64 X.st)).setCell ⟨w1.heap.size, 8, none⟩ (.int .i64 X.lf)).alloc o) := Off.alloc (Off.setCell (P := fun q => q = w1.heap.size) (Off.setCell (P := fun q => q = w1.heap.size) (Off.refl _ _) (p := ⟨w1.heap.size, 7, none⟩) rfl _) (p := ⟨w1.heap.size, 8, none⟩) rfl _) o
    exact ⟨(below_then HB2.out h3.out.2).trans (o1.below (Nat.le_trans HB2.out.size h3.out.2.size) (fun k hk => by omega)), h3.out.1.off o1 (fun q hq => by omega)⟩
  clear x3 x2
  go_wp2_with fail
  refine (do_ok (m := { m0 with st := X.st, lf := X.lf, un := true }) (x := 0) (i0 := i) (l := X.l) (N := W2.heap.size) (HH.out.1.below (HB3.out _).1) HH.out.2.2.1 ((HH.out.2.2.2.below (HB3.out _).1).same rfl rfl rfl rfl) (HB3.out _).2 HLn.out).mono ?_
  rintro _ w6 ⟨a6, c6, rfl, r6, q6⟩
  have HZ : Hid (DRow w6 w.heap.size (.slice a6 (deedsS m0.ct X.l).length c6) (deedsS m0.ct X.l) ∧ BxQ w b kb v sq tr (doS ms { m0 with st := X.st, lf := X.lf, un := true } 0 X.l) w6) := ⟨ERow.base r6 (HB3.out _).1.size, q6.of_below (HB3.out _).1⟩
  clear r6 q6 c3 f3
  go_wp2_with fail
  go_ret2
  exact ⟨a6, c6, rfl, HZ.out.1, HZ.out.2⟩
set_option maxRecDepth 100000 in
set_option maxHeartbeats 1000000 in
theorem due_bad {s : ByteArray} {i : Nat} {m : Msg} (h : Bx w b kb v sq tr ms) (hV : PVc w) (hf : fi s ms = some i) (hm : ms[i]? = some m) (hu : m.un = true) (hn : (dueS m.e m.a m.p m.st m.lf).n ≠ 0) :
    Calls Tryz.prog 29 #[.pointer (some ⟨b, 0, none⟩), .string s] w (DFl w 281) := by
  have hun := under_yes h s hf hm hu
  have hdu := fun z hz => ans_no (due_ok m.e m.a m.p m.st m.lf z hz) hn
  obtain ⟨m0, hm0, he0, _⟩ := fi_some hf
  obtain rfl : m0 = m := by rw [hm] at hm0; exact (Option.some.inj hm0).symm
  obtain ⟨X, hX⟩ : ∃ X, dueS m0.e m0.a m0.p m0.st m0.lf = X := ⟨_, rfl⟩
  rw [hX] at hdu
  have HH : Hid (PVc w) := hV
  have HD : Hid (∀ z, PVc z → Calls Tryz.prog 66 #[.agg #[.bool m0.e, .int .i64 m0.a, .int .i64 m0.p], .agg #[.int .i64 m0.st, .int .i64 m0.lf]] z fun r w' => ∃ a c z', r = .returned (.tuple #[.agg #[.int .i64 X.st, .int .i64 X.lf], .slice a X.l.length c, .iface 122 (.pointer (some ⟨z', 0, none⟩))]) ∧ Below z.heap.size z w') := hdu
  rw [hu] at hun
  clear h hV hf hm hn hdu hX hm0 he0 hu
  go_enter Tryz.func29, Tryz.ntmps29
  go_wp2_with fail
  refine hun.mono ?_
  rintro _ w1 ⟨rfl, hb1⟩
  have x2 := Box.new w1 #[.string m0.ct, .slice m0.tp m0.tn m0.tc, .bool m0.e, .int .i64 m0.a, .int .i64 m0.p, .int .i64 m0.nu, .bool m0.nt, .int .i64 m0.st, .int .i64 m0.lf, .bool true] 91
  have HB2 : Hid (Below w.heap.size w (w1.alloc (.cells #[.string m0.ct, .slice m0.tp m0.tn m0.tc, .bool m0.e, .int .i64 m0.a, .int .i64 m0.p, .int .i64 m0.nu, .bool m0.nt, .int .i64 m0.st, .int .i64 m0.lf, .bool true] 91))) := hb1.alloc hb1.size _
  clear hun
  go_wp2_with fail
  obtain ⟨W2, hW2⟩ : ∃ W, w1.alloc (.cells #[.string m0.ct, .slice m0.tp m0.tn m0.tc, .bool m0.e, .int .i64 m0.a, .int .i64 m0.p, .int .i64 m0.nu, .bool m0.nt, .int .i64 m0.st, .int .i64 m0.lf, .bool true] 91) = W := ⟨_, rfl⟩
  rw [hW2] at x2 HB2 ⊢
  have HS2 : Hid (W2.heap.size = w1.heap.size + 1 ∧ w.heap.size ≤ w1.heap.size) := ⟨by rw [← hW2]; simp, hb1.size⟩
  clear hW2 hb1
  refine (HD.out W2 (HH.out.below HB2.out)).mono ?_
  rintro _ w3 ⟨a, c, z3, rfl, h3⟩
  have x3 := x2.below h3
  have c3 := x3.cell
  have f3 := x3.free
  have l3 := x3.lt
  have HB3 : Hid (∀ o, Below w.heap.size w (((w3.setCell ⟨w1.heap.size, 7, none⟩ (.int .i64 X.st)).setCell ⟨w1.heap.size, 8, none⟩ (.int .i64 X.lf)).alloc o)) := fun o => by
    have hs := HS2.out
    have o1 : Off (fun q => q = w1.heap.size) w3 (((w3.setCell ⟨w1.heap.size, 7, none⟩ (.int .i64 X.st)).setCell ⟨w1.heap.size, 8, none⟩ (.int .i64 X.lf)).alloc o) := Off.alloc (Off.setCell (P := fun q => q = w1.heap.size) (Off.setCell (P := fun q => q = w1.heap.size) (Off.refl _ _) (p := ⟨w1.heap.size, 7, none⟩) rfl _) (p := ⟨w1.heap.size, 8, none⟩) rfl _) o
    exact (below_then HB2.out h3).trans (o1.below (Nat.le_trans HB2.out.size h3.size) (fun k hk => by omega))
  clear x3 x2
  go_wp2_with fail
  refine (do_err (b := b) { m0 with st := X.st, lf := X.lf, un := true } 0 (.slice a X.l.length c) z3 _ ⟨_, _, _, rfl⟩).mono ?_
  rintro _ w6 ⟨z6, rfl, hz6, hf6, hb6⟩
  have HZ : Hid (w.heap.size ≤ z6 ∧ OFault w6 z6 0 281 ∧ Below w.heap.size w w6) := ⟨Nat.le_trans (HB3.out _).size hz6, hf6, below_then (HB3.out _) hb6⟩
  clear hz6 hf6 hb6 c3 f3
  go_wp2_with fail
  go_ret2
  exact ⟨z6, rfl, HZ.out.1, HZ.out.2.1, HZ.out.2.2⟩
end
end Go.Proofs.YtoijhecphgdfnaaGreatDoor
