/-
  Add; Give.
-/
import Derived.Test.YtigmgbnfiiobeaaDoorOxAdd
import Derived.Test.YtigmgbnfiiobeaaDoorOxNext2
namespace Go.Proofs.YtigmgbnfiiobeaaDoor
open Go.RowKit

/-- Why Add refuses. -/
def addC (sq : Bool) (ms : List Msg) (m : Msg) : Int := if ms.length = 32 then 7 else refS sq ms m
/-- A fault told. -/
def Fl (w : World) (at_ code : Int) (e : Ending) (w' : World) : Prop := ∃ z, e = .returned (.iface 91 (.pointer (some ⟨z, 0, none⟩))) ∧ w.heap.size ≤ z ∧ OFault w' z at_ code ∧ Below w.heap.size w w'
theorem refS_zero {sq : Bool} {ms : List Msg} {m : Msg} (h : refS sq ms m = 0) : fi m.ct ms = none ∧ m.tn ≤ 8192 := by
  unfold refS at h
  split at h
  · omega
  split at h
  · omega
  rename_i h1 h2
  split at h
  · omega
  rename_i h3
  refine ⟨by simpa using h2, ?_⟩
  simp only [Bool.or_eq_true, decide_eq_true_eq] at h3
  omega
section
variable {w w' : World} {b kb : Nat} {v : Value} {sq : Bool} {tr : Int} {ms : List Msg}
set_option maxRecDepth 100000 in
set_option maxHeartbeats 4000000 in
theorem add_yes {m : Msg} (h : Bx w b kb v sq tr ms) (hV : PVc w) (hnu : m.nu = 0) (hnt : m.nt = false) (hst : m.st = 0) (hlf : m.lf = 0) (hun : m.un = false) (hb : Byts w m.tp m.tn m.tx) (hpo : m.tp = none → m.tc = 0) (hc : addC sq ms m = 0) :
    Calls Tryd.prog 12 #[.pointer (some ⟨b, 0, none⟩), .string m.ct, .slice m.tp m.tn m.tc, .agg #[.bool m.e, .int .i64 m.a, .int .i64 m.p]] w fun e w' => e = .returned .nilIface ∧ ∃ a c, BxQ w b kb v sq tr (ms ++ [m.wi a c]) w' := by
  have h32 : ms.length < 32 := by
    have := h.2.1.2.2
    unfold addC at hc
    split at hc
    · omega
    · omega
  have hr0 : refS sq ms m = 0 := by unfold addC at hc; rwa [if_neg (by omega)] at hc
  obtain ⟨hfn, htn⟩ := refS_zero hr0
  have hb1 : Below w.heap.size w (w.alloc (.cells #[.bool m.e, .int .i64 m.a, .int .i64 m.p] 37)) := (Below.refl _ _).alloc (Nat.le_refl _) _
  have hb2 : Below w.heap.size w ((w.alloc (.cells #[.bool m.e, .int .i64 m.a, .int .i64 m.p] 37)).alloc (.cells #[.string m.ct, .slice m.tp m.tn m.tc, .bool m.e, .int .i64 m.a, .int .i64 m.p, .int .i64 0, .bool false] 45)) := hb1.alloc (by simp) _
  have hmk := made_yes (h.below hb1)
  have hct := count_any (h.below hb1).2.1
  have hrf := refuse_any (h.below hb2) m (hV.below hb2)
  have hx2 := Box.new (w.alloc (.cells #[.bool m.e, .int .i64 m.a, .int .i64 m.p] 37)) #[.string m.ct, .slice m.tp m.tn m.tc, .bool m.e, .int .i64 m.a, .int .i64 m.p, .int .i64 0, .bool false] 45
  rw [World.size_alloc] at hx2
  rw [hr0, hnu, hnt] at hrf
  have HH : Hid (∀ z, Below w.heap.size w z → Calls Tryd.prog 19 #[.pointer (some ⟨b, 0, none⟩), .agg #[.string m.ct, .slice m.tp m.tn m.tc, .bool m.e, .int .i64 m.a, .int .i64 m.p, .int .i64 0, .bool false]] z fun e z' => e = .returned (.tuple #[]) ∧ Hid (∃ a c, BxQ w b kb v sq tr (ms ++ [m.wi a c]) z')) := fun z hz => by
    have := bput_any (m := m) (h.below hz) hfn h32 hst hlf hun (hb.below hz) hpo htn
    rw [hnu, hnt] at this
    refine this.mono fun e z' ⟨h1, a, c, v', q1, q2, q3⟩ => ⟨h1, a, c, v', q1, (Off.of_below hz).trans q2, fun q e => (q3 q e).imp id fun g => Nat.le_trans hz.size g⟩
  have HB2 : Hid (Below w.heap.size w ((w.alloc (.cells #[.bool m.e, .int .i64 m.a, .int .i64 m.p] 37)).alloc (.cells #[.string m.ct, .slice m.tp m.tn m.tc, .bool m.e, .int .i64 m.a, .int .i64 m.p, .int .i64 0, .bool false] 45))) := hb2
  have c0 := hcell (h.below hb1).1 0
  have c0' := hcell h.1 0
  have lb := h.lt
  obtain ⟨n, hn⟩ : ∃ n, ms.length = n := ⟨_, rfl⟩
  rw [hn] at hct h32
  have g32 : ((n : Int) == 32) = false := by rw [beq_eq_false_iff_ne]; omega
  clear h hV hnu hnt hst hlf hun hb hpo hc hr0 hfn htn hb1 hb2 hn h32
  go_enter Tryd.func12, Tryd.ntmps12
  go_wp2_with fail
  refine hmk.mono ?_
  rintro _ w9 ⟨rfl, h9⟩
  subst w9
  clear hmk
  go_wp2_with fail
  refine hct.mono ?_
  rintro _ w9 ⟨rfl, h9⟩
  subst w9
  clear hct
  go_wp2_with fail
  refine hrf.mono ?_
  rintro _ w3 ⟨rfl, hb3⟩
  have HB3 : Hid (Below w.heap.size w w3) := below_then HB2.out hb3
  have cx := (hx2.below hb3).cell
  clear hrf hb3 c0 c0' lb hx2
  go_wp2_with fail
  refine (HH.out _ HB3.out).mono ?_
  rintro _ w4 ⟨rfl, h4⟩
  clear cx
  go_wp2_with fail
  go_ret
  exact ⟨rfl, h4.out⟩
set_option maxRecDepth 100000 in
set_option maxHeartbeats 4000000 in
theorem add_no {m : Msg} (h : Bx w b kb v sq tr ms) (hV : PVc w) (hnu : m.nu = 0) (hnt : m.nt = false) (hc : addC sq ms m ≠ 0) :
    Calls Tryd.prog 12 #[.pointer (some ⟨b, 0, none⟩), .string m.ct, .slice m.tp m.tn m.tc, .agg #[.bool m.e, .int .i64 m.a, .int .i64 m.p]] w (Fl w 0 (addC sq ms m)) := by
  have hb1 : Below w.heap.size w (w.alloc (.cells #[.bool m.e, .int .i64 m.a, .int .i64 m.p] 37)) := (Below.refl _ _).alloc (Nat.le_refl _) _
  have hmk := made_yes (h.below hb1)
  have hct := count_any (h.below hb1).2.1
  have c0 := hcell (h.below hb1).1 0
  have c0' := hcell h.1 0
  have lb := h.lt
  have HB1 : Hid (Below w.heap.size w (w.alloc (.cells #[.bool m.e, .int .i64 m.a, .int .i64 m.p] 37))) := hb1
  obtain ⟨n, hn⟩ : ∃ n, ms.length = n := ⟨_, rfl⟩
  rw [hn] at hct
  by_cases h32 : n = 32
  · have e : addC sq ms m = 7 := by unfold addC; rw [hn, if_pos h32]
    rw [e]
    subst h32
    clear h hV hnu hnt hc hb1 hn e
    go_enter Tryd.func12, Tryd.ntmps12
    go_wp2_with fail
    refine hmk.mono ?_
    rintro _ w9 ⟨rfl, h9⟩
    subst w9
    clear hmk
    go_wp2_with fail
    refine hct.mono ?_
    rintro _ w9 ⟨rfl, h9⟩
    subst w9
    clear hct
    go_wp2_with fail
    refine (fault_any _ _ _).mono ?_
    rintro _ w2 ⟨rfl, hf2, hb2⟩
    have HE : Hid (OFault w2 (w.heap.size + 1) 0 7 ∧ Below w.heap.size w w2) := ⟨by simpa using hf2, below_then HB1.out hb2⟩
    clear hf2 hb2
    go_wp2_with fail
    go_ret
    exact ⟨w.heap.size + 1, rfl, by omega, HE.out.1, HE.out.2⟩
  · have e : addC sq ms m = refS sq ms m := by unfold addC; rw [hn, if_neg h32]
    rw [e] at hc ⊢
    have hb2 : Below w.heap.size w ((w.alloc (.cells #[.bool m.e, .int .i64 m.a, .int .i64 m.p] 37)).alloc (.cells #[.string m.ct, .slice m.tp m.tn m.tc, .bool m.e, .int .i64 m.a, .int .i64 m.p, .int .i64 0, .bool false] 45)) := hb1.alloc (by simp) _
    have hrf := refuse_any (h.below hb2) m (hV.below hb2)
    rw [hnu, hnt] at hrf
    have HB2 : Hid (Below w.heap.size w ((w.alloc (.cells #[.bool m.e, .int .i64 m.a, .int .i64 m.p] 37)).alloc (.cells #[.string m.ct, .slice m.tp m.tn m.tc, .bool m.e, .int .i64 m.a, .int .i64 m.p, .int .i64 0, .bool false] 45))) := hb2
    obtain ⟨cd, hcd⟩ : ∃ cd, refS sq ms m = cd := ⟨_, rfl⟩
    rw [hcd] at hc hrf ⊢
    have g32 : ((n : Int) == 32) = false := by rw [beq_eq_false_iff_ne]; omega
    have gc : (cd != 0) = true := by simpa using hc
    clear h hV hnu hnt hc hb1 hb2 hn e h32 hcd
    go_enter Tryd.func12, Tryd.ntmps12
    go_wp2_with fail
    refine hmk.mono ?_
    rintro _ w9 ⟨rfl, h9⟩
    subst w9
    clear hmk
    go_wp2_with fail
    refine hct.mono ?_
    rintro _ w9 ⟨rfl, h9⟩
    subst w9
    clear hct
    go_wp2_with fail
    refine hrf.mono ?_
    rintro _ w3 ⟨rfl, hb3⟩
    have HB3 : Hid (Below w.heap.size w w3) := below_then HB2.out hb3
    clear hrf hb3 c0 c0' lb
    go_wp2_with fail
    refine (fault_any _ _ _).mono ?_
    rintro _ w4 ⟨rfl, hf2, hb2⟩
    have HE : Hid (OFault w4 w3.heap.size 0 cd ∧ Below w.heap.size w w4) := ⟨hf2, below_then HB3.out hb2⟩
    clear hf2 hb2
    go_wp2_with fail
    go_ret
    exact ⟨w3.heap.size, rfl, HB3.out.size, HE.out.1, HE.out.2⟩
end
end Go.Proofs.YtigmgbnfiiobeaaDoor
