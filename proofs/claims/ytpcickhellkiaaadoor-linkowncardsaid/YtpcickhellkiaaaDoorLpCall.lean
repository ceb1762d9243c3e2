/-
  The program's link: every call of a side.
-/
import Derived.Test.YtpcickhellkiaaaDoorLpAdd
import Derived.Test.YtpcickhellkiaaaDoorLpTake
import Derived.Test.YtpcickhellkiaaaDoorLpIdx
import Derived.Test.YtpcickhellkiaaaDoorLpHalf
namespace Go.Proofs.YtpcickhellkiaaaDoor
open Go.RowKit

section
variable {w w' : World} {lb s : Nat} {F : Nat → Prop} {x y : Dw}
/-- A refusal. -/
theorem no_any (h : Lk w lb F x y) (at_ code : Int) (hc : (code == 0) = false) : Calls Tryd.prog 31 #[.int .i64 at_, .int .i64 code] w fun e w' => ∃ b, e = .returned (.iface 88 (.pointer (some ⟨b, 0, none⟩))) ∧ Hid (EvIs w' (.iface 88 (.pointer (some ⟨b, 0, none⟩))) at_ code ∧ LQ w lb F x y s (sdL (dwS x y s)) w') :=
  (pfault_any w at_ code hc).mono fun _ _ ⟨b, e1, e2⟩ => ⟨b, e1, e2.out.1, (LQ.same h rfl).below e2.out.2⟩
theorem padd_any (h : Lk w lb F x y) (hs : s < 2) {po : Option Addr} {m c : Nat} {bs : List Int} (hb : Byts w po m bs) (h1 : 1 ≤ m) (h2 : m ≤ 8195) : Calls Tryd.prog 32 #[.pointer (some ⟨lb, s, none⟩), .slice po m c] w fun e w' => ∃ v, e = .returned v ∧ Hid (EvIs w' v 0 (putE (sdL (dwS x y s))) ∧ LQ w lb F x y s (putC (sdL (dwS x y s)) bs) w') := by
  have hl := (h.side s).len
  by_cases hf : 256 ≤ (dwS x y s).n
  · refine (padd_full h hs (po := po) (m := m) (c := c) hf).mono fun e w' ⟨b, e1, e2⟩ => ⟨_, e1, ?_, ?_⟩
    · rw [show putE (sdL (dwS x y s)) = 7 by unfold putE; rw [if_pos (by omega)]]
      exact e2.out.1
    · rw [show putC (sdL (dwS x y s)) bs = sdL (dwS x y s) by unfold putC; rw [if_pos (by omega)]]
      exact (LQ.same h rfl).below e2.out.2
  · refine (padd_ok h hs hb h1 h2 (by omega)).mono fun e w' ⟨e1, e2⟩ => ⟨_, e1, ?_, e2.out⟩
    rw [show putE (sdL (dwS x y s)) = 0 by unfold putE; rw [if_neg (by omega)]]
    exact Or.inl ⟨rfl, rfl⟩
set_option maxRecDepth 100000 in
set_option maxHeartbeats 2000000 in
theorem psend_ok (h : Lk w lb F x y) (hs : s < 2) {po : Option Addr} {m c : Nat} {bs : List Int} (hb : Byts w po m bs) : Calls Tryd.prog 11 #[.pointer (some ⟨lb, 0, none⟩), .int .i64 (s : Int), .slice po m c] w fun e w' => ∃ v, e = .returned v ∧ Hid (EvIs w' v 0 (sendE (sdL (dwS x y s)) bs) ∧ LQ w lb F x y s (sendC (sdL (dwS x y s)) bs) w') := by
  have HW := way_ok h hs
  have HN := nolen_any w po m c 8195
  have hm := hb.len
  by_cases h0 : m = 0 ∨ 8195 < m
  · have HX := no_any (s := s) h 0 4 rfl
    have eN : nlB m 8195 = true := by unfold nlB; simp; omega
    rw [eN] at HN
    rw [show sendE (sdL (dwS x y s)) bs = 4 by unfold sendE; rw [if_pos (by omega)], show sendC (sdL (dwS x y s)) bs = sdL (dwS x y s) by unfold sendC; rw [if_pos (by omega)]]
    clear h hb hm h0 eN
    go_enter Tryd.func11, Tryd.ntmps11
    go_wp2_with fail
    refine HW.mono ?_
    rintro _ w1 ⟨rfl, e1⟩
    obtain rfl : w = w1 := e1.symm
    clear e1
    go_wp2_with fail
    refine HN.mono ?_
    rintro _ w1 ⟨rfl, e1⟩
    obtain rfl : w = w1 := e1.symm
    clear e1
    go_wp2_with fail
    refine HX.mono ?_
    rintro _ w2 ⟨b, rfl, HF⟩
    go_wp2_with fail
    go_ret
    exact ⟨_, rfl, HF.out⟩
  · have HX := padd_any h hs (c := c) hb (by omega) (by omega)
    have eN : nlB m 8195 = false := by unfold nlB; simp; omega
    rw [eN] at HN
    rw [show sendE (sdL (dwS x y s)) bs = putE (sdL (dwS x y s)) by unfold sendE; rw [if_neg (by omega)], show sendC (sdL (dwS x y s)) bs = putC (sdL (dwS x y s)) bs by unfold sendC; rw [if_neg (by omega)]]
    clear h hb hm h0 eN
    go_enter Tryd.func11, Tryd.ntmps11
    go_wp2_with fail
    refine HW.mono ?_
    rintro _ w1 ⟨rfl, e1⟩
    obtain rfl : w = w1 := e1.symm
    clear e1
    go_wp2_with fail
    refine HN.mono ?_
    rintro _ w1 ⟨rfl, e1⟩
    obtain rfl : w = w1 := e1.symm
    clear e1
    go_wp2_with fail
    refine HX.mono ?_
    rintro _ w2 ⟨v, rfl, HF⟩
    go_wp2_with fail
    go_ret
    exact ⟨_, rfl, HF.out⟩
set_option maxRecDepth 100000 in
set_option maxHeartbeats 2000000 in
theorem pnoise_ok (h : Lk w lb F x y) (hs : s < 2) {po : Option Addr} {m c : Nat} {bs : List Int} (hb : Byts w po m bs) : Calls Tryd.prog 19 #[.pointer (some ⟨lb, 0, none⟩), .int .i64 (s : Int), .slice po m c] w fun e w' => ∃ v, e = .returned v ∧ Hid (EvIs w' v (noiseE (sdL (dwS x y s)) bs).1 (noiseE (sdL (dwS x y s)) bs).2 ∧ LQ w lb F x y s (noiseC (sdL (dwS x y s)) bs) w') := by
  have HW := way_ok h hs
  have HN := nolen_any w po m c 64
  have hm := hb.len
  by_cases h0 : m = 0 ∨ 64 < m
  · have HX := no_any (s := s) h 0 4 rfl
    have eN : nlB m 64 = true := by unfold nlB; simp; omega
    rw [eN] at HN
    rw [show noiseE (sdL (dwS x y s)) bs = (0, 4) by unfold noiseE; rw [if_pos (by omega)], show noiseC (sdL (dwS x y s)) bs = sdL (dwS x y s) by unfold noiseC; rw [if_pos (by omega)]]
    clear h hb hm h0 eN
    go_enter Tryd.func19, Tryd.ntmps19
    go_wp2_with fail
    refine HW.mono ?_
    rintro _ w1 ⟨rfl, e1⟩
    obtain rfl : w = w1 := e1.symm
    clear e1
    go_wp2_with fail
    refine HN.mono ?_
    rintro _ w1 ⟨rfl, e1⟩
    obtain rfl : w = w1 := e1.symm
    clear e1
    go_wp2_with fail
    refine HX.mono ?_
    rintro _ w2 ⟨b, rfl, HF⟩
    go_wp2_with fail
    go_ret
    exact ⟨_, rfl, HF.out⟩
  · have HI := index_any (c := c) hb (by omega)
    have eN : nlB m 64 = false := by unfold nlB; simp; omega
    rw [eN] at HN
    by_cases hf : ∃ i, bs.findIdx? frB = some i
    · obtain ⟨i, hi⟩ := hf
      have hil : i < m := by
        have := (List.findIdx?_eq_some_iff_getElem.1 hi).1
        omega
      have hi6 : i < 64 := by omega
      have eI : frI bs = (i : Int) := by unfold frI; rw [hi]
      rw [eI] at HI
      have HX := no_any (s := s) h (i : Int) 80 rfl
      rw [show noiseE (sdL (dwS x y s)) bs = ((i : Int), 80) by unfold noiseE; rw [if_neg (by omega), hi], show noiseC (sdL (dwS x y s)) bs = sdL (dwS x y s) by unfold noiseC; rw [if_neg (by omega), hi]]
      clear h hb hm h0 eN eI hi hil
      have g1 : (i : Int) ≥ 0 := by omega
      go_enter Tryd.func19, Tryd.ntmps19
      go_wp2_with fail
      refine HW.mono ?_
      rintro _ w1 ⟨rfl, e1⟩
      obtain rfl : w = w1 := e1.symm
      clear e1
      go_wp2_with fail
      refine HN.mono ?_
      rintro _ w1 ⟨rfl, e1⟩
      obtain rfl : w = w1 := e1.symm
      clear e1
      go_wp2_with fail
      refine HI.mono ?_
      rintro _ w1 ⟨rfl, e1⟩
      obtain rfl : w = w1 := e1.symm
      clear e1
      go_wp2_with fail
      refine HX.mono ?_
      rintro _ w2 ⟨b, rfl, HF⟩
      go_wp2_with fail
      go_ret
      exact ⟨_, rfl, HF.out⟩
    · have hi : bs.findIdx? frB = none := by
        cases e : bs.findIdx? frB with
        | none => rfl
        | some i => exact (hf ⟨i, e⟩).elim
      have eI : frI bs = -1 := by unfold frI; rw [hi]
      rw [eI] at HI
      have HX := padd_any h hs (c := c) hb (by omega) (by omega)
      rw [show noiseE (sdL (dwS x y s)) bs = (0, putE (sdL (dwS x y s))) by unfold noiseE; rw [if_neg (by omega), hi], show noiseC (sdL (dwS x y s)) bs = putC (sdL (dwS x y s)) bs by unfold noiseC; rw [if_neg (by omega), hi]]
      clear h hb hm h0 eN eI hi hf
      go_enter Tryd.func19, Tryd.ntmps19
      go_wp2_with fail
      refine HW.mono ?_
      rintro _ w1 ⟨rfl, e1⟩
      obtain rfl : w = w1 := e1.symm
      clear e1
      go_wp2_with fail
      refine HN.mono ?_
      rintro _ w1 ⟨rfl, e1⟩
      obtain rfl : w = w1 := e1.symm
      clear e1
      go_wp2_with fail
      refine HI.mono ?_
      rintro _ w1 ⟨rfl, e1⟩
      obtain rfl : w = w1 := e1.symm
      clear e1
      go_wp2_with fail
      refine HX.mono ?_
      rintro _ w2 ⟨v, rfl, HF⟩
      go_wp2_with fail
      go_ret
      exact ⟨_, rfl, HF.out⟩
theorem has_at {c : Sd} {i n : Int} (h : hasB c i n = true) : isAt c i = true ∧ 0 ≤ n ∧ n ≤ (pcAt c i).length := by
  unfold hasB at h
  simp only [Bool.and_eq_true, decide_eq_true_eq] at h
  exact ⟨h.1, h.2.1, h.2.2⟩
set_option maxRecDepth 100000 in
set_option maxHeartbeats 2000000 in
theorem pdrop_ok (h : Lk w lb F x y) (hs : s < 2) (i : Int) : Calls Tryd.prog 22 #[.pointer (some ⟨lb, 0, none⟩), .int .i64 (s : Int), .int .i64 i] w fun e w' => ∃ v, e = .returned v ∧ Hid (EvIs w' v 0 (dropE (sdL (dwS x y s)) i) ∧ LQ w lb F x y s (dropC (sdL (dwS x y s)) i) w') := by
  have HW := way_ok h hs
  have HH := has_any h hs i 0
  have hl := (h.side s).len
  by_cases hi : isAt (sdL (dwS x y s)) i = true
  · have hi' := isAt_iff.1 hi
    rw [hl.2.1] at hi'
    obtain ⟨k, rfl⟩ : ∃ k : Nat, i = k := ⟨i.toNat, by omega⟩
    have HX := prem_ok h hs (k := k) (by omega)
    have eB : hasB (sdL (dwS x y s)) k 0 = true := by unfold hasB; rw [hi]; simp
    rw [eB] at HH
    rw [show dropE (sdL (dwS x y s)) k = 0 by unfold dropE; rw [if_pos hi], show dropC (sdL (dwS x y s)) k = goneC (sdL (dwS x y s)) k by unfold dropC; rw [if_pos hi]; rfl]
    clear h hl hi hi' eB
    go_enter Tryd.func22, Tryd.ntmps22
    go_wp2_with fail
    refine HW.mono ?_
    rintro _ w1 ⟨rfl, e1⟩
    obtain rfl : w = w1 := e1.symm
    clear e1
    go_wp2_with fail
    refine HH.mono ?_
    rintro _ w1 ⟨rfl, e1⟩
    obtain rfl : w = w1 := e1.symm
    clear e1
    go_wp2_with fail
    refine HX.mono ?_
    rintro _ w2 ⟨rfl, HF⟩
    go_wp2_with fail
    go_ret
    exact ⟨_, rfl, Or.inl ⟨rfl, rfl⟩, HF.out⟩
  · have HX := no_any (s := s) h 0 2 rfl
    have eB : hasB (sdL (dwS x y s)) i 0 = false := by unfold hasB; rw [Bool.not_eq_true] at hi; rw [hi]; rfl
    rw [eB] at HH
    rw [show dropE (sdL (dwS x y s)) i = 2 by unfold dropE; rw [if_neg hi], show dropC (sdL (dwS x y s)) i = sdL (dwS x y s) by unfold dropC; rw [if_neg hi]]
    clear h hl hi eB
    go_enter Tryd.func22, Tryd.ntmps22
    go_wp2_with fail
    refine HW.mono ?_
    rintro _ w1 ⟨rfl, e1⟩
    obtain rfl : w = w1 := e1.symm
    clear e1
    go_wp2_with fail
    refine HH.mono ?_
    rintro _ w1 ⟨rfl, e1⟩
    obtain rfl : w = w1 := e1.symm
    clear e1
    go_wp2_with fail
    refine HX.mono ?_
    rintro _ w2 ⟨b, rfl, HF⟩
    go_wp2_with fail
    go_ret
    exact ⟨_, rfl, HF.out⟩
set_option maxRecDepth 100000 in
set_option maxHeartbeats 2000000 in
theorem phalfs_ok (h : Lk w lb F x y) (hs : s < 2) : Calls Tryd.prog 14 #[.pointer (some ⟨lb, 0, none⟩), .int .i64 (s : Int)] w fun e w' => e = .returned (.int .i64 (sdL (dwS x y s)).2) ∧ Below w.heap.size w w' := by
  have HW := way_ok h hs
  have HH := phalf_any h hs
  rw [show (sdL (dwS x y s)).2 = (dwS x y s).h from rfl]
  clear h
  go_enter Tryd.func14, Tryd.ntmps14
  go_wp2_with fail
  refine HW.mono ?_
  rintro _ w1 ⟨rfl, e1⟩
  obtain rfl : w = w1 := e1.symm
  clear e1
  go_wp2_with fail
  refine HH.mono ?_
  rintro _ w2 ⟨rfl, hb⟩
  have HB : Hid (Below w.heap.size w w2) := hb
  clear hb
  go_wp2_with fail
  go_ret
  exact ⟨rfl, HB.out⟩
set_option maxRecDepth 100000 in
set_option maxHeartbeats 2000000 in
theorem plen_ok (h : Lk w lb F x y) (hs : s < 2) : Calls Tryd.prog 17 #[.pointer (some ⟨lb, 0, none⟩), .int .i64 (s : Int)] w fun e w' => e = .returned (.int .i64 ((sdL (dwS x y s)).1.length : Int)) ∧ w' = w := by
  have HW := way_ok h hs
  have d0 := (h.cell hs).1
  have hl := (h.side s).len
  rw [hl.2.1]
  clear h hl
  generalize (dwS x y s).n = zn at *
  generalize (dwS x y s).c = zc at *
  generalize (dwS x y s).a = za at *
  go_enter Tryd.func17, Tryd.ntmps17
  go_wp2_with fail
  refine HW.mono ?_
  rintro _ w1 ⟨rfl, e1⟩
  obtain rfl : w = w1 := e1.symm
  clear e1
  go_wp2_with fail
  go_ret
  exact ⟨rfl, rfl⟩
set_option maxRecDepth 100000 in
set_option maxHeartbeats 2000000 in
theorem pclips_ok (h : Lk w lb F x y) (hs : s < 2) (i n : Int) : Calls Tryd.prog 23 #[.pointer (some ⟨lb, 0, none⟩), .int .i64 (s : Int), .int .i64 i, .int .i64 n] w fun e w' => ∃ v, e = .returned v ∧ Hid (EvIs w' v 0 (clipE (sdL (dwS x y s)) i n) ∧ LQ w lb F x y s (clipC (sdL (dwS x y s)) i n) w') := by
  have HW := way_ok h hs
  have HH := has_any h hs i n
  have hl := (h.side s).len
  by_cases hc : isAt (sdL (dwS x y s)) i = true ∧ 1 ≤ n ∧ n ≤ (pcAt (sdL (dwS x y s)) i).length
  · have hi' := isAt_iff.1 hc.1
    rw [hl.2.1] at hi'
    obtain ⟨k, rfl⟩ : ∃ k : Nat, i = k := ⟨i.toNat, by omega⟩
    obtain ⟨m, rfl⟩ : ∃ m : Nat, n = m := ⟨n.toNat, by omega⟩
    have HX := pclip_ok h hs (k := k) (n := m) (by omega) (by omega) (by omega)
    have eB : hasB (sdL (dwS x y s)) k m = true := by unfold hasB; rw [hc.1]; simp; omega
    rw [eB] at HH
    rw [show clipE (sdL (dwS x y s)) k m = 0 by unfold clipE; rw [if_pos hc]]
    have g1 : ((m : Int) == 0) = false := by simp; omega
    clear h hl hc hi' eB
    go_enter Tryd.func23, Tryd.ntmps23
    go_wp2_with fail
    refine HW.mono ?_
    rintro _ w1 ⟨rfl, e1⟩
    obtain rfl : w = w1 := e1.symm
    clear e1
    go_wp2_with fail
    refine HH.mono ?_
    rintro _ w1 ⟨rfl, e1⟩
    obtain rfl : w = w1 := e1.symm
    clear e1
    go_wp2_with fail
    refine HX.mono ?_
    rintro _ w2 ⟨rfl, HF⟩
    go_wp2_with fail
    go_ret
    exact ⟨_, rfl, Or.inl ⟨rfl, rfl⟩, HF.out⟩
  · have HX := no_any (s := s) h 0 2 rfl
    rw [show clipE (sdL (dwS x y s)) i n = 2 by unfold clipE; rw [if_neg hc], show clipC (sdL (dwS x y s)) i n = sdL (dwS x y s) by unfold clipC; rw [if_neg hc]]
    by_cases hB : hasB (sdL (dwS x y s)) i n = true
    · obtain rfl : n = 0 := by
        have := has_at hB
        by_cases g : n = 0
        · exact g
        · exact (hc ⟨this.1, by omega, this.2.2⟩).elim
      rw [hB] at HH
      clear h hl hc hB
      go_enter Tryd.func23, Tryd.ntmps23
      go_wp2_with fail
      refine HW.mono ?_
      rintro _ w1 ⟨rfl, e1⟩
      obtain rfl : w = w1 := e1.symm
      clear e1
      go_wp2_with fail
      refine HH.mono ?_
      rintro _ w1 ⟨rfl, e1⟩
      obtain rfl : w = w1 := e1.symm
      clear e1
      go_wp2_with fail
      refine HX.mono ?_
      rintro _ w2 ⟨b, rfl, HF⟩
      go_wp2_with fail
      go_ret
      exact ⟨_, rfl, HF.out⟩
    · rw [Bool.not_eq_true] at hB
      rw [hB] at HH
      clear h hl hc hB
      go_enter Tryd.func23, Tryd.ntmps23
      go_wp2_with fail
      refine HW.mono ?_
      rintro _ w1 ⟨rfl, e1⟩
      obtain rfl : w = w1 := e1.symm
      clear e1
      go_wp2_with fail
      refine HH.mono ?_
      rintro _ w1 ⟨rfl, e1⟩
      obtain rfl : w = w1 := e1.symm
      clear e1
      go_wp2_with fail
      refine HX.mono ?_
      rintro _ w2 ⟨b, rfl, HF⟩
      go_wp2_with fail
      go_ret
      exact ⟨_, rfl, HF.out⟩
end
end Go.Proofs.YtpcickhellkiaaaDoor
