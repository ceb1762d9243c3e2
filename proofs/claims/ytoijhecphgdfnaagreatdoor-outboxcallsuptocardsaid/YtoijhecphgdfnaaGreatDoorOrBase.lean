import Derived.Test.YtoijhecphgdfnaaGreatDoorOxOpenM
import Derived.Test.YtoijhecphgdfnaaGreatDoorOxDue
import Derived.Test.YtoijhecphgdfnaaGreatDoorOxOnceS
import Derived.Test.YtoijhecphgdfnaaGreatDoorDcOpen
import Derived.Deep.DeepCutAuto
/-
  Load of any list.
-/
namespace Go.Proofs.YtoijhecphgdfnaaGreatDoor
open Go.RowKit

set_option maxRecDepth 100000 in
set_option maxHeartbeats 4000000 in
theorem load_any (sq : Bool) (tr : Int) (ao : Option Addr) (cap : Nat) (xs : List Msg) (w : World) (hV : PVc w) (ho : Outs w ao xs) (hp : ∀ x ∈ xs, Plain x) (hl : xs.length ≤ 140737488355328) :
    Calls Tryz.prog 11 #[.slice ao xs.length cap, .bool sq, .int .i64 tr] w (LdQ w sq tr xs) := by
  obtain ⟨n, hn⟩ : ∃ n, xs.length = n := ⟨_, rfl⟩
  have HN : Hid (xs.length = n) := hn
  rw [hn] at hl ⊢
  clear hn
  by_cases h0 : tr < 0
  · have HG : Hid (¬ Good sq tr xs) := fun g => by have := g.t0; omega
    clear ho hp hV
    go_enter Tryz.func11, Tryz.ntmps11
    go_wp2_with fail
    refine (fault_any _ _ _).mono ?_
    rintro _ w2 ⟨rfl, hf2, hb2⟩
    have HE : Hid (Below w.heap.size w w2) := hb2
    clear hf2 hb2
    go_wp2_with fail
    go_ret2
    exact Or.inl ⟨⟨_, rfl⟩, HG.out, HE.out⟩
  by_cases h1 : tr > 16
  · have HG : Hid (¬ Good sq tr xs) := fun g => by have := g.t1; omega
    clear ho hp hV
    go_enter Tryz.func11, Tryz.ntmps11
    go_wp2_with fail
    refine (fault_any _ _ _).mono ?_
    rintro _ w2 ⟨rfl, hf2, hb2⟩
    have HE : Hid (Below w.heap.size w w2) := hb2
    clear hf2 hb2
    go_wp2_with fail
    go_ret2
    exact Or.inl ⟨⟨_, rfl⟩, HG.out, HE.out⟩
  by_cases h2 : n > 32
  · have g2 : (n : Int) > 32 := by omega
    have HG : Hid (¬ Good sq tr xs) := fun g => by have := g.len; have := HN.out; omega
    clear ho hp hV h2
    go_enter Tryz.func11, Tryz.ntmps11
    go_wp2_with fail
    refine (fault_any _ _ _).mono ?_
    rintro _ w2 ⟨rfl, hf2, hb2⟩
    have HE : Hid (Below w.heap.size w w2) := hb2
    clear hf2 hb2
    go_wp2_with fail
    go_ret2
    exact Or.inl ⟨⟨_, rfl⟩, HG.out, HE.out⟩
  have g2 : ¬ (n : Int) > 32 := by omega
  have HH : Hid (PVc w ∧ Outs w ao xs ∧ (∀ x ∈ xs, Plain x) ∧ 0 ≤ tr ∧ tr ≤ 16 ∧ n ≤ 32) := ⟨hV, ho, hp, by omega, by omega, by omega⟩
  have HS : Hid (LdI w (w.heap.size + 1) w.heap.size sq tr xs 0 ((w.alloc (.cells #[.func (.func 43) #[] #[], .slice none 0 0] 111)).alloc (.cells #[.pointer (some ⟨w.heap.size, 0, none⟩), .bool sq, .int .i64 tr] 113))) := ld_start w sq tr xs
  clear hV ho hp h2
  go_enter Tryz.func11, Tryz.ntmps11
  go_wp2_with fail
  go_loopw [33] (fun t wx => ∃ i : Nat, i ≤ n ∧ t = .int .i64 i ∧ Hid (LdI w (w.heap.size + 1) w.heap.size sq tr xs i wx)) (fun t _ => n - (intOf t).toNat)
  case atStart => exact ⟨0, Nat.zero_le _, rfl, HS⟩
  case round =>
    obtain ⟨i, hi, rfl, HR⟩ := hrel
    clear HS
    by_cases hlt : i < n
    · have hlt1 : (i : Int) < n := by omega
      obtain ⟨x, hx⟩ : ∃ x, xs[i]? = some x := ⟨_, List.getElem?_eq_getElem (by rw [HN.out]; exact hlt)⟩
      obtain ⟨v, ms, L, hW⟩ := HR.out.ex
      obtain ⟨pb, off, rfl, hat⟩ := HH.out.2.1 i x hx
      have hatr := hat.below L.bel
      have f0 := hatr.c0
      have f1 := hatr.c1
      have f2 := hatr.c2
      have f3 := hatr.c3
      have f4 := hatr.c4
      have f5 := hatr.c5
      have f6 := hatr.c6
      have lp := hatr.lt
      have HX : Hid (xs[i]? = some x ∧ Li w wr (w.heap.size + 1) w.heap.size v sq tr ms ∧ Wis ms (xs.take i) ∧ Byts wr x.tp x.tn x.tx ∧ (x.tp = none → x.tc = 0)) := ⟨hx, L, hW, hatr.p, hatr.q⟩
      have HC : Hid (refS sq ms x = refS sq (xs.take i) x) := refS_wis hW x
      clear hx L hW hat hatr
      have HV : Hid (Below wr.heap.size wr (wr.alloc (.cells #[.string x.ct, .slice x.tp x.tn x.tc, .bool x.e, .int .i64 x.a, .int .i64 x.p, .int .i64 x.nu, .bool x.nt] 58)) ∧ Box (wr.alloc (.cells #[.string x.ct, .slice x.tp x.tn x.tc, .bool x.e, .int .i64 x.a, .int .i64 x.p, .int .i64 x.nu, .bool x.nt] 58)) wr.heap.size #[.string x.ct, .slice x.tp x.tn x.tc, .bool x.e, .int .i64 x.a, .int .i64 x.p, .int .i64 x.nu, .bool x.nt]) := ⟨(Below.refl _ _).alloc (Nat.le_refl _) _, Box.new wr #[.string x.ct, .slice x.tp x.tn x.tc, .bool x.e, .int .i64 x.a, .int .i64 x.p, .int .i64 x.nu, .bool x.nt] 58⟩
      have hrf := refuse_any (HX.out.2.1.below HV.out.1).bx x (HH.out.1.below (HX.out.2.1.below HV.out.1).bel)
      by_cases hz : refS sq ms x = 0
      · rw [hz] at hrf
        have HZ : Hid (refS sq ms x = 0) := hz
        clear hz
        go_wp2_with fail
        refine hrf.mono ?_
        rintro _ w2 ⟨rfl, hb2⟩
        have cx := (HV.out.2.below hb2).cell
        have L2 := HX.out.2.1.below (below_then HV.out.1 hb2)
        have hz2 := refS_zero HZ.out
        have hpt := bput_any (m := x) L2.bx hz2.1 (by have h9 := HX.out.2.2.1.1; rw [List.length_take, HN.out] at h9; have := HH.out.2.2.2.2.2; omega) (HH.out.2.2.1 x (List.mem_of_getElem? HX.out.1)).1 (HH.out.2.2.1 x (List.mem_of_getElem? HX.out.1)).2.1 (HH.out.2.2.1 x (List.mem_of_getElem? HX.out.1)).2.2 (HX.out.2.2.2.1.below (below_then HV.out.1 hb2)) HX.out.2.2.2.2 hz2.2
        have HL2 : Hid (Li w w2 (w.heap.size + 1) w.heap.size v sq tr ms) := L2
        clear hrf hb2 L2 hz2 f0 f1 f2 f3 f4 f5 f6 lp
        go_wp2_with fail
        refine hpt.mono ?_
        rintro _ w3 ⟨rfl, a, c, hq⟩
        have HI : Hid (LdI w (w.heap.size + 1) w.heap.size sq tr xs (i + 1) w3) := LdI.next HR.out.ref HL2.out HX.out.2.2.1 HX.out.1 (by rw [← HC.out]; exact HZ.out) hq
        clear hpt cx hq
        go_wp2_with fail
        go_roundw
        case rel => exact ⟨i + 1, hlt, by go_num, HI⟩
        case measure => simp [intOf]; omega
      · have HZ : Hid (¬ refS sq ms x = 0) := hz
        obtain ⟨cd, hcd⟩ : ∃ cd, refS sq ms x = cd := ⟨_, rfl⟩
        rw [hcd] at hrf hz
        have hne : (cd != 0) = true := by simpa using hz
        clear hz hcd
        go_wp2_with fail
        refine hrf.mono ?_
        rintro _ w2 ⟨rfl, hb2⟩
        have HB2 : Hid (Below w.heap.size w w2) := (HX.out.2.1.below (below_then HV.out.1 hb2)).bel
        clear hrf hb2 f0 f1 f2 f3 f4 f5 f6 lp
        go_wp2_with fail
        refine (fault_any _ _ _).mono ?_
        rintro _ w3 ⟨rfl, hf3, hb3⟩
        have HB3 : Hid (Below w.heap.size w w3) := below_then HB2.out hb3
        clear hf3 hb3
        go_wp2_with fail
        go_ret2
        refine Or.inl ⟨⟨_, rfl⟩, fun g => ?_, HB3.out⟩
        exact HZ.out (HC.out.trans (g.ref i x HX.out.1))
    · have hlt1 : ¬ (i : Int) < n := by omega
      obtain rfl : i = n := by omega
      go_wp2_with fail
      go_ret2
      obtain ⟨v, ms, L, hW⟩ := HR.out.ex
      rw [List.take_of_length_le (by rw [HN.out]; exact Nat.le_refl _)] at hW
      refine Or.inr ⟨_, _, v, ms, rfl, L, hW, HH.out.2.2.2.1, HH.out.2.2.2.2.1, by rw [HN.out]; exact HH.out.2.2.2.2.2, fun j y hy => HR.out.ref j y ?_ hy⟩
      have := (List.getElem?_eq_some_iff.1 hy).1
      have := HN.out
      omega
end Go.Proofs.YtoijhecphgdfnaaGreatDoor

/-
  A text copied by append, whatever its length.
-/
namespace Go.Proofs.YtoijhecphgdfnaaGreatDoor
open Go.RowKit

theorem run_bapp {w : World} {B n : Nat} {po : Option Addr} {m c : Nat} {bs : List Int} (h : BRow w B (.slice (some ⟨n, 0, none⟩) 0 0) []) (hb : Byts w po m bs) (hl : m ≤ 140737488355328) (hB : B ≤ w.heap.size) :
    ∃ a' c' w', (Builtin.append_ #[43, 43] 43 #[.slice (some ⟨n, 0, none⟩) 0 0, .slice po m c]).run Tryz.prog w = .ok (.slice a' m c') w' ∧ BRow w' B (.slice a' m c') bs ∧ Off (fun q => q = n) w w' := by
  obtain ⟨i, z, hi, hz, hzs, hs, hby⟩ := celB
  have hm := hb.len
  have hbn : ((0 + bs.length) + (0 + bs.length) / 4 + 192) * 1 ≤ 281474976710656 := by omega
  have hh : w.ownsRow B 5 1 (.slice (some ⟨n, 0, none⟩) 0 0) 0 ([] : List Value) := h
  obtain ⟨v', w', hr, r, o, l⟩ := run_append_k (P := Tryz.prog) w B 43 43 5 i z 1 1 Tryz.underlying43 hi hz hs hby hzs (.slice (some ⟨n, 0, none⟩) 0 0) 0 [] hh po bs.length c (bs.flatMap encB) (flat_len encB_len bs) (fun e => by
    rcases Nat.eq_zero_or_pos m with g | g
    · omega
    · obtain ⟨_, _, e', _⟩ := hb.cell 0 g
      rw [e] at e'; cases e') (fun a' ha j u hu => by
    obtain ⟨hj, rfl⟩ := flatB bs hu
    obtain ⟨b, o, e, _, hc⟩ := hb.cell j (by omega)
    rw [ha] at e
    obtain rfl : a' = ⟨b, o, none⟩ := by simpa using e
    rw [Addr.add_lit]; exact hc) (fun u hu => by
    obtain ⟨x, _, hx⟩ := List.mem_flatMap.1 hu
    exact encB_one x u hx) (by unfold maxLen; omega) hbn hB
  have hR : BRow w' B v' bs := by
    unfold BRow ERow
    rw [Nat.zero_add, List.nil_append] at r
    exact r
  obtain ⟨a', c', e1, _⟩ := ERow.isSlice hR
  rw [hm] at e1 hr
  subst e1
  exact ⟨a', c', w', hr, hR, o.mono fun k e => by simp [Value.ownBlock] at e; exact e.symm⟩
/-- A copy by append, as a step of a region that draws. -/
theorem step_copy {w0 w : World} {ops : Array Oper} {o : Oper} {a : Act} {K : Act → World → Prop} {Q : Exit → Act → World → Prop} {E : Prop} {n : Nat} {po : Option Addr} {m c : Nat} {bs : List Int} (hgd : o.guard = none) (s x : Operand)
    (ho : o.op = .call { callee := .builtin .append, args := #[s, x], argTypes := #[43, 43] }) (hty : o.type = 43) (hs : a.eval s = .slice (some ⟨n, 0, none⟩) 0 0) (hx : a.eval x = .slice po m c)
    (hb : Byts w0 po m bs) (hl : m ≤ 140737488355328) (ha : Off (fun _ => False) w0 w) (hn : w0.heap.size ≤ n) (hg : w.heap[n]? = some (.cells #[] 5))
    (h : ∀ a' c' w', BRow w' w0.heap.size (.slice a' m c') bs → Below w0.heap.size w0 w' → K (a.put o.dst (.slice a' m c')) w') :
    if Region.wanted o (yielded ops a.tmps) = true then Oper.wp Tryz.prog o a w K Q else E := by
  have hw : Region.wanted o (yielded ops a.tmps) = true := by simp [Region.wanted, hgd]
  have h0 : BRow w w0.heap.size (.slice (some ⟨n, 0, none⟩) 0 0) [] := ⟨rfl, Or.inr ⟨n, 0, #[], rfl, hn, hg, Nat.le_refl _, Nat.zero_le _, rfl, rfl⟩⟩
  obtain ⟨a', c', w', hr, r1, o1⟩ := run_bapp (c := c) h0 (hb.off ha (fun _ _ _ _ => id)) hl ha.size
  rw [if_pos hw]
  unfold Oper.wp execOp
  simp only [ho, hty, resolve, invoke, builtin, Sem.run_bind, Sem.run_pure, Result.andThen_ok, List.map_toArray, List.map_cons, List.map_nil, hs, hx, hr]
  exact h _ _ _ r1 ((ha.below (Nat.le_refl _) (fun _ g => g.elim)).trans (o1.below ha.size (fun k e => by omega)))
end Go.Proofs.YtoijhecphgdfnaaGreatDoor

/-
  The document's fits.
-/
namespace Go.Proofs.YtoijhecphgdfnaaGreatDoor
open Go.RowKit

set_option maxHeartbeats 2000000 in
theorem rFits_no (e : Bool) (a p st lf : Int) (w : World) (h : ¬ (1 ≤ st ∧ st ≤ 6 ∧ 0 ≤ lf ∧ lf ≤ 16)) : Calls Tryz.prog 97 #[.agg #[.bool e, .int .i64 a, .int .i64 p], .agg #[.int .i64 st, .int .i64 lf]] w fun r w' => r = .returned (.bool false) ∧ Below w.heap.size w w' := by
  go_enter Tryz.func97, Tryz.ntmps97
  by_cases h1 : st < 1
  · go_wp2_with fail
    all_goals (go_ret; exact ⟨rfl, ((Below.refl _ _).alloc (by simp) _).alloc (by simp) _⟩)
  by_cases h2 : st > 6
  · go_wp2_with fail
    all_goals (go_ret; exact ⟨rfl, ((Below.refl _ _).alloc (by simp) _).alloc (by simp) _⟩)
  by_cases h3 : lf < 0
  · go_wp2_with fail
    all_goals (go_ret; exact ⟨rfl, ((Below.refl _ _).alloc (by simp) _).alloc (by simp) _⟩)
  have h4 : lf > 16 := by omega
  clear h
  go_wp2_with fail
  all_goals (go_ret; exact ⟨rfl, ((Below.refl _ _).alloc (by simp) _).alloc (by simp) _⟩)
set_option maxHeartbeats 2000000 in
theorem rFits_any (e : Bool) (a p st lf : Int) (w : World) : Calls Tryz.prog 97 #[.agg #[.bool e, .int .i64 a, .int .i64 p], .agg #[.int .i64 st, .int .i64 lf]] w fun r w' => r = .returned (.bool (fitB e a p st lf)) ∧ Below w.heap.size w w' := by
  by_cases h : 1 ≤ st ∧ st ≤ 6 ∧ 0 ≤ lf ∧ lf ≤ 16
  · have hf : fitB e a p st lf = (if st = 1 then caB e a else if st = 2 then aaB e p else if st = 3 then earB e a p (caB e a) else if st = 6 then caB e a || aaB e p else true) := by unfold fitB; rw [decide_eq_true h]; rfl
    rw [hf]
    clear hf
    obtain ⟨s1, s2, s3, s4⟩ := h
    have n3 : ¬ lf < 0 := by omega
    have n4 : ¬ lf > 16 := by omega
    obtain ⟨q1, hq1⟩ : ∃ q, caB e a = q := ⟨_, rfl⟩
    obtain ⟨q2, hq2⟩ : ∃ q, aaB e p = q := ⟨_, rfl⟩
    obtain ⟨q3, hq3⟩ : ∃ q, earB e a p q1 = q := ⟨_, rfl⟩
    have c1 : ∀ w, Calls Tryz.prog 92 #[.agg #[.bool e, .int .i64 a, .int .i64 p]] w fun r w' => r = .returned (.bool q1) ∧ Below w.heap.size w w' := fun w => by have := rCommit_any e a p w; rw [hq1] at this; exact this
    have c2 : ∀ w, Calls Tryz.prog 93 #[.agg #[.bool e, .int .i64 a, .int .i64 p]] w fun r w' => r = .returned (.bool q2) ∧ Below w.heap.size w w' := fun w => by have := rApp_any e a p w; rw [hq2] at this; exact this
    have c3 : ∀ w, Calls Tryz.prog 94 #[.agg #[.bool e, .int .i64 a, .int .i64 p], .bool q1] w fun r w' => r = .returned (.bool q3) ∧ Below w.heap.size w w' := fun w => by have := rEar_any e a p q1 w; rw [hq3] at this; exact this
    rw [hq1, hq2, hq3]
    clear hq1 hq2 hq3
    rcases (by omega : st = 1 ∨ st = 2 ∨ st = 3 ∨ st = 4 ∨ st = 5 ∨ st = 6) with rfl | rfl | rfl | rfl | rfl | rfl
    · clear s1 s2
      go_enter Tryz.func97, Tryz.ntmps97
      go_wp2_with fail
      refine (c1 _).mono ?_
      rintro _ w1 ⟨rfl, b1⟩
      have HB1 : Hid (Below w.heap.size w w1) := below_then (((Below.refl _ _).alloc (by simp) _).alloc (by simp) _) b1
      clear b1 c1
      go_wp2_with fail
      go_ret
      exact ⟨rfl, HB1.out⟩
    · clear s1 s2
      go_enter Tryz.func97, Tryz.ntmps97
      go_wp2_with fail
      refine (c2 _).mono ?_
      rintro _ w1 ⟨rfl, b1⟩
      have HB1 : Hid (Below w.heap.size w w1) := below_then (((Below.refl _ _).alloc (by simp) _).alloc (by simp) _) b1
      clear b1 c2
      go_wp2_with fail
      go_ret
      exact ⟨rfl, HB1.out⟩
    · clear s1 s2
      have bx : Box ((w.alloc (.cells #[.bool e, .int .i64 a, .int .i64 p] 45)).alloc (.cells #[.int .i64 3, .int .i64 lf] 89)) w.heap.size #[.bool e, .int .i64 a, .int .i64 p] := (Box.new' w _ _ _ rfl).alloc _
      have bv : Below w.heap.size w ((w.alloc (.cells #[.bool e, .int .i64 a, .int .i64 p] 45)).alloc (.cells #[.int .i64 3, .int .i64 lf] 89)) := ((Below.refl _ _).alloc (by simp) _).alloc (by simp) _
      go_enter Tryz.func97, Tryz.ntmps97
      go_wp2_with fail
      obtain ⟨V, hV⟩ : ∃ V, ((w.alloc (.cells #[.bool e, .int .i64 a, .int .i64 p] 45)).alloc (.cells #[.int .i64 3, .int .i64 lf] 89)) = V := ⟨_, rfl⟩
      rw [hV] at bx bv ⊢
      clear hV
      have l0 := sub_box bx
      have h1 := sub_of (V := V) c1
      have h2 := sub_of (V := V) c3
      have HV : Hid (Below w.heap.size w V) := bv
      haveI hne : Nonempty (Sub V) := ⟨⟨V, Below.refl _ _⟩⟩
      clear c1 c2 c3 bx bv
      refine wp_region_class (V := V) (Below.refl _ _) (by kernel_rfl) (by kernel_rfl) ?_
      repeat (go_big_quiet_step ((first | (go_at_call 92; exact h1 _) | (go_at_call 94; exact h2 _))))
      refine wpQuiet_nil ?_
      rintro wc ⟨xwc, rfl⟩
      have HB : Hid (Below w.heap.size w xwc.1) := below_then HV.out xwc.2
      clear l0 h1 h2 hne
      go_wp2_with fail
      go_ret
      exact ⟨rfl, HB.out⟩
    · clear s1 s2
      go_enter Tryz.func97, Tryz.ntmps97
      go_wp2_with fail
      go_ret
      exact ⟨rfl, ((Below.refl _ _).alloc (by simp) _).alloc (by simp) _⟩
    · clear s1 s2
      go_enter Tryz.func97, Tryz.ntmps97
      go_wp2_with fail
      go_ret
      exact ⟨rfl, ((Below.refl _ _).alloc (by simp) _).alloc (by simp) _⟩
    · clear s1 s2
      go_enter Tryz.func97, Tryz.ntmps97
      go_wp2_with fail
      refine (c1 _).mono ?_
      rintro _ w1 ⟨rfl, b1⟩
      have HB1 : Hid (Below w.heap.size w w1) := below_then (((Below.refl _ _).alloc (by simp) _).alloc (by simp) _) b1
      obtain ⟨l1, k1, _⟩ := ((Box.new' w #[.bool e, .int .i64 a, .int .i64 p] 45 w.heap.size rfl).alloc _).below b1
      clear b1 c1
      cases q1 with
      | true =>
        go_wp2_with fail
        all_goals (go_ret; exact ⟨rfl, HB1.out⟩)
      | false =>
        go_wp2_with fail
        refine (c2 _).mono ?_
        rintro _ w2 ⟨rfl, b2⟩
        have HB2 : Hid (Below w.heap.size w w2) := below_then HB1.out b2
        clear b2 c2 HB1 k1 l1
        go_wp2_with fail
        all_goals (go_ret; exact ⟨rfl, HB2.out⟩)
  · have hf : fitB e a p st lf = false := by unfold fitB; rw [decide_eq_false h]; rfl
    rw [hf]
    exact rFits_no e a p st lf w h
end Go.Proofs.YtoijhecphgdfnaaGreatDoor

/-
  The document's Mode, Texts, Refuse, Owes, May.
-/
namespace Go.Proofs.YtoijhecphgdfnaaGreatDoor
open Go.RowKit

theorem ret_two {a b : Value} {c d : Value} (h : a = c) (g : b = d) : Ending.returned (.tuple #[a, b]) = .returned (.tuple #[c, d]) := by rw [h, g]
theorem excl {s : ByteArray} {l m : List UInt8} (h : (s.toList == l) = true) (hn : l ≠ m) : (s.toList == m) = false := by
  rw [beq_iff_eq] at h; rw [h]; exact beq_eq_false_iff_ne.2 hn
theorem empt {s : ByteArray} {l : List UInt8} (h : (s.toList == l) = true) (hn : l.isEmpty = false) : s.toList.isEmpty = false := by
  rw [beq_iff_eq] at h; rw [h]; exact hn
theorem emp0 {s : ByteArray} {l : List UInt8} (h : s.toList.isEmpty = true) (hn : l.isEmpty = false) : (s.toList == l) = false := by
  rw [List.isEmpty_iff] at h; rw [h]; cases l <;> first | rfl | cases hn
theorem ret_three {a b c d x y : Value} (h : a = d) (g : b = x) (k : c = y) : Ending.returned (.tuple #[a, b, c]) = .returned (.tuple #[d, x, y]) := by rw [h, g, k]
set_option maxHeartbeats 2000000 in
theorem rMay_any (e : Bool) (a p : Int) (s : ByteArray) (w : World) : Calls Tryz.prog 80 #[.agg #[.bool e, .int .i64 a, .int .i64 p], .string s] w fun r w' => r = .returned (.tuple #[.bool (okB e a p && sentB e a p s), .int .i64 (errN e a p)]) ∧ Below w.heap.size w w' := by
  unfold errN
  cases q1 : okB e a p with
  | false =>
    have c1 : ∀ w, Calls Tryz.prog 48 #[.agg #[.bool e, .int .i64 a, .int .i64 p]] w fun r w' => r = .returned (.bool false) ∧ Below w.heap.size w w' := fun w => by have := rRight_any e a p w; rw [q1] at this; exact this
    clear q1
    go_enter Tryz.func80, Tryz.ntmps80
    go_wp2_with fail
    refine (c1 _).mono ?_
    rintro _ w1 ⟨rfl, b1⟩
    have HB1 : Hid (Below w.heap.size w w1) := below_then ((Below.refl _ _).alloc (Nat.le_refl _) _) b1
    clear b1 c1
    go_wp2_with fail
    go_ret2
    exact ⟨rfl, HB1.out⟩
  | true =>
    have c1 : ∀ w, Calls Tryz.prog 48 #[.agg #[.bool e, .int .i64 a, .int .i64 p]] w fun r w' => r = .returned (.bool true) ∧ Below w.heap.size w w' := fun w => by have := rRight_any e a p w; rw [q1] at this; exact this
    obtain ⟨q, hq⟩ : ∃ q, sentB e a p s = q := ⟨_, rfl⟩
    have c2 : ∀ w, Calls Tryz.prog 91 #[.agg #[.bool e, .int .i64 a, .int .i64 p], .string s] w fun r w' => r = .returned (.bool q) ∧ Below w.heap.size w w' := fun w => by have := rSent_any e a p s w; rw [hq] at this; exact this
    rw [hq]
    clear q1 hq
    go_enter Tryz.func80, Tryz.ntmps80
    go_wp2_with fail
    refine (c1 _).mono ?_
    rintro _ w1 ⟨rfl, b1⟩
    have HB1 : Hid (Below w.heap.size w w1) := below_then ((Below.refl _ _).alloc (Nat.le_refl _) _) b1
    obtain ⟨l1, k1, _⟩ := (Box.new w #[.bool e, .int .i64 a, .int .i64 p] 45).below b1
    clear b1 c1
    go_wp2_with fail
    refine (c2 _).mono ?_
    rintro _ w2 ⟨rfl, b2⟩
    have HB2 : Hid (Below w.heap.size w w2) := below_then HB1.out b2
    clear b2 c2 HB1 k1 l1
    go_wp2_with fail
    go_ret2
    exact ⟨rfl, HB2.out⟩
end Go.Proofs.YtoijhecphgdfnaaGreatDoor

/-
  The document's box in memory; a message copied: own, ownSent.
-/
namespace Go.Proofs.YtoijhecphgdfnaaGreatDoor
open Go.RowKit

/-- An empty slice made, bytes appended: the copy, and what it leaves. -/
theorem copy_step {W : World} {po : Option Addr} {n c : Nat} {bs : List Int} (h : Byts W po n bs) (hn : n ≤ 140737488355328) :
    ∃ a' c' W', (Builtin.append_ #[43, 43] 43 #[.slice (some ⟨W.heap.size, 0, none⟩) 0 0, .slice po n c]).run Tryz.prog (W.alloc (.cells #[] 5)) = .ok (.slice a' n c') W' ∧ Hid (BRow W' W.heap.size (.slice a' n c') bs ∧ Below W.heap.size W W') := by
  have b1 := (Below.refl W.heap.size W).alloc (Nat.le_refl _) (.cells #[] 5)
  have h0 : BRow (W.alloc (.cells #[] 5)) W.heap.size (.slice (some ⟨W.heap.size, 0, none⟩) 0 0) [] := ⟨rfl, Or.inr ⟨W.heap.size, 0, #[], rfl, Nat.le_refl _, heap_alloc_new _ _, Nat.le_refl _, Nat.zero_le _, rfl, rfl⟩⟩
  obtain ⟨a', c', W', hr, r1, o1⟩ := run_bapp (c := c) h0 (h.below b1) hn b1.size
  exact ⟨a', c', W', hr, r1, b1.trans (o1.below b1.size fun q hq => by omega)⟩
set_option maxRecDepth 100000 in
set_option maxHeartbeats 4000000 in
theorem rown_any (m : Msg) (w : World) (hb : Byts w m.tp m.tn m.tx) (hm : m.tn ≤ 140737488355328) :
    Calls Tryz.prog 50 #[.agg #[.string m.ct, .slice m.tp m.tn m.tc, .bool m.e, .int .i64 m.a, .int .i64 m.p, .int .i64 m.nu, .bool m.nt]] w fun r w' => ∃ a c, r = .returned (.agg #[.string m.ct, .slice a m.tn c, .bool m.e, .int .i64 m.a, .int .i64 m.p, .int .i64 m.nu, .bool m.nt]) ∧ BRow w' w.heap.size (.slice a m.tn c) m.tx ∧ Below w.heap.size w w' := by
  have bv : Below w.heap.size w ((w.alloc (.cells #[.string m.ct, .slice m.tp m.tn m.tc, .bool m.e, .int .i64 m.a, .int .i64 m.p, .int .i64 m.nu, .bool m.nt] 58)).alloc (.cells #[.string ⟨#[]⟩, .slice none 0 0, .bool false, .int .i64 0, .int .i64 0, .int .i64 0, .bool false] 58)) := ((Below.refl _ _).alloc (Nat.le_refl _) _).alloc (by simp) _
  have bx := (Box.new w #[.string m.ct, .slice m.tp m.tn m.tc, .bool m.e, .int .i64 m.a, .int .i64 m.p, .int .i64 m.nu, .bool m.nt] 58).alloc (.cells #[.string ⟨#[]⟩, .slice none 0 0, .bool false, .int .i64 0, .int .i64 0, .int .i64 0, .bool false] 58)
  have by_ := Box.new (w.alloc (.cells #[.string m.ct, .slice m.tp m.tn m.tc, .bool m.e, .int .i64 m.a, .int .i64 m.p, .int .i64 m.nu, .bool m.nt] 58)) #[.string ⟨#[]⟩, .slice none 0 0, .bool false, .int .i64 0, .int .i64 0, .int .i64 0, .bool false] 58
  rw [World.size_alloc] at by_
  obtain ⟨V, hV⟩ : ∃ V, ((w.alloc (.cells #[.string m.ct, .slice m.tp m.tn m.tc, .bool m.e, .int .i64 m.a, .int .i64 m.p, .int .i64 m.nu, .bool m.nt] 58)).alloc (.cells #[.string ⟨#[]⟩, .slice none 0 0, .bool false, .int .i64 0, .int .i64 0, .int .i64 0, .bool false] 58)) = V := ⟨_, rfl⟩
  have HZ : Hid (V.heap.size = w.heap.size + 1 + 1) := by unfold Hid; rw [← hV]; simp
  rw [hV] at bx by_ bv
  obtain ⟨xb, hxb⟩ : ∃ xb, w.heap.size = xb := ⟨_, rfl⟩
  have HXB : Hid (w.heap.size = xb) := hxb
  have HB0 : Hid (Below w.heap.size w V) := bv
  have HX : Hid (Box V xb #[.string m.ct, .slice m.tp m.tn m.tc, .bool m.e, .int .i64 m.a, .int .i64 m.p, .int .i64 m.nu, .bool m.nt] ∧ Box V (xb + 1) #[.string ⟨#[]⟩, .slice none 0 0, .bool false, .int .i64 0, .int .i64 0, .int .i64 0, .bool false]) := by rw [← hxb]; exact ⟨bx, by_⟩
  obtain ⟨a1, c1, W1, hr, HE⟩ := copy_step (c := m.tc) (hb.below bv) hm
  have cx := (HX.out.1.alloc (.cells #[] 5)).cell
  have kx := (HX.out.1.below HE.out.2).cell
  have fx := (HX.out.1.below HE.out.2).free
  have ky := (HX.out.2.below HE.out.2).cell
  have fy := (HX.out.2.below HE.out.2).free
  have HF : Hid (∀ W', Off (fun q => q = xb ∨ q = xb + 1) W1 W' → BRow W' w.heap.size (.slice a1 m.tn c1) m.tx ∧ Below w.heap.size w W') := fun W' ho => by
    have hz := HZ.out
    have hxx := HXB.out
    have r1 := HE.out.1
    have b1 := HE.out.2
    exact ⟨ERow.base (ERow.off r1 ho fun g hg h => by have := (ERow.lt r1 hg).1; omega) (by omega), (below_then HB0.out b1).trans (ho.below (Nat.le_trans HB0.out.size b1.size) fun k hk => by omega)⟩
  clear bv bx by_ hb hm HX HE HB0 HZ
  go_enter Tryz.func50, Tryz.ntmps50
  go_wp2_with (at_builtin; refine wpList_append_run rfl (.tmp 3) (.tmp 5) 43 _ rfl hr ?_)
  refine bodyPost_ret ?_ rfl ⟨a1, c1, rfl, HF.out _ ?_⟩
  · simp [results, Tryz.results50, go_sem, ky]
  · (repeat' (first | (with_reducible exact Off.refl _ _) | refine Off.setCell ?_ (by first | exact Or.inl rfl | exact Or.inr rfl) _))
end Go.Proofs.YtoijhecphgdfnaaGreatDoor
