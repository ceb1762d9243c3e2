import Derived.Test.YtoijhecphgdfnaaDoorOxLoad
import Derived.Test.YtoijhecphgdfnaaDoorOrLoad
/-
  The program's Add, its text in memory of its own.
-/
namespace Go.Proofs.YtoijhecphgdfnaaDoor
open Go.RowKit

section
variable {w w' : World} {b kb : Nat} {v : Value} {sq : Bool} {tr : Int} {ms : List Msg}
set_option maxRecDepth 100000 in
set_option maxHeartbeats 4000000 in
theorem bputF_any {m : Msg} (h : Bx w b kb v sq tr ms) (hf : fi m.ct ms = none) (h32 : ms.length < 32) (hst : m.st = 0) (hlf : m.lf = 0) (hun : m.un = false) (hb : Byts w m.tp m.tn m.tx) (hpo : m.tp = none → m.tc = 0) (hm : m.tn ≤ 8192) :
    Calls Tryd.prog 25 #[.pointer (some ⟨b, 0, none⟩), .agg #[.string m.ct, .slice m.tp m.tn m.tc, .bool m.e, .int .i64 m.a, .int .i64 m.p, .int .i64 m.nu, .bool m.nt]] w fun e w' => e = .returned (.tuple #[]) ∧ ∃ a c, (∀ q, (Value.slice a m.tn c).ownBlock = some q → w.heap.size ≤ q) ∧ BxQ w b kb v sq tr (ms ++ [m.wi a c]) w' := by
  have hb0 : Below w.heap.size w (w.alloc (.cells #[.string m.ct, .slice m.tp m.tn m.tc, .bool m.e, .int .i64 m.a, .int .i64 m.p, .int .i64 m.nu, .bool m.nt] 48)) := (Below.refl _ _).alloc (Nat.le_refl _) _
  have hx0 := Box.new w #[.string m.ct, .slice m.tp m.tn m.tc, .bool m.e, .int .i64 m.a, .int .i64 m.p, .int .i64 m.nu, .bool m.nt] 48
  have HH : Hid (Bx (w.alloc (.cells #[.string m.ct, .slice m.tp m.tn m.tc, .bool m.e, .int .i64 m.a, .int .i64 m.p, .int .i64 m.nu, .bool m.nt] 48)) b kb v sq tr ms ∧ Below w.heap.size w (w.alloc (.cells #[.string m.ct, .slice m.tp m.tn m.tc, .bool m.e, .int .i64 m.a, .int .i64 m.p, .int .i64 m.nu, .bool m.nt] 48))) := ⟨h.below hb0, hb0⟩
  have hcp : Hid (∀ z, Below (w.alloc (.cells #[.string m.ct, .slice m.tp m.tn m.tc, .bool m.e, .int .i64 m.a, .int .i64 m.p, .int .i64 m.nu, .bool m.nt] 48)).heap.size (w.alloc (.cells #[.string m.ct, .slice m.tp m.tn m.tc, .bool m.e, .int .i64 m.a, .int .i64 m.p, .int .i64 m.nu, .bool m.nt] 48)) z → Calls Tryd.prog 34 #[.agg #[.string m.ct, .slice m.tp m.tn m.tc, .bool m.e, .int .i64 m.a, .int .i64 m.p, .int .i64 m.nu, .bool m.nt, .int .i64 0, .int .i64 0, .bool false]] z fun e z' => ∃ a c, e = .returned (.agg #[.string m.ct, .slice a m.tn c, .bool m.e, .int .i64 m.a, .int .i64 m.p, .int .i64 m.nu, .bool m.nt, .int .i64 0, .int .i64 0, .bool false]) ∧ Hid (BRow z' w.heap.size (.slice a m.tn c) m.tx ∧ Below (w.alloc (.cells #[.string m.ct, .slice m.tp m.tn m.tc, .bool m.e, .int .i64 m.a, .int .i64 m.p, .int .i64 m.nu, .bool m.nt] 48)).heap.size (w.alloc (.cells #[.string m.ct, .slice m.tp m.tn m.tc, .bool m.e, .int .i64 m.a, .int .i64 m.p, .int .i64 m.nu, .bool m.nt] 48)) z' ∧ Below z.heap.size z z')) := fun z hz => by
    have := copied_any m z ((hb.below hb0).below hz) hpo (by omega)
    rw [hst, hlf, hun] at this
    exact this.mono fun e z' ⟨a, c, h1, h2, h3⟩ => ⟨a, c, h1, ERow.base h2 (Nat.le_trans hb0.size hz.size), below_then hz h3, h3⟩
  obtain ⟨V, hV⟩ : ∃ V, w.alloc (.cells #[.string m.ct, .slice m.tp m.tn m.tc, .bool m.e, .int .i64 m.a, .int .i64 m.p, .int .i64 m.nu, .bool m.nt] 48) = V := ⟨_, rfl⟩
  have hpt : Hid (∀ a c z, Below V.heap.size V z → Calls Tryd.prog 48 #[.pointer (some ⟨kb, 0, none⟩), .agg #[.string m.ct, .slice a m.tn c, .bool m.e, .int .i64 m.a, .int .i64 m.p, .int .i64 m.nu, .bool m.nt, .int .i64 0, .int .i64 0, .bool false]] z fun e z' => e = .returned (.tuple #[]) ∧ Hid (KdQ z kb v (ms ++ [m.wi a c]) z')) := fun a c z hz => by
    have hk : Kd z kb v ms := (by have := HH.out.1; rw [hV] at this; exact this.2.1 : Kd V kb v ms).below hz
    have := put_new hk (m.wi a c) hf h32
    rw [show putS (m.wi a c) ms = ms ++ [m.wi a c] by unfold putS; rw [show fi (m.wi a c).ct ms = none from hf]] at this
    have e2 : Value.agg #[.string (m.wi a c).ct, .slice (m.wi a c).tp (m.wi a c).tn (m.wi a c).tc, .bool (m.wi a c).e, .int .i64 (m.wi a c).a, .int .i64 (m.wi a c).p, .int .i64 (m.wi a c).nu, .bool (m.wi a c).nt, .int .i64 (m.wi a c).st, .int .i64 (m.wi a c).lf, .bool (m.wi a c).un] = .agg #[.string m.ct, .slice a m.tn c, .bool m.e, .int .i64 m.a, .int .i64 m.p, .int .i64 m.nu, .bool m.nt, .int .i64 0, .int .i64 0, .bool false] := by
      show Value.agg #[.string m.ct, .slice a m.tn c, .bool m.e, .int .i64 m.a, .int .i64 m.p, .int .i64 m.nu, .bool m.nt, .int .i64 m.st, .int .i64 m.lf, .bool m.un] = _
      rw [hst, hlf, hun]
    rw [e2] at this
    exact this
  have HM : Hid (m.tn ≤ 8192) := hm
  rw [hV] at HH hcp hx0
  have c0 := hcell HH.out.1.1 0
  have cx := hx0.cell
  have lb := HH.out.1.lt
  have lx := hx0.lt
  clear h hf h32 hst hlf hun hb hpo hm hb0
  go_enter Tryd.func25, Tryd.ntmps25
  go_wp2_with fail
  clear hV
  go_region_law (first | (go_simp; go_at_call 34; refine (hcp.out _ ?_).mono ?_; (repeat' (first | exact Below.refl _ _ | refine Below.drew ?_)); rintro _ w5 ⟨a5, c5, rfl, hh5⟩; have hc5 := (held_of hh5.out.2.1).cell; go_wp2_with fail) | (go_simp; go_at_call 48; refine (hpt.out _ _ _ ?_).mono ?_; (exact (Hid.out (by assumption : Hid (BRow _ _ _ _ ∧ _ ∧ _))).2.1); rintro _ w6 ⟨rfl, hh6⟩; go_wp2_with fail))
  all_goals
    go_wp2_with fail
    go_end0
    refine ⟨rfl, a5, c5, fun q hq => (ERow.lt hh5.out.1 hq).1, ?_⟩
    refine bxq_of (HH.out.1.below hh5.out.2.1) (below_then HH.out.2 hh5.out.2.1) hh6.out (fun y hy => ?_)
    rcases List.mem_append.1 hy with g | g
    · exact (HH.out.1.below hh5.out.2.1).2.2 y g
    · obtain rfl : y = m.wi a5 c5 := by simpa using g
      exact ⟨ERow.base hh5.out.1 (Nat.zero_le _), HM.out⟩
end
end Go.Proofs.YtoijhecphgdfnaaDoor

/-
  The program's Load, with the place and the code of what it refuses.
-/
namespace Go.Proofs.YtoijhecphgdfnaaDoor
open Go.RowKit

/-- What Load leaves. -/
def LdQF (w : World) (sq : Bool) (tr : Int) (xs : List Msg) (e : Ending) (w' : World) : Prop :=
  (∃ z a c, e = .returned (.tuple #[.pointer none, .iface 91 (.pointer (some ⟨z, 0, none⟩))]) ∧ w.heap.size ≤ z ∧ OFault w' z a c ∧ LdNo sq tr xs a c ∧ Below w.heap.size w w') ∨
  (∃ b kb v ms, e = .returned (.tuple #[.pointer (some ⟨b, 0, none⟩), .nilIface]) ∧ Li w w' b kb v sq tr ms ∧ w.heap.size ≤ b ∧ (∀ m ∈ ms, ∀ q, (Value.slice m.tp m.tn m.tc).ownBlock = some q → w.heap.size ≤ q) ∧ Wis ms xs ∧ Good sq tr xs)
/-- In the midst of Load. -/
structure LdIF (w : World) (b kb : Nat) (sq : Bool) (tr : Int) (xs : List Msg) (i : Nat) (wx : World) : Prop where
  ex : ∃ v ms, Li w wx b kb v sq tr ms ∧ Wis ms (xs.take i) ∧ ∀ m ∈ ms, ∀ q, (Value.slice m.tp m.tn m.tc).ownBlock = some q → w.heap.size ≤ q
  ref : ∀ (j : Nat) (x : Msg), j < i → xs[j]? = some x → refS sq (xs.take j) x = 0
theorem LdIF.next {w wx w' : World} {b kb : Nat} {v : Value} {sq : Bool} {tr : Int} {xs ms : List Msg} {i : Nat} {x : Msg} {a : Option Addr} {c : Nat} (h : ∀ (j : Nat) (x : Msg), j < i → xs[j]? = some x → refS sq (xs.take j) x = 0) (L : Li w wx b kb v sq tr ms) (hW : Wis ms (xs.take i)) (hx : xs[i]? = some x) (hr : refS sq (xs.take i) x = 0) (hf : ∀ m ∈ ms, ∀ q, (Value.slice m.tp m.tn m.tc).ownBlock = some q → w.heap.size ≤ q) (hfq : ∀ q, (Value.slice a x.tn c).ownBlock = some q → wx.heap.size ≤ q) (hq : BxQ wx b kb v sq tr (ms ++ [x.wi a c]) w') : LdIF w b kb sq tr xs (i + 1) w' := by
  obtain ⟨⟨v', ms', L', hW'⟩, hr'⟩ := LdI.next h L hW hx hr hq
  obtain ⟨v2, L2⟩ := L.step hq
  refine ⟨⟨v2, _, L2, ?_, fun m hm q hq => ?_⟩, hr'⟩
  · rw [List.take_add_one, hx]
    exact hW.snoc ⟨a, c, rfl⟩
  · rcases List.mem_append.1 hm with g | g
    · exact hf m g q hq
    · obtain rfl : m = x.wi a c := by simpa using g
      exact Nat.le_trans L.bel.size (hfq q hq)
theorem ldF_start (w : World) (sq : Bool) (tr : Int) (xs : List Msg) : LdIF w (w.heap.size + 1) w.heap.size sq tr xs 0 ((w.alloc (.cells #[.func (.func 23) #[] #[], .slice none 0 0] 80)).alloc (.cells #[.pointer (some ⟨w.heap.size, 0, none⟩), .bool sq, .int .i64 tr] 82)) := by
  have b2 : Below w.heap.size w ((w.alloc (.cells #[.func (.func 23) #[] #[], .slice none 0 0] 80)).alloc (.cells #[.pointer (some ⟨w.heap.size, 0, none⟩), .bool sq, .int .i64 tr] 82)) := ((Below.refl _ _).alloc (Nat.le_refl _) _).alloc (by simp) _
  refine ⟨⟨.slice none 0 0, [], ⟨⟨?_, ⟨?_, ERow.nil _ _ _ _ _, by simp⟩, fun m hm => by cases hm⟩, b2, Nat.le_refl _, fun q e => by cases e⟩, Wis.nil, fun m hm => by cases hm⟩, fun j x hj _ => by omega⟩
  · show ((w.heap.push _).push _)[w.heap.size + 1]? = _
    rw [Array.getElem?_push, if_pos (by simp)]
  · show ((w.heap.push _).push _)[w.heap.size]? = _
    rw [Array.getElem?_push, if_neg (by simp), Array.getElem?_push, if_pos rfl]
set_option maxRecDepth 100000 in
set_option maxHeartbeats 4000000 in
theorem loadF_any (sq : Bool) (tr : Int) (ao : Option Addr) (cap : Nat) (xs : List Msg) (w : World) (hV : PVc w) (ho : Outs w ao xs) (hp : ∀ x ∈ xs, Plain x) (hl : xs.length ≤ 140737488355328) :
    Calls Tryd.prog 8 #[.slice ao xs.length cap, .bool sq, .int .i64 tr] w (LdQF w sq tr xs) := by
  obtain ⟨n, hn⟩ : ∃ n, xs.length = n := ⟨_, rfl⟩
  have HN : Hid (xs.length = n) := hn
  rw [hn] at hl ⊢
  clear hn
  by_cases h0 : tr < 0
  · have HG : Hid (LdNo sq tr xs 0 224) := Or.inl ⟨Or.inl (by omega), rfl, rfl⟩
    clear ho hp hV
    go_enter Tryd.func8, Tryd.ntmps8
    go_wp2_with fail
    refine (fault_any _ _ _).mono ?_
    rintro _ w2 ⟨rfl, hf2, hb2⟩
    have HE : Hid (OFault w2 w.heap.size 0 224 ∧ Below w.heap.size w w2) := ⟨hf2, hb2⟩
    clear hf2 hb2
    go_wp2_with fail
    go_ret2
    exact Or.inl ⟨_, _, _, rfl, by omega, HE.out.1, HG.out, HE.out.2⟩
  by_cases h1 : tr > 16
  · have HG : Hid (LdNo sq tr xs 0 224) := Or.inl ⟨Or.inr (by omega), rfl, rfl⟩
    clear ho hp hV
    go_enter Tryd.func8, Tryd.ntmps8
    go_wp2_with fail
    refine (fault_any _ _ _).mono ?_
    rintro _ w2 ⟨rfl, hf2, hb2⟩
    have HE : Hid (OFault w2 w.heap.size 0 224 ∧ Below w.heap.size w w2) := ⟨hf2, hb2⟩
    clear hf2 hb2
    go_wp2_with fail
    go_ret2
    exact Or.inl ⟨_, _, _, rfl, by omega, HE.out.1, HG.out, HE.out.2⟩
  by_cases h2 : n > 32
  · have g2 : (n : Int) > 32 := by omega
    have HG : Hid (LdNo sq tr xs 0 7) := Or.inr (Or.inl ⟨by omega, by omega, by have := HN.out; omega, rfl, rfl⟩)
    clear ho hp hV h2
    go_enter Tryd.func8, Tryd.ntmps8
    go_wp2_with fail
    refine (fault_any _ _ _).mono ?_
    rintro _ w2 ⟨rfl, hf2, hb2⟩
    have HE : Hid (OFault w2 w.heap.size 0 7 ∧ Below w.heap.size w w2) := ⟨hf2, hb2⟩
    clear hf2 hb2
    go_wp2_with fail
    go_ret2
    exact Or.inl ⟨_, _, _, rfl, by omega, HE.out.1, HG.out, HE.out.2⟩
  have g2 : ¬ (n : Int) > 32 := by omega
  have HH : Hid (PVc w ∧ Outs w ao xs ∧ (∀ x ∈ xs, Plain x) ∧ 0 ≤ tr ∧ tr ≤ 16 ∧ n ≤ 32) := ⟨hV, ho, hp, by omega, by omega, by omega⟩
  have HS : Hid (LdIF w (w.heap.size + 1) w.heap.size sq tr xs 0 ((w.alloc (.cells #[.func (.func 23) #[] #[], .slice none 0 0] 80)).alloc (.cells #[.pointer (some ⟨w.heap.size, 0, none⟩), .bool sq, .int .i64 tr] 82))) := ldF_start w sq tr xs
  clear hV ho hp h2
  go_enter Tryd.func8, Tryd.ntmps8
  go_wp2_with fail
  go_loopw [33] (fun t wx => ∃ i : Nat, i ≤ n ∧ t = .int .i64 i ∧ Hid (LdIF w (w.heap.size + 1) w.heap.size sq tr xs i wx)) (fun t _ => n - (intOf t).toNat)
  case atStart => exact ⟨0, Nat.zero_le _, rfl, HS⟩
  case round =>
    obtain ⟨i, hi, rfl, HR⟩ := hrel
    clear HS
    by_cases hlt : i < n
    · have hlt1 : (i : Int) < n := by omega
      obtain ⟨x, hx⟩ : ∃ x, xs[i]? = some x := ⟨_, List.getElem?_eq_getElem (by rw [HN.out]; exact hlt)⟩
      obtain ⟨v, ms, L, hW, hfr⟩ := HR.out.ex
      have HFR : Hid (∀ m ∈ ms, ∀ q, (Value.slice m.tp m.tn m.tc).ownBlock = some q → w.heap.size ≤ q) := hfr
      clear hfr
      obtain ⟨pb, off, rfl, hat⟩ := HH.out.2.1 i x hx
      have hatr := hat.below L.bel
      have f0 := hatr.c0
      have f1 := hatr.c1
      have f2 := hatr.c2
      have f3 := hatr.c3
      have f4 := hatr.c4
      have f5 := hatr.c5
      have f6 := hatr.c6
      have lp := hatr.lt
      have HX : Hid (xs[i]? = some x ∧ Li w wr (w.heap.size + 1) w.heap.size v sq tr ms ∧ Wis ms (xs.take i) ∧ Byts wr x.tp x.tn x.tx ∧ (x.tp = none → x.tc = 0)) := ⟨hx, L, hW, hatr.p, hatr.q⟩
      have HC : Hid (refS sq ms x = refS sq (xs.take i) x) := refS_wis hW x
      clear hx L hW hat hatr
      have HV : Hid (Below wr.heap.size wr (wr.alloc (.cells #[.string x.ct, .slice x.tp x.tn x.tc, .bool x.e, .int .i64 x.a, .int .i64 x.p, .int .i64 x.nu, .bool x.nt] 48)) ∧ Box (wr.alloc (.cells #[.string x.ct, .slice x.tp x.tn x.tc, .bool x.e, .int .i64 x.a, .int .i64 x.p, .int .i64 x.nu, .bool x.nt] 48)) wr.heap.size #[.string x.ct, .slice x.tp x.tn x.tc, .bool x.e, .int .i64 x.a, .int .i64 x.p, .int .i64 x.nu, .bool x.nt]) := ⟨(Below.refl _ _).alloc (Nat.le_refl _) _, Box.new wr #[.string x.ct, .slice x.tp x.tn x.tc, .bool x.e, .int .i64 x.a, .int .i64 x.p, .int .i64 x.nu, .bool x.nt] 48⟩
      have hrf := refuse_any (HX.out.2.1.below HV.out.1).bx x (HH.out.1.below (HX.out.2.1.below HV.out.1).bel)
      by_cases hz : refS sq ms x = 0
      · rw [hz] at hrf
        have HZ : Hid (refS sq ms x = 0) := hz
        clear hz
        go_wp2_with fail
        refine hrf.mono ?_
        rintro _ w2 ⟨rfl, hb2⟩
        have cx := (HV.out.2.below hb2).cell
        have L2 := HX.out.2.1.below (below_then HV.out.1 hb2)
        have hz2 := refS_zero HZ.out
        have hpt := bputF_any (m := x) L2.bx hz2.1 (by have h9 := HX.out.2.2.1.1; rw [List.length_take, HN.out] at h9; have := HH.out.2.2.2.2.2; omega) (HH.out.2.2.1 x (List.mem_of_getElem? HX.out.1)).1 (HH.out.2.2.1 x (List.mem_of_getElem? HX.out.1)).2.1 (HH.out.2.2.1 x (List.mem_of_getElem? HX.out.1)).2.2 (HX.out.2.2.2.1.below (below_then HV.out.1 hb2)) HX.out.2.2.2.2 hz2.2
        have HL2 : Hid (Li w w2 (w.heap.size + 1) w.heap.size v sq tr ms) := L2
        clear hrf hb2 L2 hz2 f0 f1 f2 f3 f4 f5 f6 lp
        go_wp2_with fail
        refine hpt.mono ?_
        rintro _ w3 ⟨rfl, a, c, hfq, hq⟩
        have HI : Hid (LdIF w (w.heap.size + 1) w.heap.size sq tr xs (i + 1) w3) := LdIF.next HR.out.ref HL2.out HX.out.2.2.1 HX.out.1 (by rw [← HC.out]; exact HZ.out) HFR.out hfq hq
        clear hpt cx hq hfq
        go_wp2_with fail
        go_roundw
        case rel => exact ⟨i + 1, hlt, by go_num, HI⟩
        case measure => simp [intOf]; omega
      · have HZ : Hid (¬ refS sq ms x = 0) := hz
        obtain ⟨cd, hcd⟩ : ∃ cd, refS sq ms x = cd := ⟨_, rfl⟩
        have HCD : Hid (refS sq ms x = cd) := hcd
        rw [hcd] at hrf hz
        have hne : (cd != 0) = true := by simpa using hz
        clear hz hcd
        go_wp2_with fail
        refine hrf.mono ?_
        rintro _ w2 ⟨rfl, hb2⟩
        have HB2 : Hid (Below w.heap.size w w2) := (HX.out.2.1.below (below_then HV.out.1 hb2)).bel
        clear hrf hb2 f0 f1 f2 f3 f4 f5 f6 lp
        go_wp2_with fail
        refine (fault_any _ _ _).mono ?_
        rintro _ w3 ⟨rfl, hf3, hb3⟩
        have HB3 : Hid (OFault w3 w2.heap.size i cd ∧ w.heap.size ≤ w2.heap.size ∧ Below w.heap.size w w3) := ⟨hf3, HB2.out.size, below_then HB2.out hb3⟩
        clear hf3 hb3
        go_wp2_with fail
        go_ret2
        refine Or.inl ⟨_, _, _, rfl, HB3.out.2.1, HB3.out.1, ?_, HB3.out.2.2⟩
        exact LdNo.here HH.out.2.2.2.1 HH.out.2.2.2.2.1 (by rw [HN.out]; exact HH.out.2.2.2.2.2) HX.out.1 HR.out.ref (HC.out.symm.trans HCD.out) (by rw [← HCD.out]; exact HZ.out)
    · have hlt1 : ¬ (i : Int) < n := by omega
      obtain rfl : i = n := by omega
      go_wp2_with fail
      go_ret2
      obtain ⟨v, ms, L, hW, hfr⟩ := HR.out.ex
      rw [List.take_of_length_le (by rw [HN.out]; exact Nat.le_refl _)] at hW
      refine Or.inr ⟨_, _, v, ms, rfl, L, by omega, hfr, hW, HH.out.2.2.2.1, HH.out.2.2.2.2.1, by rw [HN.out]; exact HH.out.2.2.2.2.2, fun j y hy => HR.out.ref j y ?_ hy⟩
      have := (List.getElem?_eq_some_iff.1 hy).1
      have := HN.out
      omega
end Go.Proofs.YtoijhecphgdfnaaDoor
