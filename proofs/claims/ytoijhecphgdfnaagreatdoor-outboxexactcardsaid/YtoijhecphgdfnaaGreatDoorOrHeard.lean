import Derived.Test.YtoijhecphgdfnaaGreatDoorOrBase
import Derived.Test.YtoijhecphgdfnaaGreatDoorOrLoad
import Derived.Test.YtoijhecphgdfnaaGreatDoorOrGo
/-
  The program's Add, its text in memory of its own.
-/
namespace Go.Proofs.YtoijhecphgdfnaaGreatDoor
open Go.RowKit

section
variable {w w' : World} {b kb : Nat} {v : Value} {sq : Bool} {tr : Int} {ms : List Msg}
set_option maxRecDepth 100000 in
set_option maxHeartbeats 4000000 in
theorem bputF_any {m : Msg} (h : Bx w b kb v sq tr ms) (hf : fi m.ct ms = none) (h32 : ms.length < 32) (hst : m.st = 0) (hlf : m.lf = 0) (hun : m.un = false) (hb : Byts w m.tp m.tn m.tx) (hpo : m.tp = none → m.tc = 0) (hm : m.tn ≤ 8192) :
    Calls Tryz.prog 45 #[.pointer (some ⟨b, 0, none⟩), .agg #[.string m.ct, .slice m.tp m.tn m.tc, .bool m.e, .int .i64 m.a, .int .i64 m.p, .int .i64 m.nu, .bool m.nt]] w fun e w' => e = .returned (.tuple #[]) ∧ ∃ a c, (∀ q, (Value.slice a m.tn c).ownBlock = some q → w.heap.size ≤ q) ∧ BxQ w b kb v sq tr (ms ++ [m.wi a c]) w' := by
  have hb0 : Below w.heap.size w (w.alloc (.cells #[.string m.ct, .slice m.tp m.tn m.tc, .bool m.e, .int .i64 m.a, .int .i64 m.p, .int .i64 m.nu, .bool m.nt] 58)) := (Below.refl _ _).alloc (Nat.le_refl _) _
  have hx0 := Box.new w #[.string m.ct, .slice m.tp m.tn m.tc, .bool m.e, .int .i64 m.a, .int .i64 m.p, .int .i64 m.nu, .bool m.nt] 58
  have HH : Hid (Bx (w.alloc (.cells #[.string m.ct, .slice m.tp m.tn m.tc, .bool m.e, .int .i64 m.a, .int .i64 m.p, .int .i64 m.nu, .bool m.nt] 58)) b kb v sq tr ms ∧ Below w.heap.size w (w.alloc (.cells #[.string m.ct, .slice m.tp m.tn m.tc, .bool m.e, .int .i64 m.a, .int .i64 m.p, .int .i64 m.nu, .bool m.nt] 58))) := ⟨h.below hb0, hb0⟩
  have hcp : Hid (∀ z, Below (w.alloc (.cells #[.string m.ct, .slice m.tp m.tn m.tc, .bool m.e, .int .i64 m.a, .int .i64 m.p, .int .i64 m.nu, .bool m.nt] 58)).heap.size (w.alloc (.cells #[.string m.ct, .slice m.tp m.tn m.tc, .bool m.e, .int .i64 m.a, .int .i64 m.p, .int .i64 m.nu, .bool m.nt] 58)) z → Calls Tryz.prog 55 #[.agg #[.string m.ct, .slice m.tp m.tn m.tc, .bool m.e, .int .i64 m.a, .int .i64 m.p, .int .i64 m.nu, .bool m.nt, .int .i64 0, .int .i64 0, .bool false]] z fun e z' => ∃ a c, e = .returned (.agg #[.string m.ct, .slice a m.tn c, .bool m.e, .int .i64 m.a, .int .i64 m.p, .int .i64 m.nu, .bool m.nt, .int .i64 0, .int .i64 0, .bool false]) ∧ Hid (BRow z' w.heap.size (.slice a m.tn c) m.tx ∧ Below (w.alloc (.cells #[.string m.ct, .slice m.tp m.tn m.tc, .bool m.e, .int .i64 m.a, .int .i64 m.p, .int .i64 m.nu, .bool m.nt] 58)).heap.size (w.alloc (.cells #[.string m.ct, .slice m.tp m.tn m.tc, .bool m.e, .int .i64 m.a, .int .i64 m.p, .int .i64 m.nu, .bool m.nt] 58)) z' ∧ Below z.heap.size z z')) := fun z hz => by
    have := copied_any m z ((hb.below hb0).below hz) hpo (by omega)
    rw [hst, hlf, hun] at this
    exact this.mono fun e z' ⟨a, c, h1, h2, h3⟩ => ⟨a, c, h1, ERow.base h2 (Nat.le_trans hb0.size hz.size), below_then hz h3, h3⟩
  obtain ⟨V, hV⟩ : ∃ V, w.alloc (.cells #[.string m.ct, .slice m.tp m.tn m.tc, .bool m.e, .int .i64 m.a, .int .i64 m.p, .int .i64 m.nu, .bool m.nt] 58) = V := ⟨_, rfl⟩
  have hpt : Hid (∀ a c z, Below V.heap.size V z → Calls Tryz.prog 58 #[.pointer (some ⟨kb, 0, none⟩), .agg #[.string m.ct, .slice a m.tn c, .bool m.e, .int .i64 m.a, .int .i64 m.p, .int .i64 m.nu, .bool m.nt, .int .i64 0, .int .i64 0, .bool false]] z fun e z' => e = .returned (.tuple #[]) ∧ Hid (KdQ z kb v (ms ++ [m.wi a c]) z')) := fun a c z hz => by
    have hk : Kd z kb v ms := (by have := HH.out.1; rw [hV] at this; exact this.2.1 : Kd V kb v ms).below hz
    have := put_new hk (m.wi a c) hf h32
    rw [show putS (m.wi a c) ms = ms ++ [m.wi a c] by unfold putS; rw [show fi (m.wi a c).ct ms = none from hf]] at this
    have e2 : Value.agg #[.string (m.wi a c).ct, .slice (m.wi a c).tp (m.wi a c).tn (m.wi a c).tc, .bool (m.wi a c).e, .int .i64 (m.wi a c).a, .int .i64 (m.wi a c).p, .int .i64 (m.wi a c).nu, .bool (m.wi a c).nt, .int .i64 (m.wi a c).st, .int .i64 (m.wi a c).lf, .bool (m.wi a c).un] = .agg #[.string m.ct, .slice a m.tn c, .bool m.e, .int .i64 m.a, .int .i64 m.p, .int .i64 m.nu, .bool m.nt, .int .i64 0, .int .i64 0, .bool false] := by
      show Value.agg #[.string m.ct, .slice a m.tn c, .bool m.e, .int .i64 m.a, .int .i64 m.p, .int .i64 m.nu, .bool m.nt, .int .i64 m.st, .int .i64 m.lf, .bool m.un] = _
      rw [hst, hlf, hun]
    rw [e2] at this
    exact this
  have HM : Hid (m.tn ≤ 8192) := hm
  rw [hV] at HH hcp hx0
  have c0 := hcell HH.out.1.1 0
  have cx := hx0.cell
  have lb := HH.out.1.lt
  have lx := hx0.lt
  clear h hf h32 hst hlf hun hb hpo hm hb0
  go_enter Tryz.func45, Tryz.ntmps45
  go_wp2_with fail
  clear hV
  go_region_law (first | (go_simp; go_at_call 55; refine (hcp.out _ ?_).mono ?_; (repeat' (first | exact Below.refl _ _ | refine Below.drew ?_)); rintro _ w5 ⟨a5, c5, rfl, hh5⟩; have hc5 := (held_of hh5.out.2.1).cell; go_wp2_with fail) | (go_simp; go_at_call 58; refine (hpt.out _ _ _ ?_).mono ?_; (exact (Hid.out (by assumption : Hid (BRow _ _ _ _ ∧ _ ∧ _))).2.1); rintro _ w6 ⟨rfl, hh6⟩; go_wp2_with fail))
  all_goals
    go_wp2_with fail
    go_end0
    refine ⟨rfl, a5, c5, fun q hq => (ERow.lt hh5.out.1 hq).1, ?_⟩
    refine bxq_of (HH.out.1.below hh5.out.2.1) (below_then HH.out.2 hh5.out.2.1) hh6.out (fun y hy => ?_)
    rcases List.mem_append.1 hy with g | g
    · exact (HH.out.1.below hh5.out.2.1).2.2 y g
    · obtain rfl : y = m.wi a5 c5 := by simpa using g
      exact ⟨ERow.base hh5.out.1 (Nat.zero_le _), HM.out⟩
set_option maxRecDepth 100000 in
set_option maxHeartbeats 4000000 in
theorem addF_yes {m : Msg} (h : Bx w b kb v sq tr ms) (hV : PVc w) (hnu : m.nu = 0) (hnt : m.nt = false) (hst : m.st = 0) (hlf : m.lf = 0) (hun : m.un = false) (hb : Byts w m.tp m.tn m.tx) (hpo : m.tp = none → m.tc = 0) (hc : addC sq ms m = 0) :
    Calls Tryz.prog 16 #[.pointer (some ⟨b, 0, none⟩), .string m.ct, .slice m.tp m.tn m.tc, .agg #[.bool m.e, .int .i64 m.a, .int .i64 m.p]] w fun e w' => e = .returned .nilIface ∧ ∃ a c, (∀ q, (Value.slice a m.tn c).ownBlock = some q → w.heap.size ≤ q) ∧ BxQ w b kb v sq tr (ms ++ [m.wi a c]) w' := by
  have h32 : ms.length < 32 := by
    have := h.2.1.2.2
    unfold addC at hc
    split at hc
    · omega
    · omega
  have hr0 : refS sq ms m = 0 := by unfold addC at hc; rwa [if_neg (by omega)] at hc
  obtain ⟨hfn, htn⟩ := refS_zero hr0
  have hb1 : Below w.heap.size w (w.alloc (.cells #[.bool m.e, .int .i64 m.a, .int .i64 m.p] 45)) := (Below.refl _ _).alloc (Nat.le_refl _) _
  have hb2 : Below w.heap.size w ((w.alloc (.cells #[.bool m.e, .int .i64 m.a, .int .i64 m.p] 45)).alloc (.cells #[.string m.ct, .slice m.tp m.tn m.tc, .bool m.e, .int .i64 m.a, .int .i64 m.p, .int .i64 0, .bool false] 58)) := hb1.alloc (by simp) _
  have hmk := made_yes (h.below hb1)
  have hct := count_any (h.below hb1).2.1
  have hrf := refuse_any (h.below hb2) m (hV.below hb2)
  have hx2 := Box.new (w.alloc (.cells #[.bool m.e, .int .i64 m.a, .int .i64 m.p] 45)) #[.string m.ct, .slice m.tp m.tn m.tc, .bool m.e, .int .i64 m.a, .int .i64 m.p, .int .i64 0, .bool false] 58
  rw [World.size_alloc] at hx2
  rw [hr0, hnu, hnt] at hrf
  have HH : Hid (∀ z, Below w.heap.size w z → Calls Tryz.prog 45 #[.pointer (some ⟨b, 0, none⟩), .agg #[.string m.ct, .slice m.tp m.tn m.tc, .bool m.e, .int .i64 m.a, .int .i64 m.p, .int .i64 0, .bool false]] z fun e z' => e = .returned (.tuple #[]) ∧ Hid (∃ a c, (∀ q, (Value.slice a m.tn c).ownBlock = some q → w.heap.size ≤ q) ∧ BxQ w b kb v sq tr (ms ++ [m.wi a c]) z')) := fun z hz => by
    have := bputF_any (m := m) (h.below hz) hfn h32 hst hlf hun (hb.below hz) hpo htn
    rw [hnu, hnt] at this
    refine this.mono fun e z' ⟨h1, a, c, h0, v', q1, q2, q3⟩ => ⟨h1, a, c, fun q hq => Nat.le_trans hz.size (h0 q hq), v', q1, (Off.of_below hz).trans q2, fun q e => (q3 q e).imp id fun g => Nat.le_trans hz.size g⟩
  have HB2 : Hid (Below w.heap.size w ((w.alloc (.cells #[.bool m.e, .int .i64 m.a, .int .i64 m.p] 45)).alloc (.cells #[.string m.ct, .slice m.tp m.tn m.tc, .bool m.e, .int .i64 m.a, .int .i64 m.p, .int .i64 0, .bool false] 58))) := hb2
  have c0 := hcell (h.below hb1).1 0
  have c0' := hcell h.1 0
  have lb := h.lt
  obtain ⟨n, hn⟩ : ∃ n, ms.length = n := ⟨_, rfl⟩
  rw [hn] at hct h32
  have g32 : ((n : Int) == 32) = false := by rw [beq_eq_false_iff_ne]; omega
  clear h hV hnu hnt hst hlf hun hb hpo hc hr0 hfn htn hb1 hb2 hn h32
  go_enter Tryz.func16, Tryz.ntmps16
  go_wp2_with fail
  refine hmk.mono ?_
  rintro _ w9 ⟨rfl, h9⟩
  subst w9
  clear hmk
  go_wp2_with fail
  refine hct.mono ?_
  rintro _ w9 ⟨rfl, h9⟩
  subst w9
  clear hct
  go_wp2_with fail
  refine hrf.mono ?_
  rintro _ w3 ⟨rfl, hb3⟩
  have HB3 : Hid (Below w.heap.size w w3) := below_then HB2.out hb3
  have cx := (hx2.below hb3).cell
  clear hrf hb3 c0 c0' lb hx2
  go_wp2_with fail
  refine (HH.out _ HB3.out).mono ?_
  rintro _ w4 ⟨rfl, h4⟩
  clear cx
  go_wp2_with fail
  go_ret
  exact ⟨rfl, h4.out⟩
end
end Go.Proofs.YtoijhecphgdfnaaGreatDoor

/-
  The program's Load, with the place and the code of what it refuses.
-/
namespace Go.Proofs.YtoijhecphgdfnaaGreatDoor
open Go.RowKit

/-- What Load leaves. -/
def LdQF (w : World) (sq : Bool) (tr : Int) (xs : List Msg) (e : Ending) (w' : World) : Prop :=
  (∃ z a c, e = .returned (.tuple #[.pointer none, .iface 122 (.pointer (some ⟨z, 0, none⟩))]) ∧ w.heap.size ≤ z ∧ OFault w' z a c ∧ LdNo sq tr xs a c ∧ Below w.heap.size w w') ∨
  (∃ b kb v ms, e = .returned (.tuple #[.pointer (some ⟨b, 0, none⟩), .nilIface]) ∧ Li w w' b kb v sq tr ms ∧ w.heap.size ≤ b ∧ (∀ m ∈ ms, ∀ q, (Value.slice m.tp m.tn m.tc).ownBlock = some q → w.heap.size ≤ q) ∧ Wis ms xs ∧ Good sq tr xs)
/-- In the midst of Load. -/
structure LdIF (w : World) (b kb : Nat) (sq : Bool) (tr : Int) (xs : List Msg) (i : Nat) (wx : World) : Prop where
  ex : ∃ v ms, Li w wx b kb v sq tr ms ∧ Wis ms (xs.take i) ∧ ∀ m ∈ ms, ∀ q, (Value.slice m.tp m.tn m.tc).ownBlock = some q → w.heap.size ≤ q
  ref : ∀ (j : Nat) (x : Msg), j < i → xs[j]? = some x → refS sq (xs.take j) x = 0
theorem LdIF.next {w wx w' : World} {b kb : Nat} {v : Value} {sq : Bool} {tr : Int} {xs ms : List Msg} {i : Nat} {x : Msg} {a : Option Addr} {c : Nat} (h : ∀ (j : Nat) (x : Msg), j < i → xs[j]? = some x → refS sq (xs.take j) x = 0) (L : Li w wx b kb v sq tr ms) (hW : Wis ms (xs.take i)) (hx : xs[i]? = some x) (hr : refS sq (xs.take i) x = 0) (hf : ∀ m ∈ ms, ∀ q, (Value.slice m.tp m.tn m.tc).ownBlock = some q → w.heap.size ≤ q) (hfq : ∀ q, (Value.slice a x.tn c).ownBlock = some q → wx.heap.size ≤ q) (hq : BxQ wx b kb v sq tr (ms ++ [x.wi a c]) w') : LdIF w b kb sq tr xs (i + 1) w' := by
  obtain ⟨⟨v', ms', L', hW'⟩, hr'⟩ := LdI.next h L hW hx hr hq
  obtain ⟨v2, L2⟩ := L.step hq
  refine ⟨⟨v2, _, L2, ?_, fun m hm q hq => ?_⟩, hr'⟩
  · rw [List.take_add_one, hx]
    exact hW.snoc ⟨a, c, rfl⟩
  · rcases List.mem_append.1 hm with g | g
    · exact hf m g q hq
    · obtain rfl : m = x.wi a c := by simpa using g
      exact Nat.le_trans L.bel.size (hfq q hq)
theorem ldF_start (w : World) (sq : Bool) (tr : Int) (xs : List Msg) : LdIF w (w.heap.size + 1) w.heap.size sq tr xs 0 ((w.alloc (.cells #[.func (.func 43) #[] #[], .slice none 0 0] 111)).alloc (.cells #[.pointer (some ⟨w.heap.size, 0, none⟩), .bool sq, .int .i64 tr] 113)) := by
  have b2 : Below w.heap.size w ((w.alloc (.cells #[.func (.func 43) #[] #[], .slice none 0 0] 111)).alloc (.cells #[.pointer (some ⟨w.heap.size, 0, none⟩), .bool sq, .int .i64 tr] 113)) := ((Below.refl _ _).alloc (Nat.le_refl _) _).alloc (by simp) _
  refine ⟨⟨.slice none 0 0, [], ⟨⟨?_, ⟨?_, ERow.nil _ _ _ _ _, by simp⟩, fun m hm => by cases hm⟩, b2, Nat.le_refl _, fun q e => by cases e⟩, Wis.nil, fun m hm => by cases hm⟩, fun j x hj _ => by omega⟩
  · show ((w.heap.push _).push _)[w.heap.size + 1]? = _
    rw [Array.getElem?_push, if_pos (by simp)]
  · show ((w.heap.push _).push _)[w.heap.size]? = _
    rw [Array.getElem?_push, if_neg (by simp), Array.getElem?_push, if_pos rfl]
set_option maxRecDepth 100000 in
set_option maxHeartbeats 4000000 in
theorem loadF_any (sq : Bool) (tr : Int) (ao : Option Addr) (cap : Nat) (xs : List Msg) (w : World) (hV : PVc w) (ho : Outs w ao xs) (hp : ∀ x ∈ xs, Plain x) (hl : xs.length ≤ 140737488355328) :
    Calls Tryz.prog 11 #[.slice ao xs.length cap, .bool sq, .int .i64 tr] w (LdQF w sq tr xs) := by
  obtain ⟨n, hn⟩ : ∃ n, xs.length = n := ⟨_, rfl⟩
  have HN : Hid (xs.length = n) := hn
  rw [hn] at hl ⊢
  clear hn
  by_cases h0 : tr < 0
  · have HG : Hid (LdNo sq tr xs 0 224) := Or.inl ⟨Or.inl (by omega), rfl, rfl⟩
    clear ho hp hV
    go_enter Tryz.func11, Tryz.ntmps11
    go_wp2_with fail
    refine (fault_any _ _ _).mono ?_
    rintro _ w2 ⟨rfl, hf2, hb2⟩
    have HE : Hid (OFault w2 w.heap.size 0 224 ∧ Below w.heap.size w w2) := ⟨hf2, hb2⟩
    clear hf2 hb2
    go_wp2_with fail
    go_ret2
    exact Or.inl ⟨_, _, _, rfl, by omega, HE.out.1, HG.out, HE.out.2⟩
  by_cases h1 : tr > 16
  · have HG : Hid (LdNo sq tr xs 0 224) := Or.inl ⟨Or.inr (by omega), rfl, rfl⟩
    clear ho hp hV
    go_enter Tryz.func11, Tryz.ntmps11
    go_wp2_with fail
    refine (fault_any _ _ _).mono ?_
    rintro _ w2 ⟨rfl, hf2, hb2⟩
    have HE : Hid (OFault w2 w.heap.size 0 224 ∧ Below w.heap.size w w2) := ⟨hf2, hb2⟩
    clear hf2 hb2
    go_wp2_with fail
    go_ret2
    exact Or.inl ⟨_, _, _, rfl, by omega, HE.out.1, HG.out, HE.out.2⟩
  by_cases h2 : n > 32
  · have g2 : (n : Int) > 32 := by omega
    have HG : Hid (LdNo sq tr xs 0 7) := Or.inr (Or.inl ⟨by omega, by omega, by have := HN.out; omega, rfl, rfl⟩)
    clear ho hp hV h2
    go_enter Tryz.func11, Tryz.ntmps11
    go_wp2_with fail
    refine (fault_any _ _ _).mono ?_
    rintro _ w2 ⟨rfl, hf2, hb2⟩
    have HE : Hid (OFault w2 w.heap.size 0 7 ∧ Below w.heap.size w w2) := ⟨hf2, hb2⟩
    clear hf2 hb2
    go_wp2_with fail
    go_ret2
    exact Or.inl ⟨_, _, _, rfl, by omega, HE.out.1, HG.out, HE.out.2⟩
  have g2 : ¬ (n : Int) > 32 := by omega
  have HH : Hid (PVc w ∧ Outs w ao xs ∧ (∀ x ∈ xs, Plain x) ∧ 0 ≤ tr ∧ tr ≤ 16 ∧ n ≤ 32) := ⟨hV, ho, hp, by omega, by omega, by omega⟩
  have HS : Hid (LdIF w (w.heap.size + 1) w.heap.size sq tr xs 0 ((w.alloc (.cells #[.func (.func 43) #[] #[], .slice none 0 0] 111)).alloc (.cells #[.pointer (some ⟨w.heap.size, 0, none⟩), .bool sq, .int .i64 tr] 113))) := ldF_start w sq tr xs
  clear hV ho hp h2
  go_enter Tryz.func11, Tryz.ntmps11
  go_wp2_with fail
  go_loopw [33] (fun t wx => ∃ i : Nat, i ≤ n ∧ t = .int .i64 i ∧ Hid (LdIF w (w.heap.size + 1) w.heap.size sq tr xs i wx)) (fun t _ => n - (intOf t).toNat)
  case atStart => exact ⟨0, Nat.zero_le _, rfl, HS⟩
  case round =>
    obtain ⟨i, hi, rfl, HR⟩ := hrel
    clear HS
    by_cases hlt : i < n
    · have hlt1 : (i : Int) < n := by omega
      obtain ⟨x, hx⟩ : ∃ x, xs[i]? = some x := ⟨_, List.getElem?_eq_getElem (by rw [HN.out]; exact hlt)⟩
      obtain ⟨v, ms, L, hW, hfr⟩ := HR.out.ex
      have HFR : Hid (∀ m ∈ ms, ∀ q, (Value.slice m.tp m.tn m.tc).ownBlock = some q → w.heap.size ≤ q) := hfr
      clear hfr
      obtain ⟨pb, off, rfl, hat⟩ := HH.out.2.1 i x hx
      have hatr := hat.below L.bel
      have f0 := hatr.c0
      have f1 := hatr.c1
      have f2 := hatr.c2
      have f3 := hatr.c3
      have f4 := hatr.c4
      have f5 := hatr.c5
      have f6 := hatr.c6
      have lp := hatr.lt
      have HX : Hid (xs[i]? = some x ∧ Li w wr (w.heap.size + 1) w.heap.size v sq tr ms ∧ Wis ms (xs.take i) ∧ Byts wr x.tp x.tn x.tx ∧ (x.tp = none → x.tc = 0)) := ⟨hx, L, hW, hatr.p, hatr.q⟩
      have HC : Hid (refS sq ms x = refS sq (xs.take i) x) := refS_wis hW x
      clear hx L hW hat hatr
      have HV : Hid (Below wr.heap.size wr (wr.alloc (.cells #[.string x.ct, .slice x.tp x.tn x.tc, .bool x.e, .int .i64 x.a, .int .i64 x.p, .int .i64 x.nu, .bool x.nt] 58)) ∧ Box (wr.alloc (.cells #[.string x.ct, .slice x.tp x.tn x.tc, .bool x.e, .int .i64 x.a, .int .i64 x.p, .int .i64 x.nu, .bool x.nt] 58)) wr.heap.size #[.string x.ct, .slice x.tp x.tn x.tc, .bool x.e, .int .i64 x.a, .int .i64 x.p, .int .i64 x.nu, .bool x.nt]) := ⟨(Below.refl _ _).alloc (Nat.le_refl _) _, Box.new wr #[.string x.ct, .slice x.tp x.tn x.tc, .bool x.e, .int .i64 x.a, .int .i64 x.p, .int .i64 x.nu, .bool x.nt] 58⟩
      have hrf := refuse_any (HX.out.2.1.below HV.out.1).bx x (HH.out.1.below (HX.out.2.1.below HV.out.1).bel)
      by_cases hz : refS sq ms x = 0
      · rw [hz] at hrf
        have HZ : Hid (refS sq ms x = 0) := hz
        clear hz
        go_wp2_with fail
        refine hrf.mono ?_
        rintro _ w2 ⟨rfl, hb2⟩
        have cx := (HV.out.2.below hb2).cell
        have L2 := HX.out.2.1.below (below_then HV.out.1 hb2)
        have hz2 := refS_zero HZ.out
        have hpt := bputF_any (m := x) L2.bx hz2.1 (by have h9 := HX.out.2.2.1.1; rw [List.length_take, HN.out] at h9; have := HH.out.2.2.2.2.2; omega) (HH.out.2.2.1 x (List.mem_of_getElem? HX.out.1)).1 (HH.out.2.2.1 x (List.mem_of_getElem? HX.out.1)).2.1 (HH.out.2.2.1 x (List.mem_of_getElem? HX.out.1)).2.2 (HX.out.2.2.2.1.below (below_then HV.out.1 hb2)) HX.out.2.2.2.2 hz2.2
        have HL2 : Hid (Li w w2 (w.heap.size + 1) w.heap.size v sq tr ms) := L2
        clear hrf hb2 L2 hz2 f0 f1 f2 f3 f4 f5 f6 lp
        go_wp2_with fail
        refine hpt.mono ?_
        rintro _ w3 ⟨rfl, a, c, hfq, hq⟩
        have HI : Hid (LdIF w (w.heap.size + 1) w.heap.size sq tr xs (i + 1) w3) := LdIF.next HR.out.ref HL2.out HX.out.2.2.1 HX.out.1 (by rw [← HC.out]; exact HZ.out) HFR.out hfq hq
        clear hpt cx hq hfq
        go_wp2_with fail
        go_roundw
        case rel => exact ⟨i + 1, hlt, by go_num, HI⟩
        case measure => simp [intOf]; omega
      · have HZ : Hid (¬ refS sq ms x = 0) := hz
        obtain ⟨cd, hcd⟩ : ∃ cd, refS sq ms x = cd := ⟨_, rfl⟩
        have HCD : Hid (refS sq ms x = cd) := hcd
        rw [hcd] at hrf hz
        have hne : (cd != 0) = true := by simpa using hz
        clear hz hcd
        go_wp2_with fail
        refine hrf.mono ?_
        rintro _ w2 ⟨rfl, hb2⟩
        have HB2 : Hid (Below w.heap.size w w2) := (HX.out.2.1.below (below_then HV.out.1 hb2)).bel
        clear hrf hb2 f0 f1 f2 f3 f4 f5 f6 lp
        go_wp2_with fail
        refine (fault_any _ _ _).mono ?_
        rintro _ w3 ⟨rfl, hf3, hb3⟩
        have HB3 : Hid (OFault w3 w2.heap.size i cd ∧ w.heap.size ≤ w2.heap.size ∧ Below w.heap.size w w3) := ⟨hf3, HB2.out.size, below_then HB2.out hb3⟩
        clear hf3 hb3
        go_wp2_with fail
        go_ret2
        refine Or.inl ⟨_, _, _, rfl, HB3.out.2.1, HB3.out.1, ?_, HB3.out.2.2⟩
        exact LdNo.here HH.out.2.2.2.1 HH.out.2.2.2.2.1 (by rw [HN.out]; exact HH.out.2.2.2.2.2) HX.out.1 HR.out.ref (HC.out.symm.trans HCD.out) (by rw [← HCD.out]; exact HZ.out)
    · have hlt1 : ¬ (i : Int) < n := by omega
      obtain rfl : i = n := by omega
      go_wp2_with fail
      go_ret2
      obtain ⟨v, ms, L, hW, hfr⟩ := HR.out.ex
      rw [List.take_of_length_le (by rw [HN.out]; exact Nat.le_refl _)] at hW
      refine Or.inr ⟨_, _, v, ms, rfl, L, by omega, hfr, hW, HH.out.2.2.2.1, HH.out.2.2.2.2.1, by rw [HN.out]; exact HH.out.2.2.2.2.2, fun j y hy => HR.out.ref j y ?_ hy⟩
      have := (List.getElem?_eq_some_iff.1 hy).1
      have := HN.out
      omega
end Go.Proofs.YtoijhecphgdfnaaGreatDoor

/-
  The document's box: Due.
-/
namespace Go.Proofs.YtoijhecphgdfnaaGreatDoor
open Go.RowKit

section
variable {w w' : World} {B r : Nat} {L : Value} {sq : Bool} {tr : Int} {ms : List Msg}
set_option maxRecDepth 100000 in
set_option maxHeartbeats 4000000 in
theorem rDue_no (h : RB w B r L sq tr ms) (s : ByteArray) (hn : fi s ms = none) : Calls Tryz.prog 30 #[.pointer (some ⟨r, 0, none⟩), .string s] w (RCaQ w B r L sq tr ms [] 11) := by
  have hx := rfind_any h s
  have HZ : Hid (RCaQ w B r L sq tr ms [] 11 (.returned (.tuple #[.slice none 0 0, .int .i64 11])) w) := rca_no h 11
  rw [show fiI s ms = -1 by unfold fiI; rw [hn]] at hx
  clear h hn
  go_enter Tryz.func30, Tryz.ntmps30
  go_wp2_with (go_at_call 47; refine hx.mono ?_; rintro _ w9 ⟨rfl, h9⟩; subst w9)
  go_ret2
  exact HZ.out
set_option maxRecDepth 100000 in
set_option maxHeartbeats 4000000 in
theorem rDue_not (h : RB w B r L sq tr ms) (s : ByteArray) {i : Nat} {m : Msg} (hn : fi s ms = some i) (hm : ms[i]? = some m) (hu : m.un = false) : Calls Tryz.prog 30 #[.pointer (some ⟨r, 0, none⟩), .string s] w (RCaQ w B r L sq tr ms [] 281) := by
  have hx := rfind_any h s
  have HZ : Hid (RCaQ w B r L sq tr ms [] 281 (.returned (.tuple #[.slice none 0 0, .int .i64 281])) w) := rca_no h 281
  rw [show fiI s ms = (i : Int) by unfold fiI; rw [hn]] at hx
  obtain ⟨a, c, e1, _⟩ := ERow.isSlice h.row
  subst e1
  obtain ⟨n, hnn⟩ : ∃ n, ms.length = n := ⟨_, rfl⟩
  have c0 := hcell h.blk 0
  have hi : i < n := by rw [← hnn]; exact (List.getElem?_eq_some_iff.1 hm).1
  rw [hnn] at c0 HZ ⊢
  have hi1 : (i : Int) < n := by omega
  obtain ⟨g, rfl, hg, hc⟩ := erow_cells h.row hm
  have d9 := hc.c9
  rw [hu] at d9
  clear h hn hm hnn hc
  go_enter Tryz.func30, Tryz.ntmps30
  go_wp2_with (go_at_call 47; refine hx.mono ?_; rintro _ w9 ⟨rfl, h9⟩; subst w9)
  go_ret2
  exact HZ.out
set_option maxRecDepth 100000 in
set_option maxHeartbeats 8000000 in
theorem rDue_yes (h : RB w B r L sq tr ms) (s : ByteArray) {i : Nat} {m : Msg} (hn : fi s ms = some i) (hm : ms[i]? = some m) (hu : m.un = true) : Calls Tryz.prog 30 #[.pointer (some ⟨r, 0, none⟩), .string s] w (RCaQ w B r L sq tr (donS ms i { m with st := (dueS m.e m.a m.p m.st m.lf).st, lf := (dueS m.e m.a m.p m.st m.lf).lf } 0 (dueS m.e m.a m.p m.st m.lf).l) (deedsS m.ct (dueS m.e m.a m.p m.st m.lf).l) 0) := by
  have hx := rfind_any h s
  rw [show fiI s ms = (i : Int) by unfold fiI; rw [hn]] at hx
  have hS : ∀ z, Below w.heap.size w z → Calls Tryz.prog 67 #[.agg #[.bool m.e, .int .i64 m.a, .int .i64 m.p], .agg #[.int .i64 m.st, .int .i64 m.lf]] z (AnsQ (dueS m.e m.a m.p m.st m.lf) z) := fun z _ => rDue_any m.e m.a m.p m.st m.lf z
  obtain ⟨x, hxx⟩ : ∃ x, dueS m.e m.a m.p m.st m.lf = x := ⟨_, rfl⟩
  have HLx : Hid (x.l.length ≤ 1000) := by
    unfold Hid
    rw [← hxx]
    unfold dueS
    repeat' split
    all_goals (show List.length _ ≤ 1000; simp)
  rw [hxx] at hS ⊢
  obtain ⟨st, lf, l, at_, cn⟩ := x
  obtain ⟨a, c, e1, _⟩ := ERow.isSlice h.row
  subst e1
  obtain ⟨n, hnn⟩ : ∃ n, ms.length = n := ⟨_, rfl⟩
  have c0 := hcell h.blk 0
  have c1 := hcell h.blk 1
  have c2 := hcell h.blk 2
  have hi : i < n := by rw [← hnn]; exact (List.getElem?_eq_some_iff.1 hm).1
  have HH : Hid (RB w B r (.slice a n c) sq tr ms ∧ ms[i]? = some m) := ⟨by have := h; rw [hnn] at this; exact this, hm⟩
  rw [hnn] at c0 ⊢
  have hi1 : (i : Int) < n := by omega
  have hn32 : (n : Int) ≤ 1000 := by have := h.len; omega
  obtain ⟨g, rfl, hg, hc⟩ := erow_cells h.row hm
  obtain ⟨d0, d1, d2, d3, d4, d5, d6, d7, d8, d9⟩ := hc
  have lr := h.lt
  have HS : Hid (∀ z, Below w.heap.size w z → Calls Tryz.prog 67 #[.agg #[.bool m.e, .int .i64 m.a, .int .i64 m.p], .agg #[.int .i64 m.st, .int .i64 m.lf]] z fun e z' => ∃ aa ca, e = .returned (.tuple #[.agg #[.int .i64 st, .int .i64 lf], .slice aa l.length ca, .int .i64 cn]) ∧ Hid (ActRow z' z.heap.size (.slice aa l.length ca) l ∧ Below z.heap.size z z') ∧ Hid (Below w.heap.size w z')) := fun z hz => (hS z hz).mono fun e z' ⟨lv, q1, q2, q3⟩ => by
    obtain ⟨aa, ca, e2, _⟩ := ActRow.isSlice q2
    subst e2
    exact ⟨aa, ca, q1, ⟨q2, q3⟩, below_then hz q3⟩
  clear h hn hm hnn hxx hS
  rw [hu] at d9
  go_enter Tryz.func30, Tryz.ntmps30
  go_upto_region 8 with (go_at_call 47; refine hx.mono ?_; rintro _ w9 ⟨rfl, h9⟩; subst w9)
  clear hx
  go_cut [7, 8] (fun t5 t6 wx => ∃ wb aa ca, t5 = .pointer (some ⟨wb, 0, none⟩) ∧ t6 = .slice aa l.length ca ∧ Hid (Box wx wb #[.int .i64 st, .int .i64 lf] ∧ w.heap.size ≤ wb ∧ ActRow wx w.heap.size (.slice aa l.length ca) l ∧ Below w.heap.size w wx))
  case first =>
    clear HH HLx
    have HX : Hid (∀ w1 aa ca, ActRow w1 (w.alloc (.cells #[.int .i64 0, .int .i64 0] 89)).drew.heap.size (.slice aa l.length ca) l → Below (w.alloc (.cells #[.int .i64 0, .int .i64 0] 89)).drew.heap.size (w.alloc (.cells #[.int .i64 0, .int .i64 0] 89)).drew w1 → (w1.cell? ⟨w.heap.size, 0, none⟩ = some (.int .i64 0) ∧ w1.cell? ⟨w.heap.size, 1, none⟩ = some (.int .i64 0) ∧ w1.frozen? ⟨w.heap.size, 0, none⟩ = false ∧ w1.frozen? ⟨w.heap.size, 1, none⟩ = false) ∧ Hid (Box ((w1.setCell ⟨w.heap.size, 0, none⟩ (.int .i64 st)).setCell ⟨w.heap.size, 1, none⟩ (.int .i64 lf)) w.heap.size #[.int .i64 st, .int .i64 lf] ∧ w.heap.size ≤ w.heap.size ∧ ActRow ((w1.setCell ⟨w.heap.size, 0, none⟩ (.int .i64 st)).setCell ⟨w.heap.size, 1, none⟩ (.int .i64 lf)) w.heap.size (.slice aa l.length ca) l ∧ Below w.heap.size w ((w1.setCell ⟨w.heap.size, 0, none⟩ (.int .i64 st)).setCell ⟨w.heap.size, 1, none⟩ (.int .i64 lf)))) := fun w1 aa ca q2 q3 => by
      have bx := ((Box.new w #[.int .i64 0, .int .i64 0] 89).drew).below q3
      have b0 : Below w.heap.size w (w.alloc (.cells #[.int .i64 0, .int .i64 0] 89)).drew := ((Below.refl _ _).alloc (Nat.le_refl _) _).drew
      have hb := below_then b0 q3
      refine ⟨⟨bx.cell 0, bx.cell 1, bx.free 0, bx.free 1⟩, ?_, Nat.le_refl _, ?_, ?_⟩
      · have := (bx.pPut (j := 0) (by simp) (.int .i64 st)).pPut (j := 1) (by simp) (.int .i64 lf)
        simpa using this
      · have hne : ∀ g, (Value.slice aa l.length ca).ownBlock = some g → g ≠ w.heap.size := fun g hg => by
          have h1 := q2.ne hg
          simp at h1
          omega
        exact ((q2.set (p := ⟨w.heap.size, 0, none⟩) hne).set (p := ⟨w.heap.size, 1, none⟩) hne).mono b0.size
      · exact (hb.setCell (p := ⟨w.heap.size, 0, none⟩) (Nat.le_refl _) _).setCell (p := ⟨w.heap.size, 1, none⟩) (Nat.le_refl _) _
    have gs : ∀ {z : World}, Below w.heap.size w z → z.cell? ⟨r, 0, none⟩ = some (.slice (some ⟨g, 0, none⟩) n c) ∧ z.cell? ⟨g, i * 10 + 2, none⟩ = some (.bool m.e) ∧ z.cell? ⟨g, i * 10 + 3, none⟩ = some (.int .i64 m.a) ∧ z.cell? ⟨g, i * 10 + 4, none⟩ = some (.int .i64 m.p) ∧ z.cell? ⟨g, i * 10 + 7, none⟩ = some (.int .i64 m.st) ∧ z.cell? ⟨g, i * 10 + 8, none⟩ = some (.int .i64 m.lf) := fun {z} hz => ⟨(hz.cell (p := ⟨r, 0, none⟩) lr).trans c0, (hz.cell (p := ⟨g, i * 10 + 2, none⟩) hg).trans d2, (hz.cell (p := ⟨g, i * 10 + 3, none⟩) hg).trans d3, (hz.cell (p := ⟨g, i * 10 + 4, none⟩) hg).trans d4, (hz.cell (p := ⟨g, i * 10 + 7, none⟩) hg).trans d7, (hz.cell (p := ⟨g, i * 10 + 8, none⟩) hg).trans d8⟩
    clear d0 d1 d5 d6 d9 c1 c2
    go_region_held3 (fun z => z.cell? ⟨r, 0, none⟩ = some (.slice (some ⟨g, 0, none⟩) n c) ∧ z.cell? ⟨g, i * 10 + 2, none⟩ = some (.bool m.e) ∧ z.cell? ⟨g, i * 10 + 3, none⟩ = some (.int .i64 m.a) ∧ z.cell? ⟨g, i * 10 + 4, none⟩ = some (.int .i64 m.p) ∧ z.cell? ⟨g, i * 10 + 7, none⟩ = some (.int .i64 m.st) ∧ z.cell? ⟨g, i * 10 + 8, none⟩ = some (.int .i64 m.lf)) ((refine gs ?_; (repeat' (first | (with_reducible exact Below.refl _ _) | (with_reducible exact Hid.out (by assumption)) | (with_reducible refine Below.drew ?_) | (refine Below.alloc ?_ (by first | exact Nat.le_refl _ | exact (Hid.out (by assumption : Hid (Below w.heap.size w _))).size) _) | (refine Below.setCell ?_ (by first | exact Nat.le_refl _ | exact (Hid.out (by assumption : Hid (Below w.heap.size w _))).size) _))))) ((go_at_call 67; refine (HS.out _ ?_).mono ?_; (repeat' (first | (with_reducible exact Below.refl _ _) | (with_reducible refine Below.drew ?_) | (with_reducible refine Below.alloc ?_ (Nat.le_refl _) _))); rintro _ w1 ⟨aa, ca, rfl, H1, H1b⟩; (first | (obtain ⟨⟨z0, z1, z2, z3⟩, HX2⟩ := HX.out _ _ _ H1.out.1 H1.out.2) | skip)))
    all_goals
      go_wp2_with fail
      go_meet
      first | exact ⟨_, _, _, rfl, rfl, HX2⟩ | exact ⟨_, _, _, rfl, rfl, Box.new _ _ _, H1b.out.size, ActRow.below (H1.out.1.mono (Nat.le_refl _)) ((Below.refl _ _).alloc (Nat.le_refl _) _), H1b.out.alloc H1b.out.size _⟩
  case rest =>
    obtain ⟨W1, rfl⟩ : ∃ U, U = wc := ⟨_, rfl⟩
    obtain ⟨wb, aa, ca, rfl, rfl, HW⟩ := hcut
    clear c0 c1 c2 d0 d1 d2 d3 d4 d5 d6 d7 d8 d9 lr HS hg
    have h1 := HH.out.1.below HW.out.2.2.2
    have k0 := HW.out.1.cell 0
    have k1 := HW.out.1.cell 1
    have hdn := rdone_any h1 HH.out.2 st lf 0 HW.out.2.2.1 HLx.out
    have HO : Hid (Below w.heap.size w W1) := HW.out.2.2.2
    clear h1 HH HW
    go_wp2_with fail
    refine hdn.mono ?_
    rintro _ w3 ⟨a3, c3, rfl, H3⟩
    have HZ : Hid (RCaQ w B r (.slice (some ⟨g, 0, none⟩) n c) sq tr (donS ms i { m with st := st, lf := lf } 0 l) (deedsS m.ct l) 0 (.returned (.tuple #[.slice a3 (deedsS m.ct l).length c3, .int .i64 0])) w3) := ⟨a3, c3, rfl, ERow.base H3.out.1 HO.out.size, RBQ.back HO.out H3.out.2⟩
    clear hdn H3 HO k0 k1
    go_wp2_with fail
    go_ret2
    exact HZ.out
end
end Go.Proofs.YtoijhecphgdfnaaGreatDoor

/-
  The document's box: Heard, what it refuses, and what is nothing new.
-/
namespace Go.Proofs.YtoijhecphgdfnaaGreatDoor
open Go.RowKit

/-- Whether what was heard is nothing new. -/
def strB (sq : Bool) (nu : Int) (cd : ByteArray) (x : Int) : Bool := (sq && (cd.toList == [67, 69] || cd.toList == [65, 69]) && decide (0 < x)) && (x == nu)
section
variable {w w' : World} {B r : Nat} {L : Value} {sq : Bool} {tr : Int} {ms : List Msg}
set_option maxRecDepth 100000 in
set_option maxHeartbeats 4000000 in
theorem rHeard_no (h : RB w B r L sq tr ms) (s cd : ByteArray) (x : Int) (hn : fi s ms = none) : Calls Tryz.prog 28 #[.pointer (some ⟨r, 0, none⟩), .string s, .string cd, .int .i64 x] w (RCaQ w B r L sq tr ms [] 11) := by
  have hx := rfind_any h s
  have HZ : Hid (RCaQ w B r L sq tr ms [] 11 (.returned (.tuple #[.slice none 0 0, .int .i64 11])) w) := rca_no h 11
  rw [show fiI s ms = -1 by unfold fiI; rw [hn]] at hx
  clear h hn
  go_enter Tryz.func28, Tryz.ntmps28
  go_wp2_with (go_at_call 47; refine hx.mono ?_; rintro _ w9 ⟨rfl, h9⟩; subst w9)
  go_ret2
  exact HZ.out
set_option maxRecDepth 100000 in
set_option maxHeartbeats 4000000 in
theorem rHeard_not (h : RB w B r L sq tr ms) (s cd : ByteArray) (x : Int) {i : Nat} {m : Msg} (hn : fi s ms = some i) (hm : ms[i]? = some m) (hu : m.un = false) : Calls Tryz.prog 28 #[.pointer (some ⟨r, 0, none⟩), .string s, .string cd, .int .i64 x] w (RCaQ w B r L sq tr ms [] 281) := by
  have hx := rfind_any h s
  have HZ : Hid (RCaQ w B r L sq tr ms [] 281 (.returned (.tuple #[.slice none 0 0, .int .i64 281])) w) := rca_no h 281
  rw [show fiI s ms = (i : Int) by unfold fiI; rw [hn]] at hx
  obtain ⟨a, c, e1, _⟩ := ERow.isSlice h.row
  subst e1
  obtain ⟨n, hnn⟩ : ∃ n, ms.length = n := ⟨_, rfl⟩
  have c0 := hcell h.blk 0
  have hi : i < n := by rw [← hnn]; exact (List.getElem?_eq_some_iff.1 hm).1
  rw [hnn] at c0 HZ ⊢
  have hi1 : (i : Int) < n := by omega
  obtain ⟨g, rfl, hg, hc⟩ := erow_cells h.row hm
  have d9 := hc.c9
  rw [hu] at d9
  clear h hn hm hnn hc
  go_enter Tryz.func28, Tryz.ntmps28
  go_wp2_with (go_at_call 47; refine hx.mono ?_; rintro _ w9 ⟨rfl, h9⟩; subst w9)
  go_ret2
  exact HZ.out
set_option maxRecDepth 100000 in
set_option maxHeartbeats 4000000 in
theorem rHeard_given (h : RB w B r L sq tr ms) (s cd : ByteArray) (x : Int) {i : Nat} {m : Msg} (hn : fi s ms = some i) (hm : ms[i]? = some m) (hu : m.un = true) (hg : x < 0 ∨ 2147483647 < x) : Calls Tryz.prog 28 #[.pointer (some ⟨r, 0, none⟩), .string s, .string cd, .int .i64 x] w (RCaQ w B r L sq tr ms [] 282) := by
  have hx := rfind_any h s
  have HZ : Hid (RCaQ w B r L sq tr ms [] 282 (.returned (.tuple #[.slice none 0 0, .int .i64 282])) w) := rca_no h 282
  rw [show fiI s ms = (i : Int) by unfold fiI; rw [hn]] at hx
  obtain ⟨a, c, e1, _⟩ := ERow.isSlice h.row
  subst e1
  obtain ⟨n, hnn⟩ : ∃ n, ms.length = n := ⟨_, rfl⟩
  have c0 := hcell h.blk 0
  have hi : i < n := by rw [← hnn]; exact (List.getElem?_eq_some_iff.1 hm).1
  rw [hnn] at c0 HZ ⊢
  have hi1 : (i : Int) < n := by omega
  obtain ⟨g, rfl, _, hc⟩ := erow_cells h.row hm
  have d9 := hc.c9
  rw [hu] at d9
  clear h hn hm hnn hc
  rcases Int.lt_or_le x 0 with hlt | hge
  · clear hg
    go_enter Tryz.func28, Tryz.ntmps28
    go_wp2_with (go_at_call 47; refine hx.mono ?_; rintro _ w9 ⟨rfl, h9⟩; subst w9)
    go_ret2
    exact HZ.out
  · have h1 : ¬ x < 0 := by omega
    have h2 : x > 2147483647 := by omega
    clear hg hge
    go_enter Tryz.func28, Tryz.ntmps28
    go_wp2_with (go_at_call 47; refine hx.mono ?_; rintro _ w9 ⟨rfl, h9⟩; subst w9)
    go_ret2
    exact HZ.out
theorem deed_lit (w : World) (c : ByteArray) (k : Int) (cd : ByteArray) : DRow (w.alloc (.cells #[.string c, .int .i64 k, .string cd] 105)) w.heap.size (.slice (some ⟨w.heap.size, 0, none⟩) 1 1) [(c, k, cd)] :=
  ⟨rfl, Or.inr ⟨w.heap.size, 1, _, rfl, Nat.le_refl _, heap_alloc_new _ _, Nat.le_refl _, by decide, rfl, rfl⟩⟩
set_option maxRecDepth 100000 in
set_option maxHeartbeats 8000000 in
theorem rHeard_strange (h : RB w B r L sq tr ms) (s cd : ByteArray) (x : Int) {i : Nat} {m : Msg} (hn : fi s ms = some i) (hm : ms[i]? = some m) (hu : m.un = true) (h0 : 0 ≤ x) (hq : strB sq m.nu cd x = true) (h9 : x ≤ 2147483647) : Calls Tryz.prog 28 #[.pointer (some ⟨r, 0, none⟩), .string s, .string cd, .int .i64 x] w (RCaQ w B r L sq tr ms (deedsS s [(6, nT)]) 0) := by
  have hx := rfind_any h s
  rw [show fiI s ms = (i : Int) by unfold fiI; rw [hn]] at hx
  obtain ⟨a, c, e1, _⟩ := ERow.isSlice h.row
  subst e1
  obtain ⟨n, hnn⟩ : ∃ n, ms.length = n := ⟨_, rfl⟩
  have HH : Hid (RB w B r (.slice a n c) sq tr ms) := by have := h; rw [hnn] at this; exact this
  have c0 := hcell h.blk 0
  have c1 := hcell h.blk 1
  have hi : i < n := by rw [← hnn]; exact (List.getElem?_eq_some_iff.1 hm).1
  rw [hnn] at c0 ⊢
  have hi1 : (i : Int) < n := by omega
  obtain ⟨g, rfl, hg, hc⟩ := erow_cells h.row hm
  obtain ⟨d0, d1, d2, d3, d4, d5, d6, d7, d8, d9⟩ := hc
  have lr := h.lt
  rw [hu] at d9
  unfold strB at hq
  simp only [Bool.and_eq_true, decide_eq_true_eq, beq_iff_eq] at hq
  obtain ⟨⟨⟨rfl, q1⟩, q2⟩, q3⟩ := hq
  have y1 : ¬ x < 0 := by omega
  have y2 : ¬ x > 2147483647 := by omega
  have y3 : x > 0 := q2
  subst q3
  clear h hn hm hnn q2
  have HZ : Hid (∀ V, Below w.heap.size w V → RCaQ w B r (.slice (some ⟨g, 0, none⟩) n c) true tr ms (deedsS s [(6, nT)]) 0 (.returned (.tuple #[.slice (some ⟨V.heap.size, 0, none⟩) 1 1, .int .i64 0])) (V.alloc (.cells #[.string s, .int .i64 6, .string ⟨#[]⟩] 105))) := fun V hV => ⟨some ⟨V.heap.size, 0, none⟩, 1, rfl, ERow.base (deed_lit V s 6 nT) hV.size, RBQ.back (hV.alloc hV.size _) (RBQ.refl (HH.out.below (hV.alloc hV.size _)))⟩
  have HB : Hid (Below w.heap.size w (w.alloc (.cells #[.string m.ct, .slice m.tp m.tn m.tc, .bool m.e, .int .i64 m.a, .int .i64 m.p, .int .i64 m.nu, .bool m.nt, .int .i64 m.st, .int .i64 m.lf, .bool true] 91))) := (Below.refl _ _).alloc (Nat.le_refl _) _
  clear HH
  cases hb1 : (cd.toList == [67, 69])
  · rw [hb1] at q1
    simp only [Bool.false_or] at q1
    go_enter Tryz.func28, Tryz.ntmps28
    go_wp2_with (go_at_call 47; refine hx.mono ?_; rintro _ w9 ⟨rfl, h9⟩; subst w9)
    go_ret2
    have hz := HZ.out _ HB.out
    rw [World.size_alloc] at hz
    exact hz
  · clear q1
    go_enter Tryz.func28, Tryz.ntmps28
    go_wp2_with (go_at_call 47; refine hx.mono ?_; rintro _ w9 ⟨rfl, h9⟩; subst w9)
    go_ret2
    have hz := HZ.out _ HB.out
    rw [World.size_alloc] at hz
    exact hz
end
end Go.Proofs.YtoijhecphgdfnaaGreatDoor
