import Derived.Test.YtoijhecphgdfnaaDoorOxBkS
import Derived.Test.YtoijhecphgdfnaaDoorOxLaw0
import Derived.Test.YtoijhecphgdfnaaDoorOxHeard2
/-
  Lists of Outs: that came in, or of the call's own. What Load asks of one.
-/
namespace Go.Proofs.YtoijhecphgdfnaaDoor
open Go.RowKit

structure OutAt (w : World) (b o : Nat) (x : Msg) : Prop where
  lt : b < w.heap.size
  c0 : w.cell? ⟨b, o, none⟩ = some (.string x.ct)
  c1 : w.cell? ⟨b, o + 1, none⟩ = some (.slice x.tp x.tn x.tc)
  c2 : w.cell? ⟨b, o + 2, none⟩ = some (.bool x.e)
  c3 : w.cell? ⟨b, o + 3, none⟩ = some (.int .i64 x.a)
  c4 : w.cell? ⟨b, o + 4, none⟩ = some (.int .i64 x.p)
  c5 : w.cell? ⟨b, o + 5, none⟩ = some (.int .i64 x.nu)
  c6 : w.cell? ⟨b, o + 6, none⟩ = some (.bool x.nt)
  p : Byts w x.tp x.tn x.tx
  q : x.tp = none → x.tc = 0
theorem OutAt.below {w w' : World} {b o : Nat} {x : Msg} (h : OutAt w b o x) (hb : Below w.heap.size w w') : OutAt w' b o x := by
  have e : ∀ q, w'.cell? ⟨b, q, none⟩ = w.cell? ⟨b, q, none⟩ := fun q => hb.cell (p := ⟨b, q, none⟩) h.lt
  exact ⟨Nat.lt_of_lt_of_le h.lt hb.size, by rw [e]; exact h.c0, by rw [e]; exact h.c1, by rw [e]; exact h.c2, by rw [e]; exact h.c3, by rw [e]; exact h.c4, by rw [e]; exact h.c5, by rw [e]; exact h.c6, h.p.below hb, h.q⟩
def Outs (w : World) (ao : Option Addr) (xs : List Msg) : Prop := ∀ (j : Nat) (x : Msg), xs[j]? = some x → ∃ b off, ao = some ⟨b, off, none⟩ ∧ OutAt w b (off + j * 7) x
theorem Outs.below {w w' : World} {ao : Option Addr} {xs : List Msg} (h : Outs w ao xs) (hb : Below w.heap.size w w') : Outs w' ao xs := fun j x hx => by
  obtain ⟨b, off, e, ho⟩ := h j x hx
  exact ⟨b, off, e, ho.below hb⟩
/-- A message as it goes in: nothing of its turn. -/
def Plain (m : Msg) : Prop := m.st = 0 ∧ m.lf = 0 ∧ m.un = false
/-- What Load takes. -/
structure Good (sq : Bool) (tr : Int) (xs : List Msg) : Prop where
  t0 : 0 ≤ tr
  t1 : tr ≤ 16
  len : xs.length ≤ 32
  ref : ∀ (j : Nat) (x : Msg), xs[j]? = some x → refS sq (xs.take j) x = 0
theorem fi_ids_eq (s : ByteArray) (ms : List Msg) : fi s ms = (ids ms).findIdx? (fun k => k == s.toList) := by
  unfold fi ids
  rw [List.findIdx?_map]
  rfl
theorem refS_wis {sq : Bool} {ms xs : List Msg} (h : Wis ms xs) (x : Msg) : refS sq ms x = refS sq xs x := by
  unfold refS
  rw [fi_ids_eq, fi_ids_eq, h.ids, h.1]
theorem Wis.take {ms xs : List Msg} (h : Wis ms xs) (k : Nat) : Wis (ms.take k) (xs.take k) := by
  refine ⟨by simp [h.1], fun i m x hm hx => ?_⟩
  rw [List.getElem?_take] at hm hx
  split at hm
  · rename_i hk
    rw [if_pos hk] at hx
    exact h.2 i m x hm hx
  · cases hm
/-- Load's answer. -/
def LdQ (w : World) (sq : Bool) (tr : Int) (xs : List Msg) (e : Ending) (w' : World) : Prop :=
  ((∃ z, e = .returned (.tuple #[.pointer none, .iface 91 (.pointer (some ⟨z, 0, none⟩))])) ∧ ¬ Good sq tr xs ∧ Below w.heap.size w w') ∨
  (∃ b kb v ms, e = .returned (.tuple #[.pointer (some ⟨b, 0, none⟩), .nilIface]) ∧ Li w w' b kb v sq tr ms ∧ Wis ms xs ∧ Good sq tr xs)
/-- In the midst of Load. -/
structure LdI (w : World) (b kb : Nat) (sq : Bool) (tr : Int) (xs : List Msg) (i : Nat) (wx : World) : Prop where
  ex : ∃ v ms, Li w wx b kb v sq tr ms ∧ Wis ms (xs.take i)
  ref : ∀ (j : Nat) (x : Msg), j < i → xs[j]? = some x → refS sq (xs.take j) x = 0
theorem LdI.next {w wx w' : World} {b kb : Nat} {v : Value} {sq : Bool} {tr : Int} {xs ms : List Msg} {i : Nat} {x : Msg} {a : Option Addr} {c : Nat} (h : ∀ (j : Nat) (x : Msg), j < i → xs[j]? = some x → refS sq (xs.take j) x = 0) (L : Li w wx b kb v sq tr ms) (hW : Wis ms (xs.take i)) (hx : xs[i]? = some x) (hr : refS sq (xs.take i) x = 0) (hq : BxQ wx b kb v sq tr (ms ++ [x.wi a c]) w') : LdI w b kb sq tr xs (i + 1) w' := by
  obtain ⟨v', L'⟩ := L.step hq
  refine ⟨⟨v', _, L', ?_⟩, fun j y hj hy => ?_⟩
  · rw [List.take_add_one, hx]
    exact hW.snoc ⟨a, c, rfl⟩
  · by_cases e : j < i
    · exact h j y e hy
    · obtain rfl : j = i := by omega
      rw [hx] at hy
      obtain rfl : x = y := by simpa using hy
      exact hr
/-- The box that Load makes: empty. -/
theorem ld_start (w : World) (sq : Bool) (tr : Int) (xs : List Msg) : LdI w (w.heap.size + 1) w.heap.size sq tr xs 0 ((w.alloc (.cells #[.func (.func 23) #[] #[], .slice none 0 0] 80)).alloc (.cells #[.pointer (some ⟨w.heap.size, 0, none⟩), .bool sq, .int .i64 tr] 82)) := by
  have b2 : Below w.heap.size w ((w.alloc (.cells #[.func (.func 23) #[] #[], .slice none 0 0] 80)).alloc (.cells #[.pointer (some ⟨w.heap.size, 0, none⟩), .bool sq, .int .i64 tr] 82)) := ((Below.refl _ _).alloc (Nat.le_refl _) _).alloc (by simp) _
  refine ⟨⟨.slice none 0 0, [], ⟨⟨?_, ⟨?_, ERow.nil _ _ _ _ _, by simp⟩, fun m hm => by cases hm⟩, b2, Nat.le_refl _, fun q e => by cases e⟩, Wis.nil⟩, fun j x hj _ => by omega⟩
  · show ((w.heap.push _).push _)[w.heap.size + 1]? = _
    rw [Array.getElem?_push, if_pos (by simp)]
  · show ((w.heap.push _).push _)[w.heap.size]? = _
    rw [Array.getElem?_push, if_neg (by simp), Array.getElem?_push, if_pos rfl]
end Go.Proofs.YtoijhecphgdfnaaDoor

/-
  Load of any list.
-/
namespace Go.Proofs.YtoijhecphgdfnaaDoor
open Go.RowKit

set_option maxRecDepth 100000 in
set_option maxHeartbeats 4000000 in
theorem load_any (sq : Bool) (tr : Int) (ao : Option Addr) (cap : Nat) (xs : List Msg) (w : World) (hV : PVc w) (ho : Outs w ao xs) (hp : ∀ x ∈ xs, Plain x) (hl : xs.length ≤ 140737488355328) :
    Calls Tryd.prog 8 #[.slice ao xs.length cap, .bool sq, .int .i64 tr] w (LdQ w sq tr xs) := by
  obtain ⟨n, hn⟩ : ∃ n, xs.length = n := ⟨_, rfl⟩
  have HN : Hid (xs.length = n) := hn
  rw [hn] at hl ⊢
  clear hn
  by_cases h0 : tr < 0
  · have HG : Hid (¬ Good sq tr xs) := fun g => by have := g.t0; omega
    clear ho hp hV
    go_enter Tryd.func8, Tryd.ntmps8
    go_wp2_with fail
    refine (fault_any _ _ _).mono ?_
    rintro _ w2 ⟨rfl, hf2, hb2⟩
    have HE : Hid (Below w.heap.size w w2) := hb2
    clear hf2 hb2
    go_wp2_with fail
    go_ret2
    exact Or.inl ⟨⟨_, rfl⟩, HG.out, HE.out⟩
  by_cases h1 : tr > 16
  · have HG : Hid (¬ Good sq tr xs) := fun g => by have := g.t1; omega
    clear ho hp hV
    go_enter Tryd.func8, Tryd.ntmps8
    go_wp2_with fail
    refine (fault_any _ _ _).mono ?_
    rintro _ w2 ⟨rfl, hf2, hb2⟩
    have HE : Hid (Below w.heap.size w w2) := hb2
    clear hf2 hb2
    go_wp2_with fail
    go_ret2
    exact Or.inl ⟨⟨_, rfl⟩, HG.out, HE.out⟩
  by_cases h2 : n > 32
  · have g2 : (n : Int) > 32 := by omega
    have HG : Hid (¬ Good sq tr xs) := fun g => by have := g.len; have := HN.out; omega
    clear ho hp hV h2
    go_enter Tryd.func8, Tryd.ntmps8
    go_wp2_with fail
    refine (fault_any _ _ _).mono ?_
    rintro _ w2 ⟨rfl, hf2, hb2⟩
    have HE : Hid (Below w.heap.size w w2) := hb2
    clear hf2 hb2
    go_wp2_with fail
    go_ret2
    exact Or.inl ⟨⟨_, rfl⟩, HG.out, HE.out⟩
  have g2 : ¬ (n : Int) > 32 := by omega
  have HH : Hid (PVc w ∧ Outs w ao xs ∧ (∀ x ∈ xs, Plain x) ∧ 0 ≤ tr ∧ tr ≤ 16 ∧ n ≤ 32) := ⟨hV, ho, hp, by omega, by omega, by omega⟩
  have HS : Hid (LdI w (w.heap.size + 1) w.heap.size sq tr xs 0 ((w.alloc (.cells #[.func (.func 23) #[] #[], .slice none 0 0] 80)).alloc (.cells #[.pointer (some ⟨w.heap.size, 0, none⟩), .bool sq, .int .i64 tr] 82))) := ld_start w sq tr xs
  clear hV ho hp h2
  go_enter Tryd.func8, Tryd.ntmps8
  go_wp2_with fail
  go_loopw [33] (fun t wx => ∃ i : Nat, i ≤ n ∧ t = .int .i64 i ∧ Hid (LdI w (w.heap.size + 1) w.heap.size sq tr xs i wx)) (fun t _ => n - (intOf t).toNat)
  case atStart => exact ⟨0, Nat.zero_le _, rfl, HS⟩
  case round =>
    obtain ⟨i, hi, rfl, HR⟩ := hrel
    clear HS
    by_cases hlt : i < n
    · have hlt1 : (i : Int) < n := by omega
      obtain ⟨x, hx⟩ : ∃ x, xs[i]? = some x := ⟨_, List.getElem?_eq_getElem (by rw [HN.out]; exact hlt)⟩
      obtain ⟨v, ms, L, hW⟩ := HR.out.ex
      obtain ⟨pb, off, rfl, hat⟩ := HH.out.2.1 i x hx
      have hatr := hat.below L.bel
      have f0 := hatr.c0
      have f1 := hatr.c1
      have f2 := hatr.c2
      have f3 := hatr.c3
      have f4 := hatr.c4
      have f5 := hatr.c5
      have f6 := hatr.c6
      have lp := hatr.lt
      have HX : Hid (xs[i]? = some x ∧ Li w wr (w.heap.size + 1) w.heap.size v sq tr ms ∧ Wis ms (xs.take i) ∧ Byts wr x.tp x.tn x.tx ∧ (x.tp = none → x.tc = 0)) := ⟨hx, L, hW, hatr.p, hatr.q⟩
      have HC : Hid (refS sq ms x = refS sq (xs.take i) x) := refS_wis hW x
      clear hx L hW hat hatr
      have HV : Hid (Below wr.heap.size wr (wr.alloc (.cells #[.string x.ct, .slice x.tp x.tn x.tc, .bool x.e, .int .i64 x.a, .int .i64 x.p, .int .i64 x.nu, .bool x.nt] 48)) ∧ Box (wr.alloc (.cells #[.string x.ct, .slice x.tp x.tn x.tc, .bool x.e, .int .i64 x.a, .int .i64 x.p, .int .i64 x.nu, .bool x.nt] 48)) wr.heap.size #[.string x.ct, .slice x.tp x.tn x.tc, .bool x.e, .int .i64 x.a, .int .i64 x.p, .int .i64 x.nu, .bool x.nt]) := ⟨(Below.refl _ _).alloc (Nat.le_refl _) _, Box.new wr #[.string x.ct, .slice x.tp x.tn x.tc, .bool x.e, .int .i64 x.a, .int .i64 x.p, .int .i64 x.nu, .bool x.nt] 48⟩
      have hrf := refuse_any (HX.out.2.1.below HV.out.1).bx x (HH.out.1.below (HX.out.2.1.below HV.out.1).bel)
      by_cases hz : refS sq ms x = 0
      · rw [hz] at hrf
        have HZ : Hid (refS sq ms x = 0) := hz
        clear hz
        go_wp2_with fail
        refine hrf.mono ?_
        rintro _ w2 ⟨rfl, hb2⟩
        have cx := (HV.out.2.below hb2).cell
        have L2 := HX.out.2.1.below (below_then HV.out.1 hb2)
        have hz2 := refS_zero HZ.out
        have hpt := bput_any (m := x) L2.bx hz2.1 (by have h9 := HX.out.2.2.1.1; rw [List.length_take, HN.out] at h9; have := HH.out.2.2.2.2.2; omega) (HH.out.2.2.1 x (List.mem_of_getElem? HX.out.1)).1 (HH.out.2.2.1 x (List.mem_of_getElem? HX.out.1)).2.1 (HH.out.2.2.1 x (List.mem_of_getElem? HX.out.1)).2.2 (HX.out.2.2.2.1.below (below_then HV.out.1 hb2)) HX.out.2.2.2.2 hz2.2
        have HL2 : Hid (Li w w2 (w.heap.size + 1) w.heap.size v sq tr ms) := L2
        clear hrf hb2 L2 hz2 f0 f1 f2 f3 f4 f5 f6 lp
        go_wp2_with fail
        refine hpt.mono ?_
        rintro _ w3 ⟨rfl, a, c, hq⟩
        have HI : Hid (LdI w (w.heap.size + 1) w.heap.size sq tr xs (i + 1) w3) := LdI.next HR.out.ref HL2.out HX.out.2.2.1 HX.out.1 (by rw [← HC.out]; exact HZ.out) hq
        clear hpt cx hq
        go_wp2_with fail
        go_roundw
        case rel => exact ⟨i + 1, hlt, by go_num, HI⟩
        case measure => simp [intOf]; omega
      · have HZ : Hid (¬ refS sq ms x = 0) := hz
        obtain ⟨cd, hcd⟩ : ∃ cd, refS sq ms x = cd := ⟨_, rfl⟩
        rw [hcd] at hrf hz
        have hne : (cd != 0) = true := by simpa using hz
        clear hz hcd
        go_wp2_with fail
        refine hrf.mono ?_
        rintro _ w2 ⟨rfl, hb2⟩
        have HB2 : Hid (Below w.heap.size w w2) := (HX.out.2.1.below (below_then HV.out.1 hb2)).bel
        clear hrf hb2 f0 f1 f2 f3 f4 f5 f6 lp
        go_wp2_with fail
        refine (fault_any _ _ _).mono ?_
        rintro _ w3 ⟨rfl, hf3, hb3⟩
        have HB3 : Hid (Below w.heap.size w w3) := below_then HB2.out hb3
        clear hf3 hb3
        go_wp2_with fail
        go_ret2
        refine Or.inl ⟨⟨_, rfl⟩, fun g => ?_, HB3.out⟩
        exact HZ.out (HC.out.trans (g.ref i x HX.out.1))
    · have hlt1 : ¬ (i : Int) < n := by omega
      obtain rfl : i = n := by omega
      go_wp2_with fail
      go_ret2
      obtain ⟨v, ms, L, hW⟩ := HR.out.ex
      rw [List.take_of_length_le (by rw [HN.out]; exact Nat.le_refl _)] at hW
      refine Or.inr ⟨_, _, v, ms, rfl, L, hW, HH.out.2.2.2.1, HH.out.2.2.2.2.1, by rw [HN.out]; exact HH.out.2.2.2.2.2, fun j y hy => HR.out.ref j y ?_ hy⟩
      have := (List.getElem?_eq_some_iff.1 hy).1
      have := HN.out
      omega
end Go.Proofs.YtoijhecphgdfnaaDoor
