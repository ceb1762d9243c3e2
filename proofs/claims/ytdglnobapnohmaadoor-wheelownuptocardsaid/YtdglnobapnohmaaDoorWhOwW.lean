import Derived.Test.YtdglnobapnohmaaDoorWhOw1
import Derived.Test.YtdglnobapnohmaaDoorWhOw3
import Derived.Test.YtdglnobapnohmaaDoorWhOw3f
import Derived.Test.YtdglnobapnohmaaDoorWhSets
import Derived.Test.YtdglnobapnohmaaDoorWhAnchor
/-
  Two pairs of wheels and one book.
-/
namespace Go.Proofs.YtdglnobapnohmaaDoor
open Go.RowKit

theorem owns_any {w0 X : World} {W rb now : Nat} {S : List Tm} {F : Nat → Prop} {kb : Nat} {va vm : Value} {ls : List LsE} (h : OwI w0 X W rb now S F kb va vm ls) (hE : ErrType w0) (hln : ls.length ≤ 90000000) (kd ky : Int) (s : ByteArray) (tk : Int) (hky : KeyI ky) :
    Calls Tryd.prog 8 #[.pointer (some ⟨W, 0, none⟩), .pointer (some ⟨rb, 0, none⟩), .agg #[.int .i64 kd, .int .i64 ky, .string s, .int .i64 tk], .pointer (some ⟨kb, 0, none⟩)] X fun e w' => e = .returned (.bool true) ∧ OwQ w0 X F (BG kb va vm ls) W rb kb ls.length w' := by
  by_cases q3 : kd = 3
  · subst q3
    by_cases ht : tk < (now : Int) ∨ 1099511627776 < tk
    · exact owns_3f h hE hln ky s tk ht
    · obtain ⟨t, rfl⟩ : ∃ t : Nat, tk = t := ⟨tk.toNat, by omega⟩
      exact owns_3 h hE hln ky s t (by omega) (by unfold MaxT; omega)
  · exact owns_1 h hE hln kd ky s tk hky (by simpa using q3)
/-- None of the document's rows lies in a document's wheel. -/
theorem RWl.nrow {w : World} {rb now : Nat} {S : List Tm} {a : Option Addr} {n c : Nat} (h : RWl w rb now S a n c) {B : Nat} {v : Value} {xs : List Tm} (hr : RRow w B v xs) : v.ownBlock ≠ some rb := fun e => by
  obtain ⟨cs, hc⟩ := h.typ
  rcases hr.2 with ⟨rfl, _⟩ | ⟨g, cap, cur, rfl, _, hg, _⟩
  · cases e
  simp only [Value.ownBlock, Option.some.injEq] at e
  subst e
  rw [hc] at hg
  simp only [Option.some.injEq, Obj.cells.injEq] at hg
  exact absurd hg.2.1 (by decide)
structure TwF (w X : World) (W1 rb1 W2 rb2 kb n1 : Nat) (S1 : List Tm) (F1 : Nat → Prop) (n2 : Nat) (S2 : List Tm) (F2 : Nat → Prop) (va vm : Value) (ls : List LsE) : Prop where
  a : OwI w X W1 rb1 n1 S1 F1 kb va vm ls
  b : OwI w X W2 rb2 n2 S2 F2 kb va vm ls
  d : ∀ q, F1 q → ¬ F2 q
  r1 : ¬ F1 rb2
  r2 : ¬ F2 rb1
  ne : rb1 ≠ rb2
def TwI (w : World) (W1 rb1 W2 rb2 kb K : Nat) (X : World) : Prop := ∃ n1 S1 F1 n2 S2 F2 va vm ls, TwF w X W1 rb1 W2 rb2 kb n1 S1 F1 n2 S2 F2 va vm ls ∧ ls.length ≤ K
section
variable {w X Y : World} {W1 rb1 W2 rb2 kb n1 n2 K : Nat} {S1 S2 : List Tm} {F1 F2 : Nat → Prop} {va vm : Value} {ls : List LsE}
theorem TwF.swap (h : TwF w X W1 rb1 W2 rb2 kb n1 S1 F1 n2 S2 F2 va vm ls) : TwF w X W2 rb2 W1 rb1 kb n2 S2 F2 n1 S1 F1 va vm ls := ⟨h.b, h.a, fun q h1 h2 => h.d q h2 h1, h.r2, h.r1, fun e => h.ne e.symm⟩
theorem TwI.swap (h : TwI w W1 rb1 W2 rb2 kb K X) : TwI w W2 rb2 W1 rb1 kb K X := by
  obtain ⟨n1, S1, F1, n2, S2, F2, va, vm, ls, h, hl⟩ := h
  exact ⟨n2, S2, F2, n1, S1, F1, va, vm, ls, h.swap, hl⟩
theorem TwI.b (h : TwI w W1 rb1 W2 rb2 kb K X) : Below w.heap.size w X := by
  obtain ⟨n1, S1, F1, n2, S2, F2, va, vm, ls, h, hl⟩ := h
  exact h.a.p.b
theorem TwF.own (h : TwF w X W1 rb1 W2 rb2 kb n1 S1 F1 n2 S2 F2 va vm ls) (hl : ls.length ≤ K) (hq : OwQ w X F1 (BG kb va vm ls) W1 rb1 kb ls.length Y) : TwI w W1 rb1 W2 rb2 kb (K + 6) Y := by
  obtain ⟨n', S', ls', F', va', vm', hl', hO, ho, hF, hG⟩ := hq
  have hlt : ∀ {q : Nat}, BG kb va vm ls q → kb ≤ q ∧ q < X.heap.size := fun hq => h.a.k.lt hq
  have hl1 := h.a.lo
  have hl2 := h.b.lo
  obtain ⟨a1, c1, e1, r1⟩ := h.a.p.rw
  obtain ⟨a2, c2, e2, r2⟩ := h.b.p.rw
  have hp : PI w Y W2 rb2 n2 S2 F2 := h.b.p.off ho (fun q hq e => by
      rcases e with e | e | e
      · exact h.d q e hq
      · exact h.r2 (e ▸ hq)
      · exact h.b.d q e hq) (fun e => by
      rcases e with e | e | e
      · exact h.r1 e
      · exact h.ne e.symm
      · have := (hlt e).1; omega) (fun B v xs hr g hg e => by
      rcases e with e | e | e
      · exact h.a.p.wh.nrow hr e hg
      · exact r1.nrow hr (e ▸ hg)
      · exact h.a.k.nrow hr e hg) (fun q e => by
      have := h.a.p.lo
      rcases e with e | e | e
      · exact (h.a.p.wh.foot e).1
      · omega
      · have := (hlt e).1; omega)
  refine ⟨n', S', F', n2, S2, F2, va', vm', ls', ⟨hO, ⟨hp, hO.k, fun q hq e => ?_, hl2⟩, fun q hq e => ?_, fun e => ?_, h.r2, h.ne⟩, by omega⟩
  · rcases hG q hq with g | g
    · exact h.b.d q g e
    · have := (h.b.p.wh.foot e).2; omega
  · rcases hF q hq with g | g
    · exact h.d q g e
    · have := (h.b.p.wh.foot e).2; omega
  · rcases hF rb2 e with g | g
    · exact h.r1 g
    · have := r2.lt; omega
/-- owns of the first pair. -/
theorem tw_own (h : TwI w W1 rb1 W2 rb2 kb K X) (hE : ErrType w) (hK : K ≤ 90000000) (kd ky : Int) (s : ByteArray) (tk : Int) (hky : KeyI ky) : Calls Tryd.prog 8 #[.pointer (some ⟨W1, 0, none⟩), .pointer (some ⟨rb1, 0, none⟩), .agg #[.int .i64 kd, .int .i64 ky, .string s, .int .i64 tk], .pointer (some ⟨kb, 0, none⟩)] X fun e w' => e = .returned (.bool true) ∧ Hid (TwI w W1 rb1 W2 rb2 kb (K + 6) w') := by
  obtain ⟨n1, S1, F1, n2, S2, F2, va, vm, ls, h, hl⟩ := h
  refine (owns_any h.a hE (by omega) kd ky s tk hky).mono ?_
  rintro e w' ⟨he, hq⟩
  exact ⟨he, h.own hl hq⟩
theorem tw_own2 (h : TwI w W1 rb1 W2 rb2 kb K X) (hE : ErrType w) (hK : K ≤ 90000000) (kd ky : Int) (s : ByteArray) (tk : Int) (hky : KeyI ky) : Calls Tryd.prog 8 #[.pointer (some ⟨W2, 0, none⟩), .pointer (some ⟨rb2, 0, none⟩), .agg #[.int .i64 kd, .int .i64 ky, .string s, .int .i64 tk], .pointer (some ⟨kb, 0, none⟩)] X fun e w' => e = .returned (.bool true) ∧ Hid (TwI w W1 rb1 W2 rb2 kb (K + 6) w') :=
  (tw_own h.swap hE hK kd ky s tk hky).mono fun _ _ ⟨he, hq⟩ => ⟨he, hq.out.swap⟩
theorem tw_still (h : TwI w W1 rb1 W2 rb2 kb K X) (hK : K ≤ 100000000) : Calls Tryd.prog 9 #[.pointer (some ⟨kb, 0, none⟩)] X fun e w' => e = .returned (.bool true) ∧ Hid (Below w.heap.size w w') := by
  have hb := h.b
  obtain ⟨n1, S1, F1, n2, S2, F2, va, vm, ls, h, hl⟩ := h
  refine (still_true h.a.k (by omega)).mono ?_
  rintro e w' ⟨he, q, rfl⟩
  exact ⟨he, below_drewN hb q⟩
end
theorem RWl.made (w : World) (now : Nat) : RWl (w.alloc (.cells #[.bool true, .int .i64 (now : Int), .slice none 0 0] 30)) w.heap.size now [] none 0 0 := by
  have bx := Box.new w #[.bool true, .int .i64 (now : Int), .slice none 0 0] 30
  exact ⟨bx.cell, bx.free, bx.lt, ERow.nil _ _ _ _ _, #[.bool true, .int .i64 (now : Int), .slice none 0 0], by show (w.heap.push _)[w.heap.size]? = _; simp⟩
theorem BkD.made (w : World) : BkD (w.alloc (.cells #[.slice none 0 0, .slice none 0 0] 40)) w.heap.size (.slice none 0 0) (.slice none 0 0) [] :=
  ⟨by show (w.heap.push _)[w.heap.size]? = _; simp, ERow.nil _ _ _ _ _, ERow.nil _ _ _ _ _, fun x hx => by cases hx⟩
/-- All, just made: a's and b's wheels, r, q, the book. -/
theorem TwI.made {w w1 w2 w3 w4 : World} {now W1 W2 : Nat} {F1 F2 : Nat → Prop} (h1 : Whl w1 w.heap.size W1 now [] F1) (b1 : Below w.heap.size w w1) (h2 : Whl w2 w1.heap.size W2 now [] F2) (b2 : Below w1.heap.size w1 w2) (b3 : Below w2.heap.size w2 w3)
    (b4 : Below (w3.alloc (.cells #[.bool true, .int .i64 (now : Int), .slice none 0 0] 30)).heap.size (w3.alloc (.cells #[.bool true, .int .i64 (now : Int), .slice none 0 0] 30)) w4) :
    TwI w W1 w3.heap.size W2 w4.heap.size (w4.alloc (.cells #[.bool true, .int .i64 (now : Int), .slice none 0 0] 30)).heap.size 0 ((w4.alloc (.cells #[.bool true, .int .i64 (now : Int), .slice none 0 0] 30)).alloc (.cells #[.slice none 0 0, .slice none 0 0] 40)) := by
  have c3 := (Below.refl w3.heap.size w3).alloc (Nat.le_refl _) (.cells #[.bool true, .int .i64 (now : Int), .slice none 0 0] 30)
  have c4 := (Below.refl w4.heap.size w4).alloc (Nat.le_refl _) (.cells #[.bool true, .int .i64 (now : Int), .slice none 0 0] 30)
  have r3 := RWl.made w3 now
  have r4 := RWl.made w4 now
  have s1 := b1.size
  have s2 := b2.size
  have s3 := b3.size
  have s4 := b4.size
  rw [World.size_alloc] at s4
  generalize (w3.alloc (.cells #[.bool true, .int .i64 (now : Int), .slice none 0 0] 30)) = V3 at *
  have s5 : (w4.alloc (.cells #[.bool true, .int .i64 (now : Int), .slice none 0 0] 30)).heap.size = w4.heap.size + 1 := World.size_alloc _ _
  generalize (w4.alloc (.cells #[.bool true, .int .i64 (now : Int), .slice none 0 0] 30)) = V4 at *
  have c5 := (Below.refl V4.heap.size V4).alloc (Nat.le_refl _) (.cells #[.slice none 0 0, .slice none 0 0] 40)
  have bk := BkD.made V4
  generalize (V4.alloc (.cells #[.slice none 0 0, .slice none 0 0] 40)) = V5 at *
  have d2 := below_then b1 b2
  have d3 := below_then d2 b3
  have d3' := below_then d3 c3
  have d4 := below_then d3' b4
  have d5 := below_then d4 c4
  have d6 := below_then d5 c5
  have e1 : Below w1.heap.size w1 V5 := below_then (below_then (below_then (below_then (below_then b2 b3) c3) b4) c4) c5
  have e2 : Below w2.heap.size w2 V5 := below_then (below_then (below_then (below_then b3 c3) b4) c4) c5
  have e3 : Below V3.heap.size V3 V5 := below_then (below_then b4 c4) c5
  have f1 : ∀ q, F1 q → q < w1.heap.size := fun q hq => (h1.foot hq).2
  have f2 : ∀ q, F2 q → w1.heap.size ≤ q ∧ q < w2.heap.size := fun q hq => h2.foot hq
  have hbg : ∀ q, BG V4.heap.size (.slice none 0 0) (.slice none 0 0) [] q → q = V4.heap.size := fun q hq => by
    rcases hq with hq | hq | hq | ⟨x, hx, _⟩
    · exact hq
    · cases hq
    · cases hq
    · cases hx
  refine ⟨now, [], F1, now, [], F2, _, _, [], ⟨⟨⟨h1.below e1, ⟨none, 0, 0, r3.below e3⟩, by omega, fun e => by have := f1 _ e; omega, d6⟩, bk, fun q hq e => by have := hbg q hq; have := f1 _ e; omega, by omega⟩, ⟨⟨(h2.below e2).low (fun q hq => by have := (f2 q hq).1; omega), ⟨none, 0, 0, r4.below c5⟩, by omega, fun e => by have := f2 _ e; omega, d6⟩, bk, fun q hq e => by have := hbg q hq; have := f2 _ e; omega, by omega⟩, fun q h1 h2 => by have := f1 q h1; have := f2 q h2; omega, fun e => by have := f1 _ e; omega, fun e => by have := f2 _ e; omega, by omega⟩, by simp⟩
end Go.Proofs.YtdglnobapnohmaaDoor

/-
  WheelOwn, walked.
-/
namespace Go.Proofs.YtdglnobapnohmaaDoor
open Go.RowKit

set_option maxHeartbeats 1000000 in
theorem new_no2 {now : Int} (w : World) (hn : now < 0 ∨ 1099511627776 < now) : Calls Tryd.prog 4 #[.int .i64 now] w fun e w' => e = .returned (.tuple #[.pointer none, .iface 56 (.pointer (some ⟨w.heap.size, 0, none⟩))]) ∧ Hid (FaultAt w' w.heap.size 2 ∧ Below w.heap.size w w') := by
  have hb : ∀ o, Below w.heap.size w (w.alloc o) := fun o => (Below.refl _ _).alloc (Nat.le_refl _) _
  rcases (by omega : now < 0 ∨ (¬ now < 0 ∧ now > 1099511627776)) with h | ⟨h, h1⟩
  · have h3 : decide (now < 0) = true := decide_eq_true h
    go_enter Tryd.func4, Tryd.ntmps4
    go_wp2_with (go_at_call 10; refine (fault_any _ _).mono ?_; rintro _ w9 ⟨rfl, h9⟩; subst w9)
    refine bodyPost_ret ?_ rfl ⟨rfl, fault_new w 2, hb _⟩
    simp [results, Tryd.results4, go_sem]
  · have h3 : decide (now < 0) = false := decide_eq_false h
    go_enter Tryd.func4, Tryd.ntmps4
    go_wp2_with (go_at_call 10; refine (fault_any _ _).mono ?_; rintro _ w9 ⟨rfl, h9⟩; subst w9)
    refine bodyPost_ret ?_ rfl ⟨rfl, fault_new w 2, hb _⟩
    simp [results, Tryd.results4, go_sem]
set_option maxHeartbeats 1000000 in
theorem rnew_ok {now : Nat} (w : World) (hn : now ≤ MaxT) : Calls Tryd.prog 5 #[.int .i64 (now : Int)] w fun e w' => e = .returned (.tuple #[.agg #[.bool true, .int .i64 (now : Int), .slice none 0 0], .int .i64 0]) ∧ Below w.heap.size w w' := by
  unfold MaxT at hn
  have h1 : ¬ (now : Int) < 0 := by omega
  have h2 : ¬ (now : Int) > 1099511627776 := by omega
  have h3 : decide ((now : Int) < 0) = false := decide_eq_false h1
  go_enter Tryd.func5, Tryd.ntmps5
  go_wp2
  refine bodyPost_ret ?_ rfl ⟨rfl, (Below.refl _ _).alloc (Nat.le_refl _) _⟩
  simp [results, Tryd.results5, go_sem]
set_option maxHeartbeats 1000000 in
theorem rnew_no {now : Int} (w : World) (hn : now < 0 ∨ 1099511627776 < now) : Calls Tryd.prog 5 #[.int .i64 now] w fun e w' => e = .returned (.tuple #[.agg #[.bool false, .int .i64 0, .slice none 0 0], .int .i64 2]) ∧ Below w.heap.size w w' := by
  rcases (by omega : now < 0 ∨ (¬ now < 0 ∧ now > 1099511627776)) with h | ⟨h, h1⟩
  · have h3 : decide (now < 0) = true := decide_eq_true h
    go_enter Tryd.func5, Tryd.ntmps5
    go_wp2
    refine bodyPost_ret ?_ rfl ⟨rfl, (Below.refl _ _).alloc (Nat.le_refl _) _⟩
    simp [results, Tryd.results5, go_sem]
  · have h3 : decide (now < 0) = false := decide_eq_false h
    go_enter Tryd.func5, Tryd.ntmps5
    go_wp2
    refine bodyPost_ret ?_ rfl ⟨rfl, (Below.refl _ _).alloc (Nat.le_refl _) _⟩
    simp [results, Tryd.results5, go_sem]
set_option maxRecDepth 100000 in
set_option maxHeartbeats 4000000 in
theorem own_no (now : Int) (ao bo : Option Addr) (ac bc N M : Nat) (w : World) (hE : ErrType w) (hn : now < 0 ∨ 1099511627776 < now) :
    Calls Tryd.prog 3 #[.int .i64 now, .slice ao N ac, .slice bo M bc] w fun e w' => e = .returned (.bool true) ∧ Below w.heap.size w w' := by
  have HC : Hid (ErrType w ∧ (now < 0 ∨ 1099511627776 < now)) := ⟨hE, hn⟩
  clear hE hn
  go_enter Tryd.func3, Tryd.ntmps3
  go_wp2_with fail
  refine (new_no2 w HC.out.2).mono ?_
  rintro _ w1 ⟨rfl, H1⟩
  go_wp2_with fail
  refine (new_no2 w1 HC.out.2).mono ?_
  rintro _ w2 ⟨rfl, H2⟩
  go_wp2_with fail
  refine (rnew_no w2 HC.out.2).mono ?_
  rintro _ w3 ⟨rfl, h3⟩
  have b3 := (Below.refl w3.heap.size w3).alloc (Nat.le_refl _) (.cells #[.bool false, .int .i64 0, .slice none 0 0] 30)
  have H3 : Hid (Below w2.heap.size w2 (w3.alloc (.cells #[.bool false, .int .i64 0, .slice none 0 0] 30))) := below_then h3 b3
  clear h3 b3
  go_wp2_with fail
  generalize (w3.alloc (.cells #[.bool false, .int .i64 0, .slice none 0 0] 30)) = V3 at H3 ⊢
  refine (rnew_no V3 HC.out.2).mono ?_
  rintro _ w4 ⟨rfl, h4⟩
  have b4 := (Below.refl w4.heap.size w4).alloc (Nat.le_refl _) (.cells #[.bool false, .int .i64 0, .slice none 0 0] 30)
  have H4 : Hid (FaultAt (w4.alloc (.cells #[.bool false, .int .i64 0, .slice none 0 0] 30)) w.heap.size 2 ∧ FaultAt (w4.alloc (.cells #[.bool false, .int .i64 0, .slice none 0 0] 30)) w1.heap.size 2 ∧ Below w.heap.size w (w4.alloc (.cells #[.bool false, .int .i64 0, .slice none 0 0] 30))) := by
    have d2 := below_then (below_then H3.out h4) b4
    have d1 := below_then H2.out.2 d2
    exact ⟨faultAt_below H1.out.1 d1, faultAt_below H2.out.1 d2, below_then H1.out.2 d1⟩
  clear h4 b4 H1 H2 H3
  go_wp2_with fail
  generalize (w4.alloc (.cells #[.bool false, .int .i64 0, .slice none 0 0] 30)) = V4 at H4 ⊢
  refine (isFault w.heap.size 2 V4 rfl (errType_below HC.out.1 H4.out.2.2) H4.out.1).mono ?_
  rintro _ w5 ⟨rfl, h5⟩
  have H5 : Hid (FaultAt w5 w1.heap.size 2 ∧ Below w.heap.size w w5) := ⟨faultAt_below H4.out.2.1 h5, below_then H4.out.2.2 h5⟩
  clear h5 H4
  go_wp2_with fail
  refine (isFault w1.heap.size 2 w5 rfl (errType_below HC.out.1 H5.out.2) H5.out.1).mono ?_
  rintro _ w6 ⟨rfl, h6⟩
  have H6 : Hid (Below w.heap.size w w6) := below_then H5.out.2 h6
  clear h6 H5
  go_wp2_with fail
  refine (anchor_true w6).mono ?_
  rintro _ w7 ⟨rfl, h7⟩
  have H7 : Hid (Below w.heap.size w w7) := below_then H6.out h7
  clear h7 H6
  go_wp2_with fail
  go_ret
  exact ⟨rfl, H7.out⟩
set_option maxRecDepth 100000 in
set_option maxHeartbeats 4000000 in
theorem own_yes (now : Nat) (hnM : now ≤ MaxT) (ao bo : Option Addr) (ac bc : Nat) (ys zs : List Opv) (w : World) (hE : ErrType w) (h : Opl w ao ys) (hk : OpsI ys) (hl : ys.length ≤ 1048576) (h' : Opl w bo zs) (hk' : OpsI zs) (hl' : zs.length ≤ 1048576) :
    Calls Tryd.prog 3 #[.int .i64 (now : Int), .slice ao ys.length ac, .slice bo zs.length bc] w fun e w' => e = .returned (.bool true) ∧ Below w.heap.size w w' := by
  obtain ⟨N, hN⟩ : ∃ q, ys.length = q := ⟨_, rfl⟩
  obtain ⟨M, hM⟩ : ∃ q, zs.length = q := ⟨_, rfl⟩
  rw [hN] at hl ⊢
  rw [hM] at hl' ⊢
  have HA : Hid (Opl w ao ys ∧ OpsI ys ∧ ys.length = N ∧ N ≤ 1048576 ∧ M ≤ 1048576 ∧ True ∧ ErrType w) := ⟨h, hk, hN, hl, hl', trivial, hE⟩
  have HZ : Hid (Opl w bo zs ∧ OpsI zs ∧ zs.length = M) := ⟨h', hk', hM⟩
  have HM : Hid (now ≤ MaxT) := hnM
  have hNi : (N : Int) ≤ 1048576 := by omega
  have hMi : (M : Int) ≤ 1048576 := by omega
  clear h hk hN hl hE hnM h' hk' hM hl'
  go_enter Tryd.func3, Tryd.ntmps3
  go_wp2_with fail
  refine (new_whl w HM.out).mono ?_
  rintro _ w1 ⟨rfl, F1, hw1, hb1, _⟩
  have H1 : Hid (∃ F, Whl w1 w.heap.size (w.heap.size + 1 + 1) now [] F ∧ Below w.heap.size w w1) := ⟨F1, hw1, hb1⟩
  clear hw1 hb1
  obtain ⟨W1, hW1⟩ : ∃ q, w.heap.size + 1 + 1 = q := ⟨_, rfl⟩
  rw [hW1] at H1 ⊢
  clear hW1
  go_wp2_with fail
  refine (new_whl w1 HM.out).mono ?_
  rintro _ w2 ⟨rfl, F2, hw2, hb2, _⟩
  have H2 : Hid (∃ F, Whl w2 w1.heap.size (w1.heap.size + 1 + 1) now [] F ∧ Below w1.heap.size w1 w2) := ⟨F2, hw2, hb2⟩
  clear hw2 hb2
  obtain ⟨W2, hW2⟩ : ∃ q, w1.heap.size + 1 + 1 = q := ⟨_, rfl⟩
  rw [hW2] at H2 ⊢
  clear hW2
  go_wp2_with fail
  refine (rnew_ok w2 HM.out).mono ?_
  rintro _ w3 ⟨rfl, h3⟩
  have H3 : Hid (Below w2.heap.size w2 w3) := h3
  clear h3
  go_wp2_with fail
  refine (rnew_ok (w3.alloc (.cells #[.bool true, .int .i64 (now : Int), .slice none 0 0] 30)) HM.out).mono ?_
  rintro _ w4 ⟨rfl, h4⟩
  have H4 : Hid (TwI w W1 w3.heap.size W2 w4.heap.size (w4.alloc (.cells #[.bool true, .int .i64 (now : Int), .slice none 0 0] 30)).heap.size 0 ((w4.alloc (.cells #[.bool true, .int .i64 (now : Int), .slice none 0 0] 30)).alloc (.cells #[.slice none 0 0, .slice none 0 0] 40))) := by
    obtain ⟨F1, hw1, hb1⟩ := H1.out
    obtain ⟨F2, hw2, hb2⟩ := H2.out
    exact TwI.made hw1 hb1 hw2 hb2 H3.out h4
  clear h4 H1 H2 H3
  go_wp2_with fail
  generalize (w4.alloc (.cells #[.bool true, .int .i64 (now : Int), .slice none 0 0] 30)) = V4 at H4 ⊢
  obtain ⟨rb1, hr1⟩ : ∃ q, w3.heap.size = q := ⟨_, rfl⟩
  obtain ⟨rb2, hr2⟩ : ∃ q, w4.heap.size = q := ⟨_, rfl⟩
  rw [hr1, hr2] at H4 ⊢
  clear hr1 hr2
  refine (isOk V4).mono ?_
  rintro _ w5 ⟨rfl, h5⟩
  subst w5
  go_wp2_with fail
  refine (isOk V4).mono ?_
  rintro _ w6 ⟨rfl, h6⟩
  subst w6
  go_wp2_with fail
  generalize (V4.alloc (.cells #[.slice none 0 0, .slice none 0 0] 40)) = V5 at H4 ⊢
  obtain ⟨kb, hkb⟩ : ∃ q, V4.heap.size = q := ⟨_, rfl⟩
  rw [hkb] at H4 ⊢
  clear hkb
  go_loopw [16, 17, 18] (fun t16 _ _ wx => ∃ i : Nat, (i ≤ N ∨ i ≤ M) ∧ t16 = .int .i64 (i : Int) ∧ Hid (TwI w W1 rb1 W2 rb2 kb (12 * i) wx ∧ i ≤ 1048576)) (fun t16 _ _ _ => max N M - (intOf t16).toNat)
  case atStart => exact ⟨0, Or.inl (Nat.zero_le _), rfl, H4.out, by omega⟩
  case round =>
    obtain ⟨i, hiN, rfl, HJ⟩ := hrel
    clear H4
    by_cases hlt : i < N
    · have g1 : (i : Int) < N := by omega
      have g2 : decide ((i : Int) < N) = true := decide_eq_true g1
      by_cases hmt : i < M
      · have g3 : (i : Int) < M := by omega
        have g4 : decide ((i : Int) < M) = true := decide_eq_true g3
        obtain ⟨y, hy⟩ : ∃ y, ys[i]? = some y := ⟨_, List.getElem?_eq_getElem (by have := HA.out.2.2.1; omega)⟩
        obtain ⟨b, off, rfl, hb, h0, h1, h2, h3⟩ := (HA.out.1.below (w' := wr) HJ.out.1.b) i y hy
        have hpl := tw_own HJ.out.1 HA.out.2.2.2.2.2.2 (by have := HJ.out.2; omega) y.kind y.key y.text y.tick (HA.out.2.1 y (List.mem_of_getElem? hy)).1
        obtain ⟨kd, ky, s, tk⟩ := y
        have HP : Hid (type_of% hpl) := hpl
        clear hpl hy hb
        go_wp2_with fail
        refine HP.out.mono ?_
        rintro _ u1 ⟨rfl, H4⟩
        clear HP h0 h1 h2 h3
        obtain ⟨y, hy⟩ : ∃ y, zs[i]? = some y := ⟨_, List.getElem?_eq_getElem (by have := HZ.out.2.2; omega)⟩
        obtain ⟨b, off, rfl, hb, h0, h1, h2, h3⟩ := (HZ.out.1.below (w' := u1) H4.out.b) i y hy
        have hpl := tw_own2 H4.out HA.out.2.2.2.2.2.2 (by have := HJ.out.2; omega) y.kind y.key y.text y.tick (HZ.out.2.1 y (List.mem_of_getElem? hy)).1
        obtain ⟨kd, ky, s, tk⟩ := y
        have HP : Hid (type_of% hpl) := hpl
        clear hpl hy hb
        go_wp2_with fail
        refine HP.out.mono ?_
        rintro _ u2 ⟨rfl, H5⟩
        clear HP h0 h1 h2 h3
        have H6 : Hid (TwI w W1 rb1 W2 rb2 kb (12 * (i + 1)) u2) := by rw [show 12 * (i + 1) = 12 * i + 6 + 6 by omega]; exact H5.out
        have HJ2 : Hid (i + 1 ≤ 1048576) := by
          have x1 := HA.out.2.2.2.1
          have x2 := HA.out.2.2.2.2.1
          show i + 1 ≤ 1048576
          omega
        clear H4 H5 HJ
        go_wp2_with fail
        go_roundw
        case rel => exact ⟨i + 1, by omega, by go_num, H6.out, HJ2.out⟩
        case measure => simp [intOf]; omega
      · have g3 : ¬ (i : Int) < M := by omega
        have g4 : decide ((i : Int) < M) = false := decide_eq_false g3
        obtain ⟨y, hy⟩ : ∃ y, ys[i]? = some y := ⟨_, List.getElem?_eq_getElem (by have := HA.out.2.2.1; omega)⟩
        obtain ⟨b, off, rfl, hb, h0, h1, h2, h3⟩ := (HA.out.1.below (w' := wr) HJ.out.1.b) i y hy
        have hpl := tw_own HJ.out.1 HA.out.2.2.2.2.2.2 (by have := HJ.out.2; omega) y.kind y.key y.text y.tick (HA.out.2.1 y (List.mem_of_getElem? hy)).1
        obtain ⟨kd, ky, s, tk⟩ := y
        have HP : Hid (type_of% hpl) := hpl
        clear hpl hy hb
        go_wp2_with fail
        refine HP.out.mono ?_
        rintro _ u1 ⟨rfl, H4⟩
        clear HP h0 h1 h2 h3
        have H5 : Hid (TwI w W1 rb1 W2 rb2 kb (12 * i + 6 + 6) u1) := by
          obtain ⟨n1, S1, F1, n2, S2, F2, va, vm, ls, h, hl⟩ := H4.out
          exact ⟨n1, S1, F1, n2, S2, F2, va, vm, ls, h, by omega⟩
        have H6 : Hid (TwI w W1 rb1 W2 rb2 kb (12 * (i + 1)) u1) := by rw [show 12 * (i + 1) = 12 * i + 6 + 6 by omega]; exact H5.out
        have HJ2 : Hid (i + 1 ≤ 1048576) := by
          have x1 := HA.out.2.2.2.1
          have x2 := HA.out.2.2.2.2.1
          show i + 1 ≤ 1048576
          omega
        clear H4 H5 HJ
        go_wp2_with fail
        go_roundw
        case rel => exact ⟨i + 1, by omega, by go_num, H6.out, HJ2.out⟩
        case measure => simp [intOf]; omega
    · have g1 : ¬ (i : Int) < N := by omega
      have g2 : decide ((i : Int) < N) = false := decide_eq_false g1
      by_cases hmt : i < M
      · have g3 : (i : Int) < M := by omega
        have g4 : decide ((i : Int) < M) = true := decide_eq_true g3
        obtain ⟨u1, hu1⟩ : ∃ q : World, q = wr := ⟨wr, rfl⟩
        subst wr
        have H4 : Hid (TwI w W1 rb1 W2 rb2 kb (12 * i + 6) u1) := by
          obtain ⟨n1, S1, F1, n2, S2, F2, va, vm, ls, h, hl⟩ := HJ.out.1
          exact ⟨n1, S1, F1, n2, S2, F2, va, vm, ls, h, by omega⟩
        obtain ⟨y, hy⟩ : ∃ y, zs[i]? = some y := ⟨_, List.getElem?_eq_getElem (by have := HZ.out.2.2; omega)⟩
        obtain ⟨b, off, rfl, hb, h0, h1, h2, h3⟩ := (HZ.out.1.below (w' := u1) H4.out.b) i y hy
        have hpl := tw_own2 H4.out HA.out.2.2.2.2.2.2 (by have := HJ.out.2; omega) y.kind y.key y.text y.tick (HZ.out.2.1 y (List.mem_of_getElem? hy)).1
        obtain ⟨kd, ky, s, tk⟩ := y
        have HP : Hid (type_of% hpl) := hpl
        clear hpl hy hb
        go_wp2_with fail
        refine HP.out.mono ?_
        rintro _ u2 ⟨rfl, H5⟩
        clear HP h0 h1 h2 h3
        have H6 : Hid (TwI w W1 rb1 W2 rb2 kb (12 * (i + 1)) u2) := by rw [show 12 * (i + 1) = 12 * i + 6 + 6 by omega]; exact H5.out
        have HJ2 : Hid (i + 1 ≤ 1048576) := by
          have x1 := HA.out.2.2.2.1
          have x2 := HA.out.2.2.2.2.1
          show i + 1 ≤ 1048576
          omega
        clear H4 H5 HJ
        go_wp2_with fail
        go_roundw
        case rel => exact ⟨i + 1, by omega, by go_num, H6.out, HJ2.out⟩
        case measure => simp [intOf]; omega
      · have g3 : ¬ (i : Int) < M := by omega
        have g4 : decide ((i : Int) < M) = false := decide_eq_false g3
        go_wp2_with fail
        refine (tw_still HJ.out.1 (by have := HJ.out.2; omega)).mono ?_
        rintro _ u1 ⟨rfl, H7⟩
        go_wp2_with fail
        refine (anchor_true u1).mono ?_
        rintro _ u2 ⟨rfl, h8⟩
        have H8 : Hid (Below w.heap.size w u2) := below_then H7.out h8
        clear h8 H7
        go_wp2_with fail
        go_ret
        exact ⟨rfl, H8.out⟩
theorem own_law (now : Int) (ao : Option Addr) (ac : Nat) (ys : List Opv) (bo : Option Addr) (bc : Nat) (zs : List Opv) (w : World) (hE : ErrType w) (h : Opl w ao ys) (hk : OpsI ys) (hl : ys.length ≤ 1048576) (h' : Opl w bo zs) (hk' : OpsI zs) (hl' : zs.length ≤ 1048576) :
    Calls Tryd.prog 3 #[.int .i64 now, .slice ao ys.length ac, .slice bo zs.length bc] w fun e w' => e = .returned (.bool true) ∧ Below w.heap.size w w' := by
  by_cases hn : now < 0 ∨ 1099511627776 < now
  · exact own_no now ao bo ac bc _ _ w hE hn
  · obtain ⟨n, rfl⟩ : ∃ q : Nat, now = (q : Int) := ⟨now.toNat, by omega⟩
    exact own_yes n (by unfold MaxT; omega) ao bo ac bc ys zs w hE h hk hl h' hk' hl'
end Go.Proofs.YtdglnobapnohmaaDoor
