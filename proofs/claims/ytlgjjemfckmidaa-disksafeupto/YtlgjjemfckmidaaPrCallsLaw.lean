/-
  DiskCalls: the walk.
-/
import Derived.Test.YtlgjjemfckmidaaPrPlays
import Derived.Test.YtlgjjemfckmidaaDkBeyond2
import Derived.Deep.RegionHeld3
namespace Go.Proofs.Ytlgjjemfckmidaa
open Go.RowKit Go.BigFrame

theorem Bk.fresh {w : World} {B : Nat} (hB : B ≤ w.heap.size) : Bk (w.alloc (.cells #[.slice none 0 0, .slice none 0 0, .slice none 0 0, .slice none 0 0, .slice none 0 0, .slice none 0 0] 53)) B w.heap.size (fun k => if k = w.heap.size then 1 else 0) (.slice none 0 0) (.slice none 0 0) [] := by
  refine Bk.empty (fun q hq => ?_) (fun q => by simp) (by simp; omega)
  match q, hq with
  | 0, _ => simp
  | 1, _ => simp
  | 2, _ => simp
  | 3, _ => simp
  | 4, _ => simp
  | 5, _ => simp
/-- What a call asks of an Op. -/
structure OpFit (y : Opv) : Prop where
  po : y.po = none → y.pc = 0
  pl : y.pl ≤ 16777216
  at_ : -9223372036854775808 ≤ y.at_ ∧ y.at_ ≤ 9223372036854775807
  n : -9223372036854775808 ≤ y.n ∧ y.n ≤ 9223372036854775807
/-- A pair and the book, somehow, behind so many calls. -/
def Some1 (wx : World) (B K R Q : Nat) (m : Nat) (bx : Nat) : Prop := ∃ v0 v1 v σ ρ vb vw es, Jt wx B K R v0 v1 v σ Q ρ vb vw es ∧ es.length ≤ m ∧ Alien K R v0 v1 v ρ bx
set_option maxRecDepth 100000 in
set_option maxHeartbeats 8000000 in
theorem calls_law {w : World} {p0 p1 : Option Addr} {m0 m1 c0 c1 : Nat} {bs0 bs1 : List Int} {ao : Option Addr} {xs : List Opv} {cap : Nat} (hb0 : Byts w p0 m0 bs0) (hb1 : Byts w p1 m1 bs1) (z0 : p0 = none → c0 = 0) (z1 : p1 = none → c1 = 0) (l0 : m0 ≤ 16777216) (l1 : m1 ≤ 16777216) (hO : Ops w ao xs) (hl : xs.length ≤ 1048576) (hF : ∀ y ∈ xs, OpFit y) :
    Calls Try.prog 4 #[.agg #[.slice p0 m0 c0, .slice p1 m1 c1], .slice ao xs.length cap] w fun e w' => e = .returned (.bool true) ∧ Below w.heap.size w w' := by
  have bT : Below w.heap.size w (w.alloc (.cells #[.slice p0 m0 c0, .slice p1 m1 c1] 26)) := (Below.refl _ _).alloc (Nat.le_refl _) _
  have HI : Hid (Byts (w.alloc (.cells #[.slice p0 m0 c0, .slice p1 m1 c1] 26)) p0 m0 bs0 ∧ Byts (w.alloc (.cells #[.slice p0 m0 c0, .slice p1 m1 c1] 26)) p1 m1 bs1 ∧ (p0 = none → c0 = 0) ∧ (p1 = none → c1 = 0) ∧ Ops (w.alloc (.cells #[.slice p0 m0 c0, .slice p1 m1 c1] 26)) ao xs ∧ (∀ y ∈ xs, OpFit y) ∧ bs0.length = m0 ∧ bs1.length = m1) := ⟨hb0.below bT, hb1.below bT, z0, z1, hO.below bT, hF, hb0.len, hb1.len⟩
  clear hb0 hb1 z0 z1 hO hF bT
  go_enter Try.func4, Try.ntmps4
  go_wp2_with fail
  refine (beyond_areas _ HI.out.2.2.2.2.1 (by unfold maxLen; omega) (fun y hy => by have := (HI.out.2.2.2.2.2.1 y hy).pl; omega) l0 l1).mono ?_
  rintro e w1 ⟨⟨q, rfl⟩, b1⟩
  have HB1 : Hid (Below w.heap.size w w1 ∧ Byts w1 p0 m0 bs0 ∧ Byts w1 p1 m1 bs1 ∧ Ops w1 ao xs) := ⟨below_then ((Below.refl _ _).alloc (Nat.le_refl _) _) b1, HI.out.1.below b1, HI.out.2.1.below b1, HI.out.2.2.2.2.1.below b1⟩
  have hc1 : ∀ o, w1.cell? ⟨w.heap.size, o, none⟩ = (w.alloc (.cells #[.slice p0 m0 c0, .slice p1 m1 c1] 26)).cell? ⟨w.heap.size, o, none⟩ := fun o => b1.cell (p := ⟨w.heap.size, o, none⟩) (by simp)
  clear b1
  cases q with
  | true =>
    go_wp2_with fail
    go_ret
    exact ⟨rfl, HB1.out.1⟩
  | false =>
    go_wp2_with fail
    refine (made_ok2 HB1.out.2.1 HB1.out.2.2.1 HI.out.2.2.1 HI.out.2.2.2.1 l0 l1).mono ?_
    rintro e w2 ⟨K, R, u0, u1, v, rfl, p2, b2⟩
    have H2 : Hid (Pr w2 w1.heap.size K R u0 u1 v (sg0 bs0 bs1) ∧ Below w1.heap.size w1 w2) := ⟨p2, b2⟩
    clear p2 b2 hc1
    go_wp2_with fail
    obtain ⟨W, hW⟩ : ∃ y, (w2.alloc (.cells #[.pointer (some ⟨K, 0, none⟩), .pointer (some ⟨R, 0, none⟩)] 45)).alloc (.cells #[.slice none 0 0, .slice none 0 0, .slice none 0 0, .slice none 0 0, .slice none 0 0, .slice none 0 0] 53) = y := ⟨_, rfl⟩
    have HW : Hid (Below w1.heap.size w1 W ∧ Some1 W w1.heap.size K R (w2.heap.size + 1) 0 w2.heap.size ∧ W.cell? ⟨w2.heap.size, 0, none⟩ = some (.pointer (some ⟨K, 0, none⟩)) ∧ W.cell? ⟨w2.heap.size, 1, none⟩ = some (.pointer (some ⟨R, 0, none⟩)) ∧ w2.heap.size < W.heap.size) := by
      obtain ⟨p2, b2⟩ := H2.out
      have hs2 := b2.size
      have bX : Below w2.heap.size w2 (w2.alloc (.cells #[.pointer (some ⟨K, 0, none⟩), .pointer (some ⟨R, 0, none⟩)] 45)) := (Below.refl _ _).alloc (Nat.le_refl _) _
      have bW : Below w2.heap.size w2 W := by rw [← hW]; exact bX.alloc (by simp) _
      have hbk := Bk.fresh (w := w2.alloc (.cells #[.pointer (some ⟨K, 0, none⟩), .pointer (some ⟨R, 0, none⟩)] 45)) (B := w1.heap.size) (by simp; omega)
      rw [show (w2.alloc (.cells #[.pointer (some ⟨K, 0, none⟩), .pointer (some ⟨R, 0, none⟩)] 45)).heap.size = w2.heap.size + 1 by simp, hW] at hbk
      have hf : ∀ k, (Foot K u0 u1 k ∨ RFoot R v k) → k < w2.heap.size := fun k hk => p2.foot_lt hk
      have e0 := HI.out.2.2.2.2.2.2.1
      have e1 := HI.out.2.2.2.2.2.2.2
      refine ⟨b2.trans (bW.mono hs2), ⟨u0, u1, v, sg0 bs0 bs1, _, _, _, [], ⟨p2.below bW, ⟨Nat.le_refl _, Nat.le_refl _, by show bs0.length ≤ _; omega, by show bs1.length ≤ _; omega⟩, hbk, fun k hk => by have := hf k hk; simp; omega, fun i e he => by simp at he, by omega, fun k hk => by simp; omega⟩, Nat.zero_le _, fun g => by have := hf _ g; omega, by simp⟩, ?_, ?_, by rw [← hW]; simp; omega⟩
      · rw [← hW, World.cell?_alloc_lt _ _ ⟨w2.heap.size, 0, none⟩ (by simp)]; simp
      · rw [← hW, World.cell?_alloc_lt _ _ ⟨w2.heap.size, 1, none⟩ (by simp)]; simp
    rw [hW]
    clear hW H2
    go_loopw [8] (fun t8 wx => ∃ i : Nat, i ≤ xs.length ∧ t8 = .int .i64 i ∧ Hid (Some1 wx w1.heap.size K R (w2.heap.size + 1) (4 * i) w2.heap.size ∧ Below w1.heap.size w1 wx ∧ wx.cell? ⟨w2.heap.size, 0, none⟩ = some (.pointer (some ⟨K, 0, none⟩)) ∧ wx.cell? ⟨w2.heap.size, 1, none⟩ = some (.pointer (some ⟨R, 0, none⟩)) ∧ w2.heap.size < wx.heap.size)) (fun t8 _ => xs.length - (intOf t8).toNat)
    case atStart => exact ⟨0, Nat.zero_le _, rfl, HW.out.2.1, HW.out.1, HW.out.2.2.1, HW.out.2.2.2.1, HW.out.2.2.2.2⟩
    case round =>
      obtain ⟨i, hi, rfl, HR⟩ := hrel
      have k0 : wr.cell? ⟨w2.heap.size, 0, none⟩ = some (.pointer (some ⟨K, 0, none⟩)) := HR.out.2.2.1
      have k1 : wr.cell? ⟨w2.heap.size, 1, none⟩ = some (.pointer (some ⟨R, 0, none⟩)) := HR.out.2.2.2.1
      by_cases hlt : i < xs.length
      · have hlti : (i : Int) < xs.length := by omega
        obtain ⟨y, hy⟩ : ∃ y, xs[i]? = some y := ⟨_, List.getElem?_eq_getElem hlt⟩
        obtain ⟨b, off, rfl, hat1⟩ := HB1.out.2.2.2 i y hy
        have hfit := HI.out.2.2.2.2.2.1 y (List.mem_of_getElem? hy)
        have hat := hat1.below HR.out.2.1
        have hbl := hat1.lt
        have a0 := hat.c0
        have a1 := hat.c1
        have a2 := hat.c2
        have a3 := hat.c3
        have a4 := hat.c4
        have a5 := hat.c5
        have a6 := hat.c6
        have a7 := hat.c7
        have a8 := hat.c8
        have hpc : ∀ x, Below wr.heap.size wr x → Calls Try.prog 17 #[.agg #[.pointer (some ⟨K, 0, none⟩), .pointer (some ⟨R, 0, none⟩)], .agg #[.int .i64 y.kd, .int .i64 y.ar, .int .i64 y.at_, .int .i64 y.n, .slice y.po y.pl y.pc, .int .i64 y.t0, .int .i64 y.t1, .int .i64 y.t2, .int .i64 y.t3], .pointer (some ⟨w2.heap.size + 1, 0, none⟩)] x fun e x' => e = .returned (.bool true) ∧ Hid (Some1 x' w1.heap.size K R (w2.heap.size + 1) (4 * (i + 1)) w2.heap.size ∧ Below w1.heap.size w1 x' ∧ x'.cell? ⟨w2.heap.size, 0, none⟩ = some (.pointer (some ⟨K, 0, none⟩)) ∧ x'.cell? ⟨w2.heap.size, 1, none⟩ = some (.pointer (some ⟨R, 0, none⟩)) ∧ w2.heap.size < x'.heap.size) ∧ (∀ o, x'.cell? ⟨w2.heap.size, o, none⟩ = wr.cell? ⟨w2.heap.size, o, none⟩) ∧ (∀ o, x'.cell? ⟨b, o, none⟩ = wr.cell? ⟨b, o, none⟩) := fun x hx => by
          obtain ⟨⟨v0, v1, v, σ, ρ, vb, vw, es, jt, hel, hal⟩, hbw, q0, q1, q2⟩ := HR.out
          have hs := hx.size
          have hsw := hbw.size
          have hby : Byts w1 y.po y.pl y.bs := hat1.p
          have b1x : Below w1.heap.size w1 x := hbw.trans (hx.mono hbw.size)
          have jx := jt.below hx
          refine (plays_any jx y (hby.below b1x) hfit.po (by have := hfit.pl; omega) (fun h0 b' o' e' hf => by
            obtain ⟨b2', o2', e2', hl2, _⟩ := hby.cell 0 h0
            rw [e'] at e2'
            simp only [Option.some.injEq, Addr.mk.injEq] at e2'
            have hge : w1.heap.size ≤ b' := by
              rcases hf with hf | hf
              · exact (jx.pr.d.foot_lt hf).1
              · exact (jx.pr.r.foot_lt hf).1
            omega) hfit.at_ hfit.n (by omega)).mono ?_
          rintro e x' ⟨he, v0', v1', v', σ', ρ', vb', vw', es', j', l', bb', kp⟩
          have hkp := kp w2.heap.size (by omega) hal
          have hcb : ∀ o, x'.cell? ⟨w2.heap.size, o, none⟩ = wr.cell? ⟨w2.heap.size, o, none⟩ := fun o => (World.cell?_of_block (a := ⟨w2.heap.size, o, none⟩) hkp.1).trans (hx.cell (p := ⟨w2.heap.size, o, none⟩) (by simp only; omega))
          have hco : ∀ o, x'.cell? ⟨b, o, none⟩ = wr.cell? ⟨b, o, none⟩ := fun o => (bb'.cell (p := ⟨b, o, none⟩) hbl).trans (hx.cell (p := ⟨b, o, none⟩) (by simp only; omega))
          exact ⟨he, ⟨⟨v0', v1', v', σ', ρ', vb', vw', es', j', by omega, hkp.2⟩, b1x.trans bb', (hcb 0).trans q0, (hcb 1).trans q1, by have := bb'.size; omega⟩, hcb, hco⟩
        clear hat hat1 hy hfit
        go_wp2_with fail
        go_region_held3 (fun x => x.cell? ⟨w2.heap.size, 0, none⟩ = some (.pointer (some ⟨K, 0, none⟩)) ∧ x.cell? ⟨w2.heap.size, 1, none⟩ = some (.pointer (some ⟨R, 0, none⟩)) ∧ x.cell? ⟨b, off + i * 9, none⟩ = some (.int .i64 y.kd) ∧ x.cell? ⟨b, off + i * 9 + 1, none⟩ = some (.int .i64 y.ar) ∧ x.cell? ⟨b, off + i * 9 + 2, none⟩ = some (.int .i64 y.at_) ∧ x.cell? ⟨b, off + i * 9 + 3, none⟩ = some (.int .i64 y.n) ∧ x.cell? ⟨b, off + i * 9 + 4, none⟩ = some (.slice y.po y.pl y.pc) ∧ x.cell? ⟨b, off + i * 9 + 5, none⟩ = some (.int .i64 y.t0) ∧ x.cell? ⟨b, off + i * 9 + 6, none⟩ = some (.int .i64 y.t1) ∧ x.cell? ⟨b, off + i * 9 + 7, none⟩ = some (.int .i64 y.t2) ∧ x.cell? ⟨b, off + i * 9 + 8, none⟩ = some (.int .i64 y.t3)) (simp [*]) (first | (go_at_call 17; refine (hpc _ ?_).mono ?_; (first | exact Below.refl _ _ | exact Below.drew (Below.refl _ _) | assumption | exact Below.drew (by assumption)); rintro e wx ⟨rfl, hx1, hx2, hx3⟩))
        all_goals
          go_wp2_with fail
          go_roundw
          case rel => exact ⟨i + 1, hlt, by go_num, hx1⟩
          case measure => simp [intOf]; omega
      · have hlti : ¬ (i : Int) < xs.length := by omega
        go_wp2_with fail
        obtain ⟨⟨v0, v1, v, σ, ρ, vb, vw, es, jt, hel, hal⟩, hbw, q0, q1, q2⟩ := HR.out
        refine (told_any jt (by omega)).mono ?_
        rintro e w5 ⟨rfl, ρ', vb', vw', es', j5, l5, b5, o5, p5⟩
        have H5 : Hid (Below w.heap.size w w5) := HB1.out.1.trans ((hbw.trans b5).mono HB1.out.1.size)
        clear j5 l5 b5 o5 p5 jt hel hal hbw q0 q1 q2
        go_wp2_with fail
        go_ret
        exact ⟨rfl, H5.out⟩
end Go.Proofs.Ytlgjjemfckmidaa
