/-
  DiskExact: the walk.
-/
import Derived.Test.YtbljepiejbikaaaPrSta
namespace Go.Proofs.Ytbljepiejbikaaa
open Go.RowKit Go.BigFrame

set_option maxRecDepth 100000 in
set_option maxHeartbeats 8000000 in
theorem exact_law {w : World} {p0 p1 : Option Addr} {m0 m1 c0 c1 : Nat} {bs0 bs1 : List Int} {ao : Option Addr} {xs : List Opv} {cap : Nat} (hb0 : Byts w p0 m0 bs0) (hb1 : Byts w p1 m1 bs1) (z0 : p0 = none → c0 = 0) (z1 : p1 = none → c1 = 0) (l0 : m0 ≤ 16777216) (l1 : m1 ≤ 16777216) (hO : Ops w ao xs) (hl : xs.length ≤ 1048576) (hF : ∀ y ∈ xs, OpFit y) :
    Calls Try.prog 6 #[.agg #[.slice p0 m0 c0, .slice p1 m1 c1], .slice ao xs.length cap] w fun e w' => e = .returned (.bool true) ∧ Below w.heap.size w w' := by
  have bT : Below w.heap.size w (w.alloc (.cells #[.slice p0 m0 c0, .slice p1 m1 c1] 26)) := (Below.refl _ _).alloc (Nat.le_refl _) _
  have HI : Hid (Byts (w.alloc (.cells #[.slice p0 m0 c0, .slice p1 m1 c1] 26)) p0 m0 bs0 ∧ Byts (w.alloc (.cells #[.slice p0 m0 c0, .slice p1 m1 c1] 26)) p1 m1 bs1 ∧ (p0 = none → c0 = 0) ∧ (p1 = none → c1 = 0) ∧ Ops (w.alloc (.cells #[.slice p0 m0 c0, .slice p1 m1 c1] 26)) ao xs ∧ (∀ y ∈ xs, OpFit y) ∧ bs0.length = m0 ∧ bs1.length = m1) := ⟨hb0.below bT, hb1.below bT, z0, z1, hO.below bT, hF, hb0.len, hb1.len⟩
  clear hb0 hb1 z0 z1 hO hF bT
  go_enter Try.func6, Try.ntmps6
  go_wp2_with fail
  refine (beyond_areas _ HI.out.2.2.2.2.1 (by unfold maxLen; omega) (fun y hy => by have := (HI.out.2.2.2.2.2.1 y hy).pl; omega) l0 l1).mono ?_
  rintro e w1 ⟨⟨q, rfl⟩, b1⟩
  have HB1 : Hid (Below w.heap.size w w1 ∧ Byts w1 p0 m0 bs0 ∧ Byts w1 p1 m1 bs1 ∧ Ops w1 ao xs) := ⟨below_then ((Below.refl _ _).alloc (Nat.le_refl _) _) b1, HI.out.1.below b1, HI.out.2.1.below b1, HI.out.2.2.2.2.1.below b1⟩
  have hc1 : ∀ o, w1.cell? ⟨w.heap.size, o, none⟩ = (w.alloc (.cells #[.slice p0 m0 c0, .slice p1 m1 c1] 26)).cell? ⟨w.heap.size, o, none⟩ := fun o => b1.cell (p := ⟨w.heap.size, o, none⟩) (by simp)
  clear b1
  cases q with
  | true =>
    go_wp2_with fail
    go_ret
    exact ⟨rfl, HB1.out.1⟩
  | false =>
    go_wp2_with fail
    refine (made_ok2 HB1.out.2.1 HB1.out.2.2.1 HI.out.2.2.1 HI.out.2.2.2.1 l0 l1).mono ?_
    rintro e w2 ⟨K, R, u0, u1, v, rfl, p2, b2⟩
    have H2 : Hid (Pr w2 w1.heap.size K R u0 u1 v (sg0 bs0 bs1) ∧ Below w1.heap.size w1 w2) := ⟨p2, b2⟩
    clear p2 b2 hc1
    go_wp2_with fail
    obtain ⟨W, hW⟩ : ∃ y, (w2.alloc (.cells #[.pointer (some ⟨K, 0, none⟩), .pointer (some ⟨R, 0, none⟩)] 45)).alloc (.cells #[.slice none 0 0, .slice none 0 0, .slice none 0 0, .slice none 0 0, .slice none 0 0, .slice none 0 0] 53) = y := ⟨_, rfl⟩
    have HW : Hid (Sta w1 K R (w2.heap.size + 1) w2.heap.size 0 W) := by
      obtain ⟨p2, b2⟩ := H2.out
      have hs2 := b2.size
      have bX : Below w2.heap.size w2 (w2.alloc (.cells #[.pointer (some ⟨K, 0, none⟩), .pointer (some ⟨R, 0, none⟩)] 45)) := (Below.refl _ _).alloc (Nat.le_refl _) _
      have bW : Below w2.heap.size w2 W := by rw [← hW]; exact bX.alloc (by simp) _
      have hbk := Bk.fresh (w := w2.alloc (.cells #[.pointer (some ⟨K, 0, none⟩), .pointer (some ⟨R, 0, none⟩)] 45)) (B := w1.heap.size) (by simp; omega)
      rw [show (w2.alloc (.cells #[.pointer (some ⟨K, 0, none⟩), .pointer (some ⟨R, 0, none⟩)] 45)).heap.size = w2.heap.size + 1 by simp, hW] at hbk
      have hf : ∀ k, (Foot K u0 u1 k ∨ RFoot R v k) → k < w2.heap.size := fun k hk => p2.foot_lt hk
      have e0 := HI.out.2.2.2.2.2.2.1
      have e1 := HI.out.2.2.2.2.2.2.2
      refine ⟨⟨u0, u1, v, sg0 bs0 bs1, _, _, _, [], ⟨p2.below bW, ⟨Nat.le_refl _, Nat.le_refl _, by show bs0.length ≤ _; omega, by show bs1.length ≤ _; omega⟩, hbk, fun k hk => by have := hf k hk; simp; omega, fun i e he => by simp at he, by omega, fun k hk => by simp; omega⟩, Nat.zero_le _, fun g => by have := hf _ g; omega, by simp⟩, b2.trans (bW.mono hs2), ?_, ?_, by rw [← hW]; simp; omega⟩
      · rw [← hW, World.cell?_alloc_lt _ _ ⟨w2.heap.size, 0, none⟩ (by simp)]; simp
      · rw [← hW, World.cell?_alloc_lt _ _ ⟨w2.heap.size, 1, none⟩ (by simp)]; simp
    rw [hW]
    clear hW H2
    go_loopw [8] (fun t8 wx => ∃ i : Nat, i ≤ xs.length ∧ t8 = .int .i64 i ∧ Hid (∃ m, m ≤ 8 * i ∧ Sta w1 K R (w2.heap.size + 1) w2.heap.size m wx)) (fun t8 _ => xs.length - (intOf t8).toNat)
    case atStart => exact ⟨0, Nat.zero_le _, rfl, 0, Nat.zero_le _, HW.out⟩
    case round =>
      obtain ⟨i, hi, rfl, HR'⟩ := hrel
      obtain ⟨m, hmi, hst⟩ := HR'.out
      have HR : Hid (Sta w1 K R (w2.heap.size + 1) w2.heap.size m wr) := hst
      have k0 : wr.cell? ⟨w2.heap.size, 0, none⟩ = some (.pointer (some ⟨K, 0, none⟩)) := HR.out.2.2.1
      have k1 : wr.cell? ⟨w2.heap.size, 1, none⟩ = some (.pointer (some ⟨R, 0, none⟩)) := HR.out.2.2.2.1
      clear hst HR'
      by_cases hlt : i < xs.length
      · have hlti : (i : Int) < xs.length := by omega
        obtain ⟨y, hy⟩ : ∃ y, xs[i]? = some y := ⟨_, List.getElem?_eq_getElem hlt⟩
        obtain ⟨b, off, rfl, hat1⟩ := HB1.out.2.2.2 i y hy
        have hfit := HI.out.2.2.2.2.2.1 y (List.mem_of_getElem? hy)
        have hat := hat1.below HR.out.2.1
        have hbl := hat1.lt
        have a0 := hat.c0
        have a1 := hat.c1
        have a2 := hat.c2
        have a3 := hat.c3
        have a4 := hat.c4
        have a5 := hat.c5
        have a6 := hat.c6
        have a7 := hat.c7
        have a8 := hat.c8
        have hpc : ∀ x, Below wr.heap.size wr x → Calls Try.prog 17 #[.agg #[.pointer (some ⟨K, 0, none⟩), .pointer (some ⟨R, 0, none⟩)], .agg #[.int .i64 y.kd, .int .i64 y.ar, .int .i64 y.at_, .int .i64 y.n, .slice y.po y.pl y.pc, .int .i64 y.t0, .int .i64 y.t1, .int .i64 y.t2, .int .i64 y.t3], .pointer (some ⟨w2.heap.size + 1, 0, none⟩)] x fun e x' => e = .returned (.bool true) ∧ Hid (Sta w1 K R (w2.heap.size + 1) w2.heap.size (m + 4) x') ∧ (∀ o, x'.cell? ⟨w2.heap.size, o, none⟩ = wr.cell? ⟨w2.heap.size, o, none⟩) ∧ (∀ o, x'.cell? ⟨b, o, none⟩ = wr.cell? ⟨b, o, none⟩) := fun x hx => by
          refine (sta_plays (HR.out.below hx) y hat1.p hfit (by omega)).mono ?_
          rintro e x' ⟨he, hs', hf⟩
          have q2 := HR.out.2.2.2.2
          have hsz := HR.out.2.1.size
          exact ⟨he, hs', fun o => (hf.1 o).trans (hx.cell (p := ⟨w2.heap.size, o, none⟩) q2), fun o => (hf.2 b o hbl).trans (hx.cell (p := ⟨b, o, none⟩) (by simp only; omega))⟩
        have htc : ∀ x x0, Hid (Sta w1 K R (w2.heap.size + 1) w2.heap.size (m + 4) x0) → Below x0.heap.size x0 x → Calls Try.prog 18 #[.agg #[.pointer (some ⟨K, 0, none⟩), .pointer (some ⟨R, 0, none⟩)], .pointer (some ⟨w2.heap.size + 1, 0, none⟩)] x fun e x' => e = .returned (.bool true) ∧ Hid (Sta w1 K R (w2.heap.size + 1) w2.heap.size (m + 8) x') ∧ (∀ o, x'.cell? ⟨w2.heap.size, o, none⟩ = x0.cell? ⟨w2.heap.size, o, none⟩) ∧ (∀ o, x'.cell? ⟨b, o, none⟩ = x0.cell? ⟨b, o, none⟩) := fun x x0 h0 hx => by
          refine (sta_told (h0.out.below hx) (by omega)).mono ?_
          rintro e x' ⟨he, hs', hf⟩
          have q2 := h0.out.2.2.2.2
          have hsz := h0.out.2.1.size
          exact ⟨he, hs', fun o => (hf.1 o).trans (hx.cell (p := ⟨w2.heap.size, o, none⟩) q2), fun o => (hf.2 b o hbl).trans (hx.cell (p := ⟨b, o, none⟩) (by simp only; omega))⟩
        clear hat hat1 hy hfit
        go_wp2_with fail
        go_region_held3 (fun x => x.cell? ⟨w2.heap.size, 0, none⟩ = some (.pointer (some ⟨K, 0, none⟩)) ∧ x.cell? ⟨w2.heap.size, 1, none⟩ = some (.pointer (some ⟨R, 0, none⟩)) ∧ x.cell? ⟨b, off + i * 9, none⟩ = some (.int .i64 y.kd) ∧ x.cell? ⟨b, off + i * 9 + 1, none⟩ = some (.int .i64 y.ar) ∧ x.cell? ⟨b, off + i * 9 + 2, none⟩ = some (.int .i64 y.at_) ∧ x.cell? ⟨b, off + i * 9 + 3, none⟩ = some (.int .i64 y.n) ∧ x.cell? ⟨b, off + i * 9 + 4, none⟩ = some (.slice y.po y.pl y.pc) ∧ x.cell? ⟨b, off + i * 9 + 5, none⟩ = some (.int .i64 y.t0) ∧ x.cell? ⟨b, off + i * 9 + 6, none⟩ = some (.int .i64 y.t1) ∧ x.cell? ⟨b, off + i * 9 + 7, none⟩ = some (.int .i64 y.t2) ∧ x.cell? ⟨b, off + i * 9 + 8, none⟩ = some (.int .i64 y.t3)) (simp [*]) (first | (go_at_call 17; refine (hpc _ ?_).mono ?_; (first | exact Below.refl _ _ | exact Below.drew (Below.refl _ _) | assumption | exact Below.drew (by assumption)); rintro e wx ⟨rfl, hx1, hx2, hx3⟩) | (go_at_call 18; refine (htc _ _ hx1 ?_).mono ?_; (first | exact Below.refl _ _ | exact Below.drew (Below.refl _ _) | assumption | exact Below.drew (by assumption)); rintro e wy ⟨rfl, hy1, hy2, hy3⟩))
        clear hpc htc a0 a1 a2 a3 a4 a5 a6 a7 a8
        all_goals go_wp2_with fail
        · refine (sta_alone hy1.out (by omega)).mono ?_
          rintro e wz ⟨rfl, hs3, hf3⟩
          have hs4 : Hid (Sta w1 K R (w2.heap.size + 1) w2.heap.size 0 wz) := hs3
          clear hs3 hf3
          go_wp2_with fail
          go_roundw
          case rel => exact ⟨i + 1, hlt, by go_num, 0, Nat.zero_le _, hs4.out⟩
          case measure => simp [intOf]; omega
        · go_roundw
          case rel => exact ⟨i + 1, hlt, by go_num, m + 8, by omega, hy1.out⟩
          case measure => simp [intOf]; omega
      · have hlti : ¬ (i : Int) < xs.length := by omega
        go_wp2_with fail
        refine (sta_told HR.out (by omega)).mono ?_
        rintro e w5 ⟨rfl, hs5, hf5⟩
        have H5 : Hid (Sta w1 K R (w2.heap.size + 1) w2.heap.size (m + 4) w5) := hs5
        clear hs5 hf5 k0 k1
        go_wp2_with fail
        refine (sta_alone H5.out (by omega)).mono ?_
        rintro e w6 ⟨rfl, hs6, hf6⟩
        have H6 : Hid (Sta w1 K R (w2.heap.size + 1) w2.heap.size 0 w6) := hs6
        have g0 : w6.cell? ⟨w2.heap.size, 0, none⟩ = some (.pointer (some ⟨K, 0, none⟩)) := hs6.2.2.1
        have g1 : w6.cell? ⟨w2.heap.size, 1, none⟩ = some (.pointer (some ⟨R, 0, none⟩)) := hs6.2.2.2.1
        clear hs6 hf6
        go_wp2_with fail
        refine (sta_told H6.out (by omega)).mono ?_
        rintro e w7 ⟨rfl, hs7, hf7⟩
        have H7 : Hid (Below w.heap.size w w7) := HB1.out.1.trans (hs7.2.1.mono HB1.out.1.size)
        clear hs7 hf7
        go_wp2_with fail
        go_ret
        exact ⟨rfl, H7.out⟩
end Go.Proofs.Ytbljepiejbikaaa
