/-
  DiskSafe: the walk.
-/
import Derived.Test.YtlgjjemfckmidaaSfTwo
import Derived.Test.YtlgjjemfckmidaaDkBeyond2
import Derived.Test.YtlgjjemfckmidaaPrCallsLaw
import Derived.Deep.RegionHeld3
import Derived.Deep.CutBlock
import Derived.Deep.CutRange
namespace Go.Proofs.Ytlgjjemfckmidaa
open Go.RowKit Go.BigFrame

set_option linter.unusedSimpArgs false in
set_option maxRecDepth 100000 in
set_option maxHeartbeats 16000000 in
theorem safe_law {w : World} {ao : Option Addr} {xs : List Opv} {cap : Nat} {fu : Int} (hO : Ops w ao xs) (hl : xs.length ≤ 1048576) (hF : ∀ y ∈ xs, OpFit y) (hfu : fu ≤ 9223372036854775807) :
    Calls Try.prog 3 #[.slice ao xs.length cap, .int .i64 fu] w fun e w' => e = .returned (.bool true) ∧ Below w.heap.size w w' := by
  have HI : Hid (Ops w ao xs ∧ ∀ y ∈ xs, OpFit y) := ⟨hO, hF⟩
  clear hO hF
  go_enter Try.func3, Try.ntmps3
  go_wp2_with fail
  refine (heads_true _).mono ?_
  rintro e w1 ⟨rfl, b1⟩
  have HB1 : Hid (Below w.heap.size w w1 ∧ Ops w1 ao xs) := ⟨b1, HI.out.1.below b1⟩
  clear b1
  go_wp2_with fail
  refine (beyond_areas (p0 := none) (p1 := none) (m0 := 0) (m1 := 0) (c0 := 0) (c1 := 0) _ HB1.out.2 (by unfold maxLen; omega) (fun y hy => by have := (HI.out.2 y hy).pl; omega) (by omega) (by omega)).mono ?_
  rintro e w2 ⟨⟨q, rfl⟩, b2⟩
  have HB2 : Hid (Below w.heap.size w w2 ∧ Ops w2 ao xs) := ⟨HB1.out.1.trans (b2.mono HB1.out.1.size), HB1.out.2.below b2⟩
  clear b2
  cases q with
  | true =>
    go_wp2_with fail
    refine (heads_true _).mono ?_
    rintro e w3 ⟨rfl, b3⟩
    have HB3 : Hid (Below w.heap.size w w3) := HB2.out.1.trans (b3.mono HB2.out.1.size)
    clear b3
    go_wp2_with fail
    go_ret
    exact ⟨rfl, HB3.out⟩
  | false =>
    go_wp2_with fail
    refine (New_any _).mono ?_
    rintro e w3 ⟨rfl, hw3⟩
    have H3 : Hid (DskS w3 w2.heap.size w2.heap.size (.slice none 0 0) (.slice none 0 0) (sg0 [] []) ∧ Below w2.heap.size w2 w3) := by
      unfold Hid; rw [hw3]; exact ⟨dsk_new w2, (Below.refl _ _).alloc (Nat.le_refl _) _⟩
    clear hw3
    go_wp2_with fail
    refine (dFuse H3.out.1 fu hfu).mono ?_
    rintro e w4 ⟨rfl, d4, s4⟩
    have H4 : Hid (DskS w4 w2.heap.size w2.heap.size (.slice none 0 0) (.slice none 0 0) (fusS (sg0 [] []) fu) ∧ DStep w3 w4 w2.heap.size (.slice none 0 0) (.slice none 0 0) (.slice none 0 0) (.slice none 0 0)) := ⟨d4, s4⟩
    clear d4 s4
    go_wp2_with fail
    obtain ⟨K, hK⟩ : ∃ y, w2.heap.size = y := ⟨_, rfl⟩
    obtain ⟨S6, h6⟩ : ∃ y, w4.heap.size = y := ⟨_, rfl⟩
    obtain ⟨W, hW⟩ : ∃ y, (w4.alloc (.cells #[.slice none 0 0, .slice none 0 0] 26)).alloc (.cells #[.slice none 0 0, .slice none 0 0] 26) = y := ⟨_, rfl⟩
    have HW : Hid (Sfx w2 K S6 (S6 + 1) W) := by
      unfold Hid
      have be4 : Below w2.heap.size w2 w4 := H3.out.2.trans (H4.out.2.off.below H3.out.2.size (fun k g => (H3.out.1.foot_lt g).1))
      rw [← hW, ← h6, ← hK]
      exact sfx_start H4.out.1 be4 rfl rfl ⟨Nat.le_refl _, Nat.le_refl _, Nat.zero_le _, Nat.zero_le _⟩
    rw [h6, hW, hK]
    clear h6 hW hK H3 H4
    go_loopw [8] (fun t8 wx => ∃ i : Nat, i ≤ xs.length ∧ t8 = .int .i64 i ∧ Hid (Sfx w2 K S6 (S6 + 1) wx)) (fun t8 _ => xs.length - (intOf t8).toNat)
    case atStart => exact ⟨0, Nat.zero_le _, rfl, HW.out⟩
    case round =>
      obtain ⟨i, hi, rfl, HR'⟩ := hrel
      obtain ⟨v0, v1, σ, p0, p1, q0, q1, hS⟩ := HR'.out
      by_cases hlt : i < xs.length
      · have hlti : (i : Int) < xs.length := by omega
        obtain ⟨y, hy⟩ : ∃ y, xs[i]? = some y := ⟨_, List.getElem?_eq_getElem hlt⟩
        obtain ⟨b, off, rfl, hat1⟩ := HB2.out.2 i y hy
        have hfit := HI.out.2 y (List.mem_of_getElem? hy)
        have hat := hat1.below hS.be
        obtain ⟨kd, ar, at_, n, po, pl, pc, t0, t1, t2, t3, bs⟩ := y
        have a0 := hat.c0
        have a1 := hat.c1
        have a2 := hat.c2
        have a3 := hat.c3
        have a4 := hat.c4
        have a5 := hat.c5
        have a6 := hat.c6
        have a7 := hat.c7
        have a8 := hat.c8
        simp only at a0 a1 a2 a3 a4 a5 a6 a7 a8
        have HY : Hid (Byts wr po pl bs ∧ (po = none → pc = 0) ∧ pl ≤ 16777216) := ⟨hat.p, hfit.po, hfit.pl⟩
        have HS : Hid (Sfv w2 wr K S6 (S6 + 1) v0 v1 σ p0 p1 q0 q1 (σ.x0.take σ.s0) (σ.x1.take σ.s1) σ.x0 σ.x1) := hS
        have HP2 : Hid (Byts w2 po pl bs) := hat1.p
        clear hat hat1 hfit hy hS
        go_upto_region 11 with fail
        obtain ⟨W1, hW1⟩ : ∃ z, wr.alloc (.cells #[.int .i64 kd, .int .i64 ar, .int .i64 at_, .int .i64 n, .slice po pl pc, .int .i64 t0, .int .i64 t1, .int .i64 t2, .int .i64 t3] 34) = z := ⟨_, rfl⟩
        have hb1 : Below wr.heap.size wr W1 := by rw [← hW1]; exact (Below.refl _ _).alloc (Nat.le_refl _) _
        have HS1 : Hid (Sfv w2 W1 K S6 (S6 + 1) v0 v1 σ p0 p1 q0 q1 (σ.x0.take σ.s0) (σ.x1.take σ.s1) σ.x0 σ.x1 ∧ Byts W1 po pl bs) := ⟨HS.out.below hb1, HY.out.1.below hb1⟩
        have o0 : W1.cell? ⟨wr.heap.size, 0, none⟩ = some (.int .i64 kd) := by rw [← hW1]; simp
        have o1 : W1.cell? ⟨wr.heap.size, 1, none⟩ = some (.int .i64 ar) := by rw [← hW1]; simp
        have o2 : W1.cell? ⟨wr.heap.size, 2, none⟩ = some (.int .i64 at_) := by rw [← hW1]; simp
        have o3 : W1.cell? ⟨wr.heap.size, 3, none⟩ = some (.int .i64 n) := by rw [← hW1]; simp
        have o4 : W1.cell? ⟨wr.heap.size, 4, none⟩ = some (.slice po pl pc) := by rw [← hW1]; simp
        have o5 : W1.cell? ⟨wr.heap.size, 5, none⟩ = some (.int .i64 t0) := by rw [← hW1]; simp
        have o6 : W1.cell? ⟨wr.heap.size, 6, none⟩ = some (.int .i64 t1) := by rw [← hW1]; simp
        have o7 : W1.cell? ⟨wr.heap.size, 7, none⟩ = some (.int .i64 t2) := by rw [← hW1]; simp
        have o8 : W1.cell? ⟨wr.heap.size, 8, none⟩ = some (.int .i64 t3) := by rw [← hW1]; simp
        have hOl : wr.heap.size < W1.heap.size := by rw [← hW1]; simp
        rw [hW1]
        clear hW1 hb1 a0 a1 a2 a3 a4 a5 a6 a7 a8 HR'
        go_cut [51] from 29 to 200 (fun s51 wx => s51 = .bool ((!(ar == 0) && !(ar == 1)) || kd == 9) ∧ W1 = wx)
        case first =>
          by_cases h0 : ar = 0
          · by_cases h9 : kd = 9
            · go_wp2_with fail
              go_meet
              exact ⟨by simp [h0, h9], rfl⟩
            · go_wp2_with fail
              go_meet
              exact ⟨by simp [h0, h9], rfl⟩
          · by_cases h1 : ar = 1
            · by_cases h9 : kd = 9
              · go_wp2_with fail
                go_meet
                exact ⟨by simp [h1, h9], rfl⟩
              · go_wp2_with fail
                go_meet
                exact ⟨by simp [h1, h9], rfl⟩
            · go_wp2_with fail
              go_meet
              exact ⟨by simp [h0, h1], rfl⟩
        case rest =>
          obtain ⟨rfl, rfl⟩ := hcut
          by_cases hgo : (ar = 0 ∨ ar = 1) ∧ kd ≠ 9
          · have hb : ((!(ar == 0) && !(ar == 1)) || kd == 9) = false := by rcases hgo with ⟨h | h, h9⟩ <;> simp [h, h9]
            rw [hb]
            go_wp2_with fail
            refine (does_sg HS1.out.1.d HS1.out.1.ok ⟨kd, ar, at_, n, po, pl, pc, t0, t1, t2, t3, bs⟩ HS1.out.2 HY.out.2.1 (by have := HY.out.2.2; simp only; omega)).mono ?_
            rintro e x1 ⟨rfl, hq⟩
            have hOf : ∀ q, x1.cell? ⟨wr.heap.size, q, none⟩ = W1.cell? ⟨wr.heap.size, q, none⟩ := fun q => by
              obtain ⟨u0, u1, _, s⟩ := hq
              exact s.off.cell (p := ⟨wr.heap.size, q, none⟩) hOl (fun g => by have := (HS.out.d.foot_lt g).2; simp only at this; omega)
            obtain ⟨u0, u1, hs1⟩ := HS1.out.1.does hq (doS_ok HS1.out.1.ok _)
            have hbyt : Byts x1 po pl bs := HP2.out.below hs1.be
            have g0 := (hOf 0).trans o0
            have g1 := (hOf 1).trans o1
            have g3 := (hOf 3).trans o3
            have g4 := (hOf 4).trans o4
            have hO2 : wr.heap.size < x1.heap.size := by obtain ⟨_, _, _, s⟩ := hq; exact Nat.lt_of_lt_of_le hOl s.off.size
            have HOK := HS.out.ok
            have hpl : pl = bs.length := HY.out.1.len.symm
            have h6w : S6 < wr.heap.size := HS.out.l6.2.1
            have h7w : S6 + 1 < wr.heap.size := HS.out.l7.2.1
            obtain ⟨D, hD⟩ : ∃ z, doB σ ⟨kd, ar, at_, n, po, pl, pc, t0, t1, t2, t3, bs⟩ = z := ⟨_, rfl⟩
            obtain ⟨τ, hτ⟩ : ∃ z, doS σ ⟨kd, ar, at_, n, po, pl, pc, t0, t1, t2, t3, bs⟩ = z := ⟨_, rfl⟩
            have HX : Hid (Sfv w2 x1 K S6 (S6 + 1) u0 u1 τ p0 p1 q0 q1 (σ.x0.take σ.s0) (σ.x1.take σ.s1) σ.x0 σ.x1 ∧ Byts x1 po pl bs) := ⟨hτ ▸ hs1, hbyt⟩
            have HD : Hid (doB σ ⟨kd, ar, at_, n, po, pl, pc, t0, t1, t2, t3, bs⟩ = D ∧ doS σ ⟨kd, ar, at_, n, po, pl, pc, t0, t1, t2, t3, bs⟩ = τ ∧ pl = bs.length) := ⟨hD, hτ, hpl⟩
            rw [hD]
            clear hq hOf hs1 hbyt o0 o1 o2 o3 o4 o5 o6 o7 o8 hOl hD hτ hpl
            have hgo1 := hgo.1
            clear hgo hb
            have c60 : x1.cell? ⟨S6, 0, none⟩ = some (.slice p0.a p0.n p0.c) := HX.out.1.c60
            have c61 : x1.cell? ⟨S6, 1, none⟩ = some (.slice p1.a p1.n p1.c) := HX.out.1.c61
            have c70 : x1.cell? ⟨S6 + 1, 0, none⟩ = some (.slice q0.a q0.n q0.c) := HX.out.1.c70
            have c71 : x1.cell? ⟨S6 + 1, 1, none⟩ = some (.slice q1.a q1.n q1.c) := HX.out.1.c71
            have z6 : ∀ o, x1.frozen? ⟨S6, o, none⟩ = false := HX.out.1.f6
            have z7 : ∀ o, x1.frozen? ⟨S6 + 1, o, none⟩ = false := HX.out.1.f7
            have h6l : S6 < x1.heap.size := HX.out.1.l6.2.1
            have h7l : S6 + 1 < x1.heap.size := HX.out.1.l7.2.1
            go_upto_block 2 with fail
            go_cut [10, 11, 12] from 29 to 200 (fun s10 s11 s12 wx => Hid (Sfx w2 K S6 (S6 + 1) wx))
            case first =>
              by_cases hk7 : kd = 7
              · as_aux_lemma =>
                  obtain ⟨hdb, es0, es1, l0, l1, b0, b1⟩ := do_crash (σ := σ) (y := ⟨kd, ar, at_, n, po, pl, pc, t0, t1, t2, t3, bs⟩) HOK hk7
                  rw [HD.out.2.1] at es0 es1 l0 l1 b0 b1
                  have HE : Hid (τ.s0 = τ.x0.length ∧ τ.s1 = τ.x1.length ∧ τ.x0.length ≤ σ.x0.length ∧ τ.x1.length ≤ σ.x1.length ∧ (σ.s0 ≤ τ.x0.length ∧ τ.x0.take σ.s0 = σ.x0.take σ.s0) ∧ (σ.s1 ≤ τ.x1.length ∧ τ.x1.take σ.s1 = σ.x1.take σ.s1)) := ⟨es0, es1, l0, l1, b0, b1⟩
                  clear hdb es0 es1 l0 l1 b0 b1
                  clear HS HS1 HY HW HP2 HD g1 g3 g4 c60 c61 c70 c71 z6 z7 h6l h7l hgo1
                  subst hk7
                  go_wp2_with fail
                  refine (Image_two HX.out.1.d (stOf_any _)).mono ?_
                  rintro e x2 ⟨a0, n0, k0, a1, n1, k1, rfl, hr0, hr1, _, hb2⟩
                  obtain ⟨N, hN⟩ : ∃ z, x2.heap.size = z := ⟨_, rfl⟩
                  obtain ⟨X, hX⟩ : ∃ z, x2.alloc (.cells #[.slice a0 n0 k0, .slice a1 n1 k1] 26) = z := ⟨_, rfl⟩
                  have hbX : Below x2.heap.size x2 X := by rw [← hX]; exact (Below.refl _ _).alloc (Nat.le_refl _) _
                  have l0 : X.cell? ⟨N, 0, none⟩ = some (.slice a0 n0 k0) := by rw [← hX, ← hN]; simp
                  have l1 : X.cell? ⟨N, 1, none⟩ = some (.slice a1 n1 k1) := by rw [← hX, ← hN]; simp
                  have lN : N < X.heap.size := by rw [← hX, ← hN]; simp

                  have HV : Hid (Sfv w2 x2 K S6 (S6 + 1) u0 u1 τ p0 p1 q0 q1 (σ.x0.take σ.s0) (σ.x1.take σ.s1) σ.x0 σ.x1) := HX.out.1.below hb2
                  have hFz : ∀ k, x1.heap.size ≤ k → ¬ Fz K S6 (S6 + 1) u0 u1 k := fun k hk g => by
                    have h6 := HX.out.1.l6.2.1
                    have h7 := HX.out.1.l7.2.1
                    rcases g with g | g | g
                    · have := (HX.out.1.d.foot_lt g).2; omega
                    · omega
                    · omega
                  have hx0 : τ.x0.take τ.s0 = τ.x0 := by rw [HE.out.1]; exact List.take_length
                  have hx1 : τ.x1.take τ.s1 = τ.x1 := by rw [HE.out.2.1]; exact List.take_length
                  have HZX : Hid (Sfv w2 X K S6 (S6 + 1) u0 u1 τ p0 p1 q0 q1 (σ.x0.take σ.s0) (σ.x1.take σ.s1) σ.x0 σ.x1) := HV.out.below hbX
                  have oX : Off (fun _ => False) x2 X := Off.of_below hbX
                  have HR : Hid (Sl X (Fz K S6 (S6 + 1) u0 u1) ⟨a0, n0, k0⟩ τ.x0 ∧ Sl X (Fz K S6 (S6 + 1) u0 u1) ⟨a1, n1, k1⟩ τ.x1) := ⟨(hx0 ▸ Sl.row hr0 hFz).off oX (fun _ _ g => g.elim) (fun _ _ g => g), (hx1 ▸ Sl.row hr1 hFz).off oX (fun _ _ g => g.elim) (fun _ _ g => g)⟩
                  go_wp2_with fail
                  clear hN hX hbX oX hr0 hr1 hb2 HV hFz hx0 hx1 HX g0
                  go_loopw [12] (fun t12 wx => ∃ j m : Nat, j ≤ 2 ∧ t12 = .int .i64 j ∧ wx = X.drewN m) (fun t12 _ => 2 - (intOf t12).toNat)
                  case atStart => exact ⟨0, 0, by omega, rfl, rfl⟩
                  case round =>
                    obtain ⟨j, m, hj, rfl, rfl⟩ := hrel
                    obtain ⟨X', hX'⟩ : ∃ z, X.drewN m = z := ⟨_, rfl⟩
                    have drx : Off (fun _ => False) X X' := by rw [← hX']; exact (Off.refl _ _).drewN _
                    have HV : Hid (Sfv w2 X' K S6 (S6 + 1) u0 u1 τ p0 p1 q0 q1 (σ.x0.take σ.s0) (σ.x1.take σ.s1) σ.x0 σ.x1) := HZX.out.below (drx.below (Nat.le_refl _) (fun _ g => g.elim))
                    have m0 : X'.cell? ⟨N, 0, none⟩ = some (.slice a0 n0 k0) := (drx.cell (p := ⟨N, 0, none⟩) lN id).trans l0
                    have m1 : X'.cell? ⟨N, 1, none⟩ = some (.slice a1 n1 k1) := (drx.cell (p := ⟨N, 1, none⟩) lN id).trans l1
                    rw [hX']
                    clear l0 l1
                    rcases (show j = 0 ∨ j = 1 ∨ j = 2 by omega) with rfl | rfl | rfl
                    · have HC2 : Hid (∀ x, Calls Try.prog 13 #[.slice a0 n0 k0, .slice p0.a p0.n p0.c] (X'.drewN x) fun ev w' => ev = .returned (.bool true) ∧ ∃ m, w' = X'.drewN m) := fun x => (begins_true ((HR.out.1.by'.off drx (fun _ _ _ g => g)).drew x) HR.out.1.le HR.out.1.mx HR.out.1.no (HV.out.sp0.by'.drew x) (by obtain ⟨f0, f1⟩ := HE.out.2.2.2.2.1; rw [List.length_take, Nat.min_eq_left HOK.s0]; exact ⟨f0, f1⟩)).mono (fun ev w' ⟨he, m, hm⟩ => ⟨he, x + m, by rw [hm]; simp [Nat.add_assoc]⟩)
                      have c6 : X'.cell? ⟨S6, 0, none⟩ = some (.slice p0.a p0.n p0.c) := HV.out.c60
                      have c7 : X'.cell? ⟨S6 + 1, 0, none⟩ = some (.slice q0.a q0.n q0.c) := HV.out.c70
                      have hle0 : n0 ≤ q0.n := by
                        have h1 : τ.x0.length = n0 := HR.out.1.by'.len
                        have h2 : σ.x0.length = q0.n := HV.out.sq0.by'.len
                        have h3 := HE.out.2.2.1
                        omega
                      have hle1 : (n0 : Int) ≤ q0.n := by omega
                      have hle2 : ¬ (q0.n : Int) < n0 := by omega
                      have hle : decide ((q0.n : Int) < n0) = false := by simp [hle0]
                      go_wp2_with fail
                      go_quiet ((go_at_call 13; first | exact HC2.out _ | (simp only [World.drewN_drewN]; exact HC2.out _) | exact HC2.out 0))
                      go_wp2_with fail
                      go_roundw
                      case rel => exact ⟨1, _, by omega, by go_num, by rw [← hX']; first | rfl | exact World.drewN_drewN _ _ _⟩
                      case measure => simp [intOf]
                    · have HC2 : Hid (∀ x, Calls Try.prog 13 #[.slice a1 n1 k1, .slice p1.a p1.n p1.c] (X'.drewN x) fun ev w' => ev = .returned (.bool true) ∧ ∃ m, w' = X'.drewN m) := fun x => (begins_true ((HR.out.2.by'.off drx (fun _ _ _ g => g)).drew x) HR.out.2.le HR.out.2.mx HR.out.2.no (HV.out.sp1.by'.drew x) (by obtain ⟨f0, f1⟩ := HE.out.2.2.2.2.2; rw [List.length_take, Nat.min_eq_left HOK.s1]; exact ⟨f0, f1⟩)).mono (fun ev w' ⟨he, m, hm⟩ => ⟨he, x + m, by rw [hm]; simp [Nat.add_assoc]⟩)
                      have c6 : X'.cell? ⟨S6, 1, none⟩ = some (.slice p1.a p1.n p1.c) := HV.out.c61
                      have c7 : X'.cell? ⟨S6 + 1, 1, none⟩ = some (.slice q1.a q1.n q1.c) := HV.out.c71
                      have hle0 : n1 ≤ q1.n := by
                        have h1 : τ.x1.length = n1 := HR.out.2.by'.len
                        have h2 : σ.x1.length = q1.n := HV.out.sq1.by'.len
                        have h3 := HE.out.2.2.2.1
                        omega
                      have hle1 : (n1 : Int) ≤ q1.n := by omega
                      have hle2 : ¬ (q1.n : Int) < n1 := by omega
                      have hle : decide ((q1.n : Int) < n1) = false := by simp [hle0]
                      go_wp2_with fail
                      go_quiet ((go_at_call 13; first | exact HC2.out _ | (simp only [World.drewN_drewN]; exact HC2.out _) | exact HC2.out 0))
                      go_wp2_with fail
                      go_roundw
                      case rel => exact ⟨2, _, by omega, by go_num, by rw [← hX']; first | rfl | exact World.drewN_drewN _ _ _⟩
                      case measure => simp [intOf]
                    · have c60 : X'.cell? ⟨S6, 0, none⟩ = some (.slice p0.a p0.n p0.c) := HV.out.c60
                      have c61 : X'.cell? ⟨S6, 1, none⟩ = some (.slice p1.a p1.n p1.c) := HV.out.c61
                      have z60 : X'.frozen? ⟨S6, 0, none⟩ = false := HV.out.f6 0
                      have z61 : X'.frozen? ⟨S6, 1, none⟩ = false := HV.out.f6 1
                      go_wp2_with fail
                      obtain ⟨X7, hX7⟩ : ∃ z, (X'.setCell ⟨S6, 0, none⟩ (.slice a0 n0 k0)).setCell ⟨S6, 1, none⟩ (.slice a1 n1 k1) = z := ⟨_, rfl⟩
                      have HS7 : Hid (Sfv w2 X7 K S6 (S6 + 1) u0 u1 τ ⟨a0, n0, k0⟩ ⟨a1, n1, k1⟩ q0 q1 τ.x0 τ.x1 σ.x0 σ.x1) := by
                        unfold Hid
                        rw [← hX7]
                        exact HV.out.both6 (HR.out.1.off drx (fun _ _ g => g.elim) (fun _ _ g => g)) (HR.out.2.off drx (fun _ _ g => g.elim) (fun _ _ g => g))
                      rw [hX7]
                      clear hX7 c60 c61 z60 z61 m0 m1 lN drx hX' HV HR HZX
                      have k60 : X7.cell? ⟨S6, 0, none⟩ = some (.slice a0 n0 k0) := HS7.out.c60
                      have k61 : X7.cell? ⟨S6, 1, none⟩ = some (.slice a1 n1 k1) := HS7.out.c61
                      have k70 : X7.cell? ⟨S6 + 1, 0, none⟩ = some (.slice q0.a q0.n q0.c) := HS7.out.c70
                      have k71 : X7.cell? ⟨S6 + 1, 1, none⟩ = some (.slice q1.a q1.n q1.c) := HS7.out.c71
                      have z70 : X7.frozen? ⟨S6 + 1, 0, none⟩ = false := HS7.out.f7 0
                      have z71 : X7.frozen? ⟨S6 + 1, 1, none⟩ = false := HS7.out.f7 1
                      have h6x : S6 < X7.heap.size := HS7.out.l6.2.1
                      have h7x : S6 + 1 < X7.heap.size := HS7.out.l7.2.1
                      have HL0 : Hid (∀ x, Off (fun _ => False) X7 x → Byts x a0 n0 τ.x0) := fun x o => HS7.out.sp0.by'.off o (fun _ _ _ => id)
                      have HL1 : Hid (∀ x, Off (fun _ => False) X7 x → Byts x a1 n1 τ.x1) := fun x o => HS7.out.sp1.by'.off o (fun _ _ _ => id)
                      have HN0 : Hid (a0 = none → k0 = 0) := HS7.out.sp0.no
                      have HN1 : Hid (a1 = none → k1 = 0) := HS7.out.sp1.no
                      have HM0 : Hid (n0 ≤ 16777216) := by have h1 : τ.x0.length = n0 := HS7.out.sp0.by'.len; have := HS7.out.ok.l0; unfold Hid; omega
                      have HM1 : Hid (n1 ≤ 16777216) := by have h1 : τ.x1.length = n1 := HS7.out.sp1.by'.len; have := HS7.out.ok.l1; unfold Hid; omega
                      have s1 : ∀ (X : World) (u : Value) (q r : Nat), (X.setCell ⟨S6 + 1, q, none⟩ u).cell? ⟨S6, r, none⟩ = X.cell? ⟨S6, r, none⟩ := fun X u q r => World.cell?_setCell_other _ _ _ _ (by simp; first | done | omega)
                      go_wp2_with fail
                      go_region_held3 (fun x => x.cell? ⟨S6, 0, none⟩ = some (.slice a0 n0 k0) ∧ x.cell? ⟨S6, 1, none⟩ = some (.slice a1 n1 k1)) (simp [*, World.cell?_alloc_some]) (first | (refine step_app (B := X7.heap.size) rfl (.tmp 85) (.tmp 87) rfl rfl rfl (row_empty_at (by first | exact Nat.le_refl _ | exact Nat.le_succ _) (by first | exact heap_alloc_new _ _ | exact heap_two_first _ _ _ | exact heap_two_snd _ _ _)) (HL0.out _ (by first | exact ((Off.refl _ _).drew).alloc _ | exact (((Off.refl _ _).drew).alloc _).alloc _ | exact (Off.refl _ _).alloc _ | exact ((Off.refl _ _).alloc _).alloc _)) HN0.out (by have := HM0.out; simp; omega) (by simp <;> omega) (Off.refl _ _) ?_; intro a3 n3 c3 x3 hR3 hO3 hG3; have hB3 : Below X7.heap.size X7 x3 := (by first | exact two_app (by first | exact ((Off.refl _ _).drew).alloc _ | exact (((Off.refl _ _).drew).alloc _).alloc _ | exact (Off.refl _ _).alloc _ | exact ((Off.refl _ _).alloc _).alloc _) hO3 (Nat.le_refl _) | exact two_app (by first | exact ((Off.refl _ _).drew).alloc _ | exact (((Off.refl _ _).drew).alloc _).alloc _ | exact (Off.refl _ _).alloc _ | exact ((Off.refl _ _).alloc _).alloc _) hO3 (Nat.le_succ _)); have e0 : x3.cell? ⟨S6, 0, none⟩ = some (.slice a0 n0 k0) := (hB3.cell (p := ⟨S6, 0, none⟩) h6x).trans k60; have e1 : x3.cell? ⟨S6, 1, none⟩ = some (.slice a1 n1 k1) := (hB3.cell (p := ⟨S6, 1, none⟩) h6x).trans k61; have h3l : S6 < x3.heap.size := Nat.lt_of_lt_of_le h6x hB3.size) | (refine step_app (B := X7.heap.size) rfl (.tmp 89) (.tmp 91) rfl rfl rfl (row_empty_at (by first | exact hB3.size | exact Nat.le_refl _ | exact Nat.le_succ _) (by first | exact heap_alloc_new _ _ | exact two_left hO3 (heap_two_snd _ _ _) (by simp) | exact two_left hO3 (heap_two_first _ _ _) (by simp))) (HL1.out _ (by first | exact Off.of_below hB3 | exact (Off.of_below hB3).alloc _)) HN1.out (by have := HM1.out; simp; omega) (by first | exact hB3.size | (have := hB3.size; simp; omega)) (Off.refl _ _) ?_; intro a4 n4 c4 x4 hR4 hO4 hG4; have hB4 : Below X7.heap.size X7 x4 := (by first | exact two_app (Off.of_below hB3) hO4 (Nat.le_refl _) | exact two_app (Off.of_below hB3) hO4 (Nat.le_succ _) | exact two_app ((Off.of_below hB3).alloc _) hO4 hB3.size); have hR34 : Row x4 X7.heap.size (.slice a3 n3 c3) τ.x0 := (by first | exact row_alloc hR3 hO4 (Nat.le_refl _) | exact row_left hR3 hG3 hO4 (by simp <;> omega) (by simp <;> omega)); have f0 : x4.cell? ⟨S6, 0, none⟩ = some (.slice a0 n0 k0) := (hB4.cell (p := ⟨S6, 0, none⟩) h6x).trans k60; have f1 : x4.cell? ⟨S6, 1, none⟩ = some (.slice a1 n1 k1) := (hB4.cell (p := ⟨S6, 1, none⟩) h6x).trans k61; have f2 : x4.cell? ⟨S6 + 1, 0, none⟩ = some (.slice q0.a q0.n q0.c) := (hB4.cell (p := ⟨S6 + 1, 0, none⟩) h7x).trans k70; have f3 : x4.cell? ⟨S6 + 1, 1, none⟩ = some (.slice q1.a q1.n q1.c) := (hB4.cell (p := ⟨S6 + 1, 1, none⟩) h7x).trans k71; have f4 : x4.frozen? ⟨S6 + 1, 0, none⟩ = false := (hB4.frozen (p := ⟨S6 + 1, 0, none⟩) h7x).trans z70; have f5 : x4.frozen? ⟨S6 + 1, 1, none⟩ = false := (hB4.frozen (p := ⟨S6 + 1, 1, none⟩) h7x).trans z71))
                      all_goals
                        have HN : Hid (Sfx w2 K S6 (S6 + 1) ((x4.setCell ⟨S6 + 1, 0, none⟩ (.slice a3 n3 c3)).setCell ⟨S6 + 1, 1, none⟩ (.slice a4 n4 c4))) := by
                          refine sfx_of (HS7.out.both7 hB4 hR34 hR4) ?_ ?_ rfl rfl
                          · rw [HE.out.1, List.take_length]
                          · rw [HE.out.2.1, List.take_length]
                        clear hR3 hO3 hG3 hB3 hR4 hO4 hG4 hB4 hR34
                        go_wp2_with fail
                        go_meet
                        exact HN
              · cases D with
                | false =>
                  as_aux_lemma =>
                    have HN : Hid (Sfx w2 K S6 (S6 + 1) x1) := sfx_no HX.out.1 (by have h := do_no (σ := σ) (y := ⟨kd, ar, at_, n, po, pl, pc, t0, t1, t2, t3, bs⟩) hk7 HD.out.2.2 HD.out.1; rw [HD.out.2.1] at h; exact h)
                    clear HX HD HS HS1 HY HW
                    go_wp2_with fail
                    go_meet
                    exact HN
                | true =>
                  rcases (show kd = 1 ∨ kd = 2 ∨ kd = 3 by
                    have := HD.out.1
                    unfold doB at this
                    by_cases k1 : kd = 1
                    · exact Or.inl k1
                    · by_cases k2 : kd = 2
                      · exact Or.inr (Or.inl k2)
                      · by_cases k3 : kd = 3
                        · exact Or.inr (Or.inr k3)
                        · simp [k1, k2, k3] at this) with hk | hk | hk
                  · rcases hgo1 with har | har
                    · as_aux_lemma =>
                        subst hk har
                        obtain ⟨e1, e2, e3, e4, e5⟩ := do_app0 (σ := σ) (y := ⟨1, 0, at_, n, po, pl, pc, t0, t1, t2, t3, bs⟩) rfl rfl HD.out.2.2 HD.out.1
                        rw [HD.out.2.1] at e1 e2 e3 e4
                        have HE : Hid (τ.x0 = σ.x0 ++ bs ∧ τ.x1 = σ.x1 ∧ τ.s0 = σ.s0 ∧ τ.s1 = σ.s1 ∧ σ.x0.length + pl ≤ 16777216) := ⟨e1, e2, e3, e4, e5⟩
                        clear e1 e2 e3 e4 e5
                        have HQ : Hid (Byts x1 q0.a q0.n σ.x0 ∧ (q0.a = none → q0.c = 0) ∧ q0.n ≤ 16777216) := ⟨HX.out.1.sq0.by', HX.out.1.sq0.no, by have := HX.out.1.sq0.by'.len; have := HOK.l0; omega⟩
                        have HPO : Hid (po = none → pc = 0) := HY.out.2.1
                        have y7 : x1.frozen? ⟨S6 + 1, 0, none⟩ = false := z7 0
                        have s1 : ∀ (X : World) (u : Value), (X.setCell ⟨S6 + 1, 0, none⟩ u).cell? ⟨wr.heap.size, 1, none⟩ = X.cell? ⟨wr.heap.size, 1, none⟩ := fun X u => World.cell?_setCell_other _ _ _ _ (by simp; first | done | omega)
                        have s2 : ∀ (X : World) (u : Value), (X.setCell ⟨S6 + 1, 0, none⟩ u).cell? ⟨wr.heap.size, 4, none⟩ = X.cell? ⟨wr.heap.size, 4, none⟩ := fun X u => World.cell?_setCell_other _ _ _ _ (by simp; first | done | omega)
                        clear HS HS1 HY HW z6 z7
                        go_wp2_with fail
                        refine wp_region_held_drew (S := (fun x => x.cell? ⟨wr.heap.size, 1, none⟩ = some (.int .i64 0) ∧ x.cell? ⟨wr.heap.size, 4, none⟩ = some (.slice po pl pc))) (by kernel_rfl) ?_ (fun hHeld => ?_)
                        · simp [*, World.cell?_alloc_lt _ _ ⟨wr.heap.size, 1, none⟩ hO2, World.cell?_alloc_lt _ _ ⟨wr.heap.size, 4, none⟩ hO2]
                        refine wpAnyH_take (i := 0) (oi := { dst := some 101, op := Op.fieldAddr 34 (Operand.tmp 9) 1, type := 0, pos := "outright.go:68", after := #[], guard := none }) (v := ?_) rfl (by kernel_rfl) (by kernel_rfl) (by kernel_rfl) (fun _ _ _ h => h) (Or.inl ⟨by rfl, ?_⟩) (by assumption) ?_
                        rotate_left
                        · intro w hSw
                          try dsimp only at hSw
                          go_simp
                          try with_reducible rfl
                        try simp only [Act.put, List.setIfInBounds_toArray, List.set_cons_zero, List.set_cons_succ]
                        refine wpAnyH_take (i := 1) (oi := { dst := some 102, op := Op.load 3 (Operand.tmp 101), type := 3, pos := "outright.go:68", after := #[{ on := 0, ground := Ground.data }], guard := none }) (v := ?_) rfl (by kernel_rfl) (by kernel_rfl) (by kernel_rfl) (fun _ _ _ h => h) (Or.inl ⟨by rfl, ?_⟩) (by assumption) ?_
                        rotate_left
                        · intro w hSw
                          try dsimp only at hSw
                          go_simp
                          try with_reducible rfl
                        try simp only [Act.put, List.setIfInBounds_toArray, List.set_cons_zero, List.set_cons_succ]
                        refine wpAnyH_take (i := 3) (oi := { dst := some 104, op := Op.fieldAddr 34 (Operand.tmp 9) 1, type := 0, pos := "outright.go:68", after := #[], guard := none }) (v := ?_) rfl (by kernel_rfl) (by kernel_rfl) (by kernel_rfl) (fun _ _ _ h => h) (Or.inl ⟨by rfl, ?_⟩) (by assumption) ?_
                        rotate_left
                        · intro w hSw
                          try dsimp only at hSw
                          go_simp
                          try with_reducible rfl
                        try simp only [Act.put, List.setIfInBounds_toArray, List.set_cons_zero, List.set_cons_succ]
                        refine wpAnyH_take (i := 4) (oi := { dst := some 105, op := Op.load 3 (Operand.tmp 104), type := 3, pos := "outright.go:68", after := #[{ on := 3, ground := Ground.data }], guard := none }) (v := ?_) rfl (by kernel_rfl) (by kernel_rfl) (by kernel_rfl) (fun _ _ _ h => h) (Or.inl ⟨by rfl, ?_⟩) (by assumption) ?_
                        rotate_left
                        · intro w hSw
                          try dsimp only at hSw
                          go_simp
                          try with_reducible rfl
                        try simp only [Act.put, List.setIfInBounds_toArray, List.set_cons_zero, List.set_cons_succ]
                        refine wpAnyH_take (i := 5) (oi := { dst := some 106, op := Op.indexAddr 26 (Operand.tmp 7) (Operand.tmp 105), type := 0, pos := "outright.go:68", after := #[{ on := 4, ground := Ground.data }], guard := none }) (v := ?_) rfl (by kernel_rfl) (by kernel_rfl) (by kernel_rfl) (fun _ _ _ h => h) (Or.inl ⟨by rfl, ?_⟩) (by assumption) ?_
                        rotate_left
                        · intro w hSw
                          try dsimp only at hSw
                          go_simp
                          try with_reducible rfl
                        try simp only [Act.put, List.setIfInBounds_toArray, List.set_cons_zero, List.set_cons_succ]
                        refine wpAnyH_take (i := 8) (oi := { dst := some 109, op := Op.fieldAddr 34 (Operand.tmp 9) 4, type := 0, pos := "outright.go:68", after := #[], guard := none }) (v := ?_) rfl (by kernel_rfl) (by kernel_rfl) (by kernel_rfl) (fun _ _ _ h => h) (Or.inl ⟨by rfl, ?_⟩) (by assumption) ?_
                        rotate_left
                        · intro w hSw
                          try dsimp only at hSw
                          go_simp
                          try with_reducible rfl
                        try simp only [Act.put, List.setIfInBounds_toArray, List.set_cons_zero, List.set_cons_succ]
                        refine wpAnyH_take (i := 9) (oi := { dst := some 110, op := Op.load 25 (Operand.tmp 109), type := 25, pos := "outright.go:68", after := #[{ on := 8, ground := Ground.data }], guard := none }) (v := ?_) rfl (by kernel_rfl) (by kernel_rfl) (by kernel_rfl) (fun _ _ _ h => h) (Or.inl ⟨by rfl, ?_⟩) (by assumption) ?_
                        rotate_left
                        · intro w hSw
                          try dsimp only at hSw
                          go_simp
                          try with_reducible rfl
                        try simp only [Act.put, List.setIfInBounds_toArray, List.set_cons_zero, List.set_cons_succ]
                        refine wpAnyH_ready (rs := [2, 6]) (by kernel_rfl) (by simp) ?_
                        refine AllReadyH.cons (o := { dst := some 103, op := Op.buildSlice 25 0 #[], type := 25, pos := "outright.go:68", after := #[], guard := none }) rfl (fun K hK => ?_) ?_
                        · go_simp
                          refine hK.out _ _ ?_ (fun hHeld => ?_)
                          · simp [*, World.cell?_alloc_lt _ _ ⟨wr.heap.size, 1, none⟩ hO2, World.cell?_alloc_lt _ _ ⟨wr.heap.size, 4, none⟩ hO2]
                          clear hK K
                          try simp only [Act.put, List.setIfInBounds_toArray, List.set_cons_zero, List.set_cons_succ]
                          refine wpAnyH_ready (rs := [6]) (by kernel_rfl) (by simp) ?_
                          refine AllReadyH.cons (o := { dst := some 107, op := Op.load 25 (Operand.tmp 106), type := 25, pos := "outright.go:68", after := #[{ on := 5, ground := Ground.data }], guard := none }) rfl (fun K hK => ?_) ?_
                          · go_simp
                            refine hK.out _ _ ?_ (fun hHeld => ?_)
                            · simp [*, World.cell?_alloc_lt _ _ ⟨wr.heap.size, 1, none⟩ hO2, World.cell?_alloc_lt _ _ ⟨wr.heap.size, 4, none⟩ hO2]
                            clear hK K
                            try simp only [Act.put, List.setIfInBounds_toArray, List.set_cons_zero, List.set_cons_succ]
                            refine wpAnyH_ready (rs := [7]) (by kernel_rfl) (by simp) ?_
                            refine AllReadyH.cons (o := { dst := some 108, op := Op.call { callee := Callee.builtin Builtin.append, args := #[Operand.tmp 103, Operand.tmp 107], argTypes := #[25, 25] }, type := 25, pos := "outright.go:68", after := #[{ on := 2, ground := Ground.data }, { on := 6, ground := Ground.data }], guard := none }) rfl (fun K hK => ?_) ?_
                            · refine step_copy (w0 := x1) rfl (.tmp 103) (.tmp 107) rfl rfl rfl HQ.out.1 HQ.out.2.1 (by have := HQ.out.2.2; omega) (by first | exact (Off.refl _ _).alloc _ | exact ((Off.refl _ _).alloc _).drew | exact ((Off.refl _ _).drew).alloc _ | exact (((Off.refl _ _).drew).alloc _).drew) (Nat.le_refl _) (by exact heap_alloc_new _ _) ?_
                              intro a' n' c' x3 hR hO
                              have d0 : x3.cell? ⟨wr.heap.size, 1, none⟩ = some (.int .i64 0) := (hO.cell (p := ⟨wr.heap.size, 1, none⟩) hO2).trans g1
                              have d1 : x3.cell? ⟨wr.heap.size, 4, none⟩ = some (.slice po pl pc) := (hO.cell (p := ⟨wr.heap.size, 4, none⟩) hO2).trans g4
                              have d2 : x3.cell? ⟨S6 + 1, 0, none⟩ = some (.slice q0.a q0.n q0.c) := (hO.cell (p := ⟨S6 + 1, 0, none⟩) h7l).trans c70
                              have f0 : x3.frozen? ⟨S6 + 1, 0, none⟩ = false := (hO.frozen (p := ⟨S6 + 1, 0, none⟩) h7l).trans y7
                              have hszx := hO.size
                              refine hK.out _ _ ?_ (fun hHeld => ?_)
                              · simp [*, World.cell?_alloc_lt _ _ ⟨wr.heap.size, 1, none⟩ hO2, World.cell?_alloc_lt _ _ ⟨wr.heap.size, 4, none⟩ hO2]
                              clear hK K
                              try simp only [Act.put, List.setIfInBounds_toArray, List.set_cons_zero, List.set_cons_succ]
                              refine wpAnyH_ready (rs := [10]) (by kernel_rfl) (by simp) ?_
                              refine AllReadyH.cons (o := { dst := some 111, op := Op.call { callee := Callee.builtin Builtin.append, args := #[Operand.tmp 108, Operand.tmp 110], argTypes := #[25, 25] }, type := 25, pos := "outright.go:68", after := #[{ on := 7, ground := Ground.data }, { on := 9, ground := Ground.data }, { on := 7, ground := Ground.chain }], guard := none }) rfl (fun K hK => ?_) ?_
                              · refine step_app (w0 := x3) (B := x1.heap.size) rfl (.tmp 108) (.tmp 110) rfl rfl rfl hR (HX.out.2.below hO) HPO.out (by have := HE.out.2.2.2.2; omega) hszx (by first | exact Off.refl _ _ | exact (Off.refl _ _).drew) ?_
                                intro a2 n2 c2 x4 hR2 hO4 hG2
                                have hB4 : Below x1.heap.size x1 x4 := hO.trans (hO4.below hszx (fun k g => (hR.lt g).1))
                                clear d0 d1 d2 f0
                                have d0 : x4.cell? ⟨wr.heap.size, 1, none⟩ = some (.int .i64 0) := (hB4.cell (p := ⟨wr.heap.size, 1, none⟩) hO2).trans g1
                                have d1 : x4.cell? ⟨wr.heap.size, 4, none⟩ = some (.slice po pl pc) := (hB4.cell (p := ⟨wr.heap.size, 4, none⟩) hO2).trans g4
                                have d2 : x4.cell? ⟨S6 + 1, 0, none⟩ = some (.slice q0.a q0.n q0.c) := (hB4.cell (p := ⟨S6 + 1, 0, none⟩) h7l).trans c70
                                have f0 : x4.frozen? ⟨S6 + 1, 0, none⟩ = false := (hB4.frozen (p := ⟨S6 + 1, 0, none⟩) h7l).trans y7
                                refine hK.out _ _ ?_ (fun hHeld => ?_)
                                · simp [*, World.cell?_alloc_lt _ _ ⟨wr.heap.size, 1, none⟩ hO2, World.cell?_alloc_lt _ _ ⟨wr.heap.size, 4, none⟩ hO2]
                                clear hK K
                                try simp only [Act.put, List.setIfInBounds_toArray, List.set_cons_zero, List.set_cons_succ]
                                refine wpAnyH_take (i := 11) (oi := { dst := some 112, op := Op.indexAddr 26 (Operand.tmp 7) (Operand.tmp 102), type := 0, pos := "outright.go:68", after := #[{ on := 1, ground := Ground.data }, { on := 0, ground := Ground.phase }, { on := 1, ground := Ground.phase }, { on := 2, ground := Ground.phase }, { on := 3, ground := Ground.phase }, { on := 4, ground := Ground.phase }, { on := 5, ground := Ground.phase }, { on := 6, ground := Ground.phase }, { on := 7, ground := Ground.phase }, { on := 8, ground := Ground.phase }, { on := 9, ground := Ground.phase }, { on := 10, ground := Ground.phase }], guard := none }) (v := ?_) rfl (by kernel_rfl) (by kernel_rfl) (by kernel_rfl) (fun _ _ _ h => h) (Or.inl ⟨by rfl, ?_⟩) (by assumption) ?_
                                rotate_left
                                · intro w hSw
                                  try dsimp only at hSw
                                  go_simp
                                  try with_reducible rfl
                                try simp only [Act.put, List.setIfInBounds_toArray, List.set_cons_zero, List.set_cons_succ]
                                refine wpAnyH_ready (rs := [12]) (by kernel_rfl) (by simp) ?_
                                refine AllReadyH.cons (o := { dst := none, op := Op.store 25 (Operand.tmp 112) (Operand.tmp 111), type := 0, pos := "outright.go:68", after := #[{ on := 11, ground := Ground.data }, { on := 10, ground := Ground.data }, { on := 10, ground := Ground.chain }, { on := 0, ground := Ground.phase }, { on := 1, ground := Ground.phase }, { on := 2, ground := Ground.phase }, { on := 3, ground := Ground.phase }, { on := 4, ground := Ground.phase }, { on := 5, ground := Ground.phase }, { on := 6, ground := Ground.phase }, { on := 7, ground := Ground.phase }, { on := 8, ground := Ground.phase }, { on := 9, ground := Ground.phase }, { on := 10, ground := Ground.phase }], guard := none }) rfl (fun K hK => ?_) ?_
                                · go_simp
                                  refine hK.out _ _ ?_ (fun hHeld => ?_)
                                  · simp [*, World.cell?_alloc_lt _ _ ⟨wr.heap.size, 1, none⟩ hO2, World.cell?_alloc_lt _ _ ⟨wr.heap.size, 4, none⟩ hO2]
                                  clear hK K
                                  try simp only [Act.put, List.setIfInBounds_toArray, List.set_cons_zero, List.set_cons_succ]
                                  refine wpAnyH_done (by kernel_rfl) ?_ _
                                  have HN : Hid (Sfx w2 K S6 (S6 + 1) (x4.setCell ⟨S6 + 1, 0, none⟩ (.slice a2 n2 c2))) := by
                                    obtain ⟨e1, e2, e3, e4, e5⟩ := HE.out
                                    refine sfx_of (HX.out.1.to70 hB4 hR2) ?_ ?_ e1.symm e2.symm
                                    · rw [e1, e3]; exact (List.take_append_of_le_length HOK.s0).symm
                                    · rw [e2, e4]
                                  clear hR hO hR2 hO4 hG2 hB4
                                  go_wp2_with fail
                                  go_meet
                                  exact HN
                                exact AllReadyH.nil
                              exact AllReadyH.nil
                            exact AllReadyH.nil
                          exact AllReadyH.nil
                        refine AllReadyH.cons (o := { dst := some 107, op := Op.load 25 (Operand.tmp 106), type := 25, pos := "outright.go:68", after := #[{ on := 5, ground := Ground.data }], guard := none }) rfl (fun K hK => ?_) ?_
                        · go_simp
                          refine hK.out _ _ ?_ (fun hHeld => ?_)
                          · simp [*, World.cell?_alloc_lt _ _ ⟨wr.heap.size, 1, none⟩ hO2, World.cell?_alloc_lt _ _ ⟨wr.heap.size, 4, none⟩ hO2]
                          clear hK K
                          try simp only [Act.put, List.setIfInBounds_toArray, List.set_cons_zero, List.set_cons_succ]
                          refine wpAnyH_ready (rs := [2]) (by kernel_rfl) (by simp) ?_
                          refine AllReadyH.cons (o := { dst := some 103, op := Op.buildSlice 25 0 #[], type := 25, pos := "outright.go:68", after := #[], guard := none }) rfl (fun K hK => ?_) ?_
                          · go_simp
                            refine hK.out _ _ ?_ (fun hHeld => ?_)
                            · simp [*, World.cell?_alloc_lt _ _ ⟨wr.heap.size, 1, none⟩ hO2, World.cell?_alloc_lt _ _ ⟨wr.heap.size, 4, none⟩ hO2]
                            clear hK K
                            try simp only [Act.put, List.setIfInBounds_toArray, List.set_cons_zero, List.set_cons_succ]
                            refine wpAnyH_ready (rs := [7]) (by kernel_rfl) (by simp) ?_
                            refine AllReadyH.cons (o := { dst := some 108, op := Op.call { callee := Callee.builtin Builtin.append, args := #[Operand.tmp 103, Operand.tmp 107], argTypes := #[25, 25] }, type := 25, pos := "outright.go:68", after := #[{ on := 2, ground := Ground.data }, { on := 6, ground := Ground.data }], guard := none }) rfl (fun K hK => ?_) ?_
                            · refine step_copy (w0 := x1) rfl (.tmp 103) (.tmp 107) rfl rfl rfl HQ.out.1 HQ.out.2.1 (by have := HQ.out.2.2; omega) (by first | exact (Off.refl _ _).alloc _ | exact ((Off.refl _ _).alloc _).drew | exact ((Off.refl _ _).drew).alloc _ | exact (((Off.refl _ _).drew).alloc _).drew) (Nat.le_refl _) (by exact heap_alloc_new _ _) ?_
                              intro a' n' c' x3 hR hO
                              have d0 : x3.cell? ⟨wr.heap.size, 1, none⟩ = some (.int .i64 0) := (hO.cell (p := ⟨wr.heap.size, 1, none⟩) hO2).trans g1
                              have d1 : x3.cell? ⟨wr.heap.size, 4, none⟩ = some (.slice po pl pc) := (hO.cell (p := ⟨wr.heap.size, 4, none⟩) hO2).trans g4
                              have d2 : x3.cell? ⟨S6 + 1, 0, none⟩ = some (.slice q0.a q0.n q0.c) := (hO.cell (p := ⟨S6 + 1, 0, none⟩) h7l).trans c70
                              have f0 : x3.frozen? ⟨S6 + 1, 0, none⟩ = false := (hO.frozen (p := ⟨S6 + 1, 0, none⟩) h7l).trans y7
                              have hszx := hO.size
                              refine hK.out _ _ ?_ (fun hHeld => ?_)
                              · simp [*, World.cell?_alloc_lt _ _ ⟨wr.heap.size, 1, none⟩ hO2, World.cell?_alloc_lt _ _ ⟨wr.heap.size, 4, none⟩ hO2]
                              clear hK K
                              try simp only [Act.put, List.setIfInBounds_toArray, List.set_cons_zero, List.set_cons_succ]
                              refine wpAnyH_ready (rs := [10]) (by kernel_rfl) (by simp) ?_
                              refine AllReadyH.cons (o := { dst := some 111, op := Op.call { callee := Callee.builtin Builtin.append, args := #[Operand.tmp 108, Operand.tmp 110], argTypes := #[25, 25] }, type := 25, pos := "outright.go:68", after := #[{ on := 7, ground := Ground.data }, { on := 9, ground := Ground.data }, { on := 7, ground := Ground.chain }], guard := none }) rfl (fun K hK => ?_) ?_
                              · refine step_app (w0 := x3) (B := x1.heap.size) rfl (.tmp 108) (.tmp 110) rfl rfl rfl hR (HX.out.2.below hO) HPO.out (by have := HE.out.2.2.2.2; omega) hszx (by first | exact Off.refl _ _ | exact (Off.refl _ _).drew) ?_
                                intro a2 n2 c2 x4 hR2 hO4 hG2
                                have hB4 : Below x1.heap.size x1 x4 := hO.trans (hO4.below hszx (fun k g => (hR.lt g).1))
                                clear d0 d1 d2 f0
                                have d0 : x4.cell? ⟨wr.heap.size, 1, none⟩ = some (.int .i64 0) := (hB4.cell (p := ⟨wr.heap.size, 1, none⟩) hO2).trans g1
                                have d1 : x4.cell? ⟨wr.heap.size, 4, none⟩ = some (.slice po pl pc) := (hB4.cell (p := ⟨wr.heap.size, 4, none⟩) hO2).trans g4
                                have d2 : x4.cell? ⟨S6 + 1, 0, none⟩ = some (.slice q0.a q0.n q0.c) := (hB4.cell (p := ⟨S6 + 1, 0, none⟩) h7l).trans c70
                                have f0 : x4.frozen? ⟨S6 + 1, 0, none⟩ = false := (hB4.frozen (p := ⟨S6 + 1, 0, none⟩) h7l).trans y7
                                refine hK.out _ _ ?_ (fun hHeld => ?_)
                                · simp [*, World.cell?_alloc_lt _ _ ⟨wr.heap.size, 1, none⟩ hO2, World.cell?_alloc_lt _ _ ⟨wr.heap.size, 4, none⟩ hO2]
                                clear hK K
                                try simp only [Act.put, List.setIfInBounds_toArray, List.set_cons_zero, List.set_cons_succ]
                                refine wpAnyH_take (i := 11) (oi := { dst := some 112, op := Op.indexAddr 26 (Operand.tmp 7) (Operand.tmp 102), type := 0, pos := "outright.go:68", after := #[{ on := 1, ground := Ground.data }, { on := 0, ground := Ground.phase }, { on := 1, ground := Ground.phase }, { on := 2, ground := Ground.phase }, { on := 3, ground := Ground.phase }, { on := 4, ground := Ground.phase }, { on := 5, ground := Ground.phase }, { on := 6, ground := Ground.phase }, { on := 7, ground := Ground.phase }, { on := 8, ground := Ground.phase }, { on := 9, ground := Ground.phase }, { on := 10, ground := Ground.phase }], guard := none }) (v := ?_) rfl (by kernel_rfl) (by kernel_rfl) (by kernel_rfl) (fun _ _ _ h => h) (Or.inl ⟨by rfl, ?_⟩) (by assumption) ?_
                                rotate_left
                                · intro w hSw
                                  try dsimp only at hSw
                                  go_simp
                                  try with_reducible rfl
                                try simp only [Act.put, List.setIfInBounds_toArray, List.set_cons_zero, List.set_cons_succ]
                                refine wpAnyH_ready (rs := [12]) (by kernel_rfl) (by simp) ?_
                                refine AllReadyH.cons (o := { dst := none, op := Op.store 25 (Operand.tmp 112) (Operand.tmp 111), type := 0, pos := "outright.go:68", after := #[{ on := 11, ground := Ground.data }, { on := 10, ground := Ground.data }, { on := 10, ground := Ground.chain }, { on := 0, ground := Ground.phase }, { on := 1, ground := Ground.phase }, { on := 2, ground := Ground.phase }, { on := 3, ground := Ground.phase }, { on := 4, ground := Ground.phase }, { on := 5, ground := Ground.phase }, { on := 6, ground := Ground.phase }, { on := 7, ground := Ground.phase }, { on := 8, ground := Ground.phase }, { on := 9, ground := Ground.phase }, { on := 10, ground := Ground.phase }], guard := none }) rfl (fun K hK => ?_) ?_
                                · go_simp
                                  refine hK.out _ _ ?_ (fun hHeld => ?_)
                                  · simp [*, World.cell?_alloc_lt _ _ ⟨wr.heap.size, 1, none⟩ hO2, World.cell?_alloc_lt _ _ ⟨wr.heap.size, 4, none⟩ hO2]
                                  clear hK K
                                  try simp only [Act.put, List.setIfInBounds_toArray, List.set_cons_zero, List.set_cons_succ]
                                  refine wpAnyH_done (by kernel_rfl) ?_ _
                                  have HN : Hid (Sfx w2 K S6 (S6 + 1) (x4.setCell ⟨S6 + 1, 0, none⟩ (.slice a2 n2 c2))) := by
                                    obtain ⟨e1, e2, e3, e4, e5⟩ := HE.out
                                    refine sfx_of (HX.out.1.to70 hB4 hR2) ?_ ?_ e1.symm e2.symm
                                    · rw [e1, e3]; exact (List.take_append_of_le_length HOK.s0).symm
                                    · rw [e2, e4]
                                  clear hR hO hR2 hO4 hG2 hB4
                                  go_wp2_with fail
                                  go_meet
                                  exact HN
                                exact AllReadyH.nil
                              exact AllReadyH.nil
                            exact AllReadyH.nil
                          exact AllReadyH.nil
                        exact AllReadyH.nil
                    · as_aux_lemma =>
                        subst hk har
                        obtain ⟨e1, e2, e3, e4, e5⟩ := do_app1 (σ := σ) (y := ⟨1, 1, at_, n, po, pl, pc, t0, t1, t2, t3, bs⟩) rfl rfl HD.out.2.2 HD.out.1
                        rw [HD.out.2.1] at e1 e2 e3 e4
                        have HE : Hid (τ.x1 = σ.x1 ++ bs ∧ τ.x0 = σ.x0 ∧ τ.s0 = σ.s0 ∧ τ.s1 = σ.s1 ∧ σ.x1.length + pl ≤ 16777216) := ⟨e1, e2, e3, e4, e5⟩
                        clear e1 e2 e3 e4 e5
                        have HQ : Hid (Byts x1 q1.a q1.n σ.x1 ∧ (q1.a = none → q1.c = 0) ∧ q1.n ≤ 16777216) := ⟨HX.out.1.sq1.by', HX.out.1.sq1.no, by have := HX.out.1.sq1.by'.len; have := HOK.l1; omega⟩
                        have HPO : Hid (po = none → pc = 0) := HY.out.2.1
                        have y7 : x1.frozen? ⟨S6 + 1, 1, none⟩ = false := z7 1
                        have s1 : ∀ (X : World) (u : Value), (X.setCell ⟨S6 + 1, 1, none⟩ u).cell? ⟨wr.heap.size, 1, none⟩ = X.cell? ⟨wr.heap.size, 1, none⟩ := fun X u => World.cell?_setCell_other _ _ _ _ (by simp; first | done | omega)
                        have s2 : ∀ (X : World) (u : Value), (X.setCell ⟨S6 + 1, 1, none⟩ u).cell? ⟨wr.heap.size, 4, none⟩ = X.cell? ⟨wr.heap.size, 4, none⟩ := fun X u => World.cell?_setCell_other _ _ _ _ (by simp; first | done | omega)
                        clear HS HS1 HY HW z6 z7
                        go_wp2_with fail
                        refine wp_region_held_drew (S := (fun x => x.cell? ⟨wr.heap.size, 1, none⟩ = some (.int .i64 1) ∧ x.cell? ⟨wr.heap.size, 4, none⟩ = some (.slice po pl pc))) (by kernel_rfl) ?_ (fun hHeld => ?_)
                        · simp [*, World.cell?_alloc_lt _ _ ⟨wr.heap.size, 1, none⟩ hO2, World.cell?_alloc_lt _ _ ⟨wr.heap.size, 4, none⟩ hO2]
                        refine wpAnyH_take (i := 0) (oi := { dst := some 101, op := Op.fieldAddr 34 (Operand.tmp 9) 1, type := 0, pos := "outright.go:68", after := #[], guard := none }) (v := ?_) rfl (by kernel_rfl) (by kernel_rfl) (by kernel_rfl) (fun _ _ _ h => h) (Or.inl ⟨by rfl, ?_⟩) (by assumption) ?_
                        rotate_left
                        · intro w hSw
                          try dsimp only at hSw
                          go_simp
                          try with_reducible rfl
                        try simp only [Act.put, List.setIfInBounds_toArray, List.set_cons_zero, List.set_cons_succ]
                        refine wpAnyH_take (i := 1) (oi := { dst := some 102, op := Op.load 3 (Operand.tmp 101), type := 3, pos := "outright.go:68", after := #[{ on := 0, ground := Ground.data }], guard := none }) (v := ?_) rfl (by kernel_rfl) (by kernel_rfl) (by kernel_rfl) (fun _ _ _ h => h) (Or.inl ⟨by rfl, ?_⟩) (by assumption) ?_
                        rotate_left
                        · intro w hSw
                          try dsimp only at hSw
                          go_simp
                          try with_reducible rfl
                        try simp only [Act.put, List.setIfInBounds_toArray, List.set_cons_zero, List.set_cons_succ]
                        refine wpAnyH_take (i := 3) (oi := { dst := some 104, op := Op.fieldAddr 34 (Operand.tmp 9) 1, type := 0, pos := "outright.go:68", after := #[], guard := none }) (v := ?_) rfl (by kernel_rfl) (by kernel_rfl) (by kernel_rfl) (fun _ _ _ h => h) (Or.inl ⟨by rfl, ?_⟩) (by assumption) ?_
                        rotate_left
                        · intro w hSw
                          try dsimp only at hSw
                          go_simp
                          try with_reducible rfl
                        try simp only [Act.put, List.setIfInBounds_toArray, List.set_cons_zero, List.set_cons_succ]
                        refine wpAnyH_take (i := 4) (oi := { dst := some 105, op := Op.load 3 (Operand.tmp 104), type := 3, pos := "outright.go:68", after := #[{ on := 3, ground := Ground.data }], guard := none }) (v := ?_) rfl (by kernel_rfl) (by kernel_rfl) (by kernel_rfl) (fun _ _ _ h => h) (Or.inl ⟨by rfl, ?_⟩) (by assumption) ?_
                        rotate_left
                        · intro w hSw
                          try dsimp only at hSw
                          go_simp
                          try with_reducible rfl
                        try simp only [Act.put, List.setIfInBounds_toArray, List.set_cons_zero, List.set_cons_succ]
                        refine wpAnyH_take (i := 5) (oi := { dst := some 106, op := Op.indexAddr 26 (Operand.tmp 7) (Operand.tmp 105), type := 0, pos := "outright.go:68", after := #[{ on := 4, ground := Ground.data }], guard := none }) (v := ?_) rfl (by kernel_rfl) (by kernel_rfl) (by kernel_rfl) (fun _ _ _ h => h) (Or.inl ⟨by rfl, ?_⟩) (by assumption) ?_
                        rotate_left
                        · intro w hSw
                          try dsimp only at hSw
                          go_simp
                          try with_reducible rfl
                        try simp only [Act.put, List.setIfInBounds_toArray, List.set_cons_zero, List.set_cons_succ]
                        refine wpAnyH_take (i := 8) (oi := { dst := some 109, op := Op.fieldAddr 34 (Operand.tmp 9) 4, type := 0, pos := "outright.go:68", after := #[], guard := none }) (v := ?_) rfl (by kernel_rfl) (by kernel_rfl) (by kernel_rfl) (fun _ _ _ h => h) (Or.inl ⟨by rfl, ?_⟩) (by assumption) ?_
                        rotate_left
                        · intro w hSw
                          try dsimp only at hSw
                          go_simp
                          try with_reducible rfl
                        try simp only [Act.put, List.setIfInBounds_toArray, List.set_cons_zero, List.set_cons_succ]
                        refine wpAnyH_take (i := 9) (oi := { dst := some 110, op := Op.load 25 (Operand.tmp 109), type := 25, pos := "outright.go:68", after := #[{ on := 8, ground := Ground.data }], guard := none }) (v := ?_) rfl (by kernel_rfl) (by kernel_rfl) (by kernel_rfl) (fun _ _ _ h => h) (Or.inl ⟨by rfl, ?_⟩) (by assumption) ?_
                        rotate_left
                        · intro w hSw
                          try dsimp only at hSw
                          go_simp
                          try with_reducible rfl
                        try simp only [Act.put, List.setIfInBounds_toArray, List.set_cons_zero, List.set_cons_succ]
                        refine wpAnyH_ready (rs := [2, 6]) (by kernel_rfl) (by simp) ?_
                        refine AllReadyH.cons (o := { dst := some 103, op := Op.buildSlice 25 0 #[], type := 25, pos := "outright.go:68", after := #[], guard := none }) rfl (fun K hK => ?_) ?_
                        · go_simp
                          refine hK.out _ _ ?_ (fun hHeld => ?_)
                          · simp [*, World.cell?_alloc_lt _ _ ⟨wr.heap.size, 1, none⟩ hO2, World.cell?_alloc_lt _ _ ⟨wr.heap.size, 4, none⟩ hO2]
                          clear hK K
                          try simp only [Act.put, List.setIfInBounds_toArray, List.set_cons_zero, List.set_cons_succ]
                          refine wpAnyH_ready (rs := [6]) (by kernel_rfl) (by simp) ?_
                          refine AllReadyH.cons (o := { dst := some 107, op := Op.load 25 (Operand.tmp 106), type := 25, pos := "outright.go:68", after := #[{ on := 5, ground := Ground.data }], guard := none }) rfl (fun K hK => ?_) ?_
                          · go_simp
                            refine hK.out _ _ ?_ (fun hHeld => ?_)
                            · simp [*, World.cell?_alloc_lt _ _ ⟨wr.heap.size, 1, none⟩ hO2, World.cell?_alloc_lt _ _ ⟨wr.heap.size, 4, none⟩ hO2]
                            clear hK K
                            try simp only [Act.put, List.setIfInBounds_toArray, List.set_cons_zero, List.set_cons_succ]
                            refine wpAnyH_ready (rs := [7]) (by kernel_rfl) (by simp) ?_
                            refine AllReadyH.cons (o := { dst := some 108, op := Op.call { callee := Callee.builtin Builtin.append, args := #[Operand.tmp 103, Operand.tmp 107], argTypes := #[25, 25] }, type := 25, pos := "outright.go:68", after := #[{ on := 2, ground := Ground.data }, { on := 6, ground := Ground.data }], guard := none }) rfl (fun K hK => ?_) ?_
                            · refine step_copy (w0 := x1) rfl (.tmp 103) (.tmp 107) rfl rfl rfl HQ.out.1 HQ.out.2.1 (by have := HQ.out.2.2; omega) (by first | exact (Off.refl _ _).alloc _ | exact ((Off.refl _ _).alloc _).drew | exact ((Off.refl _ _).drew).alloc _ | exact (((Off.refl _ _).drew).alloc _).drew) (Nat.le_refl _) (by exact heap_alloc_new _ _) ?_
                              intro a' n' c' x3 hR hO
                              have d0 : x3.cell? ⟨wr.heap.size, 1, none⟩ = some (.int .i64 1) := (hO.cell (p := ⟨wr.heap.size, 1, none⟩) hO2).trans g1
                              have d1 : x3.cell? ⟨wr.heap.size, 4, none⟩ = some (.slice po pl pc) := (hO.cell (p := ⟨wr.heap.size, 4, none⟩) hO2).trans g4
                              have d2 : x3.cell? ⟨S6 + 1, 1, none⟩ = some (.slice q1.a q1.n q1.c) := (hO.cell (p := ⟨S6 + 1, 1, none⟩) h7l).trans c71
                              have f0 : x3.frozen? ⟨S6 + 1, 1, none⟩ = false := (hO.frozen (p := ⟨S6 + 1, 1, none⟩) h7l).trans y7
                              have hszx := hO.size
                              refine hK.out _ _ ?_ (fun hHeld => ?_)
                              · simp [*, World.cell?_alloc_lt _ _ ⟨wr.heap.size, 1, none⟩ hO2, World.cell?_alloc_lt _ _ ⟨wr.heap.size, 4, none⟩ hO2]
                              clear hK K
                              try simp only [Act.put, List.setIfInBounds_toArray, List.set_cons_zero, List.set_cons_succ]
                              refine wpAnyH_ready (rs := [10]) (by kernel_rfl) (by simp) ?_
                              refine AllReadyH.cons (o := { dst := some 111, op := Op.call { callee := Callee.builtin Builtin.append, args := #[Operand.tmp 108, Operand.tmp 110], argTypes := #[25, 25] }, type := 25, pos := "outright.go:68", after := #[{ on := 7, ground := Ground.data }, { on := 9, ground := Ground.data }, { on := 7, ground := Ground.chain }], guard := none }) rfl (fun K hK => ?_) ?_
                              · refine step_app (w0 := x3) (B := x1.heap.size) rfl (.tmp 108) (.tmp 110) rfl rfl rfl hR (HX.out.2.below hO) HPO.out (by have := HE.out.2.2.2.2; omega) hszx (by first | exact Off.refl _ _ | exact (Off.refl _ _).drew) ?_
                                intro a2 n2 c2 x4 hR2 hO4 hG2
                                have hB4 : Below x1.heap.size x1 x4 := hO.trans (hO4.below hszx (fun k g => (hR.lt g).1))
                                clear d0 d1 d2 f0
                                have d0 : x4.cell? ⟨wr.heap.size, 1, none⟩ = some (.int .i64 1) := (hB4.cell (p := ⟨wr.heap.size, 1, none⟩) hO2).trans g1
                                have d1 : x4.cell? ⟨wr.heap.size, 4, none⟩ = some (.slice po pl pc) := (hB4.cell (p := ⟨wr.heap.size, 4, none⟩) hO2).trans g4
                                have d2 : x4.cell? ⟨S6 + 1, 1, none⟩ = some (.slice q1.a q1.n q1.c) := (hB4.cell (p := ⟨S6 + 1, 1, none⟩) h7l).trans c71
                                have f0 : x4.frozen? ⟨S6 + 1, 1, none⟩ = false := (hB4.frozen (p := ⟨S6 + 1, 1, none⟩) h7l).trans y7
                                refine hK.out _ _ ?_ (fun hHeld => ?_)
                                · simp [*, World.cell?_alloc_lt _ _ ⟨wr.heap.size, 1, none⟩ hO2, World.cell?_alloc_lt _ _ ⟨wr.heap.size, 4, none⟩ hO2]
                                clear hK K
                                try simp only [Act.put, List.setIfInBounds_toArray, List.set_cons_zero, List.set_cons_succ]
                                refine wpAnyH_take (i := 11) (oi := { dst := some 112, op := Op.indexAddr 26 (Operand.tmp 7) (Operand.tmp 102), type := 0, pos := "outright.go:68", after := #[{ on := 1, ground := Ground.data }, { on := 0, ground := Ground.phase }, { on := 1, ground := Ground.phase }, { on := 2, ground := Ground.phase }, { on := 3, ground := Ground.phase }, { on := 4, ground := Ground.phase }, { on := 5, ground := Ground.phase }, { on := 6, ground := Ground.phase }, { on := 7, ground := Ground.phase }, { on := 8, ground := Ground.phase }, { on := 9, ground := Ground.phase }, { on := 10, ground := Ground.phase }], guard := none }) (v := ?_) rfl (by kernel_rfl) (by kernel_rfl) (by kernel_rfl) (fun _ _ _ h => h) (Or.inl ⟨by rfl, ?_⟩) (by assumption) ?_
                                rotate_left
                                · intro w hSw
                                  try dsimp only at hSw
                                  go_simp
                                  try with_reducible rfl
                                try simp only [Act.put, List.setIfInBounds_toArray, List.set_cons_zero, List.set_cons_succ]
                                refine wpAnyH_ready (rs := [12]) (by kernel_rfl) (by simp) ?_
                                refine AllReadyH.cons (o := { dst := none, op := Op.store 25 (Operand.tmp 112) (Operand.tmp 111), type := 0, pos := "outright.go:68", after := #[{ on := 11, ground := Ground.data }, { on := 10, ground := Ground.data }, { on := 10, ground := Ground.chain }, { on := 0, ground := Ground.phase }, { on := 1, ground := Ground.phase }, { on := 2, ground := Ground.phase }, { on := 3, ground := Ground.phase }, { on := 4, ground := Ground.phase }, { on := 5, ground := Ground.phase }, { on := 6, ground := Ground.phase }, { on := 7, ground := Ground.phase }, { on := 8, ground := Ground.phase }, { on := 9, ground := Ground.phase }, { on := 10, ground := Ground.phase }], guard := none }) rfl (fun K hK => ?_) ?_
                                · go_simp
                                  refine hK.out _ _ ?_ (fun hHeld => ?_)
                                  · simp [*, World.cell?_alloc_lt _ _ ⟨wr.heap.size, 1, none⟩ hO2, World.cell?_alloc_lt _ _ ⟨wr.heap.size, 4, none⟩ hO2]
                                  clear hK K
                                  try simp only [Act.put, List.setIfInBounds_toArray, List.set_cons_zero, List.set_cons_succ]
                                  refine wpAnyH_done (by kernel_rfl) ?_ _
                                  have HN : Hid (Sfx w2 K S6 (S6 + 1) (x4.setCell ⟨S6 + 1, 1, none⟩ (.slice a2 n2 c2))) := by
                                    obtain ⟨e1, e2, e3, e4, e5⟩ := HE.out
                                    refine sfx_of (HX.out.1.to71 hB4 hR2) ?_ ?_ e2.symm e1.symm
                                    · rw [e2, e3]
                                    · rw [e1, e4]; exact (List.take_append_of_le_length HOK.s1).symm
                                  clear hR hO hR2 hO4 hG2 hB4
                                  go_wp2_with fail
                                  go_meet
                                  exact HN
                                exact AllReadyH.nil
                              exact AllReadyH.nil
                            exact AllReadyH.nil
                          exact AllReadyH.nil
                        refine AllReadyH.cons (o := { dst := some 107, op := Op.load 25 (Operand.tmp 106), type := 25, pos := "outright.go:68", after := #[{ on := 5, ground := Ground.data }], guard := none }) rfl (fun K hK => ?_) ?_
                        · go_simp
                          refine hK.out _ _ ?_ (fun hHeld => ?_)
                          · simp [*, World.cell?_alloc_lt _ _ ⟨wr.heap.size, 1, none⟩ hO2, World.cell?_alloc_lt _ _ ⟨wr.heap.size, 4, none⟩ hO2]
                          clear hK K
                          try simp only [Act.put, List.setIfInBounds_toArray, List.set_cons_zero, List.set_cons_succ]
                          refine wpAnyH_ready (rs := [2]) (by kernel_rfl) (by simp) ?_
                          refine AllReadyH.cons (o := { dst := some 103, op := Op.buildSlice 25 0 #[], type := 25, pos := "outright.go:68", after := #[], guard := none }) rfl (fun K hK => ?_) ?_
                          · go_simp
                            refine hK.out _ _ ?_ (fun hHeld => ?_)
                            · simp [*, World.cell?_alloc_lt _ _ ⟨wr.heap.size, 1, none⟩ hO2, World.cell?_alloc_lt _ _ ⟨wr.heap.size, 4, none⟩ hO2]
                            clear hK K
                            try simp only [Act.put, List.setIfInBounds_toArray, List.set_cons_zero, List.set_cons_succ]
                            refine wpAnyH_ready (rs := [7]) (by kernel_rfl) (by simp) ?_
                            refine AllReadyH.cons (o := { dst := some 108, op := Op.call { callee := Callee.builtin Builtin.append, args := #[Operand.tmp 103, Operand.tmp 107], argTypes := #[25, 25] }, type := 25, pos := "outright.go:68", after := #[{ on := 2, ground := Ground.data }, { on := 6, ground := Ground.data }], guard := none }) rfl (fun K hK => ?_) ?_
                            · refine step_copy (w0 := x1) rfl (.tmp 103) (.tmp 107) rfl rfl rfl HQ.out.1 HQ.out.2.1 (by have := HQ.out.2.2; omega) (by first | exact (Off.refl _ _).alloc _ | exact ((Off.refl _ _).alloc _).drew | exact ((Off.refl _ _).drew).alloc _ | exact (((Off.refl _ _).drew).alloc _).drew) (Nat.le_refl _) (by exact heap_alloc_new _ _) ?_
                              intro a' n' c' x3 hR hO
                              have d0 : x3.cell? ⟨wr.heap.size, 1, none⟩ = some (.int .i64 1) := (hO.cell (p := ⟨wr.heap.size, 1, none⟩) hO2).trans g1
                              have d1 : x3.cell? ⟨wr.heap.size, 4, none⟩ = some (.slice po pl pc) := (hO.cell (p := ⟨wr.heap.size, 4, none⟩) hO2).trans g4
                              have d2 : x3.cell? ⟨S6 + 1, 1, none⟩ = some (.slice q1.a q1.n q1.c) := (hO.cell (p := ⟨S6 + 1, 1, none⟩) h7l).trans c71
                              have f0 : x3.frozen? ⟨S6 + 1, 1, none⟩ = false := (hO.frozen (p := ⟨S6 + 1, 1, none⟩) h7l).trans y7
                              have hszx := hO.size
                              refine hK.out _ _ ?_ (fun hHeld => ?_)
                              · simp [*, World.cell?_alloc_lt _ _ ⟨wr.heap.size, 1, none⟩ hO2, World.cell?_alloc_lt _ _ ⟨wr.heap.size, 4, none⟩ hO2]
                              clear hK K
                              try simp only [Act.put, List.setIfInBounds_toArray, List.set_cons_zero, List.set_cons_succ]
                              refine wpAnyH_ready (rs := [10]) (by kernel_rfl) (by simp) ?_
                              refine AllReadyH.cons (o := { dst := some 111, op := Op.call { callee := Callee.builtin Builtin.append, args := #[Operand.tmp 108, Operand.tmp 110], argTypes := #[25, 25] }, type := 25, pos := "outright.go:68", after := #[{ on := 7, ground := Ground.data }, { on := 9, ground := Ground.data }, { on := 7, ground := Ground.chain }], guard := none }) rfl (fun K hK => ?_) ?_
                              · refine step_app (w0 := x3) (B := x1.heap.size) rfl (.tmp 108) (.tmp 110) rfl rfl rfl hR (HX.out.2.below hO) HPO.out (by have := HE.out.2.2.2.2; omega) hszx (by first | exact Off.refl _ _ | exact (Off.refl _ _).drew) ?_
                                intro a2 n2 c2 x4 hR2 hO4 hG2
                                have hB4 : Below x1.heap.size x1 x4 := hO.trans (hO4.below hszx (fun k g => (hR.lt g).1))
                                clear d0 d1 d2 f0
                                have d0 : x4.cell? ⟨wr.heap.size, 1, none⟩ = some (.int .i64 1) := (hB4.cell (p := ⟨wr.heap.size, 1, none⟩) hO2).trans g1
                                have d1 : x4.cell? ⟨wr.heap.size, 4, none⟩ = some (.slice po pl pc) := (hB4.cell (p := ⟨wr.heap.size, 4, none⟩) hO2).trans g4
                                have d2 : x4.cell? ⟨S6 + 1, 1, none⟩ = some (.slice q1.a q1.n q1.c) := (hB4.cell (p := ⟨S6 + 1, 1, none⟩) h7l).trans c71
                                have f0 : x4.frozen? ⟨S6 + 1, 1, none⟩ = false := (hB4.frozen (p := ⟨S6 + 1, 1, none⟩) h7l).trans y7
                                refine hK.out _ _ ?_ (fun hHeld => ?_)
                                · simp [*, World.cell?_alloc_lt _ _ ⟨wr.heap.size, 1, none⟩ hO2, World.cell?_alloc_lt _ _ ⟨wr.heap.size, 4, none⟩ hO2]
                                clear hK K
                                try simp only [Act.put, List.setIfInBounds_toArray, List.set_cons_zero, List.set_cons_succ]
                                refine wpAnyH_take (i := 11) (oi := { dst := some 112, op := Op.indexAddr 26 (Operand.tmp 7) (Operand.tmp 102), type := 0, pos := "outright.go:68", after := #[{ on := 1, ground := Ground.data }, { on := 0, ground := Ground.phase }, { on := 1, ground := Ground.phase }, { on := 2, ground := Ground.phase }, { on := 3, ground := Ground.phase }, { on := 4, ground := Ground.phase }, { on := 5, ground := Ground.phase }, { on := 6, ground := Ground.phase }, { on := 7, ground := Ground.phase }, { on := 8, ground := Ground.phase }, { on := 9, ground := Ground.phase }, { on := 10, ground := Ground.phase }], guard := none }) (v := ?_) rfl (by kernel_rfl) (by kernel_rfl) (by kernel_rfl) (fun _ _ _ h => h) (Or.inl ⟨by rfl, ?_⟩) (by assumption) ?_
                                rotate_left
                                · intro w hSw
                                  try dsimp only at hSw
                                  go_simp
                                  try with_reducible rfl
                                try simp only [Act.put, List.setIfInBounds_toArray, List.set_cons_zero, List.set_cons_succ]
                                refine wpAnyH_ready (rs := [12]) (by kernel_rfl) (by simp) ?_
                                refine AllReadyH.cons (o := { dst := none, op := Op.store 25 (Operand.tmp 112) (Operand.tmp 111), type := 0, pos := "outright.go:68", after := #[{ on := 11, ground := Ground.data }, { on := 10, ground := Ground.data }, { on := 10, ground := Ground.chain }, { on := 0, ground := Ground.phase }, { on := 1, ground := Ground.phase }, { on := 2, ground := Ground.phase }, { on := 3, ground := Ground.phase }, { on := 4, ground := Ground.phase }, { on := 5, ground := Ground.phase }, { on := 6, ground := Ground.phase }, { on := 7, ground := Ground.phase }, { on := 8, ground := Ground.phase }, { on := 9, ground := Ground.phase }, { on := 10, ground := Ground.phase }], guard := none }) rfl (fun K hK => ?_) ?_
                                · go_simp
                                  refine hK.out _ _ ?_ (fun hHeld => ?_)
                                  · simp [*, World.cell?_alloc_lt _ _ ⟨wr.heap.size, 1, none⟩ hO2, World.cell?_alloc_lt _ _ ⟨wr.heap.size, 4, none⟩ hO2]
                                  clear hK K
                                  try simp only [Act.put, List.setIfInBounds_toArray, List.set_cons_zero, List.set_cons_succ]
                                  refine wpAnyH_done (by kernel_rfl) ?_ _
                                  have HN : Hid (Sfx w2 K S6 (S6 + 1) (x4.setCell ⟨S6 + 1, 1, none⟩ (.slice a2 n2 c2))) := by
                                    obtain ⟨e1, e2, e3, e4, e5⟩ := HE.out
                                    refine sfx_of (HX.out.1.to71 hB4 hR2) ?_ ?_ e2.symm e1.symm
                                    · rw [e2, e3]
                                    · rw [e1, e4]; exact (List.take_append_of_le_length HOK.s1).symm
                                  clear hR hO hR2 hO4 hG2 hB4
                                  go_wp2_with fail
                                  go_meet
                                  exact HN
                                exact AllReadyH.nil
                              exact AllReadyH.nil
                            exact AllReadyH.nil
                          exact AllReadyH.nil
                        exact AllReadyH.nil
                  · rcases hgo1 with har | har
                    · as_aux_lemma =>
                        subst hk har
                        obtain ⟨e1, e2, e3, e4⟩ := do_syn0 (σ := σ) (y := ⟨2, 0, at_, n, po, pl, pc, t0, t1, t2, t3, bs⟩) rfl rfl HD.out.1
                        rw [HD.out.2.1] at e1 e2 e3 e4
                        have HE : Hid (τ.x0 = σ.x0 ∧ τ.x1 = σ.x1 ∧ τ.s0 = σ.x0.length ∧ τ.s1 = σ.s1) := ⟨e1, e2, e3, e4⟩
                        clear e1 e2 e3 e4
                        have HQ : Hid (Byts x1 q0.a q0.n σ.x0 ∧ (q0.a = none → q0.c = 0) ∧ q0.n ≤ 16777216) := ⟨HX.out.1.sq0.by', HX.out.1.sq0.no, by have := HX.out.1.sq0.by'.len; have := HOK.l0; omega⟩
                        have y6 : x1.frozen? ⟨S6, 0, none⟩ = false := z6 0
                        have s1 : ∀ (X : World) (u : Value), (X.setCell ⟨S6, 0, none⟩ u).cell? ⟨wr.heap.size, 1, none⟩ = X.cell? ⟨wr.heap.size, 1, none⟩ := fun X u => World.cell?_setCell_other _ _ _ _ (by simp; first | done | omega)
                        have s2 : ∀ (X : World) (u : Value), (X.setCell ⟨S6, 0, none⟩ u).cell? ⟨S6 + 1, 0, none⟩ = X.cell? ⟨S6 + 1, 0, none⟩ := fun X u => World.cell?_setCell_other _ _ _ _ (by simp; first | done | omega)
                        clear HS HS1 HY HW z6 z7
                        go_wp2_with fail
                        go_region_held3 (fun x => x.cell? ⟨wr.heap.size, 1, none⟩ = some (.int .i64 0) ∧ x.cell? ⟨S6 + 1, 0, none⟩ = some (.slice q0.a q0.n q0.c)) (simp [*, World.cell?_alloc_lt _ _ ⟨wr.heap.size, 1, none⟩ hO2, World.cell?_alloc_lt _ _ ⟨S6 + 1, 0, none⟩ h7l]) (first | (refine step_copy (w0 := x1) rfl (.tmp 119) (.tmp 123) rfl rfl rfl HQ.out.1 HQ.out.2.1 (by have := HQ.out.2.2; omega) (by first | exact (Off.refl _ _).alloc _ | exact ((Off.refl _ _).alloc _).drew | exact ((Off.refl _ _).drew).alloc _ | exact (((Off.refl _ _).drew).alloc _).drew) (Nat.le_refl _) (by exact heap_alloc_new _ _) ?_; intro a' n' c' x3 hR hO; have d0 : x3.cell? ⟨wr.heap.size, 1, none⟩ = some (.int .i64 0) := (hO.cell (p := ⟨wr.heap.size, 1, none⟩) hO2).trans g1; have d1 : x3.cell? ⟨S6 + 1, 0, none⟩ = some (.slice q0.a q0.n q0.c) := (hO.cell (p := ⟨S6 + 1, 0, none⟩) h7l).trans c70; have d2 : x3.cell? ⟨S6, 0, none⟩ = some (.slice p0.a p0.n p0.c) := (hO.cell (p := ⟨S6, 0, none⟩) h6l).trans c60; have f0 : x3.frozen? ⟨S6, 0, none⟩ = false := (hO.frozen (p := ⟨S6, 0, none⟩) h6l).trans y6))
                        all_goals
                          have HN : Hid (Sfx w2 K S6 (S6 + 1) (x3.setCell ⟨S6, 0, none⟩ (.slice a' n' c'))) := by
                            obtain ⟨e1, e2, e3, e4⟩ := HE.out
                            refine sfx_of (HX.out.1.to60 hO hR) ?_ ?_ e1.symm e2.symm
                            · rw [e1, e3]; simp
                            · rw [e2, e4]
                          clear hR hO
                          go_wp2_with fail
                          go_meet
                          exact HN
                    · as_aux_lemma =>
                        subst hk har
                        obtain ⟨e1, e2, e3, e4⟩ := do_syn1 (σ := σ) (y := ⟨2, 1, at_, n, po, pl, pc, t0, t1, t2, t3, bs⟩) rfl rfl HD.out.1
                        rw [HD.out.2.1] at e1 e2 e3 e4
                        have HE : Hid (τ.x0 = σ.x0 ∧ τ.x1 = σ.x1 ∧ τ.s0 = σ.s0 ∧ τ.s1 = σ.x1.length) := ⟨e1, e2, e3, e4⟩
                        clear e1 e2 e3 e4
                        have HQ : Hid (Byts x1 q1.a q1.n σ.x1 ∧ (q1.a = none → q1.c = 0) ∧ q1.n ≤ 16777216) := ⟨HX.out.1.sq1.by', HX.out.1.sq1.no, by have := HX.out.1.sq1.by'.len; have := HOK.l1; omega⟩
                        have y6 : x1.frozen? ⟨S6, 1, none⟩ = false := z6 1
                        have s1 : ∀ (X : World) (u : Value), (X.setCell ⟨S6, 1, none⟩ u).cell? ⟨wr.heap.size, 1, none⟩ = X.cell? ⟨wr.heap.size, 1, none⟩ := fun X u => World.cell?_setCell_other _ _ _ _ (by simp; first | done | omega)
                        have s2 : ∀ (X : World) (u : Value), (X.setCell ⟨S6, 1, none⟩ u).cell? ⟨S6 + 1, 1, none⟩ = X.cell? ⟨S6 + 1, 1, none⟩ := fun X u => World.cell?_setCell_other _ _ _ _ (by simp; first | done | omega)
                        clear HS HS1 HY HW z6 z7
                        go_wp2_with fail
                        go_region_held3 (fun x => x.cell? ⟨wr.heap.size, 1, none⟩ = some (.int .i64 1) ∧ x.cell? ⟨S6 + 1, 1, none⟩ = some (.slice q1.a q1.n q1.c)) (simp [*, World.cell?_alloc_lt _ _ ⟨wr.heap.size, 1, none⟩ hO2, World.cell?_alloc_lt _ _ ⟨S6 + 1, 1, none⟩ h7l]) (first | (refine step_copy (w0 := x1) rfl (.tmp 119) (.tmp 123) rfl rfl rfl HQ.out.1 HQ.out.2.1 (by have := HQ.out.2.2; omega) (by first | exact (Off.refl _ _).alloc _ | exact ((Off.refl _ _).alloc _).drew | exact ((Off.refl _ _).drew).alloc _ | exact (((Off.refl _ _).drew).alloc _).drew) (Nat.le_refl _) (by exact heap_alloc_new _ _) ?_; intro a' n' c' x3 hR hO; have d0 : x3.cell? ⟨wr.heap.size, 1, none⟩ = some (.int .i64 1) := (hO.cell (p := ⟨wr.heap.size, 1, none⟩) hO2).trans g1; have d1 : x3.cell? ⟨S6 + 1, 1, none⟩ = some (.slice q1.a q1.n q1.c) := (hO.cell (p := ⟨S6 + 1, 1, none⟩) h7l).trans c71; have d2 : x3.cell? ⟨S6, 1, none⟩ = some (.slice p1.a p1.n p1.c) := (hO.cell (p := ⟨S6, 1, none⟩) h6l).trans c61; have f0 : x3.frozen? ⟨S6, 1, none⟩ = false := (hO.frozen (p := ⟨S6, 1, none⟩) h6l).trans y6))
                        all_goals
                          have HN : Hid (Sfx w2 K S6 (S6 + 1) (x3.setCell ⟨S6, 1, none⟩ (.slice a' n' c'))) := by
                            obtain ⟨e1, e2, e3, e4⟩ := HE.out
                            refine sfx_of (HX.out.1.to61 hO hR) ?_ ?_ e1.symm e2.symm
                            · rw [e1, e3]
                            · rw [e2, e4]; simp
                          clear hR hO
                          go_wp2_with fail
                          go_meet
                          exact HN
                  · rcases hgo1 with har | har
                    · as_aux_lemma =>
                        subst hk har
                        obtain ⟨m, hm, hml, e1, e2, e3, e4⟩ := do_cut0 (σ := σ) (y := ⟨3, 0, at_, n, po, pl, pc, t0, t1, t2, t3, bs⟩) rfl rfl HD.out.1
                        rw [HD.out.2.1] at e1 e2 e3 e4
                        simp only at hm
                        subst hm
                        have HE : Hid (τ.x0 = σ.x0.take m ∧ τ.x1 = σ.x1 ∧ τ.s0 = min σ.s0 m ∧ τ.s1 = σ.s1) := ⟨e1, e2, e3, e4⟩
                        clear e1 e2 e3 e4
                        have hqn : q0.n = σ.x0.length := HX.out.1.sq0.by'.len.symm
                        have HQ : Hid (Byts x1 q0.a m (σ.x0.take m) ∧ (q0.a = none → q0.c = 0) ∧ m ≤ 16777216) := ⟨HX.out.1.sq0.by'.take (by omega), HX.out.1.sq0.no, by have := HOK.l0; omega⟩
                        have hqc : (m : Int) ≤ q0.c := by have := HX.out.1.sq0.le; omega
                        have hq2 : (m : Int) ≤ q0.n := by omega
                        have hq3 : (q0.n : Int) ≤ q0.c := by have := HX.out.1.sq0.le; omega
                        have hq4 : q0.c ≤ 9223372036854775807 := by have := HX.out.1.sq0.mx; unfold maxLen at this; omega
                        have hpn : p0.n = (σ.x0.take σ.s0).length := HX.out.1.sp0.by'.len.symm
                        have HPN : Hid (p0.n = (σ.x0.take σ.s0).length) := hpn
                        clear hpn hqn
                        have y7 : x1.frozen? ⟨S6 + 1, 0, none⟩ = false := z7 0
                        have y6 : x1.frozen? ⟨S6, 0, none⟩ = false := z6 0
                        have s1 : ∀ (X : World) (u : Value), (X.setCell ⟨S6 + 1, 0, none⟩ u).cell? ⟨wr.heap.size, 1, none⟩ = X.cell? ⟨wr.heap.size, 1, none⟩ := fun X u => World.cell?_setCell_other _ _ _ _ (by simp; first | done | omega)
                        have s2 : ∀ (X : World) (u : Value), (X.setCell ⟨S6 + 1, 0, none⟩ u).cell? ⟨wr.heap.size, 3, none⟩ = X.cell? ⟨wr.heap.size, 3, none⟩ := fun X u => World.cell?_setCell_other _ _ _ _ (by simp; first | done | omega)
                        clear HS HS1 HY HW z6 z7
                        go_wp2_with fail
                        refine wp_region_held_drew (S := (fun x => x.cell? ⟨wr.heap.size, 1, none⟩ = some (.int .i64 0) ∧ x.cell? ⟨wr.heap.size, 3, none⟩ = some (.int .i64 m))) (by kernel_rfl) ?_ (fun hHeld => ?_)
                        · simp [*, World.cell?_alloc_lt _ _ ⟨wr.heap.size, 1, none⟩ hO2, World.cell?_alloc_lt _ _ ⟨wr.heap.size, 3, none⟩ hO2]
                        refine wpAnyH_take (i := 0) (oi := { dst := some 130, op := Op.fieldAddr 34 (Operand.tmp 9) 1, type := 0, pos := "outright.go:72", after := #[], guard := none }) (v := ?_) rfl (by kernel_rfl) (by kernel_rfl) (by kernel_rfl) (fun _ _ _ h => h) (Or.inl ⟨by rfl, ?_⟩) (by assumption) ?_
                        rotate_left
                        · intro w hSw
                          try dsimp only at hSw
                          go_simp
                          try with_reducible rfl
                        try simp only [Act.put, List.setIfInBounds_toArray, List.set_cons_zero, List.set_cons_succ]
                        refine wpAnyH_take (i := 1) (oi := { dst := some 131, op := Op.load 3 (Operand.tmp 130), type := 3, pos := "outright.go:72", after := #[{ on := 0, ground := Ground.data }], guard := none }) (v := ?_) rfl (by kernel_rfl) (by kernel_rfl) (by kernel_rfl) (fun _ _ _ h => h) (Or.inl ⟨by rfl, ?_⟩) (by assumption) ?_
                        rotate_left
                        · intro w hSw
                          try dsimp only at hSw
                          go_simp
                          try with_reducible rfl
                        try simp only [Act.put, List.setIfInBounds_toArray, List.set_cons_zero, List.set_cons_succ]
                        refine wpAnyH_take (i := 3) (oi := { dst := some 133, op := Op.fieldAddr 34 (Operand.tmp 9) 1, type := 0, pos := "outright.go:72", after := #[], guard := none }) (v := ?_) rfl (by kernel_rfl) (by kernel_rfl) (by kernel_rfl) (fun _ _ _ h => h) (Or.inl ⟨by rfl, ?_⟩) (by assumption) ?_
                        rotate_left
                        · intro w hSw
                          try dsimp only at hSw
                          go_simp
                          try with_reducible rfl
                        try simp only [Act.put, List.setIfInBounds_toArray, List.set_cons_zero, List.set_cons_succ]
                        refine wpAnyH_take (i := 4) (oi := { dst := some 134, op := Op.load 3 (Operand.tmp 133), type := 3, pos := "outright.go:72", after := #[{ on := 3, ground := Ground.data }], guard := none }) (v := ?_) rfl (by kernel_rfl) (by kernel_rfl) (by kernel_rfl) (fun _ _ _ h => h) (Or.inl ⟨by rfl, ?_⟩) (by assumption) ?_
                        rotate_left
                        · intro w hSw
                          try dsimp only at hSw
                          go_simp
                          try with_reducible rfl
                        try simp only [Act.put, List.setIfInBounds_toArray, List.set_cons_zero, List.set_cons_succ]
                        refine wpAnyH_take (i := 5) (oi := { dst := some 135, op := Op.indexAddr 26 (Operand.tmp 7) (Operand.tmp 134), type := 0, pos := "outright.go:72", after := #[{ on := 4, ground := Ground.data }], guard := none }) (v := ?_) rfl (by kernel_rfl) (by kernel_rfl) (by kernel_rfl) (fun _ _ _ h => h) (Or.inl ⟨by rfl, ?_⟩) (by assumption) ?_
                        rotate_left
                        · intro w hSw
                          try dsimp only at hSw
                          go_simp
                          try with_reducible rfl
                        try simp only [Act.put, List.setIfInBounds_toArray, List.set_cons_zero, List.set_cons_succ]
                        refine wpAnyH_take (i := 7) (oi := { dst := some 137, op := Op.fieldAddr 34 (Operand.tmp 9) 3, type := 0, pos := "outright.go:72", after := #[], guard := none }) (v := ?_) rfl (by kernel_rfl) (by kernel_rfl) (by kernel_rfl) (fun _ _ _ h => h) (Or.inl ⟨by rfl, ?_⟩) (by assumption) ?_
                        rotate_left
                        · intro w hSw
                          try dsimp only at hSw
                          go_simp
                          try with_reducible rfl
                        try simp only [Act.put, List.setIfInBounds_toArray, List.set_cons_zero, List.set_cons_succ]
                        refine wpAnyH_take (i := 8) (oi := { dst := some 138, op := Op.load 3 (Operand.tmp 137), type := 3, pos := "outright.go:72", after := #[{ on := 7, ground := Ground.data }], guard := none }) (v := ?_) rfl (by kernel_rfl) (by kernel_rfl) (by kernel_rfl) (fun _ _ _ h => h) (Or.inl ⟨by rfl, ?_⟩) (by assumption) ?_
                        rotate_left
                        · intro w hSw
                          try dsimp only at hSw
                          go_simp
                          try with_reducible rfl
                        try simp only [Act.put, List.setIfInBounds_toArray, List.set_cons_zero, List.set_cons_succ]
                        refine wpAnyH_ready (rs := [2, 6]) (by kernel_rfl) (by simp) ?_
                        refine AllReadyH.cons (o := { dst := some 132, op := Op.buildSlice 25 0 #[], type := 25, pos := "outright.go:72", after := #[], guard := none }) rfl (fun K hK => ?_) ?_
                        · go_simp
                          refine hK.out _ _ ?_ (fun hHeld => ?_)
                          · simp [*, World.cell?_alloc_lt _ _ ⟨wr.heap.size, 1, none⟩ hO2, World.cell?_alloc_lt _ _ ⟨wr.heap.size, 3, none⟩ hO2]
                          clear hK K
                          try simp only [Act.put, List.setIfInBounds_toArray, List.set_cons_zero, List.set_cons_succ]
                          refine wpAnyH_ready (rs := [6]) (by kernel_rfl) (by simp) ?_
                          refine AllReadyH.cons (o := { dst := some 136, op := Op.load 25 (Operand.tmp 135), type := 25, pos := "outright.go:72", after := #[{ on := 5, ground := Ground.data }], guard := none }) rfl (fun K hK => ?_) ?_
                          · go_simp
                            refine hK.out _ _ ?_ (fun hHeld => ?_)
                            · simp [*, World.cell?_alloc_lt _ _ ⟨wr.heap.size, 1, none⟩ hO2, World.cell?_alloc_lt _ _ ⟨wr.heap.size, 3, none⟩ hO2]
                            clear hK K
                            try simp only [Act.put, List.setIfInBounds_toArray, List.set_cons_zero, List.set_cons_succ]
                            refine wpAnyH_take (i := 9) (oi := { dst := some 139, op := Op.slice 25 (Operand.tmp 136) none (some (Operand.tmp 138)) none, type := 25, pos := "outright.go:72", after := #[{ on := 6, ground := Ground.data }, { on := 8, ground := Ground.data }], guard := none }) (v := ?_) rfl (by kernel_rfl) (by kernel_rfl) (by kernel_rfl) (fun _ _ _ h => h) (Or.inl ⟨by rfl, ?_⟩) (by assumption) ?_
                            rotate_left
                            · intro w hSw
                              try dsimp only at hSw
                              go_simp
                              try with_reducible rfl
                            try simp only [Act.put, List.setIfInBounds_toArray, List.set_cons_zero, List.set_cons_succ]
                            refine wpAnyH_ready (rs := [10]) (by kernel_rfl) (by simp) ?_
                            refine AllReadyH.cons (o := { dst := some 140, op := Op.call { callee := Callee.builtin Builtin.append, args := #[Operand.tmp 132, Operand.tmp 139], argTypes := #[25, 25] }, type := 25, pos := "outright.go:72", after := #[{ on := 2, ground := Ground.data }, { on := 9, ground := Ground.data }], guard := none }) rfl (fun K hK => ?_) ?_
                            · refine step_copy (w0 := x1) rfl (.tmp 132) (.tmp 139) rfl rfl rfl HQ.out.1 HQ.out.2.1 (by have := HQ.out.2.2; omega) (by first | exact (Off.refl _ _).alloc _ | exact ((Off.refl _ _).alloc _).drew | exact ((Off.refl _ _).drew).alloc _ | exact (((Off.refl _ _).drew).alloc _).drew) (Nat.le_refl _) (by exact heap_alloc_new _ _) ?_
                              intro a' n' c' x3 hR hO
                              have d0 : x3.cell? ⟨wr.heap.size, 1, none⟩ = some (.int .i64 0) := (hO.cell (p := ⟨wr.heap.size, 1, none⟩) hO2).trans g1
                              have d1 : x3.cell? ⟨wr.heap.size, 3, none⟩ = some (.int .i64 m) := (hO.cell (p := ⟨wr.heap.size, 3, none⟩) hO2).trans g3
                              have d2 : x3.cell? ⟨S6 + 1, 0, none⟩ = some (.slice q0.a q0.n q0.c) := (hO.cell (p := ⟨S6 + 1, 0, none⟩) h7l).trans c70
                              have d3 : x3.cell? ⟨S6, 0, none⟩ = some (.slice p0.a p0.n p0.c) := (hO.cell (p := ⟨S6, 0, none⟩) h6l).trans c60
                              have f0 : x3.frozen? ⟨S6 + 1, 0, none⟩ = false := (hO.frozen (p := ⟨S6 + 1, 0, none⟩) h7l).trans y7
                              refine hK.out _ _ ?_ (fun hHeld => ?_)
                              · simp [*, World.cell?_alloc_lt _ _ ⟨wr.heap.size, 1, none⟩ hO2, World.cell?_alloc_lt _ _ ⟨wr.heap.size, 3, none⟩ hO2]
                              clear hK K
                              try simp only [Act.put, List.setIfInBounds_toArray, List.set_cons_zero, List.set_cons_succ]
                              refine wpAnyH_take (i := 11) (oi := { dst := some 141, op := Op.indexAddr 26 (Operand.tmp 7) (Operand.tmp 131), type := 0, pos := "outright.go:72", after := #[{ on := 1, ground := Ground.data }, { on := 0, ground := Ground.phase }, { on := 1, ground := Ground.phase }, { on := 2, ground := Ground.phase }, { on := 3, ground := Ground.phase }, { on := 4, ground := Ground.phase }, { on := 5, ground := Ground.phase }, { on := 6, ground := Ground.phase }, { on := 7, ground := Ground.phase }, { on := 8, ground := Ground.phase }, { on := 9, ground := Ground.phase }, { on := 10, ground := Ground.phase }], guard := none }) (v := ?_) rfl (by kernel_rfl) (by kernel_rfl) (by kernel_rfl) (fun _ _ _ h => h) (Or.inl ⟨by rfl, ?_⟩) (by assumption) ?_
                              rotate_left
                              · intro w hSw
                                try dsimp only at hSw
                                go_simp
                                try with_reducible rfl
                              try simp only [Act.put, List.setIfInBounds_toArray, List.set_cons_zero, List.set_cons_succ]
                              refine wpAnyH_ready (rs := [12]) (by kernel_rfl) (by simp) ?_
                              refine AllReadyH.cons (o := { dst := none, op := Op.store 25 (Operand.tmp 141) (Operand.tmp 140), type := 0, pos := "outright.go:72", after := #[{ on := 11, ground := Ground.data }, { on := 10, ground := Ground.data }, { on := 10, ground := Ground.chain }, { on := 0, ground := Ground.phase }, { on := 1, ground := Ground.phase }, { on := 2, ground := Ground.phase }, { on := 3, ground := Ground.phase }, { on := 4, ground := Ground.phase }, { on := 5, ground := Ground.phase }, { on := 6, ground := Ground.phase }, { on := 7, ground := Ground.phase }, { on := 8, ground := Ground.phase }, { on := 9, ground := Ground.phase }, { on := 10, ground := Ground.phase }], guard := none }) rfl (fun K hK => ?_) ?_
                              · go_simp
                                refine hK.out _ _ ?_ (fun hHeld => ?_)
                                · simp [*, World.cell?_alloc_lt _ _ ⟨wr.heap.size, 1, none⟩ hO2, World.cell?_alloc_lt _ _ ⟨wr.heap.size, 3, none⟩ hO2]
                                clear hK K
                                try simp only [Act.put, List.setIfInBounds_toArray, List.set_cons_zero, List.set_cons_succ]
                                refine wpAnyH_done (by kernel_rfl) ?_ _
                                have HN : Hid (Sfv w2 (x3.setCell ⟨S6 + 1, 0, none⟩ (.slice a' n' c')) K S6 (S6 + 1) u0 u1 τ p0 p1 ⟨a', n', c'⟩ q1 (σ.x0.take σ.s0) (σ.x1.take σ.s1) (σ.x0.take m) σ.x1) := HX.out.1.to70 hO hR
                                obtain ⟨X4, hX4⟩ : ∃ z, x3.setCell ⟨S6 + 1, 0, none⟩ (.slice a' n' c') = z := ⟨_, rfl⟩
                                rw [hX4] at HN
                                have k1 : X4.cell? ⟨wr.heap.size, 1, none⟩ = some (.int .i64 0) := by rw [← hX4, s1]; exact d0
                                have k3 : X4.cell? ⟨wr.heap.size, 3, none⟩ = some (.int .i64 m) := by rw [← hX4, s2]; exact d1
                                have k7 : X4.cell? ⟨S6 + 1, 0, none⟩ = some (.slice a' n' c') := HN.out.c70
                                have k6 : X4.cell? ⟨S6, 0, none⟩ = some (.slice p0.a p0.n p0.c) := HN.out.c60
                                have hO3 : wr.heap.size < X4.heap.size := by rw [← hX4, World.size_setCell]; exact Nat.lt_of_lt_of_le hO2 hO.size
                                have h6x : S6 < X4.heap.size := HN.out.l6.2.1
                                have h7x : S6 + 1 < X4.heap.size := HN.out.l7.2.1
                                have v6 : X4.frozen? ⟨S6, 0, none⟩ = false := HN.out.f6 0
                                rw [hX4]
                                clear hX4 hR hO d0 d1 d2 d3 f0 s1 s2 y7 y6 g0 g1 g3 g4 c60 c61 c70 c71 HQ hqc hq2 hq3 hq4 hHeld
                                go_wp2_with fail
                                by_cases hc : (m : Int) < p0.n
                                · have hcb : decide ((m : Int) < p0.n) = true := by simp [hc]
                                  go_quiet (fail)
                                  obtain ⟨X6, hX6⟩ : ∃ z, X4.drewN nq = z := ⟨_, rfl⟩
                                  have o6 : Off (fun _ => False) X4 X6 := by rw [← hX6]; exact (Off.refl _ _).drewN _
                                  have HN6 : Hid (Sfv w2 X6 K S6 (S6 + 1) u0 u1 τ p0 p1 ⟨a', n', c'⟩ q1 (σ.x0.take σ.s0) (σ.x1.take σ.s1) (σ.x0.take m) σ.x1) := HN.out.below (o6.below (Nat.le_refl _) (fun _ g => g.elim))
                                  have j1 : X6.cell? ⟨wr.heap.size, 1, none⟩ = some (.int .i64 0) := (o6.cell (p := ⟨wr.heap.size, 1, none⟩) hO3 id).trans k1
                                  have hO6 : wr.heap.size < X6.heap.size := Nat.lt_of_lt_of_le hO3 o6.size
                                  have j7 : X6.cell? ⟨S6 + 1, 0, none⟩ = some (.slice a' n' c') := HN6.out.c70
                                  have j6 : X6.cell? ⟨S6, 0, none⟩ = some (.slice p0.a p0.n p0.c) := HN6.out.c60
                                  have h6y : S6 < X6.heap.size := HN6.out.l6.2.1
                                  have h7y : S6 + 1 < X6.heap.size := HN6.out.l7.2.1
                                  have w6 : X6.frozen? ⟨S6, 0, none⟩ = false := HN6.out.f6 0
                                  have HQ : Hid (Byts X6 a' n' (σ.x0.take m) ∧ (a' = none → c' = 0) ∧ n' ≤ 16777216) := ⟨HN6.out.sq0.by', HN6.out.sq0.no, by have h1 : (σ.x0.take m).length = n' := HN6.out.sq0.by'.len; have := HOK.l0; rw [List.length_take] at h1; omega⟩
                                  have s1 : ∀ (X : World) (u : Value), (X.setCell ⟨S6, 0, none⟩ u).cell? ⟨wr.heap.size, 1, none⟩ = X.cell? ⟨wr.heap.size, 1, none⟩ := fun X u => World.cell?_setCell_other _ _ _ _ (by simp; first | done | omega)
                                  have s2 : ∀ (X : World) (u : Value), (X.setCell ⟨S6, 0, none⟩ u).cell? ⟨S6 + 1, 0, none⟩ = X.cell? ⟨S6 + 1, 0, none⟩ := fun X u => World.cell?_setCell_other _ _ _ _ (by simp; first | done | omega)
                                  rw [hX6]
                                  clear hX6 o6 HN k1 k3 k7 k6 hO3 h6x h7x v6
                                  go_wp2_with fail
                                  go_region_held3 (fun x => x.cell? ⟨wr.heap.size, 1, none⟩ = some (.int .i64 0) ∧ x.cell? ⟨S6 + 1, 0, none⟩ = some (.slice a' n' c')) (simp [*, World.cell?_alloc_lt _ _ ⟨wr.heap.size, 1, none⟩ hO6, World.cell?_alloc_lt _ _ ⟨S6 + 1, 0, none⟩ h7y]) (first | (refine step_copy (w0 := X6) rfl (.tmp 152) (.tmp 156) rfl rfl rfl HQ.out.1 HQ.out.2.1 (by have := HQ.out.2.2; omega) (by first | exact (Off.refl _ _).alloc _ | exact ((Off.refl _ _).alloc _).drew | exact ((Off.refl _ _).drew).alloc _ | exact (((Off.refl _ _).drew).alloc _).drew) (Nat.le_refl _) (by exact heap_alloc_new _ _) ?_; intro a5 n5 c5 x5 hR5 hO5; have d0 : x5.cell? ⟨wr.heap.size, 1, none⟩ = some (.int .i64 0) := (hO5.cell (p := ⟨wr.heap.size, 1, none⟩) hO6).trans j1; have d1 : x5.cell? ⟨S6 + 1, 0, none⟩ = some (.slice a' n' c') := (hO5.cell (p := ⟨S6 + 1, 0, none⟩) h7y).trans j7; have d2 : x5.cell? ⟨S6, 0, none⟩ = some (.slice p0.a p0.n p0.c) := (hO5.cell (p := ⟨S6, 0, none⟩) h6y).trans j6; have f0 : x5.frozen? ⟨S6, 0, none⟩ = false := (hO5.frozen (p := ⟨S6, 0, none⟩) h6y).trans w6))
                                  all_goals
                                    have HM : Hid (Sfx w2 K S6 (S6 + 1) (x5.setCell ⟨S6, 0, none⟩ (.slice a5 n5 c5))) := by
                                      obtain ⟨e1, e2, e3, e4⟩ := HE.out
                                      refine sfx_of (HN6.out.to60 hO5 hR5) ?_ ?_ e1.symm e2.symm
                                      · rw [e1, e3]; exact take_less _ (by rw [← HPN.out]; omega)
                                      · rw [e2, e4]
                                    clear hR5 hO5
                                    go_wp2_with fail
                                    go_meet
                                    exact HM
                                · have hcb : decide ((m : Int) < p0.n) = false := by simp [hc]
                                  go_quiet (fail)
                                  obtain ⟨X6, hX6⟩ : ∃ z, X4.drewN nq = z := ⟨_, rfl⟩
                                  have o6 : Off (fun _ => False) X4 X6 := by rw [← hX6]; exact (Off.refl _ _).drewN _
                                  have HN6 : Hid (Sfv w2 X6 K S6 (S6 + 1) u0 u1 τ p0 p1 ⟨a', n', c'⟩ q1 (σ.x0.take σ.s0) (σ.x1.take σ.s1) (σ.x0.take m) σ.x1) := HN.out.below (o6.below (Nat.le_refl _) (fun _ g => g.elim))
                                  have HM : Hid (Sfx w2 K S6 (S6 + 1) X6) := by
                                    obtain ⟨e1, e2, e3, e4⟩ := HE.out
                                    refine sfx_of HN6.out ?_ ?_ e1.symm e2.symm
                                    · rw [e1, e3]; exact take_keep _ (by rw [← HPN.out]; omega) HOK.s0
                                    · rw [e2, e4]
                                  rw [hX6]
                                  clear hX6 o6 HN HN6
                                  go_wp2_with fail
                                  go_meet
                                  exact HM
                              exact AllReadyH.nil
                            exact AllReadyH.nil
                          exact AllReadyH.nil
                        refine AllReadyH.cons (o := { dst := some 136, op := Op.load 25 (Operand.tmp 135), type := 25, pos := "outright.go:72", after := #[{ on := 5, ground := Ground.data }], guard := none }) rfl (fun K hK => ?_) ?_
                        · go_simp
                          refine hK.out _ _ ?_ (fun hHeld => ?_)
                          · simp [*, World.cell?_alloc_lt _ _ ⟨wr.heap.size, 1, none⟩ hO2, World.cell?_alloc_lt _ _ ⟨wr.heap.size, 3, none⟩ hO2]
                          clear hK K
                          try simp only [Act.put, List.setIfInBounds_toArray, List.set_cons_zero, List.set_cons_succ]
                          refine wpAnyH_take (i := 9) (oi := { dst := some 139, op := Op.slice 25 (Operand.tmp 136) none (some (Operand.tmp 138)) none, type := 25, pos := "outright.go:72", after := #[{ on := 6, ground := Ground.data }, { on := 8, ground := Ground.data }], guard := none }) (v := ?_) rfl (by kernel_rfl) (by kernel_rfl) (by kernel_rfl) (fun _ _ _ h => h) (Or.inl ⟨by rfl, ?_⟩) (by assumption) ?_
                          rotate_left
                          · intro w hSw
                            try dsimp only at hSw
                            go_simp
                            try with_reducible rfl
                          try simp only [Act.put, List.setIfInBounds_toArray, List.set_cons_zero, List.set_cons_succ]
                          refine wpAnyH_ready (rs := [2]) (by kernel_rfl) (by simp) ?_
                          refine AllReadyH.cons (o := { dst := some 132, op := Op.buildSlice 25 0 #[], type := 25, pos := "outright.go:72", after := #[], guard := none }) rfl (fun K hK => ?_) ?_
                          · go_simp
                            refine hK.out _ _ ?_ (fun hHeld => ?_)
                            · simp [*, World.cell?_alloc_lt _ _ ⟨wr.heap.size, 1, none⟩ hO2, World.cell?_alloc_lt _ _ ⟨wr.heap.size, 3, none⟩ hO2]
                            clear hK K
                            try simp only [Act.put, List.setIfInBounds_toArray, List.set_cons_zero, List.set_cons_succ]
                            refine wpAnyH_ready (rs := [10]) (by kernel_rfl) (by simp) ?_
                            refine AllReadyH.cons (o := { dst := some 140, op := Op.call { callee := Callee.builtin Builtin.append, args := #[Operand.tmp 132, Operand.tmp 139], argTypes := #[25, 25] }, type := 25, pos := "outright.go:72", after := #[{ on := 2, ground := Ground.data }, { on := 9, ground := Ground.data }], guard := none }) rfl (fun K hK => ?_) ?_
                            · refine step_copy (w0 := x1) rfl (.tmp 132) (.tmp 139) rfl rfl rfl HQ.out.1 HQ.out.2.1 (by have := HQ.out.2.2; omega) (by first | exact (Off.refl _ _).alloc _ | exact ((Off.refl _ _).alloc _).drew | exact ((Off.refl _ _).drew).alloc _ | exact (((Off.refl _ _).drew).alloc _).drew) (Nat.le_refl _) (by exact heap_alloc_new _ _) ?_
                              intro a' n' c' x3 hR hO
                              have d0 : x3.cell? ⟨wr.heap.size, 1, none⟩ = some (.int .i64 0) := (hO.cell (p := ⟨wr.heap.size, 1, none⟩) hO2).trans g1
                              have d1 : x3.cell? ⟨wr.heap.size, 3, none⟩ = some (.int .i64 m) := (hO.cell (p := ⟨wr.heap.size, 3, none⟩) hO2).trans g3
                              have d2 : x3.cell? ⟨S6 + 1, 0, none⟩ = some (.slice q0.a q0.n q0.c) := (hO.cell (p := ⟨S6 + 1, 0, none⟩) h7l).trans c70
                              have d3 : x3.cell? ⟨S6, 0, none⟩ = some (.slice p0.a p0.n p0.c) := (hO.cell (p := ⟨S6, 0, none⟩) h6l).trans c60
                              have f0 : x3.frozen? ⟨S6 + 1, 0, none⟩ = false := (hO.frozen (p := ⟨S6 + 1, 0, none⟩) h7l).trans y7
                              refine hK.out _ _ ?_ (fun hHeld => ?_)
                              · simp [*, World.cell?_alloc_lt _ _ ⟨wr.heap.size, 1, none⟩ hO2, World.cell?_alloc_lt _ _ ⟨wr.heap.size, 3, none⟩ hO2]
                              clear hK K
                              try simp only [Act.put, List.setIfInBounds_toArray, List.set_cons_zero, List.set_cons_succ]
                              refine wpAnyH_take (i := 11) (oi := { dst := some 141, op := Op.indexAddr 26 (Operand.tmp 7) (Operand.tmp 131), type := 0, pos := "outright.go:72", after := #[{ on := 1, ground := Ground.data }, { on := 0, ground := Ground.phase }, { on := 1, ground := Ground.phase }, { on := 2, ground := Ground.phase }, { on := 3, ground := Ground.phase }, { on := 4, ground := Ground.phase }, { on := 5, ground := Ground.phase }, { on := 6, ground := Ground.phase }, { on := 7, ground := Ground.phase }, { on := 8, ground := Ground.phase }, { on := 9, ground := Ground.phase }, { on := 10, ground := Ground.phase }], guard := none }) (v := ?_) rfl (by kernel_rfl) (by kernel_rfl) (by kernel_rfl) (fun _ _ _ h => h) (Or.inl ⟨by rfl, ?_⟩) (by assumption) ?_
                              rotate_left
                              · intro w hSw
                                try dsimp only at hSw
                                go_simp
                                try with_reducible rfl
                              try simp only [Act.put, List.setIfInBounds_toArray, List.set_cons_zero, List.set_cons_succ]
                              refine wpAnyH_ready (rs := [12]) (by kernel_rfl) (by simp) ?_
                              refine AllReadyH.cons (o := { dst := none, op := Op.store 25 (Operand.tmp 141) (Operand.tmp 140), type := 0, pos := "outright.go:72", after := #[{ on := 11, ground := Ground.data }, { on := 10, ground := Ground.data }, { on := 10, ground := Ground.chain }, { on := 0, ground := Ground.phase }, { on := 1, ground := Ground.phase }, { on := 2, ground := Ground.phase }, { on := 3, ground := Ground.phase }, { on := 4, ground := Ground.phase }, { on := 5, ground := Ground.phase }, { on := 6, ground := Ground.phase }, { on := 7, ground := Ground.phase }, { on := 8, ground := Ground.phase }, { on := 9, ground := Ground.phase }, { on := 10, ground := Ground.phase }], guard := none }) rfl (fun K hK => ?_) ?_
                              · go_simp
                                refine hK.out _ _ ?_ (fun hHeld => ?_)
                                · simp [*, World.cell?_alloc_lt _ _ ⟨wr.heap.size, 1, none⟩ hO2, World.cell?_alloc_lt _ _ ⟨wr.heap.size, 3, none⟩ hO2]
                                clear hK K
                                try simp only [Act.put, List.setIfInBounds_toArray, List.set_cons_zero, List.set_cons_succ]
                                refine wpAnyH_done (by kernel_rfl) ?_ _
                                have HN : Hid (Sfv w2 (x3.setCell ⟨S6 + 1, 0, none⟩ (.slice a' n' c')) K S6 (S6 + 1) u0 u1 τ p0 p1 ⟨a', n', c'⟩ q1 (σ.x0.take σ.s0) (σ.x1.take σ.s1) (σ.x0.take m) σ.x1) := HX.out.1.to70 hO hR
                                obtain ⟨X4, hX4⟩ : ∃ z, x3.setCell ⟨S6 + 1, 0, none⟩ (.slice a' n' c') = z := ⟨_, rfl⟩
                                rw [hX4] at HN
                                have k1 : X4.cell? ⟨wr.heap.size, 1, none⟩ = some (.int .i64 0) := by rw [← hX4, s1]; exact d0
                                have k3 : X4.cell? ⟨wr.heap.size, 3, none⟩ = some (.int .i64 m) := by rw [← hX4, s2]; exact d1
                                have k7 : X4.cell? ⟨S6 + 1, 0, none⟩ = some (.slice a' n' c') := HN.out.c70
                                have k6 : X4.cell? ⟨S6, 0, none⟩ = some (.slice p0.a p0.n p0.c) := HN.out.c60
                                have hO3 : wr.heap.size < X4.heap.size := by rw [← hX4, World.size_setCell]; exact Nat.lt_of_lt_of_le hO2 hO.size
                                have h6x : S6 < X4.heap.size := HN.out.l6.2.1
                                have h7x : S6 + 1 < X4.heap.size := HN.out.l7.2.1
                                have v6 : X4.frozen? ⟨S6, 0, none⟩ = false := HN.out.f6 0
                                rw [hX4]
                                clear hX4 hR hO d0 d1 d2 d3 f0 s1 s2 y7 y6 g0 g1 g3 g4 c60 c61 c70 c71 HQ hqc hq2 hq3 hq4 hHeld
                                go_wp2_with fail
                                by_cases hc : (m : Int) < p0.n
                                · have hcb : decide ((m : Int) < p0.n) = true := by simp [hc]
                                  go_quiet (fail)
                                  obtain ⟨X6, hX6⟩ : ∃ z, X4.drewN nq = z := ⟨_, rfl⟩
                                  have o6 : Off (fun _ => False) X4 X6 := by rw [← hX6]; exact (Off.refl _ _).drewN _
                                  have HN6 : Hid (Sfv w2 X6 K S6 (S6 + 1) u0 u1 τ p0 p1 ⟨a', n', c'⟩ q1 (σ.x0.take σ.s0) (σ.x1.take σ.s1) (σ.x0.take m) σ.x1) := HN.out.below (o6.below (Nat.le_refl _) (fun _ g => g.elim))
                                  have j1 : X6.cell? ⟨wr.heap.size, 1, none⟩ = some (.int .i64 0) := (o6.cell (p := ⟨wr.heap.size, 1, none⟩) hO3 id).trans k1
                                  have hO6 : wr.heap.size < X6.heap.size := Nat.lt_of_lt_of_le hO3 o6.size
                                  have j7 : X6.cell? ⟨S6 + 1, 0, none⟩ = some (.slice a' n' c') := HN6.out.c70
                                  have j6 : X6.cell? ⟨S6, 0, none⟩ = some (.slice p0.a p0.n p0.c) := HN6.out.c60
                                  have h6y : S6 < X6.heap.size := HN6.out.l6.2.1
                                  have h7y : S6 + 1 < X6.heap.size := HN6.out.l7.2.1
                                  have w6 : X6.frozen? ⟨S6, 0, none⟩ = false := HN6.out.f6 0
                                  have HQ : Hid (Byts X6 a' n' (σ.x0.take m) ∧ (a' = none → c' = 0) ∧ n' ≤ 16777216) := ⟨HN6.out.sq0.by', HN6.out.sq0.no, by have h1 : (σ.x0.take m).length = n' := HN6.out.sq0.by'.len; have := HOK.l0; rw [List.length_take] at h1; omega⟩
                                  have s1 : ∀ (X : World) (u : Value), (X.setCell ⟨S6, 0, none⟩ u).cell? ⟨wr.heap.size, 1, none⟩ = X.cell? ⟨wr.heap.size, 1, none⟩ := fun X u => World.cell?_setCell_other _ _ _ _ (by simp; first | done | omega)
                                  have s2 : ∀ (X : World) (u : Value), (X.setCell ⟨S6, 0, none⟩ u).cell? ⟨S6 + 1, 0, none⟩ = X.cell? ⟨S6 + 1, 0, none⟩ := fun X u => World.cell?_setCell_other _ _ _ _ (by simp; first | done | omega)
                                  rw [hX6]
                                  clear hX6 o6 HN k1 k3 k7 k6 hO3 h6x h7x v6
                                  go_wp2_with fail
                                  go_region_held3 (fun x => x.cell? ⟨wr.heap.size, 1, none⟩ = some (.int .i64 0) ∧ x.cell? ⟨S6 + 1, 0, none⟩ = some (.slice a' n' c')) (simp [*, World.cell?_alloc_lt _ _ ⟨wr.heap.size, 1, none⟩ hO6, World.cell?_alloc_lt _ _ ⟨S6 + 1, 0, none⟩ h7y]) (first | (refine step_copy (w0 := X6) rfl (.tmp 152) (.tmp 156) rfl rfl rfl HQ.out.1 HQ.out.2.1 (by have := HQ.out.2.2; omega) (by first | exact (Off.refl _ _).alloc _ | exact ((Off.refl _ _).alloc _).drew | exact ((Off.refl _ _).drew).alloc _ | exact (((Off.refl _ _).drew).alloc _).drew) (Nat.le_refl _) (by exact heap_alloc_new _ _) ?_; intro a5 n5 c5 x5 hR5 hO5; have d0 : x5.cell? ⟨wr.heap.size, 1, none⟩ = some (.int .i64 0) := (hO5.cell (p := ⟨wr.heap.size, 1, none⟩) hO6).trans j1; have d1 : x5.cell? ⟨S6 + 1, 0, none⟩ = some (.slice a' n' c') := (hO5.cell (p := ⟨S6 + 1, 0, none⟩) h7y).trans j7; have d2 : x5.cell? ⟨S6, 0, none⟩ = some (.slice p0.a p0.n p0.c) := (hO5.cell (p := ⟨S6, 0, none⟩) h6y).trans j6; have f0 : x5.frozen? ⟨S6, 0, none⟩ = false := (hO5.frozen (p := ⟨S6, 0, none⟩) h6y).trans w6))
                                  all_goals
                                    have HM : Hid (Sfx w2 K S6 (S6 + 1) (x5.setCell ⟨S6, 0, none⟩ (.slice a5 n5 c5))) := by
                                      obtain ⟨e1, e2, e3, e4⟩ := HE.out
                                      refine sfx_of (HN6.out.to60 hO5 hR5) ?_ ?_ e1.symm e2.symm
                                      · rw [e1, e3]; exact take_less _ (by rw [← HPN.out]; omega)
                                      · rw [e2, e4]
                                    clear hR5 hO5
                                    go_wp2_with fail
                                    go_meet
                                    exact HM
                                · have hcb : decide ((m : Int) < p0.n) = false := by simp [hc]
                                  go_quiet (fail)
                                  obtain ⟨X6, hX6⟩ : ∃ z, X4.drewN nq = z := ⟨_, rfl⟩
                                  have o6 : Off (fun _ => False) X4 X6 := by rw [← hX6]; exact (Off.refl _ _).drewN _
                                  have HN6 : Hid (Sfv w2 X6 K S6 (S6 + 1) u0 u1 τ p0 p1 ⟨a', n', c'⟩ q1 (σ.x0.take σ.s0) (σ.x1.take σ.s1) (σ.x0.take m) σ.x1) := HN.out.below (o6.below (Nat.le_refl _) (fun _ g => g.elim))
                                  have HM : Hid (Sfx w2 K S6 (S6 + 1) X6) := by
                                    obtain ⟨e1, e2, e3, e4⟩ := HE.out
                                    refine sfx_of HN6.out ?_ ?_ e1.symm e2.symm
                                    · rw [e1, e3]; exact take_keep _ (by rw [← HPN.out]; omega) HOK.s0
                                    · rw [e2, e4]
                                  rw [hX6]
                                  clear hX6 o6 HN HN6
                                  go_wp2_with fail
                                  go_meet
                                  exact HM
                              exact AllReadyH.nil
                            exact AllReadyH.nil
                          exact AllReadyH.nil
                        exact AllReadyH.nil
                    · as_aux_lemma =>
                        subst hk har
                        obtain ⟨m, hm, hml, e1, e2, e3, e4⟩ := do_cut1 (σ := σ) (y := ⟨3, 1, at_, n, po, pl, pc, t0, t1, t2, t3, bs⟩) rfl rfl HD.out.1
                        rw [HD.out.2.1] at e1 e2 e3 e4
                        simp only at hm
                        subst hm
                        have HE : Hid (τ.x1 = σ.x1.take m ∧ τ.x0 = σ.x0 ∧ τ.s0 = σ.s0 ∧ τ.s1 = min σ.s1 m) := ⟨e1, e2, e3, e4⟩
                        clear e1 e2 e3 e4
                        have hqn : q1.n = σ.x1.length := HX.out.1.sq1.by'.len.symm
                        have HQ : Hid (Byts x1 q1.a m (σ.x1.take m) ∧ (q1.a = none → q1.c = 0) ∧ m ≤ 16777216) := ⟨HX.out.1.sq1.by'.take (by omega), HX.out.1.sq1.no, by have := HOK.l1; omega⟩
                        have hqc : (m : Int) ≤ q1.c := by have := HX.out.1.sq1.le; omega
                        have hq2 : (m : Int) ≤ q1.n := by omega
                        have hq3 : (q1.n : Int) ≤ q1.c := by have := HX.out.1.sq1.le; omega
                        have hq4 : q1.c ≤ 9223372036854775807 := by have := HX.out.1.sq1.mx; unfold maxLen at this; omega
                        have hpn : p1.n = (σ.x1.take σ.s1).length := HX.out.1.sp1.by'.len.symm
                        have HPN : Hid (p1.n = (σ.x1.take σ.s1).length) := hpn
                        clear hpn hqn
                        have y7 : x1.frozen? ⟨S6 + 1, 1, none⟩ = false := z7 1
                        have y6 : x1.frozen? ⟨S6, 1, none⟩ = false := z6 1
                        have s1 : ∀ (X : World) (u : Value), (X.setCell ⟨S6 + 1, 1, none⟩ u).cell? ⟨wr.heap.size, 1, none⟩ = X.cell? ⟨wr.heap.size, 1, none⟩ := fun X u => World.cell?_setCell_other _ _ _ _ (by simp; first | done | omega)
                        have s2 : ∀ (X : World) (u : Value), (X.setCell ⟨S6 + 1, 1, none⟩ u).cell? ⟨wr.heap.size, 3, none⟩ = X.cell? ⟨wr.heap.size, 3, none⟩ := fun X u => World.cell?_setCell_other _ _ _ _ (by simp; first | done | omega)
                        clear HS HS1 HY HW z6 z7
                        go_wp2_with fail
                        refine wp_region_held_drew (S := (fun x => x.cell? ⟨wr.heap.size, 1, none⟩ = some (.int .i64 1) ∧ x.cell? ⟨wr.heap.size, 3, none⟩ = some (.int .i64 m))) (by kernel_rfl) ?_ (fun hHeld => ?_)
                        · simp [*, World.cell?_alloc_lt _ _ ⟨wr.heap.size, 1, none⟩ hO2, World.cell?_alloc_lt _ _ ⟨wr.heap.size, 3, none⟩ hO2]
                        refine wpAnyH_take (i := 0) (oi := { dst := some 130, op := Op.fieldAddr 34 (Operand.tmp 9) 1, type := 0, pos := "outright.go:72", after := #[], guard := none }) (v := ?_) rfl (by kernel_rfl) (by kernel_rfl) (by kernel_rfl) (fun _ _ _ h => h) (Or.inl ⟨by rfl, ?_⟩) (by assumption) ?_
                        rotate_left
                        · intro w hSw
                          try dsimp only at hSw
                          go_simp
                          try with_reducible rfl
                        try simp only [Act.put, List.setIfInBounds_toArray, List.set_cons_zero, List.set_cons_succ]
                        refine wpAnyH_take (i := 1) (oi := { dst := some 131, op := Op.load 3 (Operand.tmp 130), type := 3, pos := "outright.go:72", after := #[{ on := 0, ground := Ground.data }], guard := none }) (v := ?_) rfl (by kernel_rfl) (by kernel_rfl) (by kernel_rfl) (fun _ _ _ h => h) (Or.inl ⟨by rfl, ?_⟩) (by assumption) ?_
                        rotate_left
                        · intro w hSw
                          try dsimp only at hSw
                          go_simp
                          try with_reducible rfl
                        try simp only [Act.put, List.setIfInBounds_toArray, List.set_cons_zero, List.set_cons_succ]
                        refine wpAnyH_take (i := 3) (oi := { dst := some 133, op := Op.fieldAddr 34 (Operand.tmp 9) 1, type := 0, pos := "outright.go:72", after := #[], guard := none }) (v := ?_) rfl (by kernel_rfl) (by kernel_rfl) (by kernel_rfl) (fun _ _ _ h => h) (Or.inl ⟨by rfl, ?_⟩) (by assumption) ?_
                        rotate_left
                        · intro w hSw
                          try dsimp only at hSw
                          go_simp
                          try with_reducible rfl
                        try simp only [Act.put, List.setIfInBounds_toArray, List.set_cons_zero, List.set_cons_succ]
                        refine wpAnyH_take (i := 4) (oi := { dst := some 134, op := Op.load 3 (Operand.tmp 133), type := 3, pos := "outright.go:72", after := #[{ on := 3, ground := Ground.data }], guard := none }) (v := ?_) rfl (by kernel_rfl) (by kernel_rfl) (by kernel_rfl) (fun _ _ _ h => h) (Or.inl ⟨by rfl, ?_⟩) (by assumption) ?_
                        rotate_left
                        · intro w hSw
                          try dsimp only at hSw
                          go_simp
                          try with_reducible rfl
                        try simp only [Act.put, List.setIfInBounds_toArray, List.set_cons_zero, List.set_cons_succ]
                        refine wpAnyH_take (i := 5) (oi := { dst := some 135, op := Op.indexAddr 26 (Operand.tmp 7) (Operand.tmp 134), type := 0, pos := "outright.go:72", after := #[{ on := 4, ground := Ground.data }], guard := none }) (v := ?_) rfl (by kernel_rfl) (by kernel_rfl) (by kernel_rfl) (fun _ _ _ h => h) (Or.inl ⟨by rfl, ?_⟩) (by assumption) ?_
                        rotate_left
                        · intro w hSw
                          try dsimp only at hSw
                          go_simp
                          try with_reducible rfl
                        try simp only [Act.put, List.setIfInBounds_toArray, List.set_cons_zero, List.set_cons_succ]
                        refine wpAnyH_take (i := 7) (oi := { dst := some 137, op := Op.fieldAddr 34 (Operand.tmp 9) 3, type := 0, pos := "outright.go:72", after := #[], guard := none }) (v := ?_) rfl (by kernel_rfl) (by kernel_rfl) (by kernel_rfl) (fun _ _ _ h => h) (Or.inl ⟨by rfl, ?_⟩) (by assumption) ?_
                        rotate_left
                        · intro w hSw
                          try dsimp only at hSw
                          go_simp
                          try with_reducible rfl
                        try simp only [Act.put, List.setIfInBounds_toArray, List.set_cons_zero, List.set_cons_succ]
                        refine wpAnyH_take (i := 8) (oi := { dst := some 138, op := Op.load 3 (Operand.tmp 137), type := 3, pos := "outright.go:72", after := #[{ on := 7, ground := Ground.data }], guard := none }) (v := ?_) rfl (by kernel_rfl) (by kernel_rfl) (by kernel_rfl) (fun _ _ _ h => h) (Or.inl ⟨by rfl, ?_⟩) (by assumption) ?_
                        rotate_left
                        · intro w hSw
                          try dsimp only at hSw
                          go_simp
                          try with_reducible rfl
                        try simp only [Act.put, List.setIfInBounds_toArray, List.set_cons_zero, List.set_cons_succ]
                        refine wpAnyH_ready (rs := [2, 6]) (by kernel_rfl) (by simp) ?_
                        refine AllReadyH.cons (o := { dst := some 132, op := Op.buildSlice 25 0 #[], type := 25, pos := "outright.go:72", after := #[], guard := none }) rfl (fun K hK => ?_) ?_
                        · go_simp
                          refine hK.out _ _ ?_ (fun hHeld => ?_)
                          · simp [*, World.cell?_alloc_lt _ _ ⟨wr.heap.size, 1, none⟩ hO2, World.cell?_alloc_lt _ _ ⟨wr.heap.size, 3, none⟩ hO2]
                          clear hK K
                          try simp only [Act.put, List.setIfInBounds_toArray, List.set_cons_zero, List.set_cons_succ]
                          refine wpAnyH_ready (rs := [6]) (by kernel_rfl) (by simp) ?_
                          refine AllReadyH.cons (o := { dst := some 136, op := Op.load 25 (Operand.tmp 135), type := 25, pos := "outright.go:72", after := #[{ on := 5, ground := Ground.data }], guard := none }) rfl (fun K hK => ?_) ?_
                          · go_simp
                            refine hK.out _ _ ?_ (fun hHeld => ?_)
                            · simp [*, World.cell?_alloc_lt _ _ ⟨wr.heap.size, 1, none⟩ hO2, World.cell?_alloc_lt _ _ ⟨wr.heap.size, 3, none⟩ hO2]
                            clear hK K
                            try simp only [Act.put, List.setIfInBounds_toArray, List.set_cons_zero, List.set_cons_succ]
                            refine wpAnyH_take (i := 9) (oi := { dst := some 139, op := Op.slice 25 (Operand.tmp 136) none (some (Operand.tmp 138)) none, type := 25, pos := "outright.go:72", after := #[{ on := 6, ground := Ground.data }, { on := 8, ground := Ground.data }], guard := none }) (v := ?_) rfl (by kernel_rfl) (by kernel_rfl) (by kernel_rfl) (fun _ _ _ h => h) (Or.inl ⟨by rfl, ?_⟩) (by assumption) ?_
                            rotate_left
                            · intro w hSw
                              try dsimp only at hSw
                              go_simp
                              try with_reducible rfl
                            try simp only [Act.put, List.setIfInBounds_toArray, List.set_cons_zero, List.set_cons_succ]
                            refine wpAnyH_ready (rs := [10]) (by kernel_rfl) (by simp) ?_
                            refine AllReadyH.cons (o := { dst := some 140, op := Op.call { callee := Callee.builtin Builtin.append, args := #[Operand.tmp 132, Operand.tmp 139], argTypes := #[25, 25] }, type := 25, pos := "outright.go:72", after := #[{ on := 2, ground := Ground.data }, { on := 9, ground := Ground.data }], guard := none }) rfl (fun K hK => ?_) ?_
                            · refine step_copy (w0 := x1) rfl (.tmp 132) (.tmp 139) rfl rfl rfl HQ.out.1 HQ.out.2.1 (by have := HQ.out.2.2; omega) (by first | exact (Off.refl _ _).alloc _ | exact ((Off.refl _ _).alloc _).drew | exact ((Off.refl _ _).drew).alloc _ | exact (((Off.refl _ _).drew).alloc _).drew) (Nat.le_refl _) (by exact heap_alloc_new _ _) ?_
                              intro a' n' c' x3 hR hO
                              have d0 : x3.cell? ⟨wr.heap.size, 1, none⟩ = some (.int .i64 1) := (hO.cell (p := ⟨wr.heap.size, 1, none⟩) hO2).trans g1
                              have d1 : x3.cell? ⟨wr.heap.size, 3, none⟩ = some (.int .i64 m) := (hO.cell (p := ⟨wr.heap.size, 3, none⟩) hO2).trans g3
                              have d2 : x3.cell? ⟨S6 + 1, 1, none⟩ = some (.slice q1.a q1.n q1.c) := (hO.cell (p := ⟨S6 + 1, 1, none⟩) h7l).trans c71
                              have d3 : x3.cell? ⟨S6, 1, none⟩ = some (.slice p1.a p1.n p1.c) := (hO.cell (p := ⟨S6, 1, none⟩) h6l).trans c61
                              have f0 : x3.frozen? ⟨S6 + 1, 1, none⟩ = false := (hO.frozen (p := ⟨S6 + 1, 1, none⟩) h7l).trans y7
                              refine hK.out _ _ ?_ (fun hHeld => ?_)
                              · simp [*, World.cell?_alloc_lt _ _ ⟨wr.heap.size, 1, none⟩ hO2, World.cell?_alloc_lt _ _ ⟨wr.heap.size, 3, none⟩ hO2]
                              clear hK K
                              try simp only [Act.put, List.setIfInBounds_toArray, List.set_cons_zero, List.set_cons_succ]
                              refine wpAnyH_take (i := 11) (oi := { dst := some 141, op := Op.indexAddr 26 (Operand.tmp 7) (Operand.tmp 131), type := 0, pos := "outright.go:72", after := #[{ on := 1, ground := Ground.data }, { on := 0, ground := Ground.phase }, { on := 1, ground := Ground.phase }, { on := 2, ground := Ground.phase }, { on := 3, ground := Ground.phase }, { on := 4, ground := Ground.phase }, { on := 5, ground := Ground.phase }, { on := 6, ground := Ground.phase }, { on := 7, ground := Ground.phase }, { on := 8, ground := Ground.phase }, { on := 9, ground := Ground.phase }, { on := 10, ground := Ground.phase }], guard := none }) (v := ?_) rfl (by kernel_rfl) (by kernel_rfl) (by kernel_rfl) (fun _ _ _ h => h) (Or.inl ⟨by rfl, ?_⟩) (by assumption) ?_
                              rotate_left
                              · intro w hSw
                                try dsimp only at hSw
                                go_simp
                                try with_reducible rfl
                              try simp only [Act.put, List.setIfInBounds_toArray, List.set_cons_zero, List.set_cons_succ]
                              refine wpAnyH_ready (rs := [12]) (by kernel_rfl) (by simp) ?_
                              refine AllReadyH.cons (o := { dst := none, op := Op.store 25 (Operand.tmp 141) (Operand.tmp 140), type := 0, pos := "outright.go:72", after := #[{ on := 11, ground := Ground.data }, { on := 10, ground := Ground.data }, { on := 10, ground := Ground.chain }, { on := 0, ground := Ground.phase }, { on := 1, ground := Ground.phase }, { on := 2, ground := Ground.phase }, { on := 3, ground := Ground.phase }, { on := 4, ground := Ground.phase }, { on := 5, ground := Ground.phase }, { on := 6, ground := Ground.phase }, { on := 7, ground := Ground.phase }, { on := 8, ground := Ground.phase }, { on := 9, ground := Ground.phase }, { on := 10, ground := Ground.phase }], guard := none }) rfl (fun K hK => ?_) ?_
                              · go_simp
                                refine hK.out _ _ ?_ (fun hHeld => ?_)
                                · simp [*, World.cell?_alloc_lt _ _ ⟨wr.heap.size, 1, none⟩ hO2, World.cell?_alloc_lt _ _ ⟨wr.heap.size, 3, none⟩ hO2]
                                clear hK K
                                try simp only [Act.put, List.setIfInBounds_toArray, List.set_cons_zero, List.set_cons_succ]
                                refine wpAnyH_done (by kernel_rfl) ?_ _
                                have HN : Hid (Sfv w2 (x3.setCell ⟨S6 + 1, 1, none⟩ (.slice a' n' c')) K S6 (S6 + 1) u0 u1 τ p0 p1 q0 ⟨a', n', c'⟩ (σ.x0.take σ.s0) (σ.x1.take σ.s1) σ.x0 (σ.x1.take m)) := HX.out.1.to71 hO hR
                                obtain ⟨X4, hX4⟩ : ∃ z, x3.setCell ⟨S6 + 1, 1, none⟩ (.slice a' n' c') = z := ⟨_, rfl⟩
                                rw [hX4] at HN
                                have k1 : X4.cell? ⟨wr.heap.size, 1, none⟩ = some (.int .i64 1) := by rw [← hX4, s1]; exact d0
                                have k3 : X4.cell? ⟨wr.heap.size, 3, none⟩ = some (.int .i64 m) := by rw [← hX4, s2]; exact d1
                                have k7 : X4.cell? ⟨S6 + 1, 1, none⟩ = some (.slice a' n' c') := HN.out.c71
                                have k6 : X4.cell? ⟨S6, 1, none⟩ = some (.slice p1.a p1.n p1.c) := HN.out.c61
                                have hO3 : wr.heap.size < X4.heap.size := by rw [← hX4, World.size_setCell]; exact Nat.lt_of_lt_of_le hO2 hO.size
                                have h6x : S6 < X4.heap.size := HN.out.l6.2.1
                                have h7x : S6 + 1 < X4.heap.size := HN.out.l7.2.1
                                have v6 : X4.frozen? ⟨S6, 1, none⟩ = false := HN.out.f6 1
                                rw [hX4]
                                clear hX4 hR hO d0 d1 d2 d3 f0 s1 s2 y7 y6 g0 g1 g3 g4 c60 c61 c70 c71 HQ hqc hq2 hq3 hq4 hHeld
                                go_wp2_with fail
                                by_cases hc : (m : Int) < p1.n
                                · have hcb : decide ((m : Int) < p1.n) = true := by simp [hc]
                                  go_quiet (fail)
                                  obtain ⟨X6, hX6⟩ : ∃ z, X4.drewN nq = z := ⟨_, rfl⟩
                                  have o6 : Off (fun _ => False) X4 X6 := by rw [← hX6]; exact (Off.refl _ _).drewN _
                                  have HN6 : Hid (Sfv w2 X6 K S6 (S6 + 1) u0 u1 τ p0 p1 q0 ⟨a', n', c'⟩ (σ.x0.take σ.s0) (σ.x1.take σ.s1) σ.x0 (σ.x1.take m)) := HN.out.below (o6.below (Nat.le_refl _) (fun _ g => g.elim))
                                  have j1 : X6.cell? ⟨wr.heap.size, 1, none⟩ = some (.int .i64 1) := (o6.cell (p := ⟨wr.heap.size, 1, none⟩) hO3 id).trans k1
                                  have hO6 : wr.heap.size < X6.heap.size := Nat.lt_of_lt_of_le hO3 o6.size
                                  have j7 : X6.cell? ⟨S6 + 1, 1, none⟩ = some (.slice a' n' c') := HN6.out.c71
                                  have j6 : X6.cell? ⟨S6, 1, none⟩ = some (.slice p1.a p1.n p1.c) := HN6.out.c61
                                  have h6y : S6 < X6.heap.size := HN6.out.l6.2.1
                                  have h7y : S6 + 1 < X6.heap.size := HN6.out.l7.2.1
                                  have w6 : X6.frozen? ⟨S6, 1, none⟩ = false := HN6.out.f6 1
                                  have HQ : Hid (Byts X6 a' n' (σ.x1.take m) ∧ (a' = none → c' = 0) ∧ n' ≤ 16777216) := ⟨HN6.out.sq1.by', HN6.out.sq1.no, by have h1 : (σ.x1.take m).length = n' := HN6.out.sq1.by'.len; have := HOK.l1; rw [List.length_take] at h1; omega⟩
                                  have s1 : ∀ (X : World) (u : Value), (X.setCell ⟨S6, 1, none⟩ u).cell? ⟨wr.heap.size, 1, none⟩ = X.cell? ⟨wr.heap.size, 1, none⟩ := fun X u => World.cell?_setCell_other _ _ _ _ (by simp; first | done | omega)
                                  have s2 : ∀ (X : World) (u : Value), (X.setCell ⟨S6, 1, none⟩ u).cell? ⟨S6 + 1, 1, none⟩ = X.cell? ⟨S6 + 1, 1, none⟩ := fun X u => World.cell?_setCell_other _ _ _ _ (by simp; first | done | omega)
                                  rw [hX6]
                                  clear hX6 o6 HN k1 k3 k7 k6 hO3 h6x h7x v6
                                  go_wp2_with fail
                                  go_region_held3 (fun x => x.cell? ⟨wr.heap.size, 1, none⟩ = some (.int .i64 1) ∧ x.cell? ⟨S6 + 1, 1, none⟩ = some (.slice a' n' c')) (simp [*, World.cell?_alloc_lt _ _ ⟨wr.heap.size, 1, none⟩ hO6, World.cell?_alloc_lt _ _ ⟨S6 + 1, 1, none⟩ h7y]) (first | (refine step_copy (w0 := X6) rfl (.tmp 152) (.tmp 156) rfl rfl rfl HQ.out.1 HQ.out.2.1 (by have := HQ.out.2.2; omega) (by first | exact (Off.refl _ _).alloc _ | exact ((Off.refl _ _).alloc _).drew | exact ((Off.refl _ _).drew).alloc _ | exact (((Off.refl _ _).drew).alloc _).drew) (Nat.le_refl _) (by exact heap_alloc_new _ _) ?_; intro a5 n5 c5 x5 hR5 hO5; have d0 : x5.cell? ⟨wr.heap.size, 1, none⟩ = some (.int .i64 1) := (hO5.cell (p := ⟨wr.heap.size, 1, none⟩) hO6).trans j1; have d1 : x5.cell? ⟨S6 + 1, 1, none⟩ = some (.slice a' n' c') := (hO5.cell (p := ⟨S6 + 1, 1, none⟩) h7y).trans j7; have d2 : x5.cell? ⟨S6, 1, none⟩ = some (.slice p1.a p1.n p1.c) := (hO5.cell (p := ⟨S6, 1, none⟩) h6y).trans j6; have f0 : x5.frozen? ⟨S6, 1, none⟩ = false := (hO5.frozen (p := ⟨S6, 1, none⟩) h6y).trans w6))
                                  all_goals
                                    have HM : Hid (Sfx w2 K S6 (S6 + 1) (x5.setCell ⟨S6, 1, none⟩ (.slice a5 n5 c5))) := by
                                      obtain ⟨e1, e2, e3, e4⟩ := HE.out
                                      refine sfx_of (HN6.out.to61 hO5 hR5) ?_ ?_ e2.symm e1.symm
                                      · rw [e2, e3]
                                      · rw [e1, e4]; exact take_less _ (by rw [← HPN.out]; omega)
                                    clear hR5 hO5
                                    go_wp2_with fail
                                    go_meet
                                    exact HM
                                · have hcb : decide ((m : Int) < p1.n) = false := by simp [hc]
                                  go_quiet (fail)
                                  obtain ⟨X6, hX6⟩ : ∃ z, X4.drewN nq = z := ⟨_, rfl⟩
                                  have o6 : Off (fun _ => False) X4 X6 := by rw [← hX6]; exact (Off.refl _ _).drewN _
                                  have HN6 : Hid (Sfv w2 X6 K S6 (S6 + 1) u0 u1 τ p0 p1 q0 ⟨a', n', c'⟩ (σ.x0.take σ.s0) (σ.x1.take σ.s1) σ.x0 (σ.x1.take m)) := HN.out.below (o6.below (Nat.le_refl _) (fun _ g => g.elim))
                                  have HM : Hid (Sfx w2 K S6 (S6 + 1) X6) := by
                                    obtain ⟨e1, e2, e3, e4⟩ := HE.out
                                    refine sfx_of HN6.out ?_ ?_ e2.symm e1.symm
                                    · rw [e2, e3]
                                    · rw [e1, e4]; exact take_keep _ (by rw [← HPN.out]; omega) HOK.s1
                                  rw [hX6]
                                  clear hX6 o6 HN HN6
                                  go_wp2_with fail
                                  go_meet
                                  exact HM
                              exact AllReadyH.nil
                            exact AllReadyH.nil
                          exact AllReadyH.nil
                        refine AllReadyH.cons (o := { dst := some 136, op := Op.load 25 (Operand.tmp 135), type := 25, pos := "outright.go:72", after := #[{ on := 5, ground := Ground.data }], guard := none }) rfl (fun K hK => ?_) ?_
                        · go_simp
                          refine hK.out _ _ ?_ (fun hHeld => ?_)
                          · simp [*, World.cell?_alloc_lt _ _ ⟨wr.heap.size, 1, none⟩ hO2, World.cell?_alloc_lt _ _ ⟨wr.heap.size, 3, none⟩ hO2]
                          clear hK K
                          try simp only [Act.put, List.setIfInBounds_toArray, List.set_cons_zero, List.set_cons_succ]
                          refine wpAnyH_take (i := 9) (oi := { dst := some 139, op := Op.slice 25 (Operand.tmp 136) none (some (Operand.tmp 138)) none, type := 25, pos := "outright.go:72", after := #[{ on := 6, ground := Ground.data }, { on := 8, ground := Ground.data }], guard := none }) (v := ?_) rfl (by kernel_rfl) (by kernel_rfl) (by kernel_rfl) (fun _ _ _ h => h) (Or.inl ⟨by rfl, ?_⟩) (by assumption) ?_
                          rotate_left
                          · intro w hSw
                            try dsimp only at hSw
                            go_simp
                            try with_reducible rfl
                          try simp only [Act.put, List.setIfInBounds_toArray, List.set_cons_zero, List.set_cons_succ]
                          refine wpAnyH_ready (rs := [2]) (by kernel_rfl) (by simp) ?_
                          refine AllReadyH.cons (o := { dst := some 132, op := Op.buildSlice 25 0 #[], type := 25, pos := "outright.go:72", after := #[], guard := none }) rfl (fun K hK => ?_) ?_
                          · go_simp
                            refine hK.out _ _ ?_ (fun hHeld => ?_)
                            · simp [*, World.cell?_alloc_lt _ _ ⟨wr.heap.size, 1, none⟩ hO2, World.cell?_alloc_lt _ _ ⟨wr.heap.size, 3, none⟩ hO2]
                            clear hK K
                            try simp only [Act.put, List.setIfInBounds_toArray, List.set_cons_zero, List.set_cons_succ]
                            refine wpAnyH_ready (rs := [10]) (by kernel_rfl) (by simp) ?_
                            refine AllReadyH.cons (o := { dst := some 140, op := Op.call { callee := Callee.builtin Builtin.append, args := #[Operand.tmp 132, Operand.tmp 139], argTypes := #[25, 25] }, type := 25, pos := "outright.go:72", after := #[{ on := 2, ground := Ground.data }, { on := 9, ground := Ground.data }], guard := none }) rfl (fun K hK => ?_) ?_
                            · refine step_copy (w0 := x1) rfl (.tmp 132) (.tmp 139) rfl rfl rfl HQ.out.1 HQ.out.2.1 (by have := HQ.out.2.2; omega) (by first | exact (Off.refl _ _).alloc _ | exact ((Off.refl _ _).alloc _).drew | exact ((Off.refl _ _).drew).alloc _ | exact (((Off.refl _ _).drew).alloc _).drew) (Nat.le_refl _) (by exact heap_alloc_new _ _) ?_
                              intro a' n' c' x3 hR hO
                              have d0 : x3.cell? ⟨wr.heap.size, 1, none⟩ = some (.int .i64 1) := (hO.cell (p := ⟨wr.heap.size, 1, none⟩) hO2).trans g1
                              have d1 : x3.cell? ⟨wr.heap.size, 3, none⟩ = some (.int .i64 m) := (hO.cell (p := ⟨wr.heap.size, 3, none⟩) hO2).trans g3
                              have d2 : x3.cell? ⟨S6 + 1, 1, none⟩ = some (.slice q1.a q1.n q1.c) := (hO.cell (p := ⟨S6 + 1, 1, none⟩) h7l).trans c71
                              have d3 : x3.cell? ⟨S6, 1, none⟩ = some (.slice p1.a p1.n p1.c) := (hO.cell (p := ⟨S6, 1, none⟩) h6l).trans c61
                              have f0 : x3.frozen? ⟨S6 + 1, 1, none⟩ = false := (hO.frozen (p := ⟨S6 + 1, 1, none⟩) h7l).trans y7
                              refine hK.out _ _ ?_ (fun hHeld => ?_)
                              · simp [*, World.cell?_alloc_lt _ _ ⟨wr.heap.size, 1, none⟩ hO2, World.cell?_alloc_lt _ _ ⟨wr.heap.size, 3, none⟩ hO2]
                              clear hK K
                              try simp only [Act.put, List.setIfInBounds_toArray, List.set_cons_zero, List.set_cons_succ]
                              refine wpAnyH_take (i := 11) (oi := { dst := some 141, op := Op.indexAddr 26 (Operand.tmp 7) (Operand.tmp 131), type := 0, pos := "outright.go:72", after := #[{ on := 1, ground := Ground.data }, { on := 0, ground := Ground.phase }, { on := 1, ground := Ground.phase }, { on := 2, ground := Ground.phase }, { on := 3, ground := Ground.phase }, { on := 4, ground := Ground.phase }, { on := 5, ground := Ground.phase }, { on := 6, ground := Ground.phase }, { on := 7, ground := Ground.phase }, { on := 8, ground := Ground.phase }, { on := 9, ground := Ground.phase }, { on := 10, ground := Ground.phase }], guard := none }) (v := ?_) rfl (by kernel_rfl) (by kernel_rfl) (by kernel_rfl) (fun _ _ _ h => h) (Or.inl ⟨by rfl, ?_⟩) (by assumption) ?_
                              rotate_left
                              · intro w hSw
                                try dsimp only at hSw
                                go_simp
                                try with_reducible rfl
                              try simp only [Act.put, List.setIfInBounds_toArray, List.set_cons_zero, List.set_cons_succ]
                              refine wpAnyH_ready (rs := [12]) (by kernel_rfl) (by simp) ?_
                              refine AllReadyH.cons (o := { dst := none, op := Op.store 25 (Operand.tmp 141) (Operand.tmp 140), type := 0, pos := "outright.go:72", after := #[{ on := 11, ground := Ground.data }, { on := 10, ground := Ground.data }, { on := 10, ground := Ground.chain }, { on := 0, ground := Ground.phase }, { on := 1, ground := Ground.phase }, { on := 2, ground := Ground.phase }, { on := 3, ground := Ground.phase }, { on := 4, ground := Ground.phase }, { on := 5, ground := Ground.phase }, { on := 6, ground := Ground.phase }, { on := 7, ground := Ground.phase }, { on := 8, ground := Ground.phase }, { on := 9, ground := Ground.phase }, { on := 10, ground := Ground.phase }], guard := none }) rfl (fun K hK => ?_) ?_
                              · go_simp
                                refine hK.out _ _ ?_ (fun hHeld => ?_)
                                · simp [*, World.cell?_alloc_lt _ _ ⟨wr.heap.size, 1, none⟩ hO2, World.cell?_alloc_lt _ _ ⟨wr.heap.size, 3, none⟩ hO2]
                                clear hK K
                                try simp only [Act.put, List.setIfInBounds_toArray, List.set_cons_zero, List.set_cons_succ]
                                refine wpAnyH_done (by kernel_rfl) ?_ _
                                have HN : Hid (Sfv w2 (x3.setCell ⟨S6 + 1, 1, none⟩ (.slice a' n' c')) K S6 (S6 + 1) u0 u1 τ p0 p1 q0 ⟨a', n', c'⟩ (σ.x0.take σ.s0) (σ.x1.take σ.s1) σ.x0 (σ.x1.take m)) := HX.out.1.to71 hO hR
                                obtain ⟨X4, hX4⟩ : ∃ z, x3.setCell ⟨S6 + 1, 1, none⟩ (.slice a' n' c') = z := ⟨_, rfl⟩
                                rw [hX4] at HN
                                have k1 : X4.cell? ⟨wr.heap.size, 1, none⟩ = some (.int .i64 1) := by rw [← hX4, s1]; exact d0
                                have k3 : X4.cell? ⟨wr.heap.size, 3, none⟩ = some (.int .i64 m) := by rw [← hX4, s2]; exact d1
                                have k7 : X4.cell? ⟨S6 + 1, 1, none⟩ = some (.slice a' n' c') := HN.out.c71
                                have k6 : X4.cell? ⟨S6, 1, none⟩ = some (.slice p1.a p1.n p1.c) := HN.out.c61
                                have hO3 : wr.heap.size < X4.heap.size := by rw [← hX4, World.size_setCell]; exact Nat.lt_of_lt_of_le hO2 hO.size
                                have h6x : S6 < X4.heap.size := HN.out.l6.2.1
                                have h7x : S6 + 1 < X4.heap.size := HN.out.l7.2.1
                                have v6 : X4.frozen? ⟨S6, 1, none⟩ = false := HN.out.f6 1
                                rw [hX4]
                                clear hX4 hR hO d0 d1 d2 d3 f0 s1 s2 y7 y6 g0 g1 g3 g4 c60 c61 c70 c71 HQ hqc hq2 hq3 hq4 hHeld
                                go_wp2_with fail
                                by_cases hc : (m : Int) < p1.n
                                · have hcb : decide ((m : Int) < p1.n) = true := by simp [hc]
                                  go_quiet (fail)
                                  obtain ⟨X6, hX6⟩ : ∃ z, X4.drewN nq = z := ⟨_, rfl⟩
                                  have o6 : Off (fun _ => False) X4 X6 := by rw [← hX6]; exact (Off.refl _ _).drewN _
                                  have HN6 : Hid (Sfv w2 X6 K S6 (S6 + 1) u0 u1 τ p0 p1 q0 ⟨a', n', c'⟩ (σ.x0.take σ.s0) (σ.x1.take σ.s1) σ.x0 (σ.x1.take m)) := HN.out.below (o6.below (Nat.le_refl _) (fun _ g => g.elim))
                                  have j1 : X6.cell? ⟨wr.heap.size, 1, none⟩ = some (.int .i64 1) := (o6.cell (p := ⟨wr.heap.size, 1, none⟩) hO3 id).trans k1
                                  have hO6 : wr.heap.size < X6.heap.size := Nat.lt_of_lt_of_le hO3 o6.size
                                  have j7 : X6.cell? ⟨S6 + 1, 1, none⟩ = some (.slice a' n' c') := HN6.out.c71
                                  have j6 : X6.cell? ⟨S6, 1, none⟩ = some (.slice p1.a p1.n p1.c) := HN6.out.c61
                                  have h6y : S6 < X6.heap.size := HN6.out.l6.2.1
                                  have h7y : S6 + 1 < X6.heap.size := HN6.out.l7.2.1
                                  have w6 : X6.frozen? ⟨S6, 1, none⟩ = false := HN6.out.f6 1
                                  have HQ : Hid (Byts X6 a' n' (σ.x1.take m) ∧ (a' = none → c' = 0) ∧ n' ≤ 16777216) := ⟨HN6.out.sq1.by', HN6.out.sq1.no, by have h1 : (σ.x1.take m).length = n' := HN6.out.sq1.by'.len; have := HOK.l1; rw [List.length_take] at h1; omega⟩
                                  have s1 : ∀ (X : World) (u : Value), (X.setCell ⟨S6, 1, none⟩ u).cell? ⟨wr.heap.size, 1, none⟩ = X.cell? ⟨wr.heap.size, 1, none⟩ := fun X u => World.cell?_setCell_other _ _ _ _ (by simp; first | done | omega)
                                  have s2 : ∀ (X : World) (u : Value), (X.setCell ⟨S6, 1, none⟩ u).cell? ⟨S6 + 1, 1, none⟩ = X.cell? ⟨S6 + 1, 1, none⟩ := fun X u => World.cell?_setCell_other _ _ _ _ (by simp; first | done | omega)
                                  rw [hX6]
                                  clear hX6 o6 HN k1 k3 k7 k6 hO3 h6x h7x v6
                                  go_wp2_with fail
                                  go_region_held3 (fun x => x.cell? ⟨wr.heap.size, 1, none⟩ = some (.int .i64 1) ∧ x.cell? ⟨S6 + 1, 1, none⟩ = some (.slice a' n' c')) (simp [*, World.cell?_alloc_lt _ _ ⟨wr.heap.size, 1, none⟩ hO6, World.cell?_alloc_lt _ _ ⟨S6 + 1, 1, none⟩ h7y]) (first | (refine step_copy (w0 := X6) rfl (.tmp 152) (.tmp 156) rfl rfl rfl HQ.out.1 HQ.out.2.1 (by have := HQ.out.2.2; omega) (by first | exact (Off.refl _ _).alloc _ | exact ((Off.refl _ _).alloc _).drew | exact ((Off.refl _ _).drew).alloc _ | exact (((Off.refl _ _).drew).alloc _).drew) (Nat.le_refl _) (by exact heap_alloc_new _ _) ?_; intro a5 n5 c5 x5 hR5 hO5; have d0 : x5.cell? ⟨wr.heap.size, 1, none⟩ = some (.int .i64 1) := (hO5.cell (p := ⟨wr.heap.size, 1, none⟩) hO6).trans j1; have d1 : x5.cell? ⟨S6 + 1, 1, none⟩ = some (.slice a' n' c') := (hO5.cell (p := ⟨S6 + 1, 1, none⟩) h7y).trans j7; have d2 : x5.cell? ⟨S6, 1, none⟩ = some (.slice p1.a p1.n p1.c) := (hO5.cell (p := ⟨S6, 1, none⟩) h6y).trans j6; have f0 : x5.frozen? ⟨S6, 1, none⟩ = false := (hO5.frozen (p := ⟨S6, 1, none⟩) h6y).trans w6))
                                  all_goals
                                    have HM : Hid (Sfx w2 K S6 (S6 + 1) (x5.setCell ⟨S6, 1, none⟩ (.slice a5 n5 c5))) := by
                                      obtain ⟨e1, e2, e3, e4⟩ := HE.out
                                      refine sfx_of (HN6.out.to61 hO5 hR5) ?_ ?_ e2.symm e1.symm
                                      · rw [e2, e3]
                                      · rw [e1, e4]; exact take_less _ (by rw [← HPN.out]; omega)
                                    clear hR5 hO5
                                    go_wp2_with fail
                                    go_meet
                                    exact HM
                                · have hcb : decide ((m : Int) < p1.n) = false := by simp [hc]
                                  go_quiet (fail)
                                  obtain ⟨X6, hX6⟩ : ∃ z, X4.drewN nq = z := ⟨_, rfl⟩
                                  have o6 : Off (fun _ => False) X4 X6 := by rw [← hX6]; exact (Off.refl _ _).drewN _
                                  have HN6 : Hid (Sfv w2 X6 K S6 (S6 + 1) u0 u1 τ p0 p1 q0 ⟨a', n', c'⟩ (σ.x0.take σ.s0) (σ.x1.take σ.s1) σ.x0 (σ.x1.take m)) := HN.out.below (o6.below (Nat.le_refl _) (fun _ g => g.elim))
                                  have HM : Hid (Sfx w2 K S6 (S6 + 1) X6) := by
                                    obtain ⟨e1, e2, e3, e4⟩ := HE.out
                                    refine sfx_of HN6.out ?_ ?_ e2.symm e1.symm
                                    · rw [e2, e3]
                                    · rw [e1, e4]; exact take_keep _ (by rw [← HPN.out]; omega) HOK.s1
                                  rw [hX6]
                                  clear hX6 o6 HN HN6
                                  go_wp2_with fail
                                  go_meet
                                  exact HM
                              exact AllReadyH.nil
                            exact AllReadyH.nil
                          exact AllReadyH.nil
                        exact AllReadyH.nil
            case rest =>
              as_aux_lemma =>
                obtain ⟨y0, y1, ρ, P0, P1, Q0, Q1, hZ⟩ := hcut.out
                have HZ : Hid (Sfv w2 wc K S6 (S6 + 1) y0 y1 ρ P0 P1 Q0 Q1 (ρ.x0.take ρ.s0) (ρ.x1.take ρ.s1) ρ.x0 ρ.x1) := hZ
                clear hZ hcut HX HD HS HS1 HY HW HP2 g0 g1 g3 g4 c60 c61 c70 c71 z6 z7 h6l h7l hO2 HOK h6w h7w hgo1
                go_wp2_with fail
                refine (Image_two HZ.out.d (stOf_any _)).mono ?_
                rintro e x2 ⟨a0, n0, k0, a1, n1, k1, rfl, hr0, hr1, _, hb2⟩
                obtain ⟨N, hN⟩ : ∃ z, x2.heap.size = z := ⟨_, rfl⟩
                obtain ⟨X, hX⟩ : ∃ z, x2.alloc (.cells #[.slice a0 n0 k0, .slice a1 n1 k1] 26) = z := ⟨_, rfl⟩
                have hbX : Below x2.heap.size x2 X := by rw [← hX]; exact (Below.refl _ _).alloc (Nat.le_refl _) _
                have l0 : X.cell? ⟨N, 0, none⟩ = some (.slice a0 n0 k0) := by rw [← hX, ← hN]; simp
                have l1 : X.cell? ⟨N, 1, none⟩ = some (.slice a1 n1 k1) := by rw [← hX, ← hN]; simp
                have lN : N < X.heap.size := by rw [← hX, ← hN]; simp

                have HZX : Hid (Sfv w2 X K S6 (S6 + 1) y0 y1 ρ P0 P1 Q0 Q1 (ρ.x0.take ρ.s0) (ρ.x1.take ρ.s1) ρ.x0 ρ.x1) := (HZ.out.below hb2).below hbX
                have HR : Hid (Byts X a0 n0 (ρ.x0.take ρ.s0) ∧ Byts X a1 n1 (ρ.x1.take ρ.s1)) := ⟨hr0.byts'.2.1.below hbX, hr1.byts'.2.1.below hbX⟩
                go_wp2_with fail
                clear hN hX hbX hr0 hr1 hb2 HZ
                go_loopw [14, 15, 16] (fun t14 t15 t16 wx => ∃ j m : Nat, j ≤ 2 ∧ t14 = .int .i64 j ∧ wx = X.drewN m) (fun t14 _ _ _ => 2 - (intOf t14).toNat)
                case atStart => exact ⟨0, 0, by omega, rfl, rfl⟩
                case round =>
                  obtain ⟨j, m, hj, rfl, rfl⟩ := hrel
                  obtain ⟨X', hX'⟩ : ∃ z, X.drewN m = z := ⟨_, rfl⟩
                  have drx : Off (fun _ => False) X X' := by rw [← hX']; exact (Off.refl _ _).drewN _
                  have HV : Hid (Sfv w2 X' K S6 (S6 + 1) y0 y1 ρ P0 P1 Q0 Q1 (ρ.x0.take ρ.s0) (ρ.x1.take ρ.s1) ρ.x0 ρ.x1) := HZX.out.below (drx.below (Nat.le_refl _) (fun _ g => g.elim))
                  have m0 : X'.cell? ⟨N, 0, none⟩ = some (.slice a0 n0 k0) := (drx.cell (p := ⟨N, 0, none⟩) lN id).trans l0
                  have m1 : X'.cell? ⟨N, 1, none⟩ = some (.slice a1 n1 k1) := (drx.cell (p := ⟨N, 1, none⟩) lN id).trans l1
                  have e0 : P0.n = n0 := by rw [← HV.out.sp0.by'.len, HR.out.1.len]
                  have e1 : P1.n = n1 := by rw [← HV.out.sp1.by'.len, HR.out.2.len]
                  have HT0 : Hid (Byts X' P0.a n0 (ρ.x0.take ρ.s0)) := e0 ▸ HV.out.sp0.by'
                  have HT1 : Hid (Byts X' P1.a n1 (ρ.x1.take ρ.s1)) := e1 ▸ HV.out.sp1.by'
                  have HT0c : Hid (X'.cell? ⟨S6, 0, none⟩ = some (.slice P0.a n0 P0.c)) := e0 ▸ HV.out.c60
                  have HT1c : Hid (X'.cell? ⟨S6, 1, none⟩ = some (.slice P1.a n1 P1.c)) := e1 ▸ HV.out.c61
                  rw [hX']
                  clear l0 l1 e0 e1
                  rcases (show j = 0 ∨ j = 1 ∨ j = 2 by omega) with rfl | rfl | rfl
                  · have HC1 : Hid (∀ x, Calls Try.prog 15 #[.slice a0 n0 k0, .slice P0.a n0 P0.c] (X'.drewN x) fun ev w' => ev = .returned (.bool true) ∧ ∃ m, w' = X'.drewN m) := fun x => (same_true ((HR.out.1.off drx (fun _ _ _ g => g)).drew x) (HT0.out.drew x) (by have h1 := HT0.out.len; have := HV.out.ok.l0; rw [List.length_take] at h1; omega)).mono (fun ev w' ⟨he, m, hm⟩ => ⟨he, x + m, by rw [hm]; simp [Nat.add_assoc]⟩)
                    have HC2 : Hid (∀ x, Calls Try.prog 13 #[.slice Q0.a Q0.n Q0.c, .slice P0.a n0 P0.c] (X'.drewN x) fun ev w' => ev = .returned (.bool true) ∧ ∃ m, w' = X'.drewN m) := fun x => (begins_true (HV.out.sq0.by'.drew x) HV.out.sq0.le HV.out.sq0.mx HV.out.sq0.no (HT0.out.drew x) ⟨by simp; omega, by simp [List.take_take, Nat.min_assoc]⟩).mono (fun ev w' ⟨he, m, hm⟩ => ⟨he, x + m, by rw [hm]; simp [Nat.add_assoc]⟩)
                    have HL : Hid (Calls Try.prog 14 #[.pointer (some ⟨K, 0, none⟩), .int .i64 0] X' fun e w' => e = .returned (.tuple #[.int .i64 Q0.n, .nilIface]) ∧ w' = X') := by
                      have hq : ρ.x0.length = Q0.n := HV.out.sq0.by'.len
                      have h := Len0_ok HV.out.d (stOf_any _)
                      rw [hq] at h
                      exact h
                    have c6 : X'.cell? ⟨S6, 0, none⟩ = some (.slice P0.a n0 P0.c) := HT0c.out
                    have c7 : X'.cell? ⟨S6 + 1, 0, none⟩ = some (.slice Q0.a Q0.n Q0.c) := HV.out.c70
                    go_wp2_with fail
                    refine HL.out.mono ?_
                    rintro e x5 ⟨rfl, hx5⟩
                    rw [hx5]
                    clear hx5 HL
                    go_wp2_with fail
                    go_quiet (first | (go_at_call 15; first | exact HC1.out _ | (simp only [World.drewN_drewN]; exact HC1.out _) | exact HC1.out 0) | (go_at_call 13; first | exact HC2.out _ | (simp only [World.drewN_drewN]; exact HC2.out _) | exact HC2.out 0))
                    go_wp2_with fail
                    go_roundw
                    case rel => exact ⟨1, _, by omega, by go_num, by rw [← hX']; first | rfl | exact World.drewN_drewN _ _ _⟩
                    case measure => simp [intOf]
                  · have HC1 : Hid (∀ x, Calls Try.prog 15 #[.slice a1 n1 k1, .slice P1.a n1 P1.c] (X'.drewN x) fun ev w' => ev = .returned (.bool true) ∧ ∃ m, w' = X'.drewN m) := fun x => (same_true ((HR.out.2.off drx (fun _ _ _ g => g)).drew x) (HT1.out.drew x) (by have h1 := HT1.out.len; have := HV.out.ok.l1; rw [List.length_take] at h1; omega)).mono (fun ev w' ⟨he, m, hm⟩ => ⟨he, x + m, by rw [hm]; simp [Nat.add_assoc]⟩)
                    have HC2 : Hid (∀ x, Calls Try.prog 13 #[.slice Q1.a Q1.n Q1.c, .slice P1.a n1 P1.c] (X'.drewN x) fun ev w' => ev = .returned (.bool true) ∧ ∃ m, w' = X'.drewN m) := fun x => (begins_true (HV.out.sq1.by'.drew x) HV.out.sq1.le HV.out.sq1.mx HV.out.sq1.no (HT1.out.drew x) ⟨by simp; omega, by simp [List.take_take, Nat.min_assoc]⟩).mono (fun ev w' ⟨he, m, hm⟩ => ⟨he, x + m, by rw [hm]; simp [Nat.add_assoc]⟩)
                    have HL : Hid (Calls Try.prog 14 #[.pointer (some ⟨K, 0, none⟩), .int .i64 1] X' fun e w' => e = .returned (.tuple #[.int .i64 Q1.n, .nilIface]) ∧ w' = X') := by
                      have hq : ρ.x1.length = Q1.n := HV.out.sq1.by'.len
                      have h := Len1_ok HV.out.d (stOf_any _)
                      rw [hq] at h
                      exact h
                    have c6 : X'.cell? ⟨S6, 1, none⟩ = some (.slice P1.a n1 P1.c) := HT1c.out
                    have c7 : X'.cell? ⟨S6 + 1, 1, none⟩ = some (.slice Q1.a Q1.n Q1.c) := HV.out.c71
                    go_wp2_with fail
                    refine HL.out.mono ?_
                    rintro e x5 ⟨rfl, hx5⟩
                    rw [hx5]
                    clear hx5 HL
                    go_wp2_with fail
                    go_quiet (first | (go_at_call 15; first | exact HC1.out _ | (simp only [World.drewN_drewN]; exact HC1.out _) | exact HC1.out 0) | (go_at_call 13; first | exact HC2.out _ | (simp only [World.drewN_drewN]; exact HC2.out _) | exact HC2.out 0))
                    go_wp2_with fail
                    go_roundw
                    case rel => exact ⟨2, _, by omega, by go_num, by rw [← hX']; first | rfl | exact World.drewN_drewN _ _ _⟩
                    case measure => simp [intOf]
                  · have HN : Hid (Sfx w2 K S6 (S6 + 1) X') := ⟨_, _, _, _, _, _, _, HV.out⟩
                    clear HV HT0 HT1 HT0c HT1c HR HZX
                    go_wp2_with fail
                    go_roundw
                    case rel => exact ⟨i + 1, hlt, by go_num, HN⟩
                    case measure => simp [intOf]; omega
          · have hb : ((!(ar == 0) && !(ar == 1)) || kd == 9) = true := by
              by_cases h9 : kd = 9
              · simp [h9]
              · have : ¬ (ar = 0 ∨ ar = 1) := fun h => hgo ⟨h, h9⟩
                simp only [not_or] at this
                simp [this.1, this.2]
            rw [hb]
            as_aux_lemma =>
              have HN : Hid (Sfx w2 K S6 (S6 + 1) W1) := ⟨v0, v1, σ, p0, p1, q0, q1, HS1.out.1⟩
              clear HS HS1 HY HW
              go_wp2_with fail
              go_roundw
              case rel => exact ⟨i + 1, hlt, by go_num, HN⟩
              case measure => simp [intOf]; omega
      · have hlti : ¬ (i : Int) < xs.length := by omega
        as_aux_lemma =>
          have HE : Hid (Below w.heap.size w wr) := HB2.out.1.trans (hS.be.mono HB2.out.1.size)
          clear hS HR' HW
          go_wp2_with fail
          go_ret
          exact ⟨rfl, HE.out⟩
end Go.Proofs.Ytlgjjemfckmidaa
