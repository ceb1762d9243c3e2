/-
  The document's box: Load of any list.
-/
import Derived.Test.YtoijhecphgdfnaaGreatDoorOrLdS
namespace Go.Proofs.YtoijhecphgdfnaaGreatDoor
open Go.RowKit

set_option maxRecDepth 100000 in
set_option maxHeartbeats 16000000 in
theorem rload_any (sq : Bool) (tr : Int) (ao : Option Addr) (cap : Nat) (xs : List Msg) (w : World) (ho : Outs w ao xs) (hp : ∀ x ∈ xs, Plain x) (hl : xs.length ≤ 140737488355328) :
    Calls Tryz.prog 12 #[.slice ao xs.length cap, .bool sq, .int .i64 tr] w (RLdQ w sq tr xs) := by
  obtain ⟨n, hn⟩ : ∃ n, xs.length = n := ⟨_, rfl⟩
  have HN : Hid (xs.length = n) := hn
  rw [hn] at hl ⊢
  clear hn
  by_cases h0 : tr < 0
  · have HG : Hid (LdNo sq tr xs 0 224) := Or.inl ⟨Or.inl h0, rfl, rfl⟩
    clear ho hp
    go_enter Tryz.func12, Tryz.ntmps12
    go_wp2_with fail
    go_ret3
    exact Or.inl ⟨_, _, rfl, HG.out, Below.refl _ _⟩
  by_cases h1 : tr > 16
  · have HG : Hid (LdNo sq tr xs 0 224) := Or.inl ⟨Or.inr h1, rfl, rfl⟩
    clear ho hp
    go_enter Tryz.func12, Tryz.ntmps12
    go_wp2_with fail
    go_ret3
    exact Or.inl ⟨_, _, rfl, HG.out, Below.refl _ _⟩
  by_cases h2 : n > 32
  · have g2 : (n : Int) > 32 := by omega
    have HG : Hid (LdNo sq tr xs 0 7) := Or.inr (Or.inl ⟨by omega, by omega, by have := HN.out; omega, rfl, rfl⟩)
    clear ho hp h2
    go_enter Tryz.func12, Tryz.ntmps12
    go_wp2_with fail
    go_ret3
    exact Or.inl ⟨_, _, rfl, HG.out, Below.refl _ _⟩
  have g2 : ¬ (n : Int) > 32 := by omega
  have HH : Hid (Outs w ao xs ∧ (∀ x ∈ xs, Plain x) ∧ 0 ≤ tr ∧ tr ≤ 16 ∧ n ≤ 32) := ⟨ho, hp, by omega, by omega, by omega⟩
  have HS : Hid (RLdI w w.heap.size sq tr xs 0 (w.alloc (.cells #[.slice none 0 0, .bool sq, .int .i64 tr] 117))) := rld_start w sq tr xs
  have hl2 : (n : Int) ≤ 140737488355328 := by omega
  clear ho hp h2
  go_enter Tryz.func12, Tryz.ntmps12
  go_wp2_with fail
  obtain ⟨r, hr⟩ : ∃ r, w.heap.size = r := ⟨_, rfl⟩
  rw [hr] at HS ⊢
  go_loopw [10] (fun t wx => ∃ i : Nat, i ≤ n ∧ t = .int .i64 i ∧ Hid (RLdI w r sq tr xs i wx)) (fun t _ => n - (intOf t).toNat)
  case atStart => exact ⟨0, Nat.zero_le _, rfl, HS⟩
  case round =>
    obtain ⟨i, hi, rfl, HR⟩ := hrel
    clear HS
    by_cases hlt : i < n
    · have hlt1 : (i : Int) < n := by omega
      obtain ⟨x, hx⟩ : ∃ x, xs[i]? = some x := ⟨_, List.getElem?_eq_getElem (by rw [HN.out]; exact hlt)⟩
      obtain ⟨L, ms, hRB, hW⟩ := HR.out.ex
      obtain ⟨pb, off, rfl, hat⟩ := HH.out.1 i x hx
      have hatr := hat.below HR.out.bel
      obtain ⟨lp, f0, f1, f2, f3, f4, f5, f6, _, _⟩ := hatr
      have HX : Hid (xs[i]? = some x ∧ RB wr w.heap.size r L sq tr ms ∧ Wis ms (xs.take i) ∧ Byts wr x.tp x.tn x.tx ∧ ms.length = i ∧ Plain x) := ⟨hx, hRB, hW, (hat.below HR.out.bel).p, by have h1 := hW.1; rw [List.length_take, HN.out] at h1; omega, HH.out.2.1 x (List.mem_of_getElem? hx)⟩
      have HC : Hid (refS sq ms x = refS sq (xs.take i) x) := refS_wis hW x
      obtain ⟨V, hV⟩ : ∃ V, wr.alloc (.cells #[.string x.ct, .slice x.tp x.tn x.tc, .bool x.e, .int .i64 x.a, .int .i64 x.p, .int .i64 x.nu, .bool x.nt] 58) = V := ⟨_, rfl⟩
      have HV : Hid (Below wr.heap.size wr V ∧ Box V wr.heap.size #[.string x.ct, .slice x.tp x.tn x.tc, .bool x.e, .int .i64 x.a, .int .i64 x.p, .int .i64 x.nu, .bool x.nt]) := by rw [← hV]; exact ⟨(Below.refl _ _).alloc (Nat.le_refl _) _, Box.new wr #[.string x.ct, .slice x.tp x.tn x.tc, .bool x.e, .int .i64 x.a, .int .i64 x.p, .int .i64 x.nu, .bool x.nt] 58⟩
      have hv := hRB.below HV.out.1
      have hC := rControl_any x.ct V
      have hF := rfind_any hv x.ct
      have hR := rRight_any x.e x.a x.p V
      have HBV : Hid (Below w.heap.size w V) := below_then HR.out.bel HV.out.1
      obtain ⟨xb, hxb⟩ : ∃ xb, wr.heap.size = xb := ⟨_, rfl⟩
      have HXB : Hid (wr.heap.size = xb) := hxb
      have bx := HV.out.2
      rw [hxb] at bx
      have d0 : V.cell? ⟨xb, 0, none⟩ = some (.string x.ct) := bx.cell 0
      have d1 : V.cell? ⟨xb, 1, none⟩ = some (.slice x.tp x.tn x.tc) := bx.cell 1
      have d2 : V.cell? ⟨xb, 2, none⟩ = some (.bool x.e) := bx.cell 2
      have d3 : V.cell? ⟨xb, 3, none⟩ = some (.int .i64 x.a) := bx.cell 3
      have d4 : V.cell? ⟨xb, 4, none⟩ = some (.int .i64 x.p) := bx.cell 4
      have d5 : V.cell? ⟨xb, 5, none⟩ = some (.int .i64 x.nu) := bx.cell 5
      have d6 : V.cell? ⟨xb, 6, none⟩ = some (.bool x.nt) := bx.cell 6
      have xl : xb < V.heap.size := bx.lt
      have HNO : ∀ cd : Int, refS sq ms x = cd → cd ≠ 0 → Hid (LdNo sq tr xs i cd) := fun cd e hc => LdNo.here HH.out.2.2.1 HH.out.2.2.2.1 (by rw [HN.out]; exact HH.out.2.2.2.2) HX.out.1 HR.out.ref (by rw [← HC.out]; exact e) hc
      have hcs := refS_cases sq ms x
      rw [HX.out.2.2.2.2.1] at hcs
      have c0 := hcell hv.blk 0
      have lr := hv.lt
      clear hx hRB hW hat hv bx
      rcases hcs with ⟨h2, e⟩ | ⟨h2, ⟨⟨k, h3⟩, e⟩ | ⟨h3, ⟨h4, e⟩ | ⟨h4, h5, hrest⟩⟩⟩
      · have HE := HNO _ e (by decide)
        rw [h2] at hC
        clear hF hR HNO e h2
        go_wp2_with (first | (go_at_call 46; refine hC.mono ?_; rintro _ w9 ⟨rfl, h9⟩; subst w9))
        go_ret3
        exact Or.inl ⟨_, _, rfl, HE.out, HBV.out⟩
      · have HE := HNO _ e (by decide)
        rw [h2] at hC
        rw [show fiI x.ct ms = (k : Int) by unfold fiI; rw [h3]] at hF
        have k0 : (k : Int) ≥ 0 := by omega
        clear hR HNO e h2 h3
        go_wp2_with (first | (go_at_call 46; refine hC.mono ?_; rintro _ w9 ⟨rfl, h9⟩; subst w9) | (go_at_call 47; refine hF.mono ?_; rintro _ w9 ⟨rfl, h9⟩; subst w9))
        go_ret3
        exact Or.inl ⟨_, _, rfl, HE.out, HBV.out⟩
      · have HE := HNO _ e (by decide)
        rw [h2] at hC
        rw [show fiI x.ct ms = -1 by unfold fiI; rw [h3]] at hF
        rcases Nat.lt_or_ge 8192 x.tn with h7 | h7
        · have t1 : ¬ ((x.tn : Int) < 1) := by omega
          have t2 : (x.tn : Int) > 8192 := by omega
          clear hR HNO e h2 h3 h4 h7
          go_wp2_with (first | (go_at_call 46; refine hC.mono ?_; rintro _ w9 ⟨rfl, h9⟩; subst w9) | (go_at_call 47; refine hF.mono ?_; rintro _ w9 ⟨rfl, h9⟩; subst w9))
          go_ret3
          exact Or.inl ⟨_, _, rfl, HE.out, HBV.out⟩
        · have t1 : (x.tn : Int) < 1 := by omega
          clear hR HNO e h2 h3 h4 h7
          go_wp2_with (first | (go_at_call 46; refine hC.mono ?_; rintro _ w9 ⟨rfl, h9⟩; subst w9) | (go_at_call 47; refine hF.mono ?_; rintro _ w9 ⟨rfl, h9⟩; subst w9))
          go_ret3
          exact Or.inl ⟨_, _, rfl, HE.out, HBV.out⟩
      · rw [h2] at hC
        rw [show fiI x.ct ms = -1 by unfold fiI; rw [h3]] at hF
        have t1 : ¬ ((x.tn : Int) < 1) := by omega
        have t2 : ¬ ((x.tn : Int) > 8192) := by omega
        have HT : Hid (x.tn ≤ 8192) := h5
        clear h2 h3 h4 h5
        go_upto_region 16 with (first | (go_at_call 46; refine hC.mono ?_; rintro _ w9 ⟨rfl, h9⟩; subst w9) | (go_at_call 47; refine hF.mono ?_; rintro _ w9 ⟨rfl, h9⟩; subst w9))
        have hM : okB x.e x.a x.p = true → ∀ z, Calls Tryz.prog 49 #[.agg #[.bool x.e, .int .i64 x.a, .int .i64 x.p]] z fun r w' => r = .returned (.bool (caB x.e x.a)) ∧ Below z.heap.size z w' := fun h z => rmay_any x.e x.a x.p z h
        rcases hrest with ⟨(h6 | ⟨h6, h7, h8⟩), e⟩ | ⟨h6, h7, hnum⟩
        · have HE := HNO _ e (by decide)
          rw [h6] at hR
          clear hM HNO e h6
          go_wp2_with (first | (go_at_call 48; refine hR.mono ?_; rintro _ w2 ⟨rfl, hb2⟩; have e0 := (hb2.cell (p := ⟨xb, 0, none⟩) xl).trans d0; have e1 := (hb2.cell (p := ⟨xb, 1, none⟩) xl).trans d1; have e2 := (hb2.cell (p := ⟨xb, 2, none⟩) xl).trans d2; have e3 := (hb2.cell (p := ⟨xb, 3, none⟩) xl).trans d3; have e4 := (hb2.cell (p := ⟨xb, 4, none⟩) xl).trans d4; have e5 := (hb2.cell (p := ⟨xb, 5, none⟩) xl).trans d5; have e6 := (hb2.cell (p := ⟨xb, 6, none⟩) xl).trans d6; have xl2 := Nat.lt_of_lt_of_le xl hb2.size; have HB2 : Hid (Below V.heap.size V w2) := hb2; clear hb2))
          go_ret3
          exact Or.inl ⟨_, _, rfl, HE.out, below_then HBV.out HB2.out⟩
        · have HE := HNO _ e (by decide)
          have hM := hM h6
          rw [h8] at hM
          rw [h6] at hR
          rw [h7] at d6
          clear HNO e h6 h7 h8
          go_wp2_with (first | (go_at_call 48; refine hR.mono ?_; rintro _ w2 ⟨rfl, hb2⟩; have e0 := (hb2.cell (p := ⟨xb, 0, none⟩) xl).trans d0; have e1 := (hb2.cell (p := ⟨xb, 1, none⟩) xl).trans d1; have e2 := (hb2.cell (p := ⟨xb, 2, none⟩) xl).trans d2; have e3 := (hb2.cell (p := ⟨xb, 3, none⟩) xl).trans d3; have e4 := (hb2.cell (p := ⟨xb, 4, none⟩) xl).trans d4; have e5 := (hb2.cell (p := ⟨xb, 5, none⟩) xl).trans d5; have e6 := (hb2.cell (p := ⟨xb, 6, none⟩) xl).trans d6; have xl2 := Nat.lt_of_lt_of_le xl hb2.size; have HB2 : Hid (Below V.heap.size V w2) := hb2; clear hb2) | (go_at_call 49; refine (hM _).mono ?_; rintro _ w3 ⟨rfl, hb3⟩; have HB3 : Hid (Below V.heap.size V w3) := below_then HB2.out hb3; clear hb3))
          go_ret3
          exact Or.inl ⟨_, _, rfl, HE.out, below_then HBV.out HB3.out⟩
        have hM := hM h6
        rw [h6] at hR
        go_cut [60] from 25 to 110 (fun t wx => t = .bool false ∧ Hid (Below V.heap.size V wx))
        case first =>
          clear HNO hnum h6 d0 d1 d5
          cases hnt : x.nt with
          | false =>
            rw [hnt] at d6
            clear h7 hnt hM
            go_wp2_with (first | (go_at_call 48; refine hR.mono ?_; rintro _ w2 ⟨rfl, hb2⟩; have e2 := (hb2.cell (p := ⟨xb, 2, none⟩) xl).trans d2; have e3 := (hb2.cell (p := ⟨xb, 3, none⟩) xl).trans d3; have e4 := (hb2.cell (p := ⟨xb, 4, none⟩) xl).trans d4; have e6 := (hb2.cell (p := ⟨xb, 6, none⟩) xl).trans d6; have xl2 := Nat.lt_of_lt_of_le xl hb2.size; have HB2 : Hid (Below V.heap.size V w2) := hb2; clear hb2))
            go_meet
            exact ⟨rfl, HB2⟩
          | true =>
            rw [h7 hnt] at hM
            rw [hnt] at d6
            clear h7 hnt
            go_wp2_with (first | (go_at_call 48; refine hR.mono ?_; rintro _ w2 ⟨rfl, hb2⟩; have e2 := (hb2.cell (p := ⟨xb, 2, none⟩) xl).trans d2; have e3 := (hb2.cell (p := ⟨xb, 3, none⟩) xl).trans d3; have e4 := (hb2.cell (p := ⟨xb, 4, none⟩) xl).trans d4; have e6 := (hb2.cell (p := ⟨xb, 6, none⟩) xl).trans d6; have xl2 := Nat.lt_of_lt_of_le xl hb2.size; have HB2 : Hid (Below V.heap.size V w2) := hb2; clear hb2) | (go_at_call 49; refine (hM _).mono ?_; rintro _ w3 ⟨rfl, hb3⟩; have HB3 : Hid (Below V.heap.size V w3) := below_then HB2.out hb3; clear hb3))
            go_meet
            exact ⟨rfl, HB3⟩
        case rest =>
        obtain ⟨V2, rfl⟩ : ∃ U, U = wc := ⟨_, rfl⟩
        obtain ⟨rfl, HB2⟩ := hcut
        have e0 := (HB2.out.cell (p := ⟨xb, 0, none⟩) xl).trans d0
        have e1 := (HB2.out.cell (p := ⟨xb, 1, none⟩) xl).trans d1
        have e2 := (HB2.out.cell (p := ⟨xb, 2, none⟩) xl).trans d2
        have e3 := (HB2.out.cell (p := ⟨xb, 3, none⟩) xl).trans d3
        have e4 := (HB2.out.cell (p := ⟨xb, 4, none⟩) xl).trans d4
        have e5 := (HB2.out.cell (p := ⟨xb, 5, none⟩) xl).trans d5
        have e6 := (HB2.out.cell (p := ⟨xb, 6, none⟩) xl).trans d6
        have y0 := (HB2.out.cell (p := ⟨r, 0, none⟩) lr).trans c0
        have lr2 := Nat.lt_of_lt_of_le lr HB2.out.size
        have xl2 := Nat.lt_of_lt_of_le xl HB2.out.size
        have HBW : Hid (Below w.heap.size w V2) := below_then HBV.out HB2.out
        have HBR : Hid (Below wr.heap.size wr V2) := below_then HV.out.1 HB2.out
        clear hM h6 h7 d0 d1 d2 d3 d4 d5 d6 c0 lr xl f0 f1 f2 f3 f4 f5 f6 lp
        rcases hnum with ⟨hn, e⟩ | ⟨hn, e⟩
        · have HE := HNO _ e (by decide)
          clear HNO e e0 e1 e2 e3 e4 e6 y0
          by_cases n1 : x.nu < 0
          · clear hn
            go_wp2_with fail
            go_ret3
            exact Or.inl ⟨_, _, rfl, HE.out, HBW.out⟩
          by_cases n2 : x.nu > 2147483647
          · clear hn
            go_wp2_with fail
            go_ret3
            exact Or.inl ⟨_, _, rfl, HE.out, HBW.out⟩
          have n3 : x.nu ≠ 0 ∧ (sq = false ∨ i ≠ 0) := by
            rcases hn with h | h | h
            · omega
            · omega
            · exact h
          obtain ⟨n3, n4⟩ := n3
          have n5 : (x.nu != 0) = true := by simpa using n3
          by_cases n6 : i = 0
          · obtain rfl : sq = false := by
              rcases n4 with h | h
              · exact h
              · exact absurd n6 h
            subst n6
            clear hn n3
            go_wp2_with fail
            go_ret3
            exact Or.inl ⟨_, _, rfl, HE.out, HBW.out⟩
          · have n7 : (i : Int) > 0 := by omega
            clear hn n3 n4 n6
            go_wp2_with fail
            go_ret3
            exact Or.inl ⟨_, _, rfl, HE.out, HBW.out⟩
        go_upto_region 18 with fail
        go_cut [76] from 25 to 110 (fun t wx => t = .bool false ∧ wx = V2)
        case first =>
          clear HNO e e0 e1 e2 e3 e4 e6 y0
          rcases hn with n1 | ⟨n1, n2, n3, n4⟩
          · rw [n1] at e5
            go_wp2_with fail
            go_meet
            exact ⟨rfl, rfl⟩
          · subst n4
            subst n3
            have n5 : ¬ x.nu < 0 := by omega
            have n6 : ¬ x.nu > 2147483647 := by omega
            have n7 : (x.nu != 0) = true := by simp; omega
            go_wp2_with fail
            go_meet
            exact ⟨rfl, rfl⟩
        case rest =>
        obtain ⟨rfl, hw⟩ := hcut
        rw [hw]
        clear hw hn HNO
        have HE : Hid (refS sq (xs.take i) x = 0) := by unfold Hid; rw [← HC.out]; exact e
        have hO : Hid (∀ y, Below V2.heap.size V2 y → Calls Tryz.prog 50 #[.agg #[.string x.ct, .slice x.tp x.tn x.tc, .bool x.e, .int .i64 x.a, .int .i64 x.p, .int .i64 x.nu, .bool x.nt]] y fun e z => ∃ a c, e = .returned (.agg #[.string x.ct, .slice a x.tn c, .bool x.e, .int .i64 x.a, .int .i64 x.p, .int .i64 x.nu, .bool x.nt]) ∧ z.cell? ⟨r, 0, none⟩ = some L ∧ (z.alloc (.cells #[.string x.ct, .slice a x.tn c, .bool x.e, .int .i64 x.a, .int .i64 x.p, .int .i64 x.nu, .bool x.nt, .int .i64 0, .int .i64 0, .bool false] 91)).cell? ⟨r, 0, none⟩ = some L ∧ ∃ a2 n2 c2 W2, (Builtin.append_ #[97, 97] 97 #[L, .slice (some ⟨z.heap.size, 0, none⟩) 1 1]).run Tryz.prog (z.alloc (.cells #[.string x.ct, .slice a x.tn c, .bool x.e, .int .i64 x.a, .int .i64 x.p, .int .i64 x.nu, .bool x.nt, .int .i64 0, .int .i64 0, .bool false] 91)) = .ok (.slice a2 n2 c2) W2 ∧ W2.cell? ⟨r, 0, none⟩ = some L ∧ W2.frozen? ⟨r, 0, none⟩ = false ∧ Hid (RLdI w r sq tr xs (i + 1) (W2.setCell ⟨r, 0, none⟩ (.slice a2 n2 c2)))) := fun y hy => by
          have hby := below_then HBR.out hy
          refine (rown_any x y (HX.out.2.2.2.1.below hby) (by have := HT.out; omega)).mono fun e z ⟨a, c, e1, hr1, hbz⟩ => ?_
          have hwz := below_then hby hbz
          have hz := HX.out.2.1.below hwz
          have hB : w.heap.size ≤ y.heap.size := Nat.le_trans HR.out.bel.size hby.size
          obtain ⟨a2, n2, c2, W2, k1, k2, k3, k4⟩ := hz.push (by have := HX.out.2.2.2.2.1; have := HH.out.2.2.2.2; omega) (m := x) (a := a) (c := c) hB hr1 HT.out
          obtain ⟨p1, p2, p3⟩ := HX.out.2.2.2.2.2
          rw [p1, p2, p3] at k1
          exact ⟨a, c, e1, hcell hz.blk 0, (((Below.refl _ _).alloc (Nat.le_refl _) _).cell (p := ⟨r, 0, none⟩) hz.lt).trans (hcell hz.blk 0), a2, n2, c2, W2, k1, k2, k3, RLdI.next HR.out.ref HR.out.bel HX.out.2.1 HX.out.2.2.1 HX.out.1 HE.out (RBQ.back hwz k4.out.2)⟩
        clear HX HH HC HR HN e hC hF hR HBV HBW HBR HV
        go_upto_region 20 with fail
        have y0 : V2.cell? ⟨r, 0, none⟩ = some L := y0
        go_region_law (first | (go_simp; go_at_call 50; refine (hO.out _ (Below.drew (Below.refl _ _))).mono ?_; rintro _ w3 ⟨a3, c3, rfl, k0, k1, a4, n4, c4, W4, hap, g0, g1, HZ⟩; go_wp2_with fail) | (refine step_app_run rfl (.tmp 103) (.tmp 107) 97 rfl rfl rfl hap ?_))
        all_goals
          go_wp2_with fail
          go_roundw
          case rel => exact ⟨i + 1, hlt, by go_num, HZ⟩
          case measure => simp [intOf]; omega
    · have hlt1 : ¬ (i : Int) < n := by omega
      obtain rfl : i = n := by omega
      go_wp2_with fail
      go_ret3
      obtain ⟨L, ms, h1, hW⟩ := HR.out.ex
      rw [List.take_of_length_le (by rw [HN.out]; exact Nat.le_refl _)] at hW
      refine Or.inr ⟨r, L, ms, rfl, h1, HR.out.bel, hW, HH.out.2.2.1, HH.out.2.2.2.1, by rw [HN.out]; exact HH.out.2.2.2.2, fun j y hy => HR.out.ref j y ?_ hy⟩
      have := (List.getElem?_eq_some_iff.1 hy).1
      have := HN.out
      omega
end Go.Proofs.YtoijhecphgdfnaaGreatDoor
