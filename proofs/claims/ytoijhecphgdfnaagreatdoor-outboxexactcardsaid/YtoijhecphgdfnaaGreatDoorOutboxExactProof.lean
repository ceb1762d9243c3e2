import Derived.Test.YtoijhecphgdfnaaGreatDoorJsEx
import Derived.Test.YtoijhecphgdfnaaGreatDoorDkMem
import Derived.Test.YtoijhecphgdfnaaGreatDoorOrPl1
import Derived.Test.YtoijhecphgdfnaaGreatDoorOrBase
import Derived.Test.YtoijhecphgdfnaaGreatDoorDcPa
import Derived.Carry
/-
  OutboxExact, walked (the full form's bounds).
-/
namespace Go.Proofs.YtoijhecphgdfnaaGreatDoor
open Go.RowKit

section
set_option maxRecDepth 100000 in
set_option maxHeartbeats 16000000 in
theorem exactF_law (ao : Option Addr) (cap : Nat) (xs : List Msg) (sq : Bool) (tr : Int) (bo : Option Addr) (bc : Nat) (ys : List Opv) (W : World) (hV : PVc W) (ho : Outs W ao xs) (hp : ∀ x ∈ xs, Plain x) (hl : xs.length ≤ 1759218604390) (hw : ∀ x ∈ xs, x.tn ≤ 140737488351232) (hO : Ops 8 W bo ys) (hm : ys.length ≤ 140737488355328) (hq : ∀ y ∈ ys, y.tn ≤ 140737488351232) :
    Calls Tryz.prog 4 #[.agg #[.slice ao xs.length cap, .bool sq, .int .i64 tr], .slice bo ys.length bc] W fun e w' => e = .returned (.bool true) ∧ Below W.heap.size W w' := by
  have b0 : Below W.heap.size W (W.alloc (.cells #[.slice ao xs.length cap, .bool sq, .int .i64 tr] 24)) := (Below.refl _ _).alloc (Nat.le_refl _) _
  have x0 := Box.new W #[.slice ao xs.length cap, .bool sq, .int .i64 tr] 24
  obtain ⟨V, hVV⟩ : ∃ V, W.alloc (.cells #[.slice ao xs.length cap, .bool sq, .int .i64 tr] 24) = V := ⟨_, rfl⟩
  rw [hVV] at b0 x0
  have hmd := made_any ao cap xs sq tr V (hV.below b0) (ho.below b0) hp (by omega) (fun x hx => by have := hw x hx; omega)
  obtain ⟨N, hN⟩ : ∃ N, ys.length = N := ⟨_, rfl⟩
  obtain ⟨M, hM⟩ : ∃ M, xs.length = M := ⟨_, rfl⟩
  rw [hM] at hmd x0 hVV
  have HH : Hid (PVc W ∧ Ops 8 W bo ys ∧ N ≤ 140737488355328 ∧ (∀ y ∈ ys, y.tn ≤ 140737488351232) ∧ (∀ x ∈ xs, Plain x) ∧ ys.length = N ∧ Below W.heap.size W V) := ⟨hV, hO, by omega, hq, hp, hN, b0⟩
  have hNi : (N : Int) ≤ 140737488355328 := by omega
  have c0 : V.cell? ⟨W.heap.size, 0, none⟩ = some (.slice ao M cap) := x0.cell 0
  have c1 : V.cell? ⟨W.heap.size, 1, none⟩ = some (.bool sq) := x0.cell 1
  have c2 : V.cell? ⟨W.heap.size, 2, none⟩ = some (.int .i64 tr) := x0.cell 2
  rw [hN, hM]
  clear hV ho hp hl hw hO hm hq hN hM b0 x0
  go_enter Tryz.func4, Tryz.ntmps4
  go_upto_region 2 with (go_at_call 6; refine hmd.mono ?_; rintro _ w1 hmq; obtain ⟨pb, pr, rfl, H1⟩ := hmq.ptr; clear hmq)
  clear hmd hVV c0 c1 c2
  obtain ⟨K, hK, hM, hb1⟩ := H1.out
  have HK : Hid (V.heap.size ≤ K ∧ Below V.heap.size V w1) := ⟨hK, hb1⟩
  rcases hM.pr HH.out.2.2.2.2.1 with ⟨e1, e2⟩ | ⟨b, kb, v, ms, r, L, rs, e1, e2, hP⟩
  · obtain rfl : pb = none := by injection e1
    obtain rfl : pr = none := by injection e2
    clear e1 e2
    have xA := Box.new w1 #[.pointer none, .pointer none] 29
    have bA : Below w1.heap.size w1 (w1.alloc (.cells #[.pointer none, .pointer none] 29)) := (Below.refl _ _).alloc (Nat.le_refl _) _
    have HB : Hid (Below W.heap.size W (w1.alloc (.cells #[.pointer none, .pointer none] 29))) := below_then (below_then HH.out.2.2.2.2.2.2 hb1) bA
    have c0 : (w1.alloc (.cells #[.pointer none, .pointer none] 29)).cell? ⟨w1.heap.size, 0, none⟩ = some (.pointer none) := xA.cell 0
    clear hM hb1 H1 hK xA bA
    go_wp2_with fail
    go_ret
    exact ⟨rfl, HB.out⟩
  · obtain rfl : pb = some ⟨b, 0, none⟩ := by injection e1
    obtain rfl : pr = some ⟨r, 0, none⟩ := by injection e2
    clear e1 e2
    have xA := Box.new w1 #[.pointer (some ⟨b, 0, none⟩), .pointer (some ⟨r, 0, none⟩)] 29
    have bA : Below w1.heap.size w1 (w1.alloc (.cells #[.pointer (some ⟨b, 0, none⟩), .pointer (some ⟨r, 0, none⟩)] 29)) := (Below.refl _ _).alloc (Nat.le_refl _) _
    have hA : (w1.alloc (.cells #[.pointer (some ⟨b, 0, none⟩), .pointer (some ⟨r, 0, none⟩)] 29)).heap[w1.heap.size]? = some (.cells #[.pointer (some ⟨b, 0, none⟩), .pointer (some ⟨r, 0, none⟩)] 29 (0, 0)) := heap_alloc_new _ _
    obtain ⟨V1, hV1⟩ : ∃ V1, w1.alloc (.cells #[.pointer (some ⟨b, 0, none⟩), .pointer (some ⟨r, 0, none⟩)] 29) = V1 := ⟨_, rfl⟩
    have c0 : (w1.alloc (.cells #[.pointer (some ⟨b, 0, none⟩), .pointer (some ⟨r, 0, none⟩)] 29)).cell? ⟨w1.heap.size, 0, none⟩ = some (.pointer (some ⟨b, 0, none⟩)) := xA.cell 0
    obtain ⟨xb, hxb⟩ : ∃ xb, w1.heap.size = xb := ⟨_, rfl⟩
    rw [hV1] at xA bA hA c0 ⊢
    rw [hxb] at xA hA c0 ⊢
    have bW1 : Below W.heap.size W V1 := below_then (below_then HH.out.2.2.2.2.2.2 hb1) bA
    have hWK : W.heap.size ≤ K := Nat.le_trans HH.out.2.2.2.2.2.2.size hK
    have bH : Below V1.heap.size V1 (V1.alloc (.cells #[.slice none 0 0, .slice none 0 0, .slice none 0 0, .slice none 0 0, .slice none 0 0, .slice none 0 0, .slice none 0 0, .slice none 0 0, .slice none 0 0, .slice none 0 0] 41)) := (Below.refl _ _).alloc (Nat.le_refl _) _
    obtain ⟨σ0, hk, hk2⟩ := hs_new (w := V1) (n := 0) bW1.size
    obtain ⟨V2, hV2⟩ : ∃ V2, V1.alloc (.cells #[.slice none 0 0, .slice none 0 0, .slice none 0 0, .slice none 0 0, .slice none 0 0, .slice none 0 0, .slice none 0 0, .slice none 0 0, .slice none 0 0, .slice none 0 0] 41) = V2 := ⟨_, rfl⟩
    rw [hV2] at bH hk
    obtain ⟨hb, hhb⟩ : ∃ hb, V1.heap.size = hb := ⟨_, rfl⟩
    rw [hhb] at hk hk2
    have hPA := hP.below bA
    have HC : Hid (JaI W K b kb r hb xb sq tr (0) V2 ∧ W.heap.size ≤ K) := ⟨⟨⟨v, L, ms, rs, σ0, ⟨hPA.below bH, hk, fun q hf hq => by have := (hPA.pb.lt hf).2; have := hk2 q hq; omega⟩, fun e => by have := hk2 xb e; have := xA.lt; omega⟩, ⟨(bH.block _ (by have := xA.lt; omega)).trans hA, below_then bW1 bH⟩⟩, hWK⟩
    clear hP hM hb1 H1 hK HK bA xA hA bH hk hk2 bW1 hWK hV1 hPA
    go_upto_region 6 with fail
    try rw [hhb]
    try rw [hxb]
    clear hV2 c0 hhb hxb
    go_loopw [4, 8] (fun v t wx => v = .bool false ∧ ∃ i : Nat, i ≤ N ∧ t = .int .i64 i ∧ Hid (JaI W K b kb r hb xb sq tr (132 * (i % 6)) wx)) (fun _ t _ => N - (intOf t).toNat)
    case atStart => exact ⟨rfl, 0, Nat.zero_le _, rfl, HC.out.1⟩
    case round =>
      obtain ⟨rfl, i, hi, rfl, HI⟩ := hrel
      obtain ⟨x0, x1⟩ := HI.out.g.cells
      by_cases hlt : i < N
      · have hlt1 : (i : Int) < N := by omega
        obtain ⟨x, hx⟩ : ∃ x, ys[i]? = some x := ⟨_, List.getElem?_eq_getElem (by have := HH.out.2.2.2.2.2.1; omega)⟩
        obtain ⟨ob, oo, rfl, hatW⟩ := HH.out.2.1 i x hx
        have gop : ∀ {z : World}, JaG W b r xb z → OpAt z ob (oo + i * 8) x := fun {z} hz => hatW.below hz.bel
        obtain ⟨d0l, d0, d1, d2, d3, d4, d5, d6, d7, dp, dq⟩ := gop HI.out.g
        have hxl := HH.out.2.2.2.1 x (List.mem_of_getElem? hx)
        have hi1 : 132 * (i % 6) + 200 ≤ 1000000000 := by omega
        have HP : Hid (∀ z, Below wr.heap.size wr z → Calls Tryz.prog 7 #[.agg #[.pointer (some ⟨b, 0, none⟩), .pointer (some ⟨r, 0, none⟩)], .agg #[.int .i64 x.kd, .string x.ct, .slice x.tp x.tn x.tc, .bool x.e, .int .i64 x.a, .int .i64 x.p, .string x.cd, .int .i64 x.n], .pointer (some ⟨hb, 0, none⟩)] z fun e w' => e = .returned (.bool true) ∧ Hid (JaG W b r xb w') ∧ Hid (JaI W K b kb r hb xb sq tr (132 * (i % 6) + 66) w')) := fun z hz => ((HI.out.below hz).playsw HC.out.2 HH.out.1 hi1 x hatW.p hatW.q hxl).mono fun e w' ⟨e1, h1⟩ => ⟨e1, h1.out.g, h1⟩
        have HAl : Hid (∀ z, JaI W K b kb r hb xb sq tr (132 * (i % 6) + 66) z → Calls Tryz.prog 8 #[.agg #[.pointer (some ⟨b, 0, none⟩), .pointer (some ⟨r, 0, none⟩)], .pointer (some ⟨hb, 0, none⟩)] z fun e w' => e = .returned (.bool true) ∧ Hid (JaG W b r xb w') ∧ Hid (JaI W K b kb r hb xb sq tr (132 * (i % 6) + 132) w')) := fun z hz => (hz.all HC.out.2 (by omega)).mono fun e w' ⟨e1, h1⟩ => ⟨e1, h1.out.g, h1.out.more (by omega)⟩
        have HAo : Hid (∀ z, JaI W K b kb r hb xb sq tr (132 * (i % 6) + 132) z → Calls Tryz.prog 9 #[.pointer (some ⟨hb, 0, none⟩)] z fun e w' => e = .returned (.bool true) ∧ Hid (JaI W K b kb r hb xb sq tr 0 w')) := fun z hz => hz.alone0 (by omega)
        have HG : Hid (JaG W b r xb wr) := HI.out.g
        have gc : ∀ {z : World}, JaG W b r xb z → (z.cell? ⟨xb, 0, none⟩ = some (.pointer (some ⟨b, 0, none⟩)) ∧ z.cell? ⟨xb, 1, none⟩ = some (.pointer (some ⟨r, 0, none⟩)) ∧ z.cell? ⟨ob, oo + i * 8, none⟩ = some (.int .i64 x.kd) ∧ z.cell? ⟨ob, oo + i * 8 + 1, none⟩ = some (.string x.ct) ∧ z.cell? ⟨ob, oo + i * 8 + 2, none⟩ = some (.slice x.tp x.tn x.tc) ∧ z.cell? ⟨ob, oo + i * 8 + 3, none⟩ = some (.bool x.e) ∧ z.cell? ⟨ob, oo + i * 8 + 4, none⟩ = some (.int .i64 x.a) ∧ z.cell? ⟨ob, oo + i * 8 + 5, none⟩ = some (.int .i64 x.p) ∧ z.cell? ⟨ob, oo + i * 8 + 6, none⟩ = some (.string x.cd) ∧ z.cell? ⟨ob, oo + i * 8 + 7, none⟩ = some (.int .i64 x.n)) := fun {z} hz => by
          obtain ⟨y0, y1⟩ := hz.cells
          obtain ⟨_, g0, g1, g2, g3, g4, g5, g6, g7, _, _⟩ := gop hz
          exact ⟨y0, y1, g0, g1, g2, g3, g4, g5, g6, g7⟩
        clear HI dp dq gop hatW hxl hi1 d0l
        have hm6 : (i : Int).tmod 6 = (i : Int) % 6 := Int.tmod_eq_emod_of_nonneg (by omega)
        by_cases h6 : (i : Int) % 6 = 5
        all_goals
          go_upto_region 8 with fail
          go_region_held3 (fun z => (z.cell? ⟨xb, 0, none⟩ = some (.pointer (some ⟨b, 0, none⟩)) ∧ z.cell? ⟨xb, 1, none⟩ = some (.pointer (some ⟨r, 0, none⟩)) ∧ z.cell? ⟨ob, oo + i * 8, none⟩ = some (.int .i64 x.kd) ∧ z.cell? ⟨ob, oo + i * 8 + 1, none⟩ = some (.string x.ct) ∧ z.cell? ⟨ob, oo + i * 8 + 2, none⟩ = some (.slice x.tp x.tn x.tc) ∧ z.cell? ⟨ob, oo + i * 8 + 3, none⟩ = some (.bool x.e) ∧ z.cell? ⟨ob, oo + i * 8 + 4, none⟩ = some (.int .i64 x.a) ∧ z.cell? ⟨ob, oo + i * 8 + 5, none⟩ = some (.int .i64 x.p) ∧ z.cell? ⟨ob, oo + i * 8 + 6, none⟩ = some (.string x.cd) ∧ z.cell? ⟨ob, oo + i * 8 + 7, none⟩ = some (.int .i64 x.n))) ((refine gc ?_; (repeat' (first | (with_reducible exact Hid.out (by assumption)) | (with_reducible refine JaG.drew ?_))))) (first | (go_at_call 7; refine (HP.out _ (Below.drew (Below.refl _ _))).mono ?_; clear HP; rintro _ w6 ⟨rfl, HG6, HI6⟩) | (go_at_call 8; refine (HAl.out _ HI6.out).mono ?_; clear HAl; rintro _ w7 ⟨rfl, HG7, HI7⟩))
          all_goals
            go_wp2_with (go_at_call 9; refine (HAo.out _ HI7.out).mono ?_; rintro _ w8 ⟨rfl, HI8⟩)
            go_roundw
            case rel => exact ⟨rfl, i + 1, hlt, by go_num, by first | exact HI8.out.more (Nat.zero_le _) | exact HI7.out.more (by omega)⟩
            case measure => simp [intOf]; omega
      · have hlt1 : ¬ (i : Int) < N := by omega
        have HAo : Hid (∀ z, Below wr.heap.size wr z → Calls Tryz.prog 9 #[.pointer (some ⟨hb, 0, none⟩)] z fun e w' => e = .returned (.bool true) ∧ Hid (JaI W K b kb r hb xb sq tr 0 w')) := fun z hz => (HI.out.below hz).alone0 (by omega)
        have HAl : Hid (∀ z, JaI W K b kb r hb xb sq tr 0 z → Calls Tryz.prog 8 #[.agg #[.pointer (some ⟨b, 0, none⟩), .pointer (some ⟨r, 0, none⟩)], .pointer (some ⟨hb, 0, none⟩)] z fun e w' => e = .returned (.bool true) ∧ Hid (Below W.heap.size W w')) := fun z hz => (hz.all HC.out.2 (by omega)).mono fun e w' ⟨e1, h1⟩ => ⟨e1, h1.out.g.bel⟩
        clear HI x0 x1
        go_upto_region 12 with fail
        go_wp2_with (first | (go_at_call 9; refine (HAo.out _ (by first | exact Below.refl _ _ | exact below_drewN (Below.refl _ _) _)).mono ?_; clear HAo; rintro _ w6 ⟨rfl, HI6⟩; obtain ⟨x0, x1⟩ := HI6.out.g.cells) | (go_at_call 8; refine (HAl.out _ HI6.out).mono ?_; rintro _ w7 ⟨rfl, H7⟩))
        go_ret
        exact ⟨rfl, H7.out⟩
end
end Go.Proofs.YtoijhecphgdfnaaGreatDoor

/-
  Arguments opened: Picks.
-/
namespace Go.Proofs.YtoijhecphgdfnaaGreatDoor
open Go.ChangeShapes Go.WideShapes Go.ChangeAt Go.RowKit Go.Deep

section
variable {H : Type} {enc : TypeId × Value → H} {W : World} {base : Nat} {spare : Nat → Bool} {held : Bool}
end
end Go.Proofs.YtoijhecphgdfnaaGreatDoor

/-
  Arguments opened: lists of Outs, Made.
-/
namespace Go.Proofs.YtoijhecphgdfnaaGreatDoor
open Go.ChangeShapes Go.WideShapes Go.ChangeAt Go.RowKit Go.Deep

theorem cellsOut : Tryz.prog.cellsOf 58 = 7 := by kernel_rfl
theorem cellsOuts : Tryz.prog.cellsOf 22 = 1 := by kernel_rfl
theorem cellsMade : Tryz.prog.cellsOf 24 = 3 := by kernel_rfl
theorem bytesOut : Tryz.prog.bytesOf 58 = 80 := by kernel_rfl
theorem fiveL {α : Type} {l : List α} (h : l.length = 5) : ∃ c0 c1 c2 c3 c4, l = [c0, c1, c2, c3, c4] := by
  match l, h with
  | [c0, c1, c2, c3, c4], _ => exact ⟨c0, c1, c2, c3, c4, rfl⟩
theorem sevenL {α : Type} {l : List α} (h : l.length = 7) : ∃ c0 c1 c2 c3 c4 c5 c6, l = [c0, c1, c2, c3, c4, c5, c6] := by
  match l, h with
  | [c0, c1, c2, c3, c4, c5, c6], _ => exact ⟨c0, c1, c2, c3, c4, c5, c6, rfl⟩
section
variable {H : Type} {enc : TypeId × Value → H} {W : World} {base : Nat} {spare : Nat → Bool} {held : Bool}
end
end Go.Proofs.YtoijhecphgdfnaaGreatDoor

/-
  Arguments opened under the full form: a Made, with the bounds of its texts.
-/
namespace Go.Proofs.YtoijhecphgdfnaaGreatDoor
open Go.ChangeShapes Go.WideShapes Go.ChangeAt Go.RowKit Go.Deep

section
variable {H : Type} {enc : TypeId × Value → H} {W : World} {base : Nat} {spare : Nat → Bool} {held : Bool}
set_option maxRecDepth 100000 in
set_option maxHeartbeats 1000000 in
theorem open_outw {n : Nat} {cs : List Value} {x : DataW H × List MemPlace} {b o : Nat} (h : DataW.trod enc Tryz.prog W base spare held n 58 cs = some x) (hc : ∀ j v, cs[j]? = some v → W.cell? ⟨b, o + j, none⟩ = some v) :
    ∃ y : Msg, OutAt W b o y ∧ Plain y ∧ ((∀ n ∈ x.1.weights Tryz.prog 58, n ≤ reachBytes) → y.tn ≤ 140737488351232) := by
  obtain ⟨xs, m, _, hxe, hcl, hlen, hfl⟩ := DataW.trod_struct Tryz.underlying58 h
  obtain ⟨c0, c1, c2, c3, c4, c5, c6, rfl⟩ := sevenL (l := cs) (by rw [hcl, cellsOut])
  obtain ⟨x0, x1, x2, x3, x4, rfl⟩ := fiveL (l := xs) hlen
  have g0 : DataW.trod enc Tryz.prog W base spare held m 9 [c0] = some x0 := by simpa [cellsString] using hfl 0 _ rfl
  have g1 : DataW.trod enc Tryz.prog W base spare held m 43 [c1] = some x1 := by simpa [cellsBytes] using hfl 1 _ rfl
  have g2 : DataW.trod enc Tryz.prog W base spare held m 45 [c2, c3, c4] = some x2 := by simpa [cellsCond] using hfl 2 _ rfl
  have g3 : DataW.trod enc Tryz.prog W base spare held m 3 [c5] = some x3 := by simpa [cellsInt] using hfl 3 _ rfl
  have g4 : DataW.trod enc Tryz.prog W base spare held m 4 [c6] = some x4 := by simpa [cellsBool] using hfl 4 _ rfl
  obtain ⟨ct, rfl, _⟩ := one_string g0
  obtain ⟨po, pl, pc, bs, e2, hB, hpc, hw2⟩ := open_bytes g1
  obtain rfl := List.head_eq_of_cons_eq e2
  obtain ⟨ys, m3, _, _, _, hlen3, hfl3⟩ := DataW.trod_struct Tryz.underlying45 g2
  obtain ⟨y0, y1, y2, rfl⟩ := three (l := ys) hlen3
  have k0 : DataW.trod enc Tryz.prog W base spare held m3 4 [c2] = some y0 := by simpa [cellsBool] using hfl3 0 _ rfl
  have k1 : DataW.trod enc Tryz.prog W base spare held m3 3 [c3] = some y1 := by simpa [cellsInt] using hfl3 1 _ rfl
  have k2 : DataW.trod enc Tryz.prog W base spare held m3 3 [c4] = some y2 := by simpa [cellsInt] using hfl3 2 _ rfl
  obtain ⟨ee, rfl, _⟩ := one_bool k0
  obtain ⟨aa, rfl, _⟩ := one_int k1
  obtain ⟨pp, rfl, _⟩ := one_int k2
  obtain ⟨nu, rfl, _⟩ := one_int g3
  obtain ⟨nt, rfl, _⟩ := one_bool g4
  refine ⟨⟨ct, po, pl, pc, bs, ee, aa, pp, nu, nt, 0, 0, false⟩, ⟨cell_lt (hc 0 _ rfl), hc 0 _ rfl, hc 1 _ rfl, hc 2 _ rfl, hc 3 _ rfl, hc 4 _ rfl, hc 5 _ rfl, hc 6 _ rfl, hB, hpc⟩, ⟨rfl, rfl, rfl⟩, fun hw => ?_⟩
  rcases hw2 with h0 | ⟨el, sp, e4, hel⟩
  · show pl ≤ _
    omega
  · show pl ≤ _
    have hr : reachBytes = 140737488351232 := rfl
    have := hw ((el.length + sp.length) * Tryz.prog.bytesOf 5) (by
      rw [hxe]
      simp only [DataW.weights, Tryz.underlying58]
      refine DataW.weights_mem_each (j := 1) (t := 43) (d := x1.1) rfl rfl _ ?_
      rw [e4]
      simp [DataW.weights, Tryz.underlying43])
    rw [bytesU8] at this
    omega
set_option maxRecDepth 100000 in
set_option maxHeartbeats 1000000 in
theorem open_outsw {n : Nat} {cs : List Value} {x : DataW H × List MemPlace} (h : DataW.trod enc Tryz.prog W base spare held n 22 cs = some x) :
    ∃ ao cap xs, cs = [.slice ao xs.length cap] ∧ Outs W ao xs ∧ (∀ y ∈ xs, Plain y) ∧ (xs.length = 0 ∨ ∃ el sp, x.1 = .slice el sp ∧ el.length = xs.length) ∧ ∀ y ∈ xs, (∀ n ∈ x.1.weights Tryz.prog 22, n ≤ reachBytes) → y.tn ≤ 140737488351232 := by
  rcases open_slice Tryz.underlying22 h with ⟨rfl, _⟩ | ⟨a, len, cap, m, n', D, Pl, rfl, _, hl, hm, hmm, hxe, hx⟩
  · exact ⟨none, 0, [], rfl, fun k x hk => (by simp at hk), fun y hy => (by cases hy), Or.inl rfl, fun y hy => (by cases hy)⟩
  · have hlm : len ≤ m := by rw [hmm]; split <;> omega
    have key : ∀ k, k < len → ∃ y : Msg, (∃ b off, a = ⟨b, off, none⟩ ∧ OutAt W b (off + k * 7) y) ∧ Plain y ∧ ((∀ n ∈ (D k).weights Tryz.prog 58, n ≤ reachBytes) → y.tn ≤ 140737488351232) := by
      have hsp : 0 < len → a.spot = none := fun h0 => by
        obtain ⟨cs', h1, _⟩ := hx 0 (by omega)
        rw [Nat.zero_mul] at h1
        obtain ⟨b, o, e, _⟩ := cells_at h1 (by rw [cellsOut]; decide)
        have : a.add 0 = a := rfl
        rw [this] at e; rw [e]
      intro k hk
      obtain ⟨b, off, sp⟩ := a
      obtain rfl : sp = none := hsp (by omega)
      obtain ⟨cs', h1, h2⟩ := hx k (by omega)
      rw [cellsOut] at h1
      obtain ⟨b', o', e, hc⟩ := cells_at h1 (by decide)
      rw [Addr.add_lit] at e
      obtain ⟨rfl, rfl⟩ : b = b' ∧ off + k * 7 = o' := by simpa using e
      obtain ⟨y, hy, hp⟩ := open_outw h2 hc
      exact ⟨y, ⟨b, off, rfl, hy⟩, hp⟩
    haveI : Inhabited Msg := ⟨zM⟩
    obtain ⟨Y, hY⟩ := choose_lt (α := Msg) (p := fun k y => (∃ b off, a = ⟨b, off, none⟩ ∧ OutAt W b (off + k * 7) y) ∧ Plain y ∧ ((∀ n ∈ (D k).weights Tryz.prog 58, n ≤ reachBytes) → y.tn ≤ 140737488351232)) key
    refine ⟨some a, cap, (List.range len).map Y, by simp, fun k x hk => ?_, fun y hy => ?_, Or.inr ⟨_, _, by rw [hxe], by simp⟩, fun y hy => ?_⟩
    · simp only [List.getElem?_map, Option.map_eq_some_iff] at hk
      obtain ⟨i, hi, rfl⟩ := hk
      obtain ⟨hi1, hi2⟩ := List.getElem?_eq_some_iff.1 hi
      simp at hi1 hi2
      subst hi2
      obtain ⟨⟨b, off, e, ho⟩, _⟩ := hY k hi1
      exact ⟨b, off, by rw [e], ho⟩
    · obtain ⟨i, hi, rfl⟩ := List.mem_map.1 hy
      exact (hY i (List.mem_range.1 hi)).2.1
    · obtain ⟨i, hi, rfl⟩ := List.mem_map.1 hy
      have hy2 := (hY i (List.mem_range.1 hi)).2.2
      refine fun hw => hy2 fun n hn => hw n ?_
      rw [hxe]
      simp only [DataW.weights, Tryz.underlying22]
      exact List.mem_cons_of_mem _ (List.mem_append_left _ (weights_mem_all (List.mem_map_of_mem hi) n hn))
set_option maxRecDepth 100000 in
set_option maxHeartbeats 1000000 in
theorem open_madew {r : Reach} {b0 : Nat} {v : Value} {d : DataW H} {p : List MemPlace}
    (hv : Value.okWide Tryz.prog W r b0 24 v) (h : DataW.Trod enc Tryz.prog W base spare held 24 v d p) :
    ∃ ao cap xs sq tr, v = .agg #[.slice ao (List.length xs) cap, .bool sq, .int .i64 tr] ∧ Outs W ao xs ∧ (∀ y ∈ xs, Plain y) ∧ ((∀ n ∈ d.weights Tryz.prog 24, n ≤ reachBytes) → xs.length ≤ 1759218604390 ∧ ∀ y ∈ xs, y.tn ≤ 140737488351232) := by
  obtain ⟨cs, rfl, hsz⟩ := okWide_struct Tryz.underlying24 hv
  obtain ⟨l⟩ := cs
  obtain ⟨c0, c1, c2, rfl⟩ := three (l := l) (by simpa [cellsMade] using hsz)
  obtain ⟨fuel, hf⟩ := h
  obtain ⟨xs, n, _, hx, hl, hlen, hfl⟩ := DataW.trod_struct Tryz.underlying24 hf
  obtain ⟨x0, x1, x2, rfl⟩ := three (l := xs) hlen
  have g0 : DataW.trod enc Tryz.prog W base spare held n 22 [c0] = some x0 := by simpa [Value.cells, cellsOuts] using hfl 0 _ rfl
  have g1 : DataW.trod enc Tryz.prog W base spare held n 4 [c1] = some x1 := by simpa [Value.cells, cellsBool] using hfl 1 _ rfl
  have g2 : DataW.trod enc Tryz.prog W base spare held n 3 [c2] = some x2 := by simpa [Value.cells, cellsInt] using hfl 2 _ rfl
  obtain ⟨ao, cap, ys, e0, hO, hP, hW, hT⟩ := open_outsw g0
  obtain rfl := List.head_eq_of_cons_eq e0
  obtain ⟨k1, rfl, _⟩ := one_bool g1
  obtain ⟨k2, rfl, _⟩ := one_int g2
  refine ⟨ao, cap, ys, k1, k2, rfl, hO, hP, fun hw => ⟨?_, fun y hy => hT y hy fun n hn => hw n ?_⟩⟩
  rotate_left
  · have hd : d = .agg ([x0, x1, x2].map (·.1)) := congrArg Prod.fst hx
    rw [hd]
    simp only [DataW.weights, Tryz.underlying24]
    exact DataW.weights_mem_each (j := 0) (t := 22) (d := x0.1) rfl rfl _ hn
  rcases hW with h0 | ⟨el, sp, e4, hel⟩
  · omega
  · have hr : reachBytes = 140737488351232 := rfl
    have := hw ((el.length + sp.length) * Tryz.prog.bytesOf 58) (by
      have hd : d = .agg ([x0, x1, x2].map (·.1)) := congrArg Prod.fst hx
      rw [hd]
      simp only [DataW.weights, Tryz.underlying24]
      refine DataW.weights_mem_each (j := 0) (t := 22) (d := x0.1) rfl rfl _ ?_
      rw [e4]
      simp [DataW.weights, Tryz.underlying22])
    rw [bytesOut] at this
    omega
end
end Go.Proofs.YtoijhecphgdfnaaGreatDoor

/-
  Arguments opened under the full form: Ops, with the bounds of their texts; a Made.
-/
namespace Go.Proofs.YtoijhecphgdfnaaGreatDoor
open Go.ChangeShapes Go.WideShapes Go.ChangeAt Go.RowKit Go.Deep

section
variable {H : Type} {enc : TypeId × Value → H} {W : World} {base : Nat} {spare : Nat → Bool} {held : Bool}
set_option maxRecDepth 100000 in
set_option maxHeartbeats 1000000 in
theorem open_opw {n : Nat} {cs : List Value} {x : DataW H × List MemPlace} {b o : Nat} (h : DataW.trod enc Tryz.prog W base spare held n 47 cs = some x) (hc : ∀ j v, cs[j]? = some v → W.cell? ⟨b, o + j, none⟩ = some v) :
    ∃ y : Opv, OpAt W b o y ∧ ((∀ n ∈ x.1.weights Tryz.prog 47, n ≤ reachBytes) → y.tn ≤ 140737488351232) := by
  obtain ⟨xs, m, _, hxe, hcl, hlen, hfl⟩ := DataW.trod_struct Tryz.underlying47 h
  obtain ⟨c0, c1, c2, c3, c4, c5, c6, c7, rfl⟩ := eight (l := cs) (by rw [hcl, cellsOp])
  obtain ⟨x0, x1, x2, x3, x4, x5, rfl⟩ := six (l := xs) hlen
  have g0 : DataW.trod enc Tryz.prog W base spare held m 3 [c0] = some x0 := by simpa [cellsInt] using hfl 0 _ rfl
  have g1 : DataW.trod enc Tryz.prog W base spare held m 9 [c1] = some x1 := by simpa [cellsString] using hfl 1 _ rfl
  have g2 : DataW.trod enc Tryz.prog W base spare held m 43 [c2] = some x2 := by simpa [cellsBytes] using hfl 2 _ rfl
  have g3 : DataW.trod enc Tryz.prog W base spare held m 45 [c3, c4, c5] = some x3 := by simpa [cellsCond] using hfl 3 _ rfl
  have g4 : DataW.trod enc Tryz.prog W base spare held m 9 [c6] = some x4 := by simpa [cellsString] using hfl 4 _ rfl
  have g5 : DataW.trod enc Tryz.prog W base spare held m 3 [c7] = some x5 := by simpa [cellsInt] using hfl 5 _ rfl
  obtain ⟨kd, rfl, _⟩ := one_int g0
  obtain ⟨ct, rfl, _⟩ := one_string g1
  obtain ⟨po, pl, pc, bs, e2, hB, hpc, hw2⟩ := open_bytes g2
  obtain rfl := List.head_eq_of_cons_eq e2
  obtain ⟨ys, m3, _, _, _, hlen3, hfl3⟩ := DataW.trod_struct Tryz.underlying45 g3
  obtain ⟨y0, y1, y2, rfl⟩ := three (l := ys) hlen3
  have k0 : DataW.trod enc Tryz.prog W base spare held m3 4 [c3] = some y0 := by simpa [cellsBool] using hfl3 0 _ rfl
  have k1 : DataW.trod enc Tryz.prog W base spare held m3 3 [c4] = some y1 := by simpa [cellsInt] using hfl3 1 _ rfl
  have k2 : DataW.trod enc Tryz.prog W base spare held m3 3 [c5] = some y2 := by simpa [cellsInt] using hfl3 2 _ rfl
  obtain ⟨ee, rfl, _⟩ := one_bool k0
  obtain ⟨aa, rfl, _⟩ := one_int k1
  obtain ⟨pp, rfl, _⟩ := one_int k2
  obtain ⟨cd, rfl, _⟩ := one_string g4
  obtain ⟨nn, rfl, _⟩ := one_int g5
  refine ⟨⟨kd, ct, po, pl, pc, bs, ee, aa, pp, cd, nn⟩, ⟨cell_lt (hc 0 _ rfl), hc 0 _ rfl, hc 1 _ rfl, hc 2 _ rfl, hc 3 _ rfl, hc 4 _ rfl, hc 5 _ rfl, hc 6 _ rfl, hc 7 _ rfl, hB, hpc⟩, fun hw => ?_⟩
  rcases hw2 with h0 | ⟨el, sp, e4, hel⟩
  · show pl ≤ _
    omega
  · show pl ≤ _
    have hr : reachBytes = 140737488351232 := rfl
    have := hw ((el.length + sp.length) * Tryz.prog.bytesOf 5) (by
      rw [hxe]
      simp only [DataW.weights, Tryz.underlying47]
      refine DataW.weights_mem_each (j := 2) (t := 43) (d := x2.1) rfl rfl _ ?_
      rw [e4]
      simp [DataW.weights, Tryz.underlying43])
    rw [bytesU8] at this
    omega
set_option maxRecDepth 100000 in
set_option maxHeartbeats 1000000 in
theorem open_opsw {n : Nat} {cs : List Value} {x : DataW H × List MemPlace} (h : DataW.trod enc Tryz.prog W base spare held n 25 cs = some x) :
    ∃ ao cap xs, cs = [.slice ao xs.length cap] ∧ Ops 8 W ao xs ∧ (xs.length = 0 ∨ ∃ el sp, x.1 = .slice el sp ∧ el.length = xs.length) ∧ ∀ y ∈ xs, (∀ n ∈ x.1.weights Tryz.prog 25, n ≤ reachBytes) → y.tn ≤ 140737488351232 := by
  rcases open_slice Tryz.underlying25 h with ⟨rfl, _⟩ | ⟨a, len, cap, m, n', D, Pl, rfl, _, hl, hm, hmm, hxe, hx⟩
  · exact ⟨none, 0, [], rfl, fun k x hk => (by simp at hk), Or.inl rfl, fun y hy => (by cases hy)⟩
  · have hlm : len ≤ m := by rw [hmm]; split <;> omega
    have key : ∀ k, k < len → ∃ y : Opv, (∃ b off, a = ⟨b, off, none⟩ ∧ OpAt W b (off + k * 8) y) ∧ ((∀ n ∈ (D k).weights Tryz.prog 47, n ≤ reachBytes) → y.tn ≤ 140737488351232) := by
      have hsp : 0 < len → a.spot = none := fun h0 => by
        obtain ⟨cs', h1, _⟩ := hx 0 (by omega)
        rw [Nat.zero_mul] at h1
        obtain ⟨b, o, e, _⟩ := cells_at h1 (by rw [cellsOp]; decide)
        have : a.add 0 = a := rfl
        rw [this] at e; rw [e]
      intro k hk
      obtain ⟨b, off, sp⟩ := a
      obtain rfl : sp = none := hsp (by omega)
      obtain ⟨cs', h1, h2⟩ := hx k (by omega)
      rw [cellsOp] at h1
      obtain ⟨b', o', e, hc⟩ := cells_at h1 (by decide)
      rw [Addr.add_lit] at e
      obtain ⟨rfl, rfl⟩ : b = b' ∧ off + k * 8 = o' := by simpa using e
      obtain ⟨y, hy, hp⟩ := open_opw h2 hc
      exact ⟨y, ⟨b, off, rfl, hy⟩, hp⟩
    haveI : Inhabited Opv := ⟨⟨0, ⟨#[]⟩, none, 0, 0, [], false, 0, 0, ⟨#[]⟩, 0⟩⟩
    obtain ⟨Y, hY⟩ := choose_lt (α := Opv) (p := fun k y => (∃ b off, a = ⟨b, off, none⟩ ∧ OpAt W b (off + k * 8) y) ∧ ((∀ n ∈ (D k).weights Tryz.prog 47, n ≤ reachBytes) → y.tn ≤ 140737488351232)) key
    refine ⟨some a, cap, (List.range len).map Y, by simp, fun k x hk => ?_, Or.inr ⟨_, _, by rw [hxe], by simp⟩, fun y hy => ?_⟩
    · simp only [List.getElem?_map, Option.map_eq_some_iff] at hk
      obtain ⟨i, hi, rfl⟩ := hk
      obtain ⟨hi1, hi2⟩ := List.getElem?_eq_some_iff.1 hi
      simp at hi1 hi2
      subst hi2
      obtain ⟨⟨b, off, e, ho⟩, _⟩ := hY k hi1
      exact ⟨b, off, by rw [e], ho⟩
    · obtain ⟨i, hi, rfl⟩ := List.mem_map.1 hy
      have hy2 := (hY i (List.mem_range.1 hi)).2
      refine fun hw => hy2 fun n hn => hw n ?_
      rw [hxe]
      simp only [DataW.weights, Tryz.underlying25]
      exact List.mem_cons_of_mem _ (List.mem_append_left _ (weights_mem_all (List.mem_map_of_mem hi) n hn))
end
end Go.Proofs.YtoijhecphgdfnaaGreatDoor

/-
  OutboxExact: the row out of its walk.
-/
namespace Go.Proofs.YtoijhecphgdfnaaGreatDoor.outboxExact
open Go.ChangeShapes Go.WideShapes Go.ChangeAt Go.RowKit

theorem laidOut : laidOutB Tryz.prog = true := by kernel_rfl
theorem given {W : World} (h : laidMetH Tryz.prog Rows.outboxExactRow.laid W) : PVc W := codes_of (show laidMet Tryz.prog [("courier/decide.codes", Rows.laid_courier_decide_codes)] W from h)
theorem trod_block {H : Type} {enc : TypeId × Value → H} {P : Program} {W : World} {base : Nat} {spare : Nat → Bool} {held : Bool} {t : TypeId} {v : Value} {d : DataW H} {ps : List MemPlace} (h : DataW.Trod enc P W base spare held t v d ps) : ∀ x ∈ ps, x.block < W.heap.size := by
  obtain ⟨fuel, hf⟩ := h
  exact fun x hx => DataW.trod_lt _ _ _ _ hf x hx
set_option maxRecDepth 100000 in
theorem contract (H : Type) (enc : TypeId × Value → H) (W : World) (base : Nat) (args : Array Value) (ds gs : List (DataW H)) (before : List MemPlace)
    (hval : ∀ (j : Nat) t v, Tryz.f4.params[j]? = some t → args[j]? = some v → Value.okWide Tryz.prog W .any base t v)
    (hW : DataW.Whole enc Tryz.prog Tryz.f4.params.toList Rows.outboxExactSpec.vars false W args.toList ds gs before)
    (hWt : (DataW.weightsEach Tryz.prog (Tryz.f4.params.toList ++ (OpenSpec.ofChange Rows.outboxExactSpec).bare.plain.varTypes Tryz.prog) (ds ++ gs)).all (· ≤ reachBytes) = true) (hL : laidMetH Tryz.prog Rows.outboxExactRow.laid W) :
    Calls Tryz.prog 4 args W fun e W' => ∃ v, e = .returned v ∧ Rows.outboxExactSpec.post enc Tryz.prog Tryz.f4 false true false false W args v W' := by
  have hW' := hW
  obtain ⟨p, q, hA0, hV, rfl, hfz, hnd⟩ := hW
  have hA : DataW.TrodAll enc Tryz.prog W 0 (fun _ => true) true Tryz.f4.params.toList args.toList ds p := hA0
  rw [Tryz.params4] at hA hval hWt
  obtain ⟨v0, vs0, d0, ds0, p0, q0, hargs, rfl, rfl, h0, r0⟩ := trodAll_cons hA
  obtain ⟨v1, vs1, d1, ds1, p1, q1, rfl, rfl, rfl, h1, r1⟩ := trodAll_cons r0
  obtain ⟨rfl, rfl, rfl⟩ := trodAll_nil r1
  obtain rfl : args = #[v0, v1] := by cases args; simp_all
  obtain ⟨rfl, rfl⟩ := trodVars_none hV
  have ht0 := h0
  obtain ⟨ao0, cap0, xs0, sq0, tr0, rfl, hO0, hP0, hL0⟩ := open_madew (hval 0 24 v0 rfl rfl) h0
  have hL0 := hL0 fun n hn => by
    have hm : n ∈ DataW.weightsEach Tryz.prog ([24, 25] ++ (OpenSpec.ofChange Rows.outboxExactSpec).bare.plain.varTypes Tryz.prog) ([d0, d1] ++ []) := DataW.weights_mem_each (j := 0) (t := 24) (d := d0) rfl rfl _ hn
    simpa using List.all_eq_true.1 hWt n hm
  have hy0 := hL0.1
  have hq0 := hL0.2
  have ht1 := h1
  obtain ⟨a1, l1, c1, rfl⟩ := okWide_slice Tryz.underlying25 (hval 1 25 v1 rfl rfl)
  obtain ⟨fu1, hf1⟩ := h1
  obtain ⟨ao1, cap1, xs1, e1, hO1, hz1, hp1⟩ := open_opsw hf1
  obtain ⟨rfl, rfl, rfl⟩ : a1 = ao1 ∧ l1 = xs1.length ∧ c1 = cap1 := by simpa [Value.cells] using e1
  have hy1 : xs1.length ≤ 140737488355328 := by
    rcases hz1 with h | ⟨el, sp, e, h⟩
    · omega
    · have := sized_slice hWt (j := 1) rfl (congrArg some e) Tryz.underlying25
      have hr : reachBytes = 140737488351232 := rfl
      rw [show Tryz.prog.bytesOf 47 = 96 by kernel_rfl] at this
      omega
  have hq1 : ∀ y ∈ xs1, y.tn ≤ 140737488351232 := fun y hy => hp1 y hy fun n hn => by
    have hm : n ∈ DataW.weightsEach Tryz.prog ([24, 25] ++ (OpenSpec.ofChange Rows.outboxExactSpec).bare.plain.varTypes Tryz.prog) ([d0, d1] ++ []) := DataW.weights_mem_each (j := 1) (t := 25) (d := d1) rfl rfl _ hn
    simpa using List.all_eq_true.1 hWt n hm
  clear hA0
  refine (exactF_law ao0 cap0 xs0 sq0 tr0 a1 c1 xs1 W (given hL) hO0 hP0 hy0 hq0 hO1 hy1 hq1).mono fun e W' ⟨he, hg⟩ => ?_
  subst he
  have e1 : Rows.outboxExactSpec.fn H ([d0, d1] ++ []) = { results := [.lit (.bool true)], args := [d0, d1] } := by simp [Rows.outboxExactSpec]
  refine ⟨_, rfl, _, _, _, [], (p0 ++ (p1 ++ [])), [], hW', ?_, ?_, ?_, hg.frame _, fun h => by cases h⟩
  · rw [e1]; exact trodAll_cons_mk (shut_bool Tryz.underlying4 true) trodAll_mk0
  · rw [e1]; exact trodAll_cons_mk (Below.trod laidOut (show Tryz.prog.readableRec 24 = true by kernel_rfl) (show 24 < Tryz.prog.types.size by rw [typesSize]; decide) ht0 hg (trod_block ht0)) (trodAll_cons_mk (Below.trod laidOut (show Tryz.prog.readableRec 25 = true by kernel_rfl) (show 25 < Tryz.prog.types.size by rw [typesSize]; decide) ht1 hg (trod_block ht1)) (trodAll_mk0))
  · rw [e1]; rfl
theorem reads (os : Os) {H : Type} (enc : TypeId × Value → H) : ∃ places, DataW.whole enc Tryz.prog ((World.doorLaid Tryz.prog 400 os).forCall (fun _ _ => 0) ⟨#[], #[.agg #[.slice none 0 0, .bool false, .int .i64 0], .slice none 0 0], []⟩).memory Tryz.f4.params.toList Rows.outboxExactSpec.vars false #[Value.agg #[.slice none 0 0, .bool false, .int .i64 0], Value.slice none 0 0].toList 8 = some ([.agg [.nil, .lit (.bool false), .lit (.int .i64 0)], .nil], [], places) :=
  ⟨[], by kernel_rfl⟩
theorem door_met (os : Os) : laidMetH Tryz.prog Rows.outboxExactRow.laid ((World.doorLaid Tryz.prog 400 os).forCall (fun _ _ => 0) ⟨#[], #[.agg #[.slice none 0 0, .bool false, .int .i64 0], .slice none 0 0], []⟩).memory :=
  laidMetH_of_parts3 (fuel := 8) (laidMet_of_run' 8 (by kernel_rfl) (by kernel_rfl)) (by kernel_rfl) (by kernel_rfl)
set_option maxRecDepth 100000 in
theorem lifted (os : Os) (started : os.Started) (H : Type) (enc : TypeId × Value → H) (F : Stop.Interp) :
    ReturnsInHanded {} Tryz.checked os 4 .any ((OpenSpec.ofChange Rows.outboxExactSpec).preRow enc Tryz.prog Tryz.f4 Rows.outboxExactRow.domain false Rows.outboxExactRow.laid) (((OpenSpec.ofChange Rows.outboxExactSpec).at F).post enc Tryz.prog Tryz.f4 false true false false) := by
  obtain ⟨places, hx⟩ := reads os enc
  refine returnsInHanded_of_row (C := Tryz.checked) (s := OpenSpec.ofChange Rows.outboxExactSpec) own started (by kernel_rfl) Tryz.func4
    (witness_row_at (enc := enc) (C := Tryz.checked) false (World.doorLaid Tryz.prog 400 os) #[.agg #[.slice none 0 0, .bool false, .int .i64 0], .slice none 0 0] rfl (by kernel_rfl) (by kernel_rfl) (by kernel_rfl)
      (OpenSpec.preRow_of_cond 8 hx (by kernel_rfl) (fun k hk => by cases hk) (by kernel_rfl) (door_met os))) ?_
  intro W base args ds gs before hval hW _ _ hWt hL _ _
  exact contract H enc W base args ds gs before hval hW hWt hL
theorem said : Rows.OutboxExactSaid :=
  OpenClaim.holds_of_cond 4 Tryz.f4 rfl rfl rfl rfl rfl rfl rfl ⟨rfl, rfl, rfl, rfl, rfl⟩ rfl rfl rfl rfl rfl (by kernel_rfl) Tryz.func4 (by kernel_rfl)
    (of_decide_eq_true (by kernel_rfl)) (by unfold Func.isWrapper; first | (rw [if_pos (by decide +kernel)]; kernel_rfl) | (rw [if_neg (by decide +kernel)]; exact ⟨rfl, rfl⟩))
    (fun os started H enc _ F => by rw [OpenClaim.pre_eq_preRow]; exact lifted os started H enc F)
theorem plain (f : FuncId) (fn : Func) (hf : Tryz.pinned.checked.prog.funcNamed "courier/courierlaw14.OutboxExact" = some f) (hfn : Tryz.pinned.checked.prog.funcs[f]? = some fn) :
    true = Tryz.pinned.checked.prog.looks [] ∧ ∀ (j : Nat) t, fn.params[j]? = some t → Tryz.pinned.checked.prog.wantsStandIn t = false := by
  obtain rfl : f = 4 := Option.some.inj ((show Tryz.prog.funcNamed "courier/courierlaw14.OutboxExact" = some 4 by kernel_rfl).symm.trans hf) |>.symm
  obtain rfl : fn = Tryz.f4 := (Option.some.inj (Tryz.func4.symm.trans hfn)).symm
  refine ⟨by kernel_rfl, fun j t ht => ?_⟩
  rw [Tryz.params4] at ht
  have hm : t ∈ [24, 25] := by simpa using Array.mem_of_getElem? ht
  have hall : ([24, 25].all fun u => !Tryz.prog.wantsStandIn u) = true := by kernel_rfl
  exact (show Tryz.prog.wantsStandIn t = false by simpa using List.all_eq_true.1 hall t hm)

theorem card : Rows.OutboxExactCardSaid :=
  Claim7.holds_tied_plain_at .later [] _ _ _ _ said (fun _ h => by cases h) (by kernel_rfl) (fun _ h => by cases h) outboxExact_row_tie rfl ⟨rfl, rfl⟩ (by kernel_rfl) rfl plain (by kernel_rfl)
end Go.Proofs.YtoijhecphgdfnaaGreatDoor.outboxExact

namespace Go.Proofs.YtoijhecphgdfnaaGreatDoor
theorem outboxExact_of : Rows.OutboxExactCardSaid := outboxExact.card
end Go.Proofs.YtoijhecphgdfnaaGreatDoor
