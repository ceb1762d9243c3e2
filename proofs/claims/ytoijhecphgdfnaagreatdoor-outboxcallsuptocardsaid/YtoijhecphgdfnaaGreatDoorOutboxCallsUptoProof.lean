import Derived.Test.YtoijhecphgdfnaaGreatDoorOrPlA
import Derived.Test.YtoijhecphgdfnaaGreatDoorOxOpenU
import Derived.Test.YtoijhecphgdfnaaGreatDoorDcPa
import Derived.Carry
/-
  OutboxCalls, walked.
-/
namespace Go.Proofs.YtoijhecphgdfnaaGreatDoor
open Go.RowKit

/-- Held, new. -/
theorem hw_new {w : World} {B n : Nat} (hB : B ≤ w.heap.size) : HW (w.alloc (.cells #[.slice none 0 0, .slice none 0 0, .slice none 0 0, .slice none 0 0, .slice none 0 0, .slice none 0 0, .slice none 0 0, .slice none 0 0, .slice none 0 0, .slice none 0 0] 41)) B w.heap.size n (fun _ => .slice none 0 0) :=
  ⟨heap_alloc_new _ _, fun q _ => ⟨[], Nat.zero_le _, ERow.nil _ _ _ _ _⟩, fun i j g _ _ _ h => (by cases h), hB⟩
/-- What made answers are pointers. -/
theorem MadeQ.ptr {W : World} {sq : Bool} {tr : Int} {xs : List Msg} {e : Ending} {w' : World} (h : MadeQ W sq tr xs e w') : ∃ pb pr, e = .returned (.tuple #[.agg #[.pointer pb, .pointer pr], .bool true]) ∧ Hid (∃ K, W.heap.size ≤ K ∧ MRes K sq tr xs (.pointer pb) (.pointer pr) w' ∧ Below W.heap.size W w') := by
  obtain ⟨bv, rv, e1, h1⟩ := h
  obtain ⟨K, hK, hM, hb⟩ := h1.out
  have key : ∃ pb pr, bv = .pointer pb ∧ rv = .pointer pr := by
    rcases hM with ⟨h2, h3⟩ | ⟨b, kb, v, ms, r, L, rs, h2, h3, _⟩
    · exact ⟨_, _, h2, h3⟩
    · exact ⟨_, _, h2, h3⟩
  obtain ⟨pb, pr, rfl, rfl⟩ := key
  exact ⟨pb, pr, e1, K, hK, hM, hb⟩
section
set_option maxRecDepth 100000 in
set_option maxHeartbeats 16000000 in
theorem calls_law (ao : Option Addr) (cap : Nat) (xs : List Msg) (sq : Bool) (tr : Int) (bo : Option Addr) (bc : Nat) (ys : List Opv) (W : World) (hV : PVc W) (ho : Outs W ao xs) (hp : ∀ x ∈ xs, Plain x) (hl : xs.length ≤ 1048576) (hw : ∀ x ∈ xs, x.tn ≤ 1048576) (hO : Ops 8 W bo ys) (hm : ys.length ≤ 1048576) (hq : ∀ y ∈ ys, y.tn ≤ 1048576) :
    Calls Tryz.prog 3 #[.agg #[.slice ao xs.length cap, .bool sq, .int .i64 tr], .slice bo ys.length bc] W fun e w' => e = .returned (.bool true) ∧ Below W.heap.size W w' := by
  have b0 : Below W.heap.size W (W.alloc (.cells #[.slice ao xs.length cap, .bool sq, .int .i64 tr] 24)) := (Below.refl _ _).alloc (Nat.le_refl _) _
  have x0 := Box.new W #[.slice ao xs.length cap, .bool sq, .int .i64 tr] 24
  obtain ⟨V, hVV⟩ : ∃ V, W.alloc (.cells #[.slice ao xs.length cap, .bool sq, .int .i64 tr] 24) = V := ⟨_, rfl⟩
  rw [hVV] at b0 x0
  have hmd := made_any ao cap xs sq tr V (hV.below b0) (ho.below b0) hp (by omega) (fun x hx => by have := hw x hx; omega)
  obtain ⟨N, hN⟩ : ∃ N, ys.length = N := ⟨_, rfl⟩
  obtain ⟨M, hM⟩ : ∃ M, xs.length = M := ⟨_, rfl⟩
  rw [hM] at hmd x0 hVV
  have HH : Hid (PVc W ∧ Ops 8 W bo ys ∧ N ≤ 1048576 ∧ (∀ y ∈ ys, y.tn ≤ 1048576) ∧ (∀ x ∈ xs, Plain x) ∧ ys.length = N ∧ Below W.heap.size W V) := ⟨hV, hO, by omega, hq, hp, hN, b0⟩
  have hNi : (N : Int) ≤ 1048576 := by omega
  have c0 : V.cell? ⟨W.heap.size, 0, none⟩ = some (.slice ao M cap) := x0.cell 0
  have c1 : V.cell? ⟨W.heap.size, 1, none⟩ = some (.bool sq) := x0.cell 1
  have c2 : V.cell? ⟨W.heap.size, 2, none⟩ = some (.int .i64 tr) := x0.cell 2
  rw [hN, hM]
  clear hV ho hp hl hw hO hm hq hN hM b0 x0
  go_enter Tryz.func3, Tryz.ntmps3
  go_upto_region 2 with (go_at_call 6; refine hmd.mono ?_; rintro _ w1 hmq; obtain ⟨pb, pr, rfl, H1⟩ := hmq.ptr; clear hmq)
  clear hmd hVV c0 c1 c2
  obtain ⟨K, hK, hM, hb1⟩ := H1.out
  have HK : Hid (V.heap.size ≤ K ∧ Below V.heap.size V w1) := ⟨hK, hb1⟩
  rcases hM.pr HH.out.2.2.2.2.1 with ⟨e1, e2⟩ | ⟨b, kb, v, ms, r, L, rs, e1, e2, hP⟩
  · obtain rfl : pb = none := by injection e1
    obtain rfl : pr = none := by injection e2
    clear e1 e2
    have xA := Box.new w1 #[.pointer none, .pointer none] 29
    have bA : Below w1.heap.size w1 (w1.alloc (.cells #[.pointer none, .pointer none] 29)) := (Below.refl _ _).alloc (Nat.le_refl _) _
    have HB : Hid (Below W.heap.size W (w1.alloc (.cells #[.pointer none, .pointer none] 29))) := below_then (below_then HH.out.2.2.2.2.2.2 hb1) bA
    have c0 : (w1.alloc (.cells #[.pointer none, .pointer none] 29)).cell? ⟨w1.heap.size, 0, none⟩ = some (.pointer none) := xA.cell 0
    clear hM hb1 H1 hK xA bA
    go_wp2_with fail
    go_ret
    exact ⟨rfl, HB.out⟩
  · obtain rfl : pb = some ⟨b, 0, none⟩ := by injection e1
    obtain rfl : pr = some ⟨r, 0, none⟩ := by injection e2
    clear e1 e2
    have xA := Box.new w1 #[.pointer (some ⟨b, 0, none⟩), .pointer (some ⟨r, 0, none⟩)] 29
    have bA : Below w1.heap.size w1 (w1.alloc (.cells #[.pointer (some ⟨b, 0, none⟩), .pointer (some ⟨r, 0, none⟩)] 29)) := (Below.refl _ _).alloc (Nat.le_refl _) _
    have hA : (w1.alloc (.cells #[.pointer (some ⟨b, 0, none⟩), .pointer (some ⟨r, 0, none⟩)] 29)).heap[w1.heap.size]? = some (.cells #[.pointer (some ⟨b, 0, none⟩), .pointer (some ⟨r, 0, none⟩)] 29 (0, 0)) := heap_alloc_new _ _
    obtain ⟨V1, hV1⟩ : ∃ V1, w1.alloc (.cells #[.pointer (some ⟨b, 0, none⟩), .pointer (some ⟨r, 0, none⟩)] 29) = V1 := ⟨_, rfl⟩
    have c0 : (w1.alloc (.cells #[.pointer (some ⟨b, 0, none⟩), .pointer (some ⟨r, 0, none⟩)] 29)).cell? ⟨w1.heap.size, 0, none⟩ = some (.pointer (some ⟨b, 0, none⟩)) := xA.cell 0
    obtain ⟨xb, hxb⟩ : ∃ xb, w1.heap.size = xb := ⟨_, rfl⟩
    rw [hV1] at xA bA hA c0 ⊢
    rw [hxb] at xA hA c0 ⊢
    have bW1 : Below W.heap.size W V1 := below_then (below_then HH.out.2.2.2.2.2.2 hb1) bA
    have hWK : W.heap.size ≤ K := Nat.le_trans HH.out.2.2.2.2.2.2.size hK
    have bH : Below V1.heap.size V1 (V1.alloc (.cells #[.slice none 0 0, .slice none 0 0, .slice none 0 0, .slice none 0 0, .slice none 0 0, .slice none 0 0, .slice none 0 0, .slice none 0 0, .slice none 0 0, .slice none 0 0] 41)) := (Below.refl _ _).alloc (Nat.le_refl _) _
    have hk := hw_new (w := V1) (n := 200 * 0) bW1.size
    obtain ⟨V2, hV2⟩ : ∃ V2, V1.alloc (.cells #[.slice none 0 0, .slice none 0 0, .slice none 0 0, .slice none 0 0, .slice none 0 0, .slice none 0 0, .slice none 0 0, .slice none 0 0, .slice none 0 0, .slice none 0 0] 41) = V2 := ⟨_, rfl⟩
    rw [hV2] at bH hk
    obtain ⟨hb, hhb⟩ : ∃ hb, V1.heap.size = hb := ⟨_, rfl⟩
    rw [hhb] at hk
    have HC : Hid (CaI W K b kb r hb xb sq tr 0 V2 ∧ W.heap.size ≤ K) := ⟨⟨⟨v, L, ms, rs, _, (hP.below bA).below bH, hk⟩, (bH.block _ (by have := xA.lt; omega)).trans hA, below_then bW1 bH⟩, hWK⟩
    clear hP hM hb1 H1 hK HK bA xA hA bH hk bW1 hWK hV1
    go_upto_region 6 with fail
    try rw [hhb]
    try rw [hxb]
    clear hV2 c0 hhb hxb
    go_loopw [4, 8] (fun v t wx => v = .bool false ∧ ∃ i : Nat, i ≤ N ∧ t = .int .i64 i ∧ Hid (CaI W K b kb r hb xb sq tr i wx)) (fun _ t _ => N - (intOf t).toNat)
    case atStart => exact ⟨rfl, 0, Nat.zero_le _, rfl, HC.out.1⟩
    case round =>
      obtain ⟨rfl, i, hi, rfl, HI⟩ := hrel
      obtain ⟨v2, L2, ms2, rs2, f2, hP2, hw2⟩ := HI.out.st
      have hbx := HI.out.bx
      have x0 : wr.cell? ⟨xb, 0, none⟩ = some (.pointer (some ⟨b, 0, none⟩)) := by simp [World.cell?, hbx]
      have x1 : wr.cell? ⟨xb, 1, none⟩ = some (.pointer (some ⟨r, 0, none⟩)) := by simp [World.cell?, hbx]
      by_cases hlt : i < N
      · have hlt1 : (i : Int) < N := by omega
        obtain ⟨x, hx⟩ : ∃ x, ys[i]? = some x := ⟨_, List.getElem?_eq_getElem (by have := HH.out.2.2.2.2.2.1; omega)⟩
        have hatW := HH.out.2.1 i x hx
        obtain ⟨ob, oo, rfl, hat⟩ := (HH.out.2.1.below HI.out.bel) i x hx
        obtain ⟨d0l, d0, d1, d2, d3, d4, d5, d6, d7, dp, dq⟩ := hat
        have HJ : Hid (∀ z, Below wr.heap.size wr z → Calls Tryz.prog 7 #[.agg #[.pointer (some ⟨b, 0, none⟩), .pointer (some ⟨r, 0, none⟩)], .agg #[.int .i64 x.kd, .string x.ct, .slice x.tp x.tn x.tc, .bool x.e, .int .i64 x.a, .int .i64 x.p, .string x.cd, .int .i64 x.n], .pointer (some ⟨hb, 0, none⟩)] z fun e w' => e = .returned (.bool true) ∧ Hid (CaI W K b kb r hb xb sq tr (i + 1) w')) := fun z hz => (plays_any (hP2.below hz) (HH.out.1.below (below_then HI.out.bel hz)) (hw2.below hz) (by have := HH.out.2.2.1; omega) x (dp.below hz) dq (by have := HH.out.2.2.2.1 x (List.mem_of_getElem? hx); omega) (fun h0 c o e => by
            obtain ⟨ob', oo', e', hat'⟩ := hatW
            obtain ⟨c', o', e2, hl, _⟩ := hat'.p.cell 0 h0
            rw [e] at e2
            injection e2 with e2
            injection e2 with e2
            have := HC.out.2
            omega)).mono fun e w' ⟨e1, h1⟩ => ⟨e1, h1.out.ca (HI.out.below hz) HC.out.2 (hP2.below hz) (hw2.below hz)⟩
        clear HI hP2 hw2 hbx dp dq hatW
        go_upto_region 8 with fail
        go_region_law (go_simp; go_at_call 7; refine (HJ.out _ (Below.drew (Below.refl _ _))).mono ?_; rintro _ w6 ⟨rfl, H6⟩; go_wp2_with fail)
        all_goals
          go_wp2_with fail
          go_roundw
          case rel => exact ⟨rfl, i + 1, hlt, by go_num, H6⟩
          case measure => simp [intOf]; omega
      · have hlt1 : ¬ (i : Int) < N := by omega
        obtain rfl : i = N := by omega
        have HJ : Hid (∀ z, Below wr.heap.size wr z → Calls Tryz.prog 8 #[.agg #[.pointer (some ⟨b, 0, none⟩), .pointer (some ⟨r, 0, none⟩)], .pointer (some ⟨hb, 0, none⟩)] z fun e w' => e = .returned (.bool true) ∧ Hid (Below W.heap.size W w')) := fun z hz => (all_any (hP2.below hz) (hw2.below hz) (by have := HH.out.2.2.1; omega)).mono fun e w' ⟨e1, h1⟩ => ⟨e1, (h1.out.ca (HI.out.below hz) HC.out.2 (hP2.below hz) (hw2.below hz)).bel⟩
        clear HI hP2 hw2 hbx
        go_wp2_with (go_at_call 8; refine (HJ.out _ (by first | exact Below.refl _ _ | exact below_drewN (Below.refl _ _) _)).mono ?_; rintro _ w6 ⟨rfl, H6⟩)
        go_ret
        exact ⟨rfl, H6.out⟩
end
end Go.Proofs.YtoijhecphgdfnaaGreatDoor

/-
  OutboxCalls: the row out of its walk.
-/
namespace Go.Proofs.YtoijhecphgdfnaaGreatDoor.outboxCallsUpto
open Go.ChangeShapes Go.WideShapes Go.ChangeAt Go.RowKit

theorem laidOut : laidOutB Tryz.prog = true := by kernel_rfl
theorem given {W : World} (h : laidMetH Tryz.prog Rows.outboxCallsUptoRow.laid W) : PVc W := codes_of (show laidMet Tryz.prog [("courier/decide.codes", Rows.laid_courier_decide_codes)] W from h)
theorem trod_block {H : Type} {enc : TypeId × Value → H} {P : Program} {W : World} {base : Nat} {spare : Nat → Bool} {held : Bool} {t : TypeId} {v : Value} {d : DataW H} {ps : List MemPlace} (h : DataW.Trod enc P W base spare held t v d ps) : ∀ x ∈ ps, x.block < W.heap.size := by
  obtain ⟨fuel, hf⟩ := h
  exact fun x hx => DataW.trod_lt _ _ _ _ hf x hx
set_option maxRecDepth 100000 in
theorem contract (H : Type) (enc : TypeId × Value → H) (W : World) (base : Nat) (args : Array Value) (ds gs : List (DataW H)) (before : List MemPlace)
    (hval : ∀ (j : Nat) t v, Tryz.f3.params[j]? = some t → args[j]? = some v → Value.okWide Tryz.prog W .any base t v)
    (hW : DataW.Whole enc Tryz.prog Tryz.f3.params.toList Rows.outboxCallsSpec.vars false W args.toList ds gs before)
    (hK : Rows.uptoSmall H (ds ++ gs) = true) (hL : laidMetH Tryz.prog Rows.outboxCallsUptoRow.laid W) :
    Calls Tryz.prog 3 args W fun e W' => ∃ v, e = .returned v ∧ Rows.outboxCallsSpec.post enc Tryz.prog Tryz.f3 false true false false W args v W' := by
  have hW' := hW
  obtain ⟨p, q, hA0, hV, rfl, hfz, hnd⟩ := hW
  have hA : DataW.TrodAll enc Tryz.prog W 0 (fun _ => true) true Tryz.f3.params.toList args.toList ds p := hA0
  rw [Tryz.params3] at hA hval
  obtain ⟨v0, vs0, d0, ds0, p0, q0, hargs, rfl, rfl, h0, r0⟩ := trodAll_cons hA
  obtain ⟨v1, vs1, d1, ds1, p1, q1, rfl, rfl, rfl, h1, r1⟩ := trodAll_cons r0
  obtain ⟨rfl, rfl, rfl⟩ := trodAll_nil r1
  obtain rfl : args = #[v0, v1] := by cases args; simp_all
  obtain ⟨rfl, rfl⟩ := trodVars_none hV
  have hbk : Rows.uptoBulkAll ([d0, d1] ++ ([] : List (DataW H))) ≤ 1048576 := of_decide_eq_true hK
  simp only [List.append_nil, Rows.uptoBulkAll] at hbk
  have ht0 := h0
  obtain ⟨ao0, cap0, xs0, sq0, tr0, rfl, hO0, hP0, hL0, hT0⟩ := open_madeu (hval 0 24 v0 rfl rfl) h0
  have hy0 : xs0.length ≤ 1048576 := by omega
  have hq0 : ∀ y ∈ xs0, y.tn ≤ 1048576 := fun y hy => by have := hT0 y hy; omega
  have ht1 := h1
  obtain ⟨a1, l1, c1, rfl⟩ := okWide_slice Tryz.underlying25 (hval 1 25 v1 rfl rfl)
  obtain ⟨fu1, hf1⟩ := h1
  obtain ⟨ao1, cap1, xs1, e1, hO1, hz1, hp1⟩ := open_opsu hf1
  obtain ⟨rfl, rfl, rfl⟩ : a1 = ao1 ∧ l1 = xs1.length ∧ c1 = cap1 := by simpa [Value.cells] using e1
  have hd1 : Rows.uptoBulk d1 ≤ 1048576 := by omega
  have hy1 : xs1.length ≤ 1048576 := Nat.le_trans hz1 hd1
  have hq1 : ∀ y ∈ xs1, y.tn ≤ 1048576 := fun y hy => Nat.le_trans (hp1 y hy) hd1
  clear hA0
  refine (calls_law ao0 cap0 xs0 sq0 tr0 a1 c1 xs1 W (given hL) hO0 hP0 hy0 hq0 hO1 hy1 hq1).mono fun e W' ⟨he, hg⟩ => ?_
  subst he
  have e1 : Rows.outboxCallsSpec.fn H ([d0, d1] ++ []) = { results := [.lit (.bool true)], args := [d0, d1] } := by simp [Rows.outboxCallsSpec]
  refine ⟨_, rfl, _, _, _, [], (p0 ++ (p1 ++ [])), [], hW', ?_, ?_, ?_, hg.frame _, fun h => by cases h⟩
  · rw [e1]; exact trodAll_cons_mk (shut_bool Tryz.underlying4 true) trodAll_mk0
  · rw [e1]; exact trodAll_cons_mk (Below.trod laidOut (show Tryz.prog.readableRec 24 = true by kernel_rfl) (show 24 < Tryz.prog.types.size by rw [typesSize]; decide) ht0 hg (trod_block ht0)) (trodAll_cons_mk (Below.trod laidOut (show Tryz.prog.readableRec 25 = true by kernel_rfl) (show 25 < Tryz.prog.types.size by rw [typesSize]; decide) ht1 hg (trod_block ht1)) (trodAll_mk0))
  · rw [e1]; rfl
theorem reads (os : Os) {H : Type} (enc : TypeId × Value → H) : ∃ places, DataW.whole enc Tryz.prog ((World.doorLaid Tryz.prog 400 os).forCall (fun _ _ => 0) ⟨#[], #[.agg #[.slice none 0 0, .bool false, .int .i64 0], .slice none 0 0], []⟩).memory Tryz.f3.params.toList Rows.outboxCallsSpec.vars false #[Value.agg #[.slice none 0 0, .bool false, .int .i64 0], Value.slice none 0 0].toList 8 = some ([.agg [.nil, .lit (.bool false), .lit (.int .i64 0)], .nil], [], places) :=
  ⟨[], by kernel_rfl⟩
theorem door_met (os : Os) : laidMetH Tryz.prog Rows.outboxCallsUptoRow.laid ((World.doorLaid Tryz.prog 400 os).forCall (fun _ _ => 0) ⟨#[], #[.agg #[.slice none 0 0, .bool false, .int .i64 0], .slice none 0 0], []⟩).memory :=
  laidMetH_of_parts3 (fuel := 8) (laidMet_of_run' 8 (by kernel_rfl) (by kernel_rfl)) (by kernel_rfl) (by kernel_rfl)
set_option maxRecDepth 100000 in
theorem lifted (os : Os) (started : os.Started) (H : Type) (enc : TypeId × Value → H) (F : Stop.Interp) :
    ReturnsInHanded {} Tryz.checked os 3 .any ((Rows.OpenSpec.upto Rows.outboxCallsSpec).preRow enc Tryz.prog Tryz.f3 Rows.outboxCallsUptoRow.domain false Rows.outboxCallsUptoRow.laid) (((Rows.OpenSpec.upto Rows.outboxCallsSpec).at F).post enc Tryz.prog Tryz.f3 false true false false) := by
  obtain ⟨places, hx⟩ := reads os enc
  refine returnsInHanded_of_row (C := Tryz.checked) (s := Rows.OpenSpec.upto Rows.outboxCallsSpec) own started (by kernel_rfl) Tryz.func3
    (witness_row_at (enc := enc) (C := Tryz.checked) false (World.doorLaid Tryz.prog 400 os) #[.agg #[.slice none 0 0, .bool false, .int .i64 0], .slice none 0 0] rfl (by kernel_rfl) (by kernel_rfl) (by kernel_rfl)
      (OpenSpec.preRow_of_cond 8 hx (by kernel_rfl) (fun k hk => by cases hk; kernel_rfl) (by kernel_rfl) (door_met os))) ?_
  intro W base args ds gs before hval hW _ hcond _ hL _ _
  exact contract H enc W base args ds gs before hval hW (hcond _ rfl) hL
theorem said : Rows.OutboxCallsUptoSaid :=
  OpenClaim.holds_of_cond 3 Tryz.f3 rfl rfl rfl rfl rfl rfl rfl ⟨rfl, rfl, rfl, rfl, rfl⟩ rfl rfl rfl rfl rfl (by kernel_rfl) Tryz.func3 (by kernel_rfl)
    (of_decide_eq_true (by kernel_rfl)) (by unfold Func.isWrapper; first | (rw [if_pos (by decide +kernel)]; kernel_rfl) | (rw [if_neg (by decide +kernel)]; exact ⟨rfl, rfl⟩))
    (fun os started H enc _ F => by rw [OpenClaim.pre_eq_preRow]; exact lifted os started H enc F)
theorem plain (f : FuncId) (fn : Func) (hf : Tryz.pinned.checked.prog.funcNamed "courier/courierlaw14.OutboxCalls" = some f) (hfn : Tryz.pinned.checked.prog.funcs[f]? = some fn) :
    true = Tryz.pinned.checked.prog.looks [] ∧ ∀ (j : Nat) t, fn.params[j]? = some t → Tryz.pinned.checked.prog.wantsStandIn t = false := by
  obtain rfl : f = 3 := Option.some.inj ((show Tryz.prog.funcNamed "courier/courierlaw14.OutboxCalls" = some 3 by kernel_rfl).symm.trans hf) |>.symm
  obtain rfl : fn = Tryz.f3 := (Option.some.inj (Tryz.func3.symm.trans hfn)).symm
  refine ⟨by kernel_rfl, fun j t ht => ?_⟩
  rw [Tryz.params3] at ht
  have hm : t ∈ [24, 25] := by simpa using Array.mem_of_getElem? ht
  have hall : ([24, 25].all fun u => !Tryz.prog.wantsStandIn u) = true := by kernel_rfl
  exact (show Tryz.prog.wantsStandIn t = false by simpa using List.all_eq_true.1 hall t hm)

theorem card : Rows.OutboxCallsUptoCardSaid :=
  Claim7.holds_tied_plain_at .later [] _ _ _ _ said (fun _ h => by cases h) (by kernel_rfl) (fun _ h => by cases h) outboxCallsUpto_row_tie rfl ⟨rfl, rfl⟩ (by kernel_rfl) rfl plain (by kernel_rfl)
end Go.Proofs.YtoijhecphgdfnaaGreatDoor.outboxCallsUpto

namespace Go.Proofs.YtoijhecphgdfnaaGreatDoor
theorem outboxCalls_upto : Rows.OutboxCallsUptoCardSaid := outboxCallsUpto.card
#print axioms outboxCalls_upto
end Go.Proofs.YtoijhecphgdfnaaGreatDoor
