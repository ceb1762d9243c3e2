import Derived.Test.YtjbkfppibnlmoaaGreatDoorSsEx
import Derived.Deep.DeepCutAuto
import Derived.Test.YtjbkfppibnlmoaaGreatDoorIbOpn
import Derived.Carry
/-
  The law InboxExact, walked.
-/
namespace Go.Proofs.YtjbkfppibnlmoaaGreatDoor
open Go.RowKit

set_option maxRecDepth 100000 in
set_option maxHeartbeats 8000000 in
theorem exact_law (k r : Int) (al : Option Addr) (cl : Nat) (es : List Ent) (ao : Option Addr) (cap : Nat) (xs : List Opv) (w : World) (hE : ErrType w) (hL : Lg.LsAt w al es.length es) (hN : es.length ≤ 1200000000000) (hk : ∀ e ∈ es, Lg.EOk e) (hO : Ops w ao xs) (hx : ∀ y ∈ xs, OpOk y) (hm : xs.length ≤ 9223372036854775807) : Calls Tryz.prog 3 #[.int .i64 k, .int .i64 r, .slice al es.length cl, .slice ao xs.length cap] w fun e w' => e = .returned (.bool true) ∧ Below w.heap.size w w' := by
  obtain ⟨n, hn⟩ : ∃ n, xs.length = n := ⟨_, rfl⟩
  obtain ⟨ln, hln⟩ : ∃ n, es.length = n := ⟨_, rfl⟩
  have HO : Hid (Ops w ao xs ∧ (∀ y ∈ xs, OpOk y) ∧ xs.length = n ∧ ErrType w) := ⟨hO, hx, hn, hE⟩
  have hni : (n : Int) ≤ 9223372036854775807 := by omega
  have hmd := made_any k r hE
  have HLd : Hid (∀ z, Below w.heap.size w z → Calls Tryz.prog 5 #[.int .i64 k, .int .i64 r, .slice al ln cl] z fun r w' => ∃ X, r = .returned (.tuple #[.pointer (some ⟨X, 0, none⟩), .bool true]) ∧ Hid (∃ Kb bv mk ke rm L o A, LS z X Kb bv mk ke rm L 0 0 0 o A A 0 w')) := fun z hz => Lg.loaded_any (c := cl) k r (errType_below hE hz) (by rw [← hln]; exact hL.below hz) (by omega) hk
  rw [hn, hln]
  clear hO hx hn hE hm hL hN hk hln
  go_enter Tryz.func3, Tryz.ntmps3
  go_wp2_with fail
  refine hmd.mono ?_
  rintro _ w1 ⟨X, K, bv, mk, ke, rm, o, rfl, L1⟩
  clear hmd
  have hld := HLd.out w1 L1.out.bel
  go_wp2_with fail
  refine hld.mono ?_
  rintro _ w2 ⟨Y, rfl, L2⟩
  clear hld HLd
  have HT : Hid (TwoS w X Y (1000 * (0 % 8)) (2 * (0 % 8)) (1000 * (0 % 8)) (2 * (0 % 8)) w2) := by
    obtain ⟨Kb, bv', mk', ke', rm', L', o', A', l2⟩ := L2.out
    exact two_start L1.out l2
  clear L1 L2
  go_wp2_with fail
  go_loopw [13] (fun t13 wx => ∃ i : Nat, i ≤ n ∧ t13 = .int .i64 i ∧ Hid (TwoS w X Y (1000 * (i % 8)) (2 * (i % 8)) (1000 * (i % 8)) (2 * (i % 8)) wx)) (fun t13 _ => n - (intOf t13).toNat)
  case atStart => exact ⟨0, Nat.zero_le _, rfl, HT⟩
  case round =>
    obtain ⟨i, hi, rfl, HI⟩ := hrel
    clear HT
    by_cases hlt : i < n
    · have hlt1 : (i : Int) < n := by omega
      obtain ⟨y, hy⟩ : ∃ y, xs[i]? = some y := ⟨_, List.getElem?_eq_getElem (by rw [HO.out.2.2.1]; exact hlt)⟩
      obtain ⟨ob, off, rfl, hbl, hat⟩ := HO.out.1.below HI.out.bel i y hy
      have hat0 : Lies w y.e ∧ Byts w y.ap y.an y.ax := by
        obtain ⟨_, _, _, _, h9⟩ := HO.out.1 i y hy
        exact ⟨h9.lies, h9.byts⟩
      have hok := HO.out.2.1 y (List.mem_of_getElem? hy)
      have HP : Hid (∀ Z, (Z = X ∨ Z = Y) → Calls Tryz.prog 6 #[.pointer (some ⟨Z, 0, none⟩), .agg #[.int .i64 y.kd, .int .i64 y.of_, .int .i64 y.n, .string y.e.ct, .slice y.e.tp y.e.tn y.e.tc, .int .i64 y.e.nu, .int .i64 y.e.tk, .slice y.e.cp y.e.cn y.e.cc, .string y.e.cd, .slice y.e.ap y.e.an y.e.ac, .string y.ct, .string y.cd, .slice y.ap y.an y.ac]] wr fun r w' => r = .returned (.bool true) ∧ Hid (TwoS w X Y (1000 * (i % 8) + 1000) (2 * (i % 8) + 2) (1000 * (i % 8) + 1000) (2 * (i % 8) + 2) w')) := fun Z hZ => two_plays_at HI.out hZ (by omega) (by omega) HO.out.2.2.2 y hat0.1 hat0.2 hok
      have cc := hat.cell
      have c0 := cc 0 (by decide)
      have c1 := cc 1 (by decide)
      have c2 := cc 2 (by decide)
      have c3 := cc 3 (by decide)
      have c4 := cc 4 (by decide)
      have c5 := cc 5 (by decide)
      have c6 := cc 6 (by decide)
      have c7 := cc 7 (by decide)
      have c8 := cc 8 (by decide)
      have c9 := cc 9 (by decide)
      have c10 := cc 10 (by decide)
      have c11 := cc 11 (by decide)
      have c12 := cc 12 (by decide)
      simp at c0 c1 c2 c3 c4 c5 c6 c7 c8 c9 c10 c11 c12
      clear cc hat hat0 hok hy
      go_upto_region 9 with fail
      go_cut [47] (fun t wx => (∃ t0, t = .bool t0) ∧ wx = wr)
      case first =>
        clear c0 c2 c3 c4 c5 c6 c7 c8 c9 c10 c11 c12
        go_wp2_with fail
        go_meet
        exact ⟨⟨_, rfl⟩, rfl⟩
      case rest =>
        obtain ⟨⟨t0, rfl⟩, hw⟩ := hcut
        obtain ⟨W0, rfl⟩ : ∃ U, U = wc := ⟨_, rfl⟩
        subst hw
        go_upto_if 47 with fail
        go_cut [14] (fun t wx => (∃ Z, t = .pointer (some ⟨Z, 0, none⟩) ∧ (Z = X ∨ Z = Y)) ∧ wx = W0)
        case first =>
          cases t0
          · go_wp2_with fail
            go_meet
            exact ⟨⟨_, rfl, Or.inl rfl⟩, rfl⟩
          · go_wp2_with fail
            go_meet
            exact ⟨⟨_, rfl, Or.inr rfl⟩, rfl⟩
        case rest =>
          obtain ⟨⟨Z, rfl, hZ⟩, hw⟩ := hcut
          subst hw
          have hpl := HP.out Z hZ
          clear HP
          go_wp2_with fail
          refine hpl.mono ?_
          rintro _ w3 ⟨rfl, H3⟩
          clear hpl c0 c1 c2 c3 c4 c5 c6 c7 c8 c9 c10 c11 c12 HI
          have hc := two_count H3.out none 0 0
          go_wp2_with fail
          refine hc.mono ?_
          rintro _ w4 ⟨rfl, H4⟩
          clear hc H3
          have hc := two_count_y H4.out none 0 0
          go_wp2_with fail
          refine hc.mono ?_
          rintro _ w5 ⟨rfl, H5⟩
          clear hc H4
          by_cases h8 : (i : Int) % 8 = 7
          · have ha := two_all H5.out (by omega) (by omega)
            go_wp2_with fail
            refine ha.mono ?_
            rintro _ w6 ⟨rfl, H6⟩
            clear ha H5
            have ha := two_all_y H6.out (by omega) (by omega)
            go_wp2_with fail
            refine ha.mono ?_
            rintro _ w7 ⟨rfl, H7⟩
            clear ha H6
            have ha := two_alone H7.out (by omega) (by omega)
            go_wp2_with fail
            refine ha.mono ?_
            rintro _ w8 ⟨rfl, H8⟩
            clear ha H7
            have ha := two_alone_y H8.out (by omega) (by omega)
            go_wp2_with fail
            refine ha.mono ?_
            rintro _ w9 ⟨rfl, H9⟩
            clear ha H8
            go_wp2_with fail
            refine ⟨⟨i + 1, hlt, by go_num, ?_⟩, by simp [intOf]; omega⟩
            have e : (i + 1) % 8 = 0 := by omega
            rw [e]
            exact H9
          · go_wp2_with fail
            refine ⟨⟨i + 1, hlt, by go_num, ?_⟩, by simp [intOf]; omega⟩
            have e : (i + 1) % 8 = i % 8 + 1 := by omega
            rw [e]
            exact H5.out.mono (by omega) (by omega) (by omega) (by omega)
    · have hlt1 : ¬ (i : Int) < n := by omega
      have ha := two_all HI.out (by omega) (by omega)
      clear HI
      go_wp2_with fail
      refine ha.mono ?_
      rintro _ w3 ⟨rfl, H3⟩
      clear ha
      have ha := two_all_y H3.out (by omega) (by omega)
      clear H3
      go_wp2_with fail
      refine ha.mono ?_
      rintro _ w4 ⟨rfl, H4⟩
      clear ha
      have ha := two_alone H4.out (by omega) (by omega)
      clear H4
      go_wp2_with fail
      refine ha.mono ?_
      rintro _ w5 ⟨rfl, H5⟩
      clear ha
      have ha := two_alone_y H5.out (by omega) (by omega)
      clear H5
      go_wp2_with fail
      refine ha.mono ?_
      rintro _ w6 ⟨rfl, H6⟩
      clear ha
      have ha := two_all H6.out (by omega) (by omega)
      clear H6
      go_wp2_with fail
      refine ha.mono ?_
      rintro _ w7 ⟨rfl, H7⟩
      clear ha
      have ha := two_all_y H7.out (by omega) (by omega)
      clear H7
      go_wp2_with fail
      refine ha.mono ?_
      rintro _ w8 ⟨rfl, H8⟩
      have HB : Hid (Below w.heap.size w w8) := H8.out.bel
      clear ha H8
      go_wp2_with fail
      go_ret
      exact ⟨rfl, HB.out⟩
end Go.Proofs.YtjbkfppibnlmoaaGreatDoor

/-
  InboxExact: the row out of its walk.
-/
namespace Go.Proofs.YtjbkfppibnlmoaaGreatDoor.inboxExact
open Go.ChangeShapes Go.WideShapes Go.ChangeAt Go.RowKit

theorem laidOut : laidOutB Tryz.prog = true := by kernel_rfl
theorem given {W : World} (h : laidMetH Tryz.prog Rows.inboxExactRow.laid W) : ErrType W := by
  have h' : laidMet Tryz.prog [] W ∧ handlesMet Tryz.prog [("errors.errorType", Rows.laid_errors_errorType)] W := h
  exact errType_of h'.2
theorem trod_block {H : Type} {enc : TypeId × Value → H} {P : Program} {W : World} {base : Nat} {spare : Nat → Bool} {held : Bool} {t : TypeId} {v : Value} {d : DataW H} {ps : List MemPlace} (h : DataW.Trod enc P W base spare held t v d ps) : ∀ x ∈ ps, x.block < W.heap.size := by
  obtain ⟨fuel, hf⟩ := h
  exact fun x hx => DataW.trod_lt _ _ _ _ hf x hx
set_option maxRecDepth 100000 in
theorem contract (H : Type) (enc : TypeId × Value → H) (W : World) (base : Nat) (args : Array Value) (ds gs : List (DataW H)) (before : List MemPlace)
    (hval : ∀ (j : Nat) t v, Tryz.f3.params[j]? = some t → args[j]? = some v → Value.okWide Tryz.prog W .any base t v)
    (hW : DataW.Whole enc Tryz.prog Tryz.f3.params.toList Rows.inboxExactSpec.vars false W args.toList ds gs before)
    (hWt : (DataW.weightsEach Tryz.prog (Tryz.f3.params.toList ++ (OpenSpec.ofChange Rows.inboxExactSpec).bare.plain.varTypes Tryz.prog) (ds ++ gs)).all (· ≤ reachBytes) = true) (hL : laidMetH Tryz.prog Rows.inboxExactRow.laid W) :
    Calls Tryz.prog 3 args W fun e W' => ∃ v, e = .returned v ∧ Rows.inboxExactSpec.post enc Tryz.prog Tryz.f3 false true false false W args v W' := by
  have hW' := hW
  obtain ⟨p, q, hA0, hV, rfl, hfz, hnd⟩ := hW
  have hA : DataW.TrodAll enc Tryz.prog W 0 (fun _ => true) true Tryz.f3.params.toList args.toList ds p := hA0
  rw [Tryz.params3] at hA hval hWt
  obtain ⟨v0, vs0, d0, ds0, p0, q0, hargs, rfl, rfl, h0, r0⟩ := trodAll_cons hA
  obtain ⟨v1, vs1, d1, ds1, p1, q1, rfl, rfl, rfl, h1, r1⟩ := trodAll_cons r0
  obtain ⟨v2, vs2, d2, ds2, p2, q2, rfl, rfl, rfl, h2, r2⟩ := trodAll_cons r1
  obtain ⟨v3, vs3, d3, ds3, p3, q3, rfl, rfl, rfl, h3, r3⟩ := trodAll_cons r2
  obtain ⟨rfl, rfl, rfl⟩ := trodAll_nil r3
  obtain rfl : args = #[v0, v1, v2, v3] := by cases args; simp_all
  obtain ⟨rfl, rfl⟩ := trodVars_none hV
  have ht0 := h0
  obtain ⟨n0, rfl, _, _, _⟩ := open_int Tryz.underlying3 (hval 0 3 v0 rfl rfl) h0
  have ht1 := h1
  obtain ⟨n1, rfl, _, _, _⟩ := open_int Tryz.underlying3 (hval 1 3 v1 rfl rfl) h1
  have ht2 := h2
  obtain ⟨a2, l2, c2, rfl⟩ := okWide_slice Tryz.underlying22 (hval 2 22 v2 rfl rfl)
  obtain ⟨fu2, hf2⟩ := h2
  obtain ⟨ao2, cap2, xs2, e2, hO2, hp2⟩ := Lg.open_ents hf2
  obtain ⟨rfl, rfl, rfl⟩ : a2 = ao2 ∧ l2 = xs2.length ∧ c2 = cap2 := by simpa [Value.cells] using e2
  have hy2 := hp2 fun n hn => by simpa using List.all_eq_true.1 hWt n (DataW.weights_mem_each (j := 2) rfl rfl n hn)
  have ht3 := h3
  obtain ⟨a3, l3, c3, rfl⟩ := okWide_slice Tryz.underlying23 (hval 3 23 v3 rfl rfl)
  obtain ⟨fu3, hf3⟩ := h3
  obtain ⟨ao3, cap3, xs3, e3, hO3, hx3, hp3⟩ := open_ops hf3
  obtain ⟨rfl, rfl, rfl⟩ : a3 = ao3 ∧ l3 = xs3.length ∧ c3 = cap3 := by simpa [Value.cells] using e3
  have hy3 : ∀ y ∈ xs3, OpOk y := fun y hy => hp3 y hy fun n hn => by simpa using List.all_eq_true.1 hWt n (DataW.weights_mem_each (j := 3) rfl rfl n hn)
  clear hA0
  refine (exact_law n0 n1 a2 c2 xs2 a3 c3 xs3 W (given hL) hO2 hy2.1 hy2.2 hO3 hy3 hx3).mono fun e W' ⟨he, hg⟩ => ?_
  subst he
  have e1 : Rows.inboxExactSpec.fn H ([d0, d1, d2, d3] ++ []) = { results := [.lit (.bool true)], args := [d0, d1, d2, d3] } := by simp [Rows.inboxExactSpec]
  refine ⟨_, rfl, _, _, _, [], (p0 ++ (p1 ++ (p2 ++ (p3 ++ [])))), [], hW', ?_, ?_, ?_, hg.frame _, fun h => by cases h⟩
  · rw [e1]; exact trodAll_cons_mk (shut_bool Tryz.underlying4 true) trodAll_mk0
  · rw [e1]; exact trodAll_cons_mk (Below.trod laidOut (show Tryz.prog.readableRec 3 = true by kernel_rfl) (show 3 < Tryz.prog.types.size by rw [typesSize]; decide) ht0 hg (trod_block ht0)) (trodAll_cons_mk (Below.trod laidOut (show Tryz.prog.readableRec 3 = true by kernel_rfl) (show 3 < Tryz.prog.types.size by rw [typesSize]; decide) ht1 hg (trod_block ht1)) (trodAll_cons_mk (Below.trod laidOut (show Tryz.prog.readableRec 22 = true by kernel_rfl) (show 22 < Tryz.prog.types.size by rw [typesSize]; decide) ht2 hg (trod_block ht2)) (trodAll_cons_mk (Below.trod laidOut (show Tryz.prog.readableRec 23 = true by kernel_rfl) (show 23 < Tryz.prog.types.size by rw [typesSize]; decide) ht3 hg (trod_block ht3)) (trodAll_mk0))))
  · rw [e1]; rfl
theorem reads (os : Os) {H : Type} (enc : TypeId × Value → H) : ∃ places, DataW.whole enc Tryz.prog ((World.doorLaid Tryz.prog 400 os).forCall (fun _ _ => 0) ⟨#[], #[.int .i64 0, .int .i64 0, .slice none 0 0, .slice none 0 0], []⟩).memory Tryz.f3.params.toList Rows.inboxExactSpec.vars false #[Value.int .i64 0, Value.int .i64 0, Value.slice none 0 0, Value.slice none 0 0].toList 8 = some ([.lit (.int .i64 0), .lit (.int .i64 0), .nil, .nil], [], places) :=
  ⟨[], by kernel_rfl⟩
theorem door_met (os : Os) : laidMetH Tryz.prog Rows.inboxExactRow.laid ((World.doorLaid Tryz.prog 400 os).forCall (fun _ _ => 0) ⟨#[], #[.int .i64 0, .int .i64 0, .slice none 0 0, .slice none 0 0], []⟩).memory :=
  laidMetH_of_parts3 (fuel := 8) (laidMet_of_run' 8 (by kernel_rfl) (by kernel_rfl)) (by kernel_rfl) (by kernel_rfl)
set_option maxRecDepth 100000 in
theorem lifted (os : Os) (started : os.Started) (H : Type) (enc : TypeId × Value → H) (F : Stop.Interp) :
    ReturnsInHanded {} Tryz.checked os 3 .any ((OpenSpec.ofChange Rows.inboxExactSpec).preRow enc Tryz.prog Tryz.f3 Rows.inboxExactRow.domain false Rows.inboxExactRow.laid) (((OpenSpec.ofChange Rows.inboxExactSpec).at F).post enc Tryz.prog Tryz.f3 false true false false) := by
  obtain ⟨places, hx⟩ := reads os enc
  refine returnsInHanded_of_row (C := Tryz.checked) (s := OpenSpec.ofChange Rows.inboxExactSpec) own started (by kernel_rfl) Tryz.func3
    (witness_row_at (enc := enc) (C := Tryz.checked) false (World.doorLaid Tryz.prog 400 os) #[.int .i64 0, .int .i64 0, .slice none 0 0, .slice none 0 0] rfl (by kernel_rfl) (by kernel_rfl) (by kernel_rfl)
      (OpenSpec.preRow_of_cond 8 hx (by kernel_rfl) (fun k hk => by cases hk) (by kernel_rfl) (door_met os))) ?_
  intro W base args ds gs before hval hW _ _ hWt hL _ _
  exact contract H enc W base args ds gs before hval hW hWt hL
theorem said : Rows.InboxExactSaid :=
  OpenClaim.holds_of_cond 3 Tryz.f3 rfl rfl rfl rfl rfl rfl rfl ⟨rfl, rfl, rfl, rfl, rfl⟩ rfl rfl rfl rfl rfl (by kernel_rfl) Tryz.func3 (by kernel_rfl)
    (of_decide_eq_true (by kernel_rfl)) (by unfold Func.isWrapper; first | (rw [if_pos (by decide +kernel)]; kernel_rfl) | (rw [if_neg (by decide +kernel)]; exact ⟨rfl, rfl⟩))
    (fun os started H enc _ F => by rw [OpenClaim.pre_eq_preRow]; exact lifted os started H enc F)
theorem plain (f : FuncId) (fn : Func) (hf : Tryz.pinned.checked.prog.funcNamed "courier/courierlaw15.InboxExact" = some f) (hfn : Tryz.pinned.checked.prog.funcs[f]? = some fn) :
    true = Tryz.pinned.checked.prog.looks [] ∧ ∀ (j : Nat) t, fn.params[j]? = some t → Tryz.pinned.checked.prog.wantsStandIn t = false := by
  obtain rfl : f = 3 := Option.some.inj ((show Tryz.prog.funcNamed "courier/courierlaw15.InboxExact" = some 3 by kernel_rfl).symm.trans hf) |>.symm
  obtain rfl : fn = Tryz.f3 := (Option.some.inj (Tryz.func3.symm.trans hfn)).symm
  refine ⟨by kernel_rfl, fun j t ht => ?_⟩
  rw [Tryz.params3] at ht
  have hm : t ∈ [3, 3, 22, 23] := by simpa using Array.mem_of_getElem? ht
  have hall : ([3, 3, 22, 23].all fun u => !Tryz.prog.wantsStandIn u) = true := by kernel_rfl
  exact (show Tryz.prog.wantsStandIn t = false by simpa using List.all_eq_true.1 hall t hm)

theorem card : Rows.InboxExactCardSaid :=
  Claim7.holds_tied_plain_at .later [] _ _ _ _ said (fun _ h => by cases h) (by kernel_rfl) (fun _ h => by cases h) inboxExact_row_tie rfl ⟨rfl, rfl⟩ (by kernel_rfl) rfl plain (by kernel_rfl)
end Go.Proofs.YtjbkfppibnlmoaaGreatDoor.inboxExact

namespace Go.Proofs.YtjbkfppibnlmoaaGreatDoor
theorem inboxExact_of : Rows.InboxExactCardSaid := inboxExact.card
end Go.Proofs.YtjbkfppibnlmoaaGreatDoor
