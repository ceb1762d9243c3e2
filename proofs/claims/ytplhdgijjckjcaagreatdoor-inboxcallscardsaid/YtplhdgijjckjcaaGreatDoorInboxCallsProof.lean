import Derived.Test.YtplhdgijjckjcaaGreatDoorIcMd
import Derived.Test.YtplhdgijjckjcaaGreatDoorIbOpenD
import Derived.Carry
/-
  The law InboxCalls, walked.
-/
namespace Go.Proofs.YtplhdgijjckjcaaGreatDoor
open Go.RowKit

section
variable {W w w' : World} {X K n C D E : Nat} {bv mk ke rm L : Value} {o : Option (Int × Int)} {A A' : List Ent}
theorem plays_any (h : LS W X K bv mk ke rm L C D E o A A n w) (hn : n ≤ 500000) (hE : ErrType W) (y : Opv) (hl : Lies W y.e) (hy : Byts W y.ap y.an y.ax) (ho : OpOk y) : Calls Tryz.prog 5 #[.pointer (some ⟨X, 0, none⟩), .agg #[.int .i64 y.kd, .int .i64 y.of_, .int .i64 y.n, .string y.e.ct, .slice y.e.tp y.e.tn y.e.tc, .int .i64 y.e.nu, .int .i64 y.e.tk, .slice y.e.cp y.e.cn y.e.cc, .string y.e.cd, .slice y.e.ap y.e.an y.e.ac, .string y.ct, .string y.cd, .slice y.ap y.an y.ac]] w fun r w' => r = .returned (.bool true) ∧ Hid (PlQ W X K bv mk ke rm o n w') := by
  by_cases k0 : y.kd = 0
  · rw [k0]; exact plays0 h hn hE y hl hy ho
  by_cases k9 : y.kd = 9
  · rw [k9]; exact plays9 h hn hE y hl hy ho
  by_cases k1 : y.kd = 1
  · rw [k1]; exact plays1 h hn hE y hl hy ho
  by_cases k2 : y.kd = 2
  · rw [k2]; exact plays2 h hn hE y hl hy ho
  by_cases k3 : y.kd = 3
  · rw [k3]; exact plays3 h hn hE y hl hy ho
  by_cases k8 : y.kd = 8
  · rw [k8]; exact plays8 h hn hE y hl hy ho
  exact playsT h hn hE y hl hy ho (by simpa using k0) (by simpa using k9) (by simpa using k1) (by simpa using k2) (by simpa using k3) (by simpa using k8)
/-- The book and the lists laid anew. -/
theorem LS.reset (h : LS W X K bv mk ke rm L 0 0 0 o A A n w) : LS W X w.heap.size bv mk ke rm L 0 0 0 o A A 0 ((((w.setCell ⟨X, 5, none⟩ (.pointer (some ⟨w.heap.size, 0, none⟩))).setCell ⟨X, 6, none⟩ (.slice none 0 0)).setCell ⟨X, 7, none⟩ (.slice none 0 0)).alloc (.cells #[.slice none 0 0, .slice none 0 0, .slice none 0 0, .slice none 0 0, .slice none 0 0, .slice none 0 0] 37)) := by
  obtain ⟨v0, v1, v4, v5, v6, v7, x0, x1, x4, x5, x6, x7, hX, _⟩ := h.ex
  have hlt : X < w.heap.size := h.cells.2.2.2.2
  have oX : Off (fun q => q = X) w (((w.setCell ⟨X, 5, none⟩ (.pointer (some ⟨w.heap.size, 0, none⟩))).setCell ⟨X, 6, none⟩ (.slice none 0 0)).setCell ⟨X, 7, none⟩ (.slice none 0 0)) :=
    Off.setCell (P := fun q => q = X) (Off.setCell (P := fun q => q = X) (Off.setCell (P := fun q => q = X) (Off.refl _ _) (p := ⟨X, 5, none⟩) rfl _) (p := ⟨X, 6, none⟩) rfl _) (p := ⟨X, 7, none⟩) rfl _
  have hX3 := set_heap (set_heap (set_heap hX 5 (.pointer (some ⟨w.heap.size, 0, none⟩))) 6 (.slice none 0 0)) 7 (.slice none 0 0)
  have hsz : (((w.setCell ⟨X, 5, none⟩ (.pointer (some ⟨w.heap.size, 0, none⟩))).setCell ⟨X, 6, none⟩ (.slice none 0 0)).setCell ⟨X, 7, none⟩ (.slice none 0 0)).heap.size = w.heap.size := by simp
  obtain ⟨V, hV⟩ : ∃ V, ((w.setCell ⟨X, 5, none⟩ (.pointer (some ⟨w.heap.size, 0, none⟩))).setCell ⟨X, 6, none⟩ (.slice none 0 0)).setCell ⟨X, 7, none⟩ (.slice none 0 0) = V := ⟨_, rfl⟩
  rw [hV] at oX hX3 hsz ⊢
  have hb : Below V.heap.size V (V.alloc (.cells #[.slice none 0 0, .slice none 0 0, .slice none 0 0, .slice none 0 0, .slice none 0 0, .slice none 0 0] 37)) := (Below.refl _ _).alloc (Nat.le_refl _) _
  have hk : (V.alloc (.cells #[.slice none 0 0, .slice none 0 0, .slice none 0 0, .slice none 0 0, .slice none 0 0, .slice none 0 0] 37)).heap[w.heap.size]? = some (.cells #[.slice none 0 0, .slice none 0 0, .slice none 0 0, .slice none 0 0, .slice none 0 0, .slice none 0 0] 37 (0, 0)) := by rw [← hsz]; exact heap_alloc_new _ _
  have hsd : Sd V W.heap.size 0 0 0 X bv mk ke rm L A A o := h.sd.off oX fun q hq => by
    subst hq; exact ⟨_, _, hX, Or.inl rfl⟩
  have hbl : Below W.heap.size W V := h.bel.trans (oX.below h.bel.size fun q hq => by subst hq; exact h.lX)
  refine ⟨⟨.slice none 0 0, .slice none 0 0, .slice none 0 0, .slice none 0 0, .slice none 0 0, .slice none 0 0, [], [], [], [], [], [], ?_, hk, ⟨ERow.nil _ _ _ _ _, ERow.nil _ _ _ _ _, fun q e => (by cases e), Nat.le_refl _, Nat.le_refl _⟩, ⟨ERow.nil _ _ _ _ _, ERow.nil _ _ _ _ _, fun q e => (by cases e), Nat.le_refl _, Nat.le_refl _⟩, ⟨ERow.nil _ _ _ _ _, ERow.nil _ _ _ _ _, fun q e => (by cases e), Nat.le_refl _, Nat.le_refl _⟩⟩, hsd.below hb, below_then hbl hb, h.lX, h.bel.size⟩
  rw [hb.block X (by omega), hX3]
  simp
end
set_option maxRecDepth 100000 in
set_option maxHeartbeats 8000000 in
theorem calls_law (k r : Int) (ao : Option Addr) (cap : Nat) (xs : List Opv) (w : World) (hE : ErrType w) (hO : Ops w ao xs) (hx : ∀ y ∈ xs, OpOk y) (hm : xs.length ≤ 9223372036854775807) : Calls Tryz.prog 3 #[.int .i64 k, .int .i64 r, .slice ao xs.length cap] w fun e w' => e = .returned (.bool true) ∧ Below w.heap.size w w' := by
  obtain ⟨n, hn⟩ : ∃ n, xs.length = n := ⟨_, rfl⟩
  have HO : Hid (Ops w ao xs ∧ (∀ y ∈ xs, OpOk y) ∧ xs.length = n ∧ ErrType w) := ⟨hO, hx, hn, hE⟩
  have hni : (n : Int) ≤ 9223372036854775807 := by omega
  have hmd := made_any k r hE
  rw [hn]
  clear hO hx hn hE hm
  go_enter Tryz.func3, Tryz.ntmps3
  go_wp2_with fail
  refine hmd.mono ?_
  rintro _ w1 ⟨X, K, bv, mk, ke, rm, o, rfl, L1⟩
  clear hmd
  have HL : Hid (∃ K L A, LS w X K bv mk ke rm L 0 0 0 o A A 0 w1) := ⟨_, _, _, L1.out⟩
  clear L1
  go_wp2_with fail
  go_loopw [9] (fun t9 wx => ∃ i : Nat, i ≤ n ∧ t9 = .int .i64 i ∧ Hid (∃ K L A, LS w X K bv mk ke rm L 0 0 0 o A A 0 wx)) (fun t9 _ => n - (intOf t9).toNat)
  case atStart => exact ⟨0, Nat.zero_le _, rfl, HL⟩
  case round =>
    obtain ⟨i, hi, rfl, HI⟩ := hrel
    clear HL
    by_cases hlt : i < n
    · have hlt1 : (i : Int) < n := by omega
      obtain ⟨K0, L0, A0, h0⟩ := HI.out
      obtain ⟨y, hy⟩ : ∃ y, xs[i]? = some y := ⟨_, List.getElem?_eq_getElem (by rw [HO.out.2.2.1]; exact hlt)⟩
      obtain ⟨ob, off, rfl, hbl, hat⟩ := HO.out.1.below h0.bel i y hy
      have hat0 : Lies w y.e ∧ Byts w y.ap y.an y.ax := by
        obtain ⟨_, _, _, _, h9⟩ := HO.out.1 i y hy
        exact ⟨h9.lies, h9.byts⟩
      have hok := HO.out.2.1 y (List.mem_of_getElem? hy)
      have hpl := plays_any h0 (by omega) HO.out.2.2.2 y hat0.1 hat0.2 hok
      have cc := hat.cell
      have c0 := cc 0 (by decide)
      have c1 := cc 1 (by decide)
      have c2 := cc 2 (by decide)
      have c3 := cc 3 (by decide)
      have c4 := cc 4 (by decide)
      have c5 := cc 5 (by decide)
      have c6 := cc 6 (by decide)
      have c7 := cc 7 (by decide)
      have c8 := cc 8 (by decide)
      have c9 := cc 9 (by decide)
      have c10 := cc 10 (by decide)
      have c11 := cc 11 (by decide)
      have c12 := cc 12 (by decide)
      simp at c0 c1 c2 c3 c4 c5 c6 c7 c8 c9 c10 c11 c12
      clear cc hat hat0 hok hy HI h0
      go_wp2_with fail
      refine hpl.mono ?_
      rintro _ w2 ⟨rfl, H2⟩
      obtain ⟨L2, A2, h2⟩ := H2.out
      obtain ⟨v0, v1, v4, v5, v6, v7, x0, x1, x4, x5, x6, x7, hX, _⟩ := h2.ex
      have d5 := hcell hX 5
      have d6 := hcell hX 6
      have d7 := hcell hX 7
      have f5 := hfroz hX 5
      have f6 := hfroz hX 6
      have f7 := hfroz hX 7
      have lX := blk_lt hX
      have HZ : Hid (∃ K L A, LS w X K bv mk ke rm L 0 0 0 o A A 0 ((((w2.setCell ⟨X, 5, none⟩ (.pointer (some ⟨w2.heap.size, 0, none⟩))).setCell ⟨X, 6, none⟩ (.slice none 0 0)).setCell ⟨X, 7, none⟩ (.slice none 0 0)).alloc (.cells #[.slice none 0 0, .slice none 0 0, .slice none 0 0, .slice none 0 0, .slice none 0 0, .slice none 0 0] 37))) := ⟨_, _, _, h2.reset⟩
      clear hpl h2 hX H2 c0 c1 c2 c3 c4 c5 c6 c7 c8 c9 c10 c11 c12
      go_wp2_with fail
      go_roundw
      case rel => exact ⟨i + 1, hlt, by go_num, HZ⟩
      case measure => simp [intOf]; omega
    · have hlt1 : ¬ (i : Int) < n := by omega
      have HB : Hid (Below w.heap.size w wr) := by
        obtain ⟨K0, L0, A0, h0⟩ := HI.out
        exact h0.bel
      clear HI
      go_wp2_with fail
      go_ret
      exact ⟨rfl, HB.out⟩
end Go.Proofs.YtplhdgijjckjcaaGreatDoor

/-
  InboxCalls: the row out of its walk.
-/
namespace Go.Proofs.YtplhdgijjckjcaaGreatDoor.inboxCalls
open Go.ChangeShapes Go.WideShapes Go.ChangeAt Go.RowKit

theorem laidOut : laidOutB Tryz.prog = true := by kernel_rfl
theorem given {W : World} (h : laidMetH Tryz.prog Rows.inboxCallsRow.laid W) : ErrType W := by
  have h' : laidMet Tryz.prog [] W ∧ handlesMet Tryz.prog [("errors.errorType", Rows.laid_errors_errorType)] W := h
  exact errType_of h'.2
theorem trod_block {H : Type} {enc : TypeId × Value → H} {P : Program} {W : World} {base : Nat} {spare : Nat → Bool} {held : Bool} {t : TypeId} {v : Value} {d : DataW H} {ps : List MemPlace} (h : DataW.Trod enc P W base spare held t v d ps) : ∀ x ∈ ps, x.block < W.heap.size := by
  obtain ⟨fuel, hf⟩ := h
  exact fun x hx => DataW.trod_lt _ _ _ _ hf x hx
set_option maxRecDepth 100000 in
theorem contract (H : Type) (enc : TypeId × Value → H) (W : World) (base : Nat) (args : Array Value) (ds gs : List (DataW H)) (before : List MemPlace)
    (hval : ∀ (j : Nat) t v, Tryz.f3.params[j]? = some t → args[j]? = some v → Value.okWide Tryz.prog W .any base t v)
    (hW : DataW.Whole enc Tryz.prog Tryz.f3.params.toList Rows.inboxCallsSpec.vars false W args.toList ds gs before)
    (hWt : (DataW.weightsEach Tryz.prog (Tryz.f3.params.toList ++ (OpenSpec.ofChange Rows.inboxCallsSpec).bare.plain.varTypes Tryz.prog) (ds ++ gs)).all (· ≤ reachBytes) = true) (hL : laidMetH Tryz.prog Rows.inboxCallsRow.laid W) :
    Calls Tryz.prog 3 args W fun e W' => ∃ v, e = .returned v ∧ Rows.inboxCallsSpec.post enc Tryz.prog Tryz.f3 false true false false W args v W' := by
  have hW' := hW
  obtain ⟨p, q, hA0, hV, rfl, hfz, hnd⟩ := hW
  have hA : DataW.TrodAll enc Tryz.prog W 0 (fun _ => true) true Tryz.f3.params.toList args.toList ds p := hA0
  rw [Tryz.params3] at hA hval hWt
  obtain ⟨v0, vs0, d0, ds0, p0, q0, hargs, rfl, rfl, h0, r0⟩ := trodAll_cons hA
  obtain ⟨v1, vs1, d1, ds1, p1, q1, rfl, rfl, rfl, h1, r1⟩ := trodAll_cons r0
  obtain ⟨v2, vs2, d2, ds2, p2, q2, rfl, rfl, rfl, h2, r2⟩ := trodAll_cons r1
  obtain ⟨rfl, rfl, rfl⟩ := trodAll_nil r2
  obtain rfl : args = #[v0, v1, v2] := by cases args; simp_all
  obtain ⟨rfl, rfl⟩ := trodVars_none hV
  have ht0 := h0
  obtain ⟨n0, rfl, _, _, _⟩ := open_int Tryz.underlying3 (hval 0 3 v0 rfl rfl) h0
  have ht1 := h1
  obtain ⟨n1, rfl, _, _, _⟩ := open_int Tryz.underlying3 (hval 1 3 v1 rfl rfl) h1
  have ht2 := h2
  obtain ⟨a2, l2, c2, rfl⟩ := okWide_slice Tryz.underlying22 (hval 2 22 v2 rfl rfl)
  obtain ⟨fu2, hf2⟩ := h2
  obtain ⟨ao2, cap2, xs2, e2, hO2, hx2, hp2⟩ := open_ops hf2
  obtain ⟨rfl, rfl, rfl⟩ : a2 = ao2 ∧ l2 = xs2.length ∧ c2 = cap2 := by simpa [Value.cells] using e2
  have hy2 : ∀ y ∈ xs2, OpOk y := fun y hy => hp2 y hy fun n hn => by simpa using List.all_eq_true.1 hWt n (DataW.weights_mem_each (j := 2) rfl rfl n hn)
  clear hA0
  refine (calls_law n0 n1 a2 c2 xs2 W (given hL) hO2 hy2 hx2).mono fun e W' ⟨he, hg⟩ => ?_
  subst he
  have e1 : Rows.inboxCallsSpec.fn H ([d0, d1, d2] ++ []) = { results := [.lit (.bool true)], args := [d0, d1, d2] } := by simp [Rows.inboxCallsSpec]
  refine ⟨_, rfl, _, _, _, [], (p0 ++ (p1 ++ (p2 ++ []))), [], hW', ?_, ?_, ?_, hg.frame _, fun h => by cases h⟩
  · rw [e1]; exact trodAll_cons_mk (shut_bool Tryz.underlying4 true) trodAll_mk0
  · rw [e1]; exact trodAll_cons_mk (Below.trod laidOut (show Tryz.prog.readableRec 3 = true by kernel_rfl) (show 3 < Tryz.prog.types.size by rw [typesSize]; decide) ht0 hg (trod_block ht0)) (trodAll_cons_mk (Below.trod laidOut (show Tryz.prog.readableRec 3 = true by kernel_rfl) (show 3 < Tryz.prog.types.size by rw [typesSize]; decide) ht1 hg (trod_block ht1)) (trodAll_cons_mk (Below.trod laidOut (show Tryz.prog.readableRec 22 = true by kernel_rfl) (show 22 < Tryz.prog.types.size by rw [typesSize]; decide) ht2 hg (trod_block ht2)) (trodAll_mk0)))
  · rw [e1]; rfl
theorem reads (os : Os) {H : Type} (enc : TypeId × Value → H) : ∃ places, DataW.whole enc Tryz.prog ((World.doorLaid Tryz.prog 400 os).forCall (fun _ _ => 0) ⟨#[], #[.int .i64 0, .int .i64 0, .slice none 0 0], []⟩).memory Tryz.f3.params.toList Rows.inboxCallsSpec.vars false #[Value.int .i64 0, Value.int .i64 0, Value.slice none 0 0].toList 8 = some ([.lit (.int .i64 0), .lit (.int .i64 0), .nil], [], places) :=
  ⟨[], by kernel_rfl⟩
theorem door_met (os : Os) : laidMetH Tryz.prog Rows.inboxCallsRow.laid ((World.doorLaid Tryz.prog 400 os).forCall (fun _ _ => 0) ⟨#[], #[.int .i64 0, .int .i64 0, .slice none 0 0], []⟩).memory :=
  laidMetH_of_parts3 (fuel := 8) (laidMet_of_run' 8 (by kernel_rfl) (by kernel_rfl)) (by kernel_rfl) (by kernel_rfl)
set_option maxRecDepth 100000 in
theorem lifted (os : Os) (started : os.Started) (H : Type) (enc : TypeId × Value → H) (F : Stop.Interp) :
    ReturnsInHanded {} Tryz.checked os 3 .any ((OpenSpec.ofChange Rows.inboxCallsSpec).preRow enc Tryz.prog Tryz.f3 Rows.inboxCallsRow.domain false Rows.inboxCallsRow.laid) (((OpenSpec.ofChange Rows.inboxCallsSpec).at F).post enc Tryz.prog Tryz.f3 false true false false) := by
  obtain ⟨places, hx⟩ := reads os enc
  refine returnsInHanded_of_row (C := Tryz.checked) (s := OpenSpec.ofChange Rows.inboxCallsSpec) own started (by kernel_rfl) Tryz.func3
    (witness_row_at (enc := enc) (C := Tryz.checked) false (World.doorLaid Tryz.prog 400 os) #[.int .i64 0, .int .i64 0, .slice none 0 0] rfl (by kernel_rfl) (by kernel_rfl) (by kernel_rfl)
      (OpenSpec.preRow_of_cond 8 hx (by kernel_rfl) (fun k hk => by cases hk) (by kernel_rfl) (door_met os))) ?_
  intro W base args ds gs before hval hW _ _ hWt hL _ _
  exact contract H enc W base args ds gs before hval hW hWt hL
theorem said : Rows.InboxCallsSaid :=
  OpenClaim.holds_of_cond 3 Tryz.f3 rfl rfl rfl rfl rfl rfl rfl ⟨rfl, rfl, rfl, rfl, rfl⟩ rfl rfl rfl rfl rfl (by kernel_rfl) Tryz.func3 (by kernel_rfl)
    (of_decide_eq_true (by kernel_rfl)) (by unfold Func.isWrapper; first | (rw [if_pos (by decide +kernel)]; kernel_rfl) | (rw [if_neg (by decide +kernel)]; exact ⟨rfl, rfl⟩))
    (fun os started H enc _ F => by rw [OpenClaim.pre_eq_preRow]; exact lifted os started H enc F)
theorem plain (f : FuncId) (fn : Func) (hf : Tryz.pinned.checked.prog.funcNamed "courier/courierlaw15.InboxCalls" = some f) (hfn : Tryz.pinned.checked.prog.funcs[f]? = some fn) :
    true = Tryz.pinned.checked.prog.looks [] ∧ ∀ (j : Nat) t, fn.params[j]? = some t → Tryz.pinned.checked.prog.wantsStandIn t = false := by
  obtain rfl : f = 3 := Option.some.inj ((show Tryz.prog.funcNamed "courier/courierlaw15.InboxCalls" = some 3 by kernel_rfl).symm.trans hf) |>.symm
  obtain rfl : fn = Tryz.f3 := (Option.some.inj (Tryz.func3.symm.trans hfn)).symm
  refine ⟨by kernel_rfl, fun j t ht => ?_⟩
  rw [Tryz.params3] at ht
  have hm : t ∈ [3, 3, 22] := by simpa using Array.mem_of_getElem? ht
  have hall : ([3, 3, 22].all fun u => !Tryz.prog.wantsStandIn u) = true := by kernel_rfl
  exact (show Tryz.prog.wantsStandIn t = false by simpa using List.all_eq_true.1 hall t hm)

theorem card : Rows.InboxCallsCardSaid :=
  Claim7.holds_tied_plain_at .later [] _ _ _ _ said (fun _ h => by cases h) (by kernel_rfl) (fun _ h => by cases h) inboxCalls_row_tie rfl ⟨rfl, rfl⟩ (by kernel_rfl) rfl plain (by kernel_rfl)
end Go.Proofs.YtplhdgijjckjcaaGreatDoor.inboxCalls

namespace Go.Proofs.YtplhdgijjckjcaaGreatDoor
theorem inboxCalls_of : Rows.InboxCallsCardSaid := inboxCalls.card
end Go.Proofs.YtplhdgijjckjcaaGreatDoor
