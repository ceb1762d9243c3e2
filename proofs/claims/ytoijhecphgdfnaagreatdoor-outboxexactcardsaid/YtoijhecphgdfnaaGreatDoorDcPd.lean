import Derived.Test.YtoijhecphgdfnaaGreatDoorOxPut2
import Derived.ArgAppend
import Derived.Lib.SliceRun
import Derived.Test.YtoijhecphgdfnaaGreatDoorDcPa
import Derived.Deep.RegionLaw
import Derived.Deep.CutRange
/-
  remove: slices.Delete of one message.
-/
namespace Go.Proofs.YtoijhecphgdfnaaGreatDoor
open Go.RowKit

theorem wpList_clear_run {P : Program} {w w' : World} {ops : Array Oper} {rest : List Oper} {o : Oper} {a : Act} {Q : Exit → Act → World → Prop} (hgd : o.guard = none) (s : Operand) (t : TypeId) (v' : Value)
    (ho : o.op = .call { callee := .builtin .clear, args := #[s], argTypes := #[t] }) (hr : (Builtin.clear_ #[t] o.type #[a.eval s]).run P w = .ok v' w') (h : wpList P ops Q rest (a.put o.dst v') w') : wpList P ops Q (o :: rest) a w :=
  wpList_plain hgd fun _ hK => by
    unfold Oper.wp execOp
    simp only [ho, resolve, invoke, builtin, Sem.run_bind, Sem.run_pure, Result.andThen_ok, List.map_toArray, List.map_cons, List.map_nil, hr]
    exact hK _ _ h
theorem run_clear_one {P : Program} (w : World) (t e ty : TypeId) (z : Value) (ht : P.underlying t = some (.slice e)) (hv : ∀ w, (zeroValue e).run P w = .ok z w) (zs : List Value) (hz : (Builtin.zeroCells z.cells 1).toList = zs) (h1 : ∀ v ∈ zs, v.oneCell' = true) (b o c : Nat) (hc : w.there b o zs.length) :
    (Builtin.clear_ #[t] ty #[.slice (some ⟨b, o, none⟩) 1 c]).run P w = .ok (.tuple #[]) (w.setCells b o zs) := by
  have hst := run_storeCells_cells (P := P) b o zs 0 w (fun j hj => by simpa using (hc j hj).1) (fun j hj => by simpa using (hc j hj).2) h1
  simp only [Nat.add_zero] at hst
  simp [Builtin.clear_, run_underlying ht, hv, hz, hst]
theorem setAll_take : ∀ (vs xs : List Value) (o k : Nat), k ≤ o → (setAll xs o vs).take k = xs.take k
  | [], _, _, _, _ => rfl
  | v :: r, xs, o, k, h => by
    rw [setAll, setAll_take r _ (o + 1) k (by omega), List.take_set, List.set_eq_of_length_le (by simp; omega)]
theorem erase_flat {ms : List Msg} {i : Nat} (hi : i < ms.length) : (setAll (ms.flatMap encM) (i * 10) ((ms.drop (i + 1)).flatMap encM)).take ((ms.length - 1) * 10) = (ms.eraseIdx i).flatMap encM := by
  have e1 : ms.flatMap encM = (ms.take i).flatMap encM ++ (encM ms[i] ++ (ms.drop (i + 1)).flatMap encM) := by
    rw [← List.flatMap_cons, ← List.flatMap_append]
    congr 1
    rw [List.getElem_cons_drop, List.take_append_drop]
  have l1 : ((ms.take i).flatMap encM).length = i * 10 := by rw [flat_len encM_len]; simp; omega
  have l2 : ((ms.drop (i + 1)).flatMap encM).length = (ms.length - (i + 1)) * 10 := by rw [flat_len encM_len]; simp
  generalize hr : encM ms[i] ++ (ms.drop (i + 1)).flatMap encM = R at e1
  have lR : R.length = 10 + (ms.length - (i + 1)) * 10 := by rw [← hr, List.length_append, l2, encM_len]
  have e2 : R = R.take ((ms.length - (i + 1)) * 10) ++ R.drop ((ms.length - (i + 1)) * 10) := (List.take_append_drop _ _).symm
  rw [e1, e2, ← l1, setAll_pre _ _ _ _ (by rw [l2, List.length_take, lR]; omega), List.eraseIdx_eq_take_drop_succ, List.flatMap_append, ← List.append_assoc]
  refine List.take_left' ?_
  rw [List.length_append, l1, l2]
  omega
theorem own_prefix {w : World} {B n m cap g : Nat} {e : TypeId} {sz : Nat} {xs : List Value} (h : w.ownsRow B e sz (.slice (some ⟨g, 0, none⟩) n cap) n xs) (hm : m ≤ n) : w.ownsRow B e sz (.slice (some ⟨g, 0, none⟩) m cap) m (xs.take (m * sz)) := by
  rcases h.2 with ⟨h0, _⟩ | ⟨g', cap', cur, e1, hB, hg, hc, hM, hs, ht⟩
  · cases h0
  · simp only [Value.slice.injEq, Option.some.injEq, Addr.mk.injEq, and_true] at e1
    obtain ⟨rfl, _, rfl⟩ := e1
    have hms : m * sz ≤ n * sz := Nat.mul_le_mul_right _ hm
    refine ⟨by rw [List.length_take, h.1]; omega, Or.inr ⟨g, cap, cur, rfl, hB, hg, by omega, hM, hs, ?_⟩⟩
    rw [← ht, List.take_take]
    congr 1
    omega
def zS : List Value := [.string ⟨#[]⟩, .slice none 0 0, .bool false, .int .i64 0, .int .i64 0, .int .i64 0, .bool false, .int .i64 0, .int .i64 0, .bool false]
theorem zS_one : ∀ v ∈ zS, v.oneCell' = true := fun u hu => by
  simp only [zS, List.mem_cons, List.not_mem_nil, or_false] at hu
  rcases hu with rfl | rfl | rfl | rfl | rfl | rfl | rfl | rfl | rfl | rfl <;> rfl
theorem zeroS : (Builtin.zeroCells (Value.agg zS.toArray).cells 1).toList = zS := by kernel_rfl
theorem own_there {w : World} {B n cap g : Nat} {e : TypeId} {sz : Nat} {xs : List Value} (h : w.ownsRow B e sz (.slice (some ⟨g, 0, none⟩) n cap) n xs) {o k : Nat} (hk : o + k ≤ n * sz) : w.there g o k := fun j hj => by
  refine ⟨?_, ?_⟩
  · have hcl := World.ownsRow.cells h (g := g) rfl
    have hl := h.1
    have := hcl (o + j) _ (List.getElem?_eq_getElem (by rw [hl]; omega))
    rw [Addr.add_lit, Nat.zero_add] at this
    rw [this]; rfl
  · rcases h.2 with ⟨h0, _⟩ | ⟨g', cap', cur, e1, hB, hg, _⟩
    · cases h0
    · simp only [Value.slice.injEq, Option.some.injEq, Addr.mk.injEq, and_true] at e1
      obtain ⟨rfl, _, _⟩ := e1
      simp [World.frozen?, hg]
/-- What the append and the clear of Delete do. -/
theorem del_runs {w : World} {g k c i : Nat} {ms : List Msg} (h : ERow w 0 91 10 encM (.slice (some ⟨g, 0, none⟩) (k + 1) c) ms) (hi : i ≤ k) (a' : Addr) (ha : i < k → a' = ⟨g, (i + 1) * 10, none⟩) :
    ∃ w1 w2, (∀ cc, (Builtin.append_ #[97, 97] 97 #[.slice (some ⟨g, 0, none⟩) i c, .slice (some a') (k - i) cc]).run Tryz.prog w.drew = .ok (.slice (some ⟨g, 0, none⟩) k c) w1) ∧
      (∀ cc, (Builtin.clear_ #[97] 0 #[.slice (some ⟨g, k * 10, none⟩) 1 cc]).run Tryz.prog w1 = .ok (.tuple #[]) w2) ∧ ERow w2 0 91 10 encM (.slice (some ⟨g, 0, none⟩) k c) (ms.eraseIdx i) ∧ Off (fun q => q = g) w w2 := by
  obtain ⟨inf, z, hinf, hz, hzs, hs, hby⟩ := celS
  have hlen : ms.length = k + 1 := h.len.symm
  have hd : w.drew.ownsRow 0 91 10 (.slice (some ⟨g, 0, none⟩) (k + 1) c) (k + 1) (ms.flatMap encM) := by
    have := h.off (P := fun _ => False) (Off.refl _ _).drew (fun _ _ => id)
    unfold ERow at this; rw [hlen] at this; exact this
  have hc : k + 1 ≤ c := by
    rcases h.form with ⟨e, _⟩ | ⟨g', cap, e, _, _, h1, _⟩
    · cases e
    · simp only [Value.slice.injEq] at e; omega
  have hl : ((ms.drop (i + 1)).flatMap encM).length = (k - i) * 10 := by rw [flat_len encM_len, List.length_drop, hlen, show k + 1 - (i + 1) = k - i by omega]
  have o1 := own_setCells (g := g) ((ms.drop (i + 1)).flatMap encM) (i * 10) w.drew _ hd
  have o2 := own_setCells (g := g) zS (k * 10) _ _ o1
  refine ⟨w.drew.setCells g (i * 10) ((ms.drop (i + 1)).flatMap encM), (w.drew.setCells g (i * 10) ((ms.drop (i + 1)).flatMap encM)).setCells g (k * 10) zS, fun cc => ?_, fun cc => ?_, ?_, ?_⟩
  · have hr := run_append_room_cells (P := Tryz.prog) w.drew 97 97 91 inf Tryz.underlying97 hinf g 0 i c a' (k - i) cc ((ms.drop (i + 1)).flatMap encM) (by rw [hs]; exact hl) (fun j u hu => by
      have hj := (List.getElem?_eq_some_iff.1 hu).1
      rw [hl] at hj
      have hik : i < k := by omega
      rw [ha hik, Addr.add_lit]
      have e1 : ms.flatMap encM = (ms.take (i + 1)).flatMap encM ++ (ms.drop (i + 1)).flatMap encM := by rw [← List.flatMap_append, List.take_append_drop]
      have l1 : ((ms.take (i + 1)).flatMap encM).length = (i + 1) * 10 := by rw [flat_len encM_len, List.length_take, hlen, show min (i + 1) (k + 1) = i + 1 by omega]
      have hcl := World.ownsRow.cells hd (g := g) rfl ((i + 1) * 10 + j) u (by rw [e1, List.getElem?_append_right (by omega), l1, Nat.add_sub_cancel_left]; exact hu)
      rwa [Addr.add_lit, Nat.zero_add] at hcl) (fun u hu => by
      obtain ⟨x, _, hx⟩ := List.mem_flatMap.1 hu
      exact encM_one x u hx) (by omega) (fun j hj => by
      rw [hl] at hj
      rw [hs, Nat.zero_add]
      exact (own_there hd (o := i * 10) (k := (k - i) * 10) (by omega) j hj).1) (fun j hj => by
      rw [hl] at hj
      rw [hs, Nat.zero_add]
      exact (own_there hd (o := i * 10) (k := (k - i) * 10) (by omega) j hj).2)
    rw [hs, Nat.zero_add, show i + (k - i) = k by omega] at hr
    exact hr
  · exact run_clear_one _ _ _ _ (.agg zS.toArray) Tryz.underlying97 Tryz.zeroValue91 zS zeroS zS_one g (k * 10) cc (own_there o1 (by show k * 10 + 10 ≤ (k + 1) * 10; omega))
  · have o3 := own_prefix o2 (m := k) (by omega)
    rw [setAll_take _ _ _ _ (Nat.le_refl _)] at o3
    have he := erase_flat (ms := ms) (i := i) (by omega)
    rw [hlen, Nat.add_sub_cancel] at he
    rw [he] at o3
    unfold ERow
    rw [List.length_eraseIdx, hlen, if_pos (by omega), Nat.add_sub_cancel]
    exact o3
  · exact Off.setCells (P := fun q => q = g) rfl _ _ _ (Off.setCells (P := fun q => q = g) rfl _ _ _ ((Off.refl _ _).drew))
end Go.Proofs.YtoijhecphgdfnaaGreatDoor

/-
  slices.Delete of one message, walked; remove.
-/
namespace Go.Proofs.YtoijhecphgdfnaaGreatDoor
open Go.RowKit

set_option maxRecDepth 100000 in
set_option maxHeartbeats 2000000 in
theorem delete_any {w : World} {g k c i : Nat} {ms : List Msg} (h : ERow w 0 91 10 encM (.slice (some ⟨g, 0, none⟩) (k + 1) c) ms) (hi : i ≤ k) (hk : k < 32) :
    Calls Tryz.prog 107 #[.slice (some ⟨g, 0, none⟩) (k + 1) c, .int .i64 (i : Int), .int .i64 ((i : Int) + 1)] w fun e w' => e = .returned (.slice (some ⟨g, 0, none⟩) k c) ∧ ERow w' 0 91 10 encM (.slice (some ⟨g, 0, none⟩) k c) (ms.eraseIdx i) ∧ Off (fun q => q = g) w w' := by
  have hc : k + 1 ≤ c ∧ c ≤ maxLen := by
    rcases h.form with ⟨e, _⟩ | ⟨g', cap, e, _, _, h1, h2⟩
    · cases e
    · simp only [Value.slice.injEq] at e; have := h.len; omega
  obtain ⟨hc1, hc2⟩ := hc
  unfold maxLen at hc2
  obtain ⟨A, hA⟩ : ∃ A : Addr, (if c = i + 1 then (⟨g, 0, none⟩ : Addr) else ⟨g, (i + 1) * 10, none⟩) = A := ⟨_, rfl⟩
  obtain ⟨w1, w2, r1, r2, hr, ho⟩ := del_runs h hi A (fun hik => by rw [← hA, if_neg (by omega)])
  have HE : Hid (ERow w2 0 91 10 encM (.slice (some ⟨g, 0, none⟩) k c) (ms.eraseIdx i) ∧ Off (fun q => q = g) w w2) := ⟨hr, ho⟩
  clear hr ho h
  have q1 : (i : Int) ≤ k := by omega
  have q2 : (i : Int) + 1 ≤ (k : Int) + 1 := by omega
  have q3 : (k : Int) + 1 ≤ c := by omega
  have q5 : ((i : Int) == (i : Int) + 1) = false := by
    rw [beq_eq_false_iff_ne]; omega
  have q6 : i ≤ c := by omega
  have q7 : i + 1 ≤ c := by omega
  have q8 : (i : Int) ≤ (i : Int) + 1 := by omega
  have q9 : (i : Int) ≤ c := by omega
  have q10 : (0 : Int) ≤ (i : Int) + 1 := by omega
  have q11 : (0 : Int) ≤ (k : Int) + 1 := by omega
  by_cases hce : c = i + 1
  · rw [if_pos hce] at hA
    subst hA
    obtain rfl : k = i := by omega
    subst hce
    rw [Nat.sub_self] at r1
    go_enter Tryz.func107, Tryz.ntmps107
    go_wp2_with fail
    go_region_law (first | (refine step_app_run rfl (.tmp 22) (.tmp 25) 97 rfl rfl rfl (r1 _) ?_))
    all_goals
      go_wp2_with (at_builtin; refine wpList_clear_run rfl (.tmp 31) 97 _ rfl (r2 _) ?_)
      go_ret
      exact ⟨rfl, HE.out.1, HE.out.2⟩
  · rw [if_neg hce] at hA
    subst hA
    go_enter Tryz.func107, Tryz.ntmps107
    go_wp2_with fail
    go_region_law (first | (refine step_app_run rfl (.tmp 22) (.tmp 25) 97 rfl rfl rfl (r1 _) ?_))
    all_goals
      go_wp2_with (at_builtin; refine wpList_clear_run rfl (.tmp 31) 97 _ rfl (r2 _) ?_)
      go_ret
      exact ⟨rfl, HE.out.1, HE.out.2⟩
set_option maxRecDepth 100000 in
set_option maxHeartbeats 2000000 in
theorem remove_any {w : World} {kb i : Nat} {v : Value} {ms : List Msg} (h : Kd w kb v ms) (s : ByteArray) (hf : fi s ms = some i) : Calls Tryz.prog 90 #[.pointer (some ⟨kb, 0, none⟩), .string s] w fun e w' => e = .returned (.tuple #[]) ∧ KdQ w kb v (delS s ms) w' := by
  have hdel : delS s ms = ms.eraseIdx i := by unfold delS; rw [hf]
  have hfI : fiI s ms = i := by unfold fiI; rw [hf]
  rw [hdel]
  obtain ⟨m0, hm0, _⟩ := fi_some hf
  have hil := (List.getElem?_eq_some_iff.1 hm0).1
  obtain ⟨a, c, rfl, _⟩ := h.2.1.isSlice
  obtain ⟨g, rfl, hg, _⟩ := erow_cells h.2.1 hm0
  have hne := h.ne (g := g) rfl
  have hpl := place_any h s
  rw [hfI] at hpl
  obtain ⟨k, hk⟩ : ∃ k, ms.length = k + 1 := ⟨ms.length - 1, by omega⟩
  have HN : Hid (ms.length = k + 1) := hk
  have hk32 : k < 32 := by have := h.2.2; omega
  rw [hk] at h hil ⊢
  have HK : Hid (Kd w kb (.slice (some ⟨g, 0, none⟩) (k + 1) c) ms) := h
  clear h hdel hf hm0 hk hfI
  have q1 : ¬ (i : Int) < 0 := by omega
  go_enter Tryz.func90, Tryz.ntmps90
  go_wp2_with fail
  refine hpl.mono ?_
  rintro _ w1 ⟨rfl, hb1⟩
  have HB1 : Hid (Below w.heap.size w w1) := hb1
  have HK1 : Hid (Kd w1 kb (.slice (some ⟨g, 0, none⟩) (k + 1) c) ms) := HK.out.below hb1
  clear hpl hb1 HK
  have k1 := hcell HK1.out.1 1
  have hdl := delete_any (i := i) HK1.out.2.1 (by omega) hk32
  go_wp2_with fail
  refine hdl.mono ?_
  rintro _ w2 ⟨rfl, hr2, ho2⟩
  have hk2 : w2.heap[kb]? = some (.cells #[.func (.func 43) #[] #[], .slice (some ⟨g, 0, none⟩) (k + 1) c] 111 (0, 0)) := (ho2.block kb (blk_lt HK1.out.1) (fun e => hne e.symm)).trans HK1.out.1
  have e1 := hcell hk2 1
  have f1 := hfroz hk2 1
  have HZ : Hid (KdQ w kb (.slice (some ⟨g, 0, none⟩) (k + 1) c) (ms.eraseIdx i) (w2.setCell ⟨kb, 1, none⟩ (.slice (some ⟨g, 0, none⟩) k c))) := by
    have o4 : Off (fun q => q = kb ∨ some g = some q) w1 (w2.setCell ⟨kb, 1, none⟩ (.slice (some ⟨g, 0, none⟩) k c)) := Off.setCell (P := fun q => q = kb ∨ some g = some q) (ho2.mono fun q e => Or.inr (by rw [e])) (p := ⟨kb, 1, none⟩) (Or.inl rfl) _
    refine KdQ.of_below HB1.out ⟨.slice (some ⟨g, 0, none⟩) k c, ⟨set_heap hk2 1 _, ?_, by rw [List.length_eraseIdx, HN.out]; split <;> omega⟩, o4, fun q e => Or.inl e⟩
    exact ERow.keep hr2 fun q e => Below.heap_setCell _ _ _ q fun e' => by
      have : g = q := by simpa [Value.ownBlock] using e
      exact hne (this.trans e')
  clear hdl hr2 ho2 k1 hk2 hne
  go_wp2_with fail
  go_end0
  exact ⟨rfl, HZ.out⟩
end Go.Proofs.YtoijhecphgdfnaaGreatDoor

/-
  The program's refuse, refusal, areTries, owedBy, sent, begin.
-/
namespace Go.Proofs.YtoijhecphgdfnaaGreatDoor
open Go.RowKit

theorem isCond_any (n : Int) (w : World) : Calls Tryz.prog 104 #[.int .i64 n] w fun r w' => r = .returned (.bool (decide (0 ≤ n) && decide (n < 4))) ∧ w' = w := by
  go_enter Tryz.func104, Tryz.ntmps104
  go_wp2
  all_goals (go_ret; exact ⟨ret_bool (by rw [Bool.eq_iff_iff]; simp; try (first | omega | (intros; omega))), rfl⟩)
theorem areTries_any (n : Int) (w : World) : Calls Tryz.prog 84 #[.int .i64 n] w fun r w' => r = .returned (.bool (decide (0 ≤ n ∧ n ≤ 16))) ∧ w' = w := by
  go_enter Tryz.func84, Tryz.ntmps84
  go_wp2
  all_goals (go_ret; exact ⟨ret_bool (by rw [Bool.eq_iff_iff]; simp; try (first | omega | (intros; omega))), rfl⟩)
set_option maxHeartbeats 1000000 in
theorem refuse_ok (e : Bool) (a p : Int) (w : World) (h : okB e a p = true) : Calls Tryz.prog 83 #[.agg #[.bool e, .int .i64 a, .int .i64 p]] w fun r w' => r = .returned .nilIface ∧ Below w.heap.size w w' := by
  obtain ⟨h1, h2, h3, h4, h5⟩ := ok_of h
  have c1 : ∀ w, Calls Tryz.prog 104 #[.int .i64 a] w fun r w' => r = .returned (.bool true) ∧ w' = w := fun w => by
    have := isCond_any a w; rw [show (decide (0 ≤ a) && decide (a < 4)) = true by simp; omega] at this; exact this
  have c2 : ∀ w, Calls Tryz.prog 104 #[.int .i64 p] w fun r w' => r = .returned (.bool true) ∧ w' = w := fun w => by
    have := isCond_any p w; rw [show (decide (0 ≤ p) && decide (p < 4)) = true by simp; omega] at this; exact this
  clear h
  cases e with
  | true =>
    clear h1 h2 h3 h4 h5
    go_enter Tryz.func83, Tryz.ntmps83
    go_wp2_with fail
    refine (c1 _).mono ?_
    rintro _ w1 ⟨rfl, rfl⟩
    go_wp2_with fail
    refine (c2 _).mono ?_
    rintro _ w2 ⟨rfl, rfl⟩
    go_wp2_with fail
    go_ret
    exact ⟨rfl, (Below.refl _ _).alloc (Nat.le_refl _) _⟩
  | false =>
    obtain ⟨rfl, rfl⟩ : a = 0 ∧ p = 0 := by rcases h5 with h5 | h5; cases h5; exact h5
    clear h1 h2 h3 h4 h5 c1 c2
    go_enter Tryz.func83, Tryz.ntmps83
    go_wp2_with fail
    go_ret
    exact ⟨rfl, (Below.refl _ _).alloc (Nat.le_refl _) _⟩
set_option maxHeartbeats 1000000 in
theorem refuse_no (e : Bool) (a p : Int) (w : World) (h : okB e a p = false) : Calls Tryz.prog 83 #[.agg #[.bool e, .int .i64 a, .int .i64 p]] w (FltQ 0 220 w) := by
  have fl := pfault_ex 0 220
  have ho : ¬ (0 ≤ a ∧ a ≤ 3 ∧ 0 ≤ p ∧ p ≤ 3 ∧ (e = true ∨ (a = 0 ∧ p = 0))) := fun g => by
    have : okB e a p = true := by unfold okB; obtain ⟨g1, g2, g3, g4, g5⟩ := g; simp [g1, g2, g3, g4]; exact g5
    rw [h] at this; cases this
  clear h
  have i1 := isCond_any a
  have i2 := isCond_any p
  cases e with
  | true =>
    cases ha : (decide (0 ≤ a) && decide (a < 4)) with
    | false =>
      rw [ha] at i1
      clear i2 ho ha
      go_enter Tryz.func83, Tryz.ntmps83
      go_wp2_with fail
      refine (i1 _).mono ?_
      rintro _ w1 ⟨rfl, rfl⟩
      go_wp2_with fail
      refine (fl _).mono ?_
      rintro _ w2 ⟨b, rfl, hf, hb⟩
      have HF : Hid (DFault w2 b 0 220 ∧ Below _ _ w2) := ⟨hf, hb⟩
      clear hf hb
      go_wp2_with fail
      go_ret
      exact ⟨_, rfl, HF.out.1, below_then ((Below.refl _ _).alloc (Nat.le_refl _) _) HF.out.2⟩
    | true =>
      have hp : (decide (0 ≤ p) && decide (p < 4)) = false := by simp at ha ⊢; intro; false_or_by_contra; exact ho ⟨by omega, by omega, by omega, by omega, Or.inl rfl⟩
      rw [ha] at i1
      rw [hp] at i2
      clear ho ha hp
      go_enter Tryz.func83, Tryz.ntmps83
      go_wp2_with fail
      refine (i1 _).mono ?_
      rintro _ w1 ⟨rfl, rfl⟩
      go_wp2_with fail
      refine (i2 _).mono ?_
      rintro _ w1 ⟨rfl, rfl⟩
      go_wp2_with fail
      refine (fl _).mono ?_
      rintro _ w2 ⟨b, rfl, hf, hb⟩
      have HF : Hid (DFault w2 b 0 220 ∧ Below _ _ w2) := ⟨hf, hb⟩
      clear hf hb
      go_wp2_with fail
      go_ret
      exact ⟨_, rfl, HF.out.1, below_then ((Below.refl _ _).alloc (Nat.le_refl _) _) HF.out.2⟩
  | false =>
    clear i1 i2
    by_cases ha : a = 0
    · subst ha
      have hp : ¬ p = 0 := fun g => ho (by subst g; exact ⟨by omega, by omega, by omega, by omega, Or.inr ⟨rfl, rfl⟩⟩)
      clear ho
      go_enter Tryz.func83, Tryz.ntmps83
      go_wp2_with fail
      refine (fl _).mono ?_
      rintro _ w2 ⟨b, rfl, hf, hb⟩
      have HF : Hid (DFault w2 b 0 220 ∧ Below _ _ w2) := ⟨hf, hb⟩
      clear hf hb
      go_wp2_with fail
      go_ret
      exact ⟨_, rfl, HF.out.1, below_then ((Below.refl _ _).alloc (Nat.le_refl _) _) HF.out.2⟩
    · clear ho
      go_enter Tryz.func83, Tryz.ntmps83
      go_wp2_with fail
      refine (fl _).mono ?_
      rintro _ w2 ⟨b, rfl, hf, hb⟩
      have HF : Hid (DFault w2 b 0 220 ∧ Below _ _ w2) := ⟨hf, hb⟩
      clear hf hb
      go_wp2_with fail
      go_ret
      exact ⟨_, rfl, HF.out.1, below_then ((Below.refl _ _).alloc (Nat.le_refl _) _) HF.out.2⟩
end Go.Proofs.YtoijhecphgdfnaaGreatDoor

/-
  append of one list of acts to another; right by functions; the verdict's code.
-/
namespace Go.Proofs.YtoijhecphgdfnaaGreatDoor
open Go.RowKit

theorem aflat_len (l : ActL) : (l.flatMap acells).length = l.length * 2 := by
  induction l with
  | nil => rfl
  | cons y r ih => rw [List.flatMap_cons, List.length_append, ih, List.length_cons]; simp [acells]; omega
theorem aflat_one {l : ActL} {u : Value} (h : u ∈ l.flatMap acells) : u.oneCell' = true := by
  obtain ⟨y, _, hy⟩ := List.mem_flatMap.1 h
  simp only [acells, List.mem_cons, List.not_mem_nil, or_false] at hy
  rcases hy with rfl | rfl <;> rfl
theorem aflat_split (l : ActL) {j : Nat} {u : Value} (h : (l.flatMap acells)[j]? = some u) : ∃ k y, l[k]? = some y ∧ ((j = k * 2 ∧ u = .int .i64 y.1) ∨ (j = k * 2 + 1 ∧ u = .string y.2)) := by
  have hj : j < l.length * 2 := by rw [← aflat_len]; exact (List.getElem?_eq_some_iff.1 h).1
  obtain ⟨y, hy⟩ : ∃ y, l[j / 2]? = some y := ⟨_, List.getElem?_eq_getElem (by omega)⟩
  refine ⟨j / 2, y, hy, ?_⟩
  rcases (by omega : j = j / 2 * 2 ∨ j = j / 2 * 2 + 1) with e | e
  · have := aflat_get l (j / 2) y hy 0 (by omega)
    rw [Nat.add_zero, ← e, h] at this
    exact Or.inl ⟨e, by simpa [acells] using this⟩
  · have := aflat_get l (j / 2) y hy 1 (by omega)
    rw [← e, h] at this
    exact Or.inr ⟨e, by simpa [acells] using this⟩
/-- Some more acts. -/
theorem run_aapp {w : World} {B N : Nat} {v x : Value} {xs ys : ActL} (h : ActRow w B v xs) (hB : B ≤ w.heap.size) (hx : Acts w N x ys) (hl : xs.length + ys.length ≤ 100) :
    ∃ a c w', (Builtin.append_ #[132, 132] 132 #[v, x]).run Tryz.prog w = .ok (.slice a (xs.length + ys.length) c) w' ∧ ActRow w' B (.slice a (xs.length + ys.length) c) (xs ++ ys) ∧ Below B w w' := by
  obtain ⟨i, z, hi, hz, hzs, hs, hby⟩ := actinfo
  obtain ⟨po, cap, rfl, hcap, hc⟩ := hx
  cases po with
  | none =>
    have hy : ys = [] := by
      cases ys with
      | nil => rfl
      | cons y r => obtain ⟨b, o, e, _⟩ := hc 0 y rfl; cases e
    subst hy
    obtain ⟨a, c, rfl, hac⟩ := h.isSlice
    refine ⟨a, c, w, ?_, by simpa using h, Below.refl _ _⟩
    cases a with
    | none => simp [Builtin.append_, run_underlying Tryz.underlying132, sizeOf, typeInfo, hi, Builtin.lenOf, Builtin.firstCells, hac]
    | some a => simp [Builtin.append_, run_underlying Tryz.underlying132, sizeOf, typeInfo, hi, Builtin.lenOf, Builtin.firstCells, hac, storeCells]
  | some a =>
    obtain ⟨v', w', hr, r, hg, _⟩ := run_append_own (P := Tryz.prog) w B 132 132 103 i z 2 24 Tryz.underlying132 hi hz hs hby hzs (by omega) v xs.length (xs.flatMap acells) h a ys.length cap (ys.flatMap acells) (aflat_len ys) (fun j u hu => by
        obtain ⟨k, y, hk, hh⟩ := aflat_split ys hu
        obtain ⟨b, o, e, _, _, c0, c1⟩ := hc k y hk
        obtain rfl : a = ⟨b, o, none⟩ := by simpa using e
        rcases hh with ⟨rfl, rfl⟩ | ⟨rfl, rfl⟩
        · rw [Addr.add_lit]; exact c0
        · rw [Addr.add_lit, ← Nat.add_assoc]; exact c1) (fun u hu => aflat_one hu) (by unfold maxLen; omega) (by omega) hB
    have hR : ActRow w' B v' (xs ++ ys) := by
      unfold ActRow
      rw [List.length_append, List.flatMap_append]
      exact r
    obtain ⟨a', c', rfl, _⟩ := hR.isSlice
    rw [List.length_append] at hr hR
    refine ⟨a', c', w', hr, hR, below_grown hg hB (fun g e => ?_)⟩
    rcases h.2 with ⟨rfl, h0⟩ | ⟨g', cap', cur, rfl, hbg, _⟩
    · cases e
    · simp [Value.ownBlock] at e; omega
theorem ActRow.empty (w : World) (B b : Nat) (hb : w.heap.size = b) (hB : B ≤ b) : ActRow (w.alloc (.cells #[] 103)) B (.slice (some ⟨b, 0, none⟩) 0 0) [] := by
  subst hb
  refine ⟨rfl, Or.inr ⟨w.heap.size, 0, #[], rfl, hB, ?_, Nat.le_refl _, by unfold maxLen; omega, rfl, rfl⟩⟩
  show (w.heap.push _)[w.heap.size]? = _
  simp
/-- A beginning of a list. -/
theorem Acts.take {w : World} {N : Nat} {po : Option Addr} {n cap : Nat} {l : ActL} (h : Acts w N (.slice po n cap) l) (m : Nat) (hm : m ≤ n) : Acts w N (.slice po m cap) (l.take m) := by
  obtain ⟨po', cap', e, hc, hl⟩ := h
  obtain ⟨rfl, rfl, rfl⟩ : po = po' ∧ n = l.length ∧ cap = cap' := by simpa using e
  refine ⟨po, cap, by rw [List.length_take, Nat.min_eq_left hm], by rw [List.length_take]; omega, fun j y hj => hl j y ?_⟩
  rw [List.getElem?_take] at hj
  split at hj
  · exact hj
  · cases hj
end Go.Proofs.YtoijhecphgdfnaaGreatDoor

/-
  The program's automata: over, again, closed, stay, strange, refusedOrOver, heardAhead, heardBehind.
-/
namespace Go.Proofs.YtoijhecphgdfnaaGreatDoor
open Go.RowKit

/-- What a want's function answers. -/
def WQ (st lf : Int) (l : ActL) (w : World) (r : Ending) (w' : World) : Prop := ∃ po cap, r = .returned (.tuple #[.agg #[.int .i64 st, .int .i64 lf], .slice po l.length cap]) ∧ ActRow w' w.heap.size (.slice po l.length cap) l ∧ Below w.heap.size w w'
theorem fin2 {w x : World} {R B : Nat} {v u0 u1 : Value} {l : ActL} (hb : Below w.heap.size w x) (hr : ActRow x B v l) (hR : w.heap.size ≤ R) (hB : R < B) : ActRow ((x.setCell ⟨R, 0, none⟩ u0).setCell ⟨R, 1, none⟩ u1) w.heap.size v l ∧ Below w.heap.size w ((x.setCell ⟨R, 0, none⟩ u0).setCell ⟨R, 1, none⟩ u1) :=
  ⟨((hr.set (p := ⟨R, 0, none⟩) (fun g hg => by have := hr.ne hg; simp only; omega)).set (p := ⟨R, 1, none⟩) (fun g hg => by have := hr.ne hg; simp only; omega)).mono (by omega), (hb.setCell (p := ⟨R, 0, none⟩) hR _).setCell (p := ⟨R, 1, none⟩) hR _⟩
theorem passOver_any (w : World) : Calls Tryz.prog 96 #[] w fun r w' => ∃ b, r = .returned (.slice (some ⟨b, 0, none⟩) 1 1) ∧ ActRow w' w.heap.size (.slice (some ⟨b, 0, none⟩) 1 1) [(6, nT)] ∧ Below w.heap.size w w' := by
  go_enter Tryz.func96, Tryz.ntmps96
  go_wp2_with fail
  go_ret
  exact ⟨_, rfl, ActRow.lit' _ _ [(6, nT)] w.heap.size 1 _ (by simp) (by simp) rfl rfl (by simp) (by simp), (Below.refl _ _).alloc (Nat.le_refl _) _⟩
/-- Whether it is a refusal by number. -/
def numB (s : ByteArray) (n : Bool) : Bool := n && (s.toList == [67, 69] || s.toList == [65, 69])
set_option maxHeartbeats 1000000 in
theorem isBy_any (s : ByteArray) (n : Bool) (w : World) : Calls Tryz.prog 125 #[.agg #[.string s, .bool n]] w fun r w' => r = .returned (.bool (numB s n)) ∧ Below w.heap.size w w' := by
  cases n
  all_goals
    go_enter Tryz.func125, Tryz.ntmps125
    go_wp2
    all_goals (go_ret; exact ⟨ret_bool (by unfold numB; simp [*]), (Below.refl _ _).alloc (Nat.le_refl _) _⟩)
set_option maxRecDepth 100000 in
set_option maxHeartbeats 2000000 in
theorem over_any (st lf k : Int) (s : ByteArray) (w : World) : Calls Tryz.prog 124 #[.agg #[.int .i64 st, .int .i64 lf], .int .i64 k, .string s] w (WQ (k) (lf) [(4, s)] w) := by
  go_enter Tryz.func124, Tryz.ntmps124
  go_wp2_with fail
  refine bodyPost_ret (v := .tuple #[.agg #[.int .i64 (k), .int .i64 (lf)], .slice (some ⟨w.heap.size + 1 + 1, 0, none⟩) 1 1]) ?_ rfl ⟨_, _, rfl, ActRow.lit' _ _ [(4, s)] (w.heap.size + 1 + 1) 1 _ (by simp) (by omega) rfl rfl (by simp) (by simp), ?_⟩
  · simp [results, Tryz.results124, go_sem]
  · exact bl_alloc (bl_alloc ((Below.refl _ _).alloc (Nat.le_refl _) _) _) _
set_option maxRecDepth 100000 in
set_option maxHeartbeats 2000000 in
theorem stay_any (st lf : Int) (w : World) : Calls Tryz.prog 121 #[.agg #[.int .i64 st, .int .i64 lf]] w (WQ (st) (lf) [] w) := by
  go_enter Tryz.func121, Tryz.ntmps121
  go_wp2_with fail
  refine bodyPost_ret (v := .tuple #[.agg #[.int .i64 (st), .int .i64 (lf)], .slice none 0 0]) ?_ rfl ⟨_, _, rfl, ActRow.nil _ _, ?_⟩
  · simp [results, Tryz.results121, go_sem]
  · exact bl_alloc ((Below.refl _ _).alloc (Nat.le_refl _) _) _
set_option maxRecDepth 100000 in
set_option maxHeartbeats 2000000 in
theorem again_0 (st : Int) (w : World) : Calls Tryz.prog 115 #[.agg #[.int .i64 st, .int .i64 0]] w (WQ (6) (0) [(4, nT)] w) := by
  go_enter Tryz.func115, Tryz.ntmps115
  go_wp2_with fail
  refine (over_any st 0 6 nT _).mono ?_
  rintro _ w1 ⟨po, cap, rfl, r1, b1⟩
  have HB1 : Hid (Below w.heap.size w w1) := below_then (bl_alloc ((Below.refl _ _).alloc (Nat.le_refl _) _) _) b1
  have X1_0 : Hid (Box w1 (w.heap.size) #[.int .i64 st, .int .i64 0]) := ((Box.new' _ #[.int .i64 st, .int .i64 0] 89 (w.heap.size) (by simp)).alloc _).below b1
  have X1_1 : Hid (Box w1 (w.heap.size + 1) #[.int .i64 0, .int .i64 0]) := (Box.new' _ #[.int .i64 0, .int .i64 0] 89 (w.heap.size + 1) (by simp)).below b1
  obtain ⟨l1_0, k1_0, f1_0⟩ := X1_0.out
  obtain ⟨l1_1, k1_1, f1_1⟩ := X1_1.out
  have HR : Hid (ActRow w1 (w.heap.size + 1 + 1) (.slice po _ cap) _) := r1.mono (by simp)
  clear b1 r1
  go_wp2_with fail
  refine bodyPost_ret (v := .tuple #[.agg #[.int .i64 (6), .int .i64 (0)], .slice po _ cap]) ?_ rfl ⟨po, cap, rfl, ?_, ?_⟩
  · simp [results, Tryz.results115, go_sem, k1_1]
  · exact (fin2 HB1.out HR.out (by omega) (by omega)).1
  · exact (fin2 HB1.out HR.out (by omega) (by omega)).2
set_option maxRecDepth 100000 in
set_option maxHeartbeats 2000000 in
theorem again_1 (st lf : Int) (w : World) (h0 : 0 < lf) (h1 : lf ≤ 16) : Calls Tryz.prog 115 #[.agg #[.int .i64 st, .int .i64 lf]] w (WQ (st) (lf - 1) [(1, nT), (2, nT)] w) := by
  have h2 : (lf == 0) = false := by simp; omega
  have h3 : ¬ lf = 0 := by omega
  go_enter Tryz.func115, Tryz.ntmps115
  go_wp2_with fail
  refine bodyPost_ret (v := .tuple #[.agg #[.int .i64 (st), .int .i64 (lf - 1)], .slice (some ⟨w.heap.size + 1 + 1, 0, none⟩) 2 2]) ?_ rfl ⟨_, _, rfl, ActRow.lit' _ _ [(1, nT), (2, nT)] (w.heap.size + 1 + 1) 2 _ (by simp) (by omega) rfl rfl (by simp) (by simp), ?_⟩
  · simp [results, Tryz.results115, go_sem]
  · exact bl_alloc (bl_alloc ((Below.refl _ _).alloc (Nat.le_refl _) _) _) _
set_option maxRecDepth 100000 in
set_option maxHeartbeats 2000000 in
theorem closed_any (st lf : Int) (w : World) : Calls Tryz.prog 119 #[.agg #[.int .i64 st, .int .i64 lf]] w (WQ (5) (lf) [(4, nT)] w) := by
  go_enter Tryz.func119, Tryz.ntmps119
  go_wp2_with fail
  refine (over_any st lf 5 nT _).mono ?_
  rintro _ w1 ⟨po, cap, rfl, r1, b1⟩
  have HB1 : Hid (Below w.heap.size w w1) := below_then (bl_alloc ((Below.refl _ _).alloc (Nat.le_refl _) _) _) b1
  have X1_0 : Hid (Box w1 (w.heap.size) #[.int .i64 st, .int .i64 lf]) := ((Box.new' _ #[.int .i64 st, .int .i64 lf] 89 (w.heap.size) (by simp)).alloc _).below b1
  have X1_1 : Hid (Box w1 (w.heap.size + 1) #[.int .i64 0, .int .i64 0]) := (Box.new' _ #[.int .i64 0, .int .i64 0] 89 (w.heap.size + 1) (by simp)).below b1
  obtain ⟨l1_0, k1_0, f1_0⟩ := X1_0.out
  obtain ⟨l1_1, k1_1, f1_1⟩ := X1_1.out
  have HR : Hid (ActRow w1 (w.heap.size + 1 + 1) (.slice po _ cap) _) := r1.mono (by simp)
  clear b1 r1
  go_wp2_with fail
  refine bodyPost_ret (v := .tuple #[.agg #[.int .i64 (5), .int .i64 (lf)], .slice po _ cap]) ?_ rfl ⟨po, cap, rfl, ?_, ?_⟩
  · simp [results, Tryz.results119, go_sem, k1_1]
  · exact (fin2 HB1.out HR.out (by omega) (by omega)).1
  · exact (fin2 HB1.out HR.out (by omega) (by omega)).2
end Go.Proofs.YtoijhecphgdfnaaGreatDoor
