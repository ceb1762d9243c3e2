/-
  The inbox's leaves: faults, numbers, codes, control ids.
-/
import Derived.Test.YtplhdgijjckjcaaGreatDoorIbMap
namespace Go.Proofs.YtplhdgijjckjcaaGreatDoor
open Go.RowKit

section
variable {P : Program} {ops : Array Oper} {o : Oper} {a : Act} {w w' : World} {K : Act → World → Prop} {Q : Exit → Act → World → Prop} {E : Prop}
theorem step_upd_run (hgd : o.guard = none) (m x u : Operand) (t : TypeId) (ho : o.op = Op.mapUpdate t m x u) {mv xv uv : Value} (hm : a.eval m = mv) (hx : a.eval x = xv) (hu : a.eval u = uv) (hr : (Instr.mapUpdate t mv xv uv).run P w = .ok () w') (h : K (a.put o.dst undef) w') :
    if Region.wanted o (yielded ops a.tmps) = true then Oper.wp P o a w K Q else E := by
  have hw : Region.wanted o (yielded ops a.tmps) = true := by simp [Region.wanted, hgd]
  rw [if_pos hw]
  unfold Oper.wp execOp
  simp only [ho, Sem.run_bind, Sem.run_pure, Result.andThen_ok, hm, hx, hu, hr]
  exact h
theorem step_del_run (hgd : o.guard = none) (m x : Operand) (t k : TypeId) (ho : o.op = Op.call { callee := Callee.builtin Builtin.delete, args := #[m, x], argTypes := #[t, k] }) {mv xv r : Value} (hm : a.eval m = mv) (hx : a.eval x = xv) (hr : (Builtin.delete_ #[t, k] o.type #[mv, xv]).run P w = .ok r w') (h : K (a.put o.dst r) w') :
    if Region.wanted o (yielded ops a.tmps) = true then Oper.wp P o a w K Q else E := by
  have hw : Region.wanted o (yielded ops a.tmps) = true := by simp [Region.wanted, hgd]
  rw [if_pos hw]
  unfold Oper.wp execOp
  simp only [ho, resolve, invoke, builtin, Sem.run_bind, Sem.run_pure, Result.andThen_ok, List.map_toArray, List.map_cons, List.map_nil, hm, hx, hr]
  exact h
end
/-- The cells of a fault of layer "inbox". -/
def IFault (w : World) (b : Nat) (a code : Int) : Prop :=
  w.cell? ⟨b, 0, none⟩ = some (.string ⟨#[105, 110, 98, 111, 120]⟩) ∧ w.cell? ⟨b, 1, none⟩ = some (.int .i64 a) ∧ w.cell? ⟨b, 2, none⟩ = some (.int .i64 code) ∧ w.cell? ⟨b, 3, none⟩ = some .nilIface
theorem IFault.keep {w w' : World} {b : Nat} {a c : Int} (h : IFault w b a c) (hk : ∀ o, w'.cell? ⟨b, o, none⟩ = w.cell? ⟨b, o, none⟩) : IFault w' b a c :=
  ⟨by rw [hk]; exact h.1, by rw [hk]; exact h.2.1, by rw [hk]; exact h.2.2.1, by rw [hk]; exact h.2.2.2⟩
theorem IFault.below {w w' : World} {b : Nat} {a c : Int} (h : IFault w b a c) (hb : Below w.heap.size w w') : IFault w' b a c := by
  have hl : b < w.heap.size := cell_lt h.1
  exact h.keep fun o => hb.cell (p := ⟨b, o, none⟩) hl
/-- An error that is just that: none where the number is 0; its block is new (from B on). -/
def OEv (w : World) (B : Nat) (v : Value) (a code : Int) : Prop := (v = .nilIface ∧ code = 0) ∨ (code ≠ 0 ∧ ∃ b, v = .iface 98 (.pointer (some ⟨b, 0, none⟩)) ∧ B ≤ b ∧ IFault w b a code)
theorem OEv.keep {w w' : World} {B : Nat} {v : Value} {a c : Int} (h : OEv w B v a c) (hk : ∀ b o, b < w.heap.size → B ≤ b → w'.cell? ⟨b, o, none⟩ = w.cell? ⟨b, o, none⟩) : OEv w' B v a c := by
  rcases h with h | ⟨h0, b, h1, h2, h3⟩
  · exact Or.inl h
  · exact Or.inr ⟨h0, b, h1, h2, h3.keep fun o => hk b o (cell_lt h3.1) h2⟩
theorem OEv.below {w w' : World} {B : Nat} {v : Value} {a c : Int} (h : OEv w B v a c) (hb : Below w.heap.size w w') : OEv w' B v a c := h.keep fun b o hl _ => hb.cell (p := ⟨b, o, none⟩) hl
theorem OEv.mono {w : World} {B C : Nat} {v : Value} {a c : Int} (h : OEv w B v a c) (hB : C ≤ B) : OEv w C v a c := by
  rcases h with h | ⟨h0, b, h1, h2, h3⟩
  · exact Or.inl h
  · exact Or.inr ⟨h0, b, h1, Nat.le_trans hB h2, h3⟩
theorem oev_ok (w : World) (B : Nat) (a : Int) : OEv w B .nilIface a 0 := Or.inl ⟨rfl, rfl⟩
set_option maxHeartbeats 400000 in
theorem fault_any (a code : Int) (w : World) : Calls Tryz.prog 43 #[.int .i64 a, .int .i64 code] w fun e w' => e = .returned (.iface 98 (.pointer (some ⟨w.heap.size, 0, none⟩))) ∧ IFault w' w.heap.size a code ∧ Below w.heap.size w w' := by
  go_enter Tryz.func43, Tryz.ntmps43
  go_wp2
  go_ret
  exact ⟨rfl, ⟨by simp, by simp, by simp, by simp⟩, (Below.refl _ _).alloc (Nat.le_refl _) _⟩
set_option maxHeartbeats 400000 in
theorem isWithin_any (n a b : Int) (w : World) : Calls Tryz.prog 83 #[.int .i64 n, .int .i64 a, .int .i64 b] w fun e w' => e = .returned (.bool (decide (a ≤ n) && decide (n ≤ b))) ∧ w' = w := by
  go_enter Tryz.func83, Tryz.ntmps83
  go_wp2
  all_goals (go_ret; exact ⟨ret_bool (by rw [Bool.eq_iff_iff]; simp; try omega), rfl⟩)
set_option maxHeartbeats 1000000 in
theorem isVerdict_any (s : ByteArray) (w : World) : Calls Tryz.prog 59 #[.string s] w fun e w' => e = .returned (.bool (vdB s)) ∧ w' = w := by
  cases h1 : (s.toList == [65, 65]) <;> cases h2 : (s.toList == [65, 69]) <;> cases h3 : (s.toList == [65, 82])
  all_goals
    go_enter Tryz.func59, Tryz.ntmps59
    go_wp2
    go_ret
    exact ⟨ret_bool (by simp [vdB, h1, h2, h3]), rfl⟩
set_option maxHeartbeats 1000000 in
theorem isDecided_any (e : Ent) (w : World) : Calls Tryz.prog 52 #[.agg #[.string e.ct, .slice e.tp e.tn e.tc, .int .i64 e.nu, .int .i64 e.tk, .slice e.cp e.cn e.cc, .string e.cd, .slice e.ap e.an e.ac]] w fun r w' => r = .returned (.bool (dcB e)) ∧ Below w.heap.size w w' := by
  have bv : Below w.heap.size w (w.alloc (.cells #[.string e.ct, .slice e.tp e.tn e.tc, .int .i64 e.nu, .int .i64 e.tk, .slice e.cp e.cn e.cc, .string e.cd, .slice e.ap e.an e.ac] 29)) := (Below.refl _ _).alloc (Nat.le_refl _) _
  cases h1 : e.cd.toList.isEmpty
  all_goals
    have HB : Hid (Below w.heap.size w (w.alloc (.cells #[.string e.ct, .slice e.tp e.tn e.tc, .int .i64 e.nu, .int .i64 e.tk, .slice e.cp e.cn e.cc, .string e.cd, .slice e.ap e.an e.ac] 29))) := bv
    clear bv
    go_enter Tryz.func52, Tryz.ntmps52
    go_wp2
    go_ret
    exact ⟨ret_bool (by simp [dcB, h1]), HB.out⟩
set_option maxHeartbeats 1000000 in
theorem isCB_any (c : Int) (w : World) : Calls Tryz.prog 90 #[.int .u8 c] w fun e w' => e = .returned (.bool (cbB c)) ∧ w' = w := by
  go_enter Tryz.func90, Tryz.ntmps90
  go_wp2
  all_goals (go_ret; exact ⟨ret_bool (by unfold cbB; rw [Bool.eq_iff_iff]; simp; try (first | omega | (intros; omega))), rfl⟩)
set_option maxRecDepth 100000 in
set_option maxHeartbeats 2000000 in
theorem isControl_any (s : ByteArray) (w : World) : Calls Tryz.prog 81 #[.string s] w fun e w' => e = .returned (.bool (ctB s)) ∧ Below w.heap.size w w' := by
  by_cases h0 : ¬ (1 ≤ s.size ∧ s.size ≤ 18)
  · have e0 : ctB s = false := by
      unfold ctB
      by_cases h : 1 ≤ s.size
      · rw [decide_eq_false (show ¬ s.size ≤ 18 from fun g => h0 ⟨h, g⟩)]; simp
      · rw [decide_eq_false h]; rfl
    rw [e0]
    have hw1 := isWithin_any (s.size : Int) 1 18 w
    rw [show (decide ((1 : Int) ≤ (s.size : Int)) && decide ((s.size : Int) ≤ 18)) = false by rw [Bool.eq_false_iff]; simp; intro h; omega] at hw1
    clear h0 e0
    go_enter Tryz.func81, Tryz.ntmps81
    go_wp2_with (go_at_call 83; refine hw1.mono ?_; rintro _ w9 ⟨rfl, h9⟩; subst w9)
    go_ret
    exact ⟨rfl, Below.refl _ _⟩
  have h0 : 1 ≤ s.size ∧ s.size ≤ 18 := Classical.not_not.1 h0
  have h18 : ¬ 18 < s.size := by omega
  have hw1 := isWithin_any (s.size : Int) 1 18 (w := w)
  rw [show (decide ((1 : Int) ≤ (s.size : Int)) && decide ((s.size : Int) ≤ 18)) = true by simp; omega] at hw1
  have hcv : (convert 9 27 (.string s)).run Tryz.prog w = _ := Lib.run_convert_string_bytes _ 9 27 5 s Tryz.underlying9 Tryz.underlying27 Tryz.underlying5
  have hc2 := fun j hj => Lib.bytesWorld_cell w 5 s j hj
  have hb2 : Below w.heap.size w (Lib.bytesWorld w 5 s) := ⟨rfl, rfl, rfl, by rw [Lib.bytesWorld_size]; omega, fun k hk => Lib.bytesWorld_at_old w _ s k hk⟩
  obtain ⟨W2, hW2⟩ : ∃ W2, Lib.bytesWorld w 5 s = W2 := ⟨_, rfl⟩
  rw [hW2] at hcv hc2 hb2
  obtain ⟨cap, hcap⟩ : ∃ c, grownCap w s.size 0 5 = c := ⟨_, rfl⟩
  rw [hcap] at hcv
  obtain ⟨n, hn⟩ : ∃ n, s.size = n := ⟨_, rfl⟩
  have HN : Hid (s.data.toList.length = n) := by unfold Hid; rw [← hn]; rfl
  have HE : Hid (ctB s = s.data.toList.all (fun c => cbB (c.toNat : Int))) := by
    unfold ctB; rw [decide_eq_true (show 1 ≤ s.size by omega), decide_eq_true (show s.size ≤ 18 by omega)]; rfl
  rw [hn] at hcv h0 h18 hc2 hw1
  have HC : Hid (∀ j, j < n → W2.cell? ⟨w.heap.size, j, none⟩ = some (.int .u8 (s.data.toList.getD j 0).toNat)) := hc2
  have HB : Hid (Below w.heap.size w W2) := hb2
  have hsz : (s.size : Int) = n := by rw [hn]
  clear hW2 hcap hc2 hb2 hn
  go_enter Tryz.func81, Tryz.ntmps81
  go_wp2_with (go_at_call 83; refine hw1.mono ?_; rintro _ w9 ⟨rfl, h9⟩; subst w9)
  clear hw1
  go_loopw [12] (fun t wx => ∃ i : Nat, i ≤ n ∧ t = .int .i64 i ∧ wx = W2 ∧ Hid ((s.data.toList.take i).all (fun c => cbB (c.toNat : Int)) = true)) (fun t _ => n - (intOf t).toNat)
  case atStart => exact ⟨0, Nat.zero_le _, rfl, rfl, rfl⟩
  case round =>
    obtain ⟨i, hi, rfl, rfl, HA⟩ := hrel
    by_cases hlt : i < n
    · have hlt1 : (i : Int) < n := by omega
      have ci := HC.out i hlt
      obtain ⟨b, hb⟩ : ∃ b, s.data.toList.getD i 0 = b := ⟨_, rfl⟩
      rw [hb] at ci
      have hil : i < s.data.toList.length := by rw [HN.out]; exact hlt
      have hgt : s.data.toList[i]'hil = b := by rw [← hb, List.getD_eq_getElem?_getD, List.getElem?_eq_getElem hil]; rfl
      have HB1 : Hid (s.data.toList[i]'hil = b) := hgt
      clear hb hgt
      cases hc : cbB (b.toNat : Int) with
      | true =>
        have hcb := isCB_any (b.toNat : Int) wr
        rw [hc] at hcb
        have HH : Hid (cbB (b.toNat : Int) = true) := hc
        clear hc
        go_wp2_with fail
        refine hcb.mono ?_
        rintro _ w9 ⟨rfl, h9⟩
        subst w9
        go_wp2_with fail
        go_roundw
        case rel =>
          refine ⟨i + 1, hlt, by go_num, by trivial, ?_⟩
          unfold Hid
          rw [List.take_succ_eq_append_getElem hil, List.all_append, HA.out, HB1.out]
          simp [HH.out]
        case measure => simp [intOf]; omega
      | false =>
        have hcb := isCB_any (b.toNat : Int) wr
        rw [hc] at hcb
        have HH : Hid (ctB s = false) := by
          unfold Hid
          rw [HE.out, List.all_eq_false]
          exact ⟨s.data.toList[i]'hil, List.getElem_mem hil, by rw [HB1.out, hc]; simp⟩
        clear hc
        go_wp2_with fail
        refine hcb.mono ?_
        rintro _ w9 ⟨rfl, h9⟩
        subst w9
        go_wp2_with fail
        go_ret
        exact ⟨ret_bool HH.out.symm, HB.out⟩
    · have hlt1 : ¬ (i : Int) < n := by omega
      have HH : Hid (ctB s = true) := by
        unfold Hid
        rw [HE.out, ← HA.out, List.take_of_length_le (by rw [HN.out]; omega)]
      go_wp2_with fail
      go_ret
      exact ⟨ret_bool HH.out.symm, HB.out⟩
end Go.Proofs.YtplhdgijjckjcaaGreatDoor
