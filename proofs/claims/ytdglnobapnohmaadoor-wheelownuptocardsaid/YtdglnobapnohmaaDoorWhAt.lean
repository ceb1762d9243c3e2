/-
  timers: count, at.
-/
import Derived.Test.YtdglnobapnohmaaDoorWhMem
namespace Go.Proofs.YtdglnobapnohmaaDoor
open Go.RowKit

theorem plV_ls {l s j : Nat} (hs : s < 64) : plV (64 * l + s, j) = .agg #[.int .i64 (l : Int), .int .i64 (s : Int), .int .i64 (j : Int)] := by
  unfold plV
  simp only
  rw [show (64 * l + s) / 64 = l by omega, show (64 * l + s) % 64 = s by omega]
theorem quiet_draw {P : Program} {f : FuncId} {args : Array Value} {w : World} {n : Nat} {v : Value} (h : Calls P f args (w.drewN n) fun e w' => e = .returned v ∧ ∃ q, w' = (w.drewN n).drewN q) : Calls P f args (w.drewN n) fun e w'' => e = .returned v ∧ ∃ m, w'' = w.drewN m :=
  h.mono fun _ _ ⟨he, q, hq⟩ => ⟨he, n + q, by rw [hq, World.drewN_drewN]⟩
/-! ### steps in a region -/
section
variable {P : Program} {ops : Array Oper} {o : Oper} {a : Act} {w w' : World} {K : Act → World → Prop} {Q : Exit → Act → World → Prop} {E : Prop}
theorem step_upd_run (hgd : o.guard = none) (m x u : Operand) (t : TypeId) (ho : o.op = Op.mapUpdate t m x u) {mv xv uv : Value} (hm : a.eval m = mv) (hx : a.eval x = xv) (hu : a.eval u = uv) (hr : (Instr.mapUpdate t mv xv uv).run P w = .ok () w') (h : K (a.put o.dst undef) w') :
    if Region.wanted o (yielded ops a.tmps) = true then Oper.wp P o a w K Q else E := by
  have hw : Region.wanted o (yielded ops a.tmps) = true := by simp [Region.wanted, hgd]
  rw [if_pos hw]
  unfold Oper.wp execOp
  simp only [ho, Sem.run_bind, Sem.run_pure, Result.andThen_ok, hm, hx, hu, hr]
  exact h
theorem step_app_run (hgd : o.guard = none) (s x : Operand) (t : TypeId) (ho : o.op = Op.call { callee := Callee.builtin Builtin.append, args := #[s, x], argTypes := #[t, t] }) {sv xv r : Value} (hs : a.eval s = sv) (hx : a.eval x = xv) (hr : (Builtin.append_ #[t, t] o.type #[sv, xv]).run P w = .ok r w') (h : K (a.put o.dst r) w') :
    if Region.wanted o (yielded ops a.tmps) = true then Oper.wp P o a w K Q else E := by
  have hw : Region.wanted o (yielded ops a.tmps) = true := by simp [Region.wanted, hgd]
  rw [if_pos hw]
  unfold Oper.wp execOp
  simp only [ho, resolve, invoke, builtin, Sem.run_bind, Sem.run_pure, Result.andThen_ok, List.map_toArray, List.map_cons, List.map_nil, hs, hx, hr]
  exact h
end
section
variable {w : World} {B T M now n : Nat} {v : Nat → Value} {L : Nat → List Tm} {f : Int → Option (Nat × Nat)}
theorem count_any (h : Tms w B T M now v L f n) : Calls Tryd.prog 30 #[.pointer (some ⟨T, 0, none⟩)] w fun e w' => e = .returned (.int .i64 (n : Int)) ∧ w' = w := by
  have c := h.tb.cm
  have hl := h.mp.len
  go_enter Tryd.func30, Tryd.ntmps30
  go_wp2
  go_ret
  exact ⟨rfl, rfl⟩
set_option maxHeartbeats 1000000 in
theorem at_no (h : Tms w B T M now v L f n) {k : Int} (hk : KeyI k) (hf : f k = none) : Calls Tryd.prog 29 #[.pointer (some ⟨T, 0, none⟩), .int .i64 k] w fun e w' => e = .returned (.tuple #[.int .i64 0, .bool false]) ∧ Below w.heap.size w w' := by
  have c := h.tb.cm
  have hl := h.mp.look_no hk hf
  have hb : ∀ o, Below w.heap.size w (w.alloc o) := fun o => (Below.refl _ _).alloc (Nat.le_refl _) _
  go_enter Tryd.func29, Tryd.ntmps29
  go_wp2
  refine bodyPost_ret ?_ rfl ⟨rfl, hb _⟩
  simp [results, Tryd.results29, go_sem]
set_option maxHeartbeats 2000000 in
theorem at_yes (h : Tms w B T M now v L f n) {k k' : Int} {l s j t : Nat} (hk : KeyI k) (hl : l < 7) (hs : s < 64) (hf : f k = some (64 * l + s, j)) (hx : (L (64 * l + s))[j]? = some (k', t)) :
    Calls Tryd.prog 29 #[.pointer (some ⟨T, 0, none⟩), .int .i64 k] w fun e w' => e = .returned (.tuple #[.int .i64 (t : Int), .bool true]) ∧ Below w.heap.size w w' := by
  have c := h.tb.cm
  have hlk := h.mp.look_yes hk hf
  rw [plV_ls hs] at hlk
  have hi : 64 * l + s < 448 := by omega
  have hr := h.row _ hi
  obtain ⟨a, cp, hv, _⟩ := hr.isSlice
  have cv := h.tb.cl hi
  rw [hv] at hr cv
  obtain ⟨g, rfl, hg, hc⟩ := hr.at_ encT_len hx
  have hjl := (List.getElem?_eq_some_iff.1 hx).1
  have c1 := hc 1 (by omega)
  have cT : ∀ o, (w.alloc o).cell? ⟨T, 1 + l * 64 + s, none⟩ = some (.slice (some ⟨g, 0, none⟩) (L (64 * l + s)).length cp) := fun o => by
    rw [World.cell?_alloc_lt _ _ ⟨T, 1 + l * 64 + s, none⟩ h.tb.lt, show 1 + l * 64 + s = 1 + (64 * l + s) by omega]; exact cv
  have cG : ∀ o, (w.alloc o).cell? ⟨g, j * 2 + 1, none⟩ = some (.int .i64 (t : Int)) := fun o => by
    rw [World.cell?_alloc_lt _ _ ⟨g, j * 2 + 1, none⟩ hg]; exact c1
  have hb : ∀ o k, Below w.heap.size w ((w.alloc o).drewN k) := fun o k => below_drewN ((Below.refl _ _).alloc (Nat.le_refl _) _) k
  generalize (L (64 * l + s)).length = m at cT hjl
  have hj0 : (j : Int) < m := by omega
  have hl0 : (l : Int) < 7 := by omega
  have hs0 : (s : Int) < 64 := by omega
  clear hv hc hr cv hx hf h
  go_enter Tryd.func29, Tryd.ntmps29
  go_wp2
  go_quiet (fail)
  go_wp2
  refine bodyPost_ret ?_ rfl ⟨rfl, hb _ _⟩
  simp [results, Tryd.results29, go_sem]
end
end Go.Proofs.YtdglnobapnohmaaDoor
