import Derived.Test.YtfkcnnjkflomkaaDoorWRep2
import Derived.Test.YtfkcnnjkflomkaaDoorWFuseE
import Derived.Test.YtfkcnnjkflomkaaDoorWCode
/-
  The law's beginning: lists of records, the one's beginning of the other.
-/
namespace Go.Proofs.YtfkcnnjkflomkaaDoor
open Go.RowKit Go.BigFrame

set_option maxRecDepth 100000 in
set_option maxHeartbeats 4000000 in
theorem beginning_true {x : World} {N M : Nat} {ao bo : Option Addr} {ac bc : Nat} {us vs : List Value} {ds rs : List (List Int)} (hu : VRow x N 28 (.slice ao us.length ac) us) (hv : VRow x M 28 (.slice bo vs.length bc) vs) (pu : Pcs x us ds) (pv : Pcs x vs rs) (hle : us.length ≤ vs.length) (hpre : ∀ (j : Nat) (d : List Int), ds[j]? = some d → rs[j]? = some d) (hn : vs.length ≤ 16777216) (hdl : ∀ d ∈ ds, d.length ≤ 16777216) :
    Calls Tryd.prog 17 #[.slice ao us.length ac, .slice bo vs.length bc] x fun e w' => e = .returned (.bool true) ∧ Below x.heap.size x w' := by
  have HS : Hid (VRow x N 28 (.slice ao us.length ac) us ∧ VRow x M 28 (.slice bo vs.length bc) vs ∧ Pcs x us ds ∧ Pcs x vs rs ∧ (∀ (j : Nat) (d : List Int), ds[j]? = some d → rs[j]? = some d) ∧ ∀ d ∈ ds, d.length ≤ 16777216) := ⟨hu, hv, pu, pv, hpre, hdl⟩
  obtain ⟨n, hnn⟩ : ∃ n, us.length = n := ⟨_, rfl⟩
  obtain ⟨m, hmm⟩ : ∃ m, vs.length = m := ⟨_, rfl⟩
  have HN : Hid (us.length = n ∧ vs.length = m) := ⟨hnn, hmm⟩
  rw [hnn, hmm] at hle ⊢
  rw [hmm] at hn
  clear hu hv pu pv hpre hdl hnn hmm
  have q1 : ¬ (m : Int) < (n : Int) := by omega
  have q2 : decide ((m : Int) < (n : Int)) = false := decide_eq_false q1
  have hni : (n : Int) ≤ 16777216 := by omega
  go_enter Tryd.func17, Tryd.ntmps17
  go_wp2_with fail
  go_loopw [5] (fun t5 wx => ∃ j : Nat, j ≤ n ∧ t5 = .int .i64 j ∧ Hid (Below x.heap.size x wx)) (fun t5 _ => n - (intOf t5).toNat)
  case atStart => exact ⟨0, by omega, rfl, Below.refl _ _⟩
  case round =>
    obtain ⟨j, hj, rfl, HB⟩ := hrel
    by_cases hlt : j < n
    · have hlti : (j : Int) < n := by omega
      have hjm : (j : Int) < m := by omega
      obtain ⟨u, hju⟩ : ∃ u, us[j]? = some u := ⟨_, List.getElem?_eq_getElem (by have := HN.out.1; omega)⟩
      obtain ⟨v, hjv⟩ : ∃ v, vs[j]? = some v := ⟨_, List.getElem?_eq_getElem (by have := HN.out.2; omega)⟩
      obtain ⟨hu, hv, pu, pv, hpre, hdl⟩ := HS.out
      obtain ⟨d, hjd⟩ : ∃ d, ds[j]? = some d := ⟨_, List.getElem?_eq_getElem (by have := HN.out.1; have := pu.1; omega)⟩
      obtain ⟨ua, uc, rfl, hub, _⟩ := pu.2 j u d hju hjd
      obtain ⟨va, vc, rfl, hvb, _⟩ := pv.2 j v d hjv (hpre j d hjd)
      obtain ⟨ga, rfl⟩ : ∃ g, ao = some ⟨g, 0, none⟩ := by
        rcases hu.form with ⟨e, h0⟩ | ⟨g, cap, e, _⟩
        · rw [h0] at hju; cases hju
        · cases e; exact ⟨g, rfl⟩
      obtain ⟨gb, rfl⟩ : ∃ g, bo = some ⟨g, 0, none⟩ := by
        rcases hv.form with ⟨e, h0⟩ | ⟨g, cap, e, _⟩
        · rw [h0] at hjv; cases hjv
        · cases e; exact ⟨g, rfl⟩
      have c1 : wr.cell? ⟨ga, j, none⟩ = some (.slice ua d.length uc) := (HB.out.cell (p := ⟨ga, j, none⟩) (cell_lt (hu.slot hju))).trans (hu.slot hju)
      have c2 : wr.cell? ⟨gb, j, none⟩ = some (.slice va d.length vc) := (HB.out.cell (p := ⟨gb, j, none⟩) (cell_lt (hv.slot hjv))).trans (hv.slot hjv)
      have hd47 : d.length ≤ 16777216 := hdl d (List.mem_of_getElem? hjd)
      have HSm : Hid (∀ z, Below wr.heap.size wr z → Calls Tryd.prog 15 #[.slice ua d.length uc, .slice va d.length vc] z fun e w' => e = .returned (.bool true) ∧ Below wr.heap.size wr w' ∧ w'.cell? ⟨ga, j, none⟩ = some (.slice ua d.length uc) ∧ w'.cell? ⟨gb, j, none⟩ = some (.slice va d.length vc)) := fun z hz => (same_true (hub.below (below_then HB.out hz)) (hvb.below (below_then HB.out hz)) (by omega)).mono fun e w' ⟨he, q, hq⟩ => by
        have hb' : Below wr.heap.size wr w' := by rw [hq]; exact hz.trans ⟨rfl, rfl, rfl, Nat.le_refl _, fun _ _ => rfl⟩
        exact ⟨he, hb', (hb'.cell (p := ⟨ga, j, none⟩) (cell_lt c1)).trans c1, (hb'.cell (p := ⟨gb, j, none⟩) (cell_lt c2)).trans c2⟩
      have hB0 : Below wr.heap.size wr wr := Below.refl _ _
      clear hu hv pu pv hpre hdl hub hvb hju hjv hjd
      go_wp2_with fail
      go_region_held3 (fun z => z.cell? ⟨ga, j, none⟩ = some (.slice ua d.length uc) ∧ z.cell? ⟨gb, j, none⟩ = some (.slice va d.length vc)) (simp [*]) (first | (go_at_call 15; refine (HSm.out _ ?_).mono ?_; (first | assumption | exact Below.drew (by assumption)); rintro e wp ⟨rfl, hp1, f0, f1⟩))
      all_goals
        go_wp2_with fail
        go_roundw
        case rel => exact ⟨j + 1, by omega, by go_num, below_then HB.out hp1⟩
        case measure => simp [intOf]; omega
    · have hlti : ¬ (j : Int) < n := by omega
      go_wp2_with fail
      go_ret
      exact ⟨rfl, HB.out⟩
end Go.Proofs.YtfkcnnjkflomkaaDoor

/-
  The law WalFuse: what its walk asks.
-/
namespace Go.Proofs.YtfkcnnjkflomkaaDoor
open Go.RowKit Go.BigFrame

theorem fz_field (a b c d e : Int) (w : World) : (Instr.field 40 (.agg #[.int .u64 a, .int .i64 b, .int .i64 c, .int .i64 d, .int .i64 e]) 3).run Tryd.prog w = .ok (.int .i64 d) w := by kernel_rfl
theorem fz_drewN {B : Nat} {w w' : World} (h : Below B w w') (m : Nat) : Below B w (w'.drewN m) := h.trans ⟨rfl, rfl, rfl, Nat.le_refl _, fun _ _ => rfl⟩
section
variable {w wx wy wz : World} {r K L ps : Nat} {rl rs : List (List Int)} {sn : List Int} {v : Value} {vs : List Value} {n : Int} {dd : Bool} {x0 x1 : List Int} {s0 s1 : Nat}
theorem FzI.below (h : FzI w r K L rl rs ps v vs wx) (hb : Below wx.heap.size wx wy) : FzI w r K L rl rs ps v vs wy := by
  have hrl : r < wx.heap.size := cell_lt h.r0
  obtain ⟨v0, v1, na, ns, nc, hl, hf, ho⟩ := h.lg
  exact ⟨⟨v0, v1, na, ns, nc, hl.below hb, hf, ho⟩, below_then h.bl hb, below_cell hb h.r0, below_cell hb h.r1, below_cell hb h.r2, fun q => (hb.frozen (p := ⟨r, q, none⟩) hrl).trans (h.rf q), h.rn, h.rg, h.vr.off (Off.of_below (P := fun _ => False) hb) (fun _ _ => id), h.pc, h.ow, h.gd, h.sz, h.pl⟩
theorem FzD.below (h : FzD w r K L dd x0 x1 s0 s1 rs v vs wx) (hb : Below wx.heap.size wx wy) : FzD w r K L dd x0 x1 s0 s1 rs v vs wy := by
  have hrl : r < wx.heap.size := cell_lt h.r0
  obtain ⟨v0, v1, fu, na, ns, nc, gn, ar, rc, wt, by_, hl, hf, ho⟩ := h.lg
  exact ⟨⟨v0, v1, fu, na, ns, nc, gn, ar, rc, wt, by_, hl.below hb, hf, ho⟩, below_then h.bl hb, below_cell hb h.r0, below_cell hb h.r1, below_cell hb h.r2, fun q => (hb.frozen (p := ⟨r, q, none⟩) hrl).trans (h.rf q), h.rn, h.rg, h.vr.off (Off.of_below (P := fun _ => False) hb) (fun _ _ => id), h.pc, h.ow⟩
/-- append of one record to the list of those that were told, as one step of a region that draws. -/
theorem fz_step {ops : Array Oper} {o : Oper} {a : Act} {KK : Act → World → Prop} {Q : Exit → Act → World → Prop} {E : Prop} {po : Option Addr} {m c : Nat} {bs : List Int} (hgd : o.guard = none) (s y : Operand)
    (ho : o.op = .call { callee := .builtin .append, args := #[s, y], argTypes := #[22, 22] }) (ht : o.type = 22) (hs : a.eval s = v) (hx : a.eval y = .slice (some ⟨wy.heap.size, 0, none⟩) 1 1)
    (hy : Below wx.heap.size wx wy) (he : wz = wy.alloc (.cells #[.slice po m c] 28)) (h : FzI w r K L (rs ++ [bs]) rs ps v vs wx) (hb : Byts w po m bs) (hpo : po = none → c = 0)
    (hk : ∀ a' n' k' w', w'.cell? ⟨r, 2, none⟩ = some v → w'.frozen? ⟨r, 2, none⟩ = false → Hid (FzI w r K L (rs ++ [bs]) (rs ++ [bs]) ps (.slice a' n' k') (vs ++ [.slice po m c]) (w'.setCell ⟨r, 2, none⟩ (.slice a' n' k'))) → KK (a.put o.dst (.slice a' n' k')) w') :
    if Region.wanted o (yielded ops a.tmps) = true then Oper.wp Tryd.prog o a wz KK Q else E := by
  subst he
  have hw : Region.wanted o (yielded ops a.tmps) = true := by simp [Region.wanted, hgd]
  obtain ⟨a', n', k', w', e1, e2, e3, e4⟩ := fz_push (h.below hy) hb hpo
  rw [if_pos hw]
  unfold Oper.wp execOp
  simp only [ho, ht, resolve, invoke, builtin, Sem.run_bind, Sem.run_pure, Result.andThen_ok, List.map_toArray, List.map_cons, List.map_nil, hs, hx, e1]
  exact hk _ _ _ _ e2 e3 e4
theorem fz_stat (h : FzI w r K L rs rs ps v vs wx) : Calls Tryd.prog 12 #[.pointer (some ⟨L, 0, none⟩)] wx fun e w' => e = .returned (.agg #[.int .u64 1, .int .i64 1, .int .i64 rs.length, .int .i64 ((rs.length - ps : Nat) : Int), .int .i64 ((30 + sizes rs : Nat) : Int)]) ∧ FzI w r K L rs rs ps v vs w' := by
  obtain ⟨v0, v1, na, ns, nc, hl, hf, ho⟩ := h.lg
  exact (lStat hl).mono fun e w' ⟨he, hb⟩ => ⟨he, h.below hb⟩
theorem fz_alive (h : FzD w r K L dd x0 x1 s0 s1 rs v vs wx) : Calls Tryd.prog 19 #[.pointer (some ⟨K, 0, none⟩)] wx fun e w' => e = .returned (.bool (!dd)) ∧ w' = wx := by
  obtain ⟨v0, v1, fu, na, ns, nc, gn, ar, rc, wt, by_, hl, hf, ho⟩ := h.lg
  cases dd with
  | false => exact Alive_ok hl.d
  | true => exact Alive_dead hl.d
/-- The error of the Compact. -/
theorem fz_code {N : Nat} {ev : Value} (hd : WDisk N 8 ev wx) (hE : ErrType wx) : Calls Tryd.prog 20 #[ev] wx fun e w' => e = .returned (.int .i64 63) ∧ Below wx.heap.size wx w' := by
  obtain ⟨b, b', rfl, c0, c1, c2, c3, hF, _, _⟩ := hd
  exact code_disk wx hE c0 c1 c2 c3 hF
/-- A dead log's Append. -/
theorem fz_dead {po : Option Addr} {m k : Nat} (h : FzD w r K L true x0 x1 s0 s1 rs v vs wx) (hE : ErrType wx) : Calls Tryd.prog 10 #[.pointer (some ⟨L, 0, none⟩), .slice po m k] wx fun e w' => ∃ ev, e = .returned ev ∧ FzD w r K L true x0 x1 s0 s1 rs v vs w' ∧ Calls Tryd.prog 20 #[ev] w' fun e w2 => e = .returned (.int .i64 8) ∧ FzD w r K L true x0 x1 s0 s1 rs v vs w2 ∧ Below wx.heap.size wx w2 := by
  obtain ⟨v0, v1, fu, na, ns, nc, gn, ar, rc, wt, by_, hl, hf, ho⟩ := h.lg
  refine (lAppend_dead hl).mono ?_
  rintro e w' ⟨ev, rfl, b, rfl, hF, hb⟩
  refine ⟨_, rfl, h.below hb, ?_⟩
  exact (code_fault w' (errType_below hE hb) hF (by decide) (by decide)).mono fun e w2 ⟨he, hb2⟩ => ⟨he, (h.below hb).below hb2, below_then hb hb2⟩
theorem fz_zero (h : FzD w r K L true x0 x1 s0 s1 rs v vs wx) : Calls Tryd.prog 12 #[.pointer (some ⟨L, 0, none⟩)] wx fun e w' => e = .returned (.agg #[.int .u64 0, .int .i64 0, .int .i64 0, .int .i64 0, .int .i64 0]) ∧ FzD w r K L true x0 x1 s0 s1 rs v vs w' := by
  obtain ⟨v0, v1, fu, na, ns, nc, gn, ar, rc, wt, by_, hl, hf, ho⟩ := h.lg
  exact (lStat_dead hl).mono fun e w' ⟨he, hb⟩ => ⟨he, h.below hb⟩
/-- Whether it was done. -/
theorem fz_done (hA : FzA rs sn ps n x0 x1 s0 s1 dd) : (dd = false ∧ (n < 0 ∨ (if ps < rs.length then 5 else 4) ≤ n)) ∨ (dd = true ∧ 0 ≤ n ∧ n < (if ps < rs.length then 5 else 4)) := by
  unfold FzA at hA
  by_cases hd : n < 0 ∨ (if ps < rs.length then 5 else 4) ≤ n
  · rw [if_pos hd] at hA
    exact Or.inl ⟨hA.1, hd⟩
  · rw [if_neg hd] at hA
    refine Or.inr ⟨hA.1, ?_, ?_⟩
    · omega
    · split at hd <;> split <;> omega
end
end Go.Proofs.YtfkcnnjkflomkaaDoor
