/-
  DecideMeets: the state of the walk.
-/
import Derived.Test.YtjmjimbhoncidaaDoorDcApp
import Derived.BigFrame
namespace Go.Proofs.YtjmjimbhoncidaaDoor
open Go.RowKit

theorem ActRow.lt {w : World} {B : Nat} {v : Value} {xs : ActL} (h : ActRow w B v xs) {g : Nat} (hg : v.ownBlock = some g) : g < w.heap.size := by
  rcases h.2 with ⟨rfl, _⟩ | ⟨g', cap, cur, rfl, _, hb, _⟩
  · cases hg
  · simp [Value.ownBlock] at hg
    subst hg
    rcases Nat.lt_or_ge g' w.heap.size with q | q
    · exact q
    · rw [Array.getElem?_eq_none q] at hb; cases hb
theorem acts_at {w : World} {N n cap : Nat} {po : Option Addr} {l : ActL} (h : Acts w N (.slice po n cap) l) {j : Nat} {z : Int × ByteArray} (hj : l[j]? = some z) : ∃ b o, po = some ⟨b, o, none⟩ ∧ b < w.heap.size ∧ w.cell? ⟨b, o + j * 2, none⟩ = some (.int .i64 z.1) ∧ w.cell? ⟨b, o + j * 2 + 1, none⟩ = some (.string z.2) := by
  obtain ⟨po', cap', e, _, hl⟩ := h
  obtain ⟨rfl, rfl, rfl⟩ : po = po' ∧ n = l.length ∧ cap = cap' := by simpa using e
  obtain ⟨b, o, h1, _, h2, h3, h4⟩ := hl j z hj
  exact ⟨b, o, h1, h2, h3, h4⟩
/-- append, guarded, where the guard says yes. -/
theorem wpList_append_want {P : Program} {w w' : World} {ops : Array Oper} {rest : List Oper} {o : Oper} {a : Act} {Q : Exit → Act → World → Prop} (hw : Region.wanted o (yielded ops a.tmps) = true) (s x : Operand) (t : TypeId) (v' : Value)
    (ho : o.op = .call { callee := .builtin .append, args := #[s, x], argTypes := #[t, t] }) (hr : (Builtin.append_ #[t, t] o.type #[a.eval s, a.eval x]).run P w = .ok v' w') (h : wpList P ops Q rest (a.put o.dst v') w') : wpList P ops Q (o :: rest) a w :=
  BigFrame.wpList_want hw fun _ hK => by
    unfold Oper.wp execOp
    simp only [ho, resolve, invoke, builtin, Sem.run_bind, Sem.run_pure, Result.andThen_ok, List.map_toArray, List.map_cons, List.map_nil, hr]
    exact hK _ _ h
structure MI (w : World) (e : Bool) (x y : Int) (C Wb Kb : Nat) (st : Int) (kd : Bool) (kc : ByteArray) (v : Value) (L : ActL) (wx : World) : Prop where
  cbox : Box wx C #[.bool e, .int .i64 x, .int .i64 y]
  wbox : Box wx Wb #[.int .i64 st, .int .i64 3]
  kbox : Box wx Kb #[.bool kd, .string kc]
  row : ActRow wx 0 v L
  rne : ∀ g, v.ownBlock = some g → g ≠ Wb ∧ g ≠ Kb
  bel : Below w.heap.size w wx
  old : w.heap.size ≤ Wb ∧ w.heap.size ≤ Kb ∧ C ≠ Wb ∧ C ≠ Kb ∧ Wb ≠ Kb
section
variable {w wx w' : World} {e : Bool} {x y : Int} {C Wb Kb : Nat} {st : Int} {kd : Bool} {kc : ByteArray} {v : Value} {L : ActL}
theorem MI.below (h : MI w e x y C Wb Kb st kd kc v L wx) (hb : Below wx.heap.size wx w') : MI w e x y C Wb Kb st kd kc v L w' :=
  ⟨h.cbox.below hb, h.wbox.below hb, h.kbox.below hb, h.row.below hb, h.rne, below_then h.bel hb, h.old⟩
theorem MI.drewN (h : MI w e x y C Wb Kb st kd kc v L wx) (n : Nat) : MI w e x y C Wb Kb st kd kc v L (wx.drewN n) := h.below (below_drewN (Below.refl _ _) n)
theorem MI.belowB {B : Nat} (h : MI w e x y C Wb Kb st kd kc v L wx) (hb : Below B wx w') (hB : B ≤ wx.heap.size) (hc : C < B ∧ Wb < B ∧ Kb < B) (hg : ∀ g, v.ownBlock = some g → g < B) (hw : w.heap.size ≤ B) : MI w e x y C Wb Kb st kd kc v L w' := by
  refine ⟨h.cbox.belowB hb hc.1 hB, h.wbox.belowB hb hc.2.1 hB, h.kbox.belowB hb hc.2.2 hB, ?_, h.rne, h.bel.trans (hb.mono hw), h.old⟩
  refine ⟨h.row.1, ?_⟩
  rcases h.row.2 with k | ⟨g, cap, cur, rfl, hbg, hgg, r⟩
  · exact Or.inl k
  · refine Or.inr ⟨g, cap, cur, rfl, hbg, ?_, r⟩
    rw [hb.block g (hg g rfl)]
    exact hgg
theorem MI.putW (h : MI w e x y C Wb Kb st kd kc v L wx) (s2 : Int) : MI w e x y C Wb Kb s2 kd kc v L ((wx.setCell ⟨Wb, 0, none⟩ (.int .i64 s2)).setCell ⟨Wb, 1, none⟩ (.int .i64 3)) :=
  ⟨(h.cbox.off _ h.old.2.2.1.symm).off _ h.old.2.2.1.symm, h.wbox.put2 _ _, (h.kbox.off _ h.old.2.2.2.2).off _ h.old.2.2.2.2, (h.row.set (fun g hg => (h.rne g hg).1)).set (fun g hg => (h.rne g hg).1), h.rne, (h.bel.setCell h.old.1 _).setCell h.old.1 _, h.old⟩
theorem MI.putK (h : MI w e x y C Wb Kb st kd kc v L wx) (d2 : Bool) (c2 : ByteArray) : MI w e x y C Wb Kb st d2 c2 v L ((wx.setCell ⟨Kb, 0, none⟩ (.bool d2)).setCell ⟨Kb, 1, none⟩ (.string c2)) :=
  ⟨(h.cbox.off _ h.old.2.2.2.1.symm).off _ h.old.2.2.2.1.symm, (h.wbox.off _ h.old.2.2.2.2.symm).off _ h.old.2.2.2.2.symm, h.kbox.put2 _ _, (h.row.set (fun g hg => (h.rne g hg).2)).set (fun g hg => (h.rne g hg).2), h.rne, (h.bel.setCell h.old.2.1 _).setCell h.old.2.1 _, h.old⟩
end
theorem take_is {e : Bool} {x y : Int} {CL : ActL} (ok : okB e x y = true) (hc : caL e x = CL) : takeS e x y = ⟨false, nT, CL ++ [(8, nT)], 0⟩ := by
  unfold takeS; rw [if_neg (by simp [ok]), hc]
theorem copy0_is {e : Bool} {x y : Int} {CL : ActL} (ok : okB e x y = true) (hc : caL e x = CL) : copyS e x y false nT = ⟨false, nT, CL, 0⟩ := by
  unfold copyS; rw [if_neg (by simp [ok]), if_neg (by simp [keptB, nT, Lib.toList_data]), hc]; simp
theorem judge_is {e : Bool} {x y : Int} {cd : ByteArray} {sn : Bool} (ok : okB e x y = true) (hv : vcode cd) (hs : sentB e x y cd = sn) : judgeS e x y false nT cd = ⟨true, cd, if sn = true then [(9, cd)] else [], 0⟩ := by
  unfold judgeS; rw [if_neg (by simp [ok]), if_neg (by simp [keptB, nT, Lib.toList_data]), if_neg (by simp [v_ver hv]), hs]
theorem judge2_is {e : Bool} {x y : Int} {cd : ByteArray} (ok : okB e x y = true) : judgeS e x y true cd cd = ⟨false, nT, [], 223⟩ := by
  unfold judgeS; rw [if_neg (by simp [ok]), if_pos (by simp)]
theorem copy1_is {e : Bool} {x y : Int} {cd : ByteArray} {CL : ActL} {sn : Bool} (ok : okB e x y = true) (hc : caL e x = CL) (hv : vcode cd) (hs : sentB e x y cd = sn) : copyS e x y true cd = ⟨false, nT, CL ++ (if sn = true then [(9, cd)] else []), 0⟩ := by
  unfold copyS; rw [if_neg (by simp [ok]), if_neg (by simp [keptB, v_ver hv]), hc, hs]; simp
theorem Ev.some {w : World} {v : Value} {a c : Int} (h : Ev w v a c) (hc : c ≠ 0) : ∃ b, v = .iface 108 (.pointer (some ⟨b, 0, none⟩)) := by
  rcases h with h | ⟨_, b, h, _⟩
  · exact absurd h.2 hc
  · exact ⟨b, h⟩
theorem ca_sent {e : Bool} {x y : Int} {l : ActL} {CL : ActL} (hc : caL e x = CL) (hl : l = CL ∨ l = CL ++ [(8, nT)]) : ∀ z ∈ l, z.1 = 7 ∨ z.1 = 9 → sentB e x y z.2 = true := by
  have key : ∀ z ∈ CL, z.1 = 7 ∨ z.1 = 9 → sentB e x y z.2 = true := by
    rw [← hc]
    unfold caL
    intro z hz _
    split at hz
    · rename_i h
      obtain rfl : z = (7, kCA) := by simpa using hz
      show sentB e x y ⟨#[67, 65]⟩ = true
      rw [sent_1]; exact h
    · cases hz
  rcases hl with rfl | rfl
  · exact key
  · intro z hz h
    rcases List.mem_append.1 hz with k | k
    · exact key z k h
    · obtain rfl : z = (8, nT) := by simpa using k
      simp at h
end Go.Proofs.YtjmjimbhoncidaaDoor
