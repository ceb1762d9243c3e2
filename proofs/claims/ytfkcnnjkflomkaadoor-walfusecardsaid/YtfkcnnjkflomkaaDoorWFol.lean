/-
  The log's follow: what Compact has to write.
-/
import Derived.Test.YtfkcnnjkflomkaaDoorWPush
import Derived.Deep.RegionHeld3
import Derived.Deep.DeepCutAuto
namespace Go.Proofs.YtfkcnnjkflomkaaDoor
open Go.RowKit Go.BigFrame

/-- A function value that is a step in every world that comes. -/
def Stp (B K : Nat) (v0 v1 : Value) (o : Dop) (f : Nat) (caps : Array Value) (y : World) : Prop := Enters Tryd.prog f ∧ ∀ y', Below y.heap.size y y' → StepF y' B K v0 v1 o f caps
theorem Stp.on {B K : Nat} {v0 v1 : Value} {o : Dop} {f : Nat} {caps : Array Value} {y z : World} (h : Stp B K v0 v1 o f caps y) (hb : Below y.heap.size y z) : Stp B K v0 v1 o f caps z := ⟨h.1, fun y' hy => h.2 y' (below_then hb hy)⟩
theorem below_cell {w w' : World} {p : Addr} {v : Value} (hb : Below w.heap.size w w') (h : w.cell? p = some v) : w'.cell? p = some v := (hb.cell (p := p) (cell_lt h)).trans h
/-- append of four function values to no list, as one step of a region that draws. -/
theorem step_four {w : World} {ops : Array Oper} {o : Oper} {a : Act} {K : Act → World → Prop} {Q : Exit → Act → World → Prop} {E : Prop} {g : Nat} {u0 u1 u2 u3 : Value} (hgd : o.guard = none) (s y : Operand)
    (ho : o.op = .call { callee := .builtin .append, args := #[s, y], argTypes := #[75, 75] }) (hs : a.eval s = .slice none 0 0) (hx : a.eval y = .slice (some ⟨g, 0, none⟩) 4 4)
    (hc : ∀ j, w.cell? ⟨g, j, none⟩ = #[u0, u1, u2, u3][j]?)
    (h : ∀ (c' : Nat) (w' : World), (∀ j, j < 4 → w'.cell? ⟨w.heap.size, j, none⟩ = #[u0, u1, u2, u3][j]?) → Below w.heap.size w w' → K (a.put o.dst (.slice (some ⟨w.heap.size, 0, none⟩) 4 c')) w') :
    if Region.wanted o (yielded ops a.tmps) = true then Oper.wp Tryd.prog o a w K Q else E := by
  have hw : Region.wanted o (yielded ops a.tmps) = true := by simp [Region.wanted, hgd]
  obtain ⟨i, hi, hm⟩ := Option.map_eq_some_iff.1 infoStep
  simp only [Prod.mk.injEq] at hm
  obtain ⟨m1, m2, m3⟩ := hm
  obtain ⟨z, hz, hzs⟩ := Option.map_eq_some_iff.1 m3
  have hrn := run_append_nil (P := Tryd.prog) w 75 o.type 73 i z Tryd.underlying75 hi hz ⟨g, 0, none⟩ 4 4 [u0, u1, u2, u3] (by rw [m1]; rfl) (fun j u hu => by
    rw [Addr.add_lit, Nat.zero_add, hc, ← hu]; simp) (by omega) (by omega) (by omega)
  rw [if_pos hw]
  unfold Oper.wp execOp
  simp only [ho, resolve, invoke, builtin, Sem.run_bind, Sem.run_pure, Result.andThen_ok, List.map_toArray, List.map_cons, List.map_nil, hs, hx, hrn]
  refine h _ _ (fun j hj => ?_) ((Below.drew (Below.refl _ _)).alloc (by simp) _)
  have hb : (w.drew.alloc (.cells ([u0, u1, u2, u3].toArray ++ Builtin.zeroCells z.cells (grownCap w 4 0 73 - 4)) 73)).heap[w.heap.size]? = some (.cells ([u0, u1, u2, u3].toArray ++ Builtin.zeroCells z.cells (grownCap w 4 0 73 - 4)) 73) := by show (w.heap.push _)[w.heap.size]? = _; simp
  unfold World.cell?
  rw [hb]
  exact Array.getElem?_append_left (by simpa using hj)
section
variable {x : World} {B K L : Nat} {v0 v1 : Value} {σ : Sg} {gn ar rc wt by_ : Int} {po : Option Addr} {m k : Nat} {bs : List Int} {G na nb : Int}
set_option maxRecDepth 100000 in
set_option maxHeartbeats 8000000 in
theorem follow_none (h : Lg x B K L v0 v1 σ false gn ar rc 0 by_) (hb : Byts x po m bs) (hfar : ∀ b o, 0 < m → po = some ⟨b, o, none⟩ → ¬ Foot K v0 v1 b) (hpo : po = none → k = 0) (hm : m ≤ 2097152) (hH : Halves x) (hG : ¬ Foot K v0 v1 1) (hg0 : 0 ≤ G) (hg1 : G ≤ 18446744073709551615) :
    Calls Tryd.prog 32 #[.pointer (some ⟨L, 0, none⟩), .agg #[.int .u64 G, .int .i64 na, .int .i64 0, .int .i64 0, .int .i64 nb], .slice po m k] x fun e y => ∃ g c, e = .returned (.slice (some ⟨g, 0, none⟩) 4 c) ∧ StepsAt y B K g v0 v1 [.cut na 0, .app (G % 2) (headB G ++ recB bs), .syn na, .cut ar 0] ∧ Below x.heap.size x y ∧ x.heap.size ≤ g := by
  obtain ⟨W, hW⟩ : ∃ W, x.alloc (.cells #[.int .u64 G, .int .i64 na, .int .i64 0, .int .i64 0, .int .i64 nb] 40) = W := ⟨_, rfl⟩
  have HWd : Hid (x.alloc (.cells #[.int .u64 G, .int .i64 na, .int .i64 0, .int .i64 0, .int .i64 nb] 40) = W) := hW
  have hbW : Below x.heap.size x W := by rw [← hW]; exact (Below.refl _ _).alloc (Nat.le_refl _) _
  have hlW : x.heap.size < W.heap.size := by rw [← hW]; simp
  have hLl : L < x.heap.size := h.lt
  have cW0 : W.cell? ⟨x.heap.size, 0, none⟩ = some (.int .u64 G) := by rw [← hW]; simp
  have cW1 : W.cell? ⟨x.heap.size, 1, none⟩ = some (.int .i64 na) := by rw [← hW]; simp
  have HC : Hid (∀ y, Below W.heap.size W y → y.cell? ⟨L, 0, none⟩ = some (.pointer (some ⟨K, 0, none⟩)) ∧ y.cell? ⟨L, 3, none⟩ = some (.int .i64 ar) ∧ y.cell? ⟨x.heap.size, 0, none⟩ = some (.int .u64 G) ∧ y.cell? ⟨x.heap.size, 1, none⟩ = some (.int .i64 na)) := fun y hy =>
    have hxy := below_then hbW hy
    ⟨(hxy.cell (p := ⟨L, 0, none⟩) hLl).trans h.c0, (hxy.cell (p := ⟨L, 3, none⟩) hLl).trans h.c3, (hy.cell (p := ⟨x.heap.size, 0, none⟩) hlW).trans cW0, (hy.cell (p := ⟨x.heap.size, 1, none⟩) hlW).trans cW1⟩
  have mk : ∀ y y' o e, Below W.heap.size W y → MkQ y B K v0 v1 o e y' → ∃ f caps, e = .returned (.func (.func f) #[] caps) ∧ Below y.heap.size y y' ∧ Stp B K v0 v1 o f caps y' ∧ Below W.heap.size W y' ∧ y'.cell? ⟨L, 0, none⟩ = some (.pointer (some ⟨K, 0, none⟩)) ∧ y'.cell? ⟨L, 3, none⟩ = some (.int .i64 ar) ∧ y'.cell? ⟨x.heap.size, 0, none⟩ = some (.int .u64 G) ∧ y'.cell? ⟨x.heap.size, 1, none⟩ = some (.int .i64 na) := fun y y' o e hy ⟨f, caps, he, hb', hen, hst⟩ =>
    have hc' := HC.out y' (below_then hy hb')
    ⟨f, caps, he, hb', ⟨hen, hst⟩, below_then hy hb', hc'.1, hc'.2.1, hc'.2.2.1, hc'.2.2.2⟩
  have HCu : Hid (∀ y a, Below W.heap.size W y → Calls Tryd.prog 46 #[.pointer (some ⟨K, 0, none⟩), .int .i64 a, .int .i64 0] y fun e y' => ∃ f caps, e = .returned (.func (.func f) #[] caps) ∧ Below y.heap.size y y' ∧ Stp B K v0 v1 (.cut a 0) f caps y' ∧ Below W.heap.size W y' ∧ y'.cell? ⟨L, 0, none⟩ = some (.pointer (some ⟨K, 0, none⟩)) ∧ y'.cell? ⟨L, 3, none⟩ = some (.int .i64 ar) ∧ y'.cell? ⟨x.heap.size, 0, none⟩ = some (.int .u64 G) ∧ y'.cell? ⟨x.heap.size, 1, none⟩ = some (.int .i64 na)) := fun y a hy => (cut_q (h.d.under (below_then hbW hy)) 0).mono fun e y' hq => mk y y' _ e hy hq
  have HBe : Hid (∀ y, Below W.heap.size W y → Calls Tryd.prog 47 #[.pointer (some ⟨K, 0, none⟩), .int .u64 G, .slice po m k] y fun e y' => ∃ f caps, e = .returned (.func (.func f) #[] caps) ∧ Below y.heap.size y y' ∧ Stp B K v0 v1 (.app (G % 2) (headB G ++ recB bs)) f caps y' ∧ Below W.heap.size W y' ∧ y'.cell? ⟨L, 0, none⟩ = some (.pointer (some ⟨K, 0, none⟩)) ∧ y'.cell? ⟨L, 3, none⟩ = some (.int .i64 ar) ∧ y'.cell? ⟨x.heap.size, 0, none⟩ = some (.int .u64 G) ∧ y'.cell? ⟨x.heap.size, 1, none⟩ = some (.int .i64 na)) := fun y hy => (begin_q (h.d.under (below_then hbW hy)) (hb.below (below_then hbW hy)) hfar hpo (by omega) (by omega) (by omega) (hH.under (below_then hbW hy)) hG).mono fun e y' hq => mk y y' _ e hy hq
  have HSy : Hid (∀ y, Below W.heap.size W y → Calls Tryd.prog 30 #[.pointer (some ⟨K, 0, none⟩), .int .i64 na] y fun e y' => ∃ f caps, e = .returned (.func (.func f) #[] caps) ∧ Below y.heap.size y y' ∧ Stp B K v0 v1 (.syn na) f caps y' ∧ Below W.heap.size W y' ∧ y'.cell? ⟨L, 0, none⟩ = some (.pointer (some ⟨K, 0, none⟩)) ∧ y'.cell? ⟨L, 3, none⟩ = some (.int .i64 ar) ∧ y'.cell? ⟨x.heap.size, 0, none⟩ = some (.int .u64 G) ∧ y'.cell? ⟨x.heap.size, 1, none⟩ = some (.int .i64 na)) := fun y hy => (syn_q (h.d.under (below_then hbW hy))).mono fun e y' hq => mk y y' _ e hy hq
  obtain ⟨k0, k3, k4, k5⟩ := HC.out W (Below.refl _ _)
  have k6 : W.cell? ⟨L, 5, none⟩ = some (.int .i64 0) := (hbW.cell (p := ⟨L, 5, none⟩) hLl).trans h.c5
  have HBW : Hid (Below x.heap.size x W) := hbW
  have hBW : Below W.heap.size W W := Below.refl _ _
  have hk6 : x.cell? ⟨L, 5, none⟩ = some (.int .i64 0) := h.c5
  clear h hb hfar hpo hH hG mk hW cW0 cW1
  go_enter Tryd.func32, Tryd.ntmps32
  go_wp2_with fail
  rw [HWd.out]
  have hflag : True := trivial
  go_region_held3 (fun z => z.cell? ⟨L, 0, none⟩ = some (.pointer (some ⟨K, 0, none⟩)) ∧ z.cell? ⟨L, 3, none⟩ = some (.int .i64 ar) ∧ z.cell? ⟨x.heap.size, 0, none⟩ = some (.int .u64 G) ∧ z.cell? ⟨x.heap.size, 1, none⟩ = some (.int .i64 na)) (simp [*, World.cell?_alloc_some]) (first | (go_at_call 46; refine (HCu.out _ _ ?_).mono ?_; (first | assumption | exact Below.drew (by assumption)); rintro e wx ⟨f1, p1, rfl, hx1, hx2, hx3, hx4, hx5, hx6, hx7⟩; (first | (clear hflag; have hA1 := hx1; have hA2 := hx2) | (have hB1 := hx1; have hB2 := hx2))) | (go_at_call 47; refine (HBe.out _ ?_).mono ?_; (first | assumption | exact Below.drew (by assumption)); rintro e wy ⟨f2, p2, rfl, hy1, hy2, hy3, hy4, hy5, hy6, hy7⟩) | (go_at_call 30; refine (HSy.out _ ?_).mono ?_; (first | assumption | exact Below.drew (by assumption)); rintro e wz ⟨f3, p3, rfl, hz1, hz2, hz3, hz4, hz5, hz6, hz7⟩) | (refine step_four rfl (.tmp 27) (.tmp 60) rfl rfl rfl (four_cells _ _ _ _ _ _) ?_; intro c' w9 hw9 hb9; have q1 := below_cell (p := ⟨L, 0, none⟩) (v := .pointer (some ⟨K, 0, none⟩)) hb9 (by first | (simp [*]; done) | simp [*, World.cell?_alloc_some]); have q2 := below_cell (p := ⟨L, 3, none⟩) (v := .int .i64 ar) hb9 (by first | (simp [*]; done) | simp [*, World.cell?_alloc_some]); have q3 := below_cell (p := ⟨x.heap.size, 0, none⟩) (v := .int .u64 G) hb9 (by first | (simp [*]; done) | simp [*, World.cell?_alloc_some]); have q4 := below_cell (p := ⟨x.heap.size, 1, none⟩) (v := .int .i64 na) hb9 (by first | (simp [*]; done) | simp [*, World.cell?_alloc_some])))
  go_wp2_with fail
  rw [World.size_alloc] at hw9
  have hbz : Below wx.heap.size wx w9 := ((Below.refl _ _).alloc (Nat.le_refl _) _).trans (hb9.mono (by simp))
  have bz : Below wz.heap.size wz w9 := below_then hB1 hbz
  have by' : Below wy.heap.size wy w9 := below_then hz1 bz
  go_ret
  refine ⟨_, _, rfl, fun j o ho => ?_, below_then HBW.out (below_then hz3 (below_then hB1 hbz)), by have h1 := HBW.out.size; have h2 := hx3.size; first | omega | (simp; omega)⟩
  match j, ho with
  | 0, ho => simp at ho; subst ho; have hs := hA2.on (below_then hy1 by'); exact ⟨_, _, (hw9 0 (by omega)).trans rfl, hs.1, hs.2 _ (Below.refl _ _)⟩
  | 1, ho => simp at ho; subst ho; have hs := hy2.on by'; exact ⟨_, _, (hw9 1 (by omega)).trans rfl, hs.1, hs.2 _ (Below.refl _ _)⟩
  | 2, ho => simp at ho; subst ho; have hs := hz2.on bz; exact ⟨_, _, (hw9 2 (by omega)).trans rfl, hs.1, hs.2 _ (Below.refl _ _)⟩
  | 3, ho => simp at ho; subst ho; have hs := hB2.on hbz; exact ⟨_, _, (hw9 3 (by omega)).trans rfl, hs.1, hs.2 _ (Below.refl _ _)⟩
  | j + 4, ho => simp at ho
end
end Go.Proofs.YtfkcnnjkflomkaaDoor
