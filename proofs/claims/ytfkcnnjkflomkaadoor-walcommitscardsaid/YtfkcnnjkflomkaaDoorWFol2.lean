import Derived.Test.YtfkcnnjkflomkaaDoorWPush
import Derived.Deep.RegionHeld3
import Derived.Deep.DeepCutAuto
/-
  The log's follow: what Compact has to write.
-/
namespace Go.Proofs.YtfkcnnjkflomkaaDoor
open Go.RowKit Go.BigFrame

/-- A function value that is a step in every world that comes. -/
def Stp (B K : Nat) (v0 v1 : Value) (o : Dop) (f : Nat) (caps : Array Value) (y : World) : Prop := Enters Tryd.prog f ∧ ∀ y', Below y.heap.size y y' → StepF y' B K v0 v1 o f caps
theorem Stp.on {B K : Nat} {v0 v1 : Value} {o : Dop} {f : Nat} {caps : Array Value} {y z : World} (h : Stp B K v0 v1 o f caps y) (hb : Below y.heap.size y z) : Stp B K v0 v1 o f caps z := ⟨h.1, fun y' hy => h.2 y' (below_then hb hy)⟩
theorem below_cell {w w' : World} {p : Addr} {v : Value} (hb : Below w.heap.size w w') (h : w.cell? p = some v) : w'.cell? p = some v := (hb.cell (p := p) (cell_lt h)).trans h
/-- append of four function values to no list, as one step of a region that draws. -/
theorem step_four {w : World} {ops : Array Oper} {o : Oper} {a : Act} {K : Act → World → Prop} {Q : Exit → Act → World → Prop} {E : Prop} {g : Nat} {u0 u1 u2 u3 : Value} (hgd : o.guard = none) (s y : Operand)
    (ho : o.op = .call { callee := .builtin .append, args := #[s, y], argTypes := #[75, 75] }) (hs : a.eval s = .slice none 0 0) (hx : a.eval y = .slice (some ⟨g, 0, none⟩) 4 4)
    (hc : ∀ j, w.cell? ⟨g, j, none⟩ = #[u0, u1, u2, u3][j]?)
    (h : ∀ (c' : Nat) (w' : World), (∀ j, j < 4 → w'.cell? ⟨w.heap.size, j, none⟩ = #[u0, u1, u2, u3][j]?) → Below w.heap.size w w' → K (a.put o.dst (.slice (some ⟨w.heap.size, 0, none⟩) 4 c')) w') :
    if Region.wanted o (yielded ops a.tmps) = true then Oper.wp Tryd.prog o a w K Q else E := by
  have hw : Region.wanted o (yielded ops a.tmps) = true := by simp [Region.wanted, hgd]
  obtain ⟨i, hi, hm⟩ := Option.map_eq_some_iff.1 infoStep
  simp only [Prod.mk.injEq] at hm
  obtain ⟨m1, m2, m3⟩ := hm
  obtain ⟨z, hz, hzs⟩ := Option.map_eq_some_iff.1 m3
  have hrn := run_append_nil (P := Tryd.prog) w 75 o.type 73 i z Tryd.underlying75 hi hz ⟨g, 0, none⟩ 4 4 [u0, u1, u2, u3] (by rw [m1]; rfl) (fun j u hu => by
    rw [Addr.add_lit, Nat.zero_add, hc, ← hu]; simp) (by omega) (by omega) (by omega)
  rw [if_pos hw]
  unfold Oper.wp execOp
  simp only [ho, resolve, invoke, builtin, Sem.run_bind, Sem.run_pure, Result.andThen_ok, List.map_toArray, List.map_cons, List.map_nil, hs, hx, hrn]
  refine h _ _ (fun j hj => ?_) ((Below.drew (Below.refl _ _)).alloc (by simp) _)
  have hb : (w.drew.alloc (.cells ([u0, u1, u2, u3].toArray ++ Builtin.zeroCells z.cells (grownCap w 4 0 73 - 4)) 73)).heap[w.heap.size]? = some (.cells ([u0, u1, u2, u3].toArray ++ Builtin.zeroCells z.cells (grownCap w 4 0 73 - 4)) 73) := by show (w.heap.push _)[w.heap.size]? = _; simp
  unfold World.cell?
  rw [hb]
  exact Array.getElem?_append_left (by simpa using hj)
section
variable {x : World} {B K L : Nat} {v0 v1 : Value} {σ : Sg} {gn ar rc wt by_ : Int} {po : Option Addr} {m k : Nat} {bs : List Int} {G na nb : Int}
set_option maxRecDepth 100000 in
set_option maxHeartbeats 8000000 in
theorem follow_none (h : Lg x B K L v0 v1 σ false gn ar rc 0 by_) (hb : Byts x po m bs) (hfar : ∀ b o, 0 < m → po = some ⟨b, o, none⟩ → ¬ Foot K v0 v1 b) (hpo : po = none → k = 0) (hm : m ≤ 2097152) (hH : Halves x) (hG : ¬ Foot K v0 v1 1) (hg0 : 0 ≤ G) (hg1 : G ≤ 18446744073709551615) :
    Calls Tryd.prog 32 #[.pointer (some ⟨L, 0, none⟩), .agg #[.int .u64 G, .int .i64 na, .int .i64 0, .int .i64 0, .int .i64 nb], .slice po m k] x fun e y => ∃ g c, e = .returned (.slice (some ⟨g, 0, none⟩) 4 c) ∧ StepsAt y B K g v0 v1 [.cut na 0, .app (G % 2) (headB G ++ recB bs), .syn na, .cut ar 0] ∧ Below x.heap.size x y ∧ x.heap.size ≤ g := by
  obtain ⟨W, hW⟩ : ∃ W, x.alloc (.cells #[.int .u64 G, .int .i64 na, .int .i64 0, .int .i64 0, .int .i64 nb] 40) = W := ⟨_, rfl⟩
  have HWd : Hid (x.alloc (.cells #[.int .u64 G, .int .i64 na, .int .i64 0, .int .i64 0, .int .i64 nb] 40) = W) := hW
  have hbW : Below x.heap.size x W := by rw [← hW]; exact (Below.refl _ _).alloc (Nat.le_refl _) _
  have hlW : x.heap.size < W.heap.size := by rw [← hW]; simp
  have hLl : L < x.heap.size := h.lt
  have cW0 : W.cell? ⟨x.heap.size, 0, none⟩ = some (.int .u64 G) := by rw [← hW]; simp
  have cW1 : W.cell? ⟨x.heap.size, 1, none⟩ = some (.int .i64 na) := by rw [← hW]; simp
  have HC : Hid (∀ y, Below W.heap.size W y → y.cell? ⟨L, 0, none⟩ = some (.pointer (some ⟨K, 0, none⟩)) ∧ y.cell? ⟨L, 3, none⟩ = some (.int .i64 ar) ∧ y.cell? ⟨x.heap.size, 0, none⟩ = some (.int .u64 G) ∧ y.cell? ⟨x.heap.size, 1, none⟩ = some (.int .i64 na)) := fun y hy =>
    have hxy := below_then hbW hy
    ⟨(hxy.cell (p := ⟨L, 0, none⟩) hLl).trans h.c0, (hxy.cell (p := ⟨L, 3, none⟩) hLl).trans h.c3, (hy.cell (p := ⟨x.heap.size, 0, none⟩) hlW).trans cW0, (hy.cell (p := ⟨x.heap.size, 1, none⟩) hlW).trans cW1⟩
  have mk : ∀ y y' o e, Below W.heap.size W y → MkQ y B K v0 v1 o e y' → ∃ f caps, e = .returned (.func (.func f) #[] caps) ∧ Below y.heap.size y y' ∧ Stp B K v0 v1 o f caps y' ∧ Below W.heap.size W y' ∧ y'.cell? ⟨L, 0, none⟩ = some (.pointer (some ⟨K, 0, none⟩)) ∧ y'.cell? ⟨L, 3, none⟩ = some (.int .i64 ar) ∧ y'.cell? ⟨x.heap.size, 0, none⟩ = some (.int .u64 G) ∧ y'.cell? ⟨x.heap.size, 1, none⟩ = some (.int .i64 na) := fun y y' o e hy ⟨f, caps, he, hb', hen, hst⟩ =>
    have hc' := HC.out y' (below_then hy hb')
    ⟨f, caps, he, hb', ⟨hen, hst⟩, below_then hy hb', hc'.1, hc'.2.1, hc'.2.2.1, hc'.2.2.2⟩
  have HCu : Hid (∀ y a, Below W.heap.size W y → Calls Tryd.prog 46 #[.pointer (some ⟨K, 0, none⟩), .int .i64 a, .int .i64 0] y fun e y' => ∃ f caps, e = .returned (.func (.func f) #[] caps) ∧ Below y.heap.size y y' ∧ Stp B K v0 v1 (.cut a 0) f caps y' ∧ Below W.heap.size W y' ∧ y'.cell? ⟨L, 0, none⟩ = some (.pointer (some ⟨K, 0, none⟩)) ∧ y'.cell? ⟨L, 3, none⟩ = some (.int .i64 ar) ∧ y'.cell? ⟨x.heap.size, 0, none⟩ = some (.int .u64 G) ∧ y'.cell? ⟨x.heap.size, 1, none⟩ = some (.int .i64 na)) := fun y a hy => (cut_q (h.d.under (below_then hbW hy)) 0).mono fun e y' hq => mk y y' _ e hy hq
  have HBe : Hid (∀ y, Below W.heap.size W y → Calls Tryd.prog 47 #[.pointer (some ⟨K, 0, none⟩), .int .u64 G, .slice po m k] y fun e y' => ∃ f caps, e = .returned (.func (.func f) #[] caps) ∧ Below y.heap.size y y' ∧ Stp B K v0 v1 (.app (G % 2) (headB G ++ recB bs)) f caps y' ∧ Below W.heap.size W y' ∧ y'.cell? ⟨L, 0, none⟩ = some (.pointer (some ⟨K, 0, none⟩)) ∧ y'.cell? ⟨L, 3, none⟩ = some (.int .i64 ar) ∧ y'.cell? ⟨x.heap.size, 0, none⟩ = some (.int .u64 G) ∧ y'.cell? ⟨x.heap.size, 1, none⟩ = some (.int .i64 na)) := fun y hy => (begin_q (h.d.under (below_then hbW hy)) (hb.below (below_then hbW hy)) hfar hpo (by omega) (by omega) (by omega) (hH.under (below_then hbW hy)) hG).mono fun e y' hq => mk y y' _ e hy hq
  have HSy : Hid (∀ y, Below W.heap.size W y → Calls Tryd.prog 30 #[.pointer (some ⟨K, 0, none⟩), .int .i64 na] y fun e y' => ∃ f caps, e = .returned (.func (.func f) #[] caps) ∧ Below y.heap.size y y' ∧ Stp B K v0 v1 (.syn na) f caps y' ∧ Below W.heap.size W y' ∧ y'.cell? ⟨L, 0, none⟩ = some (.pointer (some ⟨K, 0, none⟩)) ∧ y'.cell? ⟨L, 3, none⟩ = some (.int .i64 ar) ∧ y'.cell? ⟨x.heap.size, 0, none⟩ = some (.int .u64 G) ∧ y'.cell? ⟨x.heap.size, 1, none⟩ = some (.int .i64 na)) := fun y hy => (syn_q (h.d.under (below_then hbW hy))).mono fun e y' hq => mk y y' _ e hy hq
  obtain ⟨k0, k3, k4, k5⟩ := HC.out W (Below.refl _ _)
  have k6 : W.cell? ⟨L, 5, none⟩ = some (.int .i64 0) := (hbW.cell (p := ⟨L, 5, none⟩) hLl).trans h.c5
  have HBW : Hid (Below x.heap.size x W) := hbW
  have hBW : Below W.heap.size W W := Below.refl _ _
  have hk6 : x.cell? ⟨L, 5, none⟩ = some (.int .i64 0) := h.c5
  clear h hb hfar hpo hH hG mk hW cW0 cW1
  go_enter Tryd.func32, Tryd.ntmps32
  go_wp2_with fail
  rw [HWd.out]
  have hflag : True := trivial
  go_region_held3 (fun z => z.cell? ⟨L, 0, none⟩ = some (.pointer (some ⟨K, 0, none⟩)) ∧ z.cell? ⟨L, 3, none⟩ = some (.int .i64 ar) ∧ z.cell? ⟨x.heap.size, 0, none⟩ = some (.int .u64 G) ∧ z.cell? ⟨x.heap.size, 1, none⟩ = some (.int .i64 na)) (simp [*, World.cell?_alloc_some]) (first | (go_at_call 46; refine (HCu.out _ _ ?_).mono ?_; (first | assumption | exact Below.drew (by assumption)); rintro e wx ⟨f1, p1, rfl, hx1, hx2, hx3, hx4, hx5, hx6, hx7⟩; (first | (clear hflag; have hA1 := hx1; have hA2 := hx2) | (have hB1 := hx1; have hB2 := hx2))) | (go_at_call 47; refine (HBe.out _ ?_).mono ?_; (first | assumption | exact Below.drew (by assumption)); rintro e wy ⟨f2, p2, rfl, hy1, hy2, hy3, hy4, hy5, hy6, hy7⟩) | (go_at_call 30; refine (HSy.out _ ?_).mono ?_; (first | assumption | exact Below.drew (by assumption)); rintro e wz ⟨f3, p3, rfl, hz1, hz2, hz3, hz4, hz5, hz6, hz7⟩) | (refine step_four rfl (.tmp 27) (.tmp 60) rfl rfl rfl (four_cells _ _ _ _ _ _) ?_; intro c' w9 hw9 hb9; have q1 := below_cell (p := ⟨L, 0, none⟩) (v := .pointer (some ⟨K, 0, none⟩)) hb9 (by first | (simp [*]; done) | simp [*, World.cell?_alloc_some]); have q2 := below_cell (p := ⟨L, 3, none⟩) (v := .int .i64 ar) hb9 (by first | (simp [*]; done) | simp [*, World.cell?_alloc_some]); have q3 := below_cell (p := ⟨x.heap.size, 0, none⟩) (v := .int .u64 G) hb9 (by first | (simp [*]; done) | simp [*, World.cell?_alloc_some]); have q4 := below_cell (p := ⟨x.heap.size, 1, none⟩) (v := .int .i64 na) hb9 (by first | (simp [*]; done) | simp [*, World.cell?_alloc_some])))
  go_wp2_with fail
  rw [World.size_alloc] at hw9
  have hbz : Below wx.heap.size wx w9 := ((Below.refl _ _).alloc (Nat.le_refl _) _).trans (hb9.mono (by simp))
  have bz : Below wz.heap.size wz w9 := below_then hB1 hbz
  have by' : Below wy.heap.size wy w9 := below_then hz1 bz
  go_ret
  refine ⟨_, _, rfl, fun j o ho => ?_, below_then HBW.out (below_then hz3 (below_then hB1 hbz)), by have h1 := HBW.out.size; have h2 := hx3.size; first | omega | (simp; omega)⟩
  match j, ho with
  | 0, ho => simp at ho; subst ho; have hs := hA2.on (below_then hy1 by'); exact ⟨_, _, (hw9 0 (by omega)).trans rfl, hs.1, hs.2 _ (Below.refl _ _)⟩
  | 1, ho => simp at ho; subst ho; have hs := hy2.on by'; exact ⟨_, _, (hw9 1 (by omega)).trans rfl, hs.1, hs.2 _ (Below.refl _ _)⟩
  | 2, ho => simp at ho; subst ho; have hs := hz2.on bz; exact ⟨_, _, (hw9 2 (by omega)).trans rfl, hs.1, hs.2 _ (Below.refl _ _)⟩
  | 3, ho => simp at ho; subst ho; have hs := hB2.on hbz; exact ⟨_, _, (hw9 3 (by omega)).trans rfl, hs.1, hs.2 _ (Below.refl _ _)⟩
  | j + 4, ho => simp at ho
end
end Go.Proofs.YtfkcnnjkflomkaaDoor

/-
  The log's follow, where records wait: a sync in front.
-/
namespace Go.Proofs.YtfkcnnjkflomkaaDoor
open Go.RowKit Go.BigFrame

/-- A function value that is a step in every world that comes, some blocks written or not. -/
def Stq (P : Nat → Prop) (B K : Nat) (v0 v1 : Value) (o : Dop) (f : Nat) (caps : Array Value) (y : World) : Prop := Enters Tryd.prog f ∧ ∀ y', Off P y y' → StepF y' B K v0 v1 o f caps
theorem Stq.on {P : Nat → Prop} {B K : Nat} {v0 v1 : Value} {o : Dop} {f : Nat} {caps : Array Value} {y z : World} (h : Stq P B K v0 v1 o f caps y) (hb : Off P y z) : Stq P B K v0 v1 o f caps z := ⟨h.1, fun y' hy => h.2 y' (hb.trans hy)⟩
def MkP (P : Nat → Prop) (x : World) (B K : Nat) (v0 v1 : Value) (o : Dop) (e : Ending) (y : World) : Prop := ∃ f caps, e = .returned (.func (.func f) #[] caps) ∧ Below x.heap.size x y ∧ Stq P B K v0 v1 o f caps y
section
variable {x : World} {P : Nat → Prop} {B K : Nat} {v0 v1 : Value} {σ : Sg} {ar : Int}
theorem cut_p (h : DskS x B K v0 v1 σ) (hP : ∀ k, P k → k < x.heap.size) (n : Int) : Calls Tryd.prog 46 #[.pointer (some ⟨K, 0, none⟩), .int .i64 ar, .int .i64 n] x (MkP P x B K v0 v1 (.cut ar n)) := by
  refine (cut_mk x).mono ?_
  rintro e y ⟨rfl, rfl⟩
  have hF : ∀ b, x.heap.size ≤ b → ¬ Foot K v0 v1 b := fun b hb g => by have := (h.foot_lt g).2; omega
  have hN : ∀ b, x.heap.size ≤ b → ¬ P b := fun b hb g => by have := hP b g; omega
  obtain ⟨c1, c2, c3⟩ := three_cells x (.pointer (some ⟨K, 0, none⟩)) (.int .i64 ar) (.int .i64 n) 31 3 3
  exact ⟨_, _, rfl, below_allocs x _ _ _, enters_cut, fun y' hy => stepF_cut ((hy.cell (p := ⟨x.heap.size, 0, none⟩) (cell_lt c1) (hN _ (by simp))).trans c1) ((hy.cell (p := ⟨x.heap.size + 1, 0, none⟩) (cell_lt c2) (hN _ (by simp))).trans c2) ((hy.cell (p := ⟨x.heap.size + 2, 0, none⟩) (cell_lt c3) (hN _ (by simp))).trans c3) (hF _ (by omega)) (hF _ (by omega)) (hF _ (by omega))⟩
theorem begin_p {gn : Int} {po : Option Addr} {m k : Nat} {bs : List Int} (h : DskS x B K v0 v1 σ) (hP : ∀ k, P k → k < x.heap.size) (hb : Byts x po m bs) (hfar : ∀ b o, 0 < m → po = some ⟨b, o, none⟩ → ¬ Foot K v0 v1 b) (hfp : ∀ b o, 0 < m → po = some ⟨b, o, none⟩ → ¬ P b) (hpo : po = none → k = 0) (hm : m ≤ 16777216) (hg0 : 0 ≤ gn) (hg1 : gn ≤ 18446744073709551615) (hH : Halves x) (hG : ¬ Foot K v0 v1 1) (hGp : ¬ P 1) :
    Calls Tryd.prog 47 #[.pointer (some ⟨K, 0, none⟩), .int .u64 gn, .slice po m k] x (MkP P x B K v0 v1 (.app (gn % 2) (headB gn ++ recB bs))) := by
  refine (begin_mk x).mono ?_
  rintro e y ⟨rfl, rfl⟩
  have hF : ∀ b, x.heap.size ≤ b → ¬ Foot K v0 v1 b := fun b hb g => by have := (h.foot_lt g).2; omega
  have hN : ∀ b, x.heap.size ≤ b → ¬ P b := fun b hb g => by have := hP b g; omega
  obtain ⟨c1, c2, c3⟩ := three_cells x (.pointer (some ⟨K, 0, none⟩)) (.int .u64 gn) (.slice po m k) 31 38 28
  have hbx := below_allocs x (.cells #[.pointer (some ⟨K, 0, none⟩)] 31) (.cells #[.int .u64 gn] 38) (.cells #[.slice po m k] 28)
  refine ⟨_, _, rfl, hbx, enters_begin, fun y' hy => ?_⟩
  have hxy : Off P x y' := (Off.of_below hbx).trans hy
  exact stepF_begin ((hy.cell (p := ⟨x.heap.size, 0, none⟩) (cell_lt c1) (hN _ (by simp))).trans c1) ((hy.cell (p := ⟨x.heap.size + 1, 0, none⟩) (cell_lt c2) (hN _ (by simp))).trans c2) ((hy.cell (p := ⟨x.heap.size + 2, 0, none⟩) (cell_lt c3) (hN _ (by simp))).trans c3) (hF _ (by omega)) (hF _ (by omega)) (hF _ (by omega)) (byts_off hb hxy hfp) hfar hpo hm hg0 hg1 (fun j hj => (hxy.cell (p := ⟨1, j, none⟩) (cell_lt (hH j hj)) hGp).trans (hH j hj)) hG
theorem syn_p (h : DskS x B K v0 v1 σ) (hP : ∀ k, P k → k < x.heap.size) : Calls Tryd.prog 30 #[.pointer (some ⟨K, 0, none⟩), .int .i64 ar] x (MkP P x B K v0 v1 (.syn ar)) := by
  refine (sync_q (x := x) (Or.inl rfl)).mono ?_
  rintro e y ⟨rfl, hb, c1, c2⟩
  have hF : ∀ b, x.heap.size ≤ b → ¬ Foot K v0 v1 b := fun b hb g => by have := (h.foot_lt g).2; omega
  have hN : ∀ b, x.heap.size ≤ b → ¬ P b := fun b hb g => by have := hP b g; omega
  exact ⟨_, _, rfl, hb, enters_sync, fun y' hy => stepF_syn ((hy.cell (p := ⟨x.heap.size, 0, none⟩) (cell_lt c1) (hN _ (by simp))).trans c1) ((hy.cell (p := ⟨x.heap.size + 1, 0, none⟩) (cell_lt c2) (hN _ (by simp))).trans c2) (hF _ (by omega)) (hF _ (by omega))⟩
end
/-- append of one function value to no list, as one step of a region that draws. -/
theorem step_onef {w : World} {ops : Array Oper} {o : Oper} {a : Act} {K : Act → World → Prop} {Q : Exit → Act → World → Prop} {E : Prop} {g : Nat} {u0 : Value} (hgd : o.guard = none) (s y : Operand)
    (ho : o.op = .call { callee := .builtin .append, args := #[s, y], argTypes := #[75, 75] }) (hs : a.eval s = .slice none 0 0) (hx : a.eval y = .slice (some ⟨g, 0, none⟩) 1 1)
    (hc : ∀ j, w.cell? ⟨g, j, none⟩ = #[u0][j]?) (h1 : u0.oneCell' = true)
    (h : ∀ (gL c' : Nat) (w' : World), Hid (gL = w.heap.size) → VRow w' gL 73 (.slice (some ⟨gL, 0, none⟩) 1 c') [u0] → Below w.heap.size w w' → gL < w'.heap.size → K (a.put o.dst (.slice (some ⟨gL, 0, none⟩) 1 c')) w') :
    if Region.wanted o (yielded ops a.tmps) = true then Oper.wp Tryd.prog o a w K Q else E := by
  have hw : Region.wanted o (yielded ops a.tmps) = true := by simp [Region.wanted, hgd]
  obtain ⟨i, hi, hm⟩ := Option.map_eq_some_iff.1 infoStep
  simp only [Prod.mk.injEq] at hm
  obtain ⟨m1, m2, m3⟩ := hm
  obtain ⟨z, hz, hzs⟩ := Option.map_eq_some_iff.1 m3
  obtain ⟨v', w', hrn, r, p⟩ := run_append_two (P := Tryd.prog) w w.heap.size 75 o.type 73 i z 8 Tryd.underlying75 hi hz m1 m2 hzs (.slice none 0 0) [] (VRow.nil _ _ _) ⟨g, 0, none⟩ 1 1 [u0] rfl (fun j u hu => by rw [Addr.add_lit, Nat.zero_add, hc, ← hu]; simp) (fun u hu => by rw [List.mem_singleton] at hu; rw [hu]; exact h1) (by unfold maxLen; simp) (by simp) (Nat.le_refl _)
  rw [if_pos hw]
  unfold Oper.wp execOp
  simp only [ho, resolve, invoke, builtin, Sem.run_bind, Sem.run_pure, Result.andThen_ok, List.map_toArray, List.map_cons, List.map_nil, hs, hx, hrn]
  cases p with
  | same g' cap hv hv' hg => cases hv
  | idle hv hm hw => omega
  | fresh cap hv' hg hs' =>
    subst hv'
    exact h _ _ _ rfl r ((Off.of_grown hg).below_of (fun k _ e => by cases e)) hs'
/-- append of four to a list of one. -/
theorem step_fourf {w : World} {ops : Array Oper} {o : Oper} {a : Act} {K : Act → World → Prop} {Q : Exit → Act → World → Prop} {E : Prop} {g gL c f0 f1 f2 f3 : Nat} {c0 c1 c2 c3 : Array Value} {u4 : Value} (hgd : o.guard = none) (s y : Operand)
    (ho : o.op = .call { callee := .builtin .append, args := #[s, y], argTypes := #[75, 75] }) (hs : a.eval s = .slice (some ⟨gL, 0, none⟩) 1 c) (hx : a.eval y = .slice (some ⟨g, 0, none⟩) 4 4)
    (hc : ∀ j, w.cell? ⟨g, j, none⟩ = #[Value.func (.func f0) #[] c0, Value.func (.func f1) #[] c1, Value.func (.func f2) #[] c2, Value.func (.func f3) #[] c3][j]?) (hr : VRow w gL 73 (.slice (some ⟨gL, 0, none⟩) 1 c) [u4])
    (h : ∀ g' c' w', VRow w' gL 73 (.slice (some ⟨g', 0, none⟩) 5 c') [u4, .func (.func f0) #[] c0, .func (.func f1) #[] c1, .func (.func f2) #[] c2, .func (.func f3) #[] c3] → gL ≤ g' → Off (fun k => k = gL) w w' → K (a.put o.dst (.slice (some ⟨g', 0, none⟩) 5 c')) w') :
    if Region.wanted o (yielded ops a.tmps) = true then Oper.wp Tryd.prog o a w K Q else E := by
  have hB : gL ≤ w.heap.size := Nat.le_of_lt (hr.lt (g := gL) rfl).2
  refine step_fns (B := gL) (news := [.func (.func f0) #[] c0, .func (.func f1) #[] c1, .func (.func f2) #[] c2, .func (.func f3) #[] c3]) (xs := [u4]) hgd s y ho hs hx hr rfl (fun j u hu => by rw [hc, ← hu]; simp) (fun u hu => ?_) (by omega) (by simp) hB (fun a' c' w' hv ho' => ?_)
  · simp only [List.mem_cons, List.not_mem_nil, or_false] at hu
    rcases hu with rfl | rfl | rfl | rfl <;> rfl
  · rcases hv.form with ⟨_, he⟩ | ⟨g', cap, he, hg', _⟩
    · cases he
    · simp only [Value.slice.injEq] at he
      obtain ⟨rfl, _, rfl⟩ := he
      exact h g' c' w' hv hg' (ho'.mono (fun k e => by simp [Value.ownBlock] at e; exact e.symm))
theorem off_cell {P : Nat → Prop} {w w' : World} {b o : Nat} {v : Value} (h : Off P w w') (hc : w.cell? ⟨b, o, none⟩ = some v) (hn : ¬ P b) : w'.cell? ⟨b, o, none⟩ = some v := (h.cell (p := ⟨b, o, none⟩) (cell_lt hc) hn).trans hc
theorem one_cell (z : World) (u0 : Value) (T : TypeId) (j : Nat) : (z.alloc (.cells #[u0] T)).cell? ⟨z.heap.size, j, none⟩ = #[u0][j]? := World.cell?_alloc_new _ _ _ _
section
variable {x : World} {B K L : Nat} {v0 v1 : Value} {σ : Sg} {gn ar rc wt by_ : Int} {po : Option Addr} {m k : Nat} {bs : List Int} {G na nb : Int}
set_option maxRecDepth 100000 in
set_option maxHeartbeats 8000000 in
theorem follow_one (h : Lg x B K L v0 v1 σ false gn ar rc wt by_) (hwt : 0 < wt) (hb : Byts x po m bs) (hfar : ∀ b o, 0 < m → po = some ⟨b, o, none⟩ → ¬ Foot K v0 v1 b) (hlow : ∀ b o, 0 < m → po = some ⟨b, o, none⟩ → b < x.heap.size) (hpo : po = none → k = 0) (hm : m ≤ 2097152) (hH : Halves x) (hG : ¬ Foot K v0 v1 1) (hg0 : 0 ≤ G) (hg1 : G ≤ 18446744073709551615) :
    Calls Tryd.prog 32 #[.pointer (some ⟨L, 0, none⟩), .agg #[.int .u64 G, .int .i64 na, .int .i64 0, .int .i64 0, .int .i64 nb], .slice po m k] x fun e y => ∃ g c, e = .returned (.slice (some ⟨g, 0, none⟩) 5 c) ∧ StepsAt y B K g v0 v1 [.syn ar, .cut na 0, .app (G % 2) (headB G ++ recB bs), .syn na, .cut ar 0] ∧ Below x.heap.size x y ∧ x.heap.size ≤ g := by
  obtain ⟨W, hW⟩ : ∃ W, x.alloc (.cells #[.int .u64 G, .int .i64 na, .int .i64 0, .int .i64 0, .int .i64 nb] 40) = W := ⟨_, rfl⟩
  have HWd : Hid (x.alloc (.cells #[.int .u64 G, .int .i64 na, .int .i64 0, .int .i64 0, .int .i64 nb] 40) = W) := hW
  have hbW : Below x.heap.size x W := by rw [← hW]; exact (Below.refl _ _).alloc (Nat.le_refl _) _
  have hlW : x.heap.size < W.heap.size := by rw [← hW]; simp
  have hLl : L < x.heap.size := h.lt
  have cW0 : W.cell? ⟨x.heap.size, 0, none⟩ = some (.int .u64 G) := by rw [← hW]; simp
  have cW1 : W.cell? ⟨x.heap.size, 1, none⟩ = some (.int .i64 na) := by rw [← hW]; simp
  have HC : Hid (∀ y, Below W.heap.size W y → y.cell? ⟨L, 0, none⟩ = some (.pointer (some ⟨K, 0, none⟩)) ∧ y.cell? ⟨L, 3, none⟩ = some (.int .i64 ar) ∧ y.cell? ⟨x.heap.size, 0, none⟩ = some (.int .u64 G) ∧ y.cell? ⟨x.heap.size, 1, none⟩ = some (.int .i64 na)) := fun y hy =>
    have hxy := below_then hbW hy
    ⟨(hxy.cell (p := ⟨L, 0, none⟩) hLl).trans h.c0, (hxy.cell (p := ⟨L, 3, none⟩) hLl).trans h.c3, (hy.cell (p := ⟨x.heap.size, 0, none⟩) hlW).trans cW0, (hy.cell (p := ⟨x.heap.size, 1, none⟩) hlW).trans cW1⟩
  have HS3 : Hid (∀ y, Below W.heap.size W y → Calls Tryd.prog 30 #[.pointer (some ⟨K, 0, none⟩), .int .i64 ar] y fun e y' => ∃ f caps, e = .returned (.func (.func f) #[] caps) ∧ Stp B K v0 v1 (.syn ar) f caps y' ∧ Below W.heap.size W y' ∧ y'.cell? ⟨L, 0, none⟩ = some (.pointer (some ⟨K, 0, none⟩)) ∧ y'.cell? ⟨L, 3, none⟩ = some (.int .i64 ar)) := fun y hy => (syn_q (h.d.under (below_then hbW hy))).mono fun e y' ⟨f, caps, he, hb', hen, hst⟩ =>
    have hc' := HC.out y' (below_then hy hb')
    ⟨f, caps, he, ⟨hen, hst⟩, below_then hy hb', hc'.1, hc'.2.1⟩
  have HMk : Hid (∀ (gL : Nat) (V : World), W.heap.size ≤ gL → gL < V.heap.size → Below W.heap.size W V →
      (∀ y a, Below V.heap.size V y → Calls Tryd.prog 46 #[.pointer (some ⟨K, 0, none⟩), .int .i64 a, .int .i64 0] y fun e y' => ∃ f caps, e = .returned (.func (.func f) #[] caps) ∧ Below y.heap.size y y' ∧ Stq (fun k => k = gL) B K v0 v1 (.cut a 0) f caps y' ∧ Below V.heap.size V y' ∧ y'.cell? ⟨L, 0, none⟩ = some (.pointer (some ⟨K, 0, none⟩)) ∧ y'.cell? ⟨L, 3, none⟩ = some (.int .i64 ar) ∧ y'.cell? ⟨x.heap.size, 0, none⟩ = some (.int .u64 G) ∧ y'.cell? ⟨x.heap.size, 1, none⟩ = some (.int .i64 na)) ∧
      (∀ y, Below V.heap.size V y → Calls Tryd.prog 47 #[.pointer (some ⟨K, 0, none⟩), .int .u64 G, .slice po m k] y fun e y' => ∃ f caps, e = .returned (.func (.func f) #[] caps) ∧ Below y.heap.size y y' ∧ Stq (fun k => k = gL) B K v0 v1 (.app (G % 2) (headB G ++ recB bs)) f caps y' ∧ Below V.heap.size V y' ∧ y'.cell? ⟨L, 0, none⟩ = some (.pointer (some ⟨K, 0, none⟩)) ∧ y'.cell? ⟨L, 3, none⟩ = some (.int .i64 ar) ∧ y'.cell? ⟨x.heap.size, 0, none⟩ = some (.int .u64 G) ∧ y'.cell? ⟨x.heap.size, 1, none⟩ = some (.int .i64 na)) ∧
      (∀ y, Below V.heap.size V y → Calls Tryd.prog 30 #[.pointer (some ⟨K, 0, none⟩), .int .i64 na] y fun e y' => ∃ f caps, e = .returned (.func (.func f) #[] caps) ∧ Below y.heap.size y y' ∧ Stq (fun k => k = gL) B K v0 v1 (.syn na) f caps y' ∧ Below V.heap.size V y' ∧ y'.cell? ⟨L, 0, none⟩ = some (.pointer (some ⟨K, 0, none⟩)) ∧ y'.cell? ⟨L, 3, none⟩ = some (.int .i64 ar) ∧ y'.cell? ⟨x.heap.size, 0, none⟩ = some (.int .u64 G) ∧ y'.cell? ⟨x.heap.size, 1, none⟩ = some (.int .i64 na))) := fun gL V h1 h2 hV => by
    have hx : ∀ y, Below V.heap.size V y → Below x.heap.size x y := fun y hy => below_then hbW (below_then hV hy)
    have hP : ∀ y, Below V.heap.size V y → ∀ k, k = gL → k < y.heap.size := fun y hy k e => by have := hy.size; omega
    have fin : ∀ y y' o e, Below V.heap.size V y → MkP (fun k => k = gL) y B K v0 v1 o e y' → ∃ f caps, e = .returned (.func (.func f) #[] caps) ∧ Below y.heap.size y y' ∧ Stq (fun k => k = gL) B K v0 v1 o f caps y' ∧ Below V.heap.size V y' ∧ y'.cell? ⟨L, 0, none⟩ = some (.pointer (some ⟨K, 0, none⟩)) ∧ y'.cell? ⟨L, 3, none⟩ = some (.int .i64 ar) ∧ y'.cell? ⟨x.heap.size, 0, none⟩ = some (.int .u64 G) ∧ y'.cell? ⟨x.heap.size, 1, none⟩ = some (.int .i64 na) := fun y y' o e hy ⟨f, caps, he, hb', hst⟩ =>
      have hc' := HC.out y' (below_then hV (below_then hy hb'))
      ⟨f, caps, he, hb', hst, below_then hy hb', hc'.1, hc'.2.1, hc'.2.2.1, hc'.2.2.2⟩
    have hgx : 1 < x.heap.size := cell_lt (hH 0 (by decide))
    refine ⟨fun y a hy => (cut_p (h.d.under (hx y hy)) (hP y hy) 0).mono fun e y' hq => fin y y' _ e hy hq, fun y hy => (begin_p (h.d.under (hx y hy)) (hP y hy) (hb.below (hx y hy)) hfar (fun b o h0 e g => ?_) hpo (by omega) (by omega) (by omega) (hH.under (hx y hy)) hG (fun g => ?_)).mono fun e y' hq => fin y y' _ e hy hq, fun y hy => (syn_p (h.d.under (hx y hy)) (hP y hy)).mono fun e y' hq => fin y y' _ e hy hq⟩
    · have := hlow b o h0 e; omega
    · omega
  obtain ⟨k0, k3, k4, k5⟩ := HC.out W (Below.refl _ _)
  have k6 : W.cell? ⟨L, 5, none⟩ = some (.int .i64 wt) := (hbW.cell (p := ⟨L, 5, none⟩) hLl).trans h.c5
  have HBW : Hid (Below x.heap.size x W) := hbW
  have hBW : Below W.heap.size W W := Below.refl _ _
  have hw1 : decide ((0 : Int) < wt) = true := decide_eq_true hwt
  have hk6 : x.cell? ⟨L, 5, none⟩ = some (.int .i64 wt) := h.c5
  clear h hb hfar hlow hpo hH hG hW cW0 cW1 hbW
  go_enter Tryd.func32, Tryd.ntmps32
  go_wp2_with fail
  rw [HWd.out]
  go_region_held3 (fun z => z.cell? ⟨L, 0, none⟩ = some (.pointer (some ⟨K, 0, none⟩)) ∧ z.cell? ⟨L, 3, none⟩ = some (.int .i64 ar)) (simp [*, World.cell?_alloc_some]) (first | (go_at_call 30; refine (HS3.out _ ?_).mono ?_; (first | assumption | exact Below.drew (by assumption)); rintro e wa ⟨f0, p0, rfl, ha1, ha2, ha3, ha4⟩) | (refine step_onef rfl (.tmp 14) (.tmp 25) rfl rfl rfl (one_cell _ _ _) rfl ?_; intro gL cL wb hgL hVb hBb hlb; have q1 := below_cell (p := ⟨L, 0, none⟩) (v := .pointer (some ⟨K, 0, none⟩)) hBb (by first | (simp [*]; done) | simp [*, World.cell?_alloc_some]); have q2 := below_cell (p := ⟨L, 3, none⟩) (v := .int .i64 ar) hBb (by first | (simp [*]; done) | simp [*, World.cell?_alloc_some])))
  have hWb : Below W.heap.size W wb := below_then (below_then ha2 ((Below.refl _ _).alloc (Nat.le_refl _) _)) hBb
  have HA : Hid (Stp B K v0 v1 (.syn ar) f0 p0 wa ∧ Below wa.heap.size wa wb ∧ wa.heap.size ≤ gL ∧ Below W.heap.size W wb ∧ W.heap.size ≤ gL) := ⟨ha1, below_then ((Below.refl _ _).alloc (Nat.le_refl _) _) hBb, by rw [hgL.out]; simp, hWb, by have := ha2.size; rw [hgL.out]; simp; omega⟩
  have HVb : Hid (VRow wb gL 73 (.slice (some ⟨gL, 0, none⟩) 1 cL) [.func (.func f0) #[] p0]) := hVb
  obtain ⟨mcu, mbe, msy⟩ := HMk.out gL wb HA.out.2.2.2.2 hlb hWb
  have HCu : Hid (∀ y a, Below wb.heap.size wb y → Calls Tryd.prog 46 #[.pointer (some ⟨K, 0, none⟩), .int .i64 a, .int .i64 0] y fun e y' => ∃ f caps, e = .returned (.func (.func f) #[] caps) ∧ Below y.heap.size y y' ∧ Stq (fun k => k = gL) B K v0 v1 (.cut a 0) f caps y' ∧ Below wb.heap.size wb y' ∧ y'.cell? ⟨L, 0, none⟩ = some (.pointer (some ⟨K, 0, none⟩)) ∧ y'.cell? ⟨L, 3, none⟩ = some (.int .i64 ar) ∧ y'.cell? ⟨x.heap.size, 0, none⟩ = some (.int .u64 G) ∧ y'.cell? ⟨x.heap.size, 1, none⟩ = some (.int .i64 na)) := mcu
  have HBe : Hid (∀ y, Below wb.heap.size wb y → Calls Tryd.prog 47 #[.pointer (some ⟨K, 0, none⟩), .int .u64 G, .slice po m k] y fun e y' => ∃ f caps, e = .returned (.func (.func f) #[] caps) ∧ Below y.heap.size y y' ∧ Stq (fun k => k = gL) B K v0 v1 (.app (G % 2) (headB G ++ recB bs)) f caps y' ∧ Below wb.heap.size wb y' ∧ y'.cell? ⟨L, 0, none⟩ = some (.pointer (some ⟨K, 0, none⟩)) ∧ y'.cell? ⟨L, 3, none⟩ = some (.int .i64 ar) ∧ y'.cell? ⟨x.heap.size, 0, none⟩ = some (.int .u64 G) ∧ y'.cell? ⟨x.heap.size, 1, none⟩ = some (.int .i64 na)) := mbe
  have HSy : Hid (∀ y, Below wb.heap.size wb y → Calls Tryd.prog 30 #[.pointer (some ⟨K, 0, none⟩), .int .i64 na] y fun e y' => ∃ f caps, e = .returned (.func (.func f) #[] caps) ∧ Below y.heap.size y y' ∧ Stq (fun k => k = gL) B K v0 v1 (.syn na) f caps y' ∧ Below wb.heap.size wb y' ∧ y'.cell? ⟨L, 0, none⟩ = some (.pointer (some ⟨K, 0, none⟩)) ∧ y'.cell? ⟨L, 3, none⟩ = some (.int .i64 ar) ∧ y'.cell? ⟨x.heap.size, 0, none⟩ = some (.int .u64 G) ∧ y'.cell? ⟨x.heap.size, 1, none⟩ = some (.int .i64 na)) := msy
  have hLg : ¬ L = gL := by have := HA.out.2.2.2.2; omega
  have hxg : ¬ x.heap.size = gL := by have := HA.out.2.2.2.2; omega
  have hBW : Below wb.heap.size wb wb := Below.refl _ _
  have Hlb : Hid (gL < wb.heap.size) := hlb
  clear k0 k3 k4 k5 k6 ha1 ha2 ha3 ha4 hVb hBb hgL mcu mbe msy HMk q1 q2 hlb HS3 hw1
  obtain ⟨k0, k3, k4, k5⟩ := HC.out wb hWb
  clear hWb HC
  go_wp2_with fail
  have hflag : True := trivial
  go_region_held3 (fun z => z.cell? ⟨L, 0, none⟩ = some (.pointer (some ⟨K, 0, none⟩)) ∧ z.cell? ⟨L, 3, none⟩ = some (.int .i64 ar) ∧ z.cell? ⟨x.heap.size, 0, none⟩ = some (.int .u64 G) ∧ z.cell? ⟨x.heap.size, 1, none⟩ = some (.int .i64 na)) (simp [*, World.cell?_alloc_some]) (first | (go_at_call 46; refine (HCu.out _ _ ?_).mono ?_; (first | assumption | exact Below.drew (by assumption)); rintro e wx ⟨f1, p1, rfl, hx1, hx2, hx3, hx4, hx5, hx6, hx7⟩; (first | (clear hflag; have hA1 := hx1; have hA2 := hx2) | (have hB1 := hx1; have hB2 := hx2))) | (go_at_call 47; refine (HBe.out _ ?_).mono ?_; (first | assumption | exact Below.drew (by assumption)); rintro e wy ⟨f2, p2, rfl, hy1, hy2, hy3, hy4, hy5, hy6, hy7⟩) | (go_at_call 30; refine (HSy.out _ ?_).mono ?_; (first | assumption | exact Below.drew (by assumption)); rintro e wz ⟨f3, p3, rfl, hz1, hz2, hz3, hz4, hz5, hz6, hz7⟩) | (refine step_fourf rfl (.tmp 27) (.tmp 60) rfl rfl rfl (four_cells _ _ _ _ _ _) (HVb.out.off (Off.of_below (P := fun _ => False) (below_then hx3 ((Below.refl _ _).alloc (Nat.le_refl _) _))) (fun _ _ => id)) ?_; intro g' c' w9 hw9 hg9 ho9; have q1 := off_cell (b := L) (o := 0) (v := .pointer (some ⟨K, 0, none⟩)) ho9 (by first | (simp [*]; done) | simp [*, World.cell?_alloc_some]) hLg; have q2 := off_cell (b := L) (o := 3) (v := .int .i64 ar) ho9 (by first | (simp [*]; done) | simp [*, World.cell?_alloc_some]) hLg; have q3 := off_cell (b := x.heap.size) (o := 0) (v := .int .u64 G) ho9 (by first | (simp [*]; done) | simp [*, World.cell?_alloc_some]) hxg; have q4 := off_cell (b := x.heap.size) (o := 1) (v := .int .i64 na) ho9 (by first | (simp [*]; done) | simp [*, World.cell?_alloc_some]) hxg))
  go_wp2_with fail
  have ox : Off (fun k => k = gL) wx w9 := (Off.of_below ((Below.refl _ _).alloc (Nat.le_refl _) _)).trans ho9
  have oz : Off (fun k => k = gL) wz w9 := (Off.of_below hB1).trans ox
  have oy : Off (fun k => k = gL) wy w9 := (Off.of_below hz1).trans oz
  have ob : Off (fun k => k = gL) wb w9 := (Off.of_below hx3).trans ox
  obtain ⟨a1, a2, a3, a4, a5⟩ := HA.out
  have ba : Below wa.heap.size wa w9 := a2.trans (ob.below a2.size (fun k e => by omega))
  have bW : Below W.heap.size W w9 := a4.trans (ob.below a4.size (fun k e => by omega))
  go_ret
  refine ⟨_, _, rfl, fun j o ho => ?_, below_then HBW.out bW, by omega⟩
  match j, ho with
  | 0, ho => simp at ho; subst ho; exact ⟨_, _, hw9.slot rfl, a1.1, a1.2 _ ba⟩
  | 1, ho => simp at ho; subst ho; have hs := hA2.on ((Off.of_below hy1).trans oy); exact ⟨_, _, hw9.slot rfl, hs.1, hs.2 _ (Off.refl _ _)⟩
  | 2, ho => simp at ho; subst ho; have hs := hy2.on oy; exact ⟨_, _, hw9.slot rfl, hs.1, hs.2 _ (Off.refl _ _)⟩
  | 3, ho => simp at ho; subst ho; have hs := hz2.on oz; exact ⟨_, _, hw9.slot rfl, hs.1, hs.2 _ (Off.refl _ _)⟩
  | 4, ho => simp at ho; subst ho; have hs := hB2.on ox; exact ⟨_, _, hw9.slot rfl, hs.1, hs.2 _ (Off.refl _ _)⟩
  | j + 5, ho => simp at ho
end
end Go.Proofs.YtfkcnnjkflomkaaDoor
