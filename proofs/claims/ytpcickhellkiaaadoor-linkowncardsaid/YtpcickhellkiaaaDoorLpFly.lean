/-
  The program's link: Flight.
-/
import Derived.Test.YtpcickhellkiaaaDoorLpHalf
namespace Go.Proofs.YtpcickhellkiaaaDoor
open Go.RowKit Go.Shelf

attribute [local go_sem] Oper.semAt_some

/-- A row stays where blocks that hold no cells are turned. -/
theorem erow_own {α : Type} {enc : α → List Value} {X Y : World} {row : Option Nat} {B k : Nat} {e : TypeId} {v : Value} {xs : List α} (h : ERow X B e k enc v xs) (hg : X.grownBy Y row) (hr : ∀ r, row = some r → ∃ o : Obj, X.heap[r]? = some o ∧ o.isCells = false) : ERow Y B e k enc v xs := by
  refine ERow.keep h fun g hg' => hg.block g (ERow.lt h hg').2 fun e' => ?_
  obtain ⟨o, ho, hc⟩ := hr g e'.symm
  rcases h.2 with ⟨rfl, _⟩ | ⟨g1, c1, u1, rfl, _, b1, _⟩
  · cases hg'
  · simp only [Value.ownBlock, Option.some.injEq] at hg'
    subst hg'
    rw [b1] at ho
    cases ho
    cases hc
/-- A list of new texts: each in a block of its own. -/
structure FlL (W : World) (n₀ : Nat) (v : Value) (ls : List Pc) (l : List (List Int)) : Prop where
  row : PcRow W n₀ v ls
  bs : ls.map (·.bs) = l
  pcs : ∀ p ∈ ls, PcOk W n₀ p ∧ ∃ b, p.a = some ⟨b, 0, none⟩
  ap : ls.Pairwise fun p q => p.a ≠ q.a
/-- In the midst of Flight. -/
def FlI (n₀ B : Nat) (ps : List Pp) (pre : List (Fin ps.length)) (W : World) : Prop := ∃ ls, Boxed W B 22 (.slice (some ⟨n₀, 0, none⟩) pre.length ps.length) ∧ FlL W n₀ (.slice (some ⟨n₀, 0, none⟩) pre.length ps.length) ls (pre.map fun j => ps[j].bs)
theorem FlL.keep {X Y : World} {n₀ : Nat} {v : Value} {ls : List Pc} {l : List (List Int)} (h : FlL X n₀ v ls l) {P : Nat → Prop} (o : Off P X Y) (h1 : ∀ g, v.ownBlock = some g → ¬ P g) (h2 : ∀ q cs, X.heap[q]? = some (.cells cs 5 (0, 0)) → ¬ P q) : FlL Y n₀ v ls l :=
  ⟨ERow.off h.row o h1, h.bs, fun p hp => ⟨(h.pcs p hp).1.off o h2, (h.pcs p hp).2⟩, h.ap⟩
theorem FlL.below {X Y : World} {n₀ : Nat} {v : Value} {ls : List Pc} {l : List (List Int)} (h : FlL X n₀ v ls l) (hb : Below X.heap.size X Y) : FlL Y n₀ v ls l := h.keep (P := fun _ => False) (Off.of_below hb) (fun _ _ => id) (fun _ _ _ => id)
theorem FlL.own {X Y : World} {row : Option Nat} {n₀ : Nat} {v : Value} {ls : List Pc} {l : List (List Int)} (h : FlL X n₀ v ls l) (hg : X.grownBy Y row) (hr : ∀ r, row = some r → ∃ o : Obj, X.heap[r]? = some o ∧ o.isCells = false) : FlL Y n₀ v ls l :=
  ⟨erow_own h.row hg hr, h.bs, fun p hp => ⟨⟨erow_own (h.pcs p hp).1.1 hg hr, (h.pcs p hp).1.2⟩, (h.pcs p hp).2⟩, h.ap⟩
theorem FlI.own (n₀ B : Nat) (ps : List Pp) : Own (FlI n₀ B ps) := fun pre X Y row hs hg hr => by
  obtain ⟨ls, h1, h2⟩ := hs
  exact ⟨ls, blk_own h1 hg hr, h2.own hg hr⟩
/-- One more text, in the list's own room. -/
theorem fl_step {W V w1 : World} {n₀ B N m vn vc : Nat} {ls : List Pc} {l : List (List Int)} {bs : List Int} (hB : Boxed W B 22 (.slice (some ⟨n₀, 0, none⟩) vn vc)) (hL : FlL W n₀ (.slice (some ⟨n₀, 0, none⟩) vn vc) ls l) (hn : ls.length ≤ 256) (hvc : vn < vc) (hV : Below W.heap.size W V) (hVs : V.heap.size = N) (h1 : BRow w1 N (.slice (some ⟨N, 0, none⟩) m m) bs) (hb1 : Below N V w1) (hm : m ≤ 8195) :
    ∃ u, (w1.alloc (.cells #[.slice (some ⟨N, 0, none⟩) m m] 27)).cell? ⟨n₀, vn, none⟩ = some u ∧ (w1.alloc (.cells #[.slice (some ⟨N, 0, none⟩) m m] 27)).frozen? ⟨n₀, vn, none⟩ = false ∧ w1.cell? ⟨B, 0, none⟩ = some (.slice (some ⟨n₀, 0, none⟩) vn vc) ∧ w1.frozen? ⟨B, 0, none⟩ = false ∧ (w1.alloc (.cells #[.slice (some ⟨N, 0, none⟩) m m] 27)).cell? ⟨B, 0, none⟩ = some (.slice (some ⟨n₀, 0, none⟩) vn vc) ∧ ((w1.alloc (.cells #[.slice (some ⟨N, 0, none⟩) m m] 27)).setCell ⟨n₀, vn, none⟩ (.slice (some ⟨N, 0, none⟩) m m)).cell? ⟨B, 0, none⟩ = some (.slice (some ⟨n₀, 0, none⟩) vn vc) ∧ ((w1.alloc (.cells #[.slice (some ⟨N, 0, none⟩) m m] 27)).setCell ⟨n₀, vn, none⟩ (.slice (some ⟨N, 0, none⟩) m m)).frozen? ⟨B, 0, none⟩ = false ∧
      Hid (Boxed (((w1.alloc (.cells #[.slice (some ⟨N, 0, none⟩) m m] 27)).setCell ⟨n₀, vn, none⟩ (.slice (some ⟨N, 0, none⟩) m m)).setCell ⟨B, 0, none⟩ (.slice (some ⟨n₀, 0, none⟩) (vn + 1) vc)) B 22 (.slice (some ⟨n₀, 0, none⟩) (vn + 1) vc) ∧ (∃ ls', FlL (((w1.alloc (.cells #[.slice (some ⟨N, 0, none⟩) m m] 27)).setCell ⟨n₀, vn, none⟩ (.slice (some ⟨N, 0, none⟩) m m)).setCell ⟨B, 0, none⟩ (.slice (some ⟨n₀, 0, none⟩) (vn + 1) vc)) n₀ (.slice (some ⟨n₀, 0, none⟩) (vn + 1) vc) ls' (l ++ [bs])) ∧ Off (fun q => q = B ∨ q = n₀) W (((w1.alloc (.cells #[.slice (some ⟨N, 0, none⟩) m m] 27)).setCell ⟨n₀, vn, none⟩ (.slice (some ⟨N, 0, none⟩) m m)).setCell ⟨B, 0, none⟩ (.slice (some ⟨n₀, 0, none⟩) (vn + 1) vc))) := by
  subst hVs
  have hb : Below W.heap.size W w1 := below_then hV hb1
  have hlen := hL.row.len
  have hBl := hB.lt
  have hL1 := hL.below hb
  have hB1 : w1.heap[B]? = some (.cells #[.slice (some ⟨n₀, 0, none⟩) vn vc] 22 (0, 0)) := (hb.block B hBl).trans hB
  have hsz := hb.size
  have hnl := ERow.lt hL.row (g := n₀) rfl
  obtain ⟨a2, c2, W2, hap, r2, o2, l2⟩ := run_epush (P := Tryd.prog) (t := 22) Tryd.underlying22 celPc encPc_len encPc_one hL1.row ⟨some ⟨V.heap.size, 0, none⟩, m, m, bs⟩ #[.slice (some ⟨V.heap.size, 0, none⟩) m m] rfl (by omega) (by decide) (by omega)
  rw [← hlen] at hap r2 l2
  have hA1 : PcRow (w1.alloc (.cells #[.slice (some ⟨V.heap.size, 0, none⟩) m m] 27)) n₀ (.slice (some ⟨n₀, 0, none⟩) vn vc) ls := ERow.below hL1.row ((Below.refl _ _).alloc (Nat.le_refl _) _)
  obtain ⟨u, hu, hf⟩ : ∃ u, (w1.alloc (.cells #[.slice (some ⟨V.heap.size, 0, none⟩) m m] 27)).cell? ⟨n₀, vn, none⟩ = some u ∧ (w1.alloc (.cells #[.slice (some ⟨V.heap.size, 0, none⟩) m m] 27)).frozen? ⟨n₀, vn, none⟩ = false := by
    rcases hA1.2 with ⟨e, _⟩ | ⟨g, cap, cur, e, _, hg, _, _, hc, _⟩
    · cases e
    · simp only [Value.slice.injEq, Option.some.injEq, Addr.mk.injEq, and_true] at e
      obtain ⟨rfl, _, rfl⟩ := e
      exact ⟨cur[vn]'(by omega), (hcell hg vn).trans (Array.getElem?_eq_getElem (by omega)), hfroz hg vn⟩
  obtain ⟨i, z, hi, hz, hzs, hs, hby⟩ := celPc
  have hrr := run_append_room_cells (P := Tryd.prog) (w1.alloc (.cells #[.slice (some ⟨V.heap.size, 0, none⟩) m m] 27)) 22 22 27 i Tryd.underlying22 hi n₀ 0 vn vc ⟨w1.heap.size, 0, none⟩ 1 1 [.slice (some ⟨V.heap.size, 0, none⟩) m m] (by rw [hs]; rfl) (fun j v hv => by
    have hj : j = 0 := by
      have := (List.getElem?_eq_some_iff.1 hv).1
      simpa using this
    subst hj
    simp only [List.getElem?_cons_zero, Option.some.injEq] at hv
    subst hv
    rw [Addr.add_lit, cell_new]; rfl) (fun v hv => by rw [List.mem_singleton] at hv; subst hv; rfl) (by omega) (fun j hj => by
    have hj : j = 0 := by simpa using hj
    subst hj
    rw [hs, Nat.mul_one, Nat.zero_add, Nat.add_zero, hu]; rfl) (fun j hj => by
    have hj : j = 0 := by simpa using hj
    subst hj
    rw [hs, Nat.mul_one, Nat.zero_add, Nat.add_zero]; exact hf)
  rw [hs, Nat.mul_one, Nat.zero_add] at hrr
  have e0 := hap.symm.trans hrr
  simp only [Result.ok.injEq, Value.slice.injEq] at e0
  obtain ⟨⟨rfl, -, rfl⟩, e1⟩ := e0
  have e2 : W2 = (w1.alloc (.cells #[.slice (some ⟨V.heap.size, 0, none⟩) m m] 27)).setCell ⟨n₀, vn, none⟩ (.slice (some ⟨V.heap.size, 0, none⟩) m m) := e1
  rw [← e2]
  have nB : ¬ (Value.slice (some ⟨n₀, 0, none⟩) vn c2).ownBlock = some B := fun e => by
    obtain ⟨cs, e2⟩ := row_pc hL1.row e
    rw [hB1] at e2
    simp at e2
  have bW : W2.heap[B]? = some (.cells #[.slice (some ⟨n₀, 0, none⟩) vn c2] 22 (0, 0)) := (o2.block B (by omega) nB).trans hB1
  have o3 : Off (fun q => q = B) W2 (W2.setCell ⟨B, 0, none⟩ (.slice (some ⟨n₀, 0, none⟩) (vn + 1) c2)) := Off.setCell (P := fun q => q = B) (Off.refl _ _) (p := ⟨B, 0, none⟩) rfl _
  have hN := ERow.lt h1 (g := V.heap.size) rfl
  have hVle := hV.size
  have nb2 : ∀ q cs', w1.heap[q]? = some (.cells cs' 5 (0, 0)) → ¬ (Value.slice (some ⟨n₀, 0, none⟩) vn c2).ownBlock = some q := fun q cs' hq e => by
    obtain ⟨cs2, e2⟩ := row_pc hL1.row e
    rw [hq] at e2
    simp at e2
  have nb3 : ∀ q cs', W2.heap[q]? = some (.cells cs' 5 (0, 0)) → ¬ q = B := fun q cs' hq e => by
    rw [e, bW] at hq
    simp at hq
  refine ⟨u, hu, hf, (hcell hB1 0).trans rfl, hfroz hB1 0, (World.cell?_alloc_lt _ _ ⟨B, 0, none⟩ (by show B < _; omega)).trans ((hcell hB1 0).trans rfl), (hcell bW 0).trans rfl, hfroz bW 0, Boxed.set _ bW, ⟨ls ++ [⟨some ⟨V.heap.size, 0, none⟩, m, m, bs⟩], ⟨?_, ?_, fun p hp => ?_, ?_⟩⟩, ?_⟩
  · refine ERow.off r2 o3 fun g hg e => ?_
    subst e
    obtain ⟨cs2, e2⟩ := row_pc r2 hg
    rw [bW] at e2
    simp at e2
  · rw [List.map_append, hL.bs]; rfl
  · have key : PcOk w1 n₀ p ∧ ∃ b, p.a = some ⟨b, 0, none⟩ := by
      rcases List.mem_append.1 hp with g | g
      · exact hL1.pcs p g
      · rw [List.mem_singleton] at g
        subst g
        exact ⟨⟨ERow.base h1 (by omega), hm⟩, _, rfl⟩
    exact ⟨(key.1.off o2 nb2).off o3 nb3, key.2⟩
  · rw [List.pairwise_append]
    refine ⟨hL.ap, List.pairwise_singleton _ _, fun p hp q hq => ?_⟩
    rw [List.mem_singleton] at hq
    subst hq
    intro e
    obtain ⟨⟨hr, _⟩, b, eb⟩ := hL.pcs p hp
    rw [eb] at e
    simp only [Option.some.injEq, Addr.mk.injEq, and_true] at e
    have := (ERow.lt hr (g := b) (by rw [eb]; rfl)).2
    omega
  · exact (Off.of_below hb).trans ((o2.mono fun q e => Or.inr (by simpa [Value.ownBlock] using e.symm)).trans (o3.mono fun q e => Or.inl e))
theorem keeps_off {W W' : World} {P : Nat → Prop} {B : Nat} (o : Off P W W') (hP : ∀ q, P q → ∀ x, W.heap[q]? = some x → x.isCells = true) : KeepsFrom B W W' :=
  ⟨o.size, fun k x _ hk hx => (o.block k (blk_lt hk) fun e => by rw [hP k e x hk] at hx; cases hx).trans hk⟩
section
variable {w w' : World} {lb s : Nat} {F : Nat → Prop} {x y : Dw}
/-- What Flight answers. -/
def FlQ (w : World) (l : List (List Int)) (e : Ending) (w' : World) : Prop := ∃ a c ls, e = .returned (.slice a l.length c) ∧ FlL w' w.heap.size (.slice a l.length c) ls l ∧ Below w.heap.size w w'
theorem run_make_told {w : World} (n : Nat) (hn : n ≤ 256) : ∃ w', (Instr.makeSlice 22 (.int .i64 0) (.int .i64 (n : Int))).run Tryd.prog w = .ok (.slice (some ⟨w.heap.size, 0, none⟩) 0 n) w' ∧ PcRow w' w.heap.size (.slice (some ⟨w.heap.size, 0, none⟩) 0 n) [] ∧ Below w.heap.size w w' ∧ w'.heap.size = w.heap.size + 1 := by
  obtain ⟨i, z, hi, hz, hzs, hs, hby⟩ := celPc
  have h63' : (n : Int) ≤ 9223372036854775807 := by omega
  have hr := run_make (P := Tryd.prog) w 22 27 i z Tryd.underlying22 hi hz .i64 .i64 0 n (Int.le_refl _) (by omega) (by rw [hby]; omega) h63'
  simp only [Int.toNat_zero, Int.toNat_natCast] at hr
  refine ⟨_, hr, ?_, (Below.refl _ _).alloc (Nat.le_refl _) _, by simp⟩
  unfold PcRow ERow
  have := World.ownsRow_made (base := w.heap.size) (e := 27) (size := 1) w (madeCells z.cells (n * i.size)) n (Nat.le_refl _) (by unfold maxLen; omega) (by rw [size_madeCells, hs])
  exact this
set_option maxRecDepth 100000 in
set_option maxHeartbeats 8000000 in
theorem pfly_ok (h : Lk w lb F x y) (hs : s < 2) : Calls Tryd.prog 16 #[.pointer (some ⟨lb, 0, none⟩), .int .i64 (s : Int)] w (FlQ w (sdL (dwS x y s)).1) := by
  have HW := way_ok h hs
  have hz := h.side s
  have hL := hz.lies
  have hlb := blk_lt h.blk
  have d0 := (h.cell hs).1
  have hn := hz.len
  have HP : Hid (∀ W, Below w.heap.size w W → ∀ (j : Nat) (p : Pp), (dwS x y s).ps[j]? = some p → Byts W p.a p.n p.bs ∧ 1 ≤ p.n ∧ p.n ≤ 8195) := fun W hW j p hp => by
    have hk := hz.pcs p (List.mem_of_getElem? hp)
    exact ⟨hk.byts.below hW, hk.n1, hk.n2⟩
  have eS : (sdL (dwS x y s)).1 = (dwS x y s).ps.map (·.bs) := rfl
  have hnl := hn.1
  have hn6 := hn.2.2.1
  rw [eS]
  rw [hnl] at d0 hn6
  obtain ⟨w1, hmk, hr1, hb1, hs1⟩ := run_make_told (w := w) (dwS x y s).ps.length hn6
  clear h hz hn eS hnl
  generalize (dwS x y s).ps = ps at *
  generalize (dwS x y s).a = za at *
  generalize (dwS x y s).c = zc at *
  refine (callsIn_wide (n := 5)).1 ?_
  have hro : Fence.wide.round = none := rfl
  have h1 : 1 ≤ 5 := by omega
  refine callsIn_of_wp_marks Tryd.func16 rfl trivial ?_ hro
  simp only [Tryd.ntmps16, List.size_toArray, List.length_cons, List.length_nil, Nat.reduceAdd, Nat.reduceSub, Array.replicate_succ, Array.replicate_zero, List.push_toArray, List.append_toArray, List.nil_append, List.cons_append]
  gi_wp2_with (first | (refine ⟨trivial, ?_⟩; gi_at_call 37; refine (all_in Fence.wide (5 - 1) trivial hro _ _).mono ?_; rintro e w' ⟨rfl, rfl⟩) | (refine ⟨trivial, ?_⟩; gi_at_call 29; refine (callsIn_wide.2 HW).mono ?_; rintro e w2 ⟨rfl, e2⟩; obtain rfl : w = w2 := e2.symm; clear e2))
  clear HW hmk
  have bT := (Boxed.new w1 22 (.slice (some ⟨w.heap.size, 0, none⟩) 0 ps.length)).alloc (.cells #[.pointer (some ⟨lb, s, none⟩)] 71)
  have bN := Boxed.new (w1.alloc (.cells #[.slice (some ⟨w.heap.size, 0, none⟩) 0 ps.length] 22)) 71 (.pointer (some ⟨lb, s, none⟩))
  simp only [World.size_alloc, hs1] at bN bT
  have hB01 : Below w1.heap.size w1 ((w1.alloc (.cells #[.slice (some ⟨w.heap.size, 0, none⟩) 0 ps.length] 22)).alloc (.cells #[.pointer (some ⟨lb, s, none⟩)] 71)) := ((Below.refl _ w1).alloc (Nat.le_refl _) _).alloc (by simp) _
  have hB0 := below_then hb1 hB01
  have hr0 := ERow.below hr1 hB01
  have hsz : ((w1.alloc (.cells #[.slice (some ⟨w.heap.size, 0, none⟩) 0 ps.length] 22)).alloc (.cells #[.pointer (some ⟨lb, s, none⟩)] 71)).heap.size = w.heap.size + 3 := by simp [hs1]
  obtain ⟨W0, hW0⟩ : ∃ W0, (w1.alloc (.cells #[.slice (some ⟨w.heap.size, 0, none⟩) 0 ps.length] 22)).alloc (.cells #[.pointer (some ⟨lb, s, none⟩)] 71) = W0 := ⟨_, rfl⟩
  rw [hW0] at bT bN hB0 hsz hr0 ⊢
  clear hW0 hB01 hr1 hb1 hs1
  have hmx : Tryd.prog.follows .mixedOrders = true := by kernel_rfl
  refine wpIn_rangeFunc_ownH hro h1 (gf := 63) (lb := #[.pointer (some ⟨w.heap.size + 1 + 1, 0, none⟩)]) rfl trivial (enters_of Tryd.func63 (by kernel_rfl) rfl)
    (all_stops Fence.wide (5 - 1) trivial hro (by omega) (w.heap.size + 1 + 1) w.heap.size lb s za zc ps W0 hlb (by omega) (by omega) bN.cell ((hB0.cell (p := ⟨lb, s, none⟩) hlb).trans d0) (hL.below hB0)) belowK_t (belowK_b (by omega)) (Below.refl _ _) (fun _ => rfl)
    (fun pre W => FlI w.heap.size (w.heap.size + 1) ps pre W ∧ Below w.heap.size w W)
    (fun _ _ _ => False)
    (OwnFrom.and (Own.from (FlI.own _ _ ps) _) (ownFrom_below (Nat.le_refl _) (by omega)))
    (fun _ _ _ _ _ hs _ _ => hs)
    ⟨⟨[], bT, hr0, rfl, fun p hp => (List.not_mem_nil hp).elim, List.Pairwise.nil⟩, hB0⟩
    (fun j a' W => ∃ Bx, w.heap.size + 1 < Bx ∧ W.heap[Bx]? = some (.cells #[.slice ps[j].a ps[j].n ps[j].c, .bool ps[j].br] 79 (0, 0)) ∧ a' = { tmps := #[.pointer (some ⟨lb, 0, none⟩), .int .i64 (s : Int), undef, undef, .slice none 0 0, .pointer (some ⟨lb, s, none⟩), .nilIface, .pointer (some ⟨w.heap.size + 1, 0, none⟩), undef, .pointer (some ⟨Bx, 0, none⟩), .tuple #[.pointer (some ⟨lb, s, none⟩), .nilIface], .pointer (some ⟨lb, 0, none⟩), .int .i64 (s : Int), .tuple #[.pointer (some ⟨lb, s, none⟩), .nilIface], .pointer (some ⟨lb, s, none⟩), .nilIface, .nilIface, .bool false, .pointer (some ⟨lb, s, none⟩), .pointer (some ⟨lb, s, none⟩), .pointer (some ⟨lb, s, none⟩), .slice za ps.length zc, .int .i64 (ps.length : Int), .slice (some ⟨w.heap.size, 0, none⟩) 0 ps.length, .pointer (some ⟨lb, s, none⟩), .func (.func 63) #[] #[.pointer (some ⟨w.heap.size + 1 + 1, 0, none⟩)], .int .i64 (j.val : Int), .agg #[.slice ps[j].a ps[j].n ps[j].c, .bool ps[j].br], undef, undef, undef, undef, undef, undef, undef], defers := [] })
    (fun j a' _ X Y row hs hg hr => by obtain ⟨Bx, h1, h2, h3⟩ := hs; exact ⟨Bx, h1, blk_own h2 hg (fun r e => (hr r e).2), h3⟩)
    ?assign ?body ?done ?stop
  case assign =>
    rintro l pre j W K ⟨⟨ls, bT1, hF1⟩, hB1⟩ hK
    simp only [encs]
    gi_wp2
    exact hK _ _ ((KeepsOthers.alloc _ _).from _) ((Below.refl _ W).alloc hB1.size _) ⟨⟨ls, bT1.alloc _, hF1.below ((Below.refl _ W).alloc (Nat.le_refl _) _)⟩, hB1.alloc hB1.size _⟩ ⟨W.heap.size, bT1.lt, World.alloc_heap_new W _, rfl⟩
  case body =>
    rintro l pre j a' W hl ⟨r, hr⟩ ⟨⟨ls, bT1, hF1⟩, hB1⟩ ⟨Bx, hBx, bX, rfl⟩ hlt
    obtain ⟨k, hk⟩ : ∃ k, pre.length = k := ⟨_, rfl⟩
    rw [hk] at bT1 hF1 hlt
    have cT := bT1.cell
    have fT := bT1.frozen
    have cX := hcell bX 0
    simp only [List.getElem?_toArray, List.getElem?_cons_zero] at cX
    obtain ⟨hby, hp1, hp2⟩ := HP.out W hB1 j.val ps[j.val] (List.getElem?_eq_getElem j.isLt)
    have hln : ls.length ≤ 256 := by
      have e := congrArg List.length hF1.bs
      rw [List.length_map, List.length_map] at e
      omega
    have HC : Hid (Calls Tryd.prog 38 #[.slice ps[j].a ps[j].n ps[j].c] W.drew fun e w1 => ∃ u, e = .returned (.slice (some ⟨W.heap.size, 0, none⟩) ps[j].n ps[j].n) ∧ (w1.alloc (.cells #[.slice (some ⟨W.heap.size, 0, none⟩) ps[j].n ps[j].n] 27)).cell? ⟨w.heap.size, k, none⟩ = some u ∧ (w1.alloc (.cells #[.slice (some ⟨W.heap.size, 0, none⟩) ps[j].n ps[j].n] 27)).frozen? ⟨w.heap.size, k, none⟩ = false ∧ w1.cell? ⟨w.heap.size + 1, 0, none⟩ = some (.slice (some ⟨w.heap.size, 0, none⟩) k ps.length) ∧ w1.frozen? ⟨w.heap.size + 1, 0, none⟩ = false ∧ (w1.alloc (.cells #[.slice (some ⟨W.heap.size, 0, none⟩) ps[j].n ps[j].n] 27)).cell? ⟨w.heap.size + 1, 0, none⟩ = some (.slice (some ⟨w.heap.size, 0, none⟩) k ps.length) ∧ ((w1.alloc (.cells #[.slice (some ⟨W.heap.size, 0, none⟩) ps[j].n ps[j].n] 27)).setCell ⟨w.heap.size, k, none⟩ (.slice (some ⟨W.heap.size, 0, none⟩) ps[j].n ps[j].n)).cell? ⟨w.heap.size + 1, 0, none⟩ = some (.slice (some ⟨w.heap.size, 0, none⟩) k ps.length) ∧ ((w1.alloc (.cells #[.slice (some ⟨W.heap.size, 0, none⟩) ps[j].n ps[j].n] 27)).setCell ⟨w.heap.size, k, none⟩ (.slice (some ⟨W.heap.size, 0, none⟩) ps[j].n ps[j].n)).frozen? ⟨w.heap.size + 1, 0, none⟩ = false ∧ Hid (Boxed (((w1.alloc (.cells #[.slice (some ⟨W.heap.size, 0, none⟩) ps[j].n ps[j].n] 27)).setCell ⟨w.heap.size, k, none⟩ (.slice (some ⟨W.heap.size, 0, none⟩) ps[j].n ps[j].n)).setCell ⟨w.heap.size + 1, 0, none⟩ (.slice (some ⟨w.heap.size, 0, none⟩) (k + 1) ps.length)) (w.heap.size + 1) 22 (.slice (some ⟨w.heap.size, 0, none⟩) (k + 1) ps.length) ∧ (∃ ls', FlL (((w1.alloc (.cells #[.slice (some ⟨W.heap.size, 0, none⟩) ps[j].n ps[j].n] 27)).setCell ⟨w.heap.size, k, none⟩ (.slice (some ⟨W.heap.size, 0, none⟩) ps[j].n ps[j].n)).setCell ⟨w.heap.size + 1, 0, none⟩ (.slice (some ⟨w.heap.size, 0, none⟩) (k + 1) ps.length)) w.heap.size (.slice (some ⟨w.heap.size, 0, none⟩) (k + 1) ps.length) ls' ((pre.map fun j => ps[j].bs) ++ [ps[j.val].bs])) ∧ Off (fun q => q = w.heap.size + 1 ∨ q = w.heap.size) W (((w1.alloc (.cells #[.slice (some ⟨W.heap.size, 0, none⟩) ps[j].n ps[j].n] 27)).setCell ⟨w.heap.size, k, none⟩ (.slice (some ⟨W.heap.size, 0, none⟩) ps[j].n ps[j].n)).setCell ⟨w.heap.size + 1, 0, none⟩ (.slice (some ⟨w.heap.size, 0, none⟩) (k + 1) ps.length)))) :=
      (fresh_any (c := ps[j].c) W.drew (hby.below (Below.drew (Below.refl _ _))) hp1 (by omega)).mono fun e w1 ⟨he, hh⟩ => by
        obtain ⟨u, q1, q2, q2', q3, q4, q5, q6, q7⟩ := fl_step bT1 hF1 hln hlt (Below.drew (Below.refl _ W)) rfl hh.out.1 hh.out.2 hp2
        exact ⟨u, he, q1, q2, q2', q3, q4, q5, q6, q7⟩
    have HU : Hid (Boxed W (w.heap.size + 1) 22 (.slice (some ⟨w.heap.size, 0, none⟩) k ps.length) ∧ FlL W w.heap.size (.slice (some ⟨w.heap.size, 0, none⟩) k ps.length) ls (pre.map fun j => ps[j].bs) ∧ Below w.heap.size w W) := ⟨bT1, hF1, hB1⟩
    have hkc : k + 1 ≤ ps.length := hlt
    clear hby hp1 hp2 hln HP bT1 hF1 hB1 bT bN hr0 hL d0 hB0
    simp only [Fin.getElem_fin] at *
    gi_wp2
    gi_region_with_o (first | (refine ⟨trivial, ?_⟩; gi_at_call 38; refine (CallsIn.inRound l (callsIn_wide.2 HC.out)).mono ?_; rintro _ w1 ⟨u, rfl, f0, f0', f1, f1', f2, f3, f4, HF⟩))
    all_goals gi_wp2
    all_goals (
      obtain ⟨b1, ⟨ls', hL'⟩, o1⟩ := HF.out
      obtain ⟨bT0, hF0, hB0⟩ := HU.out
      have e : (pre ++ [j]).length = k + 1 := by simp [hk]
      have hbl := o1.below (B := w.heap.size) hB0.size fun q hq => by omega
      refine ⟨keeps_off o1 fun q hq x hx => ?_, hbl, ⟨ls', by rw [e]; exact b1, by rw [e, List.map_append]; exact hL'⟩, hB0.trans hbl⟩
      rcases hq with rfl | rfl
      · rw [show W.heap[w.heap.size + 1]? = _ from bT0] at hx
        cases hx
        rfl
      · obtain ⟨cs, e2⟩ := row_pc hF0.row (g := w.heap.size) rfl
        rw [e2] at hx
        cases hx
        rfl)
  case done =>
    rintro D ys W hD rfl ⟨⟨ls, bT1, hF1⟩, hB1⟩ hK
    have cT := bT1.cell
    gi_wp2
    refine ⟨by simp, .inl ⟨_, _, rfl, run_takeDeferred hK, ?_⟩⟩
    have e1 : (List.finRange ps.length).map (fun j => ps[j].bs) = ps.map (·.bs) := by
      apply List.ext_getElem (by simp)
      intro i h1 h2
      simp
    have hF2 := hF1.own (grownBy_putObj' W D (.deferred none)) (fun r e => by cases e; exact ⟨_, hK, rfl⟩)
    rw [e1] at hF2
    rw [show (List.finRange ps.length).length = (ps.map (·.bs)).length by simp] at hF2
    refine ⟨_, results_tmp rfl _ _ _, some ⟨w.heap.size, 0, none⟩, ps.length, ls, by simp, hF2, hB1.trans (belowK_b (w := w) (Nat.le_refl _) W D _ _ (by omega) hK rfl rfl)⟩
  case stop =>
    rintro D c pre W _ _ h _
    exact h.elim
end
end Go.Proofs.YtpcickhellkiaaaDoor
