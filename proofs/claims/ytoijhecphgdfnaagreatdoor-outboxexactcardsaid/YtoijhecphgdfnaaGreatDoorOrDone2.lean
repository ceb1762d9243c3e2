/-
  The document's box: done, walked.
-/
import Derived.Test.YtoijhecphgdfnaaGreatDoorOrDone
namespace Go.Proofs.YtoijhecphgdfnaaGreatDoor
open Go.RowKit

/-- What done leaves. -/
def donS (ms : List Msg) (i : Nat) (m : Msg) (x : Int) (l : ActL) : List Msg := if (tksS x (m, false) l).2 = true then ms.eraseIdx i else ms.set i (tksS x (m, false) l).1
def RDoQ (w : World) (B r : Nat) (L : Value) (sq : Bool) (tr : Int) (ms' : List Msg) (ds : List Deed) (e : Ending) (w' : World) : Prop := ∃ a c, e = .returned (.slice a ds.length c) ∧ Hid (DRow w' w.heap.size (.slice a ds.length c) ds ∧ RBQ w B r L sq tr ms' w')
section
variable {w wx w' : World} {B r g n c i A : Nat} {sq : Bool} {tr : Int} {ms : List Msg} {m : Msg} {av v11 L : Value} {l : ActL} {x : Int} {k : Nat}
theorem DnI.start {m0 : Msg} (h : RB w B r (.slice (some ⟨g, 0, none⟩) n c) sq tr ms) (hm : ms[i]? = some m0) (st lf x : Int) (ha : ActRow w A av l) (o : Obj) : DnI w B r g n c sq tr ms i { m0 with st := st, lf := lf } A av l x 0 (.slice none 0 0) (((w.setCell ⟨g, i * 10 + 7, none⟩ (.int .i64 st)).setCell ⟨g, i * 10 + 8, none⟩ (.int .i64 lf)).alloc o) := by
  have hi := (List.getElem?_eq_some_iff.1 hm).1
  have h1 := h.set (q := 7) (u := .int .i64 st) (m' := { m0 with st := st }) hm (by decide) rfl ⟨rfl, rfl, rfl, rfl⟩
  have h2 := h1.set (q := 8) (u := .int .i64 lf) (m' := { m0 with st := st, lf := lf }) (List.getElem?_set_self hi) (by decide) rfl ⟨rfl, rfl, rfl, rfl⟩
  rw [List.set_set] at h2
  have b0 := (Below.refl ((w.setCell ⟨g, i * 10 + 7, none⟩ (.int .i64 st)).setCell ⟨g, i * 10 + 8, none⟩ (.int .i64 lf)).heap.size ((w.setCell ⟨g, i * 10 + 7, none⟩ (.int .i64 st)).setCell ⟨g, i * 10 + 8, none⟩ (.int .i64 lf))).alloc (Nat.le_refl _) o
  have oo : Off (fun q => q = g) w (((w.setCell ⟨g, i * 10 + 7, none⟩ (.int .i64 st)).setCell ⟨g, i * 10 + 8, none⟩ (.int .i64 lf)).alloc o) := (Off.setCell (P := fun q => q = g) (Off.setCell (P := fun q => q = g) (Off.refl _ _) (p := ⟨g, i * 10 + 7, none⟩) rfl _) (p := ⟨g, i * 10 + 8, none⟩) rfl _).alloc o
  refine ⟨h2.below b0, ERow.nil _ _ _ _ _, actrow_off ha oo fun q hq e => ?_, oo⟩
  obtain ⟨cs, hc⟩ := actrow_type ha hq
  obtain ⟨cs', hc'⟩ := msrow_type h.row (g := g) rfl
  rw [e, hc'] at hc
  simp at hc
/-- What is left of a list without one. -/
theorem erase_here {α : Type} {xs : List α} {i : Nat} : (xs.take (i + 1)).eraseIdx i = (xs.take i).eraseIdx i := by
  rw [List.eraseIdx_eq_take_drop_succ, List.eraseIdx_eq_take_drop_succ]
  simp [List.take_take, List.drop_take]
theorem erase_next {α : Type} {xs : List α} {i k : Nat} {y : α} (h : xs[k]? = some y) (hk : k ≠ i) : (xs.take (k + 1)).eraseIdx i = (xs.take k).eraseIdx i ++ [y] := by
  have hkl := (List.getElem?_eq_some_iff.1 h).1
  rw [List.take_add_one, h]
  simp only [Option.toList_some]
  rcases Nat.lt_or_ge i k with g | g
  · exact List.eraseIdx_append_of_lt_length (by simp; omega) _
  · rw [List.eraseIdx_of_length_le (by simp; omega), List.eraseIdx_of_length_le (by simp; omega)]
/-- In the midst of done's second loop. -/
structure DrI (w : World) (B r g n c : Nat) (sq : Bool) (tr : Int) (xs : List Msg) (i : Nat) (ds : List Deed) (v11 : Value) (k : Nat) (v15 : Value) (wx : World) : Prop where
  rb : RB wx B r (.slice (some ⟨g, 0, none⟩) n c) sq tr xs
  row : DRow wx w.heap.size v11 ds
  rest : ERow wx w.heap.size 91 10 encM v15 ((xs.take k).eraseIdx i)
  off : Off (fun q => q = g) w wx
theorem DrI.push {xs : List Msg} {ds : List Deed} {v15 : Value} (h : DrI w B r g n c sq tr xs i ds v11 k v15 wx) {y : Msg} (hy : xs[k]? = some y) (hk : k ≠ i) (hgl : g < w.heap.size) : ∃ a2 n2 c2 W2, (Builtin.append_ #[97, 97] 97 #[v15, .slice (some ⟨wx.heap.size, 0, none⟩) 1 1]).run Tryz.prog (wx.alloc (.cells #[.string y.ct, .slice y.tp y.tn y.tc, .bool y.e, .int .i64 y.a, .int .i64 y.p, .int .i64 y.nu, .bool y.nt, .int .i64 y.st, .int .i64 y.lf, .bool y.un] 91)) = .ok (.slice a2 n2 c2) W2 ∧ Hid (DrI w B r g n c sq tr xs i ds v11 (k + 1) (.slice a2 n2 c2) W2) := by
  have hl := h.rb.len
  have hln : ((xs.take k).eraseIdx i).length ≤ 32 := Nat.le_trans (List.length_eraseIdx_le _ _) (by rw [List.length_take]; omega)
  obtain ⟨a2, c2, W2, hr, r2, o2, s2⟩ := run_epush (P := Tryz.prog) (t := 97) Tryz.underlying97 celS encM_len encM_one (w := wx) h.rest y #[.string y.ct, .slice y.tp y.tn y.tc, .bool y.e, .int .i64 y.a, .int .i64 y.p, .int .i64 y.nu, .bool y.nt, .int .i64 y.st, .int .i64 y.lf, .bool y.un] rfl (by omega) (by decide) h.off.size
  have nv : ∀ {q : Nat} {cs : Array Value} {t : TypeId}, t ≠ 91 → wx.heap[q]? = some (.cells cs t (0, 0)) → v15.ownBlock ≠ some q := fun {q cs t} ht hc hq => by
    obtain ⟨cs', hc'⟩ := msrow_type h.rest hq
    rw [hc] at hc'
    simp only [Option.some.injEq, Obj.cells.injEq] at hc'
    exact ht hc'.2.1
  refine ⟨a2, _, c2, W2, hr, h.rb.off o2 (nv (by decide) h.rb.blk) (fun q hq e => ?_) (fun z hz q hq => ?_), ERow.off h.row o2 fun q hq => ?_, by rw [erase_next hy hk]; exact r2, h.off.join o2 fun q hl hq => ?_⟩
  · simp only [Value.ownBlock, Option.some.injEq] at hq
    have := (ERow.lt h.rest e).1
    omega
  · obtain ⟨cs, hc⟩ := brow_type (h.rb.own z hz).1 hq
    exact nv (by decide) hc
  · rcases h.row.2 with ⟨e, _⟩ | ⟨g', cap, cur, e, _, hb, _⟩
    · rw [e] at hq; cases hq
    · rw [e] at hq
      simp only [Value.ownBlock, Option.some.injEq] at hq
      subst hq
      exact nv (by decide) hb
  · have := (ERow.lt h.rest hq).1
    omega
set_option maxRecDepth 100000 in
set_option maxHeartbeats 8000000 in
theorem rdone_any {m0 : Msg} (h : RB w B r L sq tr ms) (hm : ms[i]? = some m0) (st lf x : Int) {aa : Option Addr} {na ca : Nat} (ha : ActRow w A (.slice aa na ca) l) (hl : l.length ≤ 1000) : Calls Tryz.prog 62 #[.pointer (some ⟨r, 0, none⟩), .int .i64 (i : Int), .agg #[.int .i64 st, .int .i64 lf], .slice aa na ca, .int .i64 x] w (RDoQ w B r L sq tr (donS ms i { m0 with st := st, lf := lf } x l) (deedsS m0.ct l)) := by
  obtain ⟨a, c, e1, _⟩ := ERow.isSlice h.row
  subst e1
  obtain ⟨g, rfl, hg, _⟩ := erow_cells h.row hm
  obtain ⟨n, hn⟩ : ∃ n, ms.length = n := ⟨_, rfl⟩
  have hna : na = l.length := ERow.len (enc := acells) (show ERow w A 103 2 acells (.slice aa na ca) l from ha)
  rw [hn] at h ⊢
  have hi : i < n := by rw [← hn]; exact (List.getElem?_eq_some_iff.1 hm).1
  have hi1 : (i : Int) < n := by omega
  have c0 := hcell h.blk 0
  have bx := Box.new w #[.int .i64 st, .int .i64 lf] 89
  have HS := DnI.start h hm st lf x ha (.cells #[.int .i64 st, .int .i64 lf] 89)
  obtain ⟨m, hmm⟩ : ∃ m, m = { m0 with st := st, lf := lf } := ⟨_, rfl⟩
  have HC : Hid (m.ct = m0.ct ∧ ms.length = n ∧ na = l.length ∧ l.length ≤ 1000 ∧ g < w.heap.size ∧ RB w B r (.slice (some ⟨g, 0, none⟩) n c) sq tr ms) := ⟨by rw [hmm], hn, hna, hl, hg, h⟩
  have ha1 : (na : Int) ≤ 1000 := by omega
  rw [← hmm] at HS ⊢
  rw [← HC.out.1]
  have HS' : Hid (DnI w B r g n c sq tr ms i m A (.slice aa na ca) l x 0 (.slice none 0 0) (((w.setCell ⟨g, i * 10 + 7, none⟩ (.int .i64 st)).setCell ⟨g, i * 10 + 8, none⟩ (.int .i64 lf)).alloc (.cells #[.int .i64 st, .int .i64 lf] 89))) := HS
  have lg := hg
  have lr := h.lt
  obtain ⟨d7, d8⟩ : w.cell? ⟨g, i * 10 + 7, none⟩ = some (.int .i64 m0.st) ∧ w.cell? ⟨g, i * 10 + 8, none⟩ = some (.int .i64 m0.lf) := by
    obtain ⟨g', e, _, hc⟩ := erow_cells h.row hm
    simp only [Option.some.injEq, Addr.mk.injEq, and_true] at e
    subst e
    exact ⟨hc.c7, hc.c8⟩
  obtain ⟨cs, hgc⟩ := msrow_type h.row (g := g) rfl
  have f7 := hfroz hgc (i * 10 + 7)
  have f8 := hfroz hgc (i * 10 + 8)
  have k0 := bx.cell 0
  have k1 := bx.cell 1
  clear h hn hna hl hm HS hmm ha hg hgc
  go_enter Tryz.func62, Tryz.ntmps62
  go_wp2_with fail
  go_loopw [11, 13, 14] (fun t11 t13 t14 wx => ∃ k : Nat, k ≤ na ∧ t14 = .int .i64 (k : Int) ∧ (∃ a8 c8, t11 = .slice a8 k c8) ∧ t13 = .bool (tksS x (m, false) (l.take k)).2 ∧ Hid (DnI w B r g n c sq tr ms i m A (.slice aa na ca) l x k t11 wx)) (fun _ _ t14 _ => na - (intOf t14).toNat)
  case atStart => exact ⟨0, Nat.zero_le _, rfl, ⟨none, 0, rfl⟩, rfl, HS'⟩
  case round =>
    clear HS' d7 d8 f7 f8 k0 k1 c0 lr bx
    obtain ⟨k, hk, rfl, ⟨a8, c8, rfl⟩, rfl, HI⟩ := hrel
    have hms : i < ms.length := by rw [HC.out.2.1]; exact hi
    by_cases hlt : k < na
    · have hlt1 : (k : Int) < na := by omega
      obtain ⟨y, hy⟩ : ∃ y, l[k]? = some y := ⟨_, List.getElem?_eq_getElem (by rw [← HC.out.2.2.1]; exact hlt)⟩
      obtain ⟨q0, q1, q2⟩ := HI.out.cells hms
      have d0 := q2.c0
      rw [(tksS_ct x (l.take k) (m, false)).1] at d0
      obtain ⟨ga, rfl, hga, p0, p1⟩ := act_cells HI.out.act hy
      have d0' : ∀ o, (wr.alloc o).cell? ⟨g, i * 10, none⟩ = some (.string m.ct) := fun o => by rw [World.cell?_alloc_lt _ _ ⟨g, i * 10, none⟩ q1]; exact d0
      have p0' : ∀ o, (wr.alloc o).cell? ⟨ga, k * 2, none⟩ = some (.int .i64 y.1) := fun o => by rw [World.cell?_alloc_lt _ _ ⟨ga, k * 2, none⟩ hga]; exact p0
      have p1' : ∀ o, (wr.alloc o).cell? ⟨ga, k * 2 + 1, none⟩ = some (.string y.2) := fun o => by rw [World.cell?_alloc_lt _ _ ⟨ga, k * 2 + 1, none⟩ hga]; exact p1
      obtain ⟨a2, c2, W2, hap, HF⟩ := HI.out.deed HC.out.2.2.2.1 hy
      have HY : Hid (l[k]? = some y) := hy
      obtain ⟨ga', e, hga2, p2, _⟩ := act_cells HF.out.2.2.1 hy
      simp only [Option.some.injEq, Addr.mk.injEq, and_true] at e
      subst e
      obtain ⟨cs, hgc⟩ := msrow_type HF.out.1.row (g := g) rfl
      have lg2 : g < W2.heap.size := blk_lt hgc
      have f5 := hfroz hgc (i * 10 + 5)
      have f6 := hfroz hgc (i * 10 + 6)
      obtain ⟨g', e, _, hc⟩ := erow_cells HF.out.1.row (j := i) (List.getElem?_set_self hms)
      simp only [Option.some.injEq, Addr.mk.injEq, and_true] at e
      subst e
      have k5 := hc.c5
      have k6 := hc.c6
      have HK : Hid (k < na ∧ deedsS m.ct (l.take (k + 1)) = deedsS m.ct (l.take k) ++ [(m.ct, y.1, y.2)]) := ⟨hlt, deeds_take hy⟩
      obtain ⟨T, hT⟩ : ∃ T, tksS x (m, false) (l.take k) = T := ⟨_, rfl⟩
      have HT : Hid (tksS x (m, false) (l.take k) = T ∧ tksS x (m, false) (l.take (k + 1)) = tkS x T y.1 ∧ i < ms.length) := ⟨hT, by rw [tks_take hy, hT], hms⟩
      rw [hT] at k5 k6 ⊢
      clear hy q0 q2 hgc hc HI hT
      go_upto_region 8 with fail
      go_cut [11] (fun t wx => t = .slice a2 (k + 1) c2 ∧ wx = W2)
      case first =>
        clear HF k5 k6 f5 f6 p2
        go_region_law (first | (refine step_app_run rfl (.tmp 33) (.tmp 44) 77 rfl rfl rfl hap ?_))
        all_goals
          go_wp2_with fail
          go_meet
          exact ⟨rfl, rfl⟩
      case rest =>
        obtain ⟨rfl, hw⟩ := hcut
        obtain ⟨W3, rfl⟩ : ∃ U, U = wc := ⟨_, rfl⟩
        subst hw
        clear hap d0 d0' p0 p0' p1 p1'
        by_cases y3 : y.1 = 3
        · have HZ : Hid (DnI w B r g n c sq tr ms i m A (.slice (some ⟨ga, 0, none⟩) na ca) l x (k + 1) (.slice a2 (k + 1) c2) (W3.setCell ⟨g, i * 10 + 6, none⟩ (.bool true))) := by
            have hf := HF.out
            refine DnI.put hf.1 hf.2.1 hf.2.2.1 hf.2.2.2 HT.out.2.2 (m' := { (tksS x (m, false) (l.take k)).1 with nt := true }) (by decide) rfl ⟨rfl, rfl, rfl, rfl⟩ ?_
            rw [HT.out.2.1, HT.out.1]
            unfold tkS
            rw [if_pos y3]
          have HN : Hid (T.2 = (tksS x (m, false) (l.take (k + 1))).2) := by
            unfold Hid
            rw [HT.out.2.1]
            unfold tkS
            rw [if_pos y3]
          rw [y3] at p2
          rw [HN.out]
          clear HF k5 f5
          go_wp2_with fail
          go_roundw
          case rel => exact ⟨k + 1, HK.out.1, by go_num, ⟨_, _, rfl⟩, rfl, HZ⟩
          case measure => simp [intOf]; have := HK.out.1; omega
        by_cases y5 : y.1 = 5
        · have HZ : Hid (DnI w B r g n c sq tr ms i m A (.slice (some ⟨ga, 0, none⟩) na ca) l x (k + 1) (.slice a2 (k + 1) c2) (W3.setCell ⟨g, i * 10 + 5, none⟩ (.int .i64 x))) := by
            have hf := HF.out
            refine DnI.put hf.1 hf.2.1 hf.2.2.1 hf.2.2.2 HT.out.2.2 (m' := { (tksS x (m, false) (l.take k)).1 with nu := x }) (by decide) rfl ⟨rfl, rfl, rfl, rfl⟩ ?_
            rw [HT.out.2.1, HT.out.1]
            unfold tkS
            rw [if_neg y3, if_pos y5]
          have HN : Hid (T.2 = (tksS x (m, false) (l.take (k + 1))).2) := by
            unfold Hid
            rw [HT.out.2.1]
            unfold tkS
            rw [if_neg y3, if_pos y5]
          rw [y5] at p2
          rw [HN.out]
          clear HF k6 f6
          go_wp2_with fail
          go_roundw
          case rel => exact ⟨k + 1, HK.out.1, by go_num, ⟨_, _, rfl⟩, rfl, HZ⟩
          case measure => simp [intOf]; have := HK.out.1; omega
        have HZ : Hid (DnI w B r g n c sq tr ms i m A (.slice (some ⟨ga, 0, none⟩) na ca) l x (k + 1) (.slice a2 (k + 1) c2) W3) := by
          have hf := HF.out
          have e : (tksS x (m, false) (l.take (k + 1))).1 = (tksS x (m, false) (l.take k)).1 := by
            rw [HT.out.2.1, HT.out.1]
            unfold tkS
            rw [if_neg y3, if_neg y5]
            split <;> rfl
          refine ⟨?_, hf.2.1, hf.2.2.1, hf.2.2.2⟩
          rw [e]
          exact hf.1
        by_cases y4 : y.1 = 4
        · have HN : Hid (true = (tksS x (m, false) (l.take (k + 1))).2) := by
            unfold Hid
            rw [HT.out.2.1]
            unfold tkS
            rw [if_neg y3, if_neg y5, if_pos y4]
          rw [y4] at p2
          clear HF k6 f6 k5 f5
          go_wp2_with fail
          go_roundw
          case rel => exact ⟨k + 1, HK.out.1, by go_num, ⟨_, _, rfl⟩, by rw [← HN.out], HZ⟩
          case measure => simp [intOf]; have := HK.out.1; omega
        · have HN : Hid (T.2 = (tksS x (m, false) (l.take (k + 1))).2) := by
            unfold Hid
            rw [HT.out.2.1]
            unfold tkS
            rw [if_neg y3, if_neg y5, if_neg y4]
          have z3 : (y.1 == 3) = false := by simpa using y3
          have z5 : (y.1 == 5) = false := by simpa using y5
          have z4 : (y.1 == 4) = false := by simpa using y4
          rw [HN.out]
          clear HF k6 f6 k5 f5
          go_wp2_with fail
          go_roundw
          case rel => exact ⟨k + 1, HK.out.1, by go_num, ⟨_, _, rfl⟩, rfl, HZ⟩
          case measure => simp [intOf]; have := HK.out.1; omega
    · have hlt1 : ¬ (k : Int) < na := by omega
      obtain rfl : k = na := by omega
      have etk : l.take k = l := List.take_of_length_le (by rw [← HC.out.2.2.1]; exact Nat.le_refl _)
      have HJ : Hid (DnI w B r g n c sq tr ms i m A (.slice aa k ca) l x k (.slice a8 k c8) wr ∧ l.take k = l ∧ (deedsS m.ct l).length = k) := ⟨HI.out, etk, by unfold deedsS; rw [List.length_map]; exact HC.out.2.2.1.symm⟩
      rw [etk]
      clear HI etk
      cases hov : (tksS x (m, false) l).2 with
      | false =>
        have HZ : Hid (DRow wr w.heap.size (.slice a8 (deedsS m.ct l).length c8) (deedsS m.ct l) ∧ RBQ w B r (.slice (some ⟨g, 0, none⟩) n c) sq tr (donS ms i m x l) wr) := by
          obtain ⟨h1, h2, h3⟩ := HJ.out
          have h4 := h1.rb
          have h5 := h1.row
          rw [h2] at h4 h5
          refine ⟨by rw [h3]; exact h5, ?_⟩
          unfold donS
          rw [hov, if_neg (by decide)]
          exact ⟨_, h4, h1.off.mono fun q e => Or.inr (by rw [e]; rfl), fun q e => Or.inl e⟩
        have HN : Hid ((deedsS m.ct l).length = k) := HJ.out.2.2
        clear HJ hov
        go_wp2_with fail
        go_ret
        exact ⟨a8, c8, by rw [HN.out]; rfl, HZ⟩
      | true =>
        have HD0 : Hid (DrI w B r g n c sq tr (ms.set i (tksS x (m, false) l).1) i (deedsS m.ct l) (.slice a8 k c8) 0 (.slice none 0 0) wr) := by
          obtain ⟨h1, h2, h3⟩ := HJ.out
          have h4 := h1.rb
          have h5 := h1.row
          rw [h2] at h4 h5
          exact ⟨h4, h5, ERow.nil _ _ _ _ _, h1.off⟩
        have HN : Hid ((deedsS m.ct l).length = k ∧ donS ms i m x l = ms.eraseIdx i ∧ (ms.set i (tksS x (m, false) l).1).eraseIdx i = ms.eraseIdx i ∧ (ms.set i (tksS x (m, false) l).1).length = n) := ⟨HJ.out.2.2, by unfold donS; rw [hov, if_pos rfl], List.eraseIdx_set_eq, by rw [List.length_set]; exact HC.out.2.1⟩
        obtain ⟨xs, hxs⟩ : ∃ xs, ms.set i (tksS x (m, false) l).1 = xs := ⟨_, rfl⟩
        rw [hxs] at HD0 HN
        have hn32 : (n : Int) ≤ 1000 := by
          have h1 := HD0.out.rb.len
          have h2 := HN.out.2.2.2
          omega
        clear HJ hov hxs
        go_wp2_with fail
        go_loopw [15, 16] (fun t15 t16 wx => ∃ j : Nat, j ≤ n ∧ t16 = .int .i64 (j : Int) ∧ (∃ a7 n7 c7, t15 = .slice a7 n7 c7) ∧ Hid (DrI w B r g n c sq tr xs i (deedsS m.ct l) (.slice a8 k c8) j t15 wx)) (fun _ t16 _ => n - (intOf t16).toNat)
        case atStart => exact ⟨0, Nat.zero_le _, rfl, ⟨none, 0, 0, rfl⟩, HD0⟩
        case round =>
          clear HD0
          obtain ⟨j, hj, rfl, ⟨a7, n7, c7, rfl⟩, HI⟩ := hrel
          have r0 := hcell HI.out.rb.blk 0
          have lr := HI.out.rb.lt
          by_cases hjn : j < n
          · have hjn1 : (j : Int) < n := by omega
            by_cases hji : j = i
            · have e1 : ((j : Int) != i) = false := by rw [hji]; simp
              have HZ : Hid (DrI w B r g n c sq tr xs i (deedsS m.ct l) (.slice a8 k c8) (j + 1) (.slice a7 n7 c7) wr) := ⟨HI.out.rb, HI.out.row, by rw [show (xs.take (j + 1)).eraseIdx i = (xs.take j).eraseIdx i by rw [hji]; exact erase_here]; exact HI.out.rest, HI.out.off⟩
              clear HI
              go_wp2_with fail
              go_roundw
              case rel => exact ⟨j + 1, hjn, by go_num, ⟨_, _, _, rfl⟩, HZ⟩
              case measure => simp [intOf]; omega
            · have e1 : ((j : Int) != i) = true := by simp; omega
              obtain ⟨y, hy⟩ : ∃ y, xs[j]? = some y := ⟨_, List.getElem?_eq_getElem (by rw [HN.out.2.2.2]; exact hjn)⟩
              obtain ⟨g', e, lg, hc⟩ := erow_cells HI.out.rb.row hy
              simp only [Option.some.injEq, Addr.mk.injEq, and_true] at e
              subst e
              obtain ⟨d0, d1, d2, d3, d4, d5, d6, d7, d8, d9⟩ := hc
              obtain ⟨a2, n2, c2, W2, hap, HZ⟩ := HI.out.push hy hji HC.out.2.2.2.2.1
              clear HI hy
              go_wp2_with (at_builtin; refine wpList_append_run rfl (.tmp 79) (.tmp 87) 97 _ rfl hap ?_)
              go_roundw
              case rel => exact ⟨j + 1, hjn, by go_num, ⟨_, _, _, rfl⟩, HZ⟩
              case measure => simp [intOf]; omega
          · have hjn1 : ¬ (j : Int) < n := by omega
            obtain rfl : j = n := by omega
            have fr := hfroz HI.out.rb.blk 0
            have HZ : Hid (DRow (wr.setCell ⟨r, 0, none⟩ (.slice a7 n7 c7)) w.heap.size (.slice a8 (deedsS m.ct l).length c8) (deedsS m.ct l) ∧ RBQ w B r (.slice (some ⟨g, 0, none⟩) j c) sq tr (donS ms i m x l) (wr.setCell ⟨r, 0, none⟩ (.slice a7 n7 c7))) := by
              have h := HI.out
              obtain ⟨n1, n2, n3, n4⟩ := HN.out
              have hrest := h.rest
              rw [List.take_of_length_le (by omega), n3, ← n2] at hrest
              have oo : Off (fun q => q = r) wr (wr.setCell ⟨r, 0, none⟩ (.slice a7 n7 c7)) := Off.setCell (P := fun q => q = r) (Off.refl _ _) (p := ⟨r, 0, none⟩) rfl _
              have nr : ∀ {q : Nat} {cs : Array Value} {t : TypeId}, t ≠ 117 → wr.heap[q]? = some (.cells cs t (0, 0)) → q ≠ r := fun {q cs t} ht hc e => by
                rw [e, h.rb.blk] at hc
                simp only [Option.some.injEq, Obj.cells.injEq] at hc
                exact ht hc.2.1.symm
              have hrB := HC.out.2.2.2.2.2
              have hB : B ≤ w.heap.size := Nat.le_trans hrB.lB (Nat.le_of_lt hrB.lt)
              refine ⟨?_, .slice a7 n7 c7, ⟨set_heap h.rb.blk 0 _, ERow.base (ERow.off hrest oo fun q hq e => ?_) hB, fun z hz => ?_, ?_, h.rb.lB⟩, ?_, fun q hq => Or.inr (ERow.lt h.rest hq).1⟩
              · rw [n1]
                refine ERow.off h.row oo fun q hq e => ?_
                rcases h.row.2 with ⟨e1, _⟩ | ⟨g', cap, cur, e1, _, hb, _⟩
                · rw [e1] at hq; cases hq
                · rw [e1] at hq
                  simp only [Value.ownBlock, Option.some.injEq] at hq
                  subst hq
                  exact nr (by decide) hb e
              · obtain ⟨cs, hc⟩ := msrow_type hrest hq
                exact nr (by decide) hc e
              · have hz2 : z ∈ xs := by
                  rw [n2, ← n3] at hz
                  exact List.mem_of_mem_eraseIdx hz
                refine ⟨ERow.off (h.rb.own z hz2).1 oo fun q hq e => ?_, (h.rb.own z hz2).2⟩
                obtain ⟨cs, hc⟩ := brow_type (h.rb.own z hz2).1 hq
                exact nr (by decide) hc e
              · rw [n2]
                have h1 := List.length_eraseIdx_le ms i
                have h2 := hrB.len
                omega
              · exact (h.off.mono fun q e => Or.inr (by rw [e]; rfl)).trans (oo.mono fun q e => Or.inl e)
            have HN2 : Hid ((deedsS m.ct l).length = k) := HN.out.1
            clear HI HN
            go_wp2_with fail
            go_ret
            exact ⟨a8, c8, by rw [HN2.out]; rfl, HZ⟩
end
end Go.Proofs.YtoijhecphgdfnaaGreatDoor
