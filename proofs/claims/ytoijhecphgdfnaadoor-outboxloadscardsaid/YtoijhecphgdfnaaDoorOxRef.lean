import Derived.Test.YtoijhecphgdfnaaDoorOxCopy
import Derived.Deep.CutRange
/-
  find of the box's list; a box in memory; made, mayBring, refuse.
-/
namespace Go.Proofs.YtoijhecphgdfnaaDoor
open Go.RowKit

set_option maxRecDepth 100000 in
set_option maxHeartbeats 1000000 in
theorem kfind_yes {w : World} {kb i : Nat} {v : Value} {ms : List Msg} {m : Msg} (h : Kd w kb v ms) (s : ByteArray) (hf : fi s ms = some i) (hm : ms[i]? = some m) : Calls Tryd.prog 44 #[.pointer (some ⟨kb, 0, none⟩), .string s] w fun e w' => e = .returned (.tuple #[.agg #[.string m.ct, .slice m.tp m.tn m.tc, .bool m.e, .int .i64 m.a, .int .i64 m.p, .int .i64 m.nu, .bool m.nt, .int .i64 m.st, .int .i64 m.lf, .bool m.un], .bool true]) ∧ Below w.heap.size w w' := by
  have bv : Below w.heap.size w (w.alloc (.cells #[.string ⟨#[]⟩, .slice none 0 0, .bool false, .int .i64 0, .int .i64 0, .int .i64 0, .bool false, .int .i64 0, .int .i64 0, .bool false] 74)) := (Below.refl _ _).alloc (Nat.le_refl _) _
  have bx := Box.new w #[.string ⟨#[]⟩, .slice none 0 0, .bool false, .int .i64 0, .int .i64 0, .int .i64 0, .bool false, .int .i64 0, .int .i64 0, .bool false] 74
  obtain ⟨a, c, rfl, _⟩ := h.2.1.isSlice
  have hi := (List.getElem?_eq_some_iff.1 hm).1
  obtain ⟨n, hn⟩ : ∃ n, ms.length = n := ⟨_, rfl⟩
  have hfI : fiI s ms = i := by unfold fiI; rw [hf]
  have hpl := place_any (h.below bv) s
  rw [hfI] at hpl
  rw [hn] at hi
  have q0 : (i : Int) < n := by omega
  have q1 : ¬ (i : Int) < 0 := by omega
  have q2 : n ≤ 32 := by rw [← hn]; exact h.2.2
  have HK : Hid (Kd w kb (.slice a n c) ms) := by rw [hn] at h; exact h
  have HM : Hid (ms[i]? = some m) := hm
  have HB0 : Hid (Below w.heap.size w (w.alloc (.cells #[.string ⟨#[]⟩, .slice none 0 0, .bool false, .int .i64 0, .int .i64 0, .int .i64 0, .bool false, .int .i64 0, .int .i64 0, .bool false] 74))) := bv
  clear hn hfI hf h hm bv
  go_enter Tryd.func44, Tryd.ntmps44
  go_wp2_with fail
  obtain ⟨V, hV⟩ : ∃ V, w.alloc (.cells #[.string ⟨#[]⟩, .slice none 0 0, .bool false, .int .i64 0, .int .i64 0, .int .i64 0, .bool false, .int .i64 0, .int .i64 0, .bool false] 74) = V := ⟨_, rfl⟩
  rw [hV] at bx hpl HB0 ⊢
  clear hV
  refine hpl.mono ?_
  rintro _ w1 ⟨rfl, hb1⟩
  have HB1 : Hid (Below w.heap.size w w1) := below_then HB0.out hb1
  have HK1 : Hid (Kd w1 kb (.slice a n c) ms) := HK.out.below HB1.out
  have x1 := bx.below hb1
  have cx := x1.cell
  have fx := x1.free
  have k1 := hcell HK1.out.1 1
  obtain ⟨g, rfl, hg, hc⟩ := erow_cells HK1.out.2.1 HM.out
  obtain ⟨c0, c1, c2, c3, c4, c5, c6, c7, c8, c9⟩ := hc
  clear hpl hb1 bx x1
  go_wp2_with fail
  refine bodyPost_ret ?_ rfl ⟨rfl, ?_⟩
  · simp [results, Tryd.results44, go_sem, cx]
  · iterate 10 (refine Below.setCell ?_ (by exact Nat.le_refl _) _)
    exact HB1.out
set_option maxRecDepth 100000 in
set_option maxHeartbeats 1000000 in
theorem kfind_no {w : World} {kb : Nat} {v : Value} {ms : List Msg} (h : Kd w kb v ms) (s : ByteArray) (hf : fi s ms = none) : Calls Tryd.prog 44 #[.pointer (some ⟨kb, 0, none⟩), .string s] w fun e w' => e = .returned (.tuple #[.agg #[.string ⟨#[]⟩, .slice none 0 0, .bool false, .int .i64 0, .int .i64 0, .int .i64 0, .bool false, .int .i64 0, .int .i64 0, .bool false], .bool false]) ∧ Below w.heap.size w w' := by
  have bv : Below w.heap.size w (w.alloc (.cells #[.string ⟨#[]⟩, .slice none 0 0, .bool false, .int .i64 0, .int .i64 0, .int .i64 0, .bool false, .int .i64 0, .int .i64 0, .bool false] 74)) := (Below.refl _ _).alloc (Nat.le_refl _) _
  have bx := Box.new w #[.string ⟨#[]⟩, .slice none 0 0, .bool false, .int .i64 0, .int .i64 0, .int .i64 0, .bool false, .int .i64 0, .int .i64 0, .bool false] 74
  have hfI : fiI s ms = -1 := by unfold fiI; rw [hf]
  have hpl := place_any (h.below bv) s
  rw [hfI] at hpl
  have HB0 : Hid (Below w.heap.size w (w.alloc (.cells #[.string ⟨#[]⟩, .slice none 0 0, .bool false, .int .i64 0, .int .i64 0, .int .i64 0, .bool false, .int .i64 0, .int .i64 0, .bool false] 74))) := bv
  clear hfI hf h bv
  go_enter Tryd.func44, Tryd.ntmps44
  go_wp2_with fail
  obtain ⟨V, hV⟩ : ∃ V, w.alloc (.cells #[.string ⟨#[]⟩, .slice none 0 0, .bool false, .int .i64 0, .int .i64 0, .int .i64 0, .bool false, .int .i64 0, .int .i64 0, .bool false] 74) = V := ⟨_, rfl⟩
  rw [hV] at bx hpl HB0 ⊢
  clear hV
  refine hpl.mono ?_
  rintro _ w1 ⟨rfl, hb1⟩
  have HB1 : Hid (Below w.heap.size w w1) := below_then HB0.out hb1
  have x1 := bx.below hb1
  have hlt : w.heap.size < w1.heap.size := (bx.below hb1).lt
  have cx := x1.cell
  have fx := x1.free
  clear hpl hb1 bx x1
  go_wp2_with fail
  refine bodyPost_ret ?_ rfl ⟨rfl, ?_⟩
  · simp [results, Tryd.results44, go_sem, cx, hlt]
  · refine Below.alloc ?_ (by simp; omega) _
    iterate 10 (refine Below.setCell ?_ (by exact Nat.le_refl _) _)
    exact HB1.out
end Go.Proofs.YtoijhecphgdfnaaDoor

/-
  A box in memory; made, mayBring, refuse.
-/
namespace Go.Proofs.YtoijhecphgdfnaaDoor
open Go.RowKit

/-- A text in memory: its own row, no longer than may be. -/
def Tx (w : World) (m : Msg) : Prop := BRow w 0 (.slice m.tp m.tn m.tc) m.tx ∧ m.tn ≤ 8192
/-- A box: its block b, its list's block kb, the list's slice v. -/
def Bx (w : World) (b kb : Nat) (v : Value) (sq : Bool) (tr : Int) (ms : List Msg) : Prop :=
  w.heap[b]? = some (.cells #[.pointer (some ⟨kb, 0, none⟩), .bool sq, .int .i64 tr] 82 (0, 0)) ∧ Kd w kb v ms ∧ ∀ m ∈ ms, Tx w m
theorem Tx.below {w w' : World} {m : Msg} (h : Tx w m) (hb : Below w.heap.size w w') : Tx w' m := ⟨ERow.below h.1 hb, h.2⟩
section
variable {w w' : World} {b kb : Nat} {v : Value} {sq : Bool} {tr : Int} {ms : List Msg}
theorem Bx.below (h : Bx w b kb v sq tr ms) (hb : Below w.heap.size w w') : Bx w' b kb v sq tr ms := ⟨(hb.block b (blk_lt h.1)).trans h.1, h.2.1.below hb, fun m hm => (h.2.2 m hm).below hb⟩
theorem Bx.lt (h : Bx w b kb v sq tr ms) : b < w.heap.size := blk_lt h.1
set_option maxHeartbeats 400000 in
theorem made_yes (h : Bx w b kb v sq tr ms) : Calls Tryd.prog 32 #[.pointer (some ⟨b, 0, none⟩)] w fun e w' => e = .returned (.bool true) ∧ w' = w := by
  have c0 := hcell h.1 0
  clear h
  go_enter Tryd.func32, Tryd.ntmps32
  go_wp2
  go_ret
  exact ⟨rfl, rfl⟩
/-- A box that nobody made. -/
def Un (w : World) (x : Value) : Prop := x = .pointer none ∨ ∃ b, x = .pointer (some ⟨b, 0, none⟩) ∧ w.cell? ⟨b, 0, none⟩ = some (.pointer none)
theorem Un.below {x : Value} (h : Un w x) (hb : Below w.heap.size w w') : Un w' x := by
  rcases h with h | ⟨b, h, hc⟩
  · exact Or.inl h
  · exact Or.inr ⟨b, h, by rw [hb.cell (p := ⟨b, 0, none⟩) (cell_lt hc)]; exact hc⟩
theorem Un.alloc {x : Value} (h : Un w x) (o : Obj) : Un (w.alloc o) x := h.below ((Below.refl _ _).alloc (Nat.le_refl _) _)
set_option maxHeartbeats 400000 in
theorem made_no {x : Value} (h : Un w x) : Calls Tryd.prog 32 #[x] w fun e w' => e = .returned (.bool false) ∧ w' = w := by
  rcases h with rfl | ⟨b, rfl, hc⟩
  · go_enter Tryd.func32, Tryd.ntmps32
    go_wp2
    go_ret
    exact ⟨rfl, rfl⟩
  · go_enter Tryd.func32, Tryd.ntmps32
    go_wp2
    go_ret
    exact ⟨rfl, rfl⟩
set_option maxHeartbeats 1000000 in
theorem mayBring_any (h : Bx w b kb v sq tr ms) (n : Int) : Calls Tryd.prog 47 #[.pointer (some ⟨b, 0, none⟩), .int .i64 n] w fun e w' => e = .returned (.bool (sq && decide (ms.length = 0) && nmB n)) ∧ w' = w := by
  have c0 := hcell h.1 0
  have c1 := hcell h.1 1
  have hc := count_any h.2.1
  have hn := isNumber_any n w
  obtain ⟨l, hl⟩ : ∃ l, ms.length = l := ⟨_, rfl⟩
  rw [hl] at hc ⊢
  clear h hl
  obtain ⟨q, hq⟩ : ∃ q, nmB n = q := ⟨_, rfl⟩
  rw [hq] at hn ⊢
  clear hq
  cases sq with
  | false =>
    go_enter Tryd.func47, Tryd.ntmps47
    go_wp2_with fail
    go_ret
    exact ⟨rfl, rfl⟩
  | true =>
    by_cases h0 : l = 0
    · subst h0
      cases q
      all_goals
        go_enter Tryd.func47, Tryd.ntmps47
        go_wp2_with (first | (go_at_call 33; refine hc.mono ?_; rintro _ w9 ⟨rfl, h9⟩; subst w9) | (go_at_call 56; refine hn.mono ?_; rintro _ w9 ⟨rfl, h9⟩; subst w9))
        go_ret
        exact ⟨rfl, rfl⟩
    · have h1 : ((l : Int) == 0) = false := by rw [beq_eq_false_iff_ne]; omega
      rw [decide_eq_false h0]
      clear h0
      go_enter Tryd.func47, Tryd.ntmps47
      go_wp2_with (first | (go_at_call 33; refine hc.mono ?_; rintro _ w9 ⟨rfl, h9⟩; subst w9))
      go_ret
      exact ⟨rfl, rfl⟩
end
end Go.Proofs.YtoijhecphgdfnaaDoor

/-
  refuse.
-/
namespace Go.Proofs.YtoijhecphgdfnaaDoor
open Go.RowKit

section
variable {w w' : World} {b kb : Nat} {v : Value} {sq : Bool} {tr : Int} {ms : List Msg}
theorem kfind_any (h : Kd w kb v ms) (s : ByteArray) : ∃ M : Msg, ∀ x, Below w.heap.size w x → Calls Tryd.prog 44 #[.pointer (some ⟨kb, 0, none⟩), .string s] x fun e x' => e = .returned (.tuple #[.agg #[.string M.ct, .slice M.tp M.tn M.tc, .bool M.e, .int .i64 M.a, .int .i64 M.p, .int .i64 M.nu, .bool M.nt, .int .i64 M.st, .int .i64 M.lf, .bool M.un], .bool (fi s ms).isSome]) ∧ Hid (Below w.heap.size w x' ∧ Below x.heap.size x x') := by
  cases hf : fi s ms with
  | some i =>
    obtain ⟨m, hm, _⟩ := fi_some hf
    exact ⟨m, fun x hx => (kfind_yes (h.below hx) s hf hm).mono fun _ _ ⟨h1, h2⟩ => ⟨h1, below_then hx h2, h2⟩⟩
  | none => exact ⟨zM, fun x hx => (kfind_no (h.below hx) s hf).mono fun _ _ ⟨h1, h2⟩ => ⟨h1, below_then hx h2, h2⟩⟩
set_option maxRecDepth 100000 in
set_option maxHeartbeats 4000000 in
theorem refuse_any (h : Bx w b kb v sq tr ms) (m : Msg) (hV : PVc w) : Calls Tryd.prog 24 #[.pointer (some ⟨b, 0, none⟩), .agg #[.string m.ct, .slice m.tp m.tn m.tc, .bool m.e, .int .i64 m.a, .int .i64 m.p, .int .i64 m.nu, .bool m.nt]] w fun e w' => e = .returned (.int .i64 (refS sq ms m)) ∧ Below w.heap.size w w' := by
  have bv : Below w.heap.size w (w.alloc (.cells #[.string m.ct, .slice m.tp m.tn m.tc, .bool m.e, .int .i64 m.a, .int .i64 m.p, .int .i64 m.nu, .bool m.nt] 48)) := (Below.refl _ _).alloc (Nat.le_refl _) _
  have bx := Box.new w #[.string m.ct, .slice m.tp m.tn m.tc, .bool m.e, .int .i64 m.a, .int .i64 m.p, .int .i64 m.nu, .bool m.nt] 48
  have HH : Hid (Bx (w.alloc (.cells #[.string m.ct, .slice m.tp m.tn m.tc, .bool m.e, .int .i64 m.a, .int .i64 m.p, .int .i64 m.nu, .bool m.nt] 48)) b kb v sq tr ms ∧ PVc (w.alloc (.cells #[.string m.ct, .slice m.tp m.tn m.tc, .bool m.e, .int .i64 m.a, .int .i64 m.p, .int .i64 m.nu, .bool m.nt] 48))) := ⟨h.below bv, hV.below bv⟩
  have hbl := h.lt
  clear h hV
  go_enter Tryd.func24, Tryd.ntmps24
  go_upto_region 1 with fail
  obtain ⟨V, hW⟩ : ∃ V, w.alloc (.cells #[.string m.ct, .slice m.tp m.tn m.tc, .bool m.e, .int .i64 m.a, .int .i64 m.p, .int .i64 m.nu, .bool m.nt] 48) = V := ⟨_, rfl⟩
  rw [hW] at bv bx HH ⊢
  clear hW
  have HB0 : Hid (Below w.heap.size w V) := bv
  have HX : Hid (Box V w.heap.size #[.string m.ct, .slice m.tp m.tn m.tc, .bool m.e, .int .i64 m.a, .int .i64 m.p, .int .i64 m.nu, .bool m.nt]) := bx
  obtain ⟨M, hM⟩ := kfind_any HH.out.1.2.1 m.ct
  have HM : Hid (∀ x, Below V.heap.size V x → Calls Tryd.prog 44 #[.pointer (some ⟨kb, 0, none⟩), .string m.ct] x fun e x' => e = .returned (.tuple #[.agg #[.string M.ct, .slice M.tp M.tn M.tc, .bool M.e, .int .i64 M.a, .int .i64 M.p, .int .i64 M.nu, .bool M.nt, .int .i64 M.st, .int .i64 M.lf, .bool M.un], .bool (fi m.ct ms).isSome]) ∧ Hid (Below V.heap.size V x' ∧ Below x.heap.size x x')) := hM
  have k0 := hcell HH.out.1.1 0
  have c0 : V.cell? ⟨w.heap.size, 0, none⟩ = some (.string m.ct) := bx.cell 0
  have hl1 : b < V.heap.size := HH.out.1.lt
  have hl2 : w.heap.size < V.heap.size := bx.lt
  obtain ⟨hs, hhs⟩ : ∃ q, (fi m.ct ms).isSome = q := ⟨_, rfl⟩
  rw [hhs] at HM
  clear hM bv bx
  go_cut [6] from 5 to 16 (fun t6 wx => t6 = .bool hs ∧ Hid (Below V.heap.size V wx))
  case first =>
    go_region_law (go_simp; go_at_call 44; refine (HM.out _ ?_).mono ?_; (repeat' (first | exact Below.refl _ _ | exact Hid.out (by assumption) | refine bl_alloc ?_ _ | refine Below.drew ?_)); rintro _ w5 ⟨rfl, hh5⟩; have hb5 : Hid (Below V.heap.size V w5) := hh5.out.1; have hc5 := (held_of hh5.out.2).cell; have hf5 := (held_of hh5.out.2).froz; have hz5 := (held_of hh5.out.2).size; go_wp2_with fail)
    all_goals
      go_wp2_with fail
      go_meet
      refine ⟨rfl, ?_⟩
      unfold Hid
      first
        | ((with_reducible refine bl_alloc ?_ _); exact Hid.out (by assumption))
        | ((iterate 10 (refine Below.setCell ?_ (by exact Nat.le_refl _) _)); exact Hid.out (by assumption))
  case rest =>
    obtain ⟨rfl, HC⟩ := hcut
    have HB1 : Hid (Below w.heap.size w wc) := below_then HB0.out HC.out
    have x1 := HX.out.below HC.out
    have HH1 : Hid (Bx wc b kb v sq tr ms ∧ PVc wc) := ⟨HH.out.1.below HC.out, HH.out.2.below HC.out⟩
    have cx := x1.cell
    have hct := isControl_any m.ct wc
    have HX1 : Hid (Box wc w.heap.size #[.string m.ct, .slice m.tp m.tn m.tc, .bool m.e, .int .i64 m.a, .int .i64 m.p, .int .i64 m.nu, .bool m.nt]) := x1
    have HS : Hid ((fi m.ct ms).isSome = hs) := hhs
    clear HM k0 c0 hl1 hl2 HX HH HC HB0 hbl x1 hhs M
    cases hq : ctB m.ct with
    | false =>
      rw [hq] at hct
      have HE : Hid (refS sq ms m = 280) := by unfold Hid refS; rw [if_pos hq]
      clear hq
      go_wp2_with fail
      refine hct.mono ?_
      rintro _ w2 ⟨rfl, hb2⟩
      have HB2 : Hid (Below w.heap.size w w2) := below_then HB1.out hb2
      clear hb2 hct cx
      go_wp2_with fail
      go_ret
      exact ⟨ret_int HE.out.symm, HB2.out⟩
    | true =>
      rw [hq] at hct
      go_wp2_with fail
      refine hct.mono ?_
      rintro _ w2 ⟨rfl, hb2⟩
      have HB2 : Hid (Below w.heap.size w w2) := below_then HB1.out hb2
      have cx2 := (HX1.out.below hb2).cell
      have HH2 : Hid (Bx w2 b kb v sq tr ms ∧ PVc w2) := ⟨HH1.out.1.below hb2, HH1.out.2.below hb2⟩
      have HX2 : Hid (Box w2 w.heap.size #[.string m.ct, .slice m.tp m.tn m.tc, .bool m.e, .int .i64 m.a, .int .i64 m.p, .int .i64 m.nu, .bool m.nt]) := HX1.out.below hb2
      have HQ : Hid (ctB m.ct = true) := hq
      clear hb2 hct cx HX1 HH1 HB1 hq
      cases hs with
      | true =>
        have HE : Hid (refS sq ms m = 6) := by unfold Hid refS; rw [HQ.out, HS.out]; rfl
        go_wp2_with fail
        go_ret
        exact ⟨ret_int HE.out.symm, HB2.out⟩
      | false =>
        by_cases h0 : m.tn = 0
        · have HE : Hid (refS sq ms m = 4) := by unfold Hid refS; rw [HQ.out, HS.out, h0]; rfl
          have g0 : ((m.tn : Int) == 0) = true := by rw [h0]; rfl
          clear h0
          go_wp2_with fail
          go_ret
          exact ⟨ret_int HE.out.symm, HB2.out⟩
        · have g0 : ((m.tn : Int) == 0) = false := by rw [beq_eq_false_iff_ne]; omega
          by_cases h1 : 8192 < m.tn
          · have HE : Hid (refS sq ms m = 4) := by unfold Hid refS; rw [HQ.out, HS.out, decide_eq_true h1, Bool.or_true]; rfl
            have g1 : (m.tn : Int) > 8192 := by omega
            clear h0 h1
            go_wp2_with fail
            go_ret
            exact ⟨ret_int HE.out.symm, HB2.out⟩
          · have HE1 : Hid ((decide (m.tn = 0) || decide (8192 < m.tn)) = false) := by unfold Hid; rw [decide_eq_false h0, decide_eq_false h1]; rfl
            have g1 : ¬ (m.tn : Int) > 8192 := by omega
            have har := areRight_any m.e m.a m.p m.nt w2 HH2.out.2
            clear h0 h1
            obtain ⟨r, hr⟩ : ∃ r, (okB m.e m.a m.p && (caB m.e m.a || !m.nt)) = r := ⟨_, rfl⟩
            rw [hr] at har
            have HR : Hid ((okB m.e m.a m.p && (caB m.e m.a || !m.nt)) = r) := hr
            clear hr
            go_wp2_with fail
            refine har.mono ?_
            rintro _ w3 ⟨rfl, hb3⟩
            have HB3 : Hid (Below w.heap.size w w3) := below_then HB2.out hb3
            have cx3 := (HX2.out.below hb3).cell
            have HH3 : Hid (Bx w3 b kb v sq tr ms) := HH2.out.1.below hb3
            clear hb3 har cx2 HX2 HH2 HB2
            cases r with
            | false =>
              have HE : Hid (refS sq ms m = 220) := by unfold Hid refS; rw [HQ.out, HS.out, HE1.out, HR.out]; rfl
              go_wp2_with fail
              go_ret
              exact ⟨ret_int HE.out.symm, HB3.out⟩
            | true =>
              by_cases h2 : m.nu = 0
              · have HE : Hid (refS sq ms m = 0) := by unfold Hid refS; rw [HQ.out, HS.out, HE1.out, HR.out, h2]; rfl
                have g2 : (m.nu != 0) = false := by rw [h2]; rfl
                clear h2
                go_wp2_with fail
                go_ret
                exact ⟨ret_int HE.out.symm, HB3.out⟩
              · have g2 : (m.nu != 0) = true := by simpa using h2
                have hmb := mayBring_any HH3.out m.nu
                obtain ⟨y, hy⟩ : ∃ y, (sq && decide (ms.length = 0) && nmB m.nu) = y := ⟨_, rfl⟩
                rw [hy] at hmb
                have HE : Hid (refS sq ms m = if y = true then 0 else 282) := by unfold Hid refS; rw [HQ.out, HS.out, HE1.out, HR.out, decide_eq_true h2, hy]; cases y <;> rfl
                clear h2 hy
                cases y
                all_goals
                  go_wp2_with fail
                  refine hmb.mono ?_
                  rintro _ w9 ⟨rfl, h9⟩
                  subst w9
                  go_wp2_with fail
                  go_ret
                  exact ⟨ret_int HE.out.symm, HB3.out⟩
end
end Go.Proofs.YtoijhecphgdfnaaDoor
