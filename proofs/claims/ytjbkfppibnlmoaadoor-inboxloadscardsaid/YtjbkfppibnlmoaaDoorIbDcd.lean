import Derived.Test.YtjbkfppibnlmoaaDoorIbRb
import Derived.Test.YtjbkfppibnlmoaaDoorIbRead
/-
  The document's box: Open, Count.
-/
namespace Go.Proofs.YtjbkfppibnlmoaaDoor
open Go.RowKit

section
variable {w w' : World} {B X : Nat} {v : Value} {K R : Int} {es : List Ent}
set_option maxRecDepth 100000 in
set_option maxHeartbeats 2000000 in
theorem rcount_any (h : RBx w B X v K R es) (hn6 : es.length ≤ 1000000) : Calls Tryd.prog 45 #[.pointer (some ⟨X, 1, none⟩)] w fun r w' => r = .returned (.tuple #[.int .i64 (es.length : Int), .int .i64 (nOp es : Int)]) ∧ Below w.heap.size w w' := by
  have HO : Hid (∀ k, Calls Tryd.prog 30 #[.pointer (some ⟨X, 1, none⟩)] (w.drewN k) fun r w' => r = .returned (.int .i64 (nOp es : Int)) ∧ w' = w.drewN k) := fun k => ropen_any (h.below (below_drewN (Below.refl _ _) k)) hn6
  obtain ⟨a, c, e1, _⟩ := ERow.isSlice h.row
  subst e1
  have c4 := h.c4
  obtain ⟨n, hn⟩ : ∃ n, es.length = n := ⟨_, rfl⟩
  obtain ⟨m, hm⟩ : ∃ m, nOp es = m := ⟨_, rfl⟩
  rw [hn] at c4 ⊢
  rw [hm] at HO ⊢
  clear h hn hm
  go_enter Tryd.func45, Tryd.ntmps45
  go_wp2_with fail
  go_quiet ((go_at_call 30; exact Calls.quiet_of_same (HO.out _)))
  go_wp2_with fail
  refine bodyPost_ret (v := .tuple #[.int .i64 n, .int .i64 m]) ?_ rfl ⟨rfl, below_drewN (Below.refl _ _) _⟩
  simp [results, Tryd.results45, go_sem]
set_option maxRecDepth 100000 in
set_option maxHeartbeats 4000000 in
theorem ropens_any (h : RBx w B X v K R es) (hn6 : es.length ≤ 100000) : Calls Tryd.prog 14 #[.pointer (some ⟨X, 1, none⟩)] w (OpQ w es) := by
  obtain ⟨a, c, e1, _⟩ := ERow.isSlice h.row
  subst e1
  obtain ⟨n, hn⟩ : ∃ n, es.length = n := ⟨_, rfl⟩
  have HH : Hid (RBx w B X (.slice a n c) K R es ∧ es.length = n) := ⟨by rw [hn] at h; exact h, hn⟩
  rw [hn] at hn6
  clear h hn
  go_enter Tryd.func14, Tryd.ntmps14
  go_wp2_with fail
  go_loopw [3, 4] (fun t3 t4 wx => ∃ i : Nat, i ≤ n ∧ t4 = .int .i64 i ∧ Hid (TRow wx w.heap.size t3 (opS (es.take i)) ∧ Below w.heap.size w wx)) (fun _ t4 _ => n - (intOf t4).toNat)
  case atStart => exact ⟨0, Nat.zero_le _, rfl, by simpa [opS] using ERow.nil _ _ _ _ _, Below.refl _ _⟩
  case round =>
    obtain ⟨i, hi, rfl, HI⟩ := hrel
    have c4 := (HH.out.1.below HI.out.2).c4
    by_cases hlt : i < n
    · have hlt1 : (i : Int) < n := by omega
      obtain ⟨e, he⟩ : ∃ e, es[i]? = some e := ⟨_, List.getElem?_eq_getElem (by rw [HH.out.2]; exact hlt)⟩
      obtain ⟨g, rfl, hg, d0, d1, d2, d3, d4, d5, d6⟩ := nrow_cells (HH.out.1.below HI.out.2).row he
      have HT : Hid (opS (es.take (i + 1)) = opS (es.take i) ++ (if dcB e = true then [] else [e.ct])) := by unfold Hid; rw [take_one he, opS_snoc]
      have hol : (opS (es.take i)).length ≤ 100000 := by
        unfold opS
        rw [List.length_map]
        exact Nat.le_trans (List.length_filter_le _ _) (by rw [List.length_take]; omega)
      clear he hg d1 d2 d3 d4 d6
      cases hd : e.cd.toList.isEmpty with
      | false =>
        have HI2 : Hid (TRow wr w.heap.size u3 (opS (es.take (i + 1))) ∧ Below w.heap.size w wr) := by
          refine ⟨?_, HI.out.2⟩
          rw [HT.out, if_pos (by unfold dcB; rw [hd]; rfl)]
          simpa using HI.out.1
        clear HT HI
        go_wp2_with fail
        go_roundw
        case rel => exact ⟨i + 1, hlt, by go_num, HI2⟩
        case measure => simp [intOf]; omega
      | true =>
        have HT2 : Hid (opS (es.take (i + 1)) = opS (es.take i) ++ [e.ct]) := by unfold Hid; rw [HT.out, if_neg (by unfold dcB; rw [hd]; decide)]
        obtain ⟨a3, c3, e3, _⟩ := ERow.isSlice HI.out.1
        obtain ⟨a2, c2, W2, hap, r2, o2, _⟩ := run_epush (P := Tryd.prog) (t := 56) Tryd.underlying56 celSt encS_len encS_one (w := wr) HI.out.1 e.ct #[.string e.ct] rfl (by omega) (by decide) HI.out.2.size
        have HI2 : Hid (TRow W2 w.heap.size (.slice a2 ((opS (es.take i)).length + 1) c2) (opS (es.take (i + 1))) ∧ Below w.heap.size w W2) := by
          refine ⟨by rw [HT2.out]; exact r2, HI.out.2.trans (o2.below HI.out.2.size fun q hq => (HI.out.1.lt hq).1)⟩
        rw [e3] at hap ⊢
        clear e3 r2 o2 HT HT2 HI
        obtain ⟨sl, hsl⟩ : ∃ q, (opS (es.take i)).length + 1 = q := ⟨_, rfl⟩
        rw [hsl] at hap HI2
        clear hsl
        go_wp2_with (at_builtin; refine wpList_append_run rfl (.tmp 23) (.tmp 32) 56 _ rfl hap ?_)
        go_roundw
        case rel => exact ⟨i + 1, hlt, by go_num, HI2⟩
        case measure => simp [intOf]; omega
    · have hlt1 : ¬ (i : Int) < n := by omega
      have HF : Hid (TRow wr w.heap.size u3 (opS es) ∧ Below w.heap.size w wr) := by
        have := HI.out
        rw [List.take_of_length_le (by rw [HH.out.2]; omega)] at this
        exact this
      obtain ⟨a3, c3, e3, _⟩ := ERow.isSlice HF.out.1
      clear HI
      subst e3
      go_wp2_with fail
      go_ret
      exact ⟨_, rfl, HF.out.1, HF.out.2⟩
end
end Go.Proofs.YtjbkfppibnlmoaaDoor

/-
  The document's box: Last.
-/
namespace Go.Proofs.YtjbkfppibnlmoaaDoor
open Go.RowKit

section
variable {w w' : World} {B X : Nat} {v : Value} {K R : Int} {es : List Ent}
set_option maxRecDepth 100000 in
set_option maxHeartbeats 4000000 in
theorem rlast_yes (h : RBx w B X v K R es) {n : Nat} {l : Ent} (hn : es.length = n + 1) (hl : es[n]? = some l) (hn6 : n ≤ 1000000) (ht : l.tn ≤ 140737488355328 ∧ l.cn ≤ 140737488355328 ∧ l.an ≤ 140737488355328) : Calls Tryd.prog 36 #[.pointer (some ⟨X, 1, none⟩)] w (EnQ w l true) := by
  have bv : Below w.heap.size w (w.alloc (.cells #[.string ⟨#[]⟩, .slice none 0 0, .int .i64 0, .int .i64 0, .slice none 0 0, .string ⟨#[]⟩, .slice none 0 0] 30)) := (Below.refl _ _).alloc (Nat.le_refl _) _
  have bx := Box.new w #[.string ⟨#[]⟩, .slice none 0 0, .int .i64 0, .int .i64 0, .slice none 0 0, .string ⟨#[]⟩, .slice none 0 0] 30
  obtain ⟨V, hV⟩ : ∃ V, w.alloc (.cells #[.string ⟨#[]⟩, .slice none 0 0, .int .i64 0, .int .i64 0, .slice none 0 0, .string ⟨#[]⟩, .slice none 0 0] 30) = V := ⟨_, rfl⟩
  rw [hV] at bv bx
  have h1 := h.below bv
  obtain ⟨a, c, e1, _⟩ := ERow.isSlice h1.row
  have q1 : (((n + 1 : Nat) : Int) == 0) = false := by rw [beq_eq_false_iff_ne]; omega
  have q2 : IntKind.i64.wrap (((n + 1 : Nat) : Int) - 1) = (n : Int) := by rw [IntKind.wrap_i64]; omega
  have q3 : (n : Int) < ((n + 1 : Nat) : Int) := by omega
  obtain ⟨m, hm⟩ : ∃ m, n + 1 = m := ⟨_, rfl⟩
  rw [hn, hm] at e1
  rw [hm] at q1 q2 q3
  subst e1
  have lg0 : ∃ g, a = some ⟨g, 0, none⟩ ∧ g < w.heap.size := by
    obtain ⟨g, e2, lg, _⟩ := nrow_cells h.row hl
    exact ⟨g, e2, lg⟩
  obtain ⟨g, rfl, lg, d0, d1, d2, d3, d4, d5, d6⟩ := nrow_cells h1.row hl
  have x4 := h1.c4
  have lX := h1.lt
  obtain ⟨xb, hxb⟩ : ∃ xb, w.heap.size = xb := ⟨_, rfl⟩
  have nX : ¬ X = xb := by have := h.lt; omega
  have ng : ¬ g = xb := by
    obtain ⟨g', e2, lg'⟩ := lg0
    obtain rfl : g = g' := by simpa using e2
    omega
  have HB : Hid (Below w.heap.size w V ∧ w.heap.size = xb ∧ xb < V.heap.size) := ⟨bv, hxb, by rw [← hxb]; exact bx.lt⟩
  rw [hxb] at bx
  have HTW : Hid (∀ z, Below V.heap.size V z → Calls Tryd.prog 31 #[.agg #[.string l.ct, .slice l.tp l.tn l.tc, .int .i64 l.nu, .int .i64 l.tk, .slice l.cp l.cn l.cc, .string l.cd, .slice l.ap l.an l.ac]] z fun r z' => ∃ a c a' c' a'' c'', r = .returned (.agg #[.string l.ct, .slice a l.tn c, .int .i64 l.nu, .int .i64 l.tk, .slice a' l.cn c', .string l.cd, .slice a'' l.an c'']) ∧ Hid (Own z' V.heap.size (l.wi a c a' c' a'' c'')) ∧ Hid (Below V.heap.size V z') ∧ Hid (Off (fun q => q = xb) V z') ∧ Box z' xb #[.string ⟨#[]⟩, .slice none 0 0, .int .i64 0, .int .i64 0, .slice none 0 0, .string ⟨#[]⟩, .slice none 0 0]) := fun z hz =>
    (rtwin_any l z ((h1.own l (List.mem_of_getElem? hl)).lies.below hz) ht.1 ht.2.1 ht.2.2).mono fun r z' ⟨a, c, a', c', a'', c'', e1, e2, e3⟩ => ⟨a, c, a', c', a'', c'', e1, e2.base hz.size, below_then hz e3, Off.of_below (below_then hz e3), bx.below (below_then hz e3)⟩
  have gs : ∀ {z : World}, Off (fun q => q = xb) V z → z.cell? ⟨X, 4, none⟩ = some (.slice (some ⟨g, 0, none⟩) m c) ∧ z.cell? ⟨g, n * 7, none⟩ = some (.string l.ct) ∧ z.cell? ⟨g, n * 7 + 1, none⟩ = some (.slice l.tp l.tn l.tc) ∧ z.cell? ⟨g, n * 7 + 2, none⟩ = some (.int .i64 l.nu) ∧ z.cell? ⟨g, n * 7 + 3, none⟩ = some (.int .i64 l.tk) ∧ z.cell? ⟨g, n * 7 + 4, none⟩ = some (.slice l.cp l.cn l.cc) ∧ z.cell? ⟨g, n * 7 + 5, none⟩ = some (.string l.cd) ∧ z.cell? ⟨g, n * 7 + 6, none⟩ = some (.slice l.ap l.an l.ac) := fun {z} hz => ⟨(hz.cell (p := ⟨X, 4, none⟩) lX nX).trans x4, (hz.cell (p := ⟨g, n * 7, none⟩) lg ng).trans d0, (hz.cell (p := ⟨g, n * 7 + 1, none⟩) lg ng).trans d1, (hz.cell (p := ⟨g, n * 7 + 2, none⟩) lg ng).trans d2, (hz.cell (p := ⟨g, n * 7 + 3, none⟩) lg ng).trans d3, (hz.cell (p := ⟨g, n * 7 + 4, none⟩) lg ng).trans d4, (hz.cell (p := ⟨g, n * 7 + 5, none⟩) lg ng).trans d5, (hz.cell (p := ⟨g, n * 7 + 6, none⟩) lg ng).trans d6⟩
  have k4 := (gs (Off.refl _ _)).1
  have HE : Hid (∀ w1 W' a1 c1 a2 c2 a3 c3, Below V.heap.size V w1 → Own w1 V.heap.size (l.wi a1 c1 a2 c2 a3 c3) → Off (fun q => q = xb) w1 W' → Own W' w.heap.size (l.wi a1 c1 a2 c2 a3 c3) ∧ Below w.heap.size w W') := fun w1 W' a1 c1 a2 c2 a3 c3 hb ho ho' => by
    obtain ⟨q1, q2, q3⟩ := HB.out
    exact ⟨(ho.off ho' fun q hq e => by omega).base q1.size, (below_then q1 hb).trans (ho'.below (Nat.le_trans q1.size hb.size) fun k hk => by omega)⟩
  clear bv h h1 hl ht hn x4 lX d0 d1 d2 d3 d4 d5 d6 lg bx nX ng HB lg0 hm
  go_enter Tryd.func36, Tryd.ntmps36
  go_wp2_with fail
  clear hV
  obtain ⟨_, d0, d1, d2, d3, d4, d5, d6⟩ := gs (Off.refl _ _)
  clear gs
  go_region_law (go_simp; go_at_call 31; refine (HTW.out _ ?_).mono ?_; (first | exact Below.refl _ _ | exact (Below.refl _ _).drew); rintro _ w1 ⟨a1, c1, a2, c2, a3, c3, rfl, ho1, hb1, hof1, bx1⟩; have s0 : w1.cell? ⟨xb, 0, none⟩ = some (.string ⟨#[]⟩) := bx1.cell 0; have f0 : w1.frozen? ⟨xb, 0, none⟩ = false := bx1.free 0; have s1 : w1.cell? ⟨xb, 1, none⟩ = some (.slice none 0 0) := bx1.cell 1; have f1 : w1.frozen? ⟨xb, 1, none⟩ = false := bx1.free 1; have s2 : w1.cell? ⟨xb, 2, none⟩ = some (.int .i64 0) := bx1.cell 2; have f2 : w1.frozen? ⟨xb, 2, none⟩ = false := bx1.free 2; have s3 : w1.cell? ⟨xb, 3, none⟩ = some (.int .i64 0) := bx1.cell 3; have f3 : w1.frozen? ⟨xb, 3, none⟩ = false := bx1.free 3; have s4 : w1.cell? ⟨xb, 4, none⟩ = some (.slice none 0 0) := bx1.cell 4; have f4 : w1.frozen? ⟨xb, 4, none⟩ = false := bx1.free 4; have s5 : w1.cell? ⟨xb, 5, none⟩ = some (.string ⟨#[]⟩) := bx1.cell 5; have f5 : w1.frozen? ⟨xb, 5, none⟩ = false := bx1.free 5; have s6 : w1.cell? ⟨xb, 6, none⟩ = some (.slice none 0 0) := bx1.cell 6; have f6 : w1.frozen? ⟨xb, 6, none⟩ = false := bx1.free 6)
  all_goals
    go_wp2_with fail
    refine bodyPost_ret ?_ rfl ⟨a1, c1, a2, c2, a3, c3, rfl, HE.out _ _ _ _ _ _ _ _ hb1.out ho1.out ?_⟩
    · simp [results, Tryd.results36, go_sem, s0, s1, s2, s3, s4, s5, s6]
    · (repeat' (first | (with_reducible exact Off.refl _ _) | (with_reducible exact Hid.out (by assumption)) | (with_reducible refine Off.drew ?_) | refine Off.setCell (P := fun q => q = xb) ?_ (by exact rfl) _))
end
end Go.Proofs.YtjbkfppibnlmoaaDoor

/-
  The document's box: at, before.
-/
namespace Go.Proofs.YtjbkfppibnlmoaaDoor
open Go.RowKit

def fiI (s : ByteArray) (es : List Ent) : Int := match fi s es with | some i => (i : Int) | none => -1
theorem fi_here {s : ByteArray} {es : List Ent} {i : Nat} {e : Ent} (he : es[i]? = some e) (hq : (e.ct.toList == s.toList) = true) (hb : ∀ (j : Nat) (m : Ent), j < i → es[j]? = some m → (m.ct.toList == s.toList) = false) : fi s es = some i := by
  obtain ⟨hi, e1⟩ := List.getElem?_eq_some_iff.1 he
  refine List.findIdx?_eq_some_iff_getElem.2 ⟨hi, by rw [e1]; exact hq, fun j hj => ?_⟩
  rw [hb j _ hj (List.getElem?_eq_getElem (by omega))]
  decide
theorem fi_nowhere {s : ByteArray} {es : List Ent} (hb : ∀ (j : Nat) (m : Ent), es[j]? = some m → (m.ct.toList == s.toList) = false) : fi s es = none := by
  refine List.findIdx?_eq_none_iff.2 fun m hm => ?_
  obtain ⟨j, hj, e1⟩ := List.getElem_of_mem hm
  exact hb j m (by rw [List.getElem?_eq_getElem hj, e1])
section
variable {w w' : World} {B X : Nat} {v : Value} {K R : Int} {es : List Ent}
set_option maxRecDepth 100000 in
set_option maxHeartbeats 2000000 in
theorem rat_any (h : RBx w B X v K R es) (s : ByteArray) (hn6 : es.length ≤ 1000000) : Calls Tryd.prog 29 #[.pointer (some ⟨X, 1, none⟩), .string s] w fun r w' => r = .returned (.int .i64 (fiI s es)) ∧ w' = w := by
  obtain ⟨a, c, e1, _⟩ := ERow.isSlice h.row
  subst e1
  obtain ⟨n, hn⟩ : ∃ n, es.length = n := ⟨_, rfl⟩
  have c4 := h.c4
  rw [hn] at c4 hn6
  have HH : Hid (NRow w B (.slice a n c) es ∧ es.length = n) := ⟨by have := h.row; rw [hn] at this; exact this, hn⟩
  clear h hn
  go_enter Tryd.func29, Tryd.ntmps29
  go_wp2_with fail
  go_loopw [5] (fun t5 wx => ∃ i : Nat, i ≤ n ∧ t5 = .int .i64 i ∧ wx = w ∧ Hid (∀ (j : Nat) (m : Ent), j < i → es[j]? = some m → (m.ct.toList == s.toList) = false)) (fun t5 _ => n - (intOf t5).toNat)
  case atStart => exact ⟨0, Nat.zero_le _, rfl, rfl, fun j m hj => by omega⟩
  case round =>
    obtain ⟨i, hi, rfl, hw, HI⟩ := hrel
    subst hw
    by_cases hlt : i < n
    · have hlt1 : (i : Int) < n := by omega
      obtain ⟨e, he⟩ : ∃ e, es[i]? = some e := ⟨_, List.getElem?_eq_getElem (by rw [HH.out.2]; exact hlt)⟩
      obtain ⟨g, rfl, hg, d0, d1, d2, d3, d4, d5, d6⟩ := nrow_cells HH.out.1 he
      have HE : Hid (es[i]? = some e) := he
      clear he hg d1 d2 d3 d4 d5 d6
      cases hq : (e.ct.toList == s.toList) with
      | true =>
        have HF : Hid ((i : Int) = fiI s es) := by unfold Hid fiI; rw [fi_here HE.out hq HI.out]
        clear HI HE
        go_wp2_with fail
        go_ret
        exact ⟨by rw [← HF.out]; rfl, rfl⟩
      | false =>
        have HI2 : Hid (∀ (j : Nat) (m : Ent), j < i + 1 → es[j]? = some m → (m.ct.toList == s.toList) = false) := fun j m hj hm => by
          by_cases e2 : j < i
          · exact HI.out j m e2 hm
          · obtain rfl : j = i := by omega
            have := HE.out
            rw [hm] at this
            obtain rfl := Option.some.inj this
            exact hq
        clear HI HE
        go_wp2_with fail
        go_roundw
        case rel => exact ⟨i + 1, hlt, by go_num, by first | rfl | trivial, HI2⟩
        case measure => simp [intOf]; omega
    · have hlt1 : ¬ (i : Int) < n := by omega
      have HF : Hid ((-1 : Int) = fiI s es) := by
        unfold Hid fiI
        rw [fi_nowhere fun j m hm => HI.out j m (by have := (List.getElem?_eq_some_iff.1 hm).1; have := HH.out.2; omega) hm]
      clear HI
      go_wp2_with fail
      go_ret
      exact ⟨by rw [← HF.out]; rfl, rfl⟩
set_option maxRecDepth 100000 in
set_option maxHeartbeats 2000000 in
theorem rbefore_any (h : RBx w B X v K R es) (t : Int) (hn6 : es.length ≤ 1000000) : Calls Tryd.prog 28 #[.pointer (some ⟨X, 1, none⟩), .int .i64 t] w fun r w' => r = .returned (.bool (decide (0 < es.length) && decide (t < lastT es))) ∧ Below w.heap.size w w' := by
  obtain ⟨a, c, e1, _⟩ := ERow.isSlice h.row
  subst e1
  have c4 := h.c4
  rcases Nat.eq_zero_or_pos es.length with h0 | h0
  · rw [h0] at c4 ⊢
    clear h h0
    have hd : decide ((0 : Int) > 0) = false := by decide
    go_enter Tryd.func28, Tryd.ntmps28
    go_wp2_with fail
    go_quiet (fail)
    go_wp2_with fail
    go_ret
    exact ⟨rfl, below_drewN (Below.refl _ _) _⟩
  · obtain ⟨n, hn⟩ : ∃ n, es.length = n + 1 := ⟨es.length - 1, by omega⟩
    have hat := lasE_at hn
    obtain ⟨g, rfl, hg, d0, d1, d2, d3, d4, d5, d6⟩ := nrow_cells h.row hat
    have hlt : lastT es = (lasE es).tk := lastT_eq es
    rw [hlt, decide_eq_true h0, Bool.true_and]
    have q2 : IntKind.i64.wrap (((n + 1 : Nat) : Int) - 1) = (n : Int) := by rw [IntKind.wrap_i64]; omega
    have q3 : (n : Int) < ((n + 1 : Nat) : Int) := by omega
    have q4 : decide (0 < n + 1) = true := decide_eq_true (by omega)
    have q5 : 0 < n + 1 := by omega
    rw [hn] at c4
    obtain ⟨m, hm⟩ : ∃ m, n + 1 = m := ⟨_, rfl⟩
    rw [hm] at c4 q2 q3 q4 q5
    obtain ⟨tk, htk⟩ : ∃ q, (lasE es).tk = q := ⟨_, rfl⟩
    rw [htk] at d3 ⊢
    clear h h0 hat hg d0 d1 d2 d4 d5 d6 hlt hn hm hn6 htk
    go_enter Tryd.func28, Tryd.ntmps28
    go_wp2_with fail
    go_quiet (fail)
    go_wp2_with fail
    go_ret
    exact ⟨rfl, below_drewN (Below.refl _ _) _⟩
end
end Go.Proofs.YtjbkfppibnlmoaaDoor

/-
  Accept.
-/
namespace Go.Proofs.YtjbkfppibnlmoaaDoor
open Go.RowKit

/-- Accept's answer. -/
def accC (R : Int) (es : List Ent) (e : Ent) : Int := if dcB e = true then 300 else refS R es e
theorem refS_zero {R : Int} {es : List Ent} {e : Ent} (h : refS R es e = 0) : mayB e = true ∧ ¬ e.tk < lastT es ∧ fi e.ct es = none ∧ (opB e = true → (nOp es : Int) ≠ R) := by
  unfold refS at h
  split at h
  · cases h
  · rename_i h1
    split at h
    · cases h
    · rename_i h2
      split at h
      · cases h
      · rename_i h3
        simp only [Bool.or_eq_true, Bool.not_eq_true', decide_eq_true_eq, not_or, Bool.not_eq_false] at h1
        refine ⟨h1.1, h1.2, by simpa using h2, fun ho e => h3 (by rw [ho, decide_eq_true e]; rfl)⟩
theorem srt_snoc {es : List Ent} {e : Ent} (h : Srt es) (ht : lastT es ≤ e.tk) : Srt (es ++ [e]) := fun i x y hx hy => by
  have hi := (List.getElem?_eq_some_iff.1 hy).1
  simp only [List.length_append, List.length_singleton] at hi
  by_cases hl : i + 1 < es.length
  · rw [List.getElem?_append_left (by omega)] at hx
    rw [List.getElem?_append_left hl] at hy
    exact h i x y hx hy
  · have hie : i + 1 = es.length := by omega
    rw [List.getElem?_append_left (by omega)] at hx
    rw [List.getElem?_append_right (by omega), hie, Nat.sub_self] at hy
    simp only [List.getElem?_cons_zero, Option.some.injEq] at hy
    subst hy
    have := lasE_at (es := es) hie.symm
    rw [hx] at this
    rw [Option.some.inj this, ← lastT_eq]
    exact ht
theorem nDc_snoc {es : List Ent} {e : Ent} (hd : dcB e = false) : nDc (es ++ [e]) = nDc es := by
  unfold nDc
  rw [List.countP_append, List.countP_cons, hd]
  simp
theorem inv_snoc {K R : Int} {es : List Ent} {e : Ent} (h : Inv K R es) (hd : dcB e = false) (ht : ¬ e.tk < lastT es) (hn : (nOp es : Int) ≠ R) : Inv K R (es ++ [e]) := by
  refine ⟨h.k1, h.k2, h.r1, h.r2, ?_, by rw [nDc_snoc hd]; exact h.dc, srt_snoc h.srt (by omega)⟩
  rw [nOp_snoc, hd]
  have := h.op
  simp
  omega
section
variable {w w' : World} {B b sb M : Nat} {v : Value} {K R : Int} {es : List Ent}
end
end Go.Proofs.YtjbkfppibnlmoaaDoor

/-
  Decide.
-/
namespace Go.Proofs.YtjbkfppibnlmoaaDoor
open Go.RowKit

/-- Decide's answer. -/
def decC (es : List Ent) (s cd : ByteArray) (n : Nat) : Int :=
  if vdB cd = false then 302 else if 2048 < n then 4 else match fi s es with | none => 11 | some i => if dcB (es.getD i zE) = true then 6 else 0
theorem decC_zero {es : List Ent} {s cd : ByteArray} {n : Nat} (h : decC es s cd n = 0) : vdB cd = true ∧ n ≤ 2048 ∧ ∃ i x, fi s es = some i ∧ es[i]? = some x ∧ opB x = true := by
  unfold decC at h
  split at h
  · cases h
  · rename_i h1
    split at h
    · cases h
    · rename_i h2
      refine ⟨by simpa using h1, by omega, ?_⟩
      cases hf : fi s es with
      | none => rw [hf] at h; cases h
      | some i =>
        rw [hf] at h
        obtain ⟨x, hx, _⟩ := fi_some hf
        simp only at h
        rw [List.getD_eq_getElem?_getD, hx] at h
        simp only [Option.getD_some] at h
        split at h
        · cases h
        · rename_i h3
          exact ⟨i, x, rfl, hx, by unfold opB; unfold dcB at h3; simpa using h3⟩
theorem srt_le {es : List Ent} (h : Srt es) : ∀ (d i : Nat) (x y : Ent), es[i]? = some x → es[i + d]? = some y → x.tk ≤ y.tk
  | 0, i, x, y, hx, hy => by
    rw [Nat.add_zero, hx] at hy
    cases hy
    exact Int.le_refl _
  | d + 1, i, x, y, hx, hy => by
    have hl := (List.getElem?_eq_some_iff.1 hy).1
    obtain ⟨z, hz⟩ : ∃ z, es[i + d]? = some z := ⟨_, List.getElem?_eq_getElem (by omega)⟩
    exact Int.le_trans (srt_le h d i x z hx hz) (h (i + d) z y hz hy)
theorem srt_erase {es : List Ent} (h : Srt es) (k : Nat) : Srt (es.eraseIdx k) := fun i x y hx hy => by
  rw [List.getElem?_eraseIdx] at hx hy
  split at hx <;> split at hy
  · exact h i x y hx hy
  · exact srt_le h 2 i x y hx hy
  · omega
  · exact h (i + 1) x y hx hy
theorem srt_set {es : List Ent} (h : Srt es) {i : Nat} {x y : Ent} (hx : es[i]? = some x) (hy : y.tk = x.tk) : Srt (es.set i y) := fun j p q hp hq => by
  have key : ∀ (a : Nat) (p : Ent), (es.set i y)[a]? = some p → ∃ p' : Ent, es[a]? = some p' ∧ p'.tk = p.tk := fun a p hp => by
    by_cases ha : i = a
    · subst ha
      rw [List.getElem?_set_self (List.getElem?_eq_some_iff.1 hx).1] at hp
      cases hp
      exact ⟨x, hx, hy.symm⟩
    · rw [List.getElem?_set_ne ha] at hp
      exact ⟨p, hp, rfl⟩
  obtain ⟨p', h1, h2⟩ := key j p hp
  obtain ⟨q', g1, g2⟩ := key (j + 1) q hq
  rw [← h2, ← g2]
  exact h j p' q' h1 g1
theorem inv_shed {K R : Int} {es : List Ent} (h : Inv K R es) {i : Nat} {x y : Ent} (hx : es[i]? = some x) (ho : opB x = true) (hd : opB y = false) (ht : y.tk = x.tk) : Inv K R (shedS K (es.set i y)) := by
  have h1 := nOp_set hx ho hd
  have h2 := nOp_add es
  have h3 := nOp_add (es.set i y)
  rw [List.length_set] at h3
  have h4 := h.op
  have h5 := h.dc
  have h6 := srt_set h.srt hx ht
  unfold shedS
  cases hm : manyB K (es.set i y) with
  | false =>
    unfold manyB at hm
    have hm := of_decide_eq_false hm
    exact ⟨h.k1, h.k2, h.r1, h.r2, by simp; omega, by simp; omega, by simpa using h6⟩
  | true =>
    obtain ⟨j, z, hf, hz, hdz⟩ := many_fd (by have := h.k1; omega) hm
    rw [hf]
    have hn := nOp_erase hz hdz
    have h7 := nOp_add ((es.set i y).eraseIdx j)
    have hjl := (List.getElem?_eq_some_iff.1 hz).1
    rw [List.length_eraseIdx, if_pos hjl, List.length_set] at h7
    rw [List.length_set] at hjl
    exact ⟨h.k1, h.k2, h.r1, h.r2, by simp; omega, by simp; omega, by simpa using srt_erase h6 j⟩
theorem mem_shed {K : Int} {es : List Ent} {e : Ent} (h : e ∈ shedS K es) : e ∈ es := by
  unfold shedS at h
  split at h
  · split at h
    · exact List.mem_of_mem_eraseIdx h
    · exact h
  · exact h
section
variable {w w' : World} {B b sb M : Nat} {v : Value} {K R : Int} {es : List Ent}
/-- What a Decide that is done tells and leaves: the place i, the entry x. -/
def DcQ (w : World) (B b sb M : Nat) (v : Value) (K R : Int) (es : List Ent) (i : Nat) (x : Ent) (cd : ByteArray) (n : Nat) (bs : List Int) (u : Value) (w' : World) : Prop :=
  ∃ p c, TRow w' w.heap.size u (goneS K (es.set i (x.vd cd p n c bs))) ∧ BxQ w B b sb M v K R (shedS K (es.set i (x.vd cd p n c bs))) w'
/-- The same; the answer lies in memory of its own. -/
def DcQ2 (w : World) (B b sb M : Nat) (v : Value) (K R : Int) (es : List Ent) (i : Nat) (x : Ent) (cd : ByteArray) (n : Nat) (bs : List Int) (u : Value) (w' : World) : Prop :=
  ∃ p c, TRow w' w.heap.size u (goneS K (es.set i (x.vd cd p n c bs))) ∧ BxQ w B b sb M v K R (shedS K (es.set i (x.vd cd p n c bs))) w' ∧ BRow w' w.heap.size (.slice p n c) bs
end
end Go.Proofs.YtjbkfppibnlmoaaDoor
