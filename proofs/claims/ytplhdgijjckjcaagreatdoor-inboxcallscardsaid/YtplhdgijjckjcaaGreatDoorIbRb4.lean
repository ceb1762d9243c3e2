import Derived.Test.YtplhdgijjckjcaaGreatDoorIbRb2
/-
  The document's box: Last.
-/
namespace Go.Proofs.YtplhdgijjckjcaaGreatDoor
open Go.RowKit

section
variable {w w' : World} {B X : Nat} {v : Value} {K R : Int} {es : List Ent}
set_option maxRecDepth 100000 in
set_option maxHeartbeats 4000000 in
theorem rlast_yes (h : RBx w B X v K R es) {n : Nat} {l : Ent} (hn : es.length = n + 1) (hl : es[n]? = some l) (hn6 : n ≤ 1000000) (ht : l.tn ≤ 140737488355328 ∧ l.cn ≤ 140737488355328 ∧ l.an ≤ 140737488355328) : Calls Tryz.prog 12 #[.pointer (some ⟨X, 1, none⟩)] w (EnQ w l true) := by
  have bv : Below w.heap.size w (w.alloc (.cells #[.string ⟨#[]⟩, .slice none 0 0, .int .i64 0, .int .i64 0, .slice none 0 0, .string ⟨#[]⟩, .slice none 0 0] 29)) := (Below.refl _ _).alloc (Nat.le_refl _) _
  have bx := Box.new w #[.string ⟨#[]⟩, .slice none 0 0, .int .i64 0, .int .i64 0, .slice none 0 0, .string ⟨#[]⟩, .slice none 0 0] 29
  obtain ⟨V, hV⟩ : ∃ V, w.alloc (.cells #[.string ⟨#[]⟩, .slice none 0 0, .int .i64 0, .int .i64 0, .slice none 0 0, .string ⟨#[]⟩, .slice none 0 0] 29) = V := ⟨_, rfl⟩
  rw [hV] at bv bx
  have h1 := h.below bv
  obtain ⟨a, c, e1, _⟩ := ERow.isSlice h1.row
  have q1 : (((n + 1 : Nat) : Int) == 0) = false := by rw [beq_eq_false_iff_ne]; omega
  have q2 : IntKind.i64.wrap (((n + 1 : Nat) : Int) - 1) = (n : Int) := by rw [IntKind.wrap_i64]; omega
  have q3 : (n : Int) < ((n + 1 : Nat) : Int) := by omega
  obtain ⟨m, hm⟩ : ∃ m, n + 1 = m := ⟨_, rfl⟩
  rw [hn, hm] at e1
  rw [hm] at q1 q2 q3
  subst e1
  have lg0 : ∃ g, a = some ⟨g, 0, none⟩ ∧ g < w.heap.size := by
    obtain ⟨g, e2, lg, _⟩ := nrow_cells h.row hl
    exact ⟨g, e2, lg⟩
  obtain ⟨g, rfl, lg, d0, d1, d2, d3, d4, d5, d6⟩ := nrow_cells h1.row hl
  have x4 := h1.c4
  have lX := h1.lt
  obtain ⟨xb, hxb⟩ : ∃ xb, w.heap.size = xb := ⟨_, rfl⟩
  have nX : ¬ X = xb := by have := h.lt; omega
  have ng : ¬ g = xb := by
    obtain ⟨g', e2, lg'⟩ := lg0
    obtain rfl : g = g' := by simpa using e2
    omega
  have HB : Hid (Below w.heap.size w V ∧ w.heap.size = xb ∧ xb < V.heap.size) := ⟨bv, hxb, by rw [← hxb]; exact bx.lt⟩
  rw [hxb] at bx
  have HTW : Hid (∀ z, Below V.heap.size V z → Calls Tryz.prog 24 #[.agg #[.string l.ct, .slice l.tp l.tn l.tc, .int .i64 l.nu, .int .i64 l.tk, .slice l.cp l.cn l.cc, .string l.cd, .slice l.ap l.an l.ac]] z fun r z' => ∃ a c a' c' a'' c'', r = .returned (.agg #[.string l.ct, .slice a l.tn c, .int .i64 l.nu, .int .i64 l.tk, .slice a' l.cn c', .string l.cd, .slice a'' l.an c'']) ∧ Hid (Own z' V.heap.size (l.wi a c a' c' a'' c'')) ∧ Hid (Below V.heap.size V z') ∧ Hid (Off (fun q => q = xb) V z') ∧ Box z' xb #[.string ⟨#[]⟩, .slice none 0 0, .int .i64 0, .int .i64 0, .slice none 0 0, .string ⟨#[]⟩, .slice none 0 0]) := fun z hz =>
    (rtwin_any l z ((h1.own l (List.mem_of_getElem? hl)).lies.below hz) ht.1 ht.2.1 ht.2.2).mono fun r z' ⟨a, c, a', c', a'', c'', e1, e2, e3⟩ => ⟨a, c, a', c', a'', c'', e1, e2.base hz.size, below_then hz e3, Off.of_below (below_then hz e3), bx.below (below_then hz e3)⟩
  have gs : ∀ {z : World}, Off (fun q => q = xb) V z → z.cell? ⟨X, 4, none⟩ = some (.slice (some ⟨g, 0, none⟩) m c) ∧ z.cell? ⟨g, n * 7, none⟩ = some (.string l.ct) ∧ z.cell? ⟨g, n * 7 + 1, none⟩ = some (.slice l.tp l.tn l.tc) ∧ z.cell? ⟨g, n * 7 + 2, none⟩ = some (.int .i64 l.nu) ∧ z.cell? ⟨g, n * 7 + 3, none⟩ = some (.int .i64 l.tk) ∧ z.cell? ⟨g, n * 7 + 4, none⟩ = some (.slice l.cp l.cn l.cc) ∧ z.cell? ⟨g, n * 7 + 5, none⟩ = some (.string l.cd) ∧ z.cell? ⟨g, n * 7 + 6, none⟩ = some (.slice l.ap l.an l.ac) := fun {z} hz => ⟨(hz.cell (p := ⟨X, 4, none⟩) lX nX).trans x4, (hz.cell (p := ⟨g, n * 7, none⟩) lg ng).trans d0, (hz.cell (p := ⟨g, n * 7 + 1, none⟩) lg ng).trans d1, (hz.cell (p := ⟨g, n * 7 + 2, none⟩) lg ng).trans d2, (hz.cell (p := ⟨g, n * 7 + 3, none⟩) lg ng).trans d3, (hz.cell (p := ⟨g, n * 7 + 4, none⟩) lg ng).trans d4, (hz.cell (p := ⟨g, n * 7 + 5, none⟩) lg ng).trans d5, (hz.cell (p := ⟨g, n * 7 + 6, none⟩) lg ng).trans d6⟩
  have k4 := (gs (Off.refl _ _)).1
  have HE : Hid (∀ w1 W' a1 c1 a2 c2 a3 c3, Below V.heap.size V w1 → Own w1 V.heap.size (l.wi a1 c1 a2 c2 a3 c3) → Off (fun q => q = xb) w1 W' → Own W' w.heap.size (l.wi a1 c1 a2 c2 a3 c3) ∧ Below w.heap.size w W') := fun w1 W' a1 c1 a2 c2 a3 c3 hb ho ho' => by
    obtain ⟨q1, q2, q3⟩ := HB.out
    exact ⟨(ho.off ho' fun q hq e => by omega).base q1.size, (below_then q1 hb).trans (ho'.below (Nat.le_trans q1.size hb.size) fun k hk => by omega)⟩
  clear bv h h1 hl ht hn x4 lX d0 d1 d2 d3 d4 d5 d6 lg bx nX ng HB lg0 hm
  go_enter Tryz.func12, Tryz.ntmps12
  go_wp2_with fail
  clear hV
  obtain ⟨_, d0, d1, d2, d3, d4, d5, d6⟩ := gs (Off.refl _ _)
  clear gs
  go_region_law (go_simp; go_at_call 24; refine (HTW.out _ ?_).mono ?_; (first | exact Below.refl _ _ | exact (Below.refl _ _).drew); rintro _ w1 ⟨a1, c1, a2, c2, a3, c3, rfl, ho1, hb1, hof1, bx1⟩; have s0 : w1.cell? ⟨xb, 0, none⟩ = some (.string ⟨#[]⟩) := bx1.cell 0; have f0 : w1.frozen? ⟨xb, 0, none⟩ = false := bx1.free 0; have s1 : w1.cell? ⟨xb, 1, none⟩ = some (.slice none 0 0) := bx1.cell 1; have f1 : w1.frozen? ⟨xb, 1, none⟩ = false := bx1.free 1; have s2 : w1.cell? ⟨xb, 2, none⟩ = some (.int .i64 0) := bx1.cell 2; have f2 : w1.frozen? ⟨xb, 2, none⟩ = false := bx1.free 2; have s3 : w1.cell? ⟨xb, 3, none⟩ = some (.int .i64 0) := bx1.cell 3; have f3 : w1.frozen? ⟨xb, 3, none⟩ = false := bx1.free 3; have s4 : w1.cell? ⟨xb, 4, none⟩ = some (.slice none 0 0) := bx1.cell 4; have f4 : w1.frozen? ⟨xb, 4, none⟩ = false := bx1.free 4; have s5 : w1.cell? ⟨xb, 5, none⟩ = some (.string ⟨#[]⟩) := bx1.cell 5; have f5 : w1.frozen? ⟨xb, 5, none⟩ = false := bx1.free 5; have s6 : w1.cell? ⟨xb, 6, none⟩ = some (.slice none 0 0) := bx1.cell 6; have f6 : w1.frozen? ⟨xb, 6, none⟩ = false := bx1.free 6)
  all_goals
    go_wp2_with fail
    refine bodyPost_ret ?_ rfl ⟨a1, c1, a2, c2, a3, c3, rfl, HE.out _ _ _ _ _ _ _ _ hb1.out ho1.out ?_⟩
    · simp [results, Tryz.results12, go_sem, s0, s1, s2, s3, s4, s5, s6]
    · (repeat' (first | (with_reducible exact Off.refl _ _) | (with_reducible exact Hid.out (by assumption)) | (with_reducible refine Off.drew ?_) | refine Off.setCell (P := fun q => q = xb) ?_ (by exact rfl) _))
end
end Go.Proofs.YtplhdgijjckjcaaGreatDoor

/-
  The document's box: at, before.
-/
namespace Go.Proofs.YtplhdgijjckjcaaGreatDoor
open Go.RowKit

def fiI (s : ByteArray) (es : List Ent) : Int := match fi s es with | some i => (i : Int) | none => -1
theorem fi_here {s : ByteArray} {es : List Ent} {i : Nat} {e : Ent} (he : es[i]? = some e) (hq : (e.ct.toList == s.toList) = true) (hb : ∀ (j : Nat) (m : Ent), j < i → es[j]? = some m → (m.ct.toList == s.toList) = false) : fi s es = some i := by
  obtain ⟨hi, e1⟩ := List.getElem?_eq_some_iff.1 he
  refine List.findIdx?_eq_some_iff_getElem.2 ⟨hi, by rw [e1]; exact hq, fun j hj => ?_⟩
  rw [hb j _ hj (List.getElem?_eq_getElem (by omega))]
  decide
theorem fi_nowhere {s : ByteArray} {es : List Ent} (hb : ∀ (j : Nat) (m : Ent), es[j]? = some m → (m.ct.toList == s.toList) = false) : fi s es = none := by
  refine List.findIdx?_eq_none_iff.2 fun m hm => ?_
  obtain ⟨j, hj, e1⟩ := List.getElem_of_mem hm
  exact hb j m (by rw [List.getElem?_eq_getElem hj, e1])
section
variable {w w' : World} {B X : Nat} {v : Value} {K R : Int} {es : List Ent}
set_option maxRecDepth 100000 in
set_option maxHeartbeats 2000000 in
theorem rat_any (h : RBx w B X v K R es) (s : ByteArray) (hn6 : es.length ≤ 1000000) : Calls Tryz.prog 56 #[.pointer (some ⟨X, 1, none⟩), .string s] w fun r w' => r = .returned (.int .i64 (fiI s es)) ∧ w' = w := by
  obtain ⟨a, c, e1, _⟩ := ERow.isSlice h.row
  subst e1
  obtain ⟨n, hn⟩ : ∃ n, es.length = n := ⟨_, rfl⟩
  have c4 := h.c4
  rw [hn] at c4 hn6
  have HH : Hid (NRow w B (.slice a n c) es ∧ es.length = n) := ⟨by have := h.row; rw [hn] at this; exact this, hn⟩
  clear h hn
  go_enter Tryz.func56, Tryz.ntmps56
  go_wp2_with fail
  go_loopw [5] (fun t5 wx => ∃ i : Nat, i ≤ n ∧ t5 = .int .i64 i ∧ wx = w ∧ Hid (∀ (j : Nat) (m : Ent), j < i → es[j]? = some m → (m.ct.toList == s.toList) = false)) (fun t5 _ => n - (intOf t5).toNat)
  case atStart => exact ⟨0, Nat.zero_le _, rfl, rfl, fun j m hj => by omega⟩
  case round =>
    obtain ⟨i, hi, rfl, hw, HI⟩ := hrel
    subst hw
    by_cases hlt : i < n
    · have hlt1 : (i : Int) < n := by omega
      obtain ⟨e, he⟩ : ∃ e, es[i]? = some e := ⟨_, List.getElem?_eq_getElem (by rw [HH.out.2]; exact hlt)⟩
      obtain ⟨g, rfl, hg, d0, d1, d2, d3, d4, d5, d6⟩ := nrow_cells HH.out.1 he
      have HE : Hid (es[i]? = some e) := he
      clear he hg d1 d2 d3 d4 d5 d6
      cases hq : (e.ct.toList == s.toList) with
      | true =>
        have HF : Hid ((i : Int) = fiI s es) := by unfold Hid fiI; rw [fi_here HE.out hq HI.out]
        clear HI HE
        go_wp2_with fail
        go_ret
        exact ⟨by rw [← HF.out]; rfl, rfl⟩
      | false =>
        have HI2 : Hid (∀ (j : Nat) (m : Ent), j < i + 1 → es[j]? = some m → (m.ct.toList == s.toList) = false) := fun j m hj hm => by
          by_cases e2 : j < i
          · exact HI.out j m e2 hm
          · obtain rfl : j = i := by omega
            have := HE.out
            rw [hm] at this
            obtain rfl := Option.some.inj this
            exact hq
        clear HI HE
        go_wp2_with fail
        go_roundw
        case rel => exact ⟨i + 1, hlt, by go_num, by first | rfl | trivial, HI2⟩
        case measure => simp [intOf]; omega
    · have hlt1 : ¬ (i : Int) < n := by omega
      have HF : Hid ((-1 : Int) = fiI s es) := by
        unfold Hid fiI
        rw [fi_nowhere fun j m hm => HI.out j m (by have := (List.getElem?_eq_some_iff.1 hm).1; have := HH.out.2; omega) hm]
      clear HI
      go_wp2_with fail
      go_ret
      exact ⟨by rw [← HF.out]; rfl, rfl⟩
set_option maxRecDepth 100000 in
set_option maxHeartbeats 2000000 in
theorem rbefore_any (h : RBx w B X v K R es) (t : Int) (hn6 : es.length ≤ 1000000) : Calls Tryz.prog 55 #[.pointer (some ⟨X, 1, none⟩), .int .i64 t] w fun r w' => r = .returned (.bool (decide (0 < es.length) && decide (t < lastT es))) ∧ Below w.heap.size w w' := by
  obtain ⟨a, c, e1, _⟩ := ERow.isSlice h.row
  subst e1
  have c4 := h.c4
  rcases Nat.eq_zero_or_pos es.length with h0 | h0
  · rw [h0] at c4 ⊢
    clear h h0
    have hd : decide ((0 : Int) > 0) = false := by decide
    go_enter Tryz.func55, Tryz.ntmps55
    go_wp2_with fail
    go_quiet (fail)
    go_wp2_with fail
    go_ret
    exact ⟨rfl, below_drewN (Below.refl _ _) _⟩
  · obtain ⟨n, hn⟩ : ∃ n, es.length = n + 1 := ⟨es.length - 1, by omega⟩
    have hat := lasE_at hn
    obtain ⟨g, rfl, hg, d0, d1, d2, d3, d4, d5, d6⟩ := nrow_cells h.row hat
    have hlt : lastT es = (lasE es).tk := lastT_eq es
    rw [hlt, decide_eq_true h0, Bool.true_and]
    have q2 : IntKind.i64.wrap (((n + 1 : Nat) : Int) - 1) = (n : Int) := by rw [IntKind.wrap_i64]; omega
    have q3 : (n : Int) < ((n + 1 : Nat) : Int) := by omega
    have q4 : decide (0 < n + 1) = true := decide_eq_true (by omega)
    have q5 : 0 < n + 1 := by omega
    rw [hn] at c4
    obtain ⟨m, hm⟩ : ∃ m, n + 1 = m := ⟨_, rfl⟩
    rw [hm] at c4 q2 q3 q4 q5
    obtain ⟨tk, htk⟩ : ∃ q, (lasE es).tk = q := ⟨_, rfl⟩
    rw [htk] at d3 ⊢
    clear h h0 hat hg d0 d1 d2 d4 d5 d6 hlt hn hm hn6 htk
    go_enter Tryz.func55, Tryz.ntmps55
    go_wp2_with fail
    go_quiet (fail)
    go_wp2_with fail
    go_ret
    exact ⟨rfl, below_drewN (Below.refl _ _) _⟩
end
end Go.Proofs.YtplhdgijjckjcaaGreatDoor
