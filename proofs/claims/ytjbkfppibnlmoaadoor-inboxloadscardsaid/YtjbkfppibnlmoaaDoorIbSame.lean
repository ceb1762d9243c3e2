/-
  The law's same, sameList, within.
-/
import Derived.Test.YtjbkfppibnlmoaaDoorIbTexts
import Derived.Test.YtjbkfppibnlmoaaDoorIbRead
namespace Go.Proofs.YtjbkfppibnlmoaaDoor
open Go.RowKit

set_option maxRecDepth 100000 in
set_option maxHeartbeats 4000000 in
theorem same_true (e : Ent) {w : World} {p q r : Option Addr} {c d f : Nat} (h1 : Lies w e) (h2 : Lies w (e.wi p c q d r f)) (n1 : e.tn ≤ 9223372036854775807) (n2 : e.cn ≤ 9223372036854775807) (n3 : e.an ≤ 9223372036854775807) :
    Calls Tryd.prog 38 #[.agg #[.string e.ct, .slice e.tp e.tn e.tc, .int .i64 e.nu, .int .i64 e.tk, .slice e.cp e.cn e.cc, .string e.cd, .slice e.ap e.an e.ac], .agg #[.string e.ct, .slice p e.tn c, .int .i64 e.nu, .int .i64 e.tk, .slice q e.cn d, .string e.cd, .slice r e.an f]] w fun r w' => r = .returned (.bool true) ∧ Below w.heap.size w w' := by
  have bv : Below w.heap.size w ((w.alloc (.cells #[.string e.ct, .slice e.tp e.tn e.tc, .int .i64 e.nu, .int .i64 e.tk, .slice e.cp e.cn e.cc, .string e.cd, .slice e.ap e.an e.ac] 30)).alloc (.cells #[.string e.ct, .slice p e.tn c, .int .i64 e.nu, .int .i64 e.tk, .slice q e.cn d, .string e.cd, .slice r e.an f] 30)) := ((Below.refl _ _).alloc (Nat.le_refl _) _).alloc (by simp) _
  have bx := (Box.new w #[.string e.ct, .slice e.tp e.tn e.tc, .int .i64 e.nu, .int .i64 e.tk, .slice e.cp e.cn e.cc, .string e.cd, .slice e.ap e.an e.ac] 30).alloc (.cells #[.string e.ct, .slice p e.tn c, .int .i64 e.nu, .int .i64 e.tk, .slice q e.cn d, .string e.cd, .slice r e.an f] 30)
  have by_ := Box.new (w.alloc (.cells #[.string e.ct, .slice e.tp e.tn e.tc, .int .i64 e.nu, .int .i64 e.tk, .slice e.cp e.cn e.cc, .string e.cd, .slice e.ap e.an e.ac] 30)) #[.string e.ct, .slice p e.tn c, .int .i64 e.nu, .int .i64 e.tk, .slice q e.cn d, .string e.cd, .slice r e.an f] 30
  rw [World.size_alloc] at by_
  obtain ⟨V, hV⟩ : ∃ V, ((w.alloc (.cells #[.string e.ct, .slice e.tp e.tn e.tc, .int .i64 e.nu, .int .i64 e.tk, .slice e.cp e.cn e.cc, .string e.cd, .slice e.ap e.an e.ac] 30)).alloc (.cells #[.string e.ct, .slice p e.tn c, .int .i64 e.nu, .int .i64 e.tk, .slice q e.cn d, .string e.cd, .slice r e.an f] 30)) = V := ⟨_, rfl⟩
  rw [hV] at bv bx by_
  have HB : Hid (Below w.heap.size w V) := bv
  have HL : Hid (Lies V e ∧ Lies V (e.wi p c q d r f)) := ⟨h1.below bv, h2.below bv⟩
  have s1 := memSame_true (ac := e.tc) (bc := c) HL.out.1.t HL.out.2.t n1
  have s2 : ∀ m, Calls Tryd.prog 64 #[.slice e.cp e.cn e.cc, .slice q e.cn d] (V.drewN m) fun e w' => e = .returned (.bool true) ∧ ∃ k, w' = (V.drewN m).drewN k := fun m => memSame_true (HL.out.1.c.below (below_drewN (Below.refl _ _) m)) (HL.out.2.c.below (below_drewN (Below.refl _ _) m)) n2
  have s3 : ∀ m, Calls Tryd.prog 64 #[.slice e.ap e.an e.ac, .slice r e.an f] (V.drewN m) fun e w' => e = .returned (.bool true) ∧ ∃ k, w' = (V.drewN m).drewN k := fun m => memSame_true (HL.out.1.a.below (below_drewN (Below.refl _ _) m)) (HL.out.2.a.below (below_drewN (Below.refl _ _) m)) n3
  have cx := bx.cell
  have cy := by_.cell
  clear bv bx by_ h1 h2 n1 n2 n3
  go_enter Tryd.func38, Tryd.ntmps38
  go_wp2_with fail
  clear hV
  refine s1.mono ?_
  rintro _ w1 ⟨rfl, m1, rfl⟩
  have s2' := s2 m1
  clear s1 s2
  go_wp2_with fail
  refine s2'.mono ?_
  rintro _ w2 ⟨rfl, m2, rfl⟩
  rw [World.drewN_drewN]
  have s3' := s3 (m1 + m2)
  clear s2' s3
  go_wp2_with fail
  refine s3'.mono ?_
  rintro _ w3 ⟨rfl, m3, rfl⟩
  rw [World.drewN_drewN]
  clear s3'
  go_wp2_with fail
  go_ret
  exact ⟨rfl, below_drewN HB.out _⟩
/-- Twins: the same entry, its lists elsewhere. -/
def Tw (l m : Ent) : Prop := ∃ a c a' c' a'' c'', m = l.wi a c a' c' a'' c''
theorem Tw.refl (l : Ent) : Tw l l := ⟨l.tp, l.tc, l.cp, l.cc, l.ap, l.ac, rfl⟩
theorem Tw.symm {l m : Ent} (h : Tw l m) : Tw m l := by
  obtain ⟨a, c, a', c', a'', c'', rfl⟩ := h
  exact ⟨l.tp, l.tc, l.cp, l.cc, l.ap, l.ac, rfl⟩
theorem Tw.trans {l m n : Ent} (h : Tw l m) (g : Tw m n) : Tw l n := by
  obtain ⟨a, c, a', c', a'', c'', rfl⟩ := h
  obtain ⟨b, d, b', d', b'', d'', rfl⟩ := g
  exact ⟨b, d, b', d', b'', d'', rfl⟩
/-- Lists of twins. -/
def Tws (ls ms : List Ent) : Prop := ls.length = ms.length ∧ ∀ (i : Nat) (l m : Ent), ls[i]? = some l → ms[i]? = some m → Tw l m
theorem Cps.tws {w : World} {B : Nat} {ls es : List Ent} (h : Cps w B ls es) : Tws ls es := ⟨h.1, fun i l m hl hm => by
  obtain ⟨⟨a, c, a', c', a'', c'', h1⟩, _⟩ := h.2 i l m hl hm
  exact Tw.symm ⟨a, c, a', c', a'', c'', h1⟩⟩
theorem Tws.symm {ls ms : List Ent} (h : Tws ls ms) : Tws ms ls := ⟨h.1.symm, fun i l m hl hm => (h.2 i m l hm hl).symm⟩
theorem Tws.trans {ls ms ns : List Ent} (h : Tws ls ms) (g : Tws ms ns) : Tws ls ns := ⟨h.1.trans g.1, fun i l n hl hn => by
  have hi := (List.getElem?_eq_some_iff.1 hl).1
  obtain ⟨m, hm⟩ : ∃ m, ms[i]? = some m := ⟨_, List.getElem?_eq_getElem (by rw [← h.1]; exact hi)⟩
  exact (h.2 i l m hl hm).trans (g.2 i m n hm hn)⟩
theorem Tws.refl (ls : List Ent) : Tws ls ls := ⟨rfl, fun i l m hl hm => by rw [hl] at hm; cases hm; exact Tw.refl l⟩
set_option maxRecDepth 100000 in
set_option maxHeartbeats 4000000 in
theorem sameList_true {w : World} {B B' n c c' : Nat} {a a' : Option Addr} {ls ms : List Ent} (h1 : NRow w B (.slice a n c) ls) (h2 : NRow w B' (.slice a' n c') ms) (ht : Tws ls ms) (k1 : ∀ l ∈ ls, Lies w l) (k2 : ∀ l ∈ ms, Lies w l) (hm : ∀ m ∈ ls, m.tn ≤ 9223372036854775807 ∧ m.cn ≤ 9223372036854775807 ∧ m.an ≤ 9223372036854775807) :
    Calls Tryd.prog 16 #[.slice a n c, .slice a' n c'] w fun e w' => e = .returned (.bool true) ∧ Below w.heap.size w w' := by
  have hx : n ≤ 9223372036854775807 := by
    rcases ERow.form h1 with ⟨e1, _⟩ | ⟨g, cap, e1, _, _, h3, h4⟩
    · simp only [Value.slice.injEq] at e1; omega
    · simp only [Value.slice.injEq] at e1; unfold maxLen at h4; omega
  have HN : Hid (ls.length = n ∧ ms.length = n) := ⟨(ERow.len h1).symm, (ERow.len h2).symm⟩
  have HH : Hid (NRow w B (.slice a n c) ls ∧ NRow w B' (.slice a' n c') ms ∧ Tws ls ms ∧ (∀ l ∈ ls, Lies w l) ∧ (∀ l ∈ ms, Lies w l) ∧ ∀ m ∈ ls, m.tn ≤ 9223372036854775807 ∧ m.cn ≤ 9223372036854775807 ∧ m.an ≤ 9223372036854775807) := ⟨h1, h2, ht, k1, k2, hm⟩
  clear h1 h2 k1 k2 hm ht
  go_enter Tryd.func16, Tryd.ntmps16
  go_wp2_with fail
  go_loopw [5] (fun ti wx => ∃ j : Nat, j ≤ n ∧ ti = .int .i64 j ∧ Hid (Below w.heap.size w wx)) (fun ti _ => n - (intOf ti).toNat)
  case atStart => exact ⟨0, Nat.zero_le _, rfl, Below.refl _ _⟩
  case round =>
    obtain ⟨j, hj, rfl, HB⟩ := hrel
    by_cases hlt : j < n
    · have hlt1 : (j : Int) < n := by omega
      obtain ⟨l, hl⟩ : ∃ l, ls[j]? = some l := ⟨_, List.getElem?_eq_getElem (by rw [HN.out.1]; exact hlt)⟩
      obtain ⟨l', hl'⟩ : ∃ l, ms[j]? = some l := ⟨_, List.getElem?_eq_getElem (by rw [HN.out.2]; exact hlt)⟩
      obtain ⟨p, c1, q, d, r, f, rfl⟩ := HH.out.2.2.1.2 j l l' hl hl'
      have t1 := HH.out.2.2.2.1 l (List.mem_of_getElem? hl)
      have t2 := HH.out.2.2.2.2.1 _ (List.mem_of_getElem? hl')
      have hmt := HH.out.2.2.2.2.2 l (List.mem_of_getElem? hl)
      obtain ⟨g, rfl, _, hc⟩ := nrow_cells (ERow.below HH.out.1 HB.out) hl
      obtain ⟨g', rfl, _, hc'⟩ := nrow_cells (ERow.below HH.out.2.1 HB.out) hl'
      obtain ⟨p0, p1, p2, p3, p4, p5, p6⟩ := hc
      obtain ⟨q0, q1, q2, q3, q4, q5, q6⟩ := hc'
      have HS : Hid (∀ z, Below wr.heap.size wr z → Calls Tryd.prog 38 #[.agg #[.string l.ct, .slice l.tp l.tn l.tc, .int .i64 l.nu, .int .i64 l.tk, .slice l.cp l.cn l.cc, .string l.cd, .slice l.ap l.an l.ac], .agg #[.string l.ct, .slice p l.tn c1, .int .i64 l.nu, .int .i64 l.tk, .slice q l.cn d, .string l.cd, .slice r l.an f]] z fun e w' => e = .returned (.bool true) ∧ Hid (Below w.heap.size w w')) := fun z hz =>
        (same_true l ((t1.below HB.out).below hz) ((t2.below HB.out).below hz) hmt.1 hmt.2.1 hmt.2.2).mono fun e w' ⟨he, hb⟩ => ⟨he, below_then (below_then HB.out hz) hb⟩
      clear t1 t2 hl hl' hmt HH HB
      go_upto_region 6 with fail
      go_cut [26] from 11 to 26 (fun t26 wx => t26 = .bool false ∧ Hid (Below w.heap.size w wx))
      case first =>
        go_region_law (go_simp; go_at_call 38; refine (HS.out _ ?_).mono ?_; (first | exact Below.refl _ _ | exact Below.drew (Below.refl _ _)); rintro _ w2 ⟨rfl, hb2⟩)
        all_goals
          go_wp2_with fail
          go_meet
          exact ⟨rfl, hb2⟩
      case rest =>
        obtain ⟨rfl, HX⟩ := hcut
        clear HS
        go_wp2_with fail
        go_roundw
        case rel => exact ⟨j + 1, hlt, by go_num, HX⟩
        case measure => simp [intOf]; omega
    · have hlt1 : ¬ (j : Int) < n := by omega
      go_wp2_with fail
      go_ret
      exact ⟨rfl, HB.out⟩
end Go.Proofs.YtjbkfppibnlmoaaDoor
