import Derived.Test.YtjbkfppibnlmoaaGreatDoorIbHand
import Derived.Test.YtjbkfppibnlmoaaGreatDoorIbRead
import Derived.Test.YtjbkfppibnlmoaaGreatDoorRows
import Derived.ProofKit
import Derived.OpenShut
import Derived.Deep.DeepHandedRow
import Derived.Deep.Slices
import Derived.LaidMore
import Derived.SizedLaws
import Derived.Stop.Asserts
/-
  The law's same, sameList, within.
-/
namespace Go.Proofs.YtjbkfppibnlmoaaGreatDoor
open Go.RowKit

set_option maxRecDepth 100000 in
set_option maxHeartbeats 4000000 in
theorem same_true (e : Ent) {w : World} {p q r : Option Addr} {c d f : Nat} (h1 : Lies w e) (h2 : Lies w (e.wi p c q d r f)) (n1 : e.tn ≤ 9223372036854775807) (n2 : e.cn ≤ 9223372036854775807) (n3 : e.an ≤ 9223372036854775807) :
    Calls Tryz.prog 28 #[.agg #[.string e.ct, .slice e.tp e.tn e.tc, .int .i64 e.nu, .int .i64 e.tk, .slice e.cp e.cn e.cc, .string e.cd, .slice e.ap e.an e.ac], .agg #[.string e.ct, .slice p e.tn c, .int .i64 e.nu, .int .i64 e.tk, .slice q e.cn d, .string e.cd, .slice r e.an f]] w fun r w' => r = .returned (.bool true) ∧ Below w.heap.size w w' := by
  have bv : Below w.heap.size w ((w.alloc (.cells #[.string e.ct, .slice e.tp e.tn e.tc, .int .i64 e.nu, .int .i64 e.tk, .slice e.cp e.cn e.cc, .string e.cd, .slice e.ap e.an e.ac] 30)).alloc (.cells #[.string e.ct, .slice p e.tn c, .int .i64 e.nu, .int .i64 e.tk, .slice q e.cn d, .string e.cd, .slice r e.an f] 30)) := ((Below.refl _ _).alloc (Nat.le_refl _) _).alloc (by simp) _
  have bx := (Box.new w #[.string e.ct, .slice e.tp e.tn e.tc, .int .i64 e.nu, .int .i64 e.tk, .slice e.cp e.cn e.cc, .string e.cd, .slice e.ap e.an e.ac] 30).alloc (.cells #[.string e.ct, .slice p e.tn c, .int .i64 e.nu, .int .i64 e.tk, .slice q e.cn d, .string e.cd, .slice r e.an f] 30)
  have by_ := Box.new (w.alloc (.cells #[.string e.ct, .slice e.tp e.tn e.tc, .int .i64 e.nu, .int .i64 e.tk, .slice e.cp e.cn e.cc, .string e.cd, .slice e.ap e.an e.ac] 30)) #[.string e.ct, .slice p e.tn c, .int .i64 e.nu, .int .i64 e.tk, .slice q e.cn d, .string e.cd, .slice r e.an f] 30
  rw [World.size_alloc] at by_
  obtain ⟨V, hV⟩ : ∃ V, ((w.alloc (.cells #[.string e.ct, .slice e.tp e.tn e.tc, .int .i64 e.nu, .int .i64 e.tk, .slice e.cp e.cn e.cc, .string e.cd, .slice e.ap e.an e.ac] 30)).alloc (.cells #[.string e.ct, .slice p e.tn c, .int .i64 e.nu, .int .i64 e.tk, .slice q e.cn d, .string e.cd, .slice r e.an f] 30)) = V := ⟨_, rfl⟩
  rw [hV] at bv bx by_
  have HB : Hid (Below w.heap.size w V) := bv
  have HL : Hid (Lies V e ∧ Lies V (e.wi p c q d r f)) := ⟨h1.below bv, h2.below bv⟩
  have s1 := memSame_true (ac := e.tc) (bc := c) HL.out.1.t HL.out.2.t n1
  have s2 : ∀ m, Calls Tryz.prog 64 #[.slice e.cp e.cn e.cc, .slice q e.cn d] (V.drewN m) fun e w' => e = .returned (.bool true) ∧ ∃ k, w' = (V.drewN m).drewN k := fun m => memSame_true (HL.out.1.c.below (below_drewN (Below.refl _ _) m)) (HL.out.2.c.below (below_drewN (Below.refl _ _) m)) n2
  have s3 : ∀ m, Calls Tryz.prog 64 #[.slice e.ap e.an e.ac, .slice r e.an f] (V.drewN m) fun e w' => e = .returned (.bool true) ∧ ∃ k, w' = (V.drewN m).drewN k := fun m => memSame_true (HL.out.1.a.below (below_drewN (Below.refl _ _) m)) (HL.out.2.a.below (below_drewN (Below.refl _ _) m)) n3
  have cx := bx.cell
  have cy := by_.cell
  clear bv bx by_ h1 h2 n1 n2 n3
  go_enter Tryz.func28, Tryz.ntmps28
  go_wp2_with fail
  clear hV
  refine s1.mono ?_
  rintro _ w1 ⟨rfl, m1, rfl⟩
  have s2' := s2 m1
  clear s1 s2
  go_wp2_with fail
  refine s2'.mono ?_
  rintro _ w2 ⟨rfl, m2, rfl⟩
  rw [World.drewN_drewN]
  have s3' := s3 (m1 + m2)
  clear s2' s3
  go_wp2_with fail
  refine s3'.mono ?_
  rintro _ w3 ⟨rfl, m3, rfl⟩
  rw [World.drewN_drewN]
  clear s3'
  go_wp2_with fail
  go_ret
  exact ⟨rfl, below_drewN HB.out _⟩
/-- Twins: the same entry, its lists elsewhere. -/
def Tw (l m : Ent) : Prop := ∃ a c a' c' a'' c'', m = l.wi a c a' c' a'' c''
theorem Tw.refl (l : Ent) : Tw l l := ⟨l.tp, l.tc, l.cp, l.cc, l.ap, l.ac, rfl⟩
theorem Tw.symm {l m : Ent} (h : Tw l m) : Tw m l := by
  obtain ⟨a, c, a', c', a'', c'', rfl⟩ := h
  exact ⟨l.tp, l.tc, l.cp, l.cc, l.ap, l.ac, rfl⟩
theorem Tw.trans {l m n : Ent} (h : Tw l m) (g : Tw m n) : Tw l n := by
  obtain ⟨a, c, a', c', a'', c'', rfl⟩ := h
  obtain ⟨b, d, b', d', b'', d'', rfl⟩ := g
  exact ⟨b, d, b', d', b'', d'', rfl⟩
/-- Lists of twins. -/
def Tws (ls ms : List Ent) : Prop := ls.length = ms.length ∧ ∀ (i : Nat) (l m : Ent), ls[i]? = some l → ms[i]? = some m → Tw l m
theorem Cps.tws {w : World} {B : Nat} {ls es : List Ent} (h : Cps w B ls es) : Tws ls es := ⟨h.1, fun i l m hl hm => by
  obtain ⟨⟨a, c, a', c', a'', c'', h1⟩, _⟩ := h.2 i l m hl hm
  exact Tw.symm ⟨a, c, a', c', a'', c'', h1⟩⟩
theorem Tws.symm {ls ms : List Ent} (h : Tws ls ms) : Tws ms ls := ⟨h.1.symm, fun i l m hl hm => (h.2 i m l hm hl).symm⟩
theorem Tws.trans {ls ms ns : List Ent} (h : Tws ls ms) (g : Tws ms ns) : Tws ls ns := ⟨h.1.trans g.1, fun i l n hl hn => by
  have hi := (List.getElem?_eq_some_iff.1 hl).1
  obtain ⟨m, hm⟩ : ∃ m, ms[i]? = some m := ⟨_, List.getElem?_eq_getElem (by rw [← h.1]; exact hi)⟩
  exact (h.2 i l m hl hm).trans (g.2 i m n hm hn)⟩
theorem Tws.refl (ls : List Ent) : Tws ls ls := ⟨rfl, fun i l m hl hm => by rw [hl] at hm; cases hm; exact Tw.refl l⟩
set_option maxRecDepth 100000 in
set_option maxHeartbeats 4000000 in
theorem sameList_true {w : World} {B B' n c c' : Nat} {a a' : Option Addr} {ls ms : List Ent} (h1 : NRow w B (.slice a n c) ls) (h2 : NRow w B' (.slice a' n c') ms) (ht : Tws ls ms) (k1 : ∀ l ∈ ls, Lies w l) (k2 : ∀ l ∈ ms, Lies w l) (hm : ∀ m ∈ ls, m.tn ≤ 9223372036854775807 ∧ m.cn ≤ 9223372036854775807 ∧ m.an ≤ 9223372036854775807) :
    Calls Tryz.prog 34 #[.slice a n c, .slice a' n c'] w fun e w' => e = .returned (.bool true) ∧ Below w.heap.size w w' := by
  have hx : n ≤ 9223372036854775807 := by
    rcases ERow.form h1 with ⟨e1, _⟩ | ⟨g, cap, e1, _, _, h3, h4⟩
    · simp only [Value.slice.injEq] at e1; omega
    · simp only [Value.slice.injEq] at e1; unfold maxLen at h4; omega
  have HN : Hid (ls.length = n ∧ ms.length = n) := ⟨(ERow.len h1).symm, (ERow.len h2).symm⟩
  have HH : Hid (NRow w B (.slice a n c) ls ∧ NRow w B' (.slice a' n c') ms ∧ Tws ls ms ∧ (∀ l ∈ ls, Lies w l) ∧ (∀ l ∈ ms, Lies w l) ∧ ∀ m ∈ ls, m.tn ≤ 9223372036854775807 ∧ m.cn ≤ 9223372036854775807 ∧ m.an ≤ 9223372036854775807) := ⟨h1, h2, ht, k1, k2, hm⟩
  clear h1 h2 k1 k2 hm ht
  go_enter Tryz.func34, Tryz.ntmps34
  go_wp2_with fail
  go_loopw [5] (fun ti wx => ∃ j : Nat, j ≤ n ∧ ti = .int .i64 j ∧ Hid (Below w.heap.size w wx)) (fun ti _ => n - (intOf ti).toNat)
  case atStart => exact ⟨0, Nat.zero_le _, rfl, Below.refl _ _⟩
  case round =>
    obtain ⟨j, hj, rfl, HB⟩ := hrel
    by_cases hlt : j < n
    · have hlt1 : (j : Int) < n := by omega
      obtain ⟨l, hl⟩ : ∃ l, ls[j]? = some l := ⟨_, List.getElem?_eq_getElem (by rw [HN.out.1]; exact hlt)⟩
      obtain ⟨l', hl'⟩ : ∃ l, ms[j]? = some l := ⟨_, List.getElem?_eq_getElem (by rw [HN.out.2]; exact hlt)⟩
      obtain ⟨p, c1, q, d, r, f, rfl⟩ := HH.out.2.2.1.2 j l l' hl hl'
      have t1 := HH.out.2.2.2.1 l (List.mem_of_getElem? hl)
      have t2 := HH.out.2.2.2.2.1 _ (List.mem_of_getElem? hl')
      have hmt := HH.out.2.2.2.2.2 l (List.mem_of_getElem? hl)
      obtain ⟨g, rfl, _, hc⟩ := nrow_cells (ERow.below HH.out.1 HB.out) hl
      obtain ⟨g', rfl, _, hc'⟩ := nrow_cells (ERow.below HH.out.2.1 HB.out) hl'
      obtain ⟨p0, p1, p2, p3, p4, p5, p6⟩ := hc
      obtain ⟨q0, q1, q2, q3, q4, q5, q6⟩ := hc'
      have HS : Hid (∀ z, Below wr.heap.size wr z → Calls Tryz.prog 28 #[.agg #[.string l.ct, .slice l.tp l.tn l.tc, .int .i64 l.nu, .int .i64 l.tk, .slice l.cp l.cn l.cc, .string l.cd, .slice l.ap l.an l.ac], .agg #[.string l.ct, .slice p l.tn c1, .int .i64 l.nu, .int .i64 l.tk, .slice q l.cn d, .string l.cd, .slice r l.an f]] z fun e w' => e = .returned (.bool true) ∧ Hid (Below w.heap.size w w')) := fun z hz =>
        (same_true l ((t1.below HB.out).below hz) ((t2.below HB.out).below hz) hmt.1 hmt.2.1 hmt.2.2).mono fun e w' ⟨he, hb⟩ => ⟨he, below_then (below_then HB.out hz) hb⟩
      clear t1 t2 hl hl' hmt HH HB
      go_upto_region 6 with fail
      go_cut [26] from 11 to 26 (fun t26 wx => t26 = .bool false ∧ Hid (Below w.heap.size w wx))
      case first =>
        go_region_law (go_simp; go_at_call 28; refine (HS.out _ ?_).mono ?_; (first | exact Below.refl _ _ | exact Below.drew (Below.refl _ _)); rintro _ w2 ⟨rfl, hb2⟩)
        all_goals
          go_wp2_with fail
          go_meet
          exact ⟨rfl, hb2⟩
      case rest =>
        obtain ⟨rfl, HX⟩ := hcut
        clear HS
        go_wp2_with fail
        go_roundw
        case rel => exact ⟨j + 1, hlt, by go_num, HX⟩
        case measure => simp [intOf]; omega
    · have hlt1 : ¬ (j : Int) < n := by omega
      go_wp2_with fail
      go_ret
      exact ⟨rfl, HB.out⟩
set_option maxHeartbeats 2000000 in
theorem within_any (k : Int) {n : Nat} (w : World) (h0 : 0 < n) (hn : n ≤ 1000000) : Calls Tryz.prog 24 #[.int .i64 k, .int .i64 (n : Int)] w fun r w' => ∃ j : Nat, j < n ∧ r = .returned (.int .i64 (j : Int)) ∧ w' = w := by
  have q0 : ¬ (n : Int) ≤ 0 := by omega
  have q1 : ((n : Int) == 0) = false := by rw [beq_eq_false_iff_ne]; omega
  obtain ⟨m, hm⟩ : ∃ m, Int.tmod k (n : Int) = m := ⟨_, rfl⟩
  have hr : -(n : Int) < m ∧ m < n := by
    rw [← hm]
    exact ⟨by have := Int.lt_tmod_of_pos k (show (0 : Int) < n by omega); omega, Int.tmod_lt_of_pos k (by omega)⟩
  have q2 : IntKind.i64.wrap m = m := by rw [IntKind.wrap_i64]; omega
  by_cases hneg : m < 0
  · have q3 : IntKind.i64.wrap (m + (n : Int)) = m + n := by rw [IntKind.wrap_i64]; omega
    have HJ : Hid (∃ j : Nat, j < n ∧ m + (n : Int) = j) := ⟨(m + n).toNat, by omega, by omega⟩
    clear hr
    go_enter Tryz.func24, Tryz.ntmps24
    go_wp2_with fail
    go_ret
    obtain ⟨j, hj, e⟩ := HJ.out
    exact ⟨j, hj, ret_int e, rfl⟩
  · have HJ : Hid (∃ j : Nat, j < n ∧ m = (j : Int)) := ⟨m.toNat, by omega, by omega⟩
    clear hr
    go_enter Tryz.func24, Tryz.ntmps24
    go_wp2_with fail
    go_ret
    obtain ⟨j, hj, e⟩ := HJ.out
    exact ⟨j, hj, ret_int e, rfl⟩
end Go.Proofs.YtjbkfppibnlmoaaGreatDoor

/-
  The law's handed; Ops that came in.
-/
namespace Go.Proofs.YtjbkfppibnlmoaaGreatDoor
open Go.RowKit

theorem hand_byts {po : Option Addr} {m c : Nat} {bs : List Int} (w : World) (hb : Byts w po m bs) (hm : m + 90 ≤ 140737488355328) : Calls Tryz.prog 38 #[.slice po m c] w fun e w' => ∃ g k, e = .returned (.slice (some ⟨g, 0, none⟩) m k) ∧ BRow w' w.heap.size (.slice (some ⟨g, 0, none⟩) m k) bs ∧ Below w.heap.size w w' :=
  (Hand_any w hb hm).mono fun e w' ⟨h1, h2, h3⟩ => ⟨_, _, h1, by
    have := BRow.prefix (m := m) h2 (by omega)
    rw [List.take_left' hb.len] at this
    exact this, h3⟩
set_option maxRecDepth 100000 in
set_option maxHeartbeats 4000000 in
theorem handed_any (e : Ent) (w : World) (hl : Lies w e) (h1 : e.tn + 90 ≤ 140737488355328) (h2 : e.cn + 90 ≤ 140737488355328) (h3 : e.an + 90 ≤ 140737488355328) :
    Calls Tryz.prog 14 #[.agg #[.string e.ct, .slice e.tp e.tn e.tc, .int .i64 e.nu, .int .i64 e.tk, .slice e.cp e.cn e.cc, .string e.cd, .slice e.ap e.an e.ac]] w fun r w' => ∃ a c a' c' a'' c'', r = .returned (.agg #[.string e.ct, .slice a e.tn c, .int .i64 e.nu, .int .i64 e.tk, .slice a' e.cn c', .string e.cd, .slice a'' e.an c'']) ∧ Own w' w.heap.size (e.wi a c a' c' a'' c'') ∧ Below w.heap.size w w' := by
  have bv : Below w.heap.size w ((w.alloc (.cells #[.string e.ct, .slice e.tp e.tn e.tc, .int .i64 e.nu, .int .i64 e.tk, .slice e.cp e.cn e.cc, .string e.cd, .slice e.ap e.an e.ac] 30)).alloc (.cells #[.string ⟨#[]⟩, .slice none 0 0, .int .i64 0, .int .i64 0, .slice none 0 0, .string ⟨#[]⟩, .slice none 0 0] 30)) := ((Below.refl _ _).alloc (Nat.le_refl _) _).alloc (by simp) _
  have bx := (Box.new w #[.string e.ct, .slice e.tp e.tn e.tc, .int .i64 e.nu, .int .i64 e.tk, .slice e.cp e.cn e.cc, .string e.cd, .slice e.ap e.an e.ac] 30).alloc (.cells #[.string ⟨#[]⟩, .slice none 0 0, .int .i64 0, .int .i64 0, .slice none 0 0, .string ⟨#[]⟩, .slice none 0 0] 30)
  have by_ := Box.new (w.alloc (.cells #[.string e.ct, .slice e.tp e.tn e.tc, .int .i64 e.nu, .int .i64 e.tk, .slice e.cp e.cn e.cc, .string e.cd, .slice e.ap e.an e.ac] 30)) #[.string ⟨#[]⟩, .slice none 0 0, .int .i64 0, .int .i64 0, .slice none 0 0, .string ⟨#[]⟩, .slice none 0 0] 30
  rw [World.size_alloc] at by_
  obtain ⟨V, hV⟩ : ∃ V, ((w.alloc (.cells #[.string e.ct, .slice e.tp e.tn e.tc, .int .i64 e.nu, .int .i64 e.tk, .slice e.cp e.cn e.cc, .string e.cd, .slice e.ap e.an e.ac] 30)).alloc (.cells #[.string ⟨#[]⟩, .slice none 0 0, .int .i64 0, .int .i64 0, .slice none 0 0, .string ⟨#[]⟩, .slice none 0 0] 30)) = V := ⟨_, rfl⟩
  have HZ : Hid (V.heap.size = w.heap.size + 1 + 1) := by unfold Hid; rw [← hV]; simp
  rw [hV] at bx by_ bv
  obtain ⟨xb, hxb⟩ : ∃ xb, w.heap.size = xb := ⟨_, rfl⟩
  have HXB : Hid (w.heap.size = xb) := hxb
  have HB0 : Hid (Below w.heap.size w V) := bv
  have HX : Hid (Box V xb #[.string e.ct, .slice e.tp e.tn e.tc, .int .i64 e.nu, .int .i64 e.tk, .slice e.cp e.cn e.cc, .string e.cd, .slice e.ap e.an e.ac] ∧ Box V (xb + 1) #[.string ⟨#[]⟩, .slice none 0 0, .int .i64 0, .int .i64 0, .slice none 0 0, .string ⟨#[]⟩, .slice none 0 0]) := by rw [← hxb]; exact ⟨bx, by_⟩
  have HL : Hid (Lies w e) := hl
  have HN : Hid (e.tn + 90 ≤ 140737488355328 ∧ e.cn + 90 ≤ 140737488355328 ∧ e.an + 90 ≤ 140737488355328) := ⟨h1, h2, h3⟩
  have hd1 := hand_byts (c := e.tc) V (hl.below bv).t h1
  have cx := HX.out.1.cell
  clear bv bx by_ hl h1 h2 h3
  go_enter Tryz.func14, Tryz.ntmps14
  go_wp2_with fail
  clear hV
  refine hd1.mono ?_
  rintro _ w1 ⟨g1, k1, rfl, r1, b1⟩
  have HW1 : Hid (Box (w1.setCell ⟨xb, 1, none⟩ (.slice (some ⟨g1, 0, none⟩) e.tn k1)) xb #[.string e.ct, .slice (some ⟨g1, 0, none⟩) e.tn k1, .int .i64 e.nu, .int .i64 e.tk, .slice e.cp e.cn e.cc, .string e.cd, .slice e.ap e.an e.ac] ∧ Box (w1.setCell ⟨xb, 1, none⟩ (.slice (some ⟨g1, 0, none⟩) e.tn k1)) (xb + 1) #[.string ⟨#[]⟩, .slice none 0 0, .int .i64 0, .int .i64 0, .slice none 0 0, .string ⟨#[]⟩, .slice none 0 0] ∧ Below w.heap.size w (w1.setCell ⟨xb, 1, none⟩ (.slice (some ⟨g1, 0, none⟩) e.tn k1)) ∧ BRow (w1.setCell ⟨xb, 1, none⟩ (.slice (some ⟨g1, 0, none⟩) e.tn k1)) (xb + 2) (.slice (some ⟨g1, 0, none⟩) e.tn k1) e.tx) := by
    have o1 : Off (fun q => q = xb) w1 (w1.setCell ⟨xb, 1, none⟩ (.slice (some ⟨g1, 0, none⟩) e.tn k1)) := Off.setCell (P := fun q => q = xb) (Off.refl _ _) (p := ⟨xb, 1, none⟩) rfl _
    have hz := HZ.out
    have hxx := HXB.out
    exact ⟨(HX.out.1.below b1).pPut (j := 1) (by simp) _, (HX.out.2.below b1).pOff (p := ⟨xb, 1, none⟩) (by simp) _, (below_then HB0.out b1).trans (o1.below (Nat.le_trans HB0.out.size b1.size) fun q hq => by omega), ERow.base (ERow.off r1 o1 fun q hq e2 => by have := (ERow.lt r1 hq).1; omega) (by omega)⟩
  have c1 := (HX.out.1.below b1).cell
  have f1 := (HX.out.1.below b1).free
  obtain ⟨W1, hW1⟩ : ∃ W1, w1.setCell ⟨xb, 1, none⟩ (.slice (some ⟨g1, 0, none⟩) e.tn k1) = W1 := ⟨_, rfl⟩
  rw [hW1] at HW1
  have hd2 := hand_byts (c := e.cc) W1 (HL.out.below HW1.out.2.2.1).c HN.out.2.1
  have cx1 := HW1.out.1.cell
  clear hd1 r1 b1 cx HX
  go_wp2_with fail
  clear hW1 c1 f1
  refine hd2.mono ?_
  rintro _ w2 ⟨g2, k2, rfl, r2, b2⟩
  have HW2 : Hid (Box (w2.setCell ⟨xb, 4, none⟩ (.slice (some ⟨g2, 0, none⟩) e.cn k2)) xb #[.string e.ct, .slice (some ⟨g1, 0, none⟩) e.tn k1, .int .i64 e.nu, .int .i64 e.tk, .slice (some ⟨g2, 0, none⟩) e.cn k2, .string e.cd, .slice e.ap e.an e.ac] ∧ Box (w2.setCell ⟨xb, 4, none⟩ (.slice (some ⟨g2, 0, none⟩) e.cn k2)) (xb + 1) #[.string ⟨#[]⟩, .slice none 0 0, .int .i64 0, .int .i64 0, .slice none 0 0, .string ⟨#[]⟩, .slice none 0 0] ∧ Below w.heap.size w (w2.setCell ⟨xb, 4, none⟩ (.slice (some ⟨g2, 0, none⟩) e.cn k2)) ∧ BRow (w2.setCell ⟨xb, 4, none⟩ (.slice (some ⟨g2, 0, none⟩) e.cn k2)) (xb + 2) (.slice (some ⟨g1, 0, none⟩) e.tn k1) e.tx ∧ BRow (w2.setCell ⟨xb, 4, none⟩ (.slice (some ⟨g2, 0, none⟩) e.cn k2)) (xb + 2) (.slice (some ⟨g2, 0, none⟩) e.cn k2) e.cx) := by
    have o1 : Off (fun q => q = xb) w2 (w2.setCell ⟨xb, 4, none⟩ (.slice (some ⟨g2, 0, none⟩) e.cn k2)) := Off.setCell (P := fun q => q = xb) (Off.refl _ _) (p := ⟨xb, 4, none⟩) rfl _
    have hxx := HXB.out
    have hs : xb + 2 ≤ W1.heap.size := by have := HW1.out.2.1.lt; omega
    have t1 := ERow.below HW1.out.2.2.2 b2
    exact ⟨(HW1.out.1.below b2).pPut (j := 4) (by simp) _, (HW1.out.2.1.below b2).pOff (p := ⟨xb, 4, none⟩) (by simp) _, (below_then HW1.out.2.2.1 b2).trans (o1.below (Nat.le_trans HW1.out.2.2.1.size b2.size) fun q hq => by omega), ERow.off t1 o1 fun q hq e2 => by { have := (ERow.lt t1 hq).1; omega }, ERow.base (ERow.off r2 o1 fun q hq e2 => by { have := (ERow.lt r2 hq).1; omega }) hs⟩
  have c2 := (HW1.out.1.below b2).cell
  have f2 := (HW1.out.1.below b2).free
  obtain ⟨W2, hW2⟩ : ∃ W2, w2.setCell ⟨xb, 4, none⟩ (.slice (some ⟨g2, 0, none⟩) e.cn k2) = W2 := ⟨_, rfl⟩
  rw [hW2] at HW2
  have hd3 := hand_byts (c := e.ac) W2 (HL.out.below HW2.out.2.2.1).a HN.out.2.2
  have cx2 := HW2.out.1.cell
  clear hd2 r2 b2 cx1 HW1
  go_wp2_with fail
  clear hW2 c2 f2
  refine hd3.mono ?_
  rintro _ w3 ⟨g3, k3, rfl, r3, b3⟩
  have HE : Hid (∀ W', Off (fun q => q = xb ∨ q = xb + 1) w3 W' → Own W' w.heap.size (e.wi (some ⟨g1, 0, none⟩) k1 (some ⟨g2, 0, none⟩) k2 (some ⟨g3, 0, none⟩) k3) ∧ Below w.heap.size w W') := fun W' ho => by
    have hxx := HXB.out
    have hs : xb + 2 ≤ W2.heap.size := by have := HW2.out.2.1.lt; omega
    have key : ∀ {v : Value} {bs : List Int}, BRow w3 (xb + 2) v bs → BRow W' w.heap.size v bs := fun hr => ERow.base (ERow.off hr ho fun g hg h => by have := (ERow.lt hr hg).1; omega) (by omega)
    exact ⟨⟨key (ERow.below HW2.out.2.2.2.1 b3), key (ERow.below HW2.out.2.2.2.2 b3), key (ERow.base r3 hs)⟩, (below_then HW2.out.2.2.1 b3).trans (ho.below (Nat.le_trans HW2.out.2.2.1.size b3.size) fun k hk => by omega)⟩
  have c3 := (HW2.out.1.below b3).cell
  have f3 := (HW2.out.1.below b3).free
  have c4 := (HW2.out.2.1.below b3).cell
  have f4 := (HW2.out.2.1.below b3).free
  clear hd3 r3 b3 cx2 HW2
  go_wp2_with fail
  refine bodyPost_ret ?_ rfl ⟨some ⟨g1, 0, none⟩, k1, some ⟨g2, 0, none⟩, k2, some ⟨g3, 0, none⟩, k3, rfl, HE.out _ ?_⟩
  · simp [results, Tryz.results14, go_sem, c4]
  · iterate 8 (refine Off.setCell ?_ (by first | exact Or.inl rfl | exact Or.inr rfl) _)
    exact Off.refl _ _
/-- A call that came in. -/
structure Opv where
  kd : Int
  of_ : Int
  n : Int
  e : Ent
  ct : ByteArray
  cd : ByteArray
  ap : Option Addr
  an : Nat
  ac : Nat
  ax : List Int
/-- Its thirteen cells, and what they name. -/
structure OpAt (w : World) (b o : Nat) (y : Opv) : Prop where
  cell : ∀ q, q < 13 → w.cell? ⟨b, o + q, none⟩ = (#[.int .i64 y.kd, .int .i64 y.of_, .int .i64 y.n, .string y.e.ct, .slice y.e.tp y.e.tn y.e.tc, .int .i64 y.e.nu, .int .i64 y.e.tk, .slice y.e.cp y.e.cn y.e.cc, .string y.e.cd, .slice y.e.ap y.e.an y.e.ac, .string y.ct, .string y.cd, .slice y.ap y.an y.ac] : Array Value)[q]?
  lies : Lies w y.e
  byts : Byts w y.ap y.an y.ax
/-- What may be so of a call that came in. -/
structure OpOk (y : Opv) : Prop where
  k1 : KeyS y.e.ct
  k2 : KeyS y.ct
  n1 : y.e.tn + 90 ≤ 140737488355328
  n2 : y.e.cn + 90 ≤ 140737488355328
  n3 : y.e.an + 90 ≤ 140737488355328
  n4 : y.an + 90 ≤ 140737488355328
def Ops (w : World) (ao : Option Addr) (xs : List Opv) : Prop := ∀ (k : Nat) (y : Opv), xs[k]? = some y → ∃ b off, ao = some ⟨b, off, none⟩ ∧ b < w.heap.size ∧ OpAt w b (off + k * 13) y
theorem OpAt.below {w w' : World} {b o : Nat} {y : Opv} (h : OpAt w b o y) (hl : b < w.heap.size) (hb : Below w.heap.size w w') : OpAt w' b o y :=
  ⟨fun q hq => by rw [hb.cell (p := ⟨b, o + q, none⟩) hl]; exact h.cell q hq, h.lies.below hb, h.byts.below hb⟩
theorem Ops.below {w w' : World} {ao : Option Addr} {xs : List Opv} (h : Ops w ao xs) (hb : Below w.heap.size w w') : Ops w' ao xs := fun k y hk => by
  obtain ⟨b, off, h1, h2, h3⟩ := h k y hk
  exact ⟨b, off, h1, Nat.lt_of_lt_of_le h2 hb.size, h3.below h2 hb⟩
end Go.Proofs.YtjbkfppibnlmoaaGreatDoor

/-
  Arguments opened: entries, lists of calls.
-/
namespace Go.Proofs.YtjbkfppibnlmoaaGreatDoor
open Go.ChangeShapes Go.WideShapes Go.ChangeAt Go.RowKit Go.Deep

theorem own : ownKnob Tryz.prog.godebug = none := by kernel_rfl
theorem typesSize : Tryz.prog.types.size = 178 := by kernel_rfl
theorem cellsInt : Tryz.prog.cellsOf 3 = 1 := by kernel_rfl
theorem cellsString : Tryz.prog.cellsOf 9 = 1 := by kernel_rfl
theorem cellsU8 : Tryz.prog.cellsOf 5 = 1 := by kernel_rfl
theorem cellsBytes : Tryz.prog.cellsOf 28 = 1 := by kernel_rfl
theorem cellsEnt : Tryz.prog.cellsOf 30 = 7 := by kernel_rfl
theorem bytesU8 : Tryz.prog.bytesOf 5 = 1 := by kernel_rfl
theorem reachBytes_90 : reachBytes + 90 ≤ 140737488355328 := by decide
theorem weights_mem_all {H : Type} {P : Program} {e : TypeId} : ∀ {ds : List (DataW H)} {d : DataW H}, d ∈ ds → ∀ n ∈ d.weights P e, n ∈ DataW.weightsAll P e ds
  | d0 :: ds, d, hd, n, hn => by
    simp only [DataW.weightsAll, List.mem_append]
    rcases List.mem_cons.1 hd with rfl | h
    · exact Or.inl hn
    · exact Or.inr (weights_mem_all h n hn)
theorem choose_lt {α : Type} [Inhabited α] {n : Nat} {p : Nat → α → Prop} (h : ∀ k, k < n → ∃ y, p k y) : ∃ f : Nat → α, ∀ k, k < n → p k (f k) := by
  refine ⟨fun k => if hk : k < n then (h k hk).choose else default, fun k hk => ?_⟩
  simp only [hk, dif_pos]
  exact (h k hk).choose_spec
theorem seven {α : Type} {l : List α} (h : l.length = 7) : ∃ c0 c1 c2 c3 c4 c5 c6, l = [c0, c1, c2, c3, c4, c5, c6] := by
  match l, h with
  | [c0, c1, c2, c3, c4, c5, c6], _ => exact ⟨c0, c1, c2, c3, c4, c5, c6, rfl⟩
theorem thirteen {α : Type} {l : List α} (h : l.length = 13) : ∃ c0 c1 c2 c3 c4 c5 c6 c7 c8 c9 c10 c11 c12, l = [c0, c1, c2, c3, c4, c5, c6, c7, c8, c9, c10, c11, c12] := by
  match l, h with
  | [c0, c1, c2, c3, c4, c5, c6, c7, c8, c9, c10, c11, c12], _ => exact ⟨c0, c1, c2, c3, c4, c5, c6, c7, c8, c9, c10, c11, c12, rfl⟩
section
variable {H : Type} {enc : TypeId × Value → H} {W : World} {base : Nat} {spare : Nat → Bool} {held : Bool}
theorem one_int {n : Nat} {c : Value} {x : DataW H × List MemPlace} (h : DataW.trod enc Tryz.prog W base spare held n 3 [c] = some x) : ∃ k, c = .int .i64 k := by
  obtain ⟨k, e, _, _⟩ := DataW.trod_int Tryz.underlying3 h
  exact ⟨k, List.head_eq_of_cons_eq e⟩
theorem one_str {n : Nat} {c : Value} {x : DataW H × List MemPlace} (h : DataW.trod enc Tryz.prog W base spare held n 9 [c] = some x) : ∃ s, c = .string s ∧ KeyS s := by
  obtain ⟨k, e, _, h1⟩ := DataW.trod_string Tryz.underlying9 h
  exact ⟨k, List.head_eq_of_cons_eq e, h1⟩
theorem cells_at {a : Addr} {n : Nat} {cs : List Value} (h : W.cells? base a n = some cs) (hn : 0 < n) : ∃ b o, a = ⟨b, o, none⟩ ∧ ∀ j v, cs[j]? = some v → W.cell? ⟨b, o + j, none⟩ = some v := by
  obtain ⟨_, hlen, hc⟩ := World.cells?_some h
  obtain ⟨b, o, sp⟩ := a
  have h0 := hc 0 hn
  rw [List.getElem?_eq_getElem (by omega)] at h0
  have hs : sp = none := by simpa [Addr.add] using World.cell?_spot h0
  subst hs
  refine ⟨b, o, rfl, fun j v hv => ?_⟩
  have hj : j < n := by rw [← hlen]; exact (List.getElem?_eq_some_iff.1 hv).1
  have := hc j hj
  rw [Addr.add_lit] at this
  rw [this, hv]
theorem open_bytes {n : Nat} {cs : List Value} {x : DataW H × List MemPlace} (h : DataW.trod enc Tryz.prog W base spare held n 28 cs = some x) :
    ∃ po pl pc bs, cs = [.slice po pl pc] ∧ Byts W po pl bs ∧ (pl = 0 ∨ ∃ el sp, x.1 = .slice el sp ∧ el.length = pl) := by
  rcases open_ints Tryz.underlying28 Tryz.underlying5 cellsU8 h with ⟨rfl, _⟩ | ⟨a, len, cap, zs, rfl, _, hl, hm, hz, hxx, hc, _⟩
  · exact ⟨none, 0, 0, [], rfl, ⟨rfl, fun j hj => (by omega)⟩, Or.inl rfl⟩
  · have hzl : len ≤ zs.length := by rw [hz]; split <;> omega
    refine ⟨some a, len, cap, zs.take len, rfl, ⟨by simp; omega, fun j hj => ?_⟩, Or.inr ⟨_, _, by rw [hxx], by simp [lits]; omega⟩⟩
    · obtain ⟨b, o, sp⟩ := a
      have h0 := hc 0 (by omega)
      have hs : sp = none := by simpa [Addr.add] using World.cell?_spot h0
      subst hs
      have hj' := hc j (by omega)
      rw [Addr.add_lit] at hj'
      refine ⟨b, o, rfl, cell_lt hj', ?_⟩
      rw [hj']
      simp [List.getD_eq_getElem?_getD, hj]
/-- A byte list's weight. -/
theorem weigh {d : DataW H} {pl : Nat} (h : pl = 0 ∨ ∃ el sp, d = .slice el sp ∧ el.length = pl) (hw : ∀ n ∈ d.weights Tryz.prog 28, n ≤ reachBytes) : pl + 90 ≤ 140737488355328 := by
  have hr := reachBytes_90
  rcases h with h0 | ⟨el, sp, e4, hel⟩
  · omega
  · have := hw ((el.length + sp.length) * Tryz.prog.bytesOf 5) (by
      rw [e4]
      simp [DataW.weights, Tryz.underlying28])
    rw [bytesU8] at this
    omega
set_option maxRecDepth 100000 in
set_option maxHeartbeats 1000000 in
theorem open_entry {n : Nat} {cs : List Value} {x : DataW H × List MemPlace} (h : DataW.trod enc Tryz.prog W base spare held n 30 cs = some x) :
    ∃ e : Ent, cs = encE e ∧ Lies W e ∧ KeyS e.ct ∧ ((∀ n ∈ x.1.weights Tryz.prog 30, n ≤ reachBytes) → e.tn + 90 ≤ 140737488355328 ∧ e.cn + 90 ≤ 140737488355328 ∧ e.an + 90 ≤ 140737488355328) := by
  obtain ⟨xs, m, _, hxe, hcl, hlen, hfl⟩ := DataW.trod_struct Tryz.underlying30 h
  obtain ⟨c0, c1, c2, c3, c4, c5, c6, rfl⟩ := seven (l := cs) (by rw [hcl, cellsEnt])
  obtain ⟨x0, x1, x2, x3, x4, x5, x6, rfl⟩ := seven (l := xs) hlen
  have g0 : DataW.trod enc Tryz.prog W base spare held m 9 [c0] = some x0 := by simpa [cellsString] using hfl 0 _ rfl
  have g1 : DataW.trod enc Tryz.prog W base spare held m 28 [c1] = some x1 := by simpa [cellsString, cellsBytes] using hfl 1 _ rfl
  have g2 : DataW.trod enc Tryz.prog W base spare held m 3 [c2] = some x2 := by simpa [cellsString, cellsBytes, cellsInt] using hfl 2 _ rfl
  have g3 : DataW.trod enc Tryz.prog W base spare held m 3 [c3] = some x3 := by simpa [cellsString, cellsBytes, cellsInt] using hfl 3 _ rfl
  have g4 : DataW.trod enc Tryz.prog W base spare held m 28 [c4] = some x4 := by simpa [cellsString, cellsBytes, cellsInt] using hfl 4 _ rfl
  have g5 : DataW.trod enc Tryz.prog W base spare held m 9 [c5] = some x5 := by simpa [cellsString, cellsBytes, cellsInt] using hfl 5 _ rfl
  have g6 : DataW.trod enc Tryz.prog W base spare held m 28 [c6] = some x6 := by simpa [cellsString, cellsBytes, cellsInt] using hfl 6 _ rfl
  obtain ⟨ct, rfl, hk⟩ := one_str g0
  obtain ⟨tp, tn, tc, tx, e1, hB1, hw1⟩ := open_bytes g1
  obtain rfl := List.head_eq_of_cons_eq e1
  obtain ⟨nu, rfl⟩ := one_int g2
  obtain ⟨tk, rfl⟩ := one_int g3
  obtain ⟨cp, cn, cc, cx, e4, hB4, hw4⟩ := open_bytes g4
  obtain rfl := List.head_eq_of_cons_eq e4
  obtain ⟨cd, rfl, _⟩ := one_str g5
  obtain ⟨ap, an, ac, ax, e6, hB6, hw6⟩ := open_bytes g6
  obtain rfl := List.head_eq_of_cons_eq e6
  refine ⟨⟨ct, tp, tn, tc, tx, nu, tk, cp, cn, cc, cx, cd, ap, an, ac, ax⟩, rfl, ⟨hB1, hB4, hB6⟩, hk, fun hw => ⟨weigh hw1 fun n hn => hw n ?_, weigh hw4 fun n hn => hw n ?_, weigh hw6 fun n hn => hw n ?_⟩⟩
  · rw [hxe]
    simp only [DataW.weights, Tryz.underlying30]
    exact DataW.weights_mem_each (j := 1) (t := 28) (d := x1.1) rfl rfl _ hn
  · rw [hxe]
    simp only [DataW.weights, Tryz.underlying30]
    exact DataW.weights_mem_each (j := 4) (t := 28) (d := x4.1) rfl rfl _ hn
  · rw [hxe]
    simp only [DataW.weights, Tryz.underlying30]
    exact DataW.weights_mem_each (j := 6) (t := 28) (d := x6.1) rfl rfl _ hn
theorem cellsOp : Tryz.prog.cellsOf 32 = 13 := by kernel_rfl
set_option maxRecDepth 100000 in
set_option maxHeartbeats 1000000 in
theorem open_op {n : Nat} {cs : List Value} {x : DataW H × List MemPlace} {b o : Nat} (h : DataW.trod enc Tryz.prog W base spare held n 32 cs = some x) (hc : ∀ j v, cs[j]? = some v → W.cell? ⟨b, o + j, none⟩ = some v) :
    ∃ y : Opv, (b < W.heap.size ∧ OpAt W b o y) ∧ ((∀ n ∈ x.1.weights Tryz.prog 32, n ≤ reachBytes) → OpOk y) := by
  obtain ⟨xs, m, _, hxe, hcl, hlen, hfl⟩ := DataW.trod_struct Tryz.underlying32 h
  obtain ⟨c0, c1, c2, c3, c4, c5, c6, c7, c8, c9, c10, c11, c12, rfl⟩ := thirteen (l := cs) (by rw [hcl, cellsOp])
  obtain ⟨x0, x1, x2, x3, x4, x5, x6, rfl⟩ := seven (l := xs) hlen
  have g0 : DataW.trod enc Tryz.prog W base spare held m 3 [c0] = some x0 := by simpa [cellsInt] using hfl 0 _ rfl
  have g1 : DataW.trod enc Tryz.prog W base spare held m 3 [c1] = some x1 := by simpa [cellsInt] using hfl 1 _ rfl
  have g2 : DataW.trod enc Tryz.prog W base spare held m 3 [c2] = some x2 := by simpa [cellsInt] using hfl 2 _ rfl
  have g3 : DataW.trod enc Tryz.prog W base spare held m 30 [c3, c4, c5, c6, c7, c8, c9] = some x3 := by simpa [cellsInt, cellsEnt] using hfl 3 _ rfl
  have g4 : DataW.trod enc Tryz.prog W base spare held m 9 [c10] = some x4 := by simpa [cellsInt, cellsEnt, cellsString] using hfl 4 _ rfl
  have g5 : DataW.trod enc Tryz.prog W base spare held m 9 [c11] = some x5 := by simpa [cellsInt, cellsEnt, cellsString] using hfl 5 _ rfl
  have g6 : DataW.trod enc Tryz.prog W base spare held m 28 [c12] = some x6 := by simpa [cellsInt, cellsEnt, cellsString, cellsBytes] using hfl 6 _ rfl
  obtain ⟨kd, rfl⟩ := one_int g0
  obtain ⟨of_, rfl⟩ := one_int g1
  obtain ⟨nn, rfl⟩ := one_int g2
  obtain ⟨e, e3, hL, hk, hw3⟩ := open_entry g3
  simp only [encE, List.cons.injEq, and_true] at e3
  obtain ⟨rfl, rfl, rfl, rfl, rfl, rfl, rfl⟩ := e3
  obtain ⟨ct, rfl, hk2⟩ := one_str g4
  obtain ⟨cd, rfl, _⟩ := one_str g5
  obtain ⟨ap, an, ac, ax, e6, hB6, hw6⟩ := open_bytes g6
  obtain rfl := List.head_eq_of_cons_eq e6
  refine ⟨⟨kd, of_, nn, e, ct, cd, ap, an, ac, ax⟩, ⟨cell_lt (hc 0 _ rfl), ⟨fun q hq => ?_, hL, hB6⟩⟩, fun hw => ?_⟩
  · rcases (by omega : q = 0 ∨ q = 1 ∨ q = 2 ∨ q = 3 ∨ q = 4 ∨ q = 5 ∨ q = 6 ∨ q = 7 ∨ q = 8 ∨ q = 9 ∨ q = 10 ∨ q = 11 ∨ q = 12) with rfl | rfl | rfl | rfl | rfl | rfl | rfl | rfl | rfl | rfl | rfl | rfl | rfl <;> exact hc _ _ rfl
  · have h3 := hw3 fun n hn => hw n (by
      rw [hxe]
      simp only [DataW.weights, Tryz.underlying32]
      exact DataW.weights_mem_each (j := 3) (t := 30) (d := x3.1) rfl rfl _ hn)
    have h6 := weigh hw6 fun n hn => hw n (by
      rw [hxe]
      simp only [DataW.weights, Tryz.underlying32]
      exact DataW.weights_mem_each (j := 6) (t := 28) (d := x6.1) rfl rfl _ hn)
    exact ⟨hk, hk2, h3.1, h3.2.1, h3.2.2, h6⟩
set_option maxRecDepth 100000 in
set_option maxHeartbeats 1000000 in
theorem open_ops {n : Nat} {cs : List Value} {x : DataW H × List MemPlace} (h : DataW.trod enc Tryz.prog W base spare held n 23 cs = some x) :
    ∃ ao cap xs, cs = [.slice ao xs.length cap] ∧ Ops W ao xs ∧ xs.length ≤ 9223372036854775807 ∧ ∀ y ∈ xs, (∀ n ∈ x.1.weights Tryz.prog 23, n ≤ reachBytes) → OpOk y := by
  rcases open_slice Tryz.underlying23 h with ⟨rfl, _⟩ | ⟨a, len, cap, m, n', D, Pl, rfl, _, hl, hm, hmm, hxe, hx⟩
  · exact ⟨none, 0, [], rfl, fun k x hk => (by simp at hk), by decide, fun y hy => (by cases hy)⟩
  · have hlm : len ≤ m := by rw [hmm]; split <;> omega
    have key : ∀ k, k < len → ∃ y : Opv, (∃ b off, a = ⟨b, off, none⟩ ∧ b < W.heap.size ∧ OpAt W b (off + k * 13) y) ∧ ((∀ n ∈ (D k).weights Tryz.prog 32, n ≤ reachBytes) → OpOk y) := by
      have hsp : 0 < len → a.spot = none := fun h0 => by
        obtain ⟨cs', h1, _⟩ := hx 0 (by omega)
        rw [Nat.zero_mul] at h1
        obtain ⟨b, o, e, _⟩ := cells_at h1 (by rw [cellsOp]; decide)
        have : a.add 0 = a := rfl
        rw [this] at e; rw [e]
      intro k hk
      obtain ⟨b, off, sp⟩ := a
      obtain rfl : sp = none := hsp (by omega)
      obtain ⟨cs', h1, h2⟩ := hx k (by omega)
      rw [cellsOp] at h1
      obtain ⟨b', o', e, hc⟩ := cells_at h1 (by decide)
      rw [Addr.add_lit] at e
      obtain ⟨rfl, rfl⟩ : b = b' ∧ off + k * 13 = o' := by simpa using e
      obtain ⟨y, hy, hp⟩ := open_op h2 hc
      exact ⟨y, ⟨b, off, rfl, hy.1, hy.2⟩, hp⟩
    haveI : Inhabited Opv := ⟨⟨0, 0, 0, zE, ⟨#[]⟩, ⟨#[]⟩, none, 0, 0, []⟩⟩
    obtain ⟨Y, hY⟩ := choose_lt (α := Opv) (p := fun k y => (∃ b off, a = ⟨b, off, none⟩ ∧ b < W.heap.size ∧ OpAt W b (off + k * 13) y) ∧ ((∀ n ∈ (D k).weights Tryz.prog 32, n ≤ reachBytes) → OpOk y)) key
    refine ⟨some a, cap, (List.range len).map Y, by simp, fun k x hk => ?_, by simp; unfold maxLen at hm; omega, fun y hy => ?_⟩
    · simp only [List.getElem?_map, Option.map_eq_some_iff] at hk
      obtain ⟨i, hi, rfl⟩ := hk
      obtain ⟨hi1, hi2⟩ := List.getElem?_eq_some_iff.1 hi
      simp at hi1 hi2
      subst hi2
      obtain ⟨⟨b, off, e, hb, ho⟩, _⟩ := hY k hi1
      exact ⟨b, off, by rw [e], hb, ho⟩
    · obtain ⟨i, hi, rfl⟩ := List.mem_map.1 hy
      have hy2 := (hY i (List.mem_range.1 hi)).2
      refine fun hw => hy2 fun n hn => hw n ?_
      rw [hxe]
      simp only [DataW.weights, Tryz.underlying23]
      exact List.mem_cons_of_mem _ (List.mem_append_left _ (weights_mem_all (List.mem_map_of_mem hi) n hn))
end
end Go.Proofs.YtjbkfppibnlmoaaGreatDoor
