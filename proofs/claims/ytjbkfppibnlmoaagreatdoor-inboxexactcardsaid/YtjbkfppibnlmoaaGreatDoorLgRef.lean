import Derived.Test.YtjbkfppibnlmoaaGreatDoorIbPut
/-
  The shelf in memory: last, refuse, hasTooMany, firstDecided.
-/
namespace Go.Proofs.YtjbkfppibnlmoaaGreatDoor.Lg
open Go.RowKit

/-- A shelf: its block sb, its map's M, its list's slice v. -/
structure Shf (w : World) (B sb M : Nat) (v : Value) (K R : Int) (es : List Ent) : Prop where
  blk : w.heap[sb]? = some (.cells #[.int .i64 K, .int .i64 R, v, .map (some M), .int .i64 (nOp es : Int)] 89 (0, 0))
  row : NRow w B v es
  map : MapF w M (fun s => fi s es) es.length
  dis : Dis es
  len : es.length ≤ 1200000000000
  ok : ∀ e ∈ es, mayB e = true
section
variable {w w' : World} {B sb M : Nat} {v : Value} {K R : Int} {es : List Ent}
theorem Shf.lt (h : Shf w B sb M v K R es) : sb < w.heap.size := blk_lt h.blk
theorem Shf.below (h : Shf w B sb M v K R es) (hb : Below w.heap.size w w') : Shf w' B sb M v K R es := ⟨(hb.block sb h.lt).trans h.blk, h.row.below hb, h.map.below hb, h.dis, h.len, h.ok⟩
theorem Shf.off {P : Nat → Prop} (h : Shf w B sb M v K R es) (ho : Off P w w') (hP : ∀ q, Ft sb M v q → ¬ P q) : Shf w' B sb M v K R es := ⟨(ho.block sb h.lt (hP sb (Or.inl rfl))).trans h.blk, h.row.off ho (fun g hg => hP g (Or.inr (Or.inr hg))), h.map.off ho (hP M (Or.inr (Or.inl rfl))), h.dis, h.len, h.ok⟩
theorem Shf.neL (h : Shf w B sb M v K R es) {g : Nat} (hg : v.ownBlock = some g) : g ≠ sb ∧ g ≠ M := by
  obtain ⟨cs, b1⟩ := row_type h.row hg
  refine ⟨fun e => ?_, fun e => ?_⟩
  · subst e
    rw [h.blk] at b1
    simp at b1
  · obtain ⟨es', clock, hm⟩ := h.map.isMap
    subst e
    rw [hm] at b1
    simp at b1
theorem Shf.neM (h : Shf w B sb M v K R es) : sb ≠ M := fun e => by
  obtain ⟨es', clock, hm⟩ := h.map.isMap
  have b1 := h.blk
  rw [e, hm] at b1
  simp at b1
/-- None of its blocks holds bytes. -/
theorem Shf.notBytes (h : Shf w B sb M v K R es) (q : Nat) (cs : Array Value) (hq : w.heap[q]? = some (.cells cs 5 (0, 0))) : ¬ Ft sb M v q := by
  rintro (rfl | rfl | hg)
  · rw [h.blk] at hq
    simp at hq
  · obtain ⟨es', clock, hm⟩ := h.map.isMap
    rw [hm] at hq
    simp at hq
  · obtain ⟨cs', b1⟩ := row_type h.row hg
    rw [b1] at hq
    simp at hq
theorem Shf.cells (h : Shf w B sb M v K R es) : w.cell? ⟨sb, 0, none⟩ = some (.int .i64 K) ∧ w.cell? ⟨sb, 1, none⟩ = some (.int .i64 R) ∧ w.cell? ⟨sb, 2, none⟩ = some v ∧ w.cell? ⟨sb, 3, none⟩ = some (.map (some M)) ∧ w.cell? ⟨sb, 4, none⟩ = some (.int .i64 (nOp es : Int)) :=
  ⟨hcell h.blk 0, hcell h.blk 1, hcell h.blk 2, hcell h.blk 3, hcell h.blk 4⟩
set_option maxRecDepth 100000 in
set_option maxHeartbeats 2000000 in
theorem last_any (h : Shf w B sb M v K R es) {l : Ent} (hl : lasE es = l) : Calls Tryz.prog 61 #[.pointer (some ⟨sb, 0, none⟩)] w fun r w' => r = .returned (.tuple #[.agg #[.string l.ct, .slice l.tp l.tn l.tc, .int .i64 l.nu, .int .i64 l.tk, .slice l.cp l.cn l.cc, .string l.cd, .slice l.ap l.an l.ac], .bool (decide (0 < es.length))]) ∧ Below w.heap.size w w' := by
  have bv : Below w.heap.size w (w.alloc (.cells #[.string ⟨#[]⟩, .slice none 0 0, .int .i64 0, .int .i64 0, .slice none 0 0, .string ⟨#[]⟩, .slice none 0 0] 30)) := (Below.refl _ _).alloc (Nat.le_refl _) _
  have bx := Box.new w #[.string ⟨#[]⟩, .slice none 0 0, .int .i64 0, .int .i64 0, .slice none 0 0, .string ⟨#[]⟩, .slice none 0 0] 30
  obtain ⟨V, hV⟩ : ∃ V, w.alloc (.cells #[.string ⟨#[]⟩, .slice none 0 0, .int .i64 0, .int .i64 0, .slice none 0 0, .string ⟨#[]⟩, .slice none 0 0] 30) = V := ⟨_, rfl⟩
  rw [hV] at bv bx
  have h1 := h.below bv
  obtain ⟨a, c, rfl, _⟩ := h1.row.isSlice
  obtain ⟨k0, k1, k2, k3, k4⟩ := h1.cells
  have cx := bx.cell
  have fx := bx.free
  have HB : Hid (Below w.heap.size w V) := bv
  have ls := h1.lt
  rcases Nat.eq_zero_or_pos es.length with h0 | h0
  · obtain rfl : es = [] := List.eq_nil_of_length_eq_zero h0
    obtain rfl : zE = l := by rw [← hl]; rfl
    clear bv h h1 hl h0 bx k0 k1 k3 k4
    simp only [List.length_nil] at k2
    go_enter Tryz.func61, Tryz.ntmps61
    go_wp2_with fail
    clear hV
    refine bodyPost_ret ?_ rfl ⟨rfl, ?_⟩
    · simp [results, Tryz.results61, go_sem, cx, zE]
    · repeat' (first | (with_reducible exact HB.out) | (with_reducible refine Below.setCell ?_ (by exact Nat.le_refl _) _) | (with_reducible refine Below.alloc ?_ (by simp; omega) _))
  · obtain ⟨n, hn⟩ : ∃ n, es.length = n + 1 := ⟨es.length - 1, by omega⟩
    have hat := lasE_at hn
    rw [hl] at hat
    obtain ⟨g, rfl, hg, hc⟩ := nrow_cells h1.row hat
    obtain ⟨d0, d1, d2, d3, d4, d5, d6⟩ := hc
    have hn6 : n + 1 ≤ 1200000000000 := by rw [← hn]; exact h.len
    rw [decide_eq_true h0]
    rw [hn] at k2
    have q1 : (((n + 1 : Nat) : Int) == 0) = false := by rw [beq_eq_false_iff_ne]; omega
    have q2 : IntKind.i64.wrap (((n + 1 : Nat) : Int) - 1) = (n : Int) := by rw [IntKind.wrap_i64]; omega
    have q3 : (n : Int) < ((n + 1 : Nat) : Int) := by omega
    clear bv h h1 hl h0 bx k0 k1 k3 k4 hat hn hg
    obtain ⟨m, hm⟩ : ∃ m, n + 1 = m := ⟨_, rfl⟩
    rw [hm] at k2 q1 q2 q3 hn6
    clear hm
    go_enter Tryz.func61, Tryz.ntmps61
    go_wp2_with fail
    clear hV
    go_region_law (fail)
    all_goals
      go_wp2_with fail
      refine bodyPost_ret ?_ rfl ⟨rfl, ?_⟩
      · simp [results, Tryz.results61, go_sem, cx]
      · repeat' (first | (with_reducible exact HB.out) | (with_reducible refine Below.setCell ?_ (by exact Nat.le_refl _) _) | (with_reducible refine Below.drew ?_))
set_option maxRecDepth 100000 in
set_option maxHeartbeats 1000000 in
theorem many_any (h : Shf w B sb M v K R es) (hK : 0 ≤ K ∧ K ≤ 64) : Calls Tryz.prog 43 #[.pointer (some ⟨sb, 0, none⟩)] w fun r w' => r = .returned (.bool (manyB K es)) ∧ ∃ m, w' = w.drewN m := by
  obtain ⟨a, c, rfl, _⟩ := h.row.isSlice
  obtain ⟨k0, k1, k2, k3, k4⟩ := h.cells
  have ha := nOp_add es
  have hl := h.len
  obtain ⟨n, hn⟩ : ∃ n, es.length = n := ⟨_, rfl⟩
  obtain ⟨o, ho⟩ : ∃ o, nOp es = o := ⟨_, rfl⟩
  have HM : Hid (manyB K es = decide ((n : Int) - o > K + 1)) := by
    unfold Hid manyB
    rw [Bool.eq_iff_iff]
    simp
    omega
  rw [hn, ho] at ha
  rw [hn] at k2 hl
  rw [ho] at k4
  have q1 : IntKind.i64.wrap ((n : Int) - (o : Int)) = (n : Int) - o := by rw [IntKind.wrap_i64]; omega
  have q2 : IntKind.i64.wrap (K + 1) = K + 1 := by rw [IntKind.wrap_i64]; omega
  clear h ha hl hn ho k1 k3
  go_enter Tryz.func43, Tryz.ntmps43
  go_wp2_with fail
  go_quiet (fail)
  go_wp2_with fail
  go_ret
  exact ⟨ret_bool (by rw [HM.out]), _, rfl⟩
set_option maxRecDepth 100000 in
set_option maxHeartbeats 2000000 in
theorem index_any {a : Option Addr} {n c : Nat} (hr : NRow w B (.slice a n c) es) (hl : es.length ≤ 1200000000000) :
    Calls Tryz.prog 73 #[.slice a n c, .func (.func 65) #[] #[]] w fun e w' => e = .returned (.int .i64 (fdI es)) ∧ Below w.heap.size w w' := by
  have HR : Hid (NRow w B (.slice a n c) es) := hr
  have HN : Hid (n = es.length) := hr.len
  have hn : n ≤ 1200000000000 := by rw [hr.len]; exact hl
  obtain ⟨J, hJ⟩ : ∃ J : Nat, J = (match fdS es with | some i => i | none => n) := ⟨_, rfl⟩
  have HJ : Hid (∀ j m', j < J → es[j]? = some m' → dcB m' = false) := fun j m' hj hm => by
    rw [hJ] at hj
    cases hf : fdS es with
    | some i => rw [hf] at hj; obtain ⟨_, _, _, hx⟩ := fd_some hf; exact hx j m' hj hm
    | none => exact fd_none hf j m' hm
  have HJ2 : Hid (J < n → fdI es = J ∧ ∀ m', es[J]? = some m' → dcB m' = true) := fun hlt => by
    cases hf : fdS es with
    | some i =>
      rw [hf] at hJ
      simp only at hJ
      subst hJ
      obtain ⟨m, hm, he, _⟩ := fd_some hf
      exact ⟨by unfold fdI; rw [hf], fun m' hm' => by rw [hm] at hm'; cases hm'; exact he⟩
    | none => rw [hf] at hJ; simp only at hJ; omega
  have HJ3 : Hid (¬ J < n → fdI es = -1) := fun hlt => by
    cases hf : fdS es with
    | some i =>
      rw [hf] at hJ
      simp only at hJ
      obtain ⟨m, hm, _⟩ := fd_some hf
      have := (List.getElem?_eq_some_iff.1 hm).1
      have := HN.out
      omega
    | none => unfold fdI; rw [hf]
  have hJn : J ≤ n := by
    rw [hJ]
    cases hf : fdS es with
    | some i => obtain ⟨m, hm, _⟩ := fd_some hf; have := (List.getElem?_eq_some_iff.1 hm).1; have := HN.out; simp only; omega
    | none => exact Nat.le_refl _
  clear hr hl hJ
  go_enter Tryz.func73, Tryz.ntmps73
  go_wp2_with fail
  go_loopw [8] (fun t8 wx => ∃ i : Nat, i ≤ J ∧ t8 = .int .i64 i ∧ Hid (Below w.heap.size w wx)) (fun t8 _ => n - (intOf t8).toNat)
  case atStart => exact ⟨0, Nat.zero_le _, rfl, Below.refl _ _⟩
  case round =>
    obtain ⟨i, hi, rfl, HB⟩ := hrel
    by_cases hlt : i < n
    · have hlt1 : (i : Int) < n := by omega
      obtain ⟨m, hm⟩ : ∃ m, es[i]? = some m := ⟨_, List.getElem?_eq_getElem (by have := HN.out; omega)⟩
      obtain ⟨g, rfl, hg, hc⟩ := nrow_cells (HR.out.below HB.out) hm
      obtain ⟨c0, c1, c2, c3, c4, c5, c6⟩ := hc
      have HM : Hid (es[i]? = some m) := hm
      have hs := isDecided_any m wr
      clear hm
      by_cases hJi : i < J
      · rw [HJ.out i m hJi HM.out] at hs
        go_wp2_with fail
        refine hs.mono ?_
        rintro _ w1 ⟨rfl, hb1⟩
        have HB1 : Hid (Below w.heap.size w w1) := below_then HB.out hb1
        clear hb1 hs c0 c1 c2 c3 c4 c5 c6
        go_wp2_with fail
        go_roundw
        case rel => exact ⟨i + 1, hJi, by go_num, HB1⟩
        case measure => simp [intOf]; omega
      · have hiJ : i = J := by omega
        subst hiJ
        rw [(HJ2.out hlt).2 m HM.out] at hs
        go_wp2_with fail
        refine hs.mono ?_
        rintro _ w1 ⟨rfl, hb1⟩
        have HB1 : Hid (Below w.heap.size w w1) := below_then HB.out hb1
        clear hb1 hs c0 c1 c2 c3 c4 c5 c6
        go_wp2_with fail
        go_ret
        exact ⟨ret_int (HJ2.out hlt).1.symm, HB1.out⟩
    · have hlt1 : ¬ (i : Int) < n := by omega
      go_wp2_with fail
      go_ret
      exact ⟨ret_int (HJ3.out (by omega)).symm, HB.out⟩
set_option maxRecDepth 100000 in
set_option maxHeartbeats 1000000 in
theorem first_any (h : Shf w B sb M v K R es) : Calls Tryz.prog 44 #[.pointer (some ⟨sb, 0, none⟩)] w fun r w' => r = .returned (.int .i64 (fdI es)) ∧ Below w.heap.size w w' := by
  obtain ⟨a, c, rfl, _⟩ := h.row.isSlice
  obtain ⟨k0, k1, k2, k3, k4⟩ := h.cells
  have hi := index_any h.row h.len
  clear h
  go_enter Tryz.func44, Tryz.ntmps44
  go_wp2_with fail
  refine hi.mono ?_
  rintro _ w1 ⟨rfl, hb1⟩
  have HB1 : Hid (Below w.heap.size w w1) := hb1
  clear hb1 hi k0 k1 k2 k3 k4
  go_wp2_with fail
  go_ret
  exact ⟨rfl, HB1.out⟩
end
end Go.Proofs.YtjbkfppibnlmoaaGreatDoor.Lg

/-
  refuse of the shelf.
-/
namespace Go.Proofs.YtjbkfppibnlmoaaGreatDoor.Lg
open Go.RowKit

section
variable {w w' : World} {B sb M : Nat} {v : Value} {K R : Int} {es : List Ent}
set_option maxRecDepth 100000 in
set_option maxHeartbeats 4000000 in
theorem refuse_any (h : Shf w B sb M v K R es) (e : Ent) (hk : KeyS e.ct) : Calls Tryz.prog 41 #[.pointer (some ⟨sb, 0, none⟩), .agg #[.string e.ct, .slice e.tp e.tn e.tc, .int .i64 e.nu, .int .i64 e.tk, .slice e.cp e.cn e.cc, .string e.cd, .slice e.ap e.an e.ac]] w fun r w' => r = .returned (.int .i64 (refS R es e)) ∧ Below w.heap.size w w' := by
  have bv : Below w.heap.size w (w.alloc (.cells #[.string e.ct, .slice e.tp e.tn e.tc, .int .i64 e.nu, .int .i64 e.tk, .slice e.cp e.cn e.cc, .string e.cd, .slice e.ap e.an e.ac] 30)) := (Below.refl _ _).alloc (Nat.le_refl _) _
  have bx := Box.new w #[.string e.ct, .slice e.tp e.tn e.tc, .int .i64 e.nu, .int .i64 e.tk, .slice e.cp e.cn e.cc, .string e.cd, .slice e.ap e.an e.ac] 30
  obtain ⟨V, hV⟩ : ∃ V, w.alloc (.cells #[.string e.ct, .slice e.tp e.tn e.tc, .int .i64 e.nu, .int .i64 e.tk, .slice e.cp e.cn e.cc, .string e.cd, .slice e.ap e.an e.ac] 30) = V := ⟨_, rfl⟩
  rw [hV] at bv bx
  obtain ⟨l, hl⟩ : ∃ l, lasE es = l := ⟨_, rfl⟩
  have hls := last_any (h.below bv) hl
  obtain ⟨b0, hb0⟩ : ∃ b0, decide (0 < es.length) = b0 := ⟨_, rfl⟩
  rw [hb0] at hls
  have HT : Hid (lastT es = l.tk) := by unfold Hid; rw [lastT_eq, hl]
  have HS : Hid (Shf V B sb M v K R es) := h.below bv
  have HX : Hid (Box V w.heap.size #[.string e.ct, .slice e.tp e.tn e.tc, .int .i64 e.nu, .int .i64 e.tk, .slice e.cp e.cn e.cc, .string e.cd, .slice e.ap e.an e.ac]) := bx
  have HB : Hid (Below w.heap.size w V) := bv
  obtain ⟨xb, hxb⟩ : ∃ xb, w.heap.size = xb := ⟨_, rfl⟩
  clear hl hb0 bv bx h
  go_enter Tryz.func41, Tryz.ntmps41
  go_wp2_with fail
  clear hV
  rw [hxb] at HX
  refine hls.mono ?_
  rintro _ w1 ⟨rfl, hb1⟩
  have HB1 : Hid (Below w.heap.size w w1) := below_then HB.out hb1
  have HS1 : Hid (Shf w1 B sb M v K R es) := HS.out.below hb1
  have HX1 : Hid (Box w1 xb #[.string e.ct, .slice e.tp e.tn e.tc, .int .i64 e.nu, .int .i64 e.tk, .slice e.cp e.cn e.cc, .string e.cd, .slice e.ap e.an e.ac]) := HX.out.below hb1
  clear hls hb1 hxb HS HX HB
  go_wp2_with fail
  have bv2 : Below w1.heap.size w1 (w1.alloc (.cells #[.string l.ct, .slice l.tp l.tn l.tc, .int .i64 l.nu, .int .i64 l.tk, .slice l.cp l.cn l.cc, .string l.cd, .slice l.ap l.an l.ac] 30)) := (Below.refl _ _).alloc (Nat.le_refl _) _
  have by2 := Box.new w1 #[.string l.ct, .slice l.tp l.tn l.tc, .int .i64 l.nu, .int .i64 l.tk, .slice l.cp l.cn l.cc, .string l.cd, .slice l.ap l.an l.ac] 30
  generalize w1.alloc (.cells #[.string l.ct, .slice l.tp l.tn l.tc, .int .i64 l.nu, .int .i64 l.tk, .slice l.cp l.cn l.cc, .string l.cd, .slice l.ap l.an l.ac] 30) = V2 at bv2 by2 ⊢
  have HB2 : Hid (Below w.heap.size w V2) := below_then HB1.out bv2
  have HS2 : Hid (Shf V2 B sb M v K R es) := HS1.out.below bv2
  have hx2 := HX1.out.below bv2
  obtain ⟨lb, hlb⟩ : ∃ lb, w1.heap.size = lb := ⟨_, rfl⟩
  rw [hlb] at by2 ⊢
  clear hlb bv2 HB1 HS1 HX1
  have hlk : ∀ n, (Instr.lookup 87 (.map (some M)) (.string e.ct) true).run Tryz.prog (V2.drewN n) = .ok (.tuple #[.int .i64 (atP (fi e.ct es)), .bool (fi e.ct es).isSome]) (V2.drewN n) := fun n => (HS2.out.below (below_drewN (Below.refl _ _) n)).map.look hk
  obtain ⟨k0, k1, k2, k3, k4⟩ := HS2.out.cells
  obtain ⟨at0, hat0⟩ : ∃ z, atP (fi e.ct es) = z := ⟨_, rfl⟩
  obtain ⟨hs0, hhs0⟩ : ∃ z, (fi e.ct es).isSome = z := ⟨_, rfl⟩
  rw [hat0, hhs0] at hlk
  have HH : Hid ((fi e.ct es).isSome = hs0) := hhs0
  clear hat0 hhs0
  have cx := hx2.cell
  have cy := by2.cell
  have HX2 : Hid (Box V2 xb #[.string e.ct, .slice e.tp e.tn e.tc, .int .i64 e.nu, .int .i64 e.tk, .slice e.cp e.cn e.cc, .string e.cd, .slice e.ap e.an e.ac] ∧ Box V2 lb #[.string l.ct, .slice l.tp l.tn l.tc, .int .i64 l.nu, .int .i64 l.tk, .slice l.cp l.cn l.cc, .string l.cd, .slice l.ap l.an l.ac]) := ⟨hx2, by2⟩
  clear hx2 by2
  go_quiet (fail)
  have HB3 : Hid (Below w.heap.size w (V2.drewN nq)) := below_drewN HB2.out nq
  have HS3 : Hid (Shf (V2.drewN nq) B sb M v K R es) := HS2.out.below (below_drewN (Below.refl _ _) nq)
  have HX3 : Hid (Box (V2.drewN nq) xb #[.string e.ct, .slice e.tp e.tn e.tc, .int .i64 e.nu, .int .i64 e.tk, .slice e.cp e.cn e.cc, .string e.cd, .slice e.ap e.an e.ac] ∧ Box (V2.drewN nq) lb #[.string l.ct, .slice l.tp l.tn l.tc, .int .i64 l.nu, .int .i64 l.tk, .slice l.cp l.cn l.cc, .string l.cd, .slice l.ap l.an l.ac]) := ⟨HX2.out.1.below (below_drewN (Below.refl _ _) nq), HX2.out.2.below (below_drewN (Below.refl _ _) nq)⟩
  generalize V2.drewN nq = V3 at HB3 HS3 HX3 ⊢
  clear hlk k0 k1 k2 k3 k4 cx cy HB2 HS2 HX2
  have cx := HX3.out.1.cell
  have cy := HX3.out.2.cell
  have hmb := mayBe_any e V3
  cases hm : mayB e with
  | false =>
    rw [hm] at hmb
    have HM : Hid (refS R es e = 300) := by unfold Hid refS; rw [hm]; rfl
    clear hm
    go_wp2_with fail
    refine hmb.mono ?_
    rintro _ w4 ⟨rfl, hb4⟩
    have HB4 : Hid (Below w.heap.size w w4) := below_then HB3.out hb4
    clear hmb hb4 cx cy
    go_wp2_with fail
    go_ret
    exact ⟨ret_int HM.out.symm, HB4.out⟩
  | true =>
    rw [hm] at hmb
    have HM : Hid (mayB e = true) := hm
    clear hm
    go_wp2_with fail
    refine hmb.mono ?_
    rintro _ w4 ⟨rfl, hb4⟩
    have HB4 : Hid (Below w.heap.size w w4) := below_then HB3.out hb4
    have HS4 : Hid (Shf w4 B sb M v K R es) := HS3.out.below hb4
    have HX4 : Hid (Box w4 xb #[.string e.ct, .slice e.tp e.tn e.tc, .int .i64 e.nu, .int .i64 e.tk, .slice e.cp e.cn e.cc, .string e.cd, .slice e.ap e.an e.ac] ∧ Box w4 lb #[.string l.ct, .slice l.tp l.tn l.tc, .int .i64 l.nu, .int .i64 l.tk, .slice l.cp l.cn l.cc, .string l.cd, .slice l.ap l.an l.ac]) := ⟨HX3.out.1.below hb4, HX3.out.2.below hb4⟩
    clear hmb hb4 cx cy HB3 HS3 HX3
    have cx := HX4.out.1.cell
    have cy := HX4.out.2.cell
    by_cases ht : e.tk < l.tk
    · have HE : Hid (refS R es e = 300) := by unfold Hid refS; rw [HM.out, HT.out, decide_eq_true ht]; rfl
      go_wp2_with fail
      go_ret
      exact ⟨ret_int HE.out.symm, HB4.out⟩
    · cases hs0 with
      | true =>
        have HE : Hid (refS R es e = 6) := by unfold Hid refS; rw [HM.out, HT.out, decide_eq_false ht, HH.out]; rfl
        go_wp2_with fail
        go_ret
        exact ⟨ret_int HE.out.symm, HB4.out⟩
      | false =>
        have HE : Hid (refS R es e = if (opB e && decide ((nOp es : Int) = R)) = true then 7 else 0) := by unfold Hid refS; rw [HM.out, HT.out, decide_eq_false ht, HH.out]; rfl
        have hdc := sub_of (V := w4) (isDecided_any e)
        have lx := sub_box HX4.out.1
        have l1 : ∀ x : Sub w4, x.1.cell? ⟨sb, 1, none⟩ = some (.int .i64 R) := fun x => (HS4.out.below x.2).cells.2.1
        have l4 : ∀ x : Sub w4, x.1.cell? ⟨sb, 4, none⟩ = some (.int .i64 (nOp es : Int)) := fun x => (HS4.out.below x.2).cells.2.2.2.2
        haveI hne : Nonempty (Sub w4) := ⟨⟨w4, Below.refl _ _⟩⟩
        obtain ⟨no, hno⟩ : ∃ no : Int, (nOp es : Int) = no := ⟨_, rfl⟩
        rw [hno] at l4 HE
        clear hno
        cases hd : dcB e with
        | true =>
          have HE2 : Hid (refS R es e = 0) := by
            unfold Hid
            rw [HE.out, show opB e = false by unfold opB; unfold dcB at hd; simpa using hd]
            rfl
          rw [hd] at hdc
          clear hd HE
          go_wp2_with fail
          refine wp_region_class (V := w4) (Below.refl _ _) (by kernel_rfl) (by kernel_rfl) ?_
          repeat (go_big_quiet_step ((exact hdc _)))
          refine wpQuiet_nil ?_
          rintro wc ⟨xwc, rfl⟩
          have HB5 : Hid (Below w.heap.size w xwc.1) := below_then HB4.out xwc.2
          clear hdc lx l1 l4 hne
          go_wp2_with fail
          go_ret
          exact ⟨ret_int HE2.out.symm, HB5.out⟩
        | false =>
          rw [hd] at hdc
          have HO : Hid (opB e = true) := by unfold Hid opB; unfold dcB at hd; simpa using hd
          clear hd
          by_cases hr : no = R
          · have HE2 : Hid (refS R es e = 7) := by unfold Hid; rw [HE.out, HO.out, decide_eq_true hr]; rfl
            subst hr
            clear HE
            go_wp2_with fail
            refine wp_region_class (V := w4) (Below.refl _ _) (by kernel_rfl) (by kernel_rfl) ?_
            repeat (go_big_quiet_step ((exact hdc _)))
            refine wpQuiet_nil ?_
            rintro wc ⟨xwc, rfl⟩
            have HB5 : Hid (Below w.heap.size w xwc.1) := below_then HB4.out xwc.2
            clear hdc lx l1 l4 hne
            go_wp2_with fail
            go_ret
            exact ⟨ret_int HE2.out.symm, HB5.out⟩
          · have HE2 : Hid (refS R es e = 0) := by unfold Hid; rw [HE.out, HO.out, decide_eq_false hr]; rfl
            have hq : (no == R) = false := by rw [beq_eq_false_iff_ne]; exact hr
            clear HE hr
            go_wp2_with fail
            refine wp_region_class (V := w4) (Below.refl _ _) (by kernel_rfl) (by kernel_rfl) ?_
            repeat (go_big_quiet_step ((exact hdc _)))
            refine wpQuiet_nil ?_
            rintro wc ⟨xwc, rfl⟩
            have HB5 : Hid (Below w.heap.size w xwc.1) := below_then HB4.out xwc.2
            clear hdc lx l1 l4 hne
            go_wp2_with fail
            go_ret
            exact ⟨ret_int HE2.out.symm, HB5.out⟩
end
end Go.Proofs.YtjbkfppibnlmoaaGreatDoor.Lg
