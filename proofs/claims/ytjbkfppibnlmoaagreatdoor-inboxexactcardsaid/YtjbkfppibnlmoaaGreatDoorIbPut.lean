import Derived.Test.YtjbkfppibnlmoaaGreatDoorIbShelf
/-
  refuse of the shelf.
-/
namespace Go.Proofs.YtjbkfppibnlmoaaGreatDoor
open Go.RowKit

section
variable {w w' : World} {B sb M : Nat} {v : Value} {K R : Int} {es : List Ent}
set_option maxRecDepth 100000 in
set_option maxHeartbeats 4000000 in
theorem refuse_any (h : Shf w B sb M v K R es) (e : Ent) (hk : KeyS e.ct) : Calls Tryz.prog 41 #[.pointer (some ⟨sb, 0, none⟩), .agg #[.string e.ct, .slice e.tp e.tn e.tc, .int .i64 e.nu, .int .i64 e.tk, .slice e.cp e.cn e.cc, .string e.cd, .slice e.ap e.an e.ac]] w fun r w' => r = .returned (.int .i64 (refS R es e)) ∧ Below w.heap.size w w' := by
  have bv : Below w.heap.size w (w.alloc (.cells #[.string e.ct, .slice e.tp e.tn e.tc, .int .i64 e.nu, .int .i64 e.tk, .slice e.cp e.cn e.cc, .string e.cd, .slice e.ap e.an e.ac] 30)) := (Below.refl _ _).alloc (Nat.le_refl _) _
  have bx := Box.new w #[.string e.ct, .slice e.tp e.tn e.tc, .int .i64 e.nu, .int .i64 e.tk, .slice e.cp e.cn e.cc, .string e.cd, .slice e.ap e.an e.ac] 30
  obtain ⟨V, hV⟩ : ∃ V, w.alloc (.cells #[.string e.ct, .slice e.tp e.tn e.tc, .int .i64 e.nu, .int .i64 e.tk, .slice e.cp e.cn e.cc, .string e.cd, .slice e.ap e.an e.ac] 30) = V := ⟨_, rfl⟩
  rw [hV] at bv bx
  obtain ⟨l, hl⟩ : ∃ l, lasE es = l := ⟨_, rfl⟩
  have hls := last_any (h.below bv) hl
  obtain ⟨b0, hb0⟩ : ∃ b0, decide (0 < es.length) = b0 := ⟨_, rfl⟩
  rw [hb0] at hls
  have HT : Hid (lastT es = l.tk) := by unfold Hid; rw [lastT_eq, hl]
  have HS : Hid (Shf V B sb M v K R es) := h.below bv
  have HX : Hid (Box V w.heap.size #[.string e.ct, .slice e.tp e.tn e.tc, .int .i64 e.nu, .int .i64 e.tk, .slice e.cp e.cn e.cc, .string e.cd, .slice e.ap e.an e.ac]) := bx
  have HB : Hid (Below w.heap.size w V) := bv
  obtain ⟨xb, hxb⟩ : ∃ xb, w.heap.size = xb := ⟨_, rfl⟩
  clear hl hb0 bv bx h
  go_enter Tryz.func41, Tryz.ntmps41
  go_wp2_with fail
  clear hV
  rw [hxb] at HX
  refine hls.mono ?_
  rintro _ w1 ⟨rfl, hb1⟩
  have HB1 : Hid (Below w.heap.size w w1) := below_then HB.out hb1
  have HS1 : Hid (Shf w1 B sb M v K R es) := HS.out.below hb1
  have HX1 : Hid (Box w1 xb #[.string e.ct, .slice e.tp e.tn e.tc, .int .i64 e.nu, .int .i64 e.tk, .slice e.cp e.cn e.cc, .string e.cd, .slice e.ap e.an e.ac]) := HX.out.below hb1
  clear hls hb1 hxb HS HX HB
  go_wp2_with fail
  have bv2 : Below w1.heap.size w1 (w1.alloc (.cells #[.string l.ct, .slice l.tp l.tn l.tc, .int .i64 l.nu, .int .i64 l.tk, .slice l.cp l.cn l.cc, .string l.cd, .slice l.ap l.an l.ac] 30)) := (Below.refl _ _).alloc (Nat.le_refl _) _
  have by2 := Box.new w1 #[.string l.ct, .slice l.tp l.tn l.tc, .int .i64 l.nu, .int .i64 l.tk, .slice l.cp l.cn l.cc, .string l.cd, .slice l.ap l.an l.ac] 30
  generalize w1.alloc (.cells #[.string l.ct, .slice l.tp l.tn l.tc, .int .i64 l.nu, .int .i64 l.tk, .slice l.cp l.cn l.cc, .string l.cd, .slice l.ap l.an l.ac] 30) = V2 at bv2 by2 ⊢
  have HB2 : Hid (Below w.heap.size w V2) := below_then HB1.out bv2
  have HS2 : Hid (Shf V2 B sb M v K R es) := HS1.out.below bv2
  have hx2 := HX1.out.below bv2
  obtain ⟨lb, hlb⟩ : ∃ lb, w1.heap.size = lb := ⟨_, rfl⟩
  rw [hlb] at by2 ⊢
  clear hlb bv2 HB1 HS1 HX1
  have hlk : ∀ n, (Instr.lookup 87 (.map (some M)) (.string e.ct) true).run Tryz.prog (V2.drewN n) = .ok (.tuple #[.int .i64 (atP (fi e.ct es)), .bool (fi e.ct es).isSome]) (V2.drewN n) := fun n => (HS2.out.below (below_drewN (Below.refl _ _) n)).map.look hk
  obtain ⟨k0, k1, k2, k3, k4⟩ := HS2.out.cells
  obtain ⟨at0, hat0⟩ : ∃ z, atP (fi e.ct es) = z := ⟨_, rfl⟩
  obtain ⟨hs0, hhs0⟩ : ∃ z, (fi e.ct es).isSome = z := ⟨_, rfl⟩
  rw [hat0, hhs0] at hlk
  have HH : Hid ((fi e.ct es).isSome = hs0) := hhs0
  clear hat0 hhs0
  have cx := hx2.cell
  have cy := by2.cell
  have HX2 : Hid (Box V2 xb #[.string e.ct, .slice e.tp e.tn e.tc, .int .i64 e.nu, .int .i64 e.tk, .slice e.cp e.cn e.cc, .string e.cd, .slice e.ap e.an e.ac] ∧ Box V2 lb #[.string l.ct, .slice l.tp l.tn l.tc, .int .i64 l.nu, .int .i64 l.tk, .slice l.cp l.cn l.cc, .string l.cd, .slice l.ap l.an l.ac]) := ⟨hx2, by2⟩
  clear hx2 by2
  go_quiet (fail)
  have HB3 : Hid (Below w.heap.size w (V2.drewN nq)) := below_drewN HB2.out nq
  have HS3 : Hid (Shf (V2.drewN nq) B sb M v K R es) := HS2.out.below (below_drewN (Below.refl _ _) nq)
  have HX3 : Hid (Box (V2.drewN nq) xb #[.string e.ct, .slice e.tp e.tn e.tc, .int .i64 e.nu, .int .i64 e.tk, .slice e.cp e.cn e.cc, .string e.cd, .slice e.ap e.an e.ac] ∧ Box (V2.drewN nq) lb #[.string l.ct, .slice l.tp l.tn l.tc, .int .i64 l.nu, .int .i64 l.tk, .slice l.cp l.cn l.cc, .string l.cd, .slice l.ap l.an l.ac]) := ⟨HX2.out.1.below (below_drewN (Below.refl _ _) nq), HX2.out.2.below (below_drewN (Below.refl _ _) nq)⟩
  generalize V2.drewN nq = V3 at HB3 HS3 HX3 ⊢
  clear hlk k0 k1 k2 k3 k4 cx cy HB2 HS2 HX2
  have cx := HX3.out.1.cell
  have cy := HX3.out.2.cell
  have hmb := mayBe_any e V3
  cases hm : mayB e with
  | false =>
    rw [hm] at hmb
    have HM : Hid (refS R es e = 300) := by unfold Hid refS; rw [hm]; rfl
    clear hm
    go_wp2_with fail
    refine hmb.mono ?_
    rintro _ w4 ⟨rfl, hb4⟩
    have HB4 : Hid (Below w.heap.size w w4) := below_then HB3.out hb4
    clear hmb hb4 cx cy
    go_wp2_with fail
    go_ret
    exact ⟨ret_int HM.out.symm, HB4.out⟩
  | true =>
    rw [hm] at hmb
    have HM : Hid (mayB e = true) := hm
    clear hm
    go_wp2_with fail
    refine hmb.mono ?_
    rintro _ w4 ⟨rfl, hb4⟩
    have HB4 : Hid (Below w.heap.size w w4) := below_then HB3.out hb4
    have HS4 : Hid (Shf w4 B sb M v K R es) := HS3.out.below hb4
    have HX4 : Hid (Box w4 xb #[.string e.ct, .slice e.tp e.tn e.tc, .int .i64 e.nu, .int .i64 e.tk, .slice e.cp e.cn e.cc, .string e.cd, .slice e.ap e.an e.ac] ∧ Box w4 lb #[.string l.ct, .slice l.tp l.tn l.tc, .int .i64 l.nu, .int .i64 l.tk, .slice l.cp l.cn l.cc, .string l.cd, .slice l.ap l.an l.ac]) := ⟨HX3.out.1.below hb4, HX3.out.2.below hb4⟩
    clear hmb hb4 cx cy HB3 HS3 HX3
    have cx := HX4.out.1.cell
    have cy := HX4.out.2.cell
    by_cases ht : e.tk < l.tk
    · have HE : Hid (refS R es e = 300) := by unfold Hid refS; rw [HM.out, HT.out, decide_eq_true ht]; rfl
      go_wp2_with fail
      go_ret
      exact ⟨ret_int HE.out.symm, HB4.out⟩
    · cases hs0 with
      | true =>
        have HE : Hid (refS R es e = 6) := by unfold Hid refS; rw [HM.out, HT.out, decide_eq_false ht, HH.out]; rfl
        go_wp2_with fail
        go_ret
        exact ⟨ret_int HE.out.symm, HB4.out⟩
      | false =>
        have HE : Hid (refS R es e = if (opB e && decide ((nOp es : Int) = R)) = true then 7 else 0) := by unfold Hid refS; rw [HM.out, HT.out, decide_eq_false ht, HH.out]; rfl
        have hdc := sub_of (V := w4) (isDecided_any e)
        have lx := sub_box HX4.out.1
        have l1 : ∀ x : Sub w4, x.1.cell? ⟨sb, 1, none⟩ = some (.int .i64 R) := fun x => (HS4.out.below x.2).cells.2.1
        have l4 : ∀ x : Sub w4, x.1.cell? ⟨sb, 4, none⟩ = some (.int .i64 (nOp es : Int)) := fun x => (HS4.out.below x.2).cells.2.2.2.2
        haveI hne : Nonempty (Sub w4) := ⟨⟨w4, Below.refl _ _⟩⟩
        obtain ⟨no, hno⟩ : ∃ no : Int, (nOp es : Int) = no := ⟨_, rfl⟩
        rw [hno] at l4 HE
        clear hno
        cases hd : dcB e with
        | true =>
          have HE2 : Hid (refS R es e = 0) := by
            unfold Hid
            rw [HE.out, show opB e = false by unfold opB; unfold dcB at hd; simpa using hd]
            rfl
          rw [hd] at hdc
          clear hd HE
          go_wp2_with fail
          refine wp_region_class (V := w4) (Below.refl _ _) (by kernel_rfl) (by kernel_rfl) ?_
          repeat (go_big_quiet_step ((exact hdc _)))
          refine wpQuiet_nil ?_
          rintro wc ⟨xwc, rfl⟩
          have HB5 : Hid (Below w.heap.size w xwc.1) := below_then HB4.out xwc.2
          clear hdc lx l1 l4 hne
          go_wp2_with fail
          go_ret
          exact ⟨ret_int HE2.out.symm, HB5.out⟩
        | false =>
          rw [hd] at hdc
          have HO : Hid (opB e = true) := by unfold Hid opB; unfold dcB at hd; simpa using hd
          clear hd
          by_cases hr : no = R
          · have HE2 : Hid (refS R es e = 7) := by unfold Hid; rw [HE.out, HO.out, decide_eq_true hr]; rfl
            subst hr
            clear HE
            go_wp2_with fail
            refine wp_region_class (V := w4) (Below.refl _ _) (by kernel_rfl) (by kernel_rfl) ?_
            repeat (go_big_quiet_step ((exact hdc _)))
            refine wpQuiet_nil ?_
            rintro wc ⟨xwc, rfl⟩
            have HB5 : Hid (Below w.heap.size w xwc.1) := below_then HB4.out xwc.2
            clear hdc lx l1 l4 hne
            go_wp2_with fail
            go_ret
            exact ⟨ret_int HE2.out.symm, HB5.out⟩
          · have HE2 : Hid (refS R es e = 0) := by unfold Hid; rw [HE.out, HO.out, decide_eq_false hr]; rfl
            have hq : (no == R) = false := by rw [beq_eq_false_iff_ne]; exact hr
            clear HE hr
            go_wp2_with fail
            refine wp_region_class (V := w4) (Below.refl _ _) (by kernel_rfl) (by kernel_rfl) ?_
            repeat (go_big_quiet_step ((exact hdc _)))
            refine wpQuiet_nil ?_
            rintro wc ⟨xwc, rfl⟩
            have HB5 : Hid (Below w.heap.size w xwc.1) := below_then HB4.out xwc.2
            clear hdc lx l1 l4 hne
            go_wp2_with fail
            go_ret
            exact ⟨ret_int HE2.out.symm, HB5.out⟩
end
end Go.Proofs.YtjbkfppibnlmoaaGreatDoor

/-
  put of the shelf.
-/
namespace Go.Proofs.YtjbkfppibnlmoaaGreatDoor
open Go.RowKit

/-- What a call leaves of a shelf. -/
def ShfQ (w : World) (B sb M : Nat) (v : Value) (K R : Int) (es' : List Ent) (w' : World) : Prop :=
  ∃ v', Shf w' B sb M v' K R es' ∧ Off (Ft sb M v) w w' ∧ ∀ q, v'.ownBlock = some q → v.ownBlock = some q ∨ w.heap.size ≤ q
theorem ShfQ.of_below {w w1 w' : World} {B sb M : Nat} {v : Value} {K R : Int} {es' : List Ent} (hb : Below w.heap.size w w1) (h : ShfQ w1 B sb M v K R es' w') : ShfQ w B sb M v K R es' w' := by
  obtain ⟨v', h1, h2, h3⟩ := h
  exact ⟨v', h1, (Off.of_below hb).trans h2, fun q e => (h3 q e).imp id fun g => Nat.le_trans hb.size g⟩
theorem ShfQ.then_below {w w1 w' : World} {B sb M : Nat} {v : Value} {K R : Int} {es' : List Ent} (h : ShfQ w B sb M v K R es' w1) (hb : Below w1.heap.size w1 w') : ShfQ w B sb M v K R es' w' := by
  obtain ⟨v', h1, h2, h3⟩ := h
  exact ⟨v', h1.below hb, h2.trans (Off.of_below hb), h3⟩
theorem fi_snoc {es : List Ent} {e : Ent} (hf : fi e.ct es = none) : (fun s => fi s (es ++ [e])) = updF (fun s => fi s es) e.ct (some es.length) := by
  funext s
  unfold updF
  by_cases hs : s = e.ct
  · rw [if_pos hs, hs]
    exact fi_of (m := e) (by simp) (str_same _) fun j m' hj hm => by
      rw [List.getElem?_append_left hj] at hm
      exact fi_none hf j m' hm
  · rw [if_neg hs]
    unfold fi
    rw [List.findIdx?_append]
    have : List.findIdx? (fun x : Ent => x.ct.toList == s.toList) [e] = none := by
      rw [List.findIdx?_eq_none_iff]
      intro x hx
      obtain rfl : x = e := by simpa using hx
      exact str_apart fun h => hs h.symm
    rw [this, Option.map_none, Option.or_none]
theorem nOp_snoc (es : List Ent) (e : Ent) : nOp (es ++ [e]) = nOp es + (if dcB e = true then 0 else 1) := by
  unfold nOp
  rw [List.countP_append]
  simp only [List.countP_cons, List.countP_nil, opB, dcB]
  by_cases h : e.cd.toList.isEmpty = true <;> simp [h]
section
variable {w w' : World} {B sb M : Nat} {v : Value} {K R : Int} {es : List Ent}
set_option maxRecDepth 100000 in
set_option maxHeartbeats 4000000 in
theorem put_any (h : Shf w B sb M v K R es) (hB : B ≤ w.heap.size) {e : Ent} (hf : fi e.ct es = none) (hm : mayB e = true) (hk : KeyS e.ct) (hl : es.length < 1000000) :
    Calls Tryz.prog 42 #[.pointer (some ⟨sb, 0, none⟩), .agg #[.string e.ct, .slice e.tp e.tn e.tc, .int .i64 e.nu, .int .i64 e.tk, .slice e.cp e.cn e.cc, .string e.cd, .slice e.ap e.an e.ac]] w fun r w' => r = .returned (.tuple #[]) ∧ ShfQ w B sb M v K R (es ++ [e]) w' := by
  have bv : Below w.heap.size w (w.alloc (.cells #[.string e.ct, .slice e.tp e.tn e.tc, .int .i64 e.nu, .int .i64 e.tk, .slice e.cp e.cn e.cc, .string e.cd, .slice e.ap e.an e.ac] 30)) := (Below.refl _ _).alloc (Nat.le_refl _) _
  have bx := Box.new w #[.string e.ct, .slice e.tp e.tn e.tc, .int .i64 e.nu, .int .i64 e.tk, .slice e.cp e.cn e.cc, .string e.cd, .slice e.ap e.an e.ac] 30
  obtain ⟨V, hV⟩ : ∃ V, w.alloc (.cells #[.string e.ct, .slice e.tp e.tn e.tc, .int .i64 e.nu, .int .i64 e.tk, .slice e.cp e.cn e.cc, .string e.cd, .slice e.ap e.an e.ac] 30) = V := ⟨_, rfl⟩
  rw [hV] at bv bx
  have HS : Hid (Shf V B sb M v K R es) := h.below bv
  have HB : Hid (Below w.heap.size w V) := bv
  have HX : Hid (Box V w.heap.size #[.string e.ct, .slice e.tp e.tn e.tc, .int .i64 e.nu, .int .i64 e.tk, .slice e.cp e.cn e.cc, .string e.cd, .slice e.ap e.an e.ac]) := bx
  obtain ⟨a, c, hv, _⟩ := h.row.isSlice
  obtain ⟨n, hn⟩ : ∃ n, es.length = n := ⟨_, rfl⟩
  rw [hn] at hv hl
  have HN : Hid (es.length = n) := hn
  have HW : Hid (w.heap.size ≠ sb ∧ w.heap.size ≠ M ∧ ∀ q, v.ownBlock = some q → w.heap.size ≠ q) := ⟨by have := h.lt; omega, by have := h.map.lt; omega, fun q hq => by have := (h.row.lt hq).2; omega⟩
  have HD : Hid (Dis es ∧ (∀ x ∈ es, mayB x = true) ∧ fi e.ct es = none ∧ mayB e = true) := ⟨h.dis, h.ok, hf, hm⟩
  have cx := bx.cell
  have k2 : V.cell? ⟨sb, 2, none⟩ = some (.slice a n c) := by rw [← hv]; exact HS.out.cells.2.2.1
  have k3 := HS.out.cells.2.2.2.1
  obtain ⟨W1, hst, hm1, o1⟩ := (HS.out.below (Below.drew (Below.refl _ _))).map.store (w := V.drew) (by omega) hk n
  rw [← HN.out] at hm1
  rw [show (updF (fun s => fi s es) e.ct (some es.length)) = (fun s => fi s (es ++ [e])) from (fi_snoc hf).symm, show (es.length + if ((fun s => fi s es) e.ct).isSome = true then 0 else 1) = (es ++ [e]).length by simp [hf]] at hm1
  obtain ⟨xb, hxb⟩ : ∃ xb, w.heap.size = xb := ⟨_, rfl⟩
  have HL : Hid (w.heap.size = xb) := hxb
  rw [hxb] at cx
  have o1' : Off (fun q => q = M) V W1 := (Off.refl _ _).drew.trans o1
  have s1 : ∀ o, W1.cell? ⟨sb, o, none⟩ = V.cell? ⟨sb, o, none⟩ := fun o => o1'.cell (p := ⟨sb, o, none⟩) HS.out.lt HS.out.neM
  have x1 : ∀ o, W1.cell? ⟨xb, o, none⟩ = V.cell? ⟨xb, o, none⟩ := fun o => o1'.cell (p := ⟨xb, o, none⟩) (by rw [← hxb]; exact bx.lt) (by rw [← hxb]; exact HW.out.2.1)
  have H1 : Hid (MapF W1 M (fun s => fi s (es ++ [e])) (es ++ [e]).length ∧ Off (fun q => q = M) V W1) := ⟨hm1, o1'⟩
  have lx : xb < W1.heap.size := by rw [← hxb]; exact Nat.lt_of_lt_of_le bx.lt o1'.size
  have lsb : sb < W1.heap.size := Nat.lt_of_lt_of_le HS.out.lt o1'.size
  -- the list
  have hrow1 : NRow W1 B (.slice a n c) es := by rw [← hv]; exact HS.out.row.off o1' fun g hg => (HS.out.neL hg).2
  obtain ⟨a2, c2, W2, hap, r2, o2, b2⟩ := run_epush (P := Tryz.prog) (t := 22) Tryz.underlying22 celE encE_len encE_one (w := W1.drew) (hrow1.off (P := fun _ => False) (Off.refl _ _).drew (fun _ _ => id)) e #[.string e.ct, .slice e.tp e.tn e.tc, .int .i64 e.nu, .int .i64 e.tk, .slice e.cp e.cn e.cc, .string e.cd, .slice e.ap e.an e.ac] rfl (by omega) (by decide) (Nat.le_trans hB (Nat.le_trans HB.out.size o1'.size))
  rw [HN.out] at hap r2 b2
  have o3 : Off (fun q => v.ownBlock = some q) W1 W2 := (Off.refl _ _).drew.trans (by rw [hv]; exact o2)
  have s2 : ∀ o, W2.cell? ⟨sb, o, none⟩ = W1.cell? ⟨sb, o, none⟩ := fun o => o3.cell (p := ⟨sb, o, none⟩) lsb fun e => (HS.out.neL e).1 rfl
  have hblk2 : W2.heap[sb]? = some (.cells #[.int .i64 K, .int .i64 R, v, .map (some M), .int .i64 (nOp es : Int)] 89 (0, 0)) := ((o3.block sb lsb fun e => (HS.out.neL e).1 rfl).trans (o1'.block sb HS.out.lt HS.out.neM)).trans HS.out.blk
  have f2 := hfroz hblk2
  have x2 : ∀ o, W2.cell? ⟨xb, o, none⟩ = W1.cell? ⟨xb, o, none⟩ := fun o => o3.cell (p := ⟨xb, o, none⟩) lx fun e => HW.out.2.2 xb e hxb
  have lx2 : xb < W2.heap.size := Nat.lt_of_lt_of_le lx o3.size
  have HE : Hid (∀ z : Int, z = (nOp (es ++ [e]) : Int) → ∀ W3, W3.heap[sb]? = some (.cells #[.int .i64 K, .int .i64 R, .slice a2 (n + 1) c2, .map (some M), .int .i64 z] 89 (0, 0)) → Off (fun q => q = sb) W2 W3 → ShfQ w B sb M v K R (es ++ [e]) W3) := fun z hz W3 hb3 o4 => by
    subst hz
    have hne : ∀ q, (Value.slice a2 (n + 1) c2).ownBlock = some q → v.ownBlock = some q ∨ V.heap.size ≤ q := fun q hq => by
      rcases b2 with b2 | b2
      · exact Or.inl (by rw [hv]; rw [b2] at hq; exact hq)
      · rw [b2] at hq
        simp only [Option.some.injEq] at hq
        subst hq
        exact Or.inr (Nat.le_trans o1'.size (Nat.le_succ W1.heap.size))
    refine ⟨.slice a2 (n + 1) c2, ⟨hb3, ?_, ?_, HD.out.1.snoc HD.out.2.2.1, ?_, ?_⟩, ?_, fun q hq => (hne q hq).imp id (fun g => Nat.le_trans HB.out.size g)⟩
    · exact r2.off o4 fun g hg e => by
        rcases hne g hg with g1 | g1
        · exact (HS.out.neL g1).1 e
        · have := HS.out.lt; omega
    · have hM : M < W1.heap.size := H1.out.1.lt
      refine (H1.out.1.off o3 (fun e => (HS.out.neL e).2 rfl)).off o4 (fun e => HS.out.neM e.symm)
    · rw [List.length_append, HN.out]; simp; omega
    · intro x hx
      rcases List.mem_append.1 hx with g | g
      · exact HD.out.2.1 x g
      · obtain rfl : x = e := by simpa using g
        exact HD.out.2.2.2
    · refine (Off.of_below HB.out).trans (((H1.out.2.mono fun q e => Or.inr (Or.inl e)).trans (o3.mono fun q e => Or.inr (Or.inr e))).trans (o4.mono fun q e => Or.inl e))
  have hap' : (Builtin.append_ #[22, 22] 22 #[.slice a n c, .slice (some ⟨W1.heap.size, 0, none⟩) 1 1]).run Tryz.prog (W1.alloc (.cells #[.string e.ct, .slice e.tp e.tn e.tc, .int .i64 e.nu, .int .i64 e.tk, .slice e.cp e.cn e.cc, .string e.cd, .slice e.ap e.an e.ac] 30)).drew = .ok (.slice a2 (n + 1) c2) W2 := hap
  have k2' : W1.cell? ⟨sb, 2, none⟩ = some (.slice a n c) := by rw [s1]; exact k2
  have k3' : W1.cell? ⟨sb, 3, none⟩ = some (.map (some M)) := by rw [s1]; exact k3
  have cx' : ∀ o, W1.cell? ⟨xb, o, none⟩ = _ := fun o => (x1 o).trans (cx o)
  have k2a : ∀ o, (W1.alloc o).cell? ⟨sb, 2, none⟩ = some (.slice a n c) := fun o => by rw [World.cell?_alloc_lt _ _ ⟨sb, 2, none⟩ lsb]; exact k2'
  have cxa : ∀ q o, (W1.alloc q).cell? ⟨xb, o, none⟩ = _ := fun q o => (World.cell?_alloc_lt _ _ ⟨xb, o, none⟩ lx).trans (cx' o)
  have k2'' : W2.cell? ⟨sb, 2, none⟩ = some (.slice a n c) := by rw [s2]; exact k2'
  have k4'' : W2.cell? ⟨sb, 4, none⟩ = some (.int .i64 (nOp es : Int)) := by rw [s2, s1]; exact HS.out.cells.2.2.2.2
  have cx'' : ∀ o, W2.cell? ⟨xb, o, none⟩ = _ := fun o => (x2 o).trans (cx' o)
  have HK : Hid (W2.heap[sb]? = some (.cells #[.int .i64 K, .int .i64 R, v, .map (some M), .int .i64 (nOp es : Int)] 89 (0, 0))) := hblk2
  have hno := nOp_le es
  rw [HN.out] at hno
  have HA := nOp_snoc es e
  obtain ⟨no, hno'⟩ : ∃ no, nOp es = no := ⟨_, rfl⟩
  rw [hno'] at hno k4'' HA HK
  have hdc := isDecided_any e
  have q9 : IntKind.i64.wrap ((no : Int) + 1) = (no : Int) + 1 := by rw [IntKind.wrap_i64]; omega
  have hxs : ¬ xb = sb := by rw [← hxb]; exact HW.out.1
  have hsx : ¬ sb = xb := fun e => hxs e.symm
  clear h hB hf hm hk hn bv bx hm1 o1 o1' s1 x1 hrow1 hap r2 o2 b2 o3 s2 x2 hblk2 hno' hno
  rw [hxb] at HW
  go_enter Tryz.func42, Tryz.ntmps42
  go_wp2_with fail
  clear hV hxb
  go_region_held3 (fun z => z.cell? ⟨sb, 3, none⟩ = some (.map (some M)) ∧ z.cell? ⟨sb, 2, none⟩ = some (.slice a n c) ∧ z.cell? ⟨xb, 0, none⟩ = some (.string e.ct)) (simp [*]) (first | (refine step_upd_run rfl (.tmp 7) (.tmp 9) (.tmp 14) 87 rfl rfl rfl rfl hst ?_))
  clear hst k2 k3 cx
  go_wp2_with fail
  go_region_law (first | (refine step_app_run rfl (.tmp 19) (.tmp 21) 22 rfl rfl rfl hap' ?_))
  all_goals
    cases hd : dcB e with
    | true =>
      have HZ : Hid (ShfQ w B sb M v K R (es ++ [e]) (W2.setCell ⟨sb, 2, none⟩ (.slice a2 (n + 1) c2))) := HE.out no (by rw [HA, if_pos hd]; rfl) _ (set_heap HK.out 2 _) (Off.setCell (P := fun q => q = sb) (Off.refl _ _) (p := ⟨sb, 2, none⟩) rfl _)
      have hdc' := hdc (W2.setCell ⟨sb, 2, none⟩ (.slice a2 (n + 1) c2))
      rw [hd] at hdc'
      clear hd HE HA
      go_wp2_with fail
      refine hdc'.mono ?_
      rintro _ w5 ⟨rfl, hb5⟩
      have HZ5 : Hid (ShfQ w B sb M v K R (es ++ [e]) w5) := HZ.out.then_below hb5
      clear hb5 hdc hdc'
      go_wp2_with fail
      go_end0
      exact ⟨rfl, HZ5.out⟩
    | false =>
      have hb4 := set_heap HK.out 2 (.slice a2 (n + 1) c2)
      have o4 : Off (fun q => q = sb) W2 (W2.setCell ⟨sb, 2, none⟩ (.slice a2 (n + 1) c2)) := Off.setCell (P := fun q => q = sb) (Off.refl _ _) (p := ⟨sb, 2, none⟩) rfl _
      have hdc' := hdc (W2.setCell ⟨sb, 2, none⟩ (.slice a2 (n + 1) c2))
      rw [hd] at hdc'
      have HA' : Hid (((no : Int) + 1) = (nOp (es ++ [e]) : Int)) := by unfold Hid; rw [HA, hd]; simp
      have H4 : Hid (_ ∧ _) := ⟨hb4, o4⟩
      clear hd HA hb4 o4
      go_wp2_with fail
      refine hdc'.mono ?_
      rintro _ w5 ⟨rfl, hb5⟩
      have hb6 := (hb5.block sb (blk_lt H4.out.1)).trans H4.out.1
      have o6 : Off (fun q => q = sb) W2 w5 := H4.out.2.trans (Off.of_below hb5)
      have c6 := hcell hb6 4
      have g6 := hfroz hb6 4
      have HZ : Hid (ShfQ w B sb M v K R (es ++ [e]) (w5.setCell ⟨sb, 4, none⟩ (.int .i64 ((no : Int) + 1)))) := HE.out _ HA'.out _ (set_heap hb6 4 _) (Off.setCell (P := fun q => q = sb) o6 (p := ⟨sb, 4, none⟩) rfl _)
      clear hb5 hdc hdc' hb6 o6 H4 HE HA'
      go_wp2_with fail
      go_end0
      exact ⟨rfl, HZ.out⟩
end
end Go.Proofs.YtjbkfppibnlmoaaGreatDoor
