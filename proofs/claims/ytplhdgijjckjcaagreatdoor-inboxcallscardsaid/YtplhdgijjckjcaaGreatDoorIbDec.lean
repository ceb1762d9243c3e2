/-
  shed, decide of the shelf.
-/
import Derived.Test.YtplhdgijjckjcaaGreatDoorIbRem
namespace Go.Proofs.YtplhdgijjckjcaaGreatDoor
open Go.RowKit

def encS (s : ByteArray) : List Value := [.string s]
theorem encS_len (s : ByteArray) : (encS s).length = 1 := rfl
theorem encS_one (s : ByteArray) : ∀ u ∈ encS s, u.oneCell' = true := fun u hu => by
  simp only [encS, List.mem_cons, List.not_mem_nil, or_false] at hu; rw [hu]; rfl
theorem celSt : Cel Tryz.prog 9 1 16 := cel_of (by kernel_rfl)
/-- A row of texts. -/
abbrev TRow (w : World) (B : Nat) (v : Value) (l : List ByteArray) : Prop := ERow w B 9 1 encS v l
theorem trow_one (w : World) (B : Nat) (s : ByteArray) (hB : B ≤ w.heap.size) : TRow (w.alloc (.cells #[.string s] 9)) B (.slice (some ⟨w.heap.size, 0, none⟩) 1 1) [s] :=
  ⟨rfl, Or.inr ⟨w.heap.size, 1, #[.string s], rfl, hB, heap_alloc_new _ _, Nat.le_refl _, by unfold maxLen; omega, rfl, rfl⟩⟩
theorem many_fd {K : Int} {es : List Ent} (hK : 0 ≤ K) (h : manyB K es = true) : ∃ i x, fdS es = some i ∧ es[i]? = some x ∧ dcB x = true := by
  cases hf : fdS es with
  | some i => obtain ⟨x, h1, h2, _⟩ := fd_some hf; exact ⟨i, x, rfl, h1, h2⟩
  | none =>
    have hz : nDc es = 0 := by
      unfold nDc
      rw [List.countP_eq_zero]
      intro x hx
      obtain ⟨j, hj, rfl⟩ := List.getElem_of_mem hx
      rw [fd_none hf j _ (List.getElem?_eq_getElem hj)]
      decide
    unfold manyB at h
    rw [hz] at h
    simp at h
    omega
/-- What shed tells and leaves. -/
def ShdQ (w : World) (B sb M : Nat) (v : Value) (K R : Int) (es : List Ent) (r : Ending) (w' : World) : Prop :=
  ∃ u, r = .returned u ∧ TRow w' w.heap.size u (goneS K es) ∧ ShfQ w B sb M v K R (shedS K es) w'
section
variable {w w' : World} {B sb M : Nat} {v : Value} {K R : Int} {es : List Ent}
set_option maxRecDepth 100000 in
set_option maxHeartbeats 2000000 in
theorem shed_any (h : Shf w B sb M v K R es) (hK : 0 ≤ K ∧ K ≤ 64) : Calls Tryz.prog 62 #[.pointer (some ⟨sb, 0, none⟩)] w (ShdQ w B sb M v K R es) := by
  have hmn := many_any h hK
  cases hm : manyB K es with
  | false =>
    rw [hm] at hmn
    have HZ : Hid (∀ m, ShdQ w B sb M v K R es (.returned (.slice none 0 0)) (w.drewN m)) := fun m => by
      refine ⟨_, rfl, ?_, v, ?_, (Off.refl _ _).drewN m, fun q hq => Or.inl hq⟩
      · unfold goneS; rw [hm]; exact ERow.nil _ _ _ _ _
      · unfold shedS; rw [hm]; exact h.below (below_drewN (Below.refl _ _) m)
    clear hm h
    go_enter Tryz.func62, Tryz.ntmps62
    go_wp2_with fail
    refine hmn.mono ?_
    rintro _ w1 ⟨rfl, m, rfl⟩
    clear hmn
    go_wp2_with fail
    go_ret
    exact HZ.out m
  | true =>
    rw [hm] at hmn
    obtain ⟨i, x, hfd, hx, hd⟩ := many_fd hK.1 hm
    have hil := (List.getElem?_eq_some_iff.1 hx).1
    have hfI : fdI es = i := by unfold fdI; rw [hfd]
    have HZ : Hid (∀ w4, ShfQ w B sb M v K R (es.eraseIdx i) w4 → ShdQ w B sb M v K R es (.returned (.slice (some ⟨w4.heap.size, 0, none⟩) 1 1)) (w4.alloc (.cells #[.string x.ct] 9))) := fun w4 h4 => by
      refine ⟨_, rfl, ?_, ?_⟩
      · unfold goneS
        rw [hm, hfd]
        simp only [if_true]
        rw [List.getD_eq_getElem?_getD, hx]
        exact trow_one _ _ _ (by obtain ⟨_, _, h2, _⟩ := h4; exact h2.size)
      · unfold shedS
        rw [hm, hfd]
        exact h4.then_below ((Below.refl _ _).alloc (Nat.le_refl _) _)
    have HS : Hid (Shf w B sb M v K R es) := h
    have HX : Hid (es[i]? = some x ∧ dcB x = true ∧ fdI es = i) := ⟨hx, hd, hfI⟩
    obtain ⟨n, hn⟩ : ∃ n, es.length = n := ⟨_, rfl⟩
    have HN : Hid (es.length = n) := hn
    have q1 : (i : Int) < n := by omega
    have hn6 : n ≤ 1000000 := by rw [← hn]; exact h.len
    clear hm h hfd hx hd hil hfI hn
    go_enter Tryz.func62, Tryz.ntmps62
    go_wp2_with fail
    refine hmn.mono ?_
    rintro _ w1 ⟨rfl, m, hw1⟩
    have HB1 : Hid (Below w.heap.size w w1) := by unfold Hid; rw [hw1]; exact below_drewN (Below.refl _ _) m
    clear hmn hw1
    have hfs := first_any (HS.out.below HB1.out)
    rw [HX.out.2.2] at hfs
    go_wp2_with fail
    refine hfs.mono ?_
    rintro _ w2 ⟨rfl, hb2⟩
    have HB2 : Hid (Below w.heap.size w w2) := below_then HB1.out hb2
    have HS2 : Hid (Shf w2 B sb M v K R es) := HS.out.below HB2.out
    clear hfs hb2
    obtain ⟨a, c, hv, _⟩ := HS2.out.row.isSlice
    have k2 := HS2.out.cells.2.2.1
    have hrow := HS2.out.row
    rw [hv, HN.out] at k2 hrow
    obtain ⟨g, rfl, hg, hc⟩ := nrow_cells hrow HX.out.1
    have d0 := hc.c0
    have hrm := remove_any HS2.out HX.out.1 HX.out.2.1
    clear hv hrow hc
    go_wp2_with fail
    refine hrm.mono ?_
    rintro _ w4 ⟨rfl, h4⟩
    have H4 : Hid (ShfQ w B sb M v K R (es.eraseIdx i) w4) := h4.of_below HB2.out
    clear hrm h4 k2 d0 hg
    go_wp2_with fail
    go_ret
    exact HZ.out w4 H4.out
/-- An entry with a verdict. -/
abbrev Ent.vd (x : Ent) (cd : ByteArray) (p : Option Addr) (n c : Nat) (bs : List Int) : Ent := { x with cd := cd, ap := p, an := n, ac := c, ax := bs }
theorem flat_vd (cd : ByteArray) (p : Option Addr) (n c : Nat) (bs : List Int) : ∀ (es : List Ent) (i : Nat) (x : Ent), es[i]? = some x → setAll (es.flatMap encE) (i * 7 + 5) [.string cd, .slice p n c] = (es.set i (x.vd cd p n c bs)).flatMap encE
  | [], i, x, h => by simp at h
  | y :: r, 0, x, h => by
    simp only [List.getElem?_cons_zero, Option.some.injEq] at h
    subst h
    rw [List.flatMap_cons, List.set_cons_zero, List.flatMap_cons]
    simp [encE, setAll]
  | y :: r, i + 1, x, h => by
    rw [List.getElem?_cons_succ] at h
    rw [List.flatMap_cons, List.set_cons_succ, List.flatMap_cons, show (i + 1) * 7 + 5 = (encE y).length + (i * 7 + 5) by rw [encE_len]; omega, setAll_app, flat_vd cd p n c bs r i x h]
theorem fi_set {es : List Ent} {i : Nat} {x y : Ent} (hx : es[i]? = some x) (hy : y.ct = x.ct) (s : ByteArray) : fi s (es.set i y) = fi s es := by
  have hl := (List.getElem?_eq_some_iff.1 hx).1
  have key : ∀ (j : Nat) (m' : Ent), (es.set i y)[j]? = some m' → ∃ m : Ent, es[j]? = some m ∧ m.ct = m'.ct := fun j m' hm => by
    by_cases hij : i = j
    · subst hij
      rw [List.getElem?_set_self hl] at hm
      cases hm
      exact ⟨x, hx, hy.symm⟩
    · rw [List.getElem?_set_ne hij] at hm
      exact ⟨m', hm, rfl⟩
  cases hf : fi s es with
  | none =>
    refine fi_no fun j m' hm => ?_
    obtain ⟨m, h1, h2⟩ := key j m' hm
    rw [← h2]
    exact fi_none hf j m h1
  | some j =>
    obtain ⟨m, h1, h2, h3⟩ := fi_some hf
    have hj := (List.getElem?_eq_some_iff.1 h1).1
    obtain ⟨m', hm'⟩ : ∃ m', (es.set i y)[j]? = some m' := ⟨_, List.getElem?_eq_getElem (by rw [List.length_set]; exact hj)⟩
    obtain ⟨m2, g1, g2⟩ := key j m' hm'
    rw [h1] at g1
    cases g1
    refine fi_of hm' (by rw [← g2]; exact h2) fun j' m'' hj' hm'' => ?_
    obtain ⟨m3, g1, g2⟩ := key j' m'' hm''
    rw [← g2]
    exact h3 j' m3 hj' g1
theorem nOp_set {es : List Ent} {i : Nat} {x y : Ent} (hx : es[i]? = some x) (ho : opB x = true) (hd : opB y = false) : nOp (es.set i y) + 1 = nOp es := by
  obtain ⟨hi, rfl⟩ := List.getElem?_eq_some_iff.1 hx
  unfold nOp
  have e1 : es = es.take i ++ (es[i] :: es.drop (i + 1)) := by rw [List.getElem_cons_drop, List.take_append_drop]
  conv => rhs; rw [e1, List.countP_append, List.countP_cons, ho]
  rw [List.set_eq_take_append_cons_drop, if_pos hi, List.countP_append, List.countP_cons, hd]
  simp
  omega
theorem may_vd {x : Ent} (h : mayB x = true) {cd : ByteArray} (p : Option Addr) {n : Nat} (c : Nat) (bs : List Int) (hv : vdB cd = true) (hn : n ≤ 2048) : mayB (x.vd cd p n c bs) = true ∧ opB (x.vd cd p n c bs) = false := by
  have hne : cd.toList.isEmpty = false := by
    cases he : cd.toList with
    | nil => unfold vdB at hv; rw [he] at hv; simp at hv
    | cons a r => rfl
  refine ⟨?_, hne⟩
  obtain ⟨h0, h1, h2, h3, h4, h5, h6, h7, h8⟩ := mayB_is h
  refine mayB_all fun i hi => ?_
  rcases (by omega : i = 0 ∨ i = 1 ∨ i = 2 ∨ i = 3 ∨ i = 4 ∨ i = 5 ∨ i = 6 ∨ i = 7) with rfl | rfl | rfl | rfl | rfl | rfl | rfl | rfl <;> simp [ruB, *]
set_option maxRecDepth 100000 in
set_option maxHeartbeats 4000000 in
theorem sdecide_any (h : Shf w B sb M v K R es) {at_ : Nat} {x : Ent} (hx : es[at_]? = some x) (ho : opB x = true) {cd : ByteArray} {p : Option Addr} {n c : Nat} {bs : List Int} (hv : vdB cd = true) (hn : n ≤ 2048) :
    Calls Tryz.prog 60 #[.pointer (some ⟨sb, 0, none⟩), .int .i64 (at_ : Int), .string cd, .slice p n c] w fun r w' => r = .returned (.tuple #[]) ∧ ShfQ w B sb M v K R (es.set at_ (x.vd cd p n c bs)) w' := by
  obtain ⟨a, cc, hvv, _⟩ := h.row.isSlice
  have hil := (List.getElem?_eq_some_iff.1 hx).1
  obtain ⟨m, hm⟩ : ∃ m, es.length = m := ⟨_, rfl⟩
  have hm6 : m ≤ 1000000 := by rw [← hm]; exact h.len
  rw [hm] at hvv hil
  subst hvv
  obtain ⟨g, rfl, hg, hc⟩ := nrow_cells h.row hx
  have hgs := (h.neL (g := g) rfl).1
  have hgs' : ¬ sb = g := fun e => hgs e.symm
  have d5 := hc.c5
  have d6 := hc.c6
  have fz := h.row.thaw
  have k2 := h.cells.2.2.1
  have k4 := h.cells.2.2.2.2
  have lsb := h.lt
  have f4 := hfroz h.blk 4
  have hmv := may_vd (h.ok x (List.mem_of_getElem? hx)) p c bs hv hn
  have hnn := nOp_set hx ho hmv.2
  have HZ : Hid (ShfQ w B sb M (.slice (some ⟨g, 0, none⟩) m cc) K R (es.set at_ (x.vd cd p n c bs)) ((((w.setCell ⟨g, at_ * 7 + 5, none⟩ (.string cd)).setCell ⟨g, at_ * 7 + 6, none⟩ (.slice p n c)).drew).setCell ⟨sb, 4, none⟩ (.int .i64 ((nOp es : Int) - 1)))) := by
    have o1 : Off (fun q => q = g) w (((w.setCell ⟨g, at_ * 7 + 5, none⟩ (.string cd)).setCell ⟨g, at_ * 7 + 6, none⟩ (.slice p n c)).drew) := (Off.setCell (P := fun q => q = g) (Off.setCell (P := fun q => q = g) (Off.refl _ _) (p := ⟨g, at_ * 7 + 5, none⟩) rfl _) (p := ⟨g, at_ * 7 + 6, none⟩) rfl _).drew
    have hrow : NRow (((w.setCell ⟨g, at_ * 7 + 5, none⟩ (.string cd)).setCell ⟨g, at_ * 7 + 6, none⟩ (.slice p n c)).drew) B (.slice (some ⟨g, 0, none⟩) m cc) (es.set at_ (x.vd cd p n c bs)) := by
      refine ERow.off (P := fun _ => False) (w := (w.setCell ⟨g, at_ * 7 + 5, none⟩ (.string cd)).setCell ⟨g, at_ * 7 + 6, none⟩ (.slice p n c)) ?_ (Off.refl _ _).drew (fun _ _ => id)
      have hown : w.ownsRow B 29 7 (.slice (some ⟨g, 0, none⟩) m cc) m (es.flatMap encE) := by have := h.row; unfold NRow ERow at this; rw [hm] at this; exact this
      have := own_setCells [.string cd, .slice p n c] (at_ * 7 + 5) w _ hown
      rw [flat_vd cd p n c bs es at_ x hx] at this
      unfold ERow
      rw [List.length_set, hm]
      exact this
    generalize ((w.setCell ⟨g, at_ * 7 + 5, none⟩ (.string cd)).setCell ⟨g, at_ * 7 + 6, none⟩ (.slice p n c)).drew = W1 at o1 hrow
    have b1 := (o1.block sb lsb hgs').trans h.blk
    have o2 : Off (fun q => q = sb) W1 (W1.setCell ⟨sb, 4, none⟩ (.int .i64 ((nOp es : Int) - 1))) := Off.setCell (P := fun q => q = sb) (Off.refl _ _) (p := ⟨sb, 4, none⟩) rfl _
    refine ⟨.slice (some ⟨g, 0, none⟩) m cc, ⟨?_, ?_, ?_, h.dis.set hx rfl, by rw [List.length_set, hm]; exact hm6, ?_⟩, (o1.mono fun q e => Or.inr (Or.inr (by rw [e]; rfl))).trans (o2.mono fun q e => Or.inl e), fun q hq => Or.inl hq⟩
    · have := set_heap b1 4 (.int .i64 ((nOp es : Int) - 1))
      rw [show ((nOp (es.set at_ (x.vd cd p n c bs)) : Nat) : Int) = (nOp es : Int) - 1 by omega]
      exact this
    · exact hrow.off o2 fun q hq e => by
        simp only [Value.ownBlock, Option.some.injEq] at hq
        exact hgs (hq.trans e)
    · rw [List.length_set, show (fun s => fi s (es.set at_ (x.vd cd p n c bs))) = fun s => fi s es from funext fun s => fi_set (y := x.vd cd p n c bs) hx rfl s]
      exact (h.map.off o1 fun e => (h.neL (g := g) rfl).2 e.symm).off o2 fun e => h.neM e.symm
    · intro y hy
      rcases List.mem_or_eq_of_mem_set hy with g1 | rfl
      · exact h.ok y g1
      · exact hmv.1
  obtain ⟨no, hno⟩ : ∃ no : Int, (nOp es : Int) = no := ⟨_, rfl⟩
  have hnr : 1 ≤ no ∧ no ≤ 1000000 := by have := nOp_le es; omega
  have q1 : IntKind.i64.wrap (no - 1) = no - 1 := by rw [IntKind.wrap_i64]; omega
  rw [hno] at HZ k4
  have q2 : (at_ : Int) < m := by omega
  clear h hx ho hm hc hmv hnn hno hnr hg hv
  go_enter Tryz.func60, Tryz.ntmps60
  go_wp2_with fail
  go_region_law (fail)
  all_goals
    go_wp2_with fail
    go_end0
    exact ⟨rfl, HZ.out⟩
end
end Go.Proofs.YtplhdgijjckjcaaGreatDoor
