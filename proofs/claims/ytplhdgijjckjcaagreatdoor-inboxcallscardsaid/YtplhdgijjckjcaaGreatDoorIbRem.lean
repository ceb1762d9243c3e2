/-
  remove, shed of the shelf.
-/
import Derived.Test.YtplhdgijjckjcaaGreatDoorIbDel
namespace Go.Proofs.YtplhdgijjckjcaaGreatDoor
open Go.RowKit

theorem keyS_of {e : Ent} (h : mayB e = true) : KeyS e.ct := by
  have := (mayB_is h).1
  simp only [ctB, Bool.and_eq_true, decide_eq_true_eq] at this
  unfold KeyS maxLen
  omega
theorem nOp_erase {es : List Ent} {i : Nat} {x : Ent} (hx : es[i]? = some x) (hd : dcB x = true) : nOp (es.eraseIdx i) = nOp es := by
  obtain ⟨hi, rfl⟩ := List.getElem?_eq_some_iff.1 hx
  unfold nOp
  have e1 : es = es.take i ++ (es[i] :: es.drop (i + 1)) := by rw [List.getElem_cons_drop, List.take_append_drop]
  have ho : opB es[i] = false := by unfold opB; unfold dcB at hd; simpa using hd
  rw [List.eraseIdx_eq_take_drop_succ, List.countP_append]
  conv => rhs; rw [e1, List.countP_append, List.countP_cons, ho]
  simp
/-- While the places are numbered anew. -/
structure RmI (w : World) (B sb M : Nat) (v : Value) (K R : Int) (g k c : Nat) (no : Int) (es' : List Ent) (i : Nat) (wx : World) : Prop where
  blk : wx.heap[sb]? = some (.cells #[.int .i64 K, .int .i64 R, .slice (some ⟨g, 0, none⟩) k c, .map (some M), .int .i64 no] 95 (0, 0))
  row : NRow wx B (.slice (some ⟨g, 0, none⟩) k c) es'
  map : MapF wx M (gI es' i) es'.length
  off : Off (Ft sb M v) w wx
section
variable {w w' : World} {B sb M : Nat} {v : Value} {K R : Int} {es : List Ent}
set_option maxRecDepth 100000 in
set_option maxHeartbeats 4000000 in
theorem remove_any (h : Shf w B sb M v K R es) {at_ : Nat} {x : Ent} (hx : es[at_]? = some x) (hd : dcB x = true) :
    Calls Tryz.prog 74 #[.pointer (some ⟨sb, 0, none⟩), .int .i64 (at_ : Int)] w fun r w' => r = .returned (.tuple #[]) ∧ ShfQ w B sb M v K R (es.eraseIdx at_) w' := by
  obtain ⟨a, c, hv, _⟩ := h.row.isSlice
  have hil := (List.getElem?_eq_some_iff.1 hx).1
  obtain ⟨k, hk⟩ : ∃ k, es.length = k + 1 := ⟨es.length - 1, by omega⟩
  have hk6 : k < 1000000 := by have := h.len; omega
  have hrow : NRow w B (.slice a (k + 1) c) es := by rw [← hk, ← hv]; exact h.row
  obtain ⟨g, rfl, hg, hc⟩ := nrow_cells hrow hx
  have hgs : g ≠ sb ∧ g ≠ M := h.neL (by rw [hv]; rfl)
  have hsM := h.neM
  have hno := nOp_erase hx hd
  have hmx := h.ok x (List.mem_of_getElem? hx)
  have d0 := hc.c0
  have k2 : w.cell? ⟨sb, 2, none⟩ = some (.slice (some ⟨g, 0, none⟩) (k + 1) c) := by rw [← hk, ← hv]; exact h.cells.2.2.1
  have k3 := h.cells.2.2.2.1
  have lsb := h.lt
  obtain ⟨W1, hdr, hm1, o1⟩ := (h.below (Below.drew (Below.refl _ _))).map.drop (w := w.drew) (keyS_of hmx) 0
  have o1' : Off (fun q => q = M) w W1 := (Off.refl _ _).drew.trans o1
  have hm1' : MapF W1 M (gI (es.eraseIdx at_) at_) (es.eraseIdx at_).length := by
    have e1 : updF (fun s => fi s es) x.ct none = gI (es.eraseIdx at_) at_ := by
      funext s
      rw [gI_start h.dis hx s]
      rfl
    have e2 : es.length - (if ((fun s => fi s es) x.ct).isSome = true then 1 else 0) = (es.eraseIdx at_).length := by
      simp only [h.dis.fi hx, Option.isSome_some, List.length_eraseIdx, hil, if_pos]
    rw [e1, e2] at hm1
    exact hm1
  have hrow1 : NRow W1 B (.slice (some ⟨g, 0, none⟩) (k + 1) c) es := hrow.off o1' fun q hq e => by
    simp only [Value.ownBlock, Option.some.injEq] at hq
    exact hgs.2 (hq.trans e)
  have hblk1 := (o1'.block sb lsb hsM).trans h.blk
  have k2' : W1.cell? ⟨sb, 2, none⟩ = some (.slice (some ⟨g, 0, none⟩) (k + 1) c) := by rw [hcell hblk1 2, ← hk, ← hv]; rfl
  have k3' : W1.cell? ⟨sb, 3, none⟩ = some (.map (some M)) := hcell hblk1 3
  have d0' : W1.cell? ⟨g, at_ * 7, none⟩ = some (.string x.ct) := by rw [o1'.cell (p := ⟨g, at_ * 7, none⟩) hg hgs.2]; exact d0
  have hdl := delete_any (i := at_) hrow1 (by omega) hk6
  have HI : Hid (∀ W2, NRow W2 B (.slice (some ⟨g, 0, none⟩) k c) (es.eraseIdx at_) → Off (fun q => q = g) W1 W2 → RmI w B sb M v K R g k c (nOp (es.eraseIdx at_)) (es.eraseIdx at_) at_ (W2.setCell ⟨sb, 2, none⟩ (.slice (some ⟨g, 0, none⟩) k c)) ∧ W2.cell? ⟨sb, 2, none⟩ = some (.slice (some ⟨g, 0, none⟩) (k + 1) c) ∧ W2.frozen? ⟨sb, 2, none⟩ = false) := fun W2 r2 o2 => by
    have b2 := (o2.block sb (blk_lt hblk1) (fun e => hgs.1 e.symm)).trans hblk1
    have o4 : Off (fun q => q = sb) W2 (W2.setCell ⟨sb, 2, none⟩ (.slice (some ⟨g, 0, none⟩) k c)) := Off.setCell (P := fun q => q = sb) (Off.refl _ _) (p := ⟨sb, 2, none⟩) rfl _
    refine ⟨⟨?_, ?_, ?_, ?_⟩, ?_, hfroz b2 2⟩
    · rw [hno]
      exact set_heap b2 2 _
    · exact r2.off o4 fun q hq e => by
        simp only [Value.ownBlock, Option.some.injEq] at hq
        exact hgs.1 (hq.trans e)
    · exact (hm1'.off o2 fun e => hgs.2 e.symm).off o4 fun e => hsM e.symm
    · exact ((o1'.mono fun q e => Or.inr (Or.inl e)).trans (o2.mono fun q e => Or.inr (Or.inr (by rw [hv, e]; rfl)))).trans (o4.mono fun q e => Or.inl e)
    · rw [hcell b2 2, ← hk, ← hv]; rfl
  have HD : Hid (Dis (es.eraseIdx at_) ∧ (∀ y ∈ es.eraseIdx at_, mayB y = true)) := ⟨h.dis.erase _, fun y hy => h.ok y (List.mem_of_mem_eraseIdx hy)⟩
  have HN : Hid ((es.eraseIdx at_).length = k ∧ at_ ≤ k) := ⟨by rw [List.length_eraseIdx, if_pos hil, hk, Nat.add_sub_cancel], by omega⟩
  have hat : at_ ≤ k := HN.out.2
  have HM : Hid (M < w.heap.size ∧ v = .slice (some ⟨g, 0, none⟩) (k + 1) c) := ⟨h.map.lt, by rw [hv, hk]⟩
  obtain ⟨es', hes⟩ : ∃ es', es.eraseIdx at_ = es' := ⟨_, rfl⟩
  obtain ⟨no, hnoo⟩ : ∃ no : Int, (nOp es' : Int) = no := ⟨_, rfl⟩
  have HNO : Hid ((nOp es' : Int) = no) := hnoo
  rw [hes] at HI HD HN hdl ⊢
  rw [hnoo] at HI
  have q0 : (at_ : Int) < ((k + 1 : Nat) : Int) := by omega
  have q0a : (at_ : Int) < (k : Int) + 1 := by omega
  have q0b : at_ < k + 1 := by omega
  have q0c : (at_ : Int) ≤ k := by omega
  have q1 : IntKind.i64.wrap ((at_ : Int) + 1) = (at_ : Int) + 1 := by rw [IntKind.wrap_i64]; omega
  clear h hx hd hil hk hrow hc hno hmx hm1 hm1' o1 o1' hrow1 hblk1 hes hnoo hv
  go_enter Tryz.func74, Tryz.ntmps74
  go_wp2_with fail
  go_region_held3 (fun z => z.cell? ⟨sb, 3, none⟩ = some (.map (some M)) ∧ z.cell? ⟨sb, 2, none⟩ = some (.slice (some ⟨g, 0, none⟩) (k + 1) c) ∧ z.cell? ⟨g, at_ * 7, none⟩ = some (.string x.ct)) (simp [*]) (first | (refine step_del_run rfl (.tmp 8) (.tmp 16) 93 9 rfl rfl rfl hdr ?_))
  clear hdr k2 k3 d0
  go_wp2_with fail
  refine hdl.mono ?_
  rintro _ w2 ⟨rfl, hr2, ho2⟩
  obtain ⟨hI, e2, f2⟩ := HI.out w2 hr2 ho2
  have H2 : Hid (RmI w B sb M v K R g k c no es' at_ (w2.setCell ⟨sb, 2, none⟩ (.slice (some ⟨g, 0, none⟩) k c))) := hI
  clear hdl hr2 ho2 hI HI k2' k3' d0' lsb hg q0 q0a q0b q0c
  go_wp2_with fail
  clear e2 f2
  go_loopw [4] (fun t4 wx => ∃ i : Nat, at_ ≤ i ∧ i ≤ k ∧ t4 = .int .i64 i ∧ Hid (RmI w B sb M v K R g k c no es' i wx)) (fun t4 _ => k - (intOf t4).toNat)
  case atStart => exact ⟨at_, Nat.le_refl _, hat, rfl, H2⟩
  case round =>
    obtain ⟨i, hai, hi, rfl, HR⟩ := hrel
    have k2 := hcell HR.out.blk 2
    have k3 := hcell HR.out.blk 3
    by_cases hlt : i < k
    · have hlt1 : (i : Int) < k := by omega
      obtain ⟨y, hy⟩ : ∃ y, es'[i]? = some y := ⟨_, List.getElem?_eq_getElem (by rw [HN.out.1]; exact hlt)⟩
      obtain ⟨g', eg, hg', hc'⟩ := nrow_cells HR.out.row hy
      obtain rfl : g = g' := by simpa using eg
      have e0 := hc'.c0
      have hky := keyS_of (HD.out.2 y (List.mem_of_getElem? hy))
      obtain ⟨W4, hst, hm4, o4⟩ := (HR.out.map.below (Below.drew (Below.refl _ _))).store (w := wr.drew) (by rw [HN.out.1]; omega) hky i
      have o4' : Off (fun q => q = M) wr W4 := (Off.refl _ _).drew.trans o4
      have lsb := blk_lt HR.out.blk
      have HI : Hid (RmI w B sb M v K R g k c no es' (i + 1) W4) := by
        refine ⟨(o4'.block sb lsb hsM).trans HR.out.blk, HR.out.row.off o4' fun q hq e => ?_, ?_, HR.out.off.trans (o4'.mono fun q e => Or.inr (Or.inl e))⟩
        · simp only [Value.ownBlock, Option.some.injEq] at hq
          exact hgs.2 (hq.trans e)
        · have e1 : updF (gI es' i) y.ct (some i) = gI es' (i + 1) := by
            funext s
            rw [gI_step HD.out.1 hy s]
            rfl
          have e2 : es'.length + (if (gI es' i y.ct).isSome = true then 0 else 1) = es'.length := by
            have : gI es' i y.ct = some (i + 1) := by unfold gI; rw [HD.out.1.fi hy]; simp
            rw [this]; rfl
          rw [e1, e2] at hm4
          exact hm4
      have k2' : W4.cell? ⟨sb, 2, none⟩ = _ := hcell HI.out.blk 2
      have k3' : W4.cell? ⟨sb, 3, none⟩ = _ := hcell HI.out.blk 3
      have e0' : W4.cell? ⟨g, i * 7, none⟩ = some (.string y.ct) := by rw [o4'.cell (p := ⟨g, i * 7, none⟩) hg' hgs.2]; exact e0
      clear hy eg hc' hky hm4 o4 o4' lsb hg' HR
      simp only [List.getElem?_toArray, List.getElem?_cons_succ, List.getElem?_cons_zero] at k2 k3 k2' k3'
      go_wp2_with fail
      go_region_held3 (fun z => z.cell? ⟨sb, 3, none⟩ = some (.map (some M)) ∧ z.cell? ⟨sb, 2, none⟩ = some (.slice (some ⟨g, 0, none⟩) k c) ∧ z.cell? ⟨g, i * 7, none⟩ = some (.string y.ct)) (simp [*]) (first | (refine step_upd_run rfl (.tmp 41) (.tmp 49) (.tmp 50) 93 rfl rfl rfl rfl hst ?_))
      clear hst k2 k3 e0 k2' k3' e0'
      go_wp2_with fail
      go_roundw
      case rel => exact ⟨i + 1, by omega, hlt, by go_num, HI⟩
      case measure => simp [intOf]; omega
    · have hlt1 : ¬ (i : Int) < k := by omega
      have hik : i = k := by omega
      have HZ : Hid (ShfQ w B sb M v K R es' wr) := by
        refine ⟨.slice (some ⟨g, 0, none⟩) k c, ⟨by rw [HNO.out]; exact HR.out.blk, HR.out.row, ?_, HD.out.1, by rw [HN.out.1]; omega, HD.out.2⟩, HR.out.off, fun q hq => Or.inl (by rw [HM.out.2]; exact hq)⟩
        have := HR.out.map
        rw [hik, ← HN.out.1, gI_end] at this
        exact this
      clear hik HR
      go_wp2_with fail
      go_end0
      exact ⟨rfl, HZ.out⟩
end
end Go.Proofs.YtplhdgijjckjcaaGreatDoor
