import Derived.Test.YtjbkfppibnlmoaaGreatDoorIbPut
/-
  remove: slices.Delete of one entry.
-/
namespace Go.Proofs.YtjbkfppibnlmoaaGreatDoor
open Go.RowKit

def zEs : List Value := [.string ⟨#[]⟩, .slice none 0 0, .int .i64 0, .int .i64 0, .slice none 0 0, .string ⟨#[]⟩, .slice none 0 0]
theorem zEs_one : ∀ v ∈ zEs, v.oneCell' = true := fun u hu => by
  simp only [zEs, List.mem_cons, List.not_mem_nil, or_false] at hu
  rcases hu with rfl | rfl | rfl | rfl | rfl | rfl | rfl <;> rfl
theorem zeroEs : (Builtin.zeroCells (Value.agg zEs.toArray).cells 1).toList = zEs := by kernel_rfl
/-- What the append and the clear of Delete do. -/
theorem del_runs {w : World} {B g k c i : Nat} {ms : List Ent} (h : ERow w B 30 7 encE (.slice (some ⟨g, 0, none⟩) (k + 1) c) ms) (hi : i ≤ k) (a' : Addr) (ha : i < k → a' = ⟨g, (i + 1) * 7, none⟩) :
    ∃ w1 w2, (∀ cc, (Builtin.append_ #[22, 22] 22 #[.slice (some ⟨g, 0, none⟩) i c, .slice (some a') (k - i) cc]).run Tryz.prog w.drew = .ok (.slice (some ⟨g, 0, none⟩) k c) w1) ∧
      (∀ cc, (Builtin.clear_ #[22] 0 #[.slice (some ⟨g, k * 7, none⟩) 1 cc]).run Tryz.prog w1 = .ok (.tuple #[]) w2) ∧ ERow w2 B 30 7 encE (.slice (some ⟨g, 0, none⟩) k c) (ms.eraseIdx i) ∧ Off (fun q => q = g) w w2 := by
  obtain ⟨inf, z, hinf, hz, hzs, hs, hby⟩ := celE
  have hlen : ms.length = k + 1 := h.len.symm
  have hd : w.drew.ownsRow B 30 7 (.slice (some ⟨g, 0, none⟩) (k + 1) c) (k + 1) (ms.flatMap encE) := by
    have := h.off (P := fun _ => False) (Off.refl _ _).drew (fun _ _ => id)
    unfold ERow at this; rw [hlen] at this; exact this
  have hc : k + 1 ≤ c := by
    rcases h.form with ⟨e, _⟩ | ⟨g', cap, e, _, _, h1, _⟩
    · cases e
    · simp only [Value.slice.injEq] at e; omega
  have hl : ((ms.drop (i + 1)).flatMap encE).length = (k - i) * 7 := by rw [flat_len encE_len, List.length_drop, hlen, show k + 1 - (i + 1) = k - i by omega]
  have o1 := own_setCells (g := g) ((ms.drop (i + 1)).flatMap encE) (i * 7) w.drew _ hd
  have o2 := own_setCells (g := g) zEs (k * 7) _ _ o1
  refine ⟨w.drew.setCells g (i * 7) ((ms.drop (i + 1)).flatMap encE), (w.drew.setCells g (i * 7) ((ms.drop (i + 1)).flatMap encE)).setCells g (k * 7) zEs, fun cc => ?_, fun cc => ?_, ?_, ?_⟩
  · have hr := run_append_room_cells (P := Tryz.prog) w.drew 22 22 30 inf Tryz.underlying22 hinf g 0 i c a' (k - i) cc ((ms.drop (i + 1)).flatMap encE) (by rw [hs]; exact hl) (fun j u hu => by
      have hj := (List.getElem?_eq_some_iff.1 hu).1
      rw [hl] at hj
      have hik : i < k := by omega
      rw [ha hik, Addr.add_lit]
      have e1 : ms.flatMap encE = (ms.take (i + 1)).flatMap encE ++ (ms.drop (i + 1)).flatMap encE := by rw [← List.flatMap_append, List.take_append_drop]
      have l1 : ((ms.take (i + 1)).flatMap encE).length = (i + 1) * 7 := by rw [flat_len encE_len, List.length_take, hlen, show min (i + 1) (k + 1) = i + 1 by omega]
      have hcl := World.ownsRow.cells hd (g := g) rfl ((i + 1) * 7 + j) u (by rw [e1, List.getElem?_append_right (by omega), l1, Nat.add_sub_cancel_left]; exact hu)
      rwa [Addr.add_lit, Nat.zero_add] at hcl) (fun u hu => by
      obtain ⟨x, _, hx⟩ := List.mem_flatMap.1 hu
      exact encE_one x u hx) (by omega) (fun j hj => by
      rw [hl] at hj
      rw [hs, Nat.zero_add]
      exact (own_there hd (o := i * 7) (k := (k - i) * 7) (by omega) j hj).1) (fun j hj => by
      rw [hl] at hj
      rw [hs, Nat.zero_add]
      exact (own_there hd (o := i * 7) (k := (k - i) * 7) (by omega) j hj).2)
    rw [hs, Nat.zero_add, show i + (k - i) = k by omega] at hr
    exact hr
  · exact run_clear_one _ _ _ _ (.agg zEs.toArray) Tryz.underlying22 Tryz.zeroValue30 zEs zeroEs zEs_one g (k * 7) cc (own_there o1 (by show k * 7 + 7 ≤ (k + 1) * 7; omega))
  · have o3 := own_prefix o2 (m := k) (by omega)
    rw [setAll_take _ _ _ _ (Nat.le_refl _)] at o3
    have he := erase_flat encE_len (ms := ms) (i := i) (by omega)
    rw [hlen, Nat.add_sub_cancel] at he
    rw [he] at o3
    unfold ERow
    rw [List.length_eraseIdx, hlen, if_pos (by omega), Nat.add_sub_cancel]
    exact o3
  · exact Off.setCells (P := fun q => q = g) rfl _ _ _ (Off.setCells (P := fun q => q = g) rfl _ _ _ ((Off.refl _ _).drew))
set_option maxRecDepth 100000 in
set_option maxHeartbeats 2000000 in
theorem delete_any {w : World} {B g k c i : Nat} {ms : List Ent} (h : ERow w B 30 7 encE (.slice (some ⟨g, 0, none⟩) (k + 1) c) ms) (hi : i ≤ k) (hk : k < 1000000) :
    Calls Tryz.prog 101 #[.slice (some ⟨g, 0, none⟩) (k + 1) c, .int .i64 (i : Int), .int .i64 ((i : Int) + 1)] w fun e w' => e = .returned (.slice (some ⟨g, 0, none⟩) k c) ∧ ERow w' B 30 7 encE (.slice (some ⟨g, 0, none⟩) k c) (ms.eraseIdx i) ∧ Off (fun q => q = g) w w' := by
  have hc : k + 1 ≤ c ∧ c ≤ maxLen := by
    rcases h.form with ⟨e, _⟩ | ⟨g', cap, e, _, _, h1, h2⟩
    · cases e
    · simp only [Value.slice.injEq] at e; have := h.len; omega
  obtain ⟨hc1, hc2⟩ := hc
  unfold maxLen at hc2
  obtain ⟨A, hA⟩ : ∃ A : Addr, (if c = i + 1 then (⟨g, 0, none⟩ : Addr) else ⟨g, (i + 1) * 7, none⟩) = A := ⟨_, rfl⟩
  obtain ⟨w1, w2, r1, r2, hr, ho⟩ := del_runs h hi A (fun hik => by rw [← hA, if_neg (by omega)])
  have HE : Hid (ERow w2 B 30 7 encE (.slice (some ⟨g, 0, none⟩) k c) (ms.eraseIdx i) ∧ Off (fun q => q = g) w w2) := ⟨hr, ho⟩
  clear hr ho h
  have q1 : (i : Int) ≤ k := by omega
  have q2 : (i : Int) + 1 ≤ (k : Int) + 1 := by omega
  have q3 : (k : Int) + 1 ≤ c := by omega
  have q5 : ((i : Int) == (i : Int) + 1) = false := by
    rw [beq_eq_false_iff_ne]; omega
  have q6 : i ≤ c := by omega
  have q7 : i + 1 ≤ c := by omega
  have q8 : (i : Int) ≤ (i : Int) + 1 := by omega
  have q9 : (i : Int) ≤ c := by omega
  have q10 : (0 : Int) ≤ (i : Int) + 1 := by omega
  have q11 : (0 : Int) ≤ (k : Int) + 1 := by omega
  by_cases hce : c = i + 1
  · rw [if_pos hce] at hA
    subst hA
    obtain rfl : k = i := by omega
    subst hce
    rw [Nat.sub_self] at r1
    go_enter Tryz.func101, Tryz.ntmps101
    go_wp2_with fail
    go_region_law (first | (refine step_app_run rfl (.tmp 22) (.tmp 25) 22 rfl rfl rfl (r1 _) ?_))
    all_goals
      go_wp2_with (at_builtin; refine wpList_clear_run rfl (.tmp 31) 22 _ rfl (r2 _) ?_)
      go_ret
      exact ⟨rfl, HE.out.1, HE.out.2⟩
  · rw [if_neg hce] at hA
    subst hA
    go_enter Tryz.func101, Tryz.ntmps101
    go_wp2_with fail
    go_region_law (first | (refine step_app_run rfl (.tmp 22) (.tmp 25) 22 rfl rfl rfl (r1 _) ?_))
    all_goals
      go_wp2_with (at_builtin; refine wpList_clear_run rfl (.tmp 31) 22 _ rfl (r2 _) ?_)
      go_ret
      exact ⟨rfl, HE.out.1, HE.out.2⟩
end Go.Proofs.YtjbkfppibnlmoaaGreatDoor

/-
  remove, shed of the shelf.
-/
namespace Go.Proofs.YtjbkfppibnlmoaaGreatDoor
open Go.RowKit

theorem keyS_of {e : Ent} (h : mayB e = true) : KeyS e.ct := by
  have := (mayB_is h).1
  simp only [ctB, Bool.and_eq_true, decide_eq_true_eq] at this
  unfold KeyS maxLen
  omega
theorem nOp_erase {es : List Ent} {i : Nat} {x : Ent} (hx : es[i]? = some x) (hd : dcB x = true) : nOp (es.eraseIdx i) = nOp es := by
  obtain ⟨hi, rfl⟩ := List.getElem?_eq_some_iff.1 hx
  unfold nOp
  have e1 : es = es.take i ++ (es[i] :: es.drop (i + 1)) := by rw [List.getElem_cons_drop, List.take_append_drop]
  have ho : opB es[i] = false := by unfold opB; unfold dcB at hd; simpa using hd
  rw [List.eraseIdx_eq_take_drop_succ, List.countP_append]
  conv => rhs; rw [e1, List.countP_append, List.countP_cons, ho]
  simp
/-- While the places are numbered anew. -/
structure RmI (w : World) (B sb M : Nat) (v : Value) (K R : Int) (g k c : Nat) (no : Int) (es' : List Ent) (i : Nat) (wx : World) : Prop where
  blk : wx.heap[sb]? = some (.cells #[.int .i64 K, .int .i64 R, .slice (some ⟨g, 0, none⟩) k c, .map (some M), .int .i64 no] 89 (0, 0))
  row : NRow wx B (.slice (some ⟨g, 0, none⟩) k c) es'
  map : MapF wx M (gI es' i) es'.length
  off : Off (Ft sb M v) w wx
section
variable {w w' : World} {B sb M : Nat} {v : Value} {K R : Int} {es : List Ent}
set_option maxRecDepth 100000 in
set_option maxHeartbeats 4000000 in
theorem remove_any (h : Shf w B sb M v K R es) {at_ : Nat} {x : Ent} (hx : es[at_]? = some x) (hd : dcB x = true) :
    Calls Tryz.prog 90 #[.pointer (some ⟨sb, 0, none⟩), .int .i64 (at_ : Int)] w fun r w' => r = .returned (.tuple #[]) ∧ ShfQ w B sb M v K R (es.eraseIdx at_) w' := by
  obtain ⟨a, c, hv, _⟩ := h.row.isSlice
  have hil := (List.getElem?_eq_some_iff.1 hx).1
  obtain ⟨k, hk⟩ : ∃ k, es.length = k + 1 := ⟨es.length - 1, by omega⟩
  have hk6 : k < 1000000 := by have := h.len; omega
  have hrow : NRow w B (.slice a (k + 1) c) es := by rw [← hk, ← hv]; exact h.row
  obtain ⟨g, rfl, hg, hc⟩ := nrow_cells hrow hx
  have hgs : g ≠ sb ∧ g ≠ M := h.neL (by rw [hv]; rfl)
  have hsM := h.neM
  have hno := nOp_erase hx hd
  have hmx := h.ok x (List.mem_of_getElem? hx)
  have d0 := hc.c0
  have k2 : w.cell? ⟨sb, 2, none⟩ = some (.slice (some ⟨g, 0, none⟩) (k + 1) c) := by rw [← hk, ← hv]; exact h.cells.2.2.1
  have k3 := h.cells.2.2.2.1
  have lsb := h.lt
  obtain ⟨W1, hdr, hm1, o1⟩ := (h.below (Below.drew (Below.refl _ _))).map.drop (w := w.drew) (keyS_of hmx) 0
  have o1' : Off (fun q => q = M) w W1 := (Off.refl _ _).drew.trans o1
  have hm1' : MapF W1 M (gI (es.eraseIdx at_) at_) (es.eraseIdx at_).length := by
    have e1 : updF (fun s => fi s es) x.ct none = gI (es.eraseIdx at_) at_ := by
      funext s
      rw [gI_start h.dis hx s]
      rfl
    have e2 : es.length - (if ((fun s => fi s es) x.ct).isSome = true then 1 else 0) = (es.eraseIdx at_).length := by
      simp only [h.dis.fi hx, Option.isSome_some, List.length_eraseIdx, hil, if_pos]
    rw [e1, e2] at hm1
    exact hm1
  have hrow1 : NRow W1 B (.slice (some ⟨g, 0, none⟩) (k + 1) c) es := hrow.off o1' fun q hq e => by
    simp only [Value.ownBlock, Option.some.injEq] at hq
    exact hgs.2 (hq.trans e)
  have hblk1 := (o1'.block sb lsb hsM).trans h.blk
  have k2' : W1.cell? ⟨sb, 2, none⟩ = some (.slice (some ⟨g, 0, none⟩) (k + 1) c) := by rw [hcell hblk1 2, ← hk, ← hv]; rfl
  have k3' : W1.cell? ⟨sb, 3, none⟩ = some (.map (some M)) := hcell hblk1 3
  have d0' : W1.cell? ⟨g, at_ * 7, none⟩ = some (.string x.ct) := by rw [o1'.cell (p := ⟨g, at_ * 7, none⟩) hg hgs.2]; exact d0
  have hdl := delete_any (i := at_) hrow1 (by omega) hk6
  have HI : Hid (∀ W2, NRow W2 B (.slice (some ⟨g, 0, none⟩) k c) (es.eraseIdx at_) → Off (fun q => q = g) W1 W2 → RmI w B sb M v K R g k c (nOp (es.eraseIdx at_)) (es.eraseIdx at_) at_ (W2.setCell ⟨sb, 2, none⟩ (.slice (some ⟨g, 0, none⟩) k c)) ∧ W2.cell? ⟨sb, 2, none⟩ = some (.slice (some ⟨g, 0, none⟩) (k + 1) c) ∧ W2.frozen? ⟨sb, 2, none⟩ = false) := fun W2 r2 o2 => by
    have b2 := (o2.block sb (blk_lt hblk1) (fun e => hgs.1 e.symm)).trans hblk1
    have o4 : Off (fun q => q = sb) W2 (W2.setCell ⟨sb, 2, none⟩ (.slice (some ⟨g, 0, none⟩) k c)) := Off.setCell (P := fun q => q = sb) (Off.refl _ _) (p := ⟨sb, 2, none⟩) rfl _
    refine ⟨⟨?_, ?_, ?_, ?_⟩, ?_, hfroz b2 2⟩
    · rw [hno]
      exact set_heap b2 2 _
    · exact r2.off o4 fun q hq e => by
        simp only [Value.ownBlock, Option.some.injEq] at hq
        exact hgs.1 (hq.trans e)
    · exact (hm1'.off o2 fun e => hgs.2 e.symm).off o4 fun e => hsM e.symm
    · exact ((o1'.mono fun q e => Or.inr (Or.inl e)).trans (o2.mono fun q e => Or.inr (Or.inr (by rw [hv, e]; rfl)))).trans (o4.mono fun q e => Or.inl e)
    · rw [hcell b2 2, ← hk, ← hv]; rfl
  have HD : Hid (Dis (es.eraseIdx at_) ∧ (∀ y ∈ es.eraseIdx at_, mayB y = true)) := ⟨h.dis.erase _, fun y hy => h.ok y (List.mem_of_mem_eraseIdx hy)⟩
  have HN : Hid ((es.eraseIdx at_).length = k ∧ at_ ≤ k) := ⟨by rw [List.length_eraseIdx, if_pos hil, hk, Nat.add_sub_cancel], by omega⟩
  have hat : at_ ≤ k := HN.out.2
  have HM : Hid (M < w.heap.size ∧ v = .slice (some ⟨g, 0, none⟩) (k + 1) c) := ⟨h.map.lt, by rw [hv, hk]⟩
  obtain ⟨es', hes⟩ : ∃ es', es.eraseIdx at_ = es' := ⟨_, rfl⟩
  obtain ⟨no, hnoo⟩ : ∃ no : Int, (nOp es' : Int) = no := ⟨_, rfl⟩
  have HNO : Hid ((nOp es' : Int) = no) := hnoo
  rw [hes] at HI HD HN hdl ⊢
  rw [hnoo] at HI
  have q0 : (at_ : Int) < ((k + 1 : Nat) : Int) := by omega
  have q0a : (at_ : Int) < (k : Int) + 1 := by omega
  have q0b : at_ < k + 1 := by omega
  have q0c : (at_ : Int) ≤ k := by omega
  have q1 : IntKind.i64.wrap ((at_ : Int) + 1) = (at_ : Int) + 1 := by rw [IntKind.wrap_i64]; omega
  clear h hx hd hil hk hrow hc hno hmx hm1 hm1' o1 o1' hrow1 hblk1 hes hnoo hv
  go_enter Tryz.func90, Tryz.ntmps90
  go_wp2_with fail
  go_region_held3 (fun z => z.cell? ⟨sb, 3, none⟩ = some (.map (some M)) ∧ z.cell? ⟨sb, 2, none⟩ = some (.slice (some ⟨g, 0, none⟩) (k + 1) c) ∧ z.cell? ⟨g, at_ * 7, none⟩ = some (.string x.ct)) (simp [*]) (first | (refine step_del_run rfl (.tmp 8) (.tmp 16) 87 9 rfl rfl rfl hdr ?_))
  clear hdr k2 k3 d0
  go_wp2_with fail
  refine hdl.mono ?_
  rintro _ w2 ⟨rfl, hr2, ho2⟩
  obtain ⟨hI, e2, f2⟩ := HI.out w2 hr2 ho2
  have H2 : Hid (RmI w B sb M v K R g k c no es' at_ (w2.setCell ⟨sb, 2, none⟩ (.slice (some ⟨g, 0, none⟩) k c))) := hI
  clear hdl hr2 ho2 hI HI k2' k3' d0' lsb hg q0 q0a q0b q0c
  go_wp2_with fail
  clear e2 f2
  go_loopw [4] (fun t4 wx => ∃ i : Nat, at_ ≤ i ∧ i ≤ k ∧ t4 = .int .i64 i ∧ Hid (RmI w B sb M v K R g k c no es' i wx)) (fun t4 _ => k - (intOf t4).toNat)
  case atStart => exact ⟨at_, Nat.le_refl _, hat, rfl, H2⟩
  case round =>
    obtain ⟨i, hai, hi, rfl, HR⟩ := hrel
    have k2 := hcell HR.out.blk 2
    have k3 := hcell HR.out.blk 3
    by_cases hlt : i < k
    · have hlt1 : (i : Int) < k := by omega
      obtain ⟨y, hy⟩ : ∃ y, es'[i]? = some y := ⟨_, List.getElem?_eq_getElem (by rw [HN.out.1]; exact hlt)⟩
      obtain ⟨g', eg, hg', hc'⟩ := nrow_cells HR.out.row hy
      obtain rfl : g = g' := by simpa using eg
      have e0 := hc'.c0
      have hky := keyS_of (HD.out.2 y (List.mem_of_getElem? hy))
      obtain ⟨W4, hst, hm4, o4⟩ := (HR.out.map.below (Below.drew (Below.refl _ _))).store (w := wr.drew) (by rw [HN.out.1]; omega) hky i
      have o4' : Off (fun q => q = M) wr W4 := (Off.refl _ _).drew.trans o4
      have lsb := blk_lt HR.out.blk
      have HI : Hid (RmI w B sb M v K R g k c no es' (i + 1) W4) := by
        refine ⟨(o4'.block sb lsb hsM).trans HR.out.blk, HR.out.row.off o4' fun q hq e => ?_, ?_, HR.out.off.trans (o4'.mono fun q e => Or.inr (Or.inl e))⟩
        · simp only [Value.ownBlock, Option.some.injEq] at hq
          exact hgs.2 (hq.trans e)
        · have e1 : updF (gI es' i) y.ct (some i) = gI es' (i + 1) := by
            funext s
            rw [gI_step HD.out.1 hy s]
            rfl
          have e2 : es'.length + (if (gI es' i y.ct).isSome = true then 0 else 1) = es'.length := by
            have : gI es' i y.ct = some (i + 1) := by unfold gI; rw [HD.out.1.fi hy]; simp
            rw [this]; rfl
          rw [e1, e2] at hm4
          exact hm4
      have k2' : W4.cell? ⟨sb, 2, none⟩ = _ := hcell HI.out.blk 2
      have k3' : W4.cell? ⟨sb, 3, none⟩ = _ := hcell HI.out.blk 3
      have e0' : W4.cell? ⟨g, i * 7, none⟩ = some (.string y.ct) := by rw [o4'.cell (p := ⟨g, i * 7, none⟩) hg' hgs.2]; exact e0
      clear hy eg hc' hky hm4 o4 o4' lsb hg' HR
      simp only [List.getElem?_toArray, List.getElem?_cons_succ, List.getElem?_cons_zero] at k2 k3 k2' k3'
      go_wp2_with fail
      go_region_held3 (fun z => z.cell? ⟨sb, 3, none⟩ = some (.map (some M)) ∧ z.cell? ⟨sb, 2, none⟩ = some (.slice (some ⟨g, 0, none⟩) k c) ∧ z.cell? ⟨g, i * 7, none⟩ = some (.string y.ct)) (simp [*]) (first | (refine step_upd_run rfl (.tmp 41) (.tmp 49) (.tmp 50) 87 rfl rfl rfl rfl hst ?_))
      clear hst k2 k3 e0 k2' k3' e0'
      go_wp2_with fail
      go_roundw
      case rel => exact ⟨i + 1, by omega, hlt, by go_num, HI⟩
      case measure => simp [intOf]; omega
    · have hlt1 : ¬ (i : Int) < k := by omega
      have hik : i = k := by omega
      have HZ : Hid (ShfQ w B sb M v K R es' wr) := by
        refine ⟨.slice (some ⟨g, 0, none⟩) k c, ⟨by rw [HNO.out]; exact HR.out.blk, HR.out.row, ?_, HD.out.1, by rw [HN.out.1]; omega, HD.out.2⟩, HR.out.off, fun q hq => Or.inl (by rw [HM.out.2]; exact hq)⟩
        have := HR.out.map
        rw [hik, ← HN.out.1, gI_end] at this
        exact this
      clear hik HR
      go_wp2_with fail
      go_end0
      exact ⟨rfl, HZ.out⟩
end
end Go.Proofs.YtjbkfppibnlmoaaGreatDoor
