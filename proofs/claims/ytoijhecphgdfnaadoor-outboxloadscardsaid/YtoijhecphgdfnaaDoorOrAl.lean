import Derived.Test.YtoijhecphgdfnaaDoorOrTk
/-
  Held.sents.
-/
namespace Go.Proofs.YtoijhecphgdfnaaDoor
open Go.RowKit

/-- Messages copied behind an empty list. -/
theorem run_scopy {w W : World} {B m c : Nat} {a : Option Addr} {ds : List Msg} (h : ERow w B 74 10 encM (.slice a m c) ds) (hl : ds.length ≤ 1000000000) (hW : W = (w.alloc (.cells #[] 74)) ∨ W = (w.alloc (.cells #[] 74)).drew) :
    ∃ a' c' W', (Builtin.append_ #[60, 60] 60 #[.slice (some ⟨w.heap.size, 0, none⟩) 0 0, .slice a m c]).run Tryd.prog W = .ok (.slice a' m c') W' ∧ Hid (ERow W' w.heap.size 74 10 encM (.slice a' m c') ds ∧ Below w.heap.size w W') := by
  have b1 : Below w.heap.size w W := by
    rcases hW with rfl | rfl
    · exact (Below.refl _ _).alloc (Nat.le_refl _) _
    · exact ((Below.refl _ _).alloc (Nat.le_refl _) _).drew
  have hg : W.heap[w.heap.size]? = some (.cells #[] 74 (0, 0)) := by
    rcases hW with rfl | rfl
    · exact heap_alloc_new _ _
    · exact heap_alloc_new _ _
  have h0 : ERow W w.heap.size 74 10 encM (.slice (some ⟨w.heap.size, 0, none⟩) 0 0) [] := ⟨rfl, Or.inr ⟨w.heap.size, 0, #[], rfl, Nat.le_refl _, hg, Nat.le_refl _, Nat.zero_le _, rfl, rfl⟩⟩
  have hm : m = ds.length := ERow.len h
  have hc := ERow.below h b1
  obtain ⟨a', c', W', h1, r1, o1, _⟩ := run_eapp (P := Tryd.prog) (t := 60) (c := c) Tryd.underlying60 celS encM_len encM_one h0 (ys := ds) (n := m) (a := a) hm (fun e => by
    rcases ERow.form h with ⟨_, e2⟩ | ⟨g, cap, e2, _⟩
    · rw [hm, e2]; rfl
    · rw [e] at e2; cases e2) (fun a' ea j u hu => by
    rcases ERow.form hc with ⟨e1, e2⟩ | ⟨g, cap, e1, hgl, hcells, _⟩
    · rw [e2] at hu; simp at hu
    · obtain ⟨e3, _, _⟩ : a = some ⟨g, 0, none⟩ ∧ m = ds.length ∧ c = cap := by simpa using e1
      subst e3
      simp only [Option.some.injEq] at ea
      subst ea
      exact World.ownsRow.cells hc (g := g) rfl j u hu) (by simp; exact hl) (by decide) b1.size
  rw [List.length_nil, Nat.zero_add, ← hm] at h1 r1
  exact ⟨a', c', W', h1, r1, b1.trans (o1.below b1.size fun q hq => by simp [Value.ownBlock] at hq; omega)⟩
section
variable {w : World} {B hb n : Nat} {f : Nat → Value}
theorem held_ne (hw : HW w B hb n f) {q : Nat} {cs : Array Value} {t : TypeId} (hc : w.heap[q]? = some (.cells cs t (0, 0))) (t1 : t ≠ 40) (t2 : t ≠ 66) (t3 : t ≠ 60) (t4 : t ≠ 44) : ¬ HFt hb f q := fun h2 => by
  rcases h2 with e | ⟨j, hj, e⟩
  · rw [e, hw.blk] at hc
    simp only [Option.some.injEq, Obj.cells.injEq] at hc
    exact t1 hc.2.1.symm
  · obtain ⟨xs, _, hr⟩ := hw.row j hj
    obtain ⟨cs', hc'⟩ := row_type hr e
    rw [hc] at hc'
    simp only [Option.some.injEq, Obj.cells.injEq] at hc'
    have e2 := hc'.2.1
    unfold hty at e2
    split at e2
    · exact t2 e2
    split at e2
    · exact t3 e2
    · exact t4 e2
set_option maxRecDepth 100000 in
set_option maxHeartbeats 8000000 in
theorem sents_any {C m c : Nat} {a : Option Addr} {ds : List Msg} (h : HW w B hb n f) (hd : ERow w C 74 10 encM (.slice a m c) ds) (hn : n + 2 ≤ 1000000000) (hl : ds.length ≤ 1000000000) (hb2 : n + 2 + 2 * m ≤ 1000000000) (ht : ∀ x ∈ ds, BRow w 0 (.slice x.tp x.tn x.tc) x.tx ∧ x.tn ≤ 8192) :
    Calls Tryd.prog 15 #[.pointer (some ⟨hb, 0, none⟩), .slice a m c] w fun e w' => e = .returned (.tuple #[]) ∧ Hid (HWQ w B hb (n + 2 + 2 * m) f w') := by
  have hC : ∀ q, (Value.slice a m c).ownBlock = some q → ¬ HFt hb f q := fun q hq => by
    obtain ⟨cs, hc⟩ := msrow_type hd hq
    exact held_ne h hc (by decide) (by decide) (by decide) (by decide)
  have HT : Hid ((∀ x ∈ ds, BRow w 0 (.slice x.tp x.tn x.tc) x.tx ∧ x.tn ≤ 8192) ∧ HW w B hb n f ∧ n + 2 + 2 * m ≤ 1000000000 ∧ ds.length = m) := ⟨ht, h, hb2, (ERow.len hd).symm⟩
  obtain ⟨a0, n0, c0, w0, k1, k2, k3, k4⟩ := h.push (q := 2) (by decide) (a, m, c) (by omega)
  have k1' : (Builtin.append_ #[33, 33] 33 #[f 2, .slice (some ⟨w.heap.size, 0, none⟩) 1 1]).run Tryd.prog (w.alloc (.cells #[.slice a m c] 60)) = .ok (.slice a0 n0 c0) w0 := k1
  have p0 : w.cell? ⟨hb, 2, none⟩ = some (f 2) := hcell h.blk 2
  have HP1 : Hid (HWQ w B hb (n + 1) f (w0.setCell ⟨hb, 2, none⟩ (.slice a0 n0 c0))) := HWQ.put (by decide) k4.out.1 k4.out.2.1 k4.out.2.2
  have HD : Hid (ERow w C 74 10 encM (.slice a m c) ds ∧ ds.length ≤ 1000000000 ∧ n + 2 ≤ 1000000000 ∧ ∀ q, (Value.slice a m c).ownBlock = some q → ¬ HFt hb f q) := ⟨hd, hl, hn, hC⟩
  clear k1 k4 h hd hl hn hC hb2 ht
  go_enter Tryd.func15, Tryd.ntmps15
  go_upto_region 0 with fail
  go_wp2_with (at_builtin; refine wpList_append_run rfl (.tmp 9) (.tmp 11) 33 _ rfl k1' ?_)
  obtain ⟨W1, hW1⟩ : ∃ W1, w0.setCell ⟨hb, 2, none⟩ (.slice a0 n0 c0) = W1 := ⟨_, rfl⟩
  rw [hW1] at HP1 ⊢
  clear k1' k2 k3 p0 hW1
  obtain ⟨f1, hw1, hft1, o1⟩ := HP1.out
  have hd1 : ERow W1 C 74 10 encM (.slice a m c) ds := ERow.off HD.out.1 o1 fun q hq => HD.out.2.2.2 q hq
  obtain ⟨a2, c2, w2, hcp, HC2⟩ := run_scopy hd1 HD.out.2.1 (W := (W1.alloc (.cells #[] 74)).drew) (Or.inr rfl)
  have hw2 := hw1.below HC2.out.2
  obtain ⟨a3, n3, c3, w3, j1, j2, j3, j4⟩ := hw2.push (q := 3) (by decide) (a2, m, c2) (by have := HD.out.2.2.1; omega)
  have hap : (Builtin.append_ #[33, 33] 33 #[f1 3, .slice (some ⟨w2.heap.size, 0, none⟩) 1 1]).run Tryd.prog (w2.alloc (.cells #[.slice a2 m c2] 60)) = .ok (.slice a3 n3 c3) w3 := j1
  have p1 : W1.cell? ⟨hb, 3, none⟩ = some (f1 3) := hcell hw1.blk 3
  have p2 : (W1.alloc (.cells #[] 74)).cell? ⟨hb, 3, none⟩ = some (f1 3) := (((Below.refl _ _).alloc (Nat.le_refl _) _).cell (p := ⟨hb, 3, none⟩) hw1.lt).trans p1
  have p3 : w2.cell? ⟨hb, 3, none⟩ = some (f1 3) := hcell hw2.blk 3
  have p4 : (w2.alloc (.cells #[.slice a2 m c2] 60)).cell? ⟨hb, 3, none⟩ = some (f1 3) := (((Below.refl _ _).alloc (Nat.le_refl _) _).cell (p := ⟨hb, 3, none⟩) hw2.lt).trans p3
  have HE : Hid (HWQ w B hb (n + 2) f (w3.setCell ⟨hb, 3, none⟩ (.slice a3 n3 c3))) := by
    refine HWQ.trans (f1 := f1) hft1 o1 ?_
    have q1 := HWQ.put (q := 3) (by decide) j4.out.1 j4.out.2.1 j4.out.2.2
    exact HWQ.trans (w := W1) (f := f1) (f1 := f1) (w1 := w2) (fun k hk => Or.inl hk) (Off.of_below HC2.out.2) q1
  clear hw1 hft1 o1 hd1 hw2 j1 j4 HP1 HC2
  go_cut [] from 15 to 26 (fun wx => wx = w3.setCell ⟨hb, 3, none⟩ (.slice a3 n3 c3))
  case first =>
    go_region_law (first | (refine step_app_run rfl (.tmp 20) (.tmp 21) 60 rfl rfl rfl hcp ?_) | (refine step_app_run rfl (.tmp 19) (.tmp 23) 33 rfl rfl rfl hap ?_))
    all_goals
      go_wp2_with fail
      go_meet
      rfl
  case rest =>
  have hw := hcut
  rw [hw]
  clear hw hcut hcp hap p1 p2 p3 p4 j2 j3
  obtain ⟨W4, hW4⟩ : ∃ W4, w3.setCell ⟨hb, 3, none⟩ (.slice a3 n3 c3) = W4 := ⟨_, rfl⟩
  rw [hW4] at HE ⊢
  clear hW4
  have hml : (m : Int) ≤ 1000000000 := by have := HD.out.2.1; have := HT.out.2.2.2; omega
  go_upto_region 3 with fail
  go_loopw [4] (fun t wx => ∃ i : Nat, i ≤ m ∧ t = .int .i64 i ∧ Hid (HWQ w B hb (n + 2 + 2 * i) f wx)) (fun t _ => m - (intOf t).toNat)
  case atStart => exact ⟨0, Nat.zero_le _, rfl, HE⟩
  case round =>
    obtain ⟨i, hi, rfl, HI⟩ := hrel
    clear HE
    obtain ⟨f4, hw4, hft4, o4⟩ := HI.out
    by_cases hlt : i < m
    · have hlt1 : (i : Int) < m := by omega
      obtain ⟨x, hx⟩ : ∃ x, ds[i]? = some x := ⟨_, List.getElem?_eq_getElem (by have := HT.out.2.2.2; omega)⟩
      have hr4 : ERow wr C 74 10 encM (.slice a m c) ds := ERow.off HD.out.1 o4 fun q hq => by
        obtain ⟨cs, hc⟩ := msrow_type HD.out.1 hq
        exact held_ne HT.out.2.1 hc (by decide) (by decide) (by decide) (by decide)
      obtain ⟨g, rfl, hg, hc⟩ := erow_cells hr4 hx
      have d1 := hc.c1
      have hxt := HT.out.1 x (List.mem_of_getElem? hx)
      have hb4 : BRow wr 0 (.slice x.tp x.tn x.tc) x.tx := ERow.off hxt.1 o4 fun q hq => by
        obtain ⟨cs, hc⟩ := brow_type hxt.1 hq
        exact held_ne HT.out.2.1 hc (by decide) (by decide) (by decide) (by decide)
      have htk := fun z (hz : Below wr.heap.size wr z) => htake_any (c := x.tc) (hw4.below hz) (hb4.byts.below hz) (by have := HT.out.2.2.1; omega) (by have := hxt.2; omega)
      have HJ : Hid (∀ z, Below wr.heap.size wr z → Calls Tryd.prog 36 #[.pointer (some ⟨hb, 4, none⟩), .slice x.tp x.tn x.tc] z fun e w' => e = .returned (.tuple #[]) ∧ Hid (HWQ w B hb (n + 2 + 2 * (i + 1)) f w')) := fun z hz => (htk z hz).mono fun e w' ⟨e1, h1⟩ => ⟨e1, by
        obtain ⟨f6, g1, g2, g3⟩ := HWQ.trans (w := w) (f := f) (f1 := f4) (w1 := wr) hft4 o4 (HWQ.trans (w := wr) (f := f4) (f1 := f4) (w1 := z) (fun k hk => Or.inl hk) (Off.of_below hz) h1.out)
        exact ⟨f6, g1.more (by omega), g2, g3⟩⟩
      clear htk hb4 hxt hx hc hr4 hw4 hft4 o4
      go_upto_region 5 with fail
      go_region_law (go_simp; go_at_call 36; refine (HJ.out _ (Below.drew (Below.refl _ _))).mono ?_; rintro _ w6 ⟨rfl, H6⟩; go_wp2_with fail)
      all_goals
        go_wp2_with fail
        go_roundw
        case rel => exact ⟨i + 1, hlt, by go_num, H6⟩
        case measure => simp [intOf]; omega
    · have hlt1 : ¬ (i : Int) < m := by omega
      obtain rfl : i = m := by omega
      clear hw4 hft4 o4
      go_wp2_with fail
      go_end0
      exact ⟨rfl, HI⟩
end
end Go.Proofs.YtoijhecphgdfnaaDoor

/-
  The law's all: the looks ahead of Held.
-/
namespace Go.Proofs.YtoijhecphgdfnaaDoor
open Go.RowKit

section
variable {w w' : World} {K b kb r B hb n : Nat} {v L : Value} {f : Nat → Value} {sq : Bool} {tr : Int} {ms rs ls : List Msg}
theorem cpf_tx {C : Nat} (h : CpF w C ls ms) (hm : ∀ m ∈ ms, m.tn ≤ 8192) : ∀ x ∈ ls, BRow w 0 (.slice x.tp x.tn x.tc) x.tx ∧ x.tn ≤ 8192 := fun x hx => by
  refine ⟨ERow.base (h.own x hx) (Nat.zero_le _), ?_⟩
  obtain ⟨i, hi, e⟩ := List.getElem_of_mem hx
  obtain ⟨y, a, c, hy, e2⟩ := h.wis.at_ (show ls[i]? = some x by rw [List.getElem?_eq_getElem hi, e])
  rw [e2]
  exact hm y (List.mem_of_getElem? hy)
/-- A list of copies behind what Held does. -/
theorem sent_held {w1 : World} {C : Nat} {u : Value} (hw : HW w B hb n f) (o : Off (HFt hb f) w w1) (h : ERow w C 74 10 encM u ls) : ERow w1 C 74 10 encM u ls := ERow.off h o fun q hq => by
  obtain ⟨cs, hc⟩ := msrow_type h hq
  exact held_ne hw hc (by decide) (by decide) (by decide) (by decide)
theorem cpf_held {w1 : World} {C : Nat} (hw : HW w B hb n f) (o : Off (HFt hb f) w w1) (h : CpF w C ls ms) : CpF w1 C ls ms := h.off o fun l hl q hq => by
  obtain ⟨cs, hc⟩ := brow_type (h.own l hl) hq
  exact held_ne hw hc (by decide) (by decide) (by decide) (by decide)
end
end Go.Proofs.YtoijhecphgdfnaaDoor
