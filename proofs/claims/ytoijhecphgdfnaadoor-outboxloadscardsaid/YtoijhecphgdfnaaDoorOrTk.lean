import Derived.Test.YtoijhecphgdfnaaDoorOrHw
/-
  Held.deeds.
-/
namespace Go.Proofs.YtoijhecphgdfnaaDoor
open Go.RowKit

/-- Deeds copied behind an empty list. -/
theorem run_dcopy {w W : World} {B m c : Nat} {a : Option Addr} {ds : List Deed} (h : DRow w B (.slice a m c) ds) (hl : ds.length ≤ 1000000000) (hW : W = (w.alloc (.cells #[] 70)) ∨ W = (w.alloc (.cells #[] 70)).drew) :
    ∃ a' c' W', (Builtin.append_ #[66, 66] 66 #[.slice (some ⟨w.heap.size, 0, none⟩) 0 0, .slice a m c]).run Tryd.prog W = .ok (.slice a' m c') W' ∧ Hid (DRow W' w.heap.size (.slice a' m c') ds ∧ Below w.heap.size w W') := by
  have b1 : Below w.heap.size w W := by
    rcases hW with rfl | rfl
    · exact (Below.refl _ _).alloc (Nat.le_refl _) _
    · exact ((Below.refl _ _).alloc (Nat.le_refl _) _).drew
  have hg : W.heap[w.heap.size]? = some (.cells #[] 70 (0, 0)) := by
    rcases hW with rfl | rfl
    · exact heap_alloc_new _ _
    · exact heap_alloc_new _ _
  have h0 : DRow W w.heap.size (.slice (some ⟨w.heap.size, 0, none⟩) 0 0) [] := ⟨rfl, Or.inr ⟨w.heap.size, 0, #[], rfl, Nat.le_refl _, hg, Nat.le_refl _, Nat.zero_le _, rfl, rfl⟩⟩
  have hm : m = ds.length := ERow.len h
  have hc := ERow.below h b1
  obtain ⟨a', c', W', h1, r1, o1, _⟩ := run_eapp (P := Tryd.prog) (t := 66) (c := c) Tryd.underlying66 celD encD_len encD_one h0 (ys := ds) (n := m) (a := a) hm (fun e => by
    rcases ERow.form h with ⟨_, e2⟩ | ⟨g, cap, e2, _⟩
    · rw [hm, e2]; rfl
    · rw [e] at e2; cases e2) (fun a' ea j u hu => by
    rcases ERow.form hc with ⟨e1, e2⟩ | ⟨g, cap, e1, hgl, hcells, _⟩
    · rw [e2] at hu; simp at hu
    · obtain ⟨e3, _, _⟩ : a = some ⟨g, 0, none⟩ ∧ m = ds.length ∧ c = cap := by simpa using e1
      subst e3
      simp only [Option.some.injEq] at ea
      subst ea
      exact World.ownsRow.cells hc (g := g) rfl j u hu) (by simp; exact hl) (by decide) b1.size
  rw [List.length_nil, Nat.zero_add, ← hm] at h1 r1
  exact ⟨a', c', W', h1, r1, b1.trans (o1.below b1.size fun q hq => by simp [Value.ownBlock] at hq; omega)⟩
section
variable {w : World} {B hb n : Nat} {f : Nat → Value}
/-- What Held is behind a call. -/
def HWQ (w : World) (B hb n : Nat) (f : Nat → Value) (w' : World) : Prop := ∃ f', HW w' B hb n f' ∧ (∀ k, HFt hb f' k → HFt hb f k ∨ w.heap.size ≤ k) ∧ Off (HFt hb f) w w'
theorem HWQ.put {w2 : World} {q : Nat} {u : Value} (hq : q < 6) (hw : HW (w2.setCell ⟨hb, q, none⟩ u) B hb (n + 1) (fun k => if k = q then u else f k)) (o : Off (fun k => k = hb ∨ (f q).ownBlock = some k) w (w2.setCell ⟨hb, q, none⟩ u)) (hf : ∀ k, u.ownBlock = some k → (f q).ownBlock = some k ∨ w.heap.size ≤ k) : HWQ w B hb (n + 1) f (w2.setCell ⟨hb, q, none⟩ u) := by
  refine ⟨_, hw, fun k hk => ?_, o.mono fun k hk => ?_⟩
  · rcases hk with e | ⟨j, hj, e⟩
    · exact Or.inl (Or.inl e)
    · have e : (if j = q then u else f j).ownBlock = some k := e
      by_cases ej : j = q
      · rw [if_pos ej] at e
        rcases hf k e with g | g
        · exact Or.inl (Or.inr ⟨q, hq, g⟩)
        · exact Or.inr g
      · rw [if_neg ej] at e
        exact Or.inl (Or.inr ⟨j, hj, e⟩)
  · rcases hk with e | e
    · exact Or.inl e
    · exact Or.inr ⟨q, hq, e⟩
theorem HWQ.trans {w1 w2 : World} {m : Nat} {f1 : Nat → Value} (h1 : ∀ k, HFt hb f1 k → HFt hb f k ∨ w.heap.size ≤ k) (o : Off (HFt hb f) w w1) (h2 : HWQ w1 B hb m f1 w2) : HWQ w B hb m f w2 := by
  obtain ⟨f2, k1, k2, k3⟩ := h2
  refine ⟨f2, k1, fun k hk => ?_, o.join k3 fun k hl hk => ?_⟩
  · rcases k2 k hk with g | g
    · exact h1 k g
    · exact Or.inr (Nat.le_trans o.size g)
  · rcases h1 k hk with g | g
    · exact g
    · omega
end
end Go.Proofs.YtoijhecphgdfnaaDoor

/-
  The law's plays: Go. Held and the boxes are apart.
-/
namespace Go.Proofs.YtoijhecphgdfnaaDoor
open Go.RowKit

section
variable {w w1 w' : World} {K b kb r B hb n : Nat} {v L : Value} {f : Nat → Value} {sq : Bool} {tr : Int} {ms rs : List Msg}
/-- A block of the boxes is of their types, but for a text's. -/
theorem hft_ne (h : Pb w K b kb r v L sq tr ms rs) (hw : HW w B hb n f) {q : Nat} (h1 : Ft b kb r v L ms rs q) : ¬ HFt hb f q := fun h2 => by
  have key : ∃ cs t, w.heap[q]? = some (.cells cs t (0, 0)) ∧ t ≠ 40 ∧ t ≠ 66 ∧ t ≠ 60 ∧ t ≠ 44 := by
    rcases h1 with e | e | e | e | e | ⟨m, hm, e⟩ | ⟨m, hm, e⟩
    · subst e; exact ⟨_, _, h.bx.1, by decide, by decide, by decide, by decide⟩
    · subst e; exact ⟨_, _, h.bx.2.1.1, by decide, by decide, by decide, by decide⟩
    · subst e; exact ⟨_, _, h.rb.blk, by decide, by decide, by decide, by decide⟩
    · obtain ⟨cs, hc⟩ := msrow_type h.bx.2.1.2.1 e
      exact ⟨_, _, hc, by decide, by decide, by decide, by decide⟩
    · obtain ⟨cs, hc⟩ := msrow_type h.rb.row e
      exact ⟨_, _, hc, by decide, by decide, by decide, by decide⟩
    · obtain ⟨cs, hc⟩ := brow_type (h.bx.2.2 m hm).1 e
      exact ⟨_, _, hc, by decide, by decide, by decide, by decide⟩
    · obtain ⟨cs, hc⟩ := brow_type (h.rb.own m hm).1 e
      exact ⟨_, _, hc, by decide, by decide, by decide, by decide⟩
  obtain ⟨cs, t, hc, t1, t2, t3, t4⟩ := key
  rcases h2 with e | ⟨j, hj, e⟩
  · rw [e, hw.blk] at hc
    simp only [Option.some.injEq, Obj.cells.injEq] at hc
    exact t1 hc.2.1.symm
  · obtain ⟨xs, _, hr⟩ := hw.row j hj
    obtain ⟨cs', hc'⟩ := row_type hr e
    rw [hc] at hc'
    simp only [Option.some.injEq, Obj.cells.injEq] at hc'
    have e2 := hc'.2.1
    unfold hty at e2
    split at e2
    · exact t2 e2
    split at e2
    · exact t3 e2
    · exact t4 e2
/-- Deeds that a call told are none of Held's, nor of the boxes'. -/
theorem drow_ne (hw : HW w B hb n f) {C : Nat} {u : Value} {ds : List Deed} (hd : DRow w C u ds) {q : Nat} (hq : u.ownBlock = some q) : ¬ HFt hb f q := fun h2 => by
  have key : ∃ cs, w.heap[q]? = some (.cells cs 70 (0, 0)) := by
    rcases hd.2 with ⟨e, _⟩ | ⟨g', cap, cur, e, _, hc, _⟩
    · rw [e] at hq; cases hq
    · rw [e] at hq
      simp only [Value.ownBlock, Option.some.injEq] at hq
      subst hq
      exact ⟨_, hc⟩
  obtain ⟨cs, hc⟩ := key
  rcases h2 with e | ⟨j, hj, e⟩
  · rw [e, hw.blk] at hc
    simp at hc
  · obtain ⟨xs, _, hr⟩ := hw.row j hj
    obtain ⟨cs', hc'⟩ := row_type hr e
    rw [hc] at hc'
    simp only [Option.some.injEq, Obj.cells.injEq] at hc'
    have e2 := hc'.2.1
    unfold hty at e2
    split at e2
    · simp at e2
    split at e2 <;> simp at e2
/-- What a call of the law's leaves of the boxes and of Held. -/
def PlH (w : World) (K b kb r B hb n : Nat) (v L : Value) (f : Nat → Value) (sq : Bool) (tr : Int) (ms rs : List Msg) (w' : World) : Prop :=
  ∃ v' L' ms' rs' f', Pr w' K b kb r v' L' sq tr ms' rs' ∧ HW w' B hb n f' ∧ (∀ q, Ft b kb r v' L' ms' rs' q → Ft b kb r v L ms rs q ∨ w.heap.size ≤ q) ∧ (∀ q, HFt hb f' q → HFt hb f q ∨ w.heap.size ≤ q) ∧ Off (fun q => Ft b kb r v L ms rs q ∨ HFt hb f q) w w'
/-- The boxes have moved, then Held. -/
theorem PlH.of {m : Nat} (h : Pr w K b kb r v L sq tr ms rs) (hw : HW w B hb m f) (hp : PlR w K b kb r v L sq tr ms rs (fun _ => False) w1) (hq : ∀ f1, HW w1 B hb m f → f1 = f → HWQ w1 B hb n f1 w') : PlH w K b kb r B hb n v L f sq tr ms rs w' := by
  obtain ⟨v', L', ms', rs', p1, p2, p3⟩ := hp
  have hw1 : HW w1 B hb m f := hw.off p3 fun k hk hf => by
    rcases hf with g | g
    · exact hft_ne h.pb hw g hk
    · exact g
  obtain ⟨f', q1, q2, q3⟩ := hq f hw1 rfl
  refine ⟨v', L', ms', rs', f', ⟨p1.pb.off q3 fun q hf hk => hft_ne p1.pb hw1 hf hk, p1.wis, p1.ok⟩, q1, p2, fun q hk => ?_, (p3.mono fun q hk => ?_).trans (q3.mono fun q hk => Or.inr hk)⟩
  · rcases q2 q hk with g | g
    · exact Or.inl g
    · exact Or.inr (Nat.le_trans p3.size g)
  · rcases hk with g | g
    · exact Or.inl g
    · exact g.elim
end
end Go.Proofs.YtoijhecphgdfnaaDoor

/-
  The law's plays: Go, walked.
-/
namespace Go.Proofs.YtoijhecphgdfnaaDoor
open Go.RowKit

section
variable {w w1 w' : World} {K b kb r B hb n : Nat} {v L : Value} {f : Nat → Value} {sq : Bool} {tr : Int} {ms rs : List Msg}
end
end Go.Proofs.YtoijhecphgdfnaaDoor

/-
  The law's plays: Due, walked.
-/
namespace Go.Proofs.YtoijhecphgdfnaaDoor
open Go.RowKit

section
variable {w w1 w' : World} {K b kb r B hb n : Nat} {v L : Value} {f : Nat → Value} {sq : Bool} {tr : Int} {ms rs : List Msg}
end
end Go.Proofs.YtoijhecphgdfnaaDoor

/-
  The law's plays: Heard, walked.
-/
namespace Go.Proofs.YtoijhecphgdfnaaDoor
open Go.RowKit

section
variable {w w1 w' : World} {K b kb r B hb n : Nat} {v L : Value} {f : Nat → Value} {sq : Bool} {tr : Int} {ms rs : List Msg}
end
end Go.Proofs.YtoijhecphgdfnaaDoor

/-
  Book.Take on Held's book: a text kept, and a copy.
-/
namespace Go.Proofs.YtoijhecphgdfnaaDoor
open Go.RowKit

section
variable {w : World} {B hb n : Nat} {f : Nat → Value}
set_option maxRecDepth 100000 in
set_option maxHeartbeats 8000000 in
theorem htake_any {m c : Nat} {a : Option Addr} {bs : List Int} (h : HW w B hb n f) (hd : Byts w a m bs) (hn : n + 2 ≤ 1000000000) (hl : m ≤ 140737488355328) :
    Calls Tryd.prog 36 #[.pointer (some ⟨hb, 4, none⟩), .slice a m c] w fun e w' => e = .returned (.tuple #[]) ∧ Hid (HWQ w B hb (n + 2) f w') := by
  obtain ⟨w1, hmk, hR, hB1⟩ := run_make_bytes (w := w) m hl
  have HR : Hid (BRow w1 w.heap.size (.slice (some ⟨w.heap.size, 0, none⟩) m m) (List.replicate m 0) ∧ Below w.heap.size w w1) := ⟨hR, hB1⟩
  have HH : Hid (HW w B hb n f ∧ Byts w a m bs ∧ n + 2 ≤ 1000000000 ∧ bs.length = m) := ⟨h, hd, hn, hd.len⟩
  clear hR hB1 h hd hn
  go_enter Tryd.func36, Tryd.ntmps36
  go_wp2_with fail
  clear hmk
  go_loopw [5] (fun ti wx => ∃ i : Nat, i ≤ m ∧ ti = .int .i64 i ∧ Hid ((∃ ys, BRow wx w.heap.size (.slice (some ⟨w.heap.size, 0, none⟩) m m) ys) ∧ Below w.heap.size w wx)) (fun ti _ => m - (intOf ti).toNat)
  case atStart => exact ⟨0, Nat.zero_le _, rfl, ⟨_, HR.out.1⟩, HR.out.2⟩
  case round =>
    obtain ⟨i, hi, rfl, HI⟩ := hrel
    clear HR
    obtain ⟨ys, hy⟩ := HI.out.1
    have hyl := ERow.len hy
    by_cases hlt : i < m
    · have hlt1 : (i : Int) < m := by omega
      obtain ⟨b, o, rfl, _, hcell⟩ := (HH.out.2.1.below HI.out.2).cell i (by have := HH.out.2.2.2; omega)
      have k1 : wr.cell? ⟨w.heap.size, i, none⟩ = some (.int .u8 (ys.getD i 0)) := hy.slot (by omega)
      have k2 := hy.thaw i
      have HJ : Hid (∀ z : Int, (∃ ys, BRow (wr.setCell ⟨w.heap.size, i, none⟩ (.int .u8 z)) w.heap.size (.slice (some ⟨w.heap.size, 0, none⟩) m m) ys) ∧ Below w.heap.size w (wr.setCell ⟨w.heap.size, i, none⟩ (.int .u8 z))) := fun z => ⟨⟨_, hy.stored i z (by omega)⟩, HI.out.2.setCell (Nat.le_refl _) _⟩
      clear hy HI
      go_wp2_with fail
      go_roundw
      case rel => exact ⟨i + 1, hlt, by go_num, HJ.out _⟩
      case measure => simp [intOf]; omega
    · have hlt1 : ¬ (i : Int) < m := by omega
      have hwr := HH.out.1.below HI.out.2
      obtain ⟨a0, n0, c0, w2, k1, k2, k3, k4⟩ := hwr.push (q := 4) (by decide) (a, m, c) (by have := HH.out.2.2.1; omega)
      have k1' : (Builtin.append_ #[34, 34] 34 #[f 4, .slice (some ⟨wr.heap.size, 0, none⟩) 1 1]).run Tryd.prog (wr.alloc (.cells #[.slice a m c] 44)) = .ok (.slice a0 n0 c0) w2 := k1
      have p0 : wr.cell? ⟨hb, 4, none⟩ = some (f 4) := hcell hwr.blk 4
      have p1 : (wr.alloc (.cells #[.slice a m c] 44)).cell? ⟨hb, 4, none⟩ = some (f 4) := (((Below.refl _ _).alloc (Nat.le_refl _) _).cell (p := ⟨hb, 4, none⟩) hwr.lt).trans p0
      have HP : Hid (HWQ wr B hb (n + 1) f (w2.setCell ⟨hb, 4, none⟩ (.slice a0 n0 c0))) := HWQ.put (by decide) k4.out.1 k4.out.2.1 k4.out.2.2
      have HB2 : Hid (Below w.heap.size w wr) := HI.out.2
      clear hy hyl HI hwr k1 k4
      go_upto_region 5 with fail
      go_upto_region 6 with (at_builtin; refine wpList_append_run rfl (.tmp 26) (.tmp 28) 34 _ rfl k1' ?_)
      obtain ⟨W3, hW3⟩ : ∃ W3, w2.setCell ⟨hb, 4, none⟩ (.slice a0 n0 c0) = W3 := ⟨_, rfl⟩
      rw [hW3] at HP ⊢
      clear k1' k2 k3 p0 p1 hW3
      obtain ⟨f3, hw3, hft3, o3⟩ := HP.out
      obtain ⟨a5, n5, c5, w5, j1, j2, j3, j4⟩ := hw3.push (q := 5) (by decide) (some ⟨w.heap.size, 0, none⟩, m, m) (by have := HH.out.2.2.1; omega)
      have j1' : (Builtin.append_ #[34, 34] 34 #[f3 5, .slice (some ⟨W3.heap.size, 0, none⟩) 1 1]).run Tryd.prog (W3.alloc (.cells #[.slice (some ⟨w.heap.size, 0, none⟩) m m] 44)) = .ok (.slice a5 n5 c5) w5 := j1
      have p0 : W3.cell? ⟨hb, 5, none⟩ = some (f3 5) := hcell hw3.blk 5
      have p1 : (W3.alloc (.cells #[.slice (some ⟨w.heap.size, 0, none⟩) m m] 44)).cell? ⟨hb, 5, none⟩ = some (f3 5) := (((Below.refl _ _).alloc (Nat.le_refl _) _).cell (p := ⟨hb, 5, none⟩) hw3.lt).trans p0
      have HE : Hid (HWQ w B hb (n + 2) f (w5.setCell ⟨hb, 5, none⟩ (.slice a5 n5 c5))) := by
        refine HWQ.trans (w1 := wr) (f1 := f) (fun k hk => Or.inl hk) (Off.of_below HB2.out) (HWQ.trans (f1 := f3) hft3 o3 ?_)
        exact HWQ.put (q := 5) (by decide) j4.out.1 j4.out.2.1 j4.out.2.2
      clear HP hft3 o3 hw3 j1 j4
      go_wp2_with (at_builtin; refine wpList_append_run rfl (.tmp 36) (.tmp 38) 34 _ rfl j1' ?_)
      go_end0
      exact ⟨rfl, HE⟩
end
end Go.Proofs.YtoijhecphgdfnaaDoor
