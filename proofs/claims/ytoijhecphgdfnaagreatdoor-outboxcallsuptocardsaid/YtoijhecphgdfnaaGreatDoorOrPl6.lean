import Derived.Test.YtoijhecphgdfnaaGreatDoorOrHw
/-
  Held.deeds.
-/
namespace Go.Proofs.YtoijhecphgdfnaaGreatDoor
open Go.RowKit

/-- Deeds copied behind an empty list. -/
theorem run_dcopy {w W : World} {B m c : Nat} {a : Option Addr} {ds : List Deed} (h : DRow w B (.slice a m c) ds) (hl : ds.length ≤ 1000000000) (hW : W = (w.alloc (.cells #[] 105)) ∨ W = (w.alloc (.cells #[] 105)).drew) :
    ∃ a' c' W', (Builtin.append_ #[77, 77] 77 #[.slice (some ⟨w.heap.size, 0, none⟩) 0 0, .slice a m c]).run Tryz.prog W = .ok (.slice a' m c') W' ∧ Hid (DRow W' w.heap.size (.slice a' m c') ds ∧ Below w.heap.size w W') := by
  have b1 : Below w.heap.size w W := by
    rcases hW with rfl | rfl
    · exact (Below.refl _ _).alloc (Nat.le_refl _) _
    · exact ((Below.refl _ _).alloc (Nat.le_refl _) _).drew
  have hg : W.heap[w.heap.size]? = some (.cells #[] 105 (0, 0)) := by
    rcases hW with rfl | rfl
    · exact heap_alloc_new _ _
    · exact heap_alloc_new _ _
  have h0 : DRow W w.heap.size (.slice (some ⟨w.heap.size, 0, none⟩) 0 0) [] := ⟨rfl, Or.inr ⟨w.heap.size, 0, #[], rfl, Nat.le_refl _, hg, Nat.le_refl _, Nat.zero_le _, rfl, rfl⟩⟩
  have hm : m = ds.length := ERow.len h
  have hc := ERow.below h b1
  obtain ⟨a', c', W', h1, r1, o1, _⟩ := run_eapp (P := Tryz.prog) (t := 77) (c := c) Tryz.underlying77 celD encD_len encD_one h0 (ys := ds) (n := m) (a := a) hm (fun e => by
    rcases ERow.form h with ⟨_, e2⟩ | ⟨g, cap, e2, _⟩
    · rw [hm, e2]; rfl
    · rw [e] at e2; cases e2) (fun a' ea j u hu => by
    rcases ERow.form hc with ⟨e1, e2⟩ | ⟨g, cap, e1, hgl, hcells, _⟩
    · rw [e2] at hu; simp at hu
    · obtain ⟨e3, _, _⟩ : a = some ⟨g, 0, none⟩ ∧ m = ds.length ∧ c = cap := by simpa using e1
      subst e3
      simp only [Option.some.injEq] at ea
      subst ea
      exact World.ownsRow.cells hc (g := g) rfl j u hu) (by simp; exact hl) (by decide) b1.size
  rw [List.length_nil, Nat.zero_add, ← hm] at h1 r1
  exact ⟨a', c', W', h1, r1, b1.trans (o1.below b1.size fun q hq => by simp [Value.ownBlock] at hq; omega)⟩
section
variable {w : World} {B hb n : Nat} {f : Nat → Value}
/-- What Held is behind a call. -/
def HWQ (w : World) (B hb n : Nat) (f : Nat → Value) (w' : World) : Prop := ∃ f', HW w' B hb n f' ∧ (∀ k, HFt hb f' k → HFt hb f k ∨ w.heap.size ≤ k) ∧ Off (HFt hb f) w w'
theorem HWQ.put {w2 : World} {q : Nat} {u : Value} (hq : q < 6) (hw : HW (w2.setCell ⟨hb, q, none⟩ u) B hb (n + 1) (fun k => if k = q then u else f k)) (o : Off (fun k => k = hb ∨ (f q).ownBlock = some k) w (w2.setCell ⟨hb, q, none⟩ u)) (hf : ∀ k, u.ownBlock = some k → (f q).ownBlock = some k ∨ w.heap.size ≤ k) : HWQ w B hb (n + 1) f (w2.setCell ⟨hb, q, none⟩ u) := by
  refine ⟨_, hw, fun k hk => ?_, o.mono fun k hk => ?_⟩
  · rcases hk with e | ⟨j, hj, e⟩
    · exact Or.inl (Or.inl e)
    · have e : (if j = q then u else f j).ownBlock = some k := e
      by_cases ej : j = q
      · rw [if_pos ej] at e
        rcases hf k e with g | g
        · exact Or.inl (Or.inr ⟨q, hq, g⟩)
        · exact Or.inr g
      · rw [if_neg ej] at e
        exact Or.inl (Or.inr ⟨j, hj, e⟩)
  · rcases hk with e | e
    · exact Or.inl e
    · exact Or.inr ⟨q, hq, e⟩
theorem HWQ.trans {w1 w2 : World} {m : Nat} {f1 : Nat → Value} (h1 : ∀ k, HFt hb f1 k → HFt hb f k ∨ w.heap.size ≤ k) (o : Off (HFt hb f) w w1) (h2 : HWQ w1 B hb m f1 w2) : HWQ w B hb m f w2 := by
  obtain ⟨f2, k1, k2, k3⟩ := h2
  refine ⟨f2, k1, fun k hk => ?_, o.join k3 fun k hl hk => ?_⟩
  · rcases k2 k hk with g | g
    · exact h1 k g
    · exact Or.inr (Nat.le_trans o.size g)
  · rcases h1 k hk with g | g
    · exact g
    · omega
set_option maxRecDepth 100000 in
set_option maxHeartbeats 8000000 in
theorem deeds_any {C m c : Nat} {a : Option Addr} {ds : List Deed} (h : HW w B hb n f) (hd : DRow w C (.slice a m c) ds) (hn : n + 2 ≤ 1000000000) (hl : ds.length ≤ 1000000000) (hC : ∀ q, (Value.slice a m c).ownBlock = some q → ¬ HFt hb f q) :
    Calls Tryz.prog 25 #[.pointer (some ⟨hb, 0, none⟩), .slice a m c] w fun e w' => e = .returned (.tuple #[]) ∧ Hid (HWQ w B hb (n + 2) f w') := by
  obtain ⟨a0, n0, c0, w0, k1, k2, k3, k4⟩ := h.push (q := 0) (by decide) (a, m, c) (by omega)
  have k1' : (Builtin.append_ #[33, 33] 33 #[f 0, .slice (some ⟨w.heap.size, 0, none⟩) 1 1]).run Tryz.prog (w.alloc (.cells #[.slice a m c] 77)) = .ok (.slice a0 n0 c0) w0 := k1
  have p0 : w.cell? ⟨hb, 0, none⟩ = some (f 0) := hcell h.blk 0
  have HP1 : Hid (HWQ w B hb (n + 1) f (w0.setCell ⟨hb, 0, none⟩ (.slice a0 n0 c0))) := HWQ.put (by decide) k4.out.1 k4.out.2.1 k4.out.2.2
  have HD : Hid (DRow w C (.slice a m c) ds ∧ ds.length ≤ 1000000000 ∧ n + 2 ≤ 1000000000 ∧ ∀ q, (Value.slice a m c).ownBlock = some q → ¬ HFt hb f q) := ⟨hd, hl, hn, hC⟩
  clear k1 k4 h hd hl hn hC
  go_enter Tryz.func25, Tryz.ntmps25
  go_upto_region 0 with fail
  go_wp2_with (at_builtin; refine wpList_append_run rfl (.tmp 8) (.tmp 10) 33 _ rfl k1' ?_)
  obtain ⟨W1, hW1⟩ : ∃ W1, w0.setCell ⟨hb, 0, none⟩ (.slice a0 n0 c0) = W1 := ⟨_, rfl⟩
  rw [hW1] at HP1 ⊢
  clear k1' k2 k3 p0 hW1
  obtain ⟨f1, hw1, hft1, o1⟩ := HP1.out
  have hd1 : DRow W1 C (.slice a m c) ds := ERow.off HD.out.1 o1 fun q hq => HD.out.2.2.2 q hq
  obtain ⟨a2, c2, w2, hcp, HC2⟩ := run_dcopy hd1 HD.out.2.1 (W := (W1.alloc (.cells #[] 105)).drew) (Or.inr rfl)
  have hw2 := hw1.below HC2.out.2
  obtain ⟨a3, n3, c3, w3, j1, j2, j3, j4⟩ := hw2.push (q := 1) (by decide) (a2, m, c2) (by have := HD.out.2.2.1; omega)
  have hap : (Builtin.append_ #[33, 33] 33 #[f1 1, .slice (some ⟨w2.heap.size, 0, none⟩) 1 1]).run Tryz.prog (w2.alloc (.cells #[.slice a2 m c2] 77)) = .ok (.slice a3 n3 c3) w3 := j1
  have p1 : W1.cell? ⟨hb, 1, none⟩ = some (f1 1) := hcell hw1.blk 1
  have p2 : (W1.alloc (.cells #[] 105)).cell? ⟨hb, 1, none⟩ = some (f1 1) := (((Below.refl _ _).alloc (Nat.le_refl _) _).cell (p := ⟨hb, 1, none⟩) hw1.lt).trans p1
  have p3 : w2.cell? ⟨hb, 1, none⟩ = some (f1 1) := hcell hw2.blk 1
  have p4 : (w2.alloc (.cells #[.slice a2 m c2] 77)).cell? ⟨hb, 1, none⟩ = some (f1 1) := (((Below.refl _ _).alloc (Nat.le_refl _) _).cell (p := ⟨hb, 1, none⟩) hw2.lt).trans p3
  have HE : Hid (HWQ w B hb (n + 2) f (w3.setCell ⟨hb, 1, none⟩ (.slice a3 n3 c3))) := by
    refine HWQ.trans (f1 := f1) hft1 o1 ?_
    have q1 := HWQ.put (q := 1) (by decide) j4.out.1 j4.out.2.1 j4.out.2.2
    exact HWQ.trans (w := W1) (f := f1) (f1 := f1) (w1 := w2) (fun k hk => Or.inl hk) (Off.of_below HC2.out.2) q1
  clear hw1 hft1 o1 hd1 hw2 j1 j4 HP1 HD HC2
  go_region_law (first | (refine step_app_run rfl (.tmp 19) (.tmp 20) 77 rfl rfl rfl hcp ?_) | (refine step_app_run rfl (.tmp 18) (.tmp 22) 33 rfl rfl rfl hap ?_))
  all_goals
    go_wp2_with fail
    go_end0
    exact ⟨rfl, HE⟩
end
end Go.Proofs.YtoijhecphgdfnaaGreatDoor

/-
  The law's plays: Go. Held and the boxes are apart.
-/
namespace Go.Proofs.YtoijhecphgdfnaaGreatDoor
open Go.RowKit

section
variable {w w1 w' : World} {K b kb r B hb n : Nat} {v L : Value} {f : Nat → Value} {sq : Bool} {tr : Int} {ms rs : List Msg}
/-- A block of the boxes is of their types, but for a text's. -/
theorem hft_ne (h : Pb w K b kb r v L sq tr ms rs) (hw : HW w B hb n f) {q : Nat} (h1 : Ft b kb r v L ms rs q) : ¬ HFt hb f q := fun h2 => by
  have key : ∃ cs t, w.heap[q]? = some (.cells cs t (0, 0)) ∧ t ≠ 41 ∧ t ≠ 77 ∧ t ≠ 97 ∧ t ≠ 43 := by
    rcases h1 with e | e | e | e | e | ⟨m, hm, e⟩ | ⟨m, hm, e⟩
    · subst e; exact ⟨_, _, h.bx.1, by decide, by decide, by decide, by decide⟩
    · subst e; exact ⟨_, _, h.bx.2.1.1, by decide, by decide, by decide, by decide⟩
    · subst e; exact ⟨_, _, h.rb.blk, by decide, by decide, by decide, by decide⟩
    · obtain ⟨cs, hc⟩ := msrow_type h.bx.2.1.2.1 e
      exact ⟨_, _, hc, by decide, by decide, by decide, by decide⟩
    · obtain ⟨cs, hc⟩ := msrow_type h.rb.row e
      exact ⟨_, _, hc, by decide, by decide, by decide, by decide⟩
    · obtain ⟨cs, hc⟩ := brow_type (h.bx.2.2 m hm).1 e
      exact ⟨_, _, hc, by decide, by decide, by decide, by decide⟩
    · obtain ⟨cs, hc⟩ := brow_type (h.rb.own m hm).1 e
      exact ⟨_, _, hc, by decide, by decide, by decide, by decide⟩
  obtain ⟨cs, t, hc, t1, t2, t3, t4⟩ := key
  rcases h2 with e | ⟨j, hj, e⟩
  · rw [e, hw.blk] at hc
    simp only [Option.some.injEq, Obj.cells.injEq] at hc
    exact t1 hc.2.1.symm
  · obtain ⟨xs, _, hr⟩ := hw.row j hj
    obtain ⟨cs', hc'⟩ := row_type hr e
    rw [hc] at hc'
    simp only [Option.some.injEq, Obj.cells.injEq] at hc'
    have e2 := hc'.2.1
    unfold hty at e2
    split at e2
    · exact t2 e2
    split at e2
    · exact t3 e2
    · exact t4 e2
/-- Deeds that a call told are none of Held's, nor of the boxes'. -/
theorem drow_ne (hw : HW w B hb n f) {C : Nat} {u : Value} {ds : List Deed} (hd : DRow w C u ds) {q : Nat} (hq : u.ownBlock = some q) : ¬ HFt hb f q := fun h2 => by
  have key : ∃ cs, w.heap[q]? = some (.cells cs 105 (0, 0)) := by
    rcases hd.2 with ⟨e, _⟩ | ⟨g', cap, cur, e, _, hc, _⟩
    · rw [e] at hq; cases hq
    · rw [e] at hq
      simp only [Value.ownBlock, Option.some.injEq] at hq
      subst hq
      exact ⟨_, hc⟩
  obtain ⟨cs, hc⟩ := key
  rcases h2 with e | ⟨j, hj, e⟩
  · rw [e, hw.blk] at hc
    simp at hc
  · obtain ⟨xs, _, hr⟩ := hw.row j hj
    obtain ⟨cs', hc'⟩ := row_type hr e
    rw [hc] at hc'
    simp only [Option.some.injEq, Obj.cells.injEq] at hc'
    have e2 := hc'.2.1
    unfold hty at e2
    split at e2
    · simp at e2
    split at e2 <;> simp at e2
/-- What a call of the law's leaves of the boxes and of Held. -/
def PlH (w : World) (K b kb r B hb n : Nat) (v L : Value) (f : Nat → Value) (sq : Bool) (tr : Int) (ms rs : List Msg) (w' : World) : Prop :=
  ∃ v' L' ms' rs' f', Pr w' K b kb r v' L' sq tr ms' rs' ∧ HW w' B hb n f' ∧ (∀ q, Ft b kb r v' L' ms' rs' q → Ft b kb r v L ms rs q ∨ w.heap.size ≤ q) ∧ (∀ q, HFt hb f' q → HFt hb f q ∨ w.heap.size ≤ q) ∧ Off (fun q => Ft b kb r v L ms rs q ∨ HFt hb f q) w w'
/-- The boxes have moved, then Held. -/
theorem PlH.of {m : Nat} (h : Pr w K b kb r v L sq tr ms rs) (hw : HW w B hb m f) (hp : PlR w K b kb r v L sq tr ms rs (fun _ => False) w1) (hq : ∀ f1, HW w1 B hb m f → f1 = f → HWQ w1 B hb n f1 w') : PlH w K b kb r B hb n v L f sq tr ms rs w' := by
  obtain ⟨v', L', ms', rs', p1, p2, p3⟩ := hp
  have hw1 : HW w1 B hb m f := hw.off p3 fun k hk hf => by
    rcases hf with g | g
    · exact hft_ne h.pb hw g hk
    · exact g
  obtain ⟨f', q1, q2, q3⟩ := hq f hw1 rfl
  refine ⟨v', L', ms', rs', f', ⟨p1.pb.off q3 fun q hf hk => hft_ne p1.pb hw1 hf hk, p1.wis, p1.ok⟩, q1, p2, fun q hk => ?_, (p3.mono fun q hk => ?_).trans (q3.mono fun q hk => Or.inr hk)⟩
  · rcases q2 q hk with g | g
    · exact Or.inl g
    · exact Or.inr (Nat.le_trans p3.size g)
  · rcases hk with g | g
    · exact Or.inl g
    · exact g.elim
end
end Go.Proofs.YtoijhecphgdfnaaGreatDoor

/-
  The law's plays: Go, walked.
-/
namespace Go.Proofs.YtoijhecphgdfnaaGreatDoor
open Go.RowKit

section
variable {w w1 w' : World} {K b kb r B hb n : Nat} {v L : Value} {f : Nat → Value} {sq : Bool} {tr : Int} {ms rs : List Msg}
set_option maxRecDepth 100000 in
set_option maxHeartbeats 8000000 in
theorem plays_go (h : Pr w K b kb r v L sq tr ms rs) (hV : PVc w) (hw : HW w B hb n f) (hn : n + 2 ≤ 1000000000) (x : Opv) (hds : (goA sq tr ms).ds.length ≤ 1000000000) :
    Calls Tryz.prog 7 #[.agg #[.pointer (some ⟨b, 0, none⟩), .pointer (some ⟨r, 0, none⟩)], .agg #[.int .i64 4, .string x.ct, .slice x.tp x.tn x.tc, .bool x.e, .int .i64 x.a, .int .i64 x.p, .string x.cd, .int .i64 x.n], .pointer (some ⟨hb, 0, none⟩)] w fun e w' => e = .returned (.bool true) ∧ Hid (PlH w K b kb r B hb (n + 2) v L f sq tr ms rs w') := by
  have bv : Below w.heap.size w ((w.alloc (.cells #[.pointer (some ⟨b, 0, none⟩), .pointer (some ⟨r, 0, none⟩)] 29)).alloc (.cells #[.int .i64 4, .string x.ct, .slice x.tp x.tn x.tc, .bool x.e, .int .i64 x.a, .int .i64 x.p, .string x.cd, .int .i64 x.n] 47)) := ((Below.refl _ _).alloc (Nat.le_refl _) _).alloc (by simp) _
  have bx := (Box.new w #[.pointer (some ⟨b, 0, none⟩), .pointer (some ⟨r, 0, none⟩)] 29).alloc (.cells #[.int .i64 4, .string x.ct, .slice x.tp x.tn x.tc, .bool x.e, .int .i64 x.a, .int .i64 x.p, .string x.cd, .int .i64 x.n] 47)
  have by_ := Box.new (w.alloc (.cells #[.pointer (some ⟨b, 0, none⟩), .pointer (some ⟨r, 0, none⟩)] 29)) #[.int .i64 4, .string x.ct, .slice x.tp x.tn x.tc, .bool x.e, .int .i64 x.a, .int .i64 x.p, .string x.cd, .int .i64 x.n] 47
  rw [World.size_alloc] at by_
  obtain ⟨V, hVV⟩ : ∃ V, ((w.alloc (.cells #[.pointer (some ⟨b, 0, none⟩), .pointer (some ⟨r, 0, none⟩)] 29)).alloc (.cells #[.int .i64 4, .string x.ct, .slice x.tp x.tn x.tc, .bool x.e, .int .i64 x.a, .int .i64 x.p, .string x.cd, .int .i64 x.n] 47)) = V := ⟨_, rfl⟩
  rw [hVV] at bv bx by_
  have HH : Hid (Pr w K b kb r v L sq tr ms rs ∧ HW w B hb n f ∧ n + 2 ≤ 1000000000 ∧ Below w.heap.size w V) := ⟨h, hw, hn, bv⟩
  have hPV := h.below bv
  have hpg := pGo hPV.pb.bx (hV.below bv) h.ok
  obtain ⟨y, hy⟩ : ∃ y, goA sq tr ms = y := ⟨_, rfl⟩
  obtain ⟨z, hz⟩ : ∃ z, goA sq tr rs = z := ⟨_, rfl⟩
  have hsm : y.Same z := by rw [← hy, ← hz]; exact go_same h.wis
  have HY : Hid (y.Same z ∧ TxIn y.ms ms ∧ TxIn z.ms rs ∧ Okk sq tr y.ms ∧ y.ds.length ≤ 1000000000) := ⟨hsm, by rw [← hy]; exact txin_go, by rw [← hz]; exact txin_go, by rw [← hy]; exact okk_go h.ok, by rw [← hy]; exact hds⟩
  rw [hy] at hpg
  obtain ⟨xb, hxb⟩ : ∃ xb, w.heap.size = xb := ⟨_, rfl⟩
  rw [hxb] at bx by_
  have y0 : V.cell? ⟨xb + 1, 0, none⟩ = some (.int .i64 4) := by_.cell 0
  have z0 : V.cell? ⟨xb, 0, none⟩ = some (.pointer (some ⟨b, 0, none⟩)) := bx.cell 0
  have HX : Hid (V.cell? ⟨xb, 1, none⟩ = some (.pointer (some ⟨r, 0, none⟩)) ∧ xb < V.heap.size ∧ w.heap.size = xb) := ⟨bx.cell 1, bx.lt, hxb⟩
  clear h hV hw hn hds bv bx by_ hPV hsm hy
  go_enter Tryz.func7, Tryz.ntmps7
  go_upto_region 21 with (go_at_call 23; refine hpg.mono ?_; rintro _ w2 ⟨a2, c2, ev, rfl, H2⟩)
  clear hpg hVV y0 z0
  have nk : ∀ q, (q = kb ∨ v.ownBlock = some q) → q < w.heap.size := fun q hq => by
    rcases hq with e | e
    · exact (HH.out.1.pb.lt (Or.inr (Or.inl e))).2
    · exact (HH.out.1.pb.lt (Or.inr (Or.inr (Or.inr (Or.inl e))))).2
  have nr : ∀ q, (q = r ∨ L.ownBlock = some q) → q < w.heap.size := fun q hq => by
    rcases hq with e | e
    · exact (HH.out.1.pb.lt (Or.inr (Or.inr (Or.inl e)))).2
    · exact (HH.out.1.pb.lt (Or.inr (Or.inr (Or.inr (Or.inr (Or.inl e)))))).2
  obtain ⟨v1, k1, _, o2⟩ := (HH.out.1.below HH.out.2.2.2).pb.left H2.out.2.2 (txin_ht HY.out.2.1 _)
  have z1 : w2.cell? ⟨xb, 1, none⟩ = some (.pointer (some ⟨r, 0, none⟩)) := (o2.cell (p := ⟨xb, 1, none⟩) HX.out.2.1 fun hq => by have := nk xb hq; have := HX.out.2.2; omega).trans HX.out.1
  have hrg := rGo k1.rb
  rw [hz] at hrg
  have HN : Hid (∀ q, (q = r ∨ L.ownBlock = some q) → q < w.heap.size) := nr
  clear hz nk nr k1 o2
  go_upto_region 22 with (go_at_call 24; refine hrg.mono ?_; rintro _ w3 ⟨a3, c3, rfl, H3⟩)
  clear hrg z1
  have hp := Pr.call (P := fun _ => False) HH.out.1 HH.out.2.2.2 H2.out.2.2 (Below.refl _ _) H3.out.2 HY.out.1 HY.out.2.1 HY.out.2.2.1 HY.out.2.2.2.1
  have hw3 : HW w3 B hb n f := by
    obtain ⟨_, _, _, _, _, _, o⟩ := hp
    exact HH.out.2.1.off o fun k hk hf => by
      rcases hf with g | g
      · exact hft_ne HH.out.1.pb HH.out.2.1 g hk
      · exact g
  obtain ⟨L3, _, o3, _⟩ := H3.out.2
  have hVs := HH.out.2.2.2.size
  have hd3 : DRow w3 V.heap.size (.slice a2 y.ds.length c2) y.ds := ERow.off H2.out.1 o3 fun q hq hr => by have := HN.out q hr; have := (ERow.lt H2.out.1 hq).1; omega
  have he3 : OEv w3 V.heap.size ev 0 y.cd := H2.out.2.1.off o3 fun q h1 _ h3 => by have := HN.out q h3; omega
  have hde := deeds_any hw3 hd3 HH.out.2.2.1 HY.out.2.2.2.2 fun q hq => drow_ne hw3 hd3 hq
  have H4 : Hid (HW w3 B hb n f ∧ DRow w3 V.heap.size (.slice a2 y.ds.length c2) y.ds ∧ OEv w3 V.heap.size ev 0 y.cd ∧ DRow w3 w2.heap.size (.slice a3 z.ds.length c3) z.ds ∧ PlR w K b kb r v L sq tr ms rs (fun _ => False) w3) := ⟨hw3, hd3, he3, H3.out.1, hp⟩
  clear hp hw3 o3 hd3 he3 hVs H2 H3
  go_upto_region 23 with (go_at_call 25; refine hde.mono ?_; rintro _ w4 ⟨rfl, H5⟩)
  have hlt : ∀ q, HFt hb f q → q < w.heap.size := fun q hq => by
    rcases hq with e | ⟨j, hj, e⟩
    · subst e; exact HH.out.2.1.lt
    · obtain ⟨xs, _, hr⟩ := HH.out.2.1.row j hj
      exact (ERow.lt hr e).2
  obtain ⟨f5, _, _, o5⟩ := H5.out
  have hVs := HH.out.2.2.2.size
  have d4 : DRow w4 V.heap.size (.slice a2 y.ds.length c2) y.ds := ERow.off H4.out.2.1 o5 fun q hq => drow_ne H4.out.1 H4.out.2.1 hq
  have d5 : DRow w4 w2.heap.size (.slice a3 z.ds.length c3) y.ds := by
    rw [HY.out.1.ds]
    exact ERow.off H4.out.2.2.2.1 o5 fun q hq => drow_ne H4.out.1 H4.out.2.2.2.1 hq
  have e5 : OEv w4 V.heap.size ev 0 z.cd := by
    rw [← HY.out.1.cd]
    exact H4.out.2.2.1.off o5 fun q h1 _ h3 => by have := hlt q h3; omega
  have hsd := sameDeeds_any d4 d5
  have hrf := fun m => refused_any ((e5.below (below_drewN (Below.refl _ _) m)).err)
  have HE : Hid (∀ m, PlH w K b kb r B hb (n + 2) v L f sq tr ms rs (w4.drewN m)) := fun m => PlH.of HH.out.1 HH.out.2.1 H4.out.2.2.2.2 fun f1 _ e => by
    subst e
    obtain ⟨f6, g1, g2, g3⟩ := H5.out
    exact ⟨f6, g1.below (below_drewN (Below.refl _ _) m), g2, g3.trans (Off.of_below (below_drewN (Below.refl _ _) m))⟩
  clear hlt o5 hVs d4 d5 e5 hde H4 H5
  go_wp2_with (first | (go_at_call 26; refine hsd.mono ?_; rintro _ w6 ⟨rfl, m6, rfl⟩) | (go_at_call 13; refine (hrf _).mono ?_; rintro _ w9 ⟨rfl, h9⟩; subst w9))
  go_ret
  exact ⟨rfl, HE.out _⟩
end
end Go.Proofs.YtoijhecphgdfnaaGreatDoor

/-
  The law's plays: Due, walked.
-/
namespace Go.Proofs.YtoijhecphgdfnaaGreatDoor
open Go.RowKit

section
variable {w w1 w' : World} {K b kb r B hb n : Nat} {v L : Value} {f : Nat → Value} {sq : Bool} {tr : Int} {ms rs : List Msg}
set_option maxRecDepth 100000 in
set_option maxHeartbeats 8000000 in
theorem plays_due (h : Pr w K b kb r v L sq tr ms rs) (hV : PVc w) (hw : HW w B hb n f) (hn : n + 2 ≤ 1000000000) (x : Opv) (hds : (dueA ms x.ct).ds.length ≤ 1000000000) :
    Calls Tryz.prog 7 #[.agg #[.pointer (some ⟨b, 0, none⟩), .pointer (some ⟨r, 0, none⟩)], .agg #[.int .i64 6, .string x.ct, .slice x.tp x.tn x.tc, .bool x.e, .int .i64 x.a, .int .i64 x.p, .string x.cd, .int .i64 x.n], .pointer (some ⟨hb, 0, none⟩)] w fun e w' => e = .returned (.bool true) ∧ Hid (PlH w K b kb r B hb (n + 2) v L f sq tr ms rs w') := by
  have bv : Below w.heap.size w ((w.alloc (.cells #[.pointer (some ⟨b, 0, none⟩), .pointer (some ⟨r, 0, none⟩)] 29)).alloc (.cells #[.int .i64 6, .string x.ct, .slice x.tp x.tn x.tc, .bool x.e, .int .i64 x.a, .int .i64 x.p, .string x.cd, .int .i64 x.n] 47)) := ((Below.refl _ _).alloc (Nat.le_refl _) _).alloc (by simp) _
  have bx := (Box.new w #[.pointer (some ⟨b, 0, none⟩), .pointer (some ⟨r, 0, none⟩)] 29).alloc (.cells #[.int .i64 6, .string x.ct, .slice x.tp x.tn x.tc, .bool x.e, .int .i64 x.a, .int .i64 x.p, .string x.cd, .int .i64 x.n] 47)
  have by_ := Box.new (w.alloc (.cells #[.pointer (some ⟨b, 0, none⟩), .pointer (some ⟨r, 0, none⟩)] 29)) #[.int .i64 6, .string x.ct, .slice x.tp x.tn x.tc, .bool x.e, .int .i64 x.a, .int .i64 x.p, .string x.cd, .int .i64 x.n] 47
  rw [World.size_alloc] at by_
  obtain ⟨V, hVV⟩ : ∃ V, ((w.alloc (.cells #[.pointer (some ⟨b, 0, none⟩), .pointer (some ⟨r, 0, none⟩)] 29)).alloc (.cells #[.int .i64 6, .string x.ct, .slice x.tp x.tn x.tc, .bool x.e, .int .i64 x.a, .int .i64 x.p, .string x.cd, .int .i64 x.n] 47)) = V := ⟨_, rfl⟩
  rw [hVV] at bv bx by_
  have HH : Hid (Pr w K b kb r v L sq tr ms rs ∧ HW w B hb n f ∧ n + 2 ≤ 1000000000 ∧ Below w.heap.size w V) := ⟨h, hw, hn, bv⟩
  have hPV := h.below bv
  have hpg := pDue hPV.pb.bx (hV.below bv) h.ok x.ct
  obtain ⟨y, hy⟩ : ∃ y, dueA ms x.ct = y := ⟨_, rfl⟩
  obtain ⟨z, hz⟩ : ∃ z, dueA rs x.ct = z := ⟨_, rfl⟩
  have hsm : y.Same z := by rw [← hy, ← hz]; exact due_same h.wis x.ct
  have HY : Hid (y.Same z ∧ TxIn y.ms ms ∧ TxIn z.ms rs ∧ Okk sq tr y.ms ∧ y.ds.length ≤ 1000000000) := ⟨hsm, by rw [← hy]; exact txin_due x.ct, by rw [← hz]; exact txin_due x.ct, by rw [← hy]; exact okk_due h.ok x.ct, by rw [← hy]; exact hds⟩
  rw [hy] at hpg
  obtain ⟨xb, hxb⟩ : ∃ xb, w.heap.size = xb := ⟨_, rfl⟩
  rw [hxb] at bx by_
  have y0 : V.cell? ⟨xb + 1, 0, none⟩ = some (.int .i64 6) := by_.cell 0
  have z0 : V.cell? ⟨xb, 0, none⟩ = some (.pointer (some ⟨b, 0, none⟩)) := bx.cell 0
  have y1 : V.cell? ⟨xb + 1, 1, none⟩ = some (.string x.ct) := by_.cell 1
  have HX2 : Hid (xb + 1 < V.heap.size ∧ V.cell? ⟨xb + 1, 1, none⟩ = some (.string x.ct)) := ⟨by_.lt, by_.cell 1⟩
  have HX : Hid (V.cell? ⟨xb, 1, none⟩ = some (.pointer (some ⟨r, 0, none⟩)) ∧ xb < V.heap.size ∧ w.heap.size = xb) := ⟨bx.cell 1, bx.lt, hxb⟩
  clear h hV hw hn hds bv bx by_ hPV hsm hy
  go_enter Tryz.func7, Tryz.ntmps7
  go_upto_region 31 with (go_at_call 29; refine hpg.mono ?_; rintro _ w2 ⟨a2, c2, ev, rfl, H2⟩)
  clear hpg hVV y0 z0 y1
  have nk : ∀ q, (q = kb ∨ v.ownBlock = some q) → q < w.heap.size := fun q hq => by
    rcases hq with e | e
    · exact (HH.out.1.pb.lt (Or.inr (Or.inl e))).2
    · exact (HH.out.1.pb.lt (Or.inr (Or.inr (Or.inr (Or.inl e))))).2
  have nr : ∀ q, (q = r ∨ L.ownBlock = some q) → q < w.heap.size := fun q hq => by
    rcases hq with e | e
    · exact (HH.out.1.pb.lt (Or.inr (Or.inr (Or.inl e)))).2
    · exact (HH.out.1.pb.lt (Or.inr (Or.inr (Or.inr (Or.inr (Or.inl e)))))).2
  obtain ⟨v1, k1, _, o2⟩ := (HH.out.1.below HH.out.2.2.2).pb.left H2.out.2.2 (txin_ht HY.out.2.1 _)
  have z1 : w2.cell? ⟨xb, 1, none⟩ = some (.pointer (some ⟨r, 0, none⟩)) := (o2.cell (p := ⟨xb, 1, none⟩) HX.out.2.1 fun hq => by have := nk xb hq; have := HX.out.2.2; omega).trans HX.out.1
  have t1 : w2.cell? ⟨xb + 1, 1, none⟩ = some (.string x.ct) := (o2.cell (p := ⟨xb + 1, 1, none⟩) HX2.out.1 fun hq => by have := nk (xb + 1) hq; have := HX.out.2.2; omega).trans HX2.out.2
  have hrg := rDue k1.rb x.ct
  rw [hz] at hrg
  have HN : Hid (∀ q, (q = r ∨ L.ownBlock = some q) → q < w.heap.size) := nr
  clear hz nk nr k1 o2
  go_upto_region 32 with (go_at_call 30; refine hrg.mono ?_; rintro _ w3 ⟨a3, c3, rfl, H3⟩)
  clear hrg z1
  have hp := Pr.call (P := fun _ => False) HH.out.1 HH.out.2.2.2 H2.out.2.2 (Below.refl _ _) H3.out.2 HY.out.1 HY.out.2.1 HY.out.2.2.1 HY.out.2.2.2.1
  have hw3 : HW w3 B hb n f := by
    obtain ⟨_, _, _, _, _, _, o⟩ := hp
    exact HH.out.2.1.off o fun k hk hf => by
      rcases hf with g | g
      · exact hft_ne HH.out.1.pb HH.out.2.1 g hk
      · exact g
  obtain ⟨L3, _, o3, _⟩ := H3.out.2
  have hVs := HH.out.2.2.2.size
  have hd3 : DRow w3 V.heap.size (.slice a2 y.ds.length c2) y.ds := ERow.off H2.out.1 o3 fun q hq hr => by have := HN.out q hr; have := (ERow.lt H2.out.1 hq).1; omega
  have he3 : OEv w3 V.heap.size ev 0 y.cd := H2.out.2.1.off o3 fun q h1 _ h3 => by have := HN.out q h3; omega
  have hde := deeds_any hw3 hd3 HH.out.2.2.1 HY.out.2.2.2.2 fun q hq => drow_ne hw3 hd3 hq
  have H4 : Hid (HW w3 B hb n f ∧ DRow w3 V.heap.size (.slice a2 y.ds.length c2) y.ds ∧ OEv w3 V.heap.size ev 0 y.cd ∧ DRow w3 w2.heap.size (.slice a3 z.ds.length c3) z.ds ∧ PlR w K b kb r v L sq tr ms rs (fun _ => False) w3) := ⟨hw3, hd3, he3, H3.out.1, hp⟩
  clear hp hw3 o3 hd3 he3 hVs H2 H3
  go_upto_region 33 with (go_at_call 25; refine hde.mono ?_; rintro _ w4 ⟨rfl, H5⟩)
  have hlt : ∀ q, HFt hb f q → q < w.heap.size := fun q hq => by
    rcases hq with e | ⟨j, hj, e⟩
    · subst e; exact HH.out.2.1.lt
    · obtain ⟨xs, _, hr⟩ := HH.out.2.1.row j hj
      exact (ERow.lt hr e).2
  obtain ⟨f5, _, _, o5⟩ := H5.out
  have hVs := HH.out.2.2.2.size
  have d4 : DRow w4 V.heap.size (.slice a2 y.ds.length c2) y.ds := ERow.off H4.out.2.1 o5 fun q hq => drow_ne H4.out.1 H4.out.2.1 hq
  have d5 : DRow w4 w2.heap.size (.slice a3 z.ds.length c3) y.ds := by
    rw [HY.out.1.ds]
    exact ERow.off H4.out.2.2.2.1 o5 fun q hq => drow_ne H4.out.1 H4.out.2.2.2.1 hq
  have e5 : OEv w4 V.heap.size ev 0 z.cd := by
    rw [← HY.out.1.cd]
    exact H4.out.2.2.1.off o5 fun q h1 _ h3 => by have := hlt q h3; omega
  have hsd := sameDeeds_any d4 d5
  have hrf := fun m => refused_any ((e5.below (below_drewN (Below.refl _ _) m)).err)
  have HE : Hid (∀ m, PlH w K b kb r B hb (n + 2) v L f sq tr ms rs (w4.drewN m)) := fun m => PlH.of HH.out.1 HH.out.2.1 H4.out.2.2.2.2 fun f1 _ e => by
    subst e
    obtain ⟨f6, g1, g2, g3⟩ := H5.out
    exact ⟨f6, g1.below (below_drewN (Below.refl _ _) m), g2, g3.trans (Off.of_below (below_drewN (Below.refl _ _) m))⟩
  clear hlt o5 hVs d4 d5 e5 hde H4 H5
  go_wp2_with (first | (go_at_call 26; refine hsd.mono ?_; rintro _ w6 ⟨rfl, m6, rfl⟩) | (go_at_call 13; refine (hrf _).mono ?_; rintro _ w9 ⟨rfl, h9⟩; subst w9))
  go_ret
  exact ⟨rfl, HE.out _⟩
end
end Go.Proofs.YtoijhecphgdfnaaGreatDoor
