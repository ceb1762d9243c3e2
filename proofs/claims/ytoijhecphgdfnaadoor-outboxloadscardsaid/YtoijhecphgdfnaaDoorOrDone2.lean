import Derived.Test.YtoijhecphgdfnaaDoorDcRefA
/-
  The document's box: done.
-/
namespace Go.Proofs.YtoijhecphgdfnaaDoor
open Go.RowKit

theorem act_cells {w : World} {A n c k : Nat} {a : Option Addr} {l : ActL} {y : Int × ByteArray} (h : ActRow w A (.slice a n c) l) (hy : l[k]? = some y) : ∃ g, a = some ⟨g, 0, none⟩ ∧ g < w.heap.size ∧ w.cell? ⟨g, k * 2, none⟩ = some (.int .i64 y.1) ∧ w.cell? ⟨g, k * 2 + 1, none⟩ = some (.string y.2) := by
  obtain ⟨g, e, hg, hc⟩ := ERow.at_ (enc := acells) (k := 2) (fun _ => rfl) (show ERow w A 68 2 acells (.slice a n c) l from h) hy
  exact ⟨g, e, hg, hc 0 (by decide), hc 1 (by decide)⟩
theorem actrow_off {w w' : World} {P : Nat → Prop} {A : Nat} {v : Value} {l : ActL} (h : ActRow w A v l) (o : Off P w w') (hP : ∀ g, v.ownBlock = some g → ¬ P g) : ActRow w' A v l := ERow.off (enc := acells) (show ERow w A 68 2 acells v l from h) o hP
theorem actrow_type {w : World} {A : Nat} {v : Value} {l : ActL} (h : ActRow w A v l) {g : Nat} (hg : v.ownBlock = some g) : ∃ cs, w.heap[g]? = some (.cells cs 68 (0, 0)) := by
  rcases h.2 with ⟨e, _⟩ | ⟨g', cap, cur, e, _, hb, _⟩
  · rw [e] at hg; cases hg
  · rw [e] at hg
    simp only [Value.ownBlock, Option.some.injEq] at hg
    subst hg
    exact ⟨_, hb⟩
theorem tks_take {x : Int} {t : Msg × Bool} {l : ActL} {k : Nat} {y : Int × ByteArray} (h : l[k]? = some y) : tksS x t (l.take (k + 1)) = tkS x (tksS x t (l.take k)) y.1 := tks_next h
theorem deeds_take {c : ByteArray} {l : ActL} {k : Nat} {y : Int × ByteArray} (h : l[k]? = some y) : deedsS c (l.take (k + 1)) = deedsS c (l.take k) ++ [(c, y.1, y.2)] := by
  unfold deedsS
  rw [List.take_add_one, h]
  simp
theorem encD_one (d : Deed) : ∀ u ∈ encD d, u.oneCell' = true := fun u hu => by
  simp only [encD, List.mem_cons, List.not_mem_nil, or_false] at hu
  rcases hu with rfl | rfl | rfl <;> rfl
/-- In the midst of done's first loop. -/
structure DnI (w : World) (B r g n c : Nat) (sq : Bool) (tr : Int) (ms : List Msg) (i : Nat) (m : Msg) (A : Nat) (av : Value) (l : ActL) (x : Int) (k : Nat) (v11 : Value) (wx : World) : Prop where
  rb : RB wx B r (.slice (some ⟨g, 0, none⟩) n c) sq tr (ms.set i (tksS x (m, false) (l.take k)).1)
  row : DRow wx w.heap.size v11 (deedsS m.ct (l.take k))
  act : ActRow wx A av l
  off : Off (fun q => q = g) w wx
section
variable {w wx w' : World} {B r g n c i A : Nat} {sq : Bool} {tr : Int} {ms : List Msg} {m : Msg} {av v11 : Value} {l : ActL} {x : Int} {k : Nat}
theorem DnI.cells (h : DnI w B r g n c sq tr ms i m A av l x k v11 wx) (hm : i < ms.length) : wx.cell? ⟨r, 0, none⟩ = some (.slice (some ⟨g, 0, none⟩) n c) ∧ g < wx.heap.size ∧ Cells wx g (i * 10) (tksS x (m, false) (l.take k)).1 := by
  obtain ⟨g', e, hg, hc⟩ := erow_cells h.rb.row (j := i) (List.getElem?_set_self hm)
  simp only [Option.some.injEq, Addr.mk.injEq, and_true] at e
  subst e
  exact ⟨hcell h.rb.blk 0, hg, hc⟩
/-- A deed more. -/
theorem DnI.deed (h : DnI w B r g n c sq tr ms i m A av l x k v11 wx) (hk : l.length ≤ 1000) {y : Int × ByteArray} (hy : l[k]? = some y) :
    ∃ a2 c2 W2, (Builtin.append_ #[66, 66] 66 #[v11, .slice (some ⟨wx.heap.size, 0, none⟩) 1 1]).run Tryd.prog (wx.alloc (.cells #[.string m.ct, .int .i64 y.1, .string y.2] 70)).drew = .ok (.slice a2 (k + 1) c2) W2 ∧ Hid (RB W2 B r (.slice (some ⟨g, 0, none⟩) n c) sq tr (ms.set i (tksS x (m, false) (l.take k)).1) ∧ DRow W2 w.heap.size (.slice a2 (k + 1) c2) (deedsS m.ct (l.take (k + 1))) ∧ ActRow W2 A av l ∧ Off (fun q => q = g) w W2) := by
  have hkl := (List.getElem?_eq_some_iff.1 hy).1
  have hd : DRow wx.drew w.heap.size v11 (deedsS m.ct (l.take k)) := ERow.off h.row ((Off.refl (fun _ => False) _).drew) fun _ _ => id
  have hlen : (deedsS m.ct (l.take k)).length = k := by unfold deedsS; simp; omega
  obtain ⟨a2, c2, W2, hr, r2, o2, s2⟩ := run_epush (P := Tryd.prog) (t := 66) Tryd.underlying66 celD encD_len encD_one (w := wx.drew) hd (m.ct, y.1, y.2) #[.string m.ct, .int .i64 y.1, .string y.2] rfl (by omega) (by decide) h.off.size
  rw [hlen] at hr r2
  have o : Off (fun q => v11.ownBlock = some q) wx W2 := ((Off.refl _ _).drew).trans o2
  have nd : ∀ {v : Value} {cs : Array Value} {q : Nat} {t : TypeId}, t ≠ 70 → wx.heap[q]? = some (.cells cs t (0, 0)) → v11.ownBlock ≠ some q := fun {v cs q t} ht hc hq => by
    rcases h.row.2 with ⟨e, _⟩ | ⟨g', cap, cur, e, _, hb, _⟩
    · rw [e] at hq; cases hq
    · rw [e] at hq
      simp only [Value.ownBlock, Option.some.injEq] at hq
      subst hq
      rw [hc] at hb
      simp only [Option.some.injEq, Obj.cells.injEq] at hb
      exact ht hb.2.1
  refine ⟨a2, c2, W2, hr, h.rb.off o (nd (v := v11) (by decide) h.rb.blk) (fun q hq => ?_) (fun y hy q hq => ?_), ?_, actrow_off h.act o fun q hq => ?_, h.off.join o fun q hl hq => ?_⟩
  · obtain ⟨cs, hc⟩ := msrow_type h.rb.row hq
    exact nd (v := v11) (by decide) hc
  · obtain ⟨cs, hc⟩ := brow_type (h.rb.own y hy).1 hq
    exact nd (v := v11) (by decide) hc
  · rw [deeds_take hy]; exact r2
  · obtain ⟨cs, hc⟩ := actrow_type h.act hq
    exact nd (v := v11) (by decide) hc
  · have := (ERow.lt h.row hq).1
    omega
theorem DnI.put (h1 : RB wx B r (.slice (some ⟨g, 0, none⟩) n c) sq tr (ms.set i (tksS x (m, false) (l.take k)).1)) (h2 : DRow wx w.heap.size v11 (deedsS m.ct (l.take (k + 1)))) (h3 : ActRow wx A av l) (h4 : Off (fun q => q = g) w wx) (hi : i < ms.length) {m' : Msg} {q : Nat} {u : Value} (hq : q < 10) (he : encM m' = (encM (tksS x (m, false) (l.take k)).1).set q u) (ht : m'.tp = (tksS x (m, false) (l.take k)).1.tp ∧ m'.tn = (tksS x (m, false) (l.take k)).1.tn ∧ m'.tc = (tksS x (m, false) (l.take k)).1.tc ∧ m'.tx = (tksS x (m, false) (l.take k)).1.tx) (e : (tksS x (m, false) (l.take (k + 1))).1 = m') : DnI w B r g n c sq tr ms i m A av l x (k + 1) v11 (wx.setCell ⟨g, i * 10 + q, none⟩ u) := by
  have o : Off (fun z => z = g) wx (wx.setCell ⟨g, i * 10 + q, none⟩ u) := Off.setCell (P := fun z => z = g) (Off.refl _ _) (p := ⟨g, i * 10 + q, none⟩) rfl _
  have hgt : ∃ cs, wx.heap[g]? = some (.cells cs 74 (0, 0)) := msrow_type h1.row (g := g) rfl
  obtain ⟨cs, hgt⟩ := hgt
  refine ⟨?_, ERow.off h2 o fun z hz e2 => ?_, actrow_off h3 o fun z hz e2 => ?_, h4.trans o⟩
  · have := h1.set (List.getElem?_set_self hi) hq he ht
    rw [List.set_set] at this
    rw [e]
    exact this
  · rcases h2.2 with ⟨e1, _⟩ | ⟨g', cap, cur, e1, _, hb, _⟩
    · rw [e1] at hz; cases hz
    · rw [e1] at hz
      simp only [Value.ownBlock, Option.some.injEq] at hz
      rw [hz, e2, hgt] at hb
      simp at hb
  · obtain ⟨cs', hc⟩ := actrow_type h3 hz
    rw [e2, hgt] at hc
    simp at hc
end
end Go.Proofs.YtoijhecphgdfnaaDoor

/-
  The document's box: done, walked.
-/
namespace Go.Proofs.YtoijhecphgdfnaaDoor
open Go.RowKit

/-- What done leaves. -/
def donS (ms : List Msg) (i : Nat) (m : Msg) (x : Int) (l : ActL) : List Msg := if (tksS x (m, false) l).2 = true then ms.eraseIdx i else ms.set i (tksS x (m, false) l).1
def RDoQ (w : World) (B r : Nat) (L : Value) (sq : Bool) (tr : Int) (ms' : List Msg) (ds : List Deed) (e : Ending) (w' : World) : Prop := ∃ a c, e = .returned (.slice a ds.length c) ∧ Hid (DRow w' w.heap.size (.slice a ds.length c) ds ∧ RBQ w B r L sq tr ms' w')
section
variable {w wx w' : World} {B r g n c i A : Nat} {sq : Bool} {tr : Int} {ms : List Msg} {m : Msg} {av v11 L : Value} {l : ActL} {x : Int} {k : Nat}
theorem DnI.start {m0 : Msg} (h : RB w B r (.slice (some ⟨g, 0, none⟩) n c) sq tr ms) (hm : ms[i]? = some m0) (st lf x : Int) (ha : ActRow w A av l) (o : Obj) : DnI w B r g n c sq tr ms i { m0 with st := st, lf := lf } A av l x 0 (.slice none 0 0) (((w.setCell ⟨g, i * 10 + 7, none⟩ (.int .i64 st)).setCell ⟨g, i * 10 + 8, none⟩ (.int .i64 lf)).alloc o) := by
  have hi := (List.getElem?_eq_some_iff.1 hm).1
  have h1 := h.set (q := 7) (u := .int .i64 st) (m' := { m0 with st := st }) hm (by decide) rfl ⟨rfl, rfl, rfl, rfl⟩
  have h2 := h1.set (q := 8) (u := .int .i64 lf) (m' := { m0 with st := st, lf := lf }) (List.getElem?_set_self hi) (by decide) rfl ⟨rfl, rfl, rfl, rfl⟩
  rw [List.set_set] at h2
  have b0 := (Below.refl ((w.setCell ⟨g, i * 10 + 7, none⟩ (.int .i64 st)).setCell ⟨g, i * 10 + 8, none⟩ (.int .i64 lf)).heap.size ((w.setCell ⟨g, i * 10 + 7, none⟩ (.int .i64 st)).setCell ⟨g, i * 10 + 8, none⟩ (.int .i64 lf))).alloc (Nat.le_refl _) o
  have oo : Off (fun q => q = g) w (((w.setCell ⟨g, i * 10 + 7, none⟩ (.int .i64 st)).setCell ⟨g, i * 10 + 8, none⟩ (.int .i64 lf)).alloc o) := (Off.setCell (P := fun q => q = g) (Off.setCell (P := fun q => q = g) (Off.refl _ _) (p := ⟨g, i * 10 + 7, none⟩) rfl _) (p := ⟨g, i * 10 + 8, none⟩) rfl _).alloc o
  refine ⟨h2.below b0, ERow.nil _ _ _ _ _, actrow_off ha oo fun q hq e => ?_, oo⟩
  obtain ⟨cs, hc⟩ := actrow_type ha hq
  obtain ⟨cs', hc'⟩ := msrow_type h.row (g := g) rfl
  rw [e, hc'] at hc
  simp at hc
/-- What is left of a list without one. -/
theorem erase_here {α : Type} {xs : List α} {i : Nat} : (xs.take (i + 1)).eraseIdx i = (xs.take i).eraseIdx i := by
  rw [List.eraseIdx_eq_take_drop_succ, List.eraseIdx_eq_take_drop_succ]
  simp [List.take_take, List.drop_take]
theorem erase_next {α : Type} {xs : List α} {i k : Nat} {y : α} (h : xs[k]? = some y) (hk : k ≠ i) : (xs.take (k + 1)).eraseIdx i = (xs.take k).eraseIdx i ++ [y] := by
  have hkl := (List.getElem?_eq_some_iff.1 h).1
  rw [List.take_add_one, h]
  simp only [Option.toList_some]
  rcases Nat.lt_or_ge i k with g | g
  · exact List.eraseIdx_append_of_lt_length (by simp; omega) _
  · rw [List.eraseIdx_of_length_le (by simp; omega), List.eraseIdx_of_length_le (by simp; omega)]
/-- In the midst of done's second loop. -/
structure DrI (w : World) (B r g n c : Nat) (sq : Bool) (tr : Int) (xs : List Msg) (i : Nat) (ds : List Deed) (v11 : Value) (k : Nat) (v15 : Value) (wx : World) : Prop where
  rb : RB wx B r (.slice (some ⟨g, 0, none⟩) n c) sq tr xs
  row : DRow wx w.heap.size v11 ds
  rest : ERow wx w.heap.size 74 10 encM v15 ((xs.take k).eraseIdx i)
  off : Off (fun q => q = g) w wx
theorem DrI.push {xs : List Msg} {ds : List Deed} {v15 : Value} (h : DrI w B r g n c sq tr xs i ds v11 k v15 wx) {y : Msg} (hy : xs[k]? = some y) (hk : k ≠ i) (hgl : g < w.heap.size) : ∃ a2 n2 c2 W2, (Builtin.append_ #[60, 60] 60 #[v15, .slice (some ⟨wx.heap.size, 0, none⟩) 1 1]).run Tryd.prog (wx.alloc (.cells #[.string y.ct, .slice y.tp y.tn y.tc, .bool y.e, .int .i64 y.a, .int .i64 y.p, .int .i64 y.nu, .bool y.nt, .int .i64 y.st, .int .i64 y.lf, .bool y.un] 74)) = .ok (.slice a2 n2 c2) W2 ∧ Hid (DrI w B r g n c sq tr xs i ds v11 (k + 1) (.slice a2 n2 c2) W2) := by
  have hl := h.rb.len
  have hln : ((xs.take k).eraseIdx i).length ≤ 32 := Nat.le_trans (List.length_eraseIdx_le _ _) (by rw [List.length_take]; omega)
  obtain ⟨a2, c2, W2, hr, r2, o2, s2⟩ := run_epush (P := Tryd.prog) (t := 60) Tryd.underlying60 celS encM_len encM_one (w := wx) h.rest y #[.string y.ct, .slice y.tp y.tn y.tc, .bool y.e, .int .i64 y.a, .int .i64 y.p, .int .i64 y.nu, .bool y.nt, .int .i64 y.st, .int .i64 y.lf, .bool y.un] rfl (by omega) (by decide) h.off.size
  have nv : ∀ {q : Nat} {cs : Array Value} {t : TypeId}, t ≠ 74 → wx.heap[q]? = some (.cells cs t (0, 0)) → v15.ownBlock ≠ some q := fun {q cs t} ht hc hq => by
    obtain ⟨cs', hc'⟩ := msrow_type h.rest hq
    rw [hc] at hc'
    simp only [Option.some.injEq, Obj.cells.injEq] at hc'
    exact ht hc'.2.1
  refine ⟨a2, _, c2, W2, hr, h.rb.off o2 (nv (by decide) h.rb.blk) (fun q hq e => ?_) (fun z hz q hq => ?_), ERow.off h.row o2 fun q hq => ?_, by rw [erase_next hy hk]; exact r2, h.off.join o2 fun q hl hq => ?_⟩
  · simp only [Value.ownBlock, Option.some.injEq] at hq
    have := (ERow.lt h.rest e).1
    omega
  · obtain ⟨cs, hc⟩ := brow_type (h.rb.own z hz).1 hq
    exact nv (by decide) hc
  · rcases h.row.2 with ⟨e, _⟩ | ⟨g', cap, cur, e, _, hb, _⟩
    · rw [e] at hq; cases hq
    · rw [e] at hq
      simp only [Value.ownBlock, Option.some.injEq] at hq
      subst hq
      exact nv (by decide) hb
  · have := (ERow.lt h.rest hq).1
    omega
end
end Go.Proofs.YtoijhecphgdfnaaDoor
