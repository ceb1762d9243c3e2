import Derived.Test.YthnpckmgnompiaaGreatDoorWRep2
import Derived.Test.YthnpckmgnompiaaGreatDoorBookAlone
/-
  couriermem.Lists.record: two lists of records, written over, grown, looked at.
-/
namespace Go.Proofs.YthnpckmgnompiaaGreatDoor
open Go.RowKit Go.BigFrame

theorem VRow.len {w : World} {B : Nat} {e : TypeId} {a : Option Addr} {n c : Nat} {xs : List Value} (h : VRow w B e (.slice a n c) xs) : xs.length = n := by
  obtain ⟨_, _, e, _⟩ := h.isSlice
  simp only [Value.slice.injEq] at e
  exact e.2.1.symm
theorem VRow.at_ {w : World} {B : Nat} {e : TypeId} {a : Option Addr} {n c : Nat} {xs : List Value} (h : VRow w B e (.slice a n c) xs) {j : Nat} {u : Value} (hu : xs[j]? = some u) : ∃ g, a = some ⟨g, 0, none⟩ ∧ w.cell? ⟨g, j, none⟩ = some u := by
  have hj := (List.getElem?_eq_some_iff.1 hu).1
  rcases h.form with ⟨e1, rfl⟩ | ⟨g, cap, e1, _⟩
  · simp at hj
  · simp only [Value.slice.injEq] at e1
    obtain ⟨rfl, _, _⟩ := e1
    exact ⟨g, rfl, h.slot hu⟩
theorem VRow.stored {w : World} {B g n cap : Nat} {e : TypeId} {xs : List Value} (h : VRow w B e (.slice (some ⟨g, 0, none⟩) n cap) xs) (j : Nat) (z : Value) : VRow (w.setCell ⟨g, j, none⟩ z) B e (.slice (some ⟨g, 0, none⟩) n cap) (xs.set j z) := by
  obtain rfl := h.len
  have := (World.ownsRow.stored h j z).1
  unfold VRow
  rw [List.length_set]
  exact this
theorem VRow.thaw {w : World} {B g n cap : Nat} {e : TypeId} {xs : List Value} (h : VRow w B e (.slice (some ⟨g, 0, none⟩) n cap) xs) (j : Nat) : w.frozen? ⟨g, j, none⟩ = false := by
  rcases h.2 with ⟨h0, _⟩ | ⟨g', cap', cur, e, hB, hg, _⟩
  · cases h0
  · simp only [Value.slice.injEq, Option.some.injEq, Addr.mk.injEq, and_true] at e
    obtain ⟨rfl, _, _⟩ := e
    simp [World.frozen?, hg]
theorem VRow.pre {w : World} {B g n cap m : Nat} {e : TypeId} {xs : List Value} (h : VRow w B e (.slice (some ⟨g, 0, none⟩) n cap) xs) (hm : m ≤ n) : VRow w B e (.slice (some ⟨g, 0, none⟩) m cap) (xs.take m) := by
  have hn := h.len
  rcases h.2 with ⟨h0, _⟩ | ⟨g', cap', cur, e, hB, hg, hc, hM, hs, ht⟩
  · cases h0
  · simp only [Value.slice.injEq, Option.some.injEq, Addr.mk.injEq, and_true] at e
    obtain ⟨rfl, hnn, rfl⟩ := e
    have hl : (xs.take m).length = m := by rw [List.length_take]; omega
    refine ⟨by omega, Or.inr ⟨g, cap, cur, by rw [hl], hB, hg, by omega, hM, hs, ?_⟩⟩
    rw [hl, ← ht, List.take_take]
    congr 1
    omega
theorem VRow.under {w w' : World} {B : Nat} {e : TypeId} {v : Value} {xs : List Value} (h : VRow w B e v xs) (hb : Below w.heap.size w w') : VRow w' B e v xs :=
  h.keep fun g hg => hb.block g (h.lt hg).2
theorem Row.under {w w' : World} {B : Nat} {v : Value} {xs : List Int} (h : Row w B v xs) (hb : Below w.heap.size w w') : Row w' B v xs :=
  h.keep fun g hg => hb.block g (h.lt hg).2
theorem lists_ne {w : World} {B B' : Nat} {e e' : TypeId} {v v' : Value} {xs ys : List Value} (h : VRow w B e v xs) (h' : VRow w B' e' v' ys) (he : e ≠ e') : ∀ g, v.ownBlock = some g → v'.ownBlock ≠ some g := fun g hg hg' => by
  rcases h.2 with ⟨rfl, _⟩ | ⟨g1, c1, u1, rfl, _, b1, _⟩
  · cases hg
  rcases h'.2 with ⟨rfl, _⟩ | ⟨g2, c2, u2, rfl, _, b2, _⟩
  · cases hg'
  simp only [Value.ownBlock, Option.some.injEq] at hg hg'
  subst hg; subst hg'
  rw [b1] at b2
  simp only [Option.some.injEq, Obj.cells.injEq] at b2
  exact he b2.2.1
/-- Three fresh bytes. -/
theorem row_three (w : World) (B : Nat) (hB : B ≤ w.heap.size) (x y z : Int) : Row (w.alloc (.cells #[.int .u8 x, .int .u8 y, .int .u8 z] 5)) B (.slice (some ⟨w.heap.size, 0, none⟩) 3 3) [x, y, z] :=
  ⟨rfl, Or.inr ⟨w.heap.size, 3, #[.int .u8 x, .int .u8 y, .int .u8 z], rfl, hB, by show (Array.push _ _)[_]? = _; simp, Nat.le_refl _, by decide, rfl, rfl⟩⟩
/-- All of the first k are the mark i. -/
def Mks (w : World) (B : Nat) (i : Int) (us : List Value) (k : Nat) : Prop := ∀ (t : Nat) (u : Value), t < k → us[t]? = some u → Row w B u [i, 0, 7]
theorem Mks.off {P : Nat → Prop} {w w' : World} {B k : Nat} {i : Int} {us : List Value} (h : Mks w B i us k) (o : Off P w w') (hP : ∀ g, P g → w.heap.size ≤ g ∨ ∃ (e : TypeId) (v : Value) (xs : List Value), VRow w B e v xs ∧ e ≠ 5 ∧ v.ownBlock = some g) : Mks w' B i us k := fun t u ht hu => by
  refine (h t u ht hu).off o (fun g hg p => ?_)
  rcases hP g p with q | ⟨e, v, xs, hv, hne, hq⟩
  · have := ((h t u ht hu).lt hg).2; omega
  · have hr := h t u ht hu
    rcases hr.2 with ⟨rfl, _⟩ | ⟨g1, c1, u1, rfl, _, b1, _⟩
    · cases hg
    rcases hv.2 with ⟨rfl, _⟩ | ⟨g2, c2, u2, rfl, _, b2, _⟩
    · cases hq
    simp only [Value.ownBlock, Option.some.injEq] at hg hq
    subst hg; subst hq
    rw [b1] at b2
    simp only [Option.some.injEq, Obj.cells.injEq] at b2
    exact hne b2.2.1.symm
theorem Mks.under {w w' : World} {B k : Nat} {i : Int} {us : List Value} (h : Mks w B i us k) (hb : Below w.heap.size w w') : Mks w' B i us k := fun t u ht hu => (h t u ht hu).under hb
theorem Mks.put {w : World} {B k : Nat} {i : Int} {us : List Value} {v : Value} (h : Mks w B i us k) (hk : k < us.length) (hr : Row w B v [i, 0, 7]) : Mks w B i (us.set k v) (k + 1) := fun t u ht hu => by
  by_cases e : k = t
  · subst e
    rw [List.getElem?_set_self hk] at hu
    obtain rfl := Option.some.inj hu
    exact hr
  · rw [List.getElem?_set_ne e] at hu
    exact h t u (by omega) hu
theorem Mks.push {w : World} {B : Nat} {i : Int} {us : List Value} {v : Value} (h : Mks w B i us us.length) (hr : Row w B v [i, 0, 7]) : Mks w B i (us ++ [v]) (us ++ [v]).length := fun t u ht hu => by
  rw [List.length_append, List.length_singleton] at ht
  rcases (by omega : t < us.length ∨ t = us.length) with q | rfl
  · rw [List.getElem?_append_left q] at hu; exact h t u q hu
  · rw [List.getElem?_append_right (Nat.le_refl _), Nat.sub_self] at hu
    simp at hu
    subst hu
    exact hr
/-- Both lists, so many of each written over. -/
structure Rc (W wx : World) (B : Nat) (rv P Q : Value) (usP usQ : List Value) (kP kQ : Nat) : Prop where
  rr : VRow wx B 23 rv [P, Q]
  rp : VRow wx B 22 P usP
  rq : VRow wx B 22 Q usQ
  mp : Mks wx B 0 usP kP
  mq : Mks wx B 1 usQ kQ
  of : Off (fun z => P.ownBlock = some z ∨ Q.ownBlock = some z) W wx
  ne : ∀ g, P.ownBlock = some g → Q.ownBlock ≠ some g
  hB : B ≤ wx.heap.size
theorem Rc.under {W wx wy : World} {B : Nat} {rv P Q : Value} {usP usQ : List Value} {kP kQ : Nat} (h : Rc W wx B rv P Q usP usQ kP kQ) (hb : Below wx.heap.size wx wy) : Rc W wy B rv P Q usP usQ kP kQ :=
  ⟨h.rr.under hb, h.rp.under hb, h.rq.under hb, h.mp.under hb, h.mq.under hb, h.of.trans (Off.of_below hb), h.ne, Nat.le_trans h.hB hb.size⟩
theorem Rc.putP {W wx : World} {B g n c kP kQ : Nat} {rv Q : Value} {usP usQ : List Value} (h : Rc W wx B rv (.slice (some ⟨g, 0, none⟩) n c) Q usP usQ kP kQ) (hk : kP < usP.length) :
    Rc W ((wx.alloc (.cells #[.int .u8 0, .int .u8 0, .int .u8 7] 5)).setCell ⟨g, kP, none⟩ (.slice (some ⟨wx.heap.size, 0, none⟩) 3 3)) B rv (.slice (some ⟨g, 0, none⟩) n c) Q (usP.set kP (.slice (some ⟨wx.heap.size, 0, none⟩) 3 3)) usQ (kP + 1) kQ := by
  have hb : Below wx.heap.size wx (wx.alloc (.cells #[.int .u8 0, .int .u8 0, .int .u8 7] 5)) := (Below.refl _ _).alloc (Nat.le_refl _) _
  have h1 := h.under hb
  have hr := row_three wx B h.hB 0 0 7
  generalize hU : wx.alloc (.cells #[.int .u8 0, .int .u8 0, .int .u8 7] 5) = U at *
  have o : Off (fun z => z = g) U (U.setCell ⟨g, kP, none⟩ (.slice (some ⟨wx.heap.size, 0, none⟩) 3 3)) := Off.setCell (P := fun z => z = g) (Off.refl _ _) (p := ⟨g, kP, none⟩) rfl _
  have hP : ∀ z, z = g → U.heap.size ≤ z ∨ ∃ (e : TypeId) (v : Value) (xs : List Value), VRow U B e v xs ∧ e ≠ 5 ∧ v.ownBlock = some z := fun z e => Or.inr ⟨_, _, _, h1.rp, by decide, by rw [e]; rfl⟩
  exact ⟨h1.rr.off o (fun z e e' => by subst e'; exact lists_ne h1.rr h1.rp (by decide) z e rfl), h1.rp.stored kP _, h1.rq.off o (fun z e e' => by subst e'; exact h1.ne z rfl e), (h1.mp.put hk hr).off o hP, h1.mq.off o hP, h1.of.trans (o.mono (fun z e => Or.inl (by rw [e]; rfl))), h1.ne, by simpa using h1.hB⟩
theorem Rc.putQ {W wx : World} {B g n c kP kQ : Nat} {rv P : Value} {usP usQ : List Value} (h : Rc W wx B rv P (.slice (some ⟨g, 0, none⟩) n c) usP usQ kP kQ) (hk : kQ < usQ.length) :
    Rc W ((wx.alloc (.cells #[.int .u8 1, .int .u8 0, .int .u8 7] 5)).setCell ⟨g, kQ, none⟩ (.slice (some ⟨wx.heap.size, 0, none⟩) 3 3)) B rv P (.slice (some ⟨g, 0, none⟩) n c) usP (usQ.set kQ (.slice (some ⟨wx.heap.size, 0, none⟩) 3 3)) kP (kQ + 1) := by
  have hb : Below wx.heap.size wx (wx.alloc (.cells #[.int .u8 1, .int .u8 0, .int .u8 7] 5)) := (Below.refl _ _).alloc (Nat.le_refl _) _
  have h1 := h.under hb
  have hr := row_three wx B h.hB 1 0 7
  generalize hU : wx.alloc (.cells #[.int .u8 1, .int .u8 0, .int .u8 7] 5) = U at *
  have o : Off (fun z => z = g) U (U.setCell ⟨g, kQ, none⟩ (.slice (some ⟨wx.heap.size, 0, none⟩) 3 3)) := Off.setCell (P := fun z => z = g) (Off.refl _ _) (p := ⟨g, kQ, none⟩) rfl _
  have hP : ∀ z, z = g → U.heap.size ≤ z ∨ ∃ (e : TypeId) (v : Value) (xs : List Value), VRow U B e v xs ∧ e ≠ 5 ∧ v.ownBlock = some z := fun z e => Or.inr ⟨_, _, _, h1.rq, by decide, by rw [e]; rfl⟩
  exact ⟨h1.rr.off o (fun z e e' => by subst e'; exact lists_ne h1.rr h1.rq (by decide) z e rfl), h1.rp.off o (fun z e e' => by subst e'; exact h1.ne z e rfl), h1.rq.stored kQ _, h1.mp.off o hP, (h1.mq.put hk hr).off o hP, h1.of.trans (o.mono (fun z e => Or.inr (by rw [e]; rfl))), h1.ne, by simpa using h1.hB⟩
end Go.Proofs.YthnpckmgnompiaaGreatDoor

/-
  couriermem.Lists.record, walked.
-/
namespace Go.Proofs.YthnpckmgnompiaaGreatDoor
open Go.RowKit Go.BigFrame

/-- l has grown out of v. -/
structure VGw (w : World) (B : Nat) (v l : Value) (bs ys : List Value) : Prop where
  row : VRow w B 22 l ys
  val : VRow w B 22 v bs
  pre : ys.take bs.length = bs
  way : (∃ g n m cap, v = .slice (some ⟨g, 0, none⟩) n cap ∧ l = .slice (some ⟨g, 0, none⟩) m cap) ∨ (∀ g, l.ownBlock = some g → v.ownBlock ≠ some g)
theorem VGw.refl {w : World} {B : Nat} {v : Value} {bs : List Value} (h : VRow w B 22 v bs) : VGw w B v v bs bs := by
  refine ⟨h, h, List.take_length, ?_⟩
  rcases h.form with ⟨rfl, _⟩ | ⟨g, cap, rfl, _⟩
  · exact Or.inr (fun g e => by cases e)
  · exact Or.inl ⟨_, _, _, _, rfl, rfl⟩
theorem run_vgw {w : World} {B : Nat} {v l : Value} {bs ys : List Value} (h : VGw w B v l bs ys) (hB : B ≤ w.heap.size) (hl : ys.length + 1 ≤ 1099511627776) (z : Value) (hz : z.oneCell' = true) :
    ∃ a c w', (Builtin.append_ #[23, 23] 23 #[l, .slice (some ⟨w.heap.size, 0, none⟩) 1 1]).run Tryz.prog (w.alloc (.cells #[z] 22)) = .ok (.slice a (ys.length + 1) c) w' ∧ VGw w' B v (.slice a (ys.length + 1) c) bs (ys ++ [z]) ∧ Off (fun k => l.ownBlock = some k) w w' ∧ ((Value.slice a (ys.length + 1) c).ownBlock = l.ownBlock ∨ ∃ g, (Value.slice a (ys.length + 1) c).ownBlock = some g ∧ w.heap.size ≤ g) := by
  obtain ⟨i, hi, hzz, hs, hby⟩ := slinfo
  have hbl : Below w.heap.size w (w.alloc (.cells #[z] 22)) := (Below.refl w.heap.size w).alloc (Nat.le_refl _) _
  have hval : VRow (w.alloc (.cells #[z] 22)) B 22 v bs := h.val.under hbl
  have hbl2 : bs.length ≤ ys.length := by have := congrArg List.length h.pre; rw [List.length_take] at this; omega
  obtain ⟨v', w', hr, r2, p⟩ := run_append_two (P := Tryz.prog) (w.alloc (.cells #[z] 22)) B 23 23 22 i _ 24 Tryz.underlying23 hi hzz hs hby rfl l ys (h.row.under hbl) ⟨w.heap.size, 0, none⟩ 1 1 [z] rfl (cell_one_new w z _) (fun x hx => by simp only [List.mem_singleton] at hx; subst hx; exact hz) (by unfold maxLen; omega) (by omega) (by simp; omega)
  have hof : Off (fun k => l.ownBlock = some k) w w' := by
    refine ((Off.refl _ w).alloc (.cells #[z] 22)).trans ?_
    cases p with
    | same g cap hv hv' hg => rw [hv]; exact Off.of_grown hg
    | idle hv hm hw => omega
    | fresh cap hv' hg hs => exact (Off.of_grown hg).mono (fun k e => by cases e)
  obtain ⟨a, c, e1, _⟩ := r2.isSlice
  rw [List.length_append, List.length_singleton] at e1
  subst e1
  have hpre : (ys ++ [z]).take bs.length = bs := by rw [List.take_append_of_le_length hbl2]; exact h.pre
  cases p with
  | same g cap hv hv' hg =>
    simp only [Value.slice.injEq] at hv'
    obtain ⟨rfl, _, rfl⟩ := hv'
    subst hv
    refine ⟨_, _, w', hr, ⟨r2, ?_, hpre, ?_⟩, hof, Or.inl rfl⟩
    · rcases h.way with ⟨g1, n1, m1, c1, e1, e2⟩ | hne
      · simp only [Value.slice.injEq, Option.some.injEq, Addr.mk.injEq, and_true] at e2
        obtain ⟨rfl, _, rfl⟩ := e2
        subst e1
        have hn := h.val.len
        have hp := r2.pre (m := n1) (by omega)
        rw [← hn, hpre] at hp
        rw [← hn]
        exact hp
      · exact hval.off (Off.of_grown hg) (fun k e p => by simp only [Option.some.injEq] at p; subst p; exact hne _ rfl e)
    · rcases h.way with ⟨g1, n1, m1, c1, e1, e2⟩ | hne
      · simp only [Value.slice.injEq, Option.some.injEq, Addr.mk.injEq, and_true] at e2
        obtain ⟨rfl, _, rfl⟩ := e2
        exact Or.inl ⟨_, _, _, _, e1, rfl⟩
      · exact Or.inr (fun k e => hne k e)
  | idle hv hm hw => omega
  | fresh cap hv' hg hs' =>
    refine ⟨a, c, w', hr, ⟨r2, hval.off (Off.of_grown hg) (fun k e p => by cases p), hpre, Or.inr (fun k e e2 => ?_)⟩, hof, Or.inr ⟨w.heap.size + 1, by rw [hv']; simp [Value.ownBlock], by omega⟩⟩
    rw [hv'] at e
    simp only [Value.ownBlock, Option.some.injEq] at e
    have := (h.val.lt e2).2
    simp at e
    omega
end Go.Proofs.YthnpckmgnompiaaGreatDoor

/-
  couriermem.Lists.record: growth and look.
-/
namespace Go.Proofs.YthnpckmgnompiaaGreatDoor
open Go.RowKit Go.BigFrame

/-- A list l grown out of L (marks mk throughout), since the world U. -/
structure Gr (w U wx : World) (B : Nat) (L l : Value) (us ys : List Value) (mk : Int) : Prop where
  gw : VGw wx B L l us ys
  my : Mks wx B mk ys ys.length
  of : Off (fun z => L.ownBlock = some z) U wx
  nw : ∀ z, l.ownBlock = some z → L.ownBlock = some z ∨ U.heap.size ≤ z
  hB : B ≤ wx.heap.size
theorem Gr.start {w U : World} {B : Nat} {L : Value} {us : List Value} {mk : Int} (h : VRow U B 22 L us) (hm : Mks U B mk us us.length) (hB : B ≤ U.heap.size) : Gr w U U B L L us us mk :=
  ⟨VGw.refl h, hm, Off.refl _ _, fun _ e => Or.inl e, hB⟩
theorem Gr.step {w U wx : World} {B : Nat} {L l : Value} {us ys : List Value} {mk : Int} (h : Gr w U wx B L l us ys mk) (hl : ys.length + 1 ≤ 1099511627776) :
    ∃ a c w', (Builtin.append_ #[23, 23] 23 #[l, .slice (some ⟨(wx.alloc (.cells #[.int .u8 mk, .int .u8 0, .int .u8 7] 5)).heap.size, 0, none⟩) 1 1]).run Tryz.prog ((wx.alloc (.cells #[.int .u8 mk, .int .u8 0, .int .u8 7] 5)).alloc (.cells #[.slice (some ⟨wx.heap.size, 0, none⟩) 3 3] 22)) = .ok (.slice a (ys.length + 1) c) w' ∧ Gr w U w' B L (.slice a (ys.length + 1) c) us (ys ++ [.slice (some ⟨wx.heap.size, 0, none⟩) 3 3]) mk := by
  have hb : Below wx.heap.size wx (wx.alloc (.cells #[.int .u8 mk, .int .u8 0, .int .u8 7] 5)) := (Below.refl _ _).alloc (Nat.le_refl _) _
  have hr := row_three wx B h.hB mk 0 7
  obtain ⟨V, hV⟩ : ∃ V, wx.alloc (.cells #[.int .u8 mk, .int .u8 0, .int .u8 7] 5) = V := ⟨_, rfl⟩
  rw [hV] at hb hr ⊢
  have g1 : VGw V B L l us ys := ⟨h.gw.row.under hb, h.gw.val.under hb, h.gw.pre, h.gw.way⟩
  have m1 := h.my.under hb
  obtain ⟨a, c, w', e1, e2, o, s⟩ := run_vgw g1 (Nat.le_trans h.hB hb.size) hl (.slice (some ⟨wx.heap.size, 0, none⟩) 3 3) rfl
  have hP : ∀ z, l.ownBlock = some z → V.heap.size ≤ z ∨ ∃ (e : TypeId) (v : Value) (xs : List Value), VRow V B e v xs ∧ e ≠ 5 ∧ v.ownBlock = some z := fun z e => Or.inr ⟨_, _, _, g1.row, by decide, e⟩
  have hUx : U.heap.size ≤ wx.heap.size := h.of.size
  refine ⟨a, c, w', e1, e2, ?_, ?_, fun z e => ?_, Nat.le_trans (Nat.le_trans h.hB hb.size) o.size⟩
  · exact (m1.off o hP).push ((Mks.off (us := [_]) (k := 1) (fun t u ht hu => by
      obtain rfl : t = 0 := by omega
      simp at hu; subst hu; exact hr) o hP) 0 _ (by omega) rfl)
  · refine (h.of.trans (Off.of_below hb)).join o (fun z hz e => ?_)
    rcases h.nw z e with q | q
    · exact q
    · omega
  · rcases s with q | ⟨g', q, hg'⟩
    · rw [q] at e; exact h.nw z e
    · rw [q, Option.some.injEq] at e; have := hb.size; exact Or.inr (by omega)
theorem Gr.beside {w U wx : World} {B B' : Nat} {L l v : Value} {us ys xs : List Value} {mk : Int} {e : TypeId} (h : Gr w U wx B L l us ys mk) (hv : VRow U B' e v xs) (hn : ∀ z, v.ownBlock = some z → L.ownBlock ≠ some z) : VRow wx B' e v xs :=
  hv.off h.of (fun z e e' => hn z e e')
theorem Gr.marks {w U wx : World} {B : Nat} {L l : Value} {us ys xs : List Value} {mk mk' : Int} {k : Nat} (h : Gr w U wx B L l us ys mk) (hL : VRow U B 22 L us) (hm : Mks U B mk' xs k) : Mks wx B mk' xs k :=
  hm.off h.of (fun z e => Or.inr ⟨_, _, _, hL, by decide, e⟩)
end Go.Proofs.YthnpckmgnompiaaGreatDoor
