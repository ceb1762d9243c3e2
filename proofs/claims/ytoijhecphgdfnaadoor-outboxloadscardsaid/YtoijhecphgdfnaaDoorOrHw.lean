import Derived.Test.YtoijhecphgdfnaaDoorOrTwo
import Derived.Test.YtoijhecphgdfnaaDoorDkRow
/-
  Add and Give of both boxes; what a call of the law's leaves.
-/
namespace Go.Proofs.YtoijhecphgdfnaaDoor
open Go.RowKit

/-- What an Add of the program's leaves. -/
def PaQ (w : World) (b kb : Nat) (v : Value) (sq : Bool) (tr : Int) (ms : List Msg) (m : Msg) (e : Ending) (w' : World) : Prop :=
  ∃ ev, e = .returned ev ∧ Hid (OEv w' w.heap.size ev 0 (addC sq ms m) ∧ ((addC sq ms m ≠ 0 ∧ BxQ w b kb v sq tr ms w') ∨ (addC sq ms m = 0 ∧ ∃ a c, (∀ q, (Value.slice a m.tn c).ownBlock = some q → w.heap.size ≤ q) ∧ BxQ w b kb v sq tr (ms ++ [m.wi a c]) w')))
/-- What an Add of the document's leaves. -/
def RaQ (w : World) (B r : Nat) (L : Value) (sq : Bool) (tr : Int) (rs : List Msg) (m : Msg) (e : Ending) (w' : World) : Prop :=
  e = .returned (.int .i64 (addC sq rs m)) ∧ Hid ((addC sq rs m ≠ 0 ∧ RBQ w B r L sq tr rs w') ∨ (addC sq rs m = 0 ∧ ∃ a c, (∀ q, (Value.slice a m.tn c).ownBlock = some q → w.heap.size ≤ q) ∧ RBQ w B r L sq tr (rs ++ [m.wi a c]) w'))
section
variable {w w' : World} {b kb B r : Nat} {v L : Value} {sq : Bool} {tr : Int} {ms rs : List Msg} {m : Msg}
end
/-- What a call of the law's leaves of the two boxes: P, what else it writes. -/
def PlR (w : World) (K b kb r : Nat) (v L : Value) (sq : Bool) (tr : Int) (ms rs : List Msg) (P : Nat → Prop) (w' : World) : Prop :=
  ∃ v' L' ms' rs', Pr w' K b kb r v' L' sq tr ms' rs' ∧ (∀ q, Ft b kb r v' L' ms' rs' q → Ft b kb r v L ms rs q ∨ w.heap.size ≤ q) ∧ Off (fun q => Ft b kb r v L ms rs q ∨ P q) w w'
section
variable {w w1 w2 w' : World} {K b kb r : Nat} {v L : Value} {sq : Bool} {tr : Int} {ms rs ms' rs' : List Msg} {P : Nat → Prop}
theorem PlR.refl (h : Pr w K b kb r v L sq tr ms rs) : PlR w K b kb r v L sq tr ms rs P w := ⟨v, L, ms, rs, h, fun _ hq => Or.inl hq, Off.refl _ _⟩
/-- Both have moved. -/
theorem Pr.step (h : Pr w K b kb r v L sq tr ms rs) (hb : Below w.heap.size w w1) (hq : BxQ w1 b kb v sq tr ms' w2) (ht : ∀ y ∈ ms', ∀ q, y.blk = some q → (∃ z ∈ ms, z.blk = some q) ∨ w.heap.size ≤ q) :
    ∃ v', Pb w2 K b kb r v' L sq tr ms' rs ∧ (∀ q, Ft b kb r v' L ms' rs q → Ft b kb r v L ms rs q ∨ w.heap.size ≤ q) ∧ Off (fun q => Ft b kb r v L ms rs q) w w2 := by
  have h1 := h.pb.below hb
  have hbs := hb.size
  have ht' : ∀ y ∈ ms', ∀ q, y.blk = some q → (∃ z ∈ ms, z.blk = some q) ∨ w.heap.size ≤ q := ht
  obtain ⟨v', q1, q2, q3⟩ := hq
  have key := Pb.left (w := w) (w' := w2) h.pb (ms' := ms') ⟨v', q1, (Off.of_below hb).trans q2, fun q hq => (q3 q hq).imp id fun g => Nat.le_trans hbs g⟩ ht'
  obtain ⟨v2, k1, k2, k3⟩ := key
  exact ⟨v2, k1, k2, k3.mono fun q hq => by
    rcases hq with e | e
    · exact Or.inr (Or.inl e)
    · exact Or.inr (Or.inr (Or.inr (Or.inl e)))⟩
theorem Pr.both {w3 w4 : World} (h : Pr w K b kb r v L sq tr ms rs) (hb : Below w.heap.size w w1) (hq : BxQ w1 b kb v sq tr ms' w2) (ht : ∀ y ∈ ms', ∀ q, y.blk = some q → (∃ z ∈ ms, z.blk = some q) ∨ w.heap.size ≤ q) (hb2 : Below w2.heap.size w2 w3) (hr : RBQ w3 K r L sq tr rs' w4) (hu : ∀ y ∈ rs', ∀ q, y.blk = some q → (∃ z ∈ rs, z.blk = some q) ∨ w2.heap.size ≤ q) (hw : Wis ms' rs') (ok : Okk sq tr ms') :
    PlR w K b kb r v L sq tr ms rs P w4 := by
  obtain ⟨v', k1, k2, k3⟩ := h.step hb hq ht
  have hs : w.heap.size ≤ w2.heap.size := k3.size
  obtain ⟨L2, j1, j2, j3⟩ := Pb.right (w := w2) k1 (rs' := rs') (RBQ.back hb2 hr) hu
  refine ⟨v', L2, ms', rs', ⟨j1, hw, ok⟩, fun q hq => ?_, (k3.mono fun q hq => Or.inl hq).trans (j3.mono fun q hq => Or.inl ?_)⟩
  · rcases j2 q hq with g | g
    · exact k2 q g
    · exact Or.inr (Nat.le_trans hs g)
  · rcases hq with e | e
    · exact Or.inr (Or.inr (Or.inl e))
    · exact Or.inr (Or.inr (Or.inr (Or.inr (Or.inl e))))
theorem txin_ht (h : TxIn ms' ms) (n : Nat) : ∀ y ∈ ms', ∀ q, y.blk = some q → (∃ z ∈ ms, z.blk = some q) ∨ n ≤ q := fun _ hy _ hq => Or.inl (h.blk hy hq)
theorem add_ht {m : Msg} {a : Option Addr} {c n : Nat} (h : ∀ q, (Value.slice a m.tn c).ownBlock = some q → n ≤ q) : ∀ y ∈ ms ++ [m.wi a c], ∀ q, y.blk = some q → (∃ z ∈ ms, z.blk = some q) ∨ n ≤ q := fun y hy q hq => by
  rcases List.mem_append.1 hy with g | g
  · exact Or.inl ⟨y, g, hq⟩
  · obtain rfl : y = m.wi a c := by simpa using g
    exact Or.inr (h q hq)
/-- An Add of both. -/
theorem Pr.add {w3 w4 : World} {ev : Value} {m : Msg} {tp : Option Addr} {tc : Nat} (h : Pr w K b kb r v L sq tr ms rs) (hb : Below w.heap.size w w1) (hq : PaQ w1 b kb v sq tr ms (m.wi tp tc) (.returned ev) w2) (hb2 : Below w2.heap.size w2 w3) (hr : RaQ w3 K r L sq tr rs m (.returned (.int .i64 (addC sq rs m))) w4) (hun : m.un = false) :
    OEv w2 w1.heap.size ev 0 (addC sq rs m) ∧ PlR w K b kb r v L sq tr ms rs P w4 := by
  obtain ⟨ev', e1, h1⟩ := hq
  injection e1 with e1
  subst e1
  have hc : addC sq ms (m.wi tp tc) = addC sq rs m := h.wis.addC m
  rw [hc] at h1
  have h2 := hr.2.out
  refine ⟨h1.out.1, ?_⟩
  rcases h1.out.2 with ⟨g1, g2⟩ | ⟨g1, a, c, g2, g3⟩ <;> rcases h2 with ⟨j1, j2⟩ | ⟨j1, a2, c2, j2, j3⟩
  · exact h.both hb g2 (txin_ht (TxIn.refl ms) _) hb2 j2 (txin_ht (TxIn.refl rs) _) h.wis h.ok
  · exact absurd j1 g1
  · exact absurd g1 j1
  · exact h.both hb g3 (add_ht fun q hq => Nat.le_trans hb.size (g2 q hq)) hb2 j3 (add_ht fun q hq => Nat.le_trans hb2.size (j2 q hq)) (h.wis.snoc ⟨a, c, rfl⟩) (okk_add h.ok (by rw [show addC sq ms ((m.wi tp tc).wi a c) = addC sq ms (m.wi tp tc) from rfl, hc]; exact g1) hun)
/-- A call of both that answers deeds. -/
theorem Pr.call {w3 w4 : World} {y z : CaA} (h : Pr w K b kb r v L sq tr ms rs) (hb : Below w.heap.size w w1) (hq : BxQ w1 b kb v sq tr y.ms w2) (hb2 : Below w2.heap.size w2 w3) (hr : RBQ w3 K r L sq tr z.ms w4) (hs : y.Same z) (h1 : TxIn y.ms ms) (h2 : TxIn z.ms rs) (ok : Okk sq tr y.ms) : PlR w K b kb r v L sq tr ms rs P w4 :=
  h.both hb hq (txin_ht h1 _) hb2 hr (txin_ht h2 _) hs.ms ok
end
end Go.Proofs.YtoijhecphgdfnaaDoor

/-
  Picks that came in.
-/
namespace Go.Proofs.YtoijhecphgdfnaaDoor
open Go.RowKit

/-- A Pick that came in. -/
def PickAt (w : World) (b o : Nat) (x : Opv × Int) : Prop := OpAt w b o x.1 ∧ w.cell? ⟨b, o + 8, none⟩ = some (.int .i64 x.2)
def Picks (w : World) (ao : Option Addr) (xs : List (Opv × Int)) : Prop := ∀ (j : Nat) (x : Opv × Int), xs[j]? = some x → ∃ b off, ao = some ⟨b, off, none⟩ ∧ PickAt w b (off + j * 9) x
theorem PickAt.below {w w' : World} {b o : Nat} {x : Opv × Int} (h : PickAt w b o x) (hb : Below w.heap.size w w') : PickAt w' b o x := ⟨h.1.below hb, by rw [hb.cell (p := ⟨b, o + 8, none⟩) h.1.lt]; exact h.2⟩
end Go.Proofs.YtoijhecphgdfnaaDoor

/-
  The law's plays: Add.
-/
namespace Go.Proofs.YtoijhecphgdfnaaDoor
open Go.RowKit

section
variable {w w1 w' w'' : World} {K b kb r : Nat} {v L : Value} {sq : Bool} {tr : Int} {ms rs : List Msg} {P P' : Nat → Prop}
theorem Pr.below (h : Pr w K b kb r v L sq tr ms rs) (hb : Below w.heap.size w w') : Pr w' K b kb r v L sq tr ms rs := ⟨h.pb.below hb, h.wis, h.ok⟩
theorem PlR.back (hb : Below w.heap.size w w1) (h : PlR w1 K b kb r v L sq tr ms rs P w') (hP : ∀ q, P q → q < w.heap.size → P' q) : PlR w K b kb r v L sq tr ms rs P' w' := by
  obtain ⟨v', L', ms', rs', h1, h2, h3⟩ := h
  refine ⟨v', L', ms', rs', h1, fun q hq => (h2 q hq).imp id fun g => Nat.le_trans hb.size g, (Off.of_below hb).join h3 fun q hl hq => ?_⟩
  rcases hq with e | e
  · exact Or.inl e
  · exact Or.inr (hP q e hl)
theorem PlR.own (h : PlR w K b kb r v L sq tr ms rs P w') (o : Off P' w' w'') (hP : ∀ q, P' q → P q ∧ q < w.heap.size ∧ ¬ Ft b kb r v L ms rs q) : PlR w K b kb r v L sq tr ms rs P w'' := by
  obtain ⟨v', L', ms', rs', h1, h2, h3⟩ := h
  refine ⟨v', L', ms', rs', ⟨h1.pb.off o fun q hq hp => ?_, h1.wis, h1.ok⟩, h2, h3.trans (o.mono fun q hq => Or.inr (hP q hq).1)⟩
  obtain ⟨_, g2, g3⟩ := hP q hp
  rcases h2 q hq with g | g
  · exact g3 g
  · omega
theorem PlR.below (h : PlR w K b kb r v L sq tr ms rs P w') (hb : Below w'.heap.size w' w'') : PlR w K b kb r v L sq tr ms rs P w'' := by
  obtain ⟨v', L', ms', rs', h1, h2, h3⟩ := h
  exact ⟨v', L', ms', rs', h1.below hb, h2, h3.trans (Off.of_below hb)⟩
end
theorem Byts.offP {P : Nat → Prop} {w w' : World} {po : Option Addr} {n : Nat} {bs : List Int} (h : Byts w po n bs) (ho : Off P w w') (hP : 0 < n → ∀ b o, po = some ⟨b, o, none⟩ → b < w.heap.size → ¬ P b) : Byts w' po n bs := by
  rcases Nat.eq_zero_or_pos n with e | e
  · exact ⟨h.len, fun j hj => by omega⟩
  · exact h.off ho (hP e)
theorem PaQ.rb {w1 w2 : World} {K b kb r : Nat} {v L : Value} {sq : Bool} {tr : Int} {ms rs : List Msg} {m : Msg} {e : Ending} (h : Pr w1 K b kb r v L sq tr ms rs) (hq : PaQ w1 b kb v sq tr ms m e w2) : RB w2 K r L sq tr rs ∧ Off (fun q => q = kb ∨ v.ownBlock = some q) w1 w2 := by
  obtain ⟨ev, _, h1⟩ := hq
  rcases h1.out.2 with ⟨_, g⟩ | ⟨_, a, c, g1, g⟩
  · obtain ⟨v', k1, _, k3⟩ := h.pb.left g (txin_ht (TxIn.refl ms) _)
    exact ⟨k1.rb, k3⟩
  · obtain ⟨v', k1, _, k3⟩ := h.pb.left g (add_ht g1)
    exact ⟨k1.rb, k3⟩
theorem RaQ.off {w2 w3 : World} {B r : Nat} {L : Value} {sq : Bool} {tr : Int} {rs : List Msg} {m : Msg} {e : Ending} (hq : RaQ w2 B r L sq tr rs m e w3) : Off (fun q => q = r ∨ L.ownBlock = some q) w2 w3 := by
  rcases hq.2.out with ⟨_, L', _, o, _⟩ | ⟨_, a, c, _, L', _, o, _⟩
  · exact o
  · exact o
section
variable {w : World} {K b kb r : Nat} {v L : Value} {sq : Bool} {tr : Int} {ms rs : List Msg}
end
end Go.Proofs.YtoijhecphgdfnaaDoor

/-
  The law's plays: Give.
-/
namespace Go.Proofs.YtoijhecphgdfnaaDoor
open Go.RowKit

section
variable {w w1 w2 w3 : World} {K b kb r : Nat} {v L : Value} {sq : Bool} {tr : Int} {ms rs : List Msg}
theorem Wis.giv (h : Wis ms rs) (x : Int) : givC sq ms x = givC sq rs x := by unfold givC; rw [h.nx]
theorem Wis.givM (h : Wis ms rs) (x : Int) : Wis (Go.Proofs.YtoijhecphgdfnaaDoor.givM sq ms x) (Go.Proofs.YtoijhecphgdfnaaDoor.givM sq rs x) := by
  unfold Go.Proofs.YtoijhecphgdfnaaDoor.givM
  rw [h.giv]
  split
  · cases hm : ms[0]? with
    | none => rw [h.at_none hm]; exact h
    | some m =>
      obtain ⟨y, a, c, hy, rfl⟩ := h.at_ hm
      rw [hy]
      exact h.set (by exact ⟨a, c, rfl⟩)
  · exact h
theorem okk_giveM (h : Okk sq tr ms) (x : Int) : Okk sq tr (Go.Proofs.YtoijhecphgdfnaaDoor.givM sq ms x) := by
  unfold Go.Proofs.YtoijhecphgdfnaaDoor.givM
  split
  · rename_i hc
    cases hm : ms[0]? with
    | none => exact h
    | some m =>
      unfold givC at hc
      split at hc
      · cases hc
      split at hc
      · cases hc
      · rename_i h1 h2
        rw [not_or] at h1
        exact okk_give h ((Bool.not_eq_false _).mp h1.1) hm ((Bool.not_eq_false _).mp h2)
  · exact h
theorem gv_rbq {B : Nat} {x : Int} {e : Ending} (h : RB w B r L sq tr rs) (hq : GvQ w B r L sq tr rs x e w1) : RBQ w B r L sq tr (Go.Proofs.YtoijhecphgdfnaaDoor.givM sq rs x) w1 := by
  rcases hq.2.out with ⟨h1, rfl⟩ | ⟨h1, m, hm, _, h2⟩
  · unfold Go.Proofs.YtoijhecphgdfnaaDoor.givM
    rw [if_neg h1]
    exact RBQ.refl h
  · unfold Go.Proofs.YtoijhecphgdfnaaDoor.givM
    rw [if_pos h1, hm]
    exact h2
end
end Go.Proofs.YtoijhecphgdfnaaDoor

/-
  The program's Get of an id that it does not hold; the law's plays of a kind that is none.
-/
namespace Go.Proofs.YtoijhecphgdfnaaDoor
open Go.RowKit

section
variable {w w' : World} {b kb : Nat} {v : Value} {sq : Bool} {tr : Int} {ms : List Msg}
end
section
variable {w : World} {K b kb r : Nat} {v L : Value} {sq : Bool} {tr : Int} {ms rs : List Msg}
end
end Go.Proofs.YtoijhecphgdfnaaDoor

/-
  Held, loosely: six rows of lists that grow, and are not looked at.
-/
namespace Go.Proofs.YtoijhecphgdfnaaDoor
open Go.RowKit

/-- A list as a value. -/
abbrev Sl := Option Addr × Nat × Nat
def encSl (s : Sl) : List Value := [.slice s.1 s.2.1 s.2.2]
theorem encSl_len (s : Sl) : (encSl s).length = 1 := rfl
theorem encSl_one (s : Sl) : ∀ u ∈ encSl s, u.oneCell' = true := fun u hu => by
  simp only [encSl, List.mem_singleton] at hu
  subst hu
  rfl
/-- The rows' types. -/
def hty (q : Nat) : TypeId := if q < 2 then 66 else if q < 4 then 60 else 44
def htl (q : Nat) : TypeId := if q < 2 then 32 else if q < 4 then 33 else 34
theorem celH (q : Nat) : Cel Tryd.prog (hty q) 1 24 := by
  unfold hty
  split
  · exact cel_of (by kernel_rfl)
  split
  · exact cel_of (by kernel_rfl)
  · exact cel_of (by kernel_rfl)
theorem undH (q : Nat) : Tryd.prog.underlying (htl q) = some (.slice (hty q)) := by
  unfold hty htl
  split
  · kernel_rfl
  split
  · kernel_rfl
  · kernel_rfl
/-- Held at hb: its cells f, at most n lists in a row. -/
structure HW (w : World) (B hb n : Nat) (f : Nat → Value) : Prop where
  blk : w.heap[hb]? = some (.cells #[f 0, f 1, f 2, f 3, f 4, f 5, f 6, f 7, f 8, f 9] 40 (0, 0))
  row : ∀ q, q < 6 → ∃ xs : List Sl, xs.length ≤ n ∧ ERow w B (hty q) 1 encSl (f q) xs
  dis : ∀ i j g, i < 6 → j < 6 → i ≠ j → (f i).ownBlock = some g → (f j).ownBlock ≠ some g
  lB : B ≤ hb
/-- Held's blocks. -/
def HFt (hb : Nat) (f : Nat → Value) (k : Nat) : Prop := k = hb ∨ ∃ q, q < 6 ∧ (f q).ownBlock = some k
section
variable {w w' : World} {B hb n : Nat} {f : Nat → Value}
theorem row_type {e : TypeId} {v : Value} {xs : List Sl} (h : ERow w B e 1 encSl v xs) {g : Nat} (hg : v.ownBlock = some g) : ∃ cs, w.heap[g]? = some (.cells cs e (0, 0)) := by
  rcases h.2 with ⟨e1, _⟩ | ⟨g', cap, cur, e1, _, hb, _⟩
  · rw [e1] at hg; cases hg
  · rw [e1] at hg
    simp only [Value.ownBlock, Option.some.injEq] at hg
    subst hg
    exact ⟨_, hb⟩
theorem hty_ne (q : Nat) : hty q ≠ 40 := by
  unfold hty
  split
  · decide
  split <;> decide
theorem HW.lt (h : HW w B hb n f) : hb < w.heap.size := blk_lt h.blk
theorem HW.nb (h : HW w B hb n f) {q : Nat} (hq : q < 6) : (f q).ownBlock ≠ some hb := fun e => by
  obtain ⟨xs, _, hr⟩ := h.row q hq
  obtain ⟨cs, hc⟩ := row_type hr e
  rw [h.blk] at hc
  simp only [Option.some.injEq, Obj.cells.injEq] at hc
  exact hty_ne q hc.2.1.symm
theorem HW.off {P : Nat → Prop} (h : HW w B hb n f) (o : Off P w w') (hP : ∀ k, HFt hb f k → ¬ P k) : HW w' B hb n f :=
  ⟨(o.block hb h.lt (hP hb (Or.inl rfl))).trans h.blk, fun q hq => by
    obtain ⟨xs, h1, h2⟩ := h.row q hq
    exact ⟨xs, h1, ERow.off h2 o fun k hk => hP k (Or.inr ⟨q, hq, hk⟩)⟩, h.dis, h.lB⟩
theorem HW.below (h : HW w B hb n f) (hb2 : Below w.heap.size w w') : HW w' B hb n f :=
  ⟨(hb2.block hb h.lt).trans h.blk, fun q hq => by
    obtain ⟨xs, h1, h2⟩ := h.row q hq
    exact ⟨xs, h1, ERow.below h2 hb2⟩, h.dis, h.lB⟩
theorem HW.more {m : Nat} (h : HW w B hb n f) (hm : n ≤ m) : HW w B hb m f := ⟨h.blk, fun q hq => by
  obtain ⟨xs, h1, h2⟩ := h.row q hq
  exact ⟨xs, by omega, h2⟩, h.dis, h.lB⟩
/-- A list more in a row. -/
theorem HW.push (h : HW w B hb n f) {q : Nat} (hq : q < 6) (s : Sl) (hn : n + 1 ≤ 1000000000) :
    ∃ a' n' c' w2, (Builtin.append_ #[htl q, htl q] (htl q) #[f q, .slice (some ⟨w.heap.size, 0, none⟩) 1 1]).run Tryd.prog (w.alloc (.cells #[.slice s.1 s.2.1 s.2.2] (hty q))) = .ok (.slice a' n' c') w2 ∧ w2.cell? ⟨hb, q, none⟩ = some (f q) ∧ w2.frozen? ⟨hb, q, none⟩ = false ∧ Hid (HW (w2.setCell ⟨hb, q, none⟩ (.slice a' n' c')) B hb (n + 1) (fun k => if k = q then .slice a' n' c' else f k) ∧ Off (fun k => k = hb ∨ (f q).ownBlock = some k) w (w2.setCell ⟨hb, q, none⟩ (.slice a' n' c')) ∧ ∀ k, (Value.slice a' n' c').ownBlock = some k → (f q).ownBlock = some k ∨ w.heap.size ≤ k) := by
  obtain ⟨xs, hx, hr⟩ := h.row q hq
  have hB : B ≤ w.heap.size := Nat.le_trans h.lB (Nat.le_of_lt h.lt)
  obtain ⟨a', c', w2, h1, r2, o2, s2⟩ := run_epush (P := Tryd.prog) (t := htl q) (undH q) (celH q) encSl_len encSl_one hr s #[.slice s.1 s.2.1 s.2.2] rfl (by omega) (by decide) hB
  have b2 : w2.heap[hb]? = some (.cells #[f 0, f 1, f 2, f 3, f 4, f 5, f 6, f 7, f 8, f 9] 40 (0, 0)) := (o2.block hb h.lt (h.nb hq)).trans h.blk
  have fr : ∀ k, (Value.slice a' (xs.length + 1) c').ownBlock = some k → (f q).ownBlock = some k ∨ w.heap.size ≤ k := fun k hk => by
    rcases s2 with e | e
    · exact Or.inl (by rw [← e]; exact hk)
    · rw [hk] at e
      simp only [Option.some.injEq] at e
      right; omega
  have oo : Off (fun k => k = hb) w2 (w2.setCell ⟨hb, q, none⟩ (.slice a' (xs.length + 1) c')) := Off.setCell (P := fun k => k = hb) (Off.refl _ _) (p := ⟨hb, q, none⟩) rfl _
  have hcq : #[f 0, f 1, f 2, f 3, f 4, f 5, f 6, f 7, f 8, f 9][q]? = some (f q) := by
    rcases q with _ | _ | _ | _ | _ | _ | q
    all_goals first | rfl | omega
  have hnb : ∀ k, (Value.slice a' (xs.length + 1) c').ownBlock = some k → k ≠ hb := fun k hk e => by
    obtain ⟨cs, hc⟩ := row_type r2 hk
    rw [e, b2] at hc
    simp only [Option.some.injEq, Obj.cells.injEq] at hc
    exact hty_ne q hc.2.1.symm
  refine ⟨a', _, c', w2, h1, (hcell b2 q).trans hcq, hfroz b2 q, ⟨?_, fun j hj => ?_, fun i j g hi hj hij hg => ?_, h.lB⟩, (o2.mono fun k hk => Or.inr hk).trans (oo.mono fun k hk => Or.inl hk), fr⟩
  · have := set_heap b2 q (.slice a' (xs.length + 1) c')
    refine this.trans ?_
    clear this hcq r2 h1 hr b2 oo fr hnb s2 o2 hx
    rcases q with _ | _ | _ | _ | _ | _ | q
    · simp
    · simp
    · simp
    · simp
    · simp
    · simp
    · omega
  · by_cases e : j = q
    · subst e
      refine ⟨xs ++ [s], by simp; omega, ?_⟩
      rw [if_pos rfl]
      exact ERow.off r2 oo hnb
    · obtain ⟨ys, hy, hr2⟩ := h.row j hj
      refine ⟨ys, by omega, ?_⟩
      rw [if_neg e]
      exact ERow.off (ERow.off hr2 o2 fun k hk hq2 => h.dis j q k hj hq e hk hq2) oo fun k hk e2 => h.nb hj (by rw [← e2]; exact hk)
  · have old : ∀ m k, m < 6 → (f m).ownBlock = some k → k < w.heap.size := fun m k hm hk => by
      obtain ⟨ys, _, hr2⟩ := h.row m hm
      exact (ERow.lt hr2 hk).2
    by_cases e1 : i = q
    · rw [if_pos e1] at hg
      rw [if_neg (fun e2 => hij (e1.trans e2.symm))]
      intro hg2
      rcases fr g hg with e | e
      · exact h.dis q j g hq hj (by omega) e hg2
      · have := old j g hj hg2; omega
    · rw [if_neg e1] at hg
      by_cases e2 : j = q
      · rw [if_pos e2]
        intro hg2
        rcases fr g hg2 with e | e
        · exact h.dis i q g hi hq e1 hg e
        · have := old i g hi hg; omega
      · rw [if_neg e2]
        exact h.dis i j g hi hj hij hg
end
end Go.Proofs.YtoijhecphgdfnaaDoor
