import Derived.Test.YtoijhecphgdfnaaGreatDoorOrTwo
import Derived.Test.YtoijhecphgdfnaaGreatDoorDkMem
/-
  Add and Give of both boxes; what a call of the law's leaves.
-/
namespace Go.Proofs.YtoijhecphgdfnaaGreatDoor
open Go.RowKit

/-- What an Add of the program's leaves. -/
def PaQ (w : World) (b kb : Nat) (v : Value) (sq : Bool) (tr : Int) (ms : List Msg) (m : Msg) (e : Ending) (w' : World) : Prop :=
  ∃ ev, e = .returned ev ∧ Hid (OEv w' w.heap.size ev 0 (addC sq ms m) ∧ ((addC sq ms m ≠ 0 ∧ BxQ w b kb v sq tr ms w') ∨ (addC sq ms m = 0 ∧ ∃ a c, (∀ q, (Value.slice a m.tn c).ownBlock = some q → w.heap.size ≤ q) ∧ BxQ w b kb v sq tr (ms ++ [m.wi a c]) w')))
/-- What an Add of the document's leaves. -/
def RaQ (w : World) (B r : Nat) (L : Value) (sq : Bool) (tr : Int) (rs : List Msg) (m : Msg) (e : Ending) (w' : World) : Prop :=
  e = .returned (.int .i64 (addC sq rs m)) ∧ Hid ((addC sq rs m ≠ 0 ∧ RBQ w B r L sq tr rs w') ∨ (addC sq rs m = 0 ∧ ∃ a c, (∀ q, (Value.slice a m.tn c).ownBlock = some q → w.heap.size ≤ q) ∧ RBQ w B r L sq tr (rs ++ [m.wi a c]) w'))
section
variable {w w' : World} {b kb B r : Nat} {v L : Value} {sq : Bool} {tr : Int} {ms rs : List Msg} {m : Msg}
theorem pAdd (h : Bx w b kb v sq tr ms) (hV : PVc w) (hnu : m.nu = 0) (hnt : m.nt = false) (hst : m.st = 0) (hlf : m.lf = 0) (hun : m.un = false) (hb : Byts w m.tp m.tn m.tx) (hpo : m.tp = none → m.tc = 0) :
    Calls Tryz.prog 16 #[.pointer (some ⟨b, 0, none⟩), .string m.ct, .slice m.tp m.tn m.tc, .agg #[.bool m.e, .int .i64 m.a, .int .i64 m.p]] w (PaQ w b kb v sq tr ms m) := by
  by_cases hc : addC sq ms m = 0
  · exact (addF_yes h hV hnu hnt hst hlf hun hb hpo hc).mono fun _ _ ⟨h1, a, c, h2, h3⟩ => ⟨_, h1, Or.inl ⟨rfl, hc⟩, Or.inr ⟨hc, a, c, h2, h3⟩⟩
  · exact (add_no h hV hnu hnt hc).mono fun _ _ ⟨z, h1, hz, h2, h3⟩ => ⟨_, h1, Or.inr ⟨hc, z, rfl, hz, h2⟩, Or.inl ⟨hc, bxq_below h h3⟩⟩
theorem rAdd (h : RB w B r L sq tr rs) (hnu : m.nu = 0) (hnt : m.nt = false) (hst : m.st = 0) (hlf : m.lf = 0) (hun : m.un = false) (hb : Byts w m.tp m.tn m.tx) :
    Calls Tryz.prog 17 #[.pointer (some ⟨r, 0, none⟩), .string m.ct, .slice m.tp m.tn m.tc, .agg #[.bool m.e, .int .i64 m.a, .int .i64 m.p]] w (RaQ w B r L sq tr rs m) := by
  by_cases hc : addC sq rs m = 0
  · exact (rAdd_yes h hnu hnt hst hlf hun hb hc).mono fun _ _ ⟨h1, a, c, h2, h3⟩ => ⟨by rw [hc]; exact h1, Or.inr ⟨hc, a, c, fun q hq => (ERow.lt h2 hq).1, h3⟩⟩
  · exact (rAdd_no h hnu hnt hc).mono fun _ _ ⟨h1, h2⟩ => ⟨h1, Or.inl ⟨hc, (RBQ.refl h).below h2⟩⟩
end
/-- What a call of the law's leaves of the two boxes: P, what else it writes. -/
def PlR (w : World) (K b kb r : Nat) (v L : Value) (sq : Bool) (tr : Int) (ms rs : List Msg) (P : Nat → Prop) (w' : World) : Prop :=
  ∃ v' L' ms' rs', Pr w' K b kb r v' L' sq tr ms' rs' ∧ (∀ q, Ft b kb r v' L' ms' rs' q → Ft b kb r v L ms rs q ∨ w.heap.size ≤ q) ∧ Off (fun q => Ft b kb r v L ms rs q ∨ P q) w w'
section
variable {w w1 w2 w' : World} {K b kb r : Nat} {v L : Value} {sq : Bool} {tr : Int} {ms rs ms' rs' : List Msg} {P : Nat → Prop}
theorem PlR.refl (h : Pr w K b kb r v L sq tr ms rs) : PlR w K b kb r v L sq tr ms rs P w := ⟨v, L, ms, rs, h, fun _ hq => Or.inl hq, Off.refl _ _⟩
/-- Both have moved. -/
theorem Pr.step (h : Pr w K b kb r v L sq tr ms rs) (hb : Below w.heap.size w w1) (hq : BxQ w1 b kb v sq tr ms' w2) (ht : ∀ y ∈ ms', ∀ q, y.blk = some q → (∃ z ∈ ms, z.blk = some q) ∨ w.heap.size ≤ q) :
    ∃ v', Pb w2 K b kb r v' L sq tr ms' rs ∧ (∀ q, Ft b kb r v' L ms' rs q → Ft b kb r v L ms rs q ∨ w.heap.size ≤ q) ∧ Off (fun q => Ft b kb r v L ms rs q) w w2 := by
  have h1 := h.pb.below hb
  have hbs := hb.size
  have ht' : ∀ y ∈ ms', ∀ q, y.blk = some q → (∃ z ∈ ms, z.blk = some q) ∨ w.heap.size ≤ q := ht
  obtain ⟨v', q1, q2, q3⟩ := hq
  have key := Pb.left (w := w) (w' := w2) h.pb (ms' := ms') ⟨v', q1, (Off.of_below hb).trans q2, fun q hq => (q3 q hq).imp id fun g => Nat.le_trans hbs g⟩ ht'
  obtain ⟨v2, k1, k2, k3⟩ := key
  exact ⟨v2, k1, k2, k3.mono fun q hq => by
    rcases hq with e | e
    · exact Or.inr (Or.inl e)
    · exact Or.inr (Or.inr (Or.inr (Or.inl e)))⟩
theorem Pr.both {w3 w4 : World} (h : Pr w K b kb r v L sq tr ms rs) (hb : Below w.heap.size w w1) (hq : BxQ w1 b kb v sq tr ms' w2) (ht : ∀ y ∈ ms', ∀ q, y.blk = some q → (∃ z ∈ ms, z.blk = some q) ∨ w.heap.size ≤ q) (hb2 : Below w2.heap.size w2 w3) (hr : RBQ w3 K r L sq tr rs' w4) (hu : ∀ y ∈ rs', ∀ q, y.blk = some q → (∃ z ∈ rs, z.blk = some q) ∨ w2.heap.size ≤ q) (hw : Wis ms' rs') (ok : Okk sq tr ms') :
    PlR w K b kb r v L sq tr ms rs P w4 := by
  obtain ⟨v', k1, k2, k3⟩ := h.step hb hq ht
  have hs : w.heap.size ≤ w2.heap.size := k3.size
  obtain ⟨L2, j1, j2, j3⟩ := Pb.right (w := w2) k1 (rs' := rs') (RBQ.back hb2 hr) hu
  refine ⟨v', L2, ms', rs', ⟨j1, hw, ok⟩, fun q hq => ?_, (k3.mono fun q hq => Or.inl hq).trans (j3.mono fun q hq => Or.inl ?_)⟩
  · rcases j2 q hq with g | g
    · exact k2 q g
    · exact Or.inr (Nat.le_trans hs g)
  · rcases hq with e | e
    · exact Or.inr (Or.inr (Or.inl e))
    · exact Or.inr (Or.inr (Or.inr (Or.inr (Or.inl e))))
theorem txin_ht (h : TxIn ms' ms) (n : Nat) : ∀ y ∈ ms', ∀ q, y.blk = some q → (∃ z ∈ ms, z.blk = some q) ∨ n ≤ q := fun _ hy _ hq => Or.inl (h.blk hy hq)
theorem add_ht {m : Msg} {a : Option Addr} {c n : Nat} (h : ∀ q, (Value.slice a m.tn c).ownBlock = some q → n ≤ q) : ∀ y ∈ ms ++ [m.wi a c], ∀ q, y.blk = some q → (∃ z ∈ ms, z.blk = some q) ∨ n ≤ q := fun y hy q hq => by
  rcases List.mem_append.1 hy with g | g
  · exact Or.inl ⟨y, g, hq⟩
  · obtain rfl : y = m.wi a c := by simpa using g
    exact Or.inr (h q hq)
/-- An Add of both. -/
theorem Pr.add {w3 w4 : World} {ev : Value} {m : Msg} {tp : Option Addr} {tc : Nat} (h : Pr w K b kb r v L sq tr ms rs) (hb : Below w.heap.size w w1) (hq : PaQ w1 b kb v sq tr ms (m.wi tp tc) (.returned ev) w2) (hb2 : Below w2.heap.size w2 w3) (hr : RaQ w3 K r L sq tr rs m (.returned (.int .i64 (addC sq rs m))) w4) (hun : m.un = false) :
    OEv w2 w1.heap.size ev 0 (addC sq rs m) ∧ PlR w K b kb r v L sq tr ms rs P w4 := by
  obtain ⟨ev', e1, h1⟩ := hq
  injection e1 with e1
  subst e1
  have hc : addC sq ms (m.wi tp tc) = addC sq rs m := h.wis.addC m
  rw [hc] at h1
  have h2 := hr.2.out
  refine ⟨h1.out.1, ?_⟩
  rcases h1.out.2 with ⟨g1, g2⟩ | ⟨g1, a, c, g2, g3⟩ <;> rcases h2 with ⟨j1, j2⟩ | ⟨j1, a2, c2, j2, j3⟩
  · exact h.both hb g2 (txin_ht (TxIn.refl ms) _) hb2 j2 (txin_ht (TxIn.refl rs) _) h.wis h.ok
  · exact absurd j1 g1
  · exact absurd g1 j1
  · exact h.both hb g3 (add_ht fun q hq => Nat.le_trans hb.size (g2 q hq)) hb2 j3 (add_ht fun q hq => Nat.le_trans hb2.size (j2 q hq)) (h.wis.snoc ⟨a, c, rfl⟩) (okk_add h.ok (by rw [show addC sq ms ((m.wi tp tc).wi a c) = addC sq ms (m.wi tp tc) from rfl, hc]; exact g1) hun)
/-- A call of both that answers deeds. -/
theorem Pr.call {w3 w4 : World} {y z : CaA} (h : Pr w K b kb r v L sq tr ms rs) (hb : Below w.heap.size w w1) (hq : BxQ w1 b kb v sq tr y.ms w2) (hb2 : Below w2.heap.size w2 w3) (hr : RBQ w3 K r L sq tr z.ms w4) (hs : y.Same z) (h1 : TxIn y.ms ms) (h2 : TxIn z.ms rs) (ok : Okk sq tr y.ms) : PlR w K b kb r v L sq tr ms rs P w4 :=
  h.both hb hq (txin_ht h1 _) hb2 hr (txin_ht h2 _) hs.ms ok
end
end Go.Proofs.YtoijhecphgdfnaaGreatDoor

/-
  Picks that came in.
-/
namespace Go.Proofs.YtoijhecphgdfnaaGreatDoor
open Go.RowKit

/-- A Pick that came in. -/
def PickAt (w : World) (b o : Nat) (x : Opv × Int) : Prop := OpAt w b o x.1 ∧ w.cell? ⟨b, o + 8, none⟩ = some (.int .i64 x.2)
def Picks (w : World) (ao : Option Addr) (xs : List (Opv × Int)) : Prop := ∀ (j : Nat) (x : Opv × Int), xs[j]? = some x → ∃ b off, ao = some ⟨b, off, none⟩ ∧ PickAt w b (off + j * 9) x
theorem PickAt.below {w w' : World} {b o : Nat} {x : Opv × Int} (h : PickAt w b o x) (hb : Below w.heap.size w w') : PickAt w' b o x := ⟨h.1.below hb, by rw [hb.cell (p := ⟨b, o + 8, none⟩) h.1.lt]; exact h.2⟩
end Go.Proofs.YtoijhecphgdfnaaGreatDoor

/-
  The law's plays: Add.
-/
namespace Go.Proofs.YtoijhecphgdfnaaGreatDoor
open Go.RowKit

section
variable {w w1 w' w'' : World} {K b kb r : Nat} {v L : Value} {sq : Bool} {tr : Int} {ms rs : List Msg} {P P' : Nat → Prop}
theorem Pr.below (h : Pr w K b kb r v L sq tr ms rs) (hb : Below w.heap.size w w') : Pr w' K b kb r v L sq tr ms rs := ⟨h.pb.below hb, h.wis, h.ok⟩
theorem PlR.back (hb : Below w.heap.size w w1) (h : PlR w1 K b kb r v L sq tr ms rs P w') (hP : ∀ q, P q → q < w.heap.size → P' q) : PlR w K b kb r v L sq tr ms rs P' w' := by
  obtain ⟨v', L', ms', rs', h1, h2, h3⟩ := h
  refine ⟨v', L', ms', rs', h1, fun q hq => (h2 q hq).imp id fun g => Nat.le_trans hb.size g, (Off.of_below hb).join h3 fun q hl hq => ?_⟩
  rcases hq with e | e
  · exact Or.inl e
  · exact Or.inr (hP q e hl)
theorem PlR.own (h : PlR w K b kb r v L sq tr ms rs P w') (o : Off P' w' w'') (hP : ∀ q, P' q → P q ∧ q < w.heap.size ∧ ¬ Ft b kb r v L ms rs q) : PlR w K b kb r v L sq tr ms rs P w'' := by
  obtain ⟨v', L', ms', rs', h1, h2, h3⟩ := h
  refine ⟨v', L', ms', rs', ⟨h1.pb.off o fun q hq hp => ?_, h1.wis, h1.ok⟩, h2, h3.trans (o.mono fun q hq => Or.inr (hP q hq).1)⟩
  obtain ⟨_, g2, g3⟩ := hP q hp
  rcases h2 q hq with g | g
  · exact g3 g
  · omega
theorem PlR.below (h : PlR w K b kb r v L sq tr ms rs P w') (hb : Below w'.heap.size w' w'') : PlR w K b kb r v L sq tr ms rs P w'' := by
  obtain ⟨v', L', ms', rs', h1, h2, h3⟩ := h
  exact ⟨v', L', ms', rs', h1.below hb, h2, h3.trans (Off.of_below hb)⟩
end
theorem Byts.offP {P : Nat → Prop} {w w' : World} {po : Option Addr} {n : Nat} {bs : List Int} (h : Byts w po n bs) (ho : Off P w w') (hP : 0 < n → ∀ b o, po = some ⟨b, o, none⟩ → b < w.heap.size → ¬ P b) : Byts w' po n bs := by
  rcases Nat.eq_zero_or_pos n with e | e
  · exact ⟨h.len, fun j hj => by omega⟩
  · exact h.off ho (hP e)
theorem PaQ.rb {w1 w2 : World} {K b kb r : Nat} {v L : Value} {sq : Bool} {tr : Int} {ms rs : List Msg} {m : Msg} {e : Ending} (h : Pr w1 K b kb r v L sq tr ms rs) (hq : PaQ w1 b kb v sq tr ms m e w2) : RB w2 K r L sq tr rs ∧ Off (fun q => q = kb ∨ v.ownBlock = some q) w1 w2 := by
  obtain ⟨ev, _, h1⟩ := hq
  rcases h1.out.2 with ⟨_, g⟩ | ⟨_, a, c, g1, g⟩
  · obtain ⟨v', k1, _, k3⟩ := h.pb.left g (txin_ht (TxIn.refl ms) _)
    exact ⟨k1.rb, k3⟩
  · obtain ⟨v', k1, _, k3⟩ := h.pb.left g (add_ht g1)
    exact ⟨k1.rb, k3⟩
theorem RaQ.off {w2 w3 : World} {B r : Nat} {L : Value} {sq : Bool} {tr : Int} {rs : List Msg} {m : Msg} {e : Ending} (hq : RaQ w2 B r L sq tr rs m e w3) : Off (fun q => q = r ∨ L.ownBlock = some q) w2 w3 := by
  rcases hq.2.out with ⟨_, L', _, o, _⟩ | ⟨_, a, c, _, L', _, o, _⟩
  · exact o
  · exact o
section
variable {w : World} {K b kb r : Nat} {v L : Value} {sq : Bool} {tr : Int} {ms rs : List Msg}
set_option maxRecDepth 100000 in
set_option maxHeartbeats 8000000 in
theorem plays_add (h : Pr w K b kb r v L sq tr ms rs) (hV : PVc w) (x : Opv) (hp : Byts w x.tp x.tn x.tx) (hpo : x.tp = none → x.tc = 0) (hl : x.tn + 90 ≤ 140737488355328) (hK : 0 < x.tn → ∀ b o, x.tp = some ⟨b, o, none⟩ → b < K) (hv : Value) :
    Calls Tryz.prog 7 #[.agg #[.pointer (some ⟨b, 0, none⟩), .pointer (some ⟨r, 0, none⟩)], .agg #[.int .i64 1, .string x.ct, .slice x.tp x.tn x.tc, .bool x.e, .int .i64 x.a, .int .i64 x.p, .string x.cd, .int .i64 x.n], hv] w fun e w' => e = .returned (.bool true) ∧ Hid (PlR w K b kb r v L sq tr ms rs (fun _ => False) w') := by
  have bv : Below w.heap.size w ((w.alloc (.cells #[.pointer (some ⟨b, 0, none⟩), .pointer (some ⟨r, 0, none⟩)] 29)).alloc (.cells #[.int .i64 1, .string x.ct, .slice x.tp x.tn x.tc, .bool x.e, .int .i64 x.a, .int .i64 x.p, .string x.cd, .int .i64 x.n] 47)) := ((Below.refl _ _).alloc (Nat.le_refl _) _).alloc (by simp) _
  have bx := (Box.new w #[.pointer (some ⟨b, 0, none⟩), .pointer (some ⟨r, 0, none⟩)] 29).alloc (.cells #[.int .i64 1, .string x.ct, .slice x.tp x.tn x.tc, .bool x.e, .int .i64 x.a, .int .i64 x.p, .string x.cd, .int .i64 x.n] 47)
  have by_ := Box.new (w.alloc (.cells #[.pointer (some ⟨b, 0, none⟩), .pointer (some ⟨r, 0, none⟩)] 29)) #[.int .i64 1, .string x.ct, .slice x.tp x.tn x.tc, .bool x.e, .int .i64 x.a, .int .i64 x.p, .string x.cd, .int .i64 x.n] 47
  rw [World.size_alloc] at by_
  obtain ⟨V, hVV⟩ : ∃ V, ((w.alloc (.cells #[.pointer (some ⟨b, 0, none⟩), .pointer (some ⟨r, 0, none⟩)] 29)).alloc (.cells #[.int .i64 1, .string x.ct, .slice x.tp x.tn x.tc, .bool x.e, .int .i64 x.a, .int .i64 x.p, .string x.cd, .int .i64 x.n] 47)) = V := ⟨_, rfl⟩
  rw [hVV] at bv bx by_
  obtain ⟨xb, hxb⟩ : ∃ xb, w.heap.size = xb := ⟨_, rfl⟩
  rw [hxb] at bx by_
  have HX : Hid (Box V xb #[.pointer (some ⟨b, 0, none⟩), .pointer (some ⟨r, 0, none⟩)] ∧ Box V (xb + 1) #[.int .i64 1, .string x.ct, .slice x.tp x.tn x.tc, .bool x.e, .int .i64 x.a, .int .i64 x.p, .string x.cd, .int .i64 x.n]) := ⟨bx, by_⟩
  have HB : Hid (Below w.heap.size w V) := bv
  have HH : Hid (Pr w K b kb r v L sq tr ms rs ∧ PVc w ∧ Byts w x.tp x.tn x.tx ∧ (x.tp = none → x.tc = 0) ∧ x.tn + 90 ≤ 140737488355328 ∧ (0 < x.tn → ∀ b o, x.tp = some ⟨b, o, none⟩ → b < K)) := ⟨h, hV, hp, hpo, hl, hK⟩
  have y0 : V.cell? ⟨xb + 1, 0, none⟩ = some (.int .i64 1) := by_.cell 0
  have y1 : V.cell? ⟨xb + 1, 1, none⟩ = some (.string x.ct) := by_.cell 1
  have y2 : V.cell? ⟨xb + 1, 2, none⟩ = some (.slice x.tp x.tn x.tc) := by_.cell 2
  have hhd := hand_full (c := x.tc) V (hp.below bv) hl
  clear h hV hp hpo bv bx by_ hK
  go_enter Tryz.func7, Tryz.ntmps7
  go_upto_region 3 with fail
  clear hVV
  go_wp2_with fail
  refine hhd.mono ?_
  rintro _ w1 ⟨g, rfl, hm, hb1⟩
  have HW1 : Hid (Below w.heap.size w w1 ∧ Mkd w1 V.heap.size g x.tn x.tx) := ⟨below_then HB.out hb1, hm⟩
  have hmb : Byts w1 (some ⟨g, 0, none⟩) x.tn x.tx := hm.byts
  have hP1 := HH.out.1.below HW1.out.1
  have hpa := pAdd (m := ⟨x.ct, some ⟨g, 0, none⟩, x.tn, x.tn + 90, x.tx, x.e, x.a, x.p, 0, false, 0, 0, false⟩) hP1.pb.bx (HH.out.2.1.below HW1.out.1) rfl rfl rfl rfl rfl hmb (fun e => by cases e)
  have d0 : w1.cell? ⟨xb, 0, none⟩ = some (.pointer (some ⟨b, 0, none⟩)) := (HX.out.1.below hb1).cell 0
  have e1 : w1.cell? ⟨xb + 1, 1, none⟩ = some (.string x.ct) := (HX.out.2.below hb1).cell 1
  have e3 : w1.cell? ⟨xb + 1, 3, none⟩ = some (.bool x.e) := (HX.out.2.below hb1).cell 3
  have e4 : w1.cell? ⟨xb + 1, 4, none⟩ = some (.int .i64 x.a) := (HX.out.2.below hb1).cell 4
  have e5 : w1.cell? ⟨xb + 1, 5, none⟩ = some (.int .i64 x.p) := (HX.out.2.below hb1).cell 5
  have HX1 : Hid (Box w1 xb #[.pointer (some ⟨b, 0, none⟩), .pointer (some ⟨r, 0, none⟩)] ∧ Box w1 (xb + 1) #[.int .i64 1, .string x.ct, .slice x.tp x.tn x.tc, .bool x.e, .int .i64 x.a, .int .i64 x.p, .string x.cd, .int .i64 x.n] ∧ w.heap.size ≤ xb) := ⟨HX.out.1.below hb1, HX.out.2.below hb1, by rw [hxb]; exact Nat.le_refl _⟩
  clear hhd hm hb1 hmb hP1 y0 y1 y2 HX
  go_upto_region 5 with (go_at_call 16; refine hpa.mono ?_; rintro _ w2 h2; obtain ⟨ev, rfl, HA2⟩ := h2)
  have HA : Hid (PaQ w1 b kb v sq tr ms ⟨x.ct, some ⟨g, 0, none⟩, x.tn, x.tn + 90, x.tx, x.e, x.a, x.p, 0, false, 0, 0, false⟩ (.returned ev) w2) := ⟨ev, rfl, HA2⟩
  have hP1 := HH.out.1.below HW1.out.1
  obtain ⟨rb2, o2⟩ := PaQ.rb hP1 HA.out
  have lt1 : ∀ q, Ft b kb r v L ms rs q → K ≤ q ∧ q < w.heap.size := fun q hq => HH.out.1.pb.lt hq
  have nk : ∀ q, (q = kb ∨ v.ownBlock = some q) → K ≤ q ∧ q < w.heap.size := fun q hq => by
    rcases hq with e | e
    · exact lt1 q (Or.inr (Or.inl e))
    · exact lt1 q (Or.inr (Or.inr (Or.inr (Or.inl e))))
  have nr : ∀ q, (q = r ∨ L.ownBlock = some q) → K ≤ q ∧ q < w.heap.size := fun q hq => by
    rcases hq with e | e
    · exact lt1 q (Or.inr (Or.inr (Or.inl e)))
    · exact lt1 q (Or.inr (Or.inr (Or.inr (Or.inr (Or.inl e)))))
  have lx := HX1.out.1.lt
  have ly := HX1.out.2.1.lt
  have hxw := HX1.out.2.2
  have kc : ∀ q, w2.cell? ⟨xb + 1, q, none⟩ = w1.cell? ⟨xb + 1, q, none⟩ := fun q => o2.cell (p := ⟨xb + 1, q, none⟩) ly fun hq => by have := (nk (xb + 1) hq).2; omega
  have kc0 : ∀ q, w2.cell? ⟨xb, q, none⟩ = w1.cell? ⟨xb, q, none⟩ := fun q => o2.cell (p := ⟨xb, q, none⟩) lx fun hq => by have := (nk xb hq).2; omega
  have f0 : w2.cell? ⟨xb, 1, none⟩ = some (.pointer (some ⟨r, 0, none⟩)) := (kc0 1).trans (HX1.out.1.cell 1)
  have f1 : w2.cell? ⟨xb + 1, 1, none⟩ = some (.string x.ct) := (kc 1).trans e1
  have f2 : w2.cell? ⟨xb + 1, 2, none⟩ = some (.slice x.tp x.tn x.tc) := (kc 2).trans (HX1.out.2.1.cell 2)
  have f3 : w2.cell? ⟨xb + 1, 3, none⟩ = some (.bool x.e) := (kc 3).trans e3
  have f4 : w2.cell? ⟨xb + 1, 4, none⟩ = some (.int .i64 x.a) := (kc 4).trans e4
  have f5 : w2.cell? ⟨xb + 1, 5, none⟩ = some (.int .i64 x.p) := (kc 5).trans e5
  have hb2 : Byts w2 x.tp x.tn x.tx := (HH.out.2.2.1.below HW1.out.1).offP o2 fun h0 c o e _ hq => by have := (nk c hq).1; have := HH.out.2.2.2.2.2 h0 c o e; omega
  have HB2 : Hid (Byts w2 x.tp x.tn x.tx) := hb2
  have hra := rAdd (m := ⟨x.ct, x.tp, x.tn, x.tc, x.tx, x.e, x.a, x.p, 0, false, 0, 0, false⟩) rb2 rfl rfl rfl rfl rfl hb2
  have HN : Hid ((∀ q, (q = kb ∨ v.ownBlock = some q) → K ≤ q ∧ q < w.heap.size) ∧ (∀ q, (q = r ∨ L.ownBlock = some q) → K ≤ q ∧ q < w.heap.size) ∧ Off (fun q => q = kb ∨ v.ownBlock = some q) w1 w2) := ⟨nk, nr, o2⟩
  clear hpa HA2 hP1 rb2 o2 lt1 nk nr kc kc0 hb2 d0 e1 e3 e4 e5
  go_upto_region 6 with (go_at_call 17; refine hra.mono ?_; rintro _ w3 ⟨rfl, h3⟩)
  have HR : Hid (RaQ w2 K r L sq tr rs ⟨x.ct, x.tp, x.tn, x.tc, x.tx, x.e, x.a, x.p, 0, false, 0, 0, false⟩ (.returned (.int .i64 (addC sq rs ⟨x.ct, x.tp, x.tn, x.tc, x.tx, x.e, x.a, x.p, 0, false, 0, 0, false⟩))) w3) := ⟨rfl, h3⟩
  have o3 := RaQ.off HR.out
  obtain ⟨q1, q2⟩ := Pr.add (P := fun q => q = g) (HH.out.1.below HW1.out.1) (Below.refl w1.heap.size w1) (m := ⟨x.ct, x.tp, x.tn, x.tc, x.tx, x.e, x.a, x.p, 0, false, 0, 0, false⟩) (tp := some ⟨g, 0, none⟩) (tc := x.tn + 90) HA.out (Below.refl _ _) HR.out rfl
  have hm1 := HW1.out.2
  have hgl := hm1.lt
  have hVs := HB.out.size
  have hm3 : Mkd w3 V.heap.size g x.tn x.tx := (hm1.off HN.out.2.2 fun hq => by have := (HN.out.1 g hq).2; omega).off o3 fun hq => by have := (HN.out.2.1 g hq).2; omega
  have g2 : w3.cell? ⟨xb + 1, 2, none⟩ = some (.slice x.tp x.tn x.tc) := (o3.cell (p := ⟨xb + 1, 2, none⟩) (cell_lt f2) fun hq => by have := (HN.out.2.1 (xb + 1) hq).2; have := HX1.out.2.2; omega).trans f2
  have hb3 : Byts w3 x.tp x.tn x.tx := HB2.out.offP o3 fun h0 c o e _ hq => by have := (HN.out.2.1 c hq).1; have := HH.out.2.2.2.2.2 h0 c o e; omega
  obtain ⟨cd, hcd⟩ : ∃ cd, addC sq rs ⟨x.ct, x.tp, x.tn, x.tc, x.tx, x.e, x.a, x.p, 0, false, 0, 0, false⟩ = cd := ⟨_, rfl⟩
  rw [hcd] at q1 ⊢
  have hq1 : ErrV w3 ev 0 cd := (q1.off o3 fun q h1 h2 h3 => by have := (HN.out.2.1 q h3).2; have := HW1.out.1.size; omega).err
  have hrf := refused_any hq1
  have hkp := Kept_true (c := x.tc) w3 hm3 hb3 HH.out.2.2.2.2.1
  have HQ : Hid (PlR w1 K b kb r v L sq tr ms rs (fun q => q = g) w3 ∧ Mkd w3 V.heap.size g x.tn x.tx ∧ g < w1.heap.size) := ⟨q2, hm3, hgl.2⟩
  clear hra HR HA o3 q1 q2 hm1 hgl hVs hm3 hb3 hcd hq1 h3 f0 f1 f2 f3 f4 f5
  go_cut [10] from 56 to 64 (fun t wx => t = .bool true ∧ ∃ k, wx = w3.drewN k)
  case first =>
    go_wp2_with (first | (go_at_call 13; refine hrf.mono ?_; rintro _ w9 ⟨rfl, h9⟩; subst w9) | (go_at_call 14; refine hkp.mono ?_; rintro _ w9 ⟨rfl, k, rfl⟩))
    go_meet
    exact ⟨rfl, k, rfl⟩
  case rest =>
  obtain ⟨rfl, k, hw⟩ := hcut
  rw [hw]
  clear hw hrf hkp
  have HL0 : Hid (PlR w1 K b kb r v L sq tr ms rs (fun q => q = g) (w3.drewN k) ∧ ∃ bs, BRow (w3.drewN k) V.heap.size (.slice (some ⟨g, 0, none⟩) x.tn (x.tn + 90)) bs) := ⟨HQ.out.1.below (below_drewN (Below.refl _ _) k), _, ERow.below (mkd_pre HQ.out.2.1) (below_drewN (Below.refl _ _) k)⟩
  have hl2 : (x.tn : Int) + 90 ≤ 140737488355328 := by omega
  go_upto_region 8 with fail
  go_loopw [11] (fun t wx => ∃ j : Nat, j ≤ x.tn ∧ t = .int .i64 j ∧ Hid (PlR w1 K b kb r v L sq tr ms rs (fun q => q = g) wx ∧ ∃ bs, BRow wx V.heap.size (.slice (some ⟨g, 0, none⟩) x.tn (x.tn + 90)) bs)) (fun t _ => x.tn - (intOf t).toNat)
  case atStart => exact ⟨0, Nat.zero_le _, rfl, HL0⟩
  case round =>
    obtain ⟨j, hj, rfl, HR⟩ := hrel
    clear HL0
    by_cases hlt : j < x.tn
    · have hlt1 : (j : Int) < x.tn := by omega
      obtain ⟨bs, hb⟩ := HR.out.2
      have k1 : wr.cell? ⟨g, j, none⟩ = some (.int .u8 (bs.getD j 0)) := hb.slot (by rw [← ERow.len hb]; exact hlt)
      have k2 := hb.thaw j
      have HJ : Hid (∀ z : Int, PlR w1 K b kb r v L sq tr ms rs (fun q => q = g) (wr.setCell ⟨g, j, none⟩ (.int .u8 z)) ∧ ∃ bs, BRow (wr.setCell ⟨g, j, none⟩ (.int .u8 z)) V.heap.size (.slice (some ⟨g, 0, none⟩) x.tn (x.tn + 90)) bs) := fun z => by
        have o : Off (fun q => q = g) wr (wr.setCell ⟨g, j, none⟩ (.int .u8 z)) := Off.setCell (P := fun q => q = g) (Off.refl _ _) (p := ⟨g, j, none⟩) rfl _
        refine ⟨HR.out.1.own o fun q hq => ⟨hq, by have := HQ.out.2.2; omega, fun hf => ?_⟩, _, BRow.stored hb j z (by rw [← ERow.len hb]; exact hlt)⟩
        have h1 := (HH.out.1.pb.lt hf).2
        have h2 := HQ.out.2.1.lt.1
        have h3 := HB.out.size
        omega
      clear hb HR
      go_wp2_with fail
      go_roundw
      case rel => exact ⟨j + 1, hlt, by go_num, HJ.out _⟩
      case measure => simp [intOf]; omega
    · have hlt1 : ¬ (j : Int) < x.tn := by omega
      have HE : Hid (PlR w K b kb r v L sq tr ms rs (fun _ => False) wr) := HR.out.1.back HW1.out.1 fun q hq hl => by
        have h2 := HQ.out.2.1.lt.1
        have h3 := HB.out.size
        omega
      clear HR
      go_wp2_with fail
      go_ret
      exact ⟨rfl, HE⟩
end
end Go.Proofs.YtoijhecphgdfnaaGreatDoor
