/-
  The record in the reader's hand: what reading a field makes of it.
-/
import Derived.Test.YtdjjologpodnkaaGreatDoorLdPass
namespace Go.Proofs.YtdjjologpodnkaaGreatDoor
open Go.RowKit

def Rec.bare (r : Rec) : Rec := { r with tp := none, tc := 0, cp := none, cc := 0, ap := none, ac := 0 }
def setN (r : Rec) (o : Nat) (v : Int) : Rec := if o = 0 then { r with kd := v } else if o = 6 then { r with nu := v } else if o = 7 then { r with tk := v } else { r with st := v }
def setS (r : Rec) (o : Nat) (s : ByteArray) : Rec := if o = 1 then { r with ct := s } else { r with cd := s }
def setB (r : Rec) (o : Nat) (a : Option Addr) (c : Nat) (l : List Int) : Rec := if o = 2 then { r with tp := a, tn := l.length, tc := c, tx := l } else if o = 10 then { r with cp := a, cn := l.length, cc := c, cx := l } else { r with ap := a, an := l.length, ac := c, ax := l }
def setC (r : Rec) (x : Bool) (y z : Int) : Rec := { r with e := x, a := y, p := z }
/-- What reading a field comes to: the record with it, and the place behind it; or the place at fault. -/
def rdFd (bs : List Int) (p : Nat) (r : Rec) : Fd → Except Nat (Rec × Nat)
  | .num o _ sz lo hi => match rNum bs p sz lo hi with
    | .error e => .error e
    | .ok v => .ok (setN r o v, p + sz)
  | .str o _ lo hi k => match rStr (isS k) bs p lo hi with
    | .error e => .error e
    | .ok s => .ok (setS r o s, p + 4 + s.size)
  | .byt o _ _ _ _ lo hi => match rTxt bs p lo hi with
    | .error e => .error e
    | .ok l => .ok (setB r o none 0 l, p + 4 + l.length)
  | .cnd _ _ _ => match rCnd bs p with
    | .error e => .error e
    | .ok (x, y, z) => .ok (setC r x y z, p + 3)
  | .non _ => .ok (r, p)
/-- The shape of the fields that a record has. -/
def FdSh : Fd → Prop
  | .num o _ sz lo hi => (o = 0 ∨ o = 6 ∨ o = 7 ∨ o = 8) ∧ sz ≤ 8 ∧ 0 ≤ lo ∧ 0 ≤ hi ∧ lo ≤ 9223372036854775807 ∧ hi ≤ 9223372036854775807
  | .str o _ lo hi _ => (o = 1 ∨ o = 9) ∧ 0 ≤ lo ∧ 0 ≤ hi ∧ lo ≤ 1000000 ∧ hi ≤ 1000000
  | .byt o _ _ _ _ lo hi => (o = 2 ∨ o = 10 ∨ o = 11) ∧ 0 ≤ lo ∧ 0 ≤ hi ∧ lo ≤ 1000000 ∧ hi ≤ 1000000
  | .cnd _ _ _ => True
  | .non _ => True
theorem fdOf_sh (r : Rec) {i : Nat} (hi : i < 10) : FdSh (fdOf r i) := by
  rcases ten hi with rfl | rfl | rfl | rfl | rfl | rfl | rfl | rfl | rfl | rfl
  all_goals (simp only [fdOf]; (repeat' split))
  all_goals (unfold FdSh; first | trivial | omega | simp)
/-- The reader at work: its own block fb, the record's rb, the record's lists from N on. -/
structure RdI (w : World) (N fb rb : Nat) (po : Option Addr) (c : Nat) (bs : List Int) (p : Nat) (r : Rec) : Prop where
  rdr : Rdr w fb po c bs p
  box : Box w rb (#[.int .i64 r.kd, .string r.ct, .slice r.tp r.tn r.tc, .bool r.e, .int .i64 r.a, .int .i64 r.p, .int .i64 r.nu, .int .i64 r.tk, .int .i64 r.st, .string r.cd, .slice r.cp r.cn r.cc, .slice r.ap r.an r.ac])
  lt : BRow w N (.slice r.tp r.tn r.tc) r.tx
  lc : BRow w N (.slice r.cp r.cn r.cc) r.cx
  la : BRow w N (.slice r.ap r.an r.ac) r.ax
  hrf : rb ≠ fb
  hrN : rb < N
  hfN : fb < N
  hN : N ≤ w.heap.size
  hrp : ∀ x, po = some x → x.block ≠ rb
  hV : PVx w
  hrg : rb ≠ 1
  hfg : fb ≠ 1
section
variable {w w' : World} {N fb rb : Nat} {po : Option Addr} {c : Nat} {bs : List Int} {p p' : Nat} {r r2 : Rec}
theorem RdI.below (h : RdI w N fb rb po c bs p r) (hb : Below w.heap.size w w') : RdI w' N fb rb po c bs p r :=
  ⟨h.rdr.below hb, h.box.below hb, ERow.below h.lt hb, ERow.below h.lc hb, ERow.below h.la hb, h.hrf, h.hrN, h.hfN, Nat.le_trans h.hN hb.size, h.hrp, h.hV.below hb, h.hrg, h.hfg⟩
theorem RdI.row (h : RdI w N fb rb po c bs p r) (ho : Off (fun q => q = fb ∨ q = rb) w w') {v : Value} {xs : List Int} (hb : BRow w N v xs) : BRow w' N v xs :=
  ERow.off hb ho fun g hg e => by have h1 := (ERow.lt hb hg).1; have h2 := h.hrN; have h3 := h.hfN; omega
theorem RdI.vars (h : RdI w N fb rb po c bs p r) (ho : Off (fun q => q = fb ∨ q = rb) w w') : PVx w' := fun j hj => by
  obtain ⟨s, hs⟩ := h.hV j hj
  exact ⟨s, (ho.cell (p := ⟨1, j, none⟩) (cell_lt hs) (fun g => by rcases g with g | g; exact h.hfg g.symm; exact h.hrg g.symm)).trans hs⟩
/-- The reader has gone on. -/
theorem RdI.adv (h : RdI w N fb rb po c bs p r) (hr : Rdr w' fb po c bs p') (ho : Off (fun q => q = fb) w w') : RdI w' N fb rb po c bs p' r := by
  have o2 : Off (fun q => q = fb ∨ q = rb) w w' := ho.mono fun _ g => Or.inl g
  exact ⟨hr, h.box.off ho h.hrf, h.row o2 h.lt, h.row o2 h.lc, h.row o2 h.la, h.hrf, h.hrN, h.hfN, Nat.le_trans h.hN ho.size, h.hrp, h.vars o2, h.hrg, h.hfg⟩
/-- A cell of the record is written. -/
theorem RdI.set (h : RdI w N fb rb po c bs p r) {o : Nat} {v : Value} (ho : o < 12) (he : (#[.int .i64 r.kd, .string r.ct, .slice r.tp r.tn r.tc, .bool r.e, .int .i64 r.a, .int .i64 r.p, .int .i64 r.nu, .int .i64 r.tk, .int .i64 r.st, .string r.cd, .slice r.cp r.cn r.cc, .slice r.ap r.an r.ac] : Array Value).set! o v = #[.int .i64 r2.kd, .string r2.ct, .slice r2.tp r2.tn r2.tc, .bool r2.e, .int .i64 r2.a, .int .i64 r2.p, .int .i64 r2.nu, .int .i64 r2.tk, .int .i64 r2.st, .string r2.cd, .slice r2.cp r2.cn r2.cc, .slice r2.ap r2.an r2.ac]) (h1 : BRow w N (.slice r2.tp r2.tn r2.tc) r2.tx) (h2 : BRow w N (.slice r2.cp r2.cn r2.cc) r2.cx) (h3 : BRow w N (.slice r2.ap r2.an r2.ac) r2.ax) :
    RdI (w.setCell ⟨rb, o, none⟩ v) N fb rb po c bs p r2 ∧ Off (fun q => q = fb ∨ q = rb) w (w.setCell ⟨rb, o, none⟩ v) := by
  have o1 : Off (fun q => q = rb) w (w.setCell ⟨rb, o, none⟩ v) := Off.setCell (P := fun q => q = rb) (p := ⟨rb, o, none⟩) (Off.refl _ w) rfl _
  have o2 : Off (fun q => q = fb ∨ q = rb) w (w.setCell ⟨rb, o, none⟩ v) := o1.mono fun _ g => Or.inr g
  refine ⟨⟨h.rdr.off o1 (fun e => h.hrf e.symm) (fun x hx => h.hrp x hx), ?_, h.row o2 h1, h.row o2 h2, h.row o2 h3, h.hrf, h.hrN, h.hfN, Nat.le_trans h.hN o2.size, h.hrp, h.vars o2, h.hrg, h.hfg⟩, o2⟩
  rw [← he]
  exact h.box.pPut (by simpa using ho) v
theorem RdI.cel (h : RdI w N fb rb po c bs p r) {o : Nat} (ho : o < 12) : Cel1 w rb o := by
  refine ⟨?_, h.box.free o⟩
  rw [h.box.cell]
  exact ⟨_, Array.getElem?_eq_getElem (by simpa using ho)⟩
end
end Go.Proofs.YtdjjologpodnkaaGreatDoor
