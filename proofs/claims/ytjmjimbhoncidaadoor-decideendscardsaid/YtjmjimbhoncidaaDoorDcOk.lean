/-
  What the program's calls owe: the document's answers. (PV: what its package-level variables hold: laid by the text DcVar.)
-/
import Derived.Test.YtjmjimbhoncidaaDoorDcRefA
import Derived.Test.YtjmjimbhoncidaaDoorDcRef2
import Derived.Test.YtjmjimbhoncidaaDoorDcVar
namespace Go.Proofs.YtjmjimbhoncidaaDoor
open Go.RowKit

def PAnsQ (x : Ans) (w : World) (r : Ending) (w' : World) : Prop := ∃ lv ev, r = .returned (.tuple #[.agg #[.int .i64 x.st, .int .i64 x.lf], lv, ev]) ∧ ActRow w' w.heap.size lv x.l ∧ Ev w' ev x.at_ x.n ∧ Below w.heap.size w w'
def PAns2Q (x : Ans2) (w : World) (r : Ending) (w' : World) : Prop := ∃ lv ev, r = .returned (.tuple #[.agg #[.bool x.d, .string x.c], lv, ev]) ∧ ActRow w' w.heap.size lv x.l ∧ Ev w' ev 0 x.n ∧ Below w.heap.size w w'
def PCopyQ (x : Ans2) (w : World) (r : Ending) (w' : World) : Prop := ∃ lv ev, r = .returned (.tuple #[lv, ev]) ∧ ActRow w' w.heap.size lv x.l ∧ Ev w' ev 0 x.n ∧ Below w.heap.size w w'
def PModeQ (x : AnsM) (w : World) (r : Ending) (w' : World) : Prop := ∃ ev, r = .returned (.tuple #[.agg #[.bool x.e, .int .i64 x.a, .int .i64 x.p], ev]) ∧ Ev w' ev x.at_ x.n ∧ Below w.heap.size w w'
/-- What hangs on the words alone; what hangs on the table of codes alone; both. -/
structure DecW : Prop where
  mode : ∀ (s t : ByteArray) (w : World), PVw w → Calls Tryd.prog 12 #[.string s, .string t] w (PModeQ (modeS s t) w)
  texts : ∀ (e : Bool) (a p : Int) (w : World), PVw w → Calls Tryd.prog 14 #[.agg #[.bool e, .int .i64 a, .int .i64 p]] w fun r w' => ∃ ev, r = .returned (.tuple #[.string (if okB e a p = true then textB e a else ⟨#[]⟩), .string (if okB e a p = true then textB e p else ⟨#[]⟩), ev]) ∧ Ev w' ev 0 (errN e a p) ∧ Below w.heap.size w w'
structure DecC : Prop where
  refuse : ∀ (e : Bool) (a p : Int) (h : Bool) (w : World), PVc w → Calls Tryd.prog 17 #[.agg #[.bool e, .int .i64 a, .int .i64 p], .bool h] w fun r w' => ∃ ev, r = .returned (.tuple #[.string (if okB e a p = true then refC e h else ⟨#[]⟩), .bool (okB e a p && sentB e a p (refC e h)), ev]) ∧ Ev w' ev 0 (errN e a p) ∧ Below w.heap.size w w'
  owes : ∀ (e : Bool) (a p : Int) (w : World), PVc w → Calls Tryd.prog 19 #[.agg #[.bool e, .int .i64 a, .int .i64 p]] w fun r w' => ∃ ev, r = .returned (.tuple #[.bool (okB e a p && caB e a), .bool (okB e a p && aaB e p), .bool (okB e a p && earB e a p (caB e a)), ev]) ∧ Ev w' ev 0 (errN e a p) ∧ Below w.heap.size w w'
  may : ∀ (e : Bool) (a p : Int) (s : ByteArray) (w : World), PVc w → Calls Tryd.prog 21 #[.agg #[.bool e, .int .i64 a, .int .i64 p], .string s] w fun r w' => ∃ ev, r = .returned (.tuple #[.bool (okB e a p && sentB e a p s), ev]) ∧ Ev w' ev 0 (errN e a p) ∧ Below w.heap.size w w'
  start : ∀ (e : Bool) (a p t : Int) (noted : Bool) (w : World), PVc w → Calls Tryd.prog 23 #[.agg #[.bool e, .int .i64 a, .int .i64 p], .int .i64 t, .bool noted] w (PAnsQ (startS e a p t noted) w)
  heard : ∀ (e : Bool) (a p st lf : Int) (s : ByteArray) (number : Bool) (w : World), PVc w → Calls Tryd.prog 34 #[.agg #[.bool e, .int .i64 a, .int .i64 p], .agg #[.int .i64 st, .int .i64 lf], .string s, .bool number] w (PAnsQ (heardS e a p st lf s number) w)
  due : ∀ (e : Bool) (a p st lf : Int) (w : World), PVc w → Calls Tryd.prog 32 #[.agg #[.bool e, .int .i64 a, .int .i64 p], .agg #[.int .i64 st, .int .i64 lf]] w (PAnsQ (dueS e a p st lf) w)
  take : ∀ (e : Bool) (a p : Int) (w : World), PVc w → Calls Tryd.prog 26 #[.agg #[.bool e, .int .i64 a, .int .i64 p]] w (PAns2Q (takeS e a p) w)
  judge : ∀ (e : Bool) (a p : Int) (d : Bool) (c s : ByteArray) (w : World), PVc w → Calls Tryd.prog 28 #[.agg #[.bool e, .int .i64 a, .int .i64 p], .agg #[.bool d, .string c], .string s] w (PAns2Q (judgeS e a p d c s) w)
  copy : ∀ (e : Bool) (a p : Int) (d : Bool) (c : ByteArray) (w : World), PVc w → Calls Tryd.prog 30 #[.agg #[.bool e, .int .i64 a, .int .i64 p], .agg #[.bool d, .string c]] w (PCopyQ (copyS e a p d c) w)
structure DecOk : Prop where
  mode : ∀ (s t : ByteArray) (w : World), PV w → Calls Tryd.prog 12 #[.string s, .string t] w (PModeQ (modeS s t) w)
  texts : ∀ (e : Bool) (a p : Int) (w : World), PV w → Calls Tryd.prog 14 #[.agg #[.bool e, .int .i64 a, .int .i64 p]] w fun r w' => ∃ ev, r = .returned (.tuple #[.string (if okB e a p = true then textB e a else ⟨#[]⟩), .string (if okB e a p = true then textB e p else ⟨#[]⟩), ev]) ∧ Ev w' ev 0 (errN e a p) ∧ Below w.heap.size w w'
  refuse : ∀ (e : Bool) (a p : Int) (h : Bool) (w : World), PV w → Calls Tryd.prog 17 #[.agg #[.bool e, .int .i64 a, .int .i64 p], .bool h] w fun r w' => ∃ ev, r = .returned (.tuple #[.string (if okB e a p = true then refC e h else ⟨#[]⟩), .bool (okB e a p && sentB e a p (refC e h)), ev]) ∧ Ev w' ev 0 (errN e a p) ∧ Below w.heap.size w w'
  owes : ∀ (e : Bool) (a p : Int) (w : World), PV w → Calls Tryd.prog 19 #[.agg #[.bool e, .int .i64 a, .int .i64 p]] w fun r w' => ∃ ev, r = .returned (.tuple #[.bool (okB e a p && caB e a), .bool (okB e a p && aaB e p), .bool (okB e a p && earB e a p (caB e a)), ev]) ∧ Ev w' ev 0 (errN e a p) ∧ Below w.heap.size w w'
  may : ∀ (e : Bool) (a p : Int) (s : ByteArray) (w : World), PV w → Calls Tryd.prog 21 #[.agg #[.bool e, .int .i64 a, .int .i64 p], .string s] w fun r w' => ∃ ev, r = .returned (.tuple #[.bool (okB e a p && sentB e a p s), ev]) ∧ Ev w' ev 0 (errN e a p) ∧ Below w.heap.size w w'
  start : ∀ (e : Bool) (a p t : Int) (noted : Bool) (w : World), PV w → Calls Tryd.prog 23 #[.agg #[.bool e, .int .i64 a, .int .i64 p], .int .i64 t, .bool noted] w (PAnsQ (startS e a p t noted) w)
  heard : ∀ (e : Bool) (a p st lf : Int) (s : ByteArray) (number : Bool) (w : World), PV w → Calls Tryd.prog 34 #[.agg #[.bool e, .int .i64 a, .int .i64 p], .agg #[.int .i64 st, .int .i64 lf], .string s, .bool number] w (PAnsQ (heardS e a p st lf s number) w)
  due : ∀ (e : Bool) (a p st lf : Int) (w : World), PV w → Calls Tryd.prog 32 #[.agg #[.bool e, .int .i64 a, .int .i64 p], .agg #[.int .i64 st, .int .i64 lf]] w (PAnsQ (dueS e a p st lf) w)
  take : ∀ (e : Bool) (a p : Int) (w : World), PV w → Calls Tryd.prog 26 #[.agg #[.bool e, .int .i64 a, .int .i64 p]] w (PAns2Q (takeS e a p) w)
  judge : ∀ (e : Bool) (a p : Int) (d : Bool) (c s : ByteArray) (w : World), PV w → Calls Tryd.prog 28 #[.agg #[.bool e, .int .i64 a, .int .i64 p], .agg #[.bool d, .string c], .string s] w (PAns2Q (judgeS e a p d c s) w)
  copy : ∀ (e : Bool) (a p : Int) (d : Bool) (c : ByteArray) (w : World), PV w → Calls Tryd.prog 30 #[.agg #[.bool e, .int .i64 a, .int .i64 p], .agg #[.bool d, .string c]] w (PCopyQ (copyS e a p d c) w)
theorem decOk_of (X : DecW) (Y : DecC) : DecOk :=
  ⟨fun s t w hV => X.mode s t w hV.1, fun e a p w hV => X.texts e a p w hV.1, fun e a p h w hV => Y.refuse e a p h w hV.2, fun e a p w hV => Y.owes e a p w hV.2, fun e a p s w hV => Y.may e a p s w hV.2, fun e a p t noted w hV => Y.start e a p t noted w hV.2, fun e a p st lf s number w hV => Y.heard e a p st lf s number w hV.2, fun e a p st lf w hV => Y.due e a p st lf w hV.2, fun e a p w hV => Y.take e a p w hV.2, fun e a p d c s w hV => Y.judge e a p d c s w hV.2, fun e a p d c w hV => Y.copy e a p d c w hV.2⟩
theorem heardS_len (e : Bool) (a p st lf : Int) (s : ByteArray) (number : Bool) : (heardS e a p st lf s number).l.length ≤ 3 := by
  unfold heardS; repeat' split
  all_goals simp
theorem heardS_at (e : Bool) (a p st lf : Int) (s : ByteArray) (number : Bool) : (heardS e a p st lf s number).at_ = 0 := by
  unfold heardS; repeat' split
  all_goals rfl
theorem dueS_at (e : Bool) (a p st lf : Int) : (dueS e a p st lf).at_ = 0 := by
  unfold dueS; repeat' split
  all_goals rfl
theorem dueS_len (e : Bool) (a p st lf : Int) : (dueS e a p st lf).l.length ≤ 3 := by
  unfold dueS; repeat' split
  all_goals simp
theorem startS_len (e : Bool) (a p t : Int) (noted : Bool) : (startS e a p t noted).l.length ≤ 3 := by
  unfold startS; repeat' split
  all_goals simp
theorem takeS_len (e : Bool) (a p : Int) : (takeS e a p).l.length ≤ 3 := by
  unfold takeS caL; repeat' split
  all_goals simp
theorem judgeS_len (e : Bool) (a p : Int) (d : Bool) (c s : ByteArray) : (judgeS e a p d c s).l.length ≤ 3 := by
  unfold judgeS; repeat' split
  all_goals simp
theorem copyS_len (e : Bool) (a p : Int) (d : Bool) (c : ByteArray) : (copyS e a p d c).l.length ≤ 3 := by
  unfold copyS caL; repeat' split
  all_goals simp
theorem Acts.drewN {w : World} {N : Nat} {v : Value} {l : ActL} (h : Acts w N v l) (n : Nat) : Acts (w.drewN n) N v l := h
end Go.Proofs.YtjmjimbhoncidaaDoor
