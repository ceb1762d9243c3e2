import Derived.Test.YtoijhecphgdfnaaDoorDcRefA
import Derived.Test.YtoijhecphgdfnaaDoorOxLaw0
import Derived.Test.YtoijhecphgdfnaaDoorOxList
/-
  The document's ownSent.
-/
namespace Go.Proofs.YtoijhecphgdfnaaDoor
open Go.RowKit

set_option maxRecDepth 100000 in
set_option maxHeartbeats 4000000 in
theorem rownSent_any (m : Msg) (w : World) (hb : Byts w m.tp m.tn m.tx) (hm : m.tn ≤ 140737488355328) :
    Calls Tryd.prog 35 #[.agg #[.string m.ct, .slice m.tp m.tn m.tc, .bool m.e, .int .i64 m.a, .int .i64 m.p, .int .i64 m.nu, .bool m.nt, .int .i64 m.st, .int .i64 m.lf, .bool m.un]] w fun r w' => ∃ a c, r = .returned (.agg #[.string m.ct, .slice a m.tn c, .bool m.e, .int .i64 m.a, .int .i64 m.p, .int .i64 m.nu, .bool m.nt, .int .i64 m.st, .int .i64 m.lf, .bool m.un]) ∧ BRow w' w.heap.size (.slice a m.tn c) m.tx ∧ Below w.heap.size w w' := by
  have bv : Below w.heap.size w ((w.alloc (.cells #[.string m.ct, .slice m.tp m.tn m.tc, .bool m.e, .int .i64 m.a, .int .i64 m.p, .int .i64 m.nu, .bool m.nt, .int .i64 m.st, .int .i64 m.lf, .bool m.un] 74)).alloc (.cells #[.string ⟨#[]⟩, .slice none 0 0, .bool false, .int .i64 0, .int .i64 0, .int .i64 0, .bool false, .int .i64 0, .int .i64 0, .bool false] 74)) := ((Below.refl _ _).alloc (Nat.le_refl _) _).alloc (by simp) _
  have bx := (Box.new w #[.string m.ct, .slice m.tp m.tn m.tc, .bool m.e, .int .i64 m.a, .int .i64 m.p, .int .i64 m.nu, .bool m.nt, .int .i64 m.st, .int .i64 m.lf, .bool m.un] 74).alloc (.cells #[.string ⟨#[]⟩, .slice none 0 0, .bool false, .int .i64 0, .int .i64 0, .int .i64 0, .bool false, .int .i64 0, .int .i64 0, .bool false] 74)
  have by_ := Box.new (w.alloc (.cells #[.string m.ct, .slice m.tp m.tn m.tc, .bool m.e, .int .i64 m.a, .int .i64 m.p, .int .i64 m.nu, .bool m.nt, .int .i64 m.st, .int .i64 m.lf, .bool m.un] 74)) #[.string ⟨#[]⟩, .slice none 0 0, .bool false, .int .i64 0, .int .i64 0, .int .i64 0, .bool false, .int .i64 0, .int .i64 0, .bool false] 74
  rw [World.size_alloc] at by_
  obtain ⟨V, hV⟩ : ∃ V, ((w.alloc (.cells #[.string m.ct, .slice m.tp m.tn m.tc, .bool m.e, .int .i64 m.a, .int .i64 m.p, .int .i64 m.nu, .bool m.nt, .int .i64 m.st, .int .i64 m.lf, .bool m.un] 74)).alloc (.cells #[.string ⟨#[]⟩, .slice none 0 0, .bool false, .int .i64 0, .int .i64 0, .int .i64 0, .bool false, .int .i64 0, .int .i64 0, .bool false] 74)) = V := ⟨_, rfl⟩
  have HZ : Hid (V.heap.size = w.heap.size + 1 + 1) := by unfold Hid; rw [← hV]; simp
  rw [hV] at bx by_ bv
  obtain ⟨xb, hxb⟩ : ∃ xb, w.heap.size = xb := ⟨_, rfl⟩
  have HXB : Hid (w.heap.size = xb) := hxb
  have HB0 : Hid (Below w.heap.size w V) := bv
  have HX : Hid (Box V xb #[.string m.ct, .slice m.tp m.tn m.tc, .bool m.e, .int .i64 m.a, .int .i64 m.p, .int .i64 m.nu, .bool m.nt, .int .i64 m.st, .int .i64 m.lf, .bool m.un] ∧ Box V (xb + 1) #[.string ⟨#[]⟩, .slice none 0 0, .bool false, .int .i64 0, .int .i64 0, .int .i64 0, .bool false, .int .i64 0, .int .i64 0, .bool false]) := by rw [← hxb]; exact ⟨bx, by_⟩
  have hd := rown_any m V (hb.below bv) hm
  have cx := HX.out.1.cell
  clear bv bx by_ hb hm
  go_enter Tryd.func35, Tryd.ntmps35
  go_wp2_with fail
  clear hV
  refine hd.mono ?_
  rintro _ w1 ⟨a1, c1, rfl, r1, b1⟩
  have HE : Hid (∀ W', Off (fun q => q = xb ∨ q = xb + 1) w1 W' → BRow W' w.heap.size (.slice a1 m.tn c1) m.tx ∧ Below w.heap.size w W') := fun W' ho => by
    have hz := HZ.out
    have hxx := HXB.out
    exact ⟨ERow.base (ERow.off r1 ho fun g hg h => by have := (ERow.lt r1 hg).1; omega) (by omega), (below_then HB0.out b1).trans (ho.below (Nat.le_trans HB0.out.size b1.size) fun k hk => by omega)⟩
  have kx := (HX.out.1.below b1).cell
  have fx := (HX.out.1.below b1).free
  have ky := (HX.out.2.below b1).cell
  have fy := (HX.out.2.below b1).free
  clear hd r1 b1 cx HX HB0
  go_wp2_with fail
  refine bodyPost_ret ?_ rfl ⟨a1, c1, rfl, HE.out _ ?_⟩
  · simp [results, Tryd.results35, go_sem, ky]
  · (repeat' (first | (with_reducible exact Off.refl _ _) | refine Off.setCell ?_ (by first | exact Or.inl rfl | exact Or.inr rfl) _))
end Go.Proofs.YtoijhecphgdfnaaDoor

/-
  The document's box: Next, Get, All, Give.
-/
namespace Go.Proofs.YtoijhecphgdfnaaDoor
open Go.RowKit

section
variable {w w' : World} {B r : Nat} {L : Value} {sq : Bool} {tr : Int} {ms : List Msg}
/-- A message told: an Out. -/
def OtQ (w : World) (m : Msg) (is : Bool) (e : Ending) (w' : World) : Prop := ∃ a c, e = .returned (.tuple #[.agg #[.string m.ct, .slice a m.tn c, .bool m.e, .int .i64 m.a, .int .i64 m.p, .int .i64 m.nu, .bool m.nt], .bool is]) ∧ Hid (BRow w' w.heap.size (.slice a m.tn c) m.tx ∧ Below w.heap.size w w')
/-- A message told: a Sent, and a number. -/
def StQ2 (w : World) (m : Msg) (cd : Int) (e : Ending) (w' : World) : Prop := ∃ a c, e = .returned (.tuple #[.agg #[.string m.ct, .slice a m.tn c, .bool m.e, .int .i64 m.a, .int .i64 m.p, .int .i64 m.nu, .bool m.nt, .int .i64 m.st, .int .i64 m.lf, .bool m.un], .int .i64 cd]) ∧ Hid (BRow w' w.heap.size (.slice a m.tn c) m.tx ∧ Below w.heap.size w w')
end
end Go.Proofs.YtoijhecphgdfnaaDoor

/-
  The document's box: Get, Give.
-/
namespace Go.Proofs.YtoijhecphgdfnaaDoor
open Go.RowKit

section
variable {w w' : World} {B r : Nat} {L : Value} {sq : Bool} {tr : Int} {ms : List Msg}
/-- Why Give refuses. -/
def givC (sq : Bool) (ms : List Msg) (n : Int) : Int := if sq = false ∨ nxI sq ms = none then 281 else if nmB n = false then 282 else 0
def GvQ (w : World) (B r : Nat) (L : Value) (sq : Bool) (tr : Int) (ms : List Msg) (x : Int) (e : Ending) (w' : World) : Prop := e = .returned (.int .i64 (givC sq ms x)) ∧ Hid ((givC sq ms x ≠ 0 ∧ w' = w) ∨ (givC sq ms x = 0 ∧ ∃ m, ms[0]? = some m ∧ nxI sq ms = some 0 ∧ RBQ w B r L sq tr (ms.set 0 { m with nu := x }) w'))
end
end Go.Proofs.YtoijhecphgdfnaaDoor

/-
  The law's 'sameList': two lists of copies of the same messages.
-/
namespace Go.Proofs.YtoijhecphgdfnaaDoor
open Go.RowKit

set_option maxRecDepth 100000 in
set_option maxHeartbeats 4000000 in
theorem sameList_true {w : World} {B B' n c c' : Nat} {a a' : Option Addr} {ls ls' ms : List Msg} (h1 : ERow w B 74 10 encM (.slice a n c) ls) (h2 : ERow w B' 74 10 encM (.slice a' n c') ls') (k1 : Cps w ls ms) (k2 : Cps w ls' ms) (hm : ∀ m ∈ ms, m.tn ≤ 8192) :
    Calls Tryd.prog 16 #[.slice a n c, .slice a' n c'] w fun e w' => e = .returned (.bool true) ∧ Below w.heap.size w w' := by
  have hn : n = ms.length := by rw [ERow.len h1, k1.1]
  have hx : n ≤ 9223372036854775807 := by
    rcases ERow.form h1 with ⟨_, e⟩ | ⟨g, cap, _, _, _, h3, h4⟩
    · have := k1.1; rw [e] at this; simp at this; omega
    · have := k1.1; unfold maxLen at h4; omega
  have HN : Hid (ms.length = n) := hn.symm
  have HH : Hid (ERow w B 74 10 encM (.slice a n c) ls ∧ ERow w B' 74 10 encM (.slice a' n c') ls' ∧ Cps w ls ms ∧ Cps w ls' ms ∧ ∀ m ∈ ms, m.tn ≤ 8192) := ⟨h1, h2, k1, k2, hm⟩
  clear hn h1 h2 k1 k2 hm
  go_enter Tryd.func16, Tryd.ntmps16
  go_wp2_with fail
  go_loopw [5] (fun ti wx => ∃ j : Nat, j ≤ n ∧ ti = .int .i64 j ∧ Hid (Below w.heap.size w wx)) (fun ti _ => n - (intOf ti).toNat)
  case atStart => exact ⟨0, Nat.zero_le _, rfl, Below.refl _ _⟩
  case round =>
    obtain ⟨j, hj, rfl, HB⟩ := hrel
    by_cases hlt : j < n
    · have hlt1 : (j : Int) < n := by omega
      obtain ⟨m, hm⟩ : ∃ m, ms[j]? = some m := ⟨_, List.getElem?_eq_getElem (by rw [HN.out]; exact hlt)⟩
      obtain ⟨l, hl⟩ : ∃ l, ls[j]? = some l := ⟨_, List.getElem?_eq_getElem (by rw [HH.out.2.2.1.1, HN.out]; exact hlt)⟩
      obtain ⟨l', hl'⟩ : ∃ l, ls'[j]? = some l := ⟨_, List.getElem?_eq_getElem (by rw [HH.out.2.2.2.1.1, HN.out]; exact hlt)⟩
      obtain ⟨⟨a1, c1, rfl⟩, t1⟩ := HH.out.2.2.1.2 j l m hl hm
      obtain ⟨⟨a2, c2, rfl⟩, t2⟩ := HH.out.2.2.2.1.2 j l' m hl' hm
      have hmt := HH.out.2.2.2.2 m (List.mem_of_getElem? hm)
      obtain ⟨g, rfl, _, hc⟩ := ERow.at_ encM_len (ERow.below HH.out.1 HB.out) hl
      obtain ⟨g', rfl, _, hc'⟩ := ERow.at_ encM_len (ERow.below HH.out.2.1 HB.out) hl'
      have p0 := hc 0 (by decide)
      have p1 := hc 1 (by decide)
      have p2 := hc 2 (by decide)
      have p3 := hc 3 (by decide)
      have p4 := hc 4 (by decide)
      have p5 := hc 5 (by decide)
      have p6 := hc 6 (by decide)
      have p7 := hc 7 (by decide)
      have p8 := hc 8 (by decide)
      have p9 := hc 9 (by decide)
      have q0 := hc' 0 (by decide)
      have q1 := hc' 1 (by decide)
      have q2 := hc' 2 (by decide)
      have q3 := hc' 3 (by decide)
      have q4 := hc' 4 (by decide)
      have q5 := hc' 5 (by decide)
      have q6 := hc' 6 (by decide)
      have q7 := hc' 7 (by decide)
      have q8 := hc' 8 (by decide)
      have q9 := hc' 9 (by decide)
      simp [encM] at p0 p1 p2 p3 p4 p5 p6 p7 p8 p9 q0 q1 q2 q3 q4 q5 q6 q7 q8 q9
      have HS : Hid (∀ z, Below wr.heap.size wr z → Calls Tryd.prog 37 #[.agg #[.string m.ct, .slice a1 m.tn c1, .bool m.e, .int .i64 m.a, .int .i64 m.p, .int .i64 m.nu, .bool m.nt, .int .i64 m.st, .int .i64 m.lf, .bool m.un], .agg #[.string m.ct, .slice a2 m.tn c2, .bool m.e, .int .i64 m.a, .int .i64 m.p, .int .i64 m.nu, .bool m.nt, .int .i64 m.st, .int .i64 m.lf, .bool m.un]] z fun e w' => e = .returned (.bool true) ∧ Hid (Below w.heap.size w w')) := fun z hz =>
        (sameSent_true m (BRow.byts (ERow.below (ERow.below t1 HB.out) hz)) (BRow.byts (ERow.below (ERow.below t2 HB.out) hz)) (by omega)).mono fun e w' ⟨he, hb⟩ => ⟨he, below_then (below_then HB.out hz) hb⟩
      clear hc hc' t1 t2 hl hl' hm hmt HH HB
      go_upto_region 6 with fail
      go_cut [26] from 11 to 26 (fun t26 wx => t26 = .bool false ∧ Hid (Below w.heap.size w wx))
      case first =>
        go_region_law (go_simp; go_at_call 37; refine (HS.out _ ?_).mono ?_; (first | exact Below.refl _ _ | exact Below.drew (Below.refl _ _)); rintro _ w2 ⟨rfl, hb2⟩)
        all_goals
          go_wp2_with fail
          go_meet
          exact ⟨rfl, hb2⟩
      case rest =>
        obtain ⟨rfl, HX⟩ := hcut
        clear HS
        go_wp2_with fail
        go_roundw
        case rel => exact ⟨j + 1, hlt, by go_num, HX⟩
        case measure => simp [intOf]; omega
    · have hlt1 : ¬ (j : Int) < n := by omega
      go_wp2_with fail
      go_ret
      exact ⟨rfl, HB.out⟩
end Go.Proofs.YtoijhecphgdfnaaDoor
