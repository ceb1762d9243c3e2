import Derived.Test.YtigmgbnfiiobeaaDoorOxAdd2
import Derived.Test.YtigmgbnfiiobeaaDoorOxLaw0
import Derived.Lib.SlBytesConst
/-
  The document's second example as plain data. Of no program.
-/
namespace Go.Proofs.YtigmgbnfiiobeaaDoor
open Go.RowKit

abbrev cA1 : ByteArray := ⟨#[65, 49]⟩
abbrev cA2 : ByteArray := ⟨#[65, 50]⟩
def M1 (a : Option Addr) (c : Nat) (nu st lf : Int) (un : Bool) : Msg := ⟨cA1, a, 1, c, [116], true, 1, 1, nu, false, st, lf, un⟩
def M2 (a : Option Addr) (c : Nat) : Msg := ⟨cA2, a, 1, c, [116], true, 1, 1, 0, false, 0, 0, false⟩
variable (a a2 : Option Addr) (c c2 : Nat)
theorem ctA1 : ctB cA1 = true := by decide
theorem ctA2 : ctB cA2 = true := by decide
theorem ne12 : ((cA1 : ByteArray).toList == cA2.toList) = false := by rw [Lib.toList_data, Lib.toList_data]; decide
theorem hd1 : addC true [] (M1 a c 0 0 0 false) = 0 := by
  unfold addC refS
  rw [show ctB (M1 a c 0 0 0 false).ct = true from ctA1]
  rfl
theorem fi1 (nu st lf : Int) (un : Bool) : fi cA1 [M1 a c nu st lf un, M2 a2 c2] = some 0 := by
  unfold fi M1 M2
  rw [List.findIdx?_cons]
  simp
theorem hd2 : addC true [M1 a c 0 0 0 false] (M2 a2 c2) = 0 := by
  have hf : fi cA2 [M1 a c 0 0 0 false] = none := by
    unfold fi M1
    rw [List.findIdx?_cons]
    simp only [ne12]
    rfl
  unfold addC refS
  rw [show ctB (M2 a2 c2).ct = true from ctA2, show fi (M2 a2 c2).ct [M1 a c 0 0 0 false] = none from hf]
  rfl
theorem hd4 : putS { M1 a c 0 0 0 false with nu := 7 } [M1 a c 0 0 0 false, M2 a2 c2] = [M1 a c 7 0 0 false, M2 a2 c2] := by
  unfold putS
  rw [show fi ({ M1 a c 0 0 0 false with nu := 7 } : Msg).ct [M1 a c 0 0 0 false, M2 a2 c2] = some 0 from fi1 a a2 c c2 0 0 0 false]
  rfl
theorem hd6 : startS true 1 1 1 false = ⟨1, 1, [(1, nT), (2, nT)], 0, 0⟩ := by rfl
theorem hd7 : doS [M1 a c 7 0 0 false, M2 a2 c2] { M1 a c 7 0 0 false with st := 1, lf := 1, un := true } 0 [(1, nT), (2, nT)] = [M1 a c 7 1 1 true, M2 a2 c2] := by
  show putS (M1 a c 7 1 1 true) [M1 a c 7 0 0 false, M2 a2 c2] = _
  unfold putS
  rw [show fi (M1 a c 7 1 1 true).ct [M1 a c 7 0 0 false, M2 a2 c2] = some 0 from fi1 a a2 c c2 7 0 0 false]
  rfl
theorem hd10 : heardS true 1 1 1 1 kCE true = ⟨1, 0, [(5, nT), (1, nT), (2, nT)], 0, 0⟩ := by
  unfold heardS
  rw [show sentB true 1 1 kCE = true by decide, show ((kCE : ByteArray).toList == [67, 65]) = false by rw [Lib.toList_data]; decide, show ((kCE : ByteArray).toList == [67, 69]) = true by rw [Lib.toList_data]; decide]
  rfl
theorem hd11 : doS [M1 a c 7 1 1 true, M2 a2 c2] { M1 a c 7 1 1 true with st := 1, lf := 0, un := true } 9 [(5, nT), (1, nT), (2, nT)] = [M1 a c 9 1 0 true, M2 a2 c2] := by
  show putS (M1 a c 9 1 0 true) [M1 a c 7 1 1 true, M2 a2 c2] = _
  unfold putS
  rw [show fi (M1 a c 9 1 0 true).ct [M1 a c 7 1 1 true, M2 a2 c2] = some 0 from fi1 a a2 c c2 7 1 1 true]
  rfl
end Go.Proofs.YtigmgbnfiiobeaaDoor

/-
  The document's second example, walked: the law's 'heads'.
-/
namespace Go.Proofs.YtigmgbnfiiobeaaDoor
open Go.RowKit

theorem always_any (z : World) : Calls Tryd.prog 13 #[] z fun e w' => e = .returned (.agg #[.bool true, .int .i64 1, .int .i64 1]) ∧ Below z.heap.size z w' := by
  go_enter Tryd.func13, Tryd.ntmps13
  go_wp2_with fail
  refine bodyPost_ret ?_ rfl ⟨rfl, ?_⟩
  · simp [results, Tryd.results13, go_sem]
  · exact (Below.refl _ _).alloc (Nat.le_refl _) _
section
variable {W w : World} {b kb : Nat} {v : Value}
theorem DRow.first {w : World} {B : Nat} {a : Option Addr} {n c : Nat} {d : Deed} {ds : List Deed} (h : DRow w B (.slice a n c) (d :: ds)) : ∃ g, a = some ⟨g, 0, none⟩ := by
  obtain ⟨g, e, _⟩ := ERow.at_ encD_len h (j := 0) (x := d) rfl
  exact ⟨g, e⟩
theorem DRow.cells {w : World} {B g : Nat} {n c : Nat} {d : Deed} {ds : List Deed} (h : DRow w B (.slice (some ⟨g, 0, none⟩) n c) (d :: ds)) : w.cell? ⟨g, 0, none⟩ = some (.string d.1) ∧ w.cell? ⟨g, 1, none⟩ = some (.int .i64 d.2.1) ∧ w.cell? ⟨g, 2, none⟩ = some (.string d.2.2) := by
  obtain ⟨g', e, _, hc⟩ := ERow.at_ encD_len h (j := 0) (x := d) rfl
  simp only [Option.some.injEq, Addr.mk.injEq] at e
  obtain ⟨rfl, _⟩ := e
  exact ⟨hc 0 (by decide), hc 1 (by decide), hc 2 (by decide)⟩
theorem byts_t (w : World) : Byts (w.alloc (.cells #[.int .u8 116] 5 (1, 2))) (some ⟨w.heap.size, 0, none⟩) 1 [116] :=
  ⟨rfl, fun j hj => by
    obtain rfl : j = 0 := by omega
    refine ⟨w.heap.size, 0, rfl, by simp, ?_⟩
    unfold World.cell?
    rw [show (w.alloc (.cells #[.int .u8 116] 5 (1, 2))).heap[w.heap.size]? = some (.cells #[.int .u8 116] 5 (1, 2)) from heap_alloc_new _ _]
    rfl⟩
theorem hd_add1 {g : Addr} (L : Li W w b kb v true 1 []) (hV : PVc W) (hb : Byts w (some g) 1 [116]) : Calls Tryd.prog 12 #[.pointer (some ⟨b, 0, none⟩), .string cA1, .slice (some g) 1 1, .agg #[.bool true, .int .i64 1, .int .i64 1]] w fun e w' => e = .returned .nilIface ∧ Hid (∃ v a c, Li W w' b kb v true 1 [M1 a c 0 0 0 false]) :=
  (add_yes (m := M1 (some g) 1 0 0 0 false) L.bx (hV.below L.bel) rfl rfl rfl rfl rfl hb (fun e => by cases e) (hd1 _ _)).mono fun e w' ⟨he, a, c, hq⟩ => by
    obtain ⟨v', L'⟩ := L.step hq
    exact ⟨he, v', a, c, L'⟩
theorem hd_add2 {g : Addr} {a : Option Addr} {c : Nat} (L : Li W w b kb v true 1 [M1 a c 0 0 0 false]) (hV : PVc W) (hb : Byts w (some g) 1 [116]) : Calls Tryd.prog 12 #[.pointer (some ⟨b, 0, none⟩), .string cA2, .slice (some g) 1 1, .agg #[.bool true, .int .i64 1, .int .i64 1]] w fun e w' => e = .returned .nilIface ∧ Hid (∃ v a2 c2, Li W w' b kb v true 1 [M1 a c 0 0 0 false, M2 a2 c2]) :=
  (add_yes (m := M2 (some g) 1) L.bx (hV.below L.bel) rfl rfl rfl rfl rfl hb (fun e => by cases e) (hd2 _ _ _ _)).mono fun e w' ⟨he, a, c, hq⟩ => by
    obtain ⟨v', L'⟩ := L.step hq
    exact ⟨he, v', a, c, L'⟩
theorem hd_give {a a2 : Option Addr} {c c2 : Nat} (L : Li W w b kb v true 1 [M1 a c 0 0 0 false, M2 a2 c2]) : Calls Tryd.prog 10 #[.pointer (some ⟨b, 0, none⟩), .int .i64 7] w fun e w' => e = .returned .nilIface ∧ Hid (∃ v, Li W w' b kb v true 1 [M1 a c 7 0 0 false, M2 a2 c2]) :=
  (give_yes (m := M1 a c 0 0 0 false) L.bx rfl (by decide)).mono fun e w' ⟨he, hq⟩ => by
    rw [hd4] at hq
    exact ⟨he, L.step hq⟩
theorem hd_go {a a2 : Option Addr} {c c2 : Nat} (L : Li W w b kb v true 1 [M1 a c 7 0 0 false, M2 a2 c2]) (hV : PVc W) : Calls Tryd.prog 11 #[.pointer (some ⟨b, 0, none⟩)] w fun e w' => ∃ g k, e = .returned (.tuple #[.slice (some ⟨g, 0, none⟩) 2 k, .nilIface]) ∧ Hid ((∃ v, Li W w' b kb v true 1 [M1 a c 7 1 1 true, M2 a2 c2]) ∧ DRow w' W.heap.size (.slice (some ⟨g, 0, none⟩) 2 k) [(cA1, 1, nT), (cA1, 2, nT)]) :=
  (go_go (m := M1 a c 7 0 0 false) L.bx (hV.below L.bel) rfl rfl rfl).mono fun e w' ⟨x, k, he, hr, hq⟩ => by
    have hr' : DRow w' w.heap.size (.slice x 2 k) [(cA1, 1, nT), (cA1, 2, nT)] := hr
    have hq' : BxQ w b kb v true 1 (doS [M1 a c 7 0 0 false, M2 a2 c2] { M1 a c 7 0 0 false with st := 1, lf := 1, un := true } 0 [(1, nT), (2, nT)]) w' := hq
    rw [hd7] at hq'
    obtain ⟨g, rfl⟩ := hr'.first
    exact ⟨g, k, he, L.step hq', ERow.base hr' L.bel.size⟩
theorem hd_next {a a2 : Option Addr} {c c2 : Nat} (L : Li W w b kb v true 1 [M1 a c 7 1 1 true, M2 a2 c2]) : Calls Tryd.prog 9 #[.pointer (some ⟨b, 0, none⟩)] w fun e w' => ∃ a c, e = .returned (.tuple #[.agg #[.string ⟨#[]⟩, .slice a 0 c, .bool false, .int .i64 0, .int .i64 0, .int .i64 0, .bool false], .bool false]) ∧ Below w.heap.size w w' :=
  (nextC_no L.bx rfl).mono fun _ _ ⟨a, c, he, _, hb⟩ => ⟨a, c, he, hb⟩
theorem hd_heard {a a2 : Option Addr} {c c2 : Nat} (L : Li W w b kb v true 1 [M1 a c 7 1 1 true, M2 a2 c2]) (hV : PVc W) : Calls Tryd.prog 14 #[.pointer (some ⟨b, 0, none⟩), .string cA1, .string kCE, .int .i64 9] w fun e w' => ∃ g k, e = .returned (.tuple #[.slice (some ⟨g, 0, none⟩) 3 k, .nilIface]) ∧ Hid ((∃ v, Li W w' b kb v true 1 [M1 a c 9 1 0 true, M2 a2 c2]) ∧ DRow w' W.heap.size (.slice (some ⟨g, 0, none⟩) 3 k) [(cA1, 5, nT), (cA1, 1, nT), (cA1, 2, nT)]) := by
  have e1 : heardS (M1 a c 7 1 1 true).e (M1 a c 7 1 1 true).a (M1 a c 7 1 1 true).p (M1 a c 7 1 1 true).st (M1 a c 7 1 1 true).lf kCE true = ⟨1, 0, [(5, nT), (1, nT), (2, nT)], 0, 0⟩ := hd10
  have h := heard_go (m := M1 a c 7 1 1 true) (s := kCE) (T := true) (x := 9) L.bx (hV.below L.bel) (fi1 a a2 c c2 7 1 1 true) rfl rfl (Or.inr (by decide)) rfl rfl (by rw [e1])
  rw [e1] at h
  refine h.mono fun e w' ⟨x, k, he, hr, hq⟩ => ?_
  have hr' : DRow w' w.heap.size (.slice x 3 k) [(cA1, 5, nT), (cA1, 1, nT), (cA1, 2, nT)] := hr
  have hq' : BxQ w b kb v true 1 (doS [M1 a c 7 1 1 true, M2 a2 c2] { M1 a c 7 1 1 true with st := 1, lf := 0, un := true } 9 [(5, nT), (1, nT), (2, nT)]) w' := hq
  rw [hd11] at hq'
  obtain ⟨g, rfl⟩ := hr'.first
  exact ⟨g, k, he, L.step hq', ERow.base hr' L.bel.size⟩
theorem hd_get {a a2 : Option Addr} {c c2 : Nat} (L : Li W w b kb v true 1 [M1 a c 9 1 0 true, M2 a2 c2]) : Calls Tryd.prog 15 #[.pointer (some ⟨b, 0, none⟩), .string cA1] w fun e w' => ∃ a c, e = .returned (.tuple #[.agg #[.string cA1, .slice a 1 c, .bool true, .int .i64 1, .int .i64 1, .int .i64 9, .bool false, .int .i64 1, .int .i64 0, .bool true], .nilIface]) ∧ Below w.heap.size w w' :=
  (get_yes (m := M1 a c 9 1 0 true) L.bx cA1 (fi1 a a2 c c2 9 1 0 true) rfl).mono fun _ _ ⟨a, c, he, _, hb⟩ => ⟨a, c, he, hb⟩
end
end Go.Proofs.YtigmgbnfiiobeaaDoor
