import Derived.Test.YtoijhecphgdfnaaDoorDcPj
import Derived.Test.YtoijhecphgdfnaaDoorDcOpen
import Derived.Shelf.Abstract
import Derived.Lib.ConvBytes
/-
  The program's strange, refusedOrOver, heardAhead, heardBehind.
-/
namespace Go.Proofs.YtoijhecphgdfnaaDoor
open Go.RowKit

end Go.Proofs.YtoijhecphgdfnaaDoor

/-
  The program's refusedOrOver with a try left; heardAhead, heardBehind.
-/
namespace Go.Proofs.YtoijhecphgdfnaaDoor
open Go.RowKit

theorem ActRow.drew' {w : World} {B : Nat} {v : Value} {l : ActL} (h : ActRow w B v l) : ActRow w.drew B v l := h
end Go.Proofs.YtoijhecphgdfnaaDoor

/-
  The program's Mode, begin, Start.
-/
namespace Go.Proofs.YtoijhecphgdfnaaDoor
open Go.RowKit

theorem box_ne {x : World} {R z : Nat} {cs : Array Value} {a c : Int} (h : Box x R cs) (hf : DFault x z a c) (h0 : ∀ s, cs[0]? ≠ some (.string s)) : R ≠ z := fun g => h0 _ (by rw [← h.cell 0, g]; exact hf.1)
theorem dff2 {w x : World} {R z : Nat} {a cd : Int} (hb : Below w.heap.size w x) (hf : DFault x z a cd) (hR : w.heap.size ≤ R) (n : R ≠ z) (u0 u1 : Value) : DFault ((x.setCell ⟨R, 0, none⟩ u0).setCell ⟨R, 1, none⟩ u1) z a cd ∧ Below w.heap.size w ((x.setCell ⟨R, 0, none⟩ u0).setCell ⟨R, 1, none⟩ u1) :=
  ⟨(hf.pOff (p := ⟨R, 0, none⟩) n _).pOff (p := ⟨R, 1, none⟩) n _, (hb.setCell (p := ⟨R, 0, none⟩) hR _).setCell (p := ⟨R, 1, none⟩) hR _⟩
theorem dff3 {w x : World} {R z : Nat} {a cd : Int} (hb : Below w.heap.size w x) (hf : DFault x z a cd) (hR : w.heap.size ≤ R) (n : R ≠ z) (u0 u1 u2 : Value) : DFault (((x.setCell ⟨R, 0, none⟩ u0).setCell ⟨R, 1, none⟩ u1).setCell ⟨R, 2, none⟩ u2) z a cd ∧ Below w.heap.size w (((x.setCell ⟨R, 0, none⟩ u0).setCell ⟨R, 1, none⟩ u1).setCell ⟨R, 2, none⟩ u2) :=
  ⟨((hf.pOff (p := ⟨R, 0, none⟩) n _).pOff (p := ⟨R, 1, none⟩) n _).pOff (p := ⟨R, 2, none⟩) n _, ((hb.setCell (p := ⟨R, 0, none⟩) hR _).setCell (p := ⟨R, 1, none⟩) hR _).setCell (p := ⟨R, 2, none⟩) hR _⟩
theorem bel3 {w x : World} {R : Nat} (hb : Below w.heap.size w x) (hR : w.heap.size ≤ R) (u0 u1 u2 : Value) : Below w.heap.size w (((x.setCell ⟨R, 0, none⟩ u0).setCell ⟨R, 1, none⟩ u1).setCell ⟨R, 2, none⟩ u2) := ((hb.setCell (p := ⟨R, 0, none⟩) hR _).setCell (p := ⟨R, 1, none⟩) hR _).setCell (p := ⟨R, 2, none⟩) hR _
theorem bel2 {w x : World} {R : Nat} (hb : Below w.heap.size w x) (hR : w.heap.size ≤ R) (u0 u1 : Value) : Below w.heap.size w ((x.setCell ⟨R, 0, none⟩ u0).setCell ⟨R, 1, none⟩ u1) := (hb.setCell (p := ⟨R, 0, none⟩) hR _).setCell (p := ⟨R, 1, none⟩) hR _
end Go.Proofs.YtoijhecphgdfnaaDoor

/-
  The program's standing, refused.
-/
namespace Go.Proofs.YtoijhecphgdfnaaDoor
open Go.RowKit

end Go.Proofs.YtoijhecphgdfnaaDoor

/-
  The program's Due, Heard.
-/
namespace Go.Proofs.YtoijhecphgdfnaaDoor
open Go.RowKit

end Go.Proofs.YtoijhecphgdfnaaDoor

/-
  The program's standing, whole; Due, Heard as the document says them.
-/
namespace Go.Proofs.YtoijhecphgdfnaaDoor
open Go.RowKit

section
variable {e : Bool} {a p lf : Int} {w : World} (hV : PVc w) (ok : okB e a p = true) (lk : decide (0 ≤ lf ∧ lf ≤ 16) = true)
include hV ok lk
end
theorem fit_of {e : Bool} {a p st lf : Int} (hf : fitB e a p st lf = true) : (1 ≤ st ∧ st ≤ 6 ∧ 0 ≤ lf ∧ lf ≤ 16) ∧ (if st = 1 then caB e a else if st = 2 then aaB e p else if st = 3 then earB e a p (caB e a) else if st = 6 then caB e a || aaB e p else true) = true := by
  unfold fitB at hf
  rw [Bool.and_eq_true] at hf
  exact ⟨of_decide_eq_true hf.1, hf.2⟩
theorem ev_ok (w : World) (a : Int) : Ev w .nilIface a 0 := Or.inl ⟨rfl, rfl⟩
theorem ev_no {w : World} {z : Nat} {a c : Int} (h : DFault w z a c) (hc : c ≠ 0) : Ev w (.iface 91 (.pointer (some ⟨z, 0, none⟩))) a c := Or.inr ⟨hc, z, rfl, h⟩
/-- An answer of acts, as the law asks it. -/
theorem pans {st lf : Int} {l : ActL} {w : World} {r : Ending} {w' : World} {n : Nat} (hn : l.length = n) (h : ∃ po cap, r = .returned (.tuple #[.agg #[.int .i64 st, .int .i64 lf], .slice po n cap, .nilIface]) ∧ ActRow w' w.heap.size (.slice po n cap) l ∧ Below w.heap.size w w') : PAnsQ ⟨st, lf, l, 0, 0⟩ w r w' := by
  subst hn
  obtain ⟨po, cap, h1, h2, h3⟩ := h
  exact ⟨_, _, h1, h2, ev_ok _ _, h3⟩
theorem pansE {w : World} {r : Ending} {w' : World} {at_ cd : Int} (hc : cd ≠ 0) (h : ∃ z, r = .returned (.tuple #[.agg #[.int .i64 0, .int .i64 0], .slice none 0 0, .iface 91 (.pointer (some ⟨z, 0, none⟩))]) ∧ DFault w' z at_ cd ∧ Below w.heap.size w w') : PAnsQ ⟨0, 0, [], at_, cd⟩ w r w' := by
  obtain ⟨z, h1, h2, h3⟩ := h
  exact ⟨_, _, h1, ActRow.nil _ _, ev_no h2 hc, h3⟩
end Go.Proofs.YtoijhecphgdfnaaDoor

/-
  The program's Heard as the document says it.
-/
namespace Go.Proofs.YtoijhecphgdfnaaDoor
open Go.RowKit

end Go.Proofs.YtoijhecphgdfnaaDoor

/-
  The program's Take, Judge, Copy.
-/
namespace Go.Proofs.YtoijhecphgdfnaaDoor
open Go.RowKit

end Go.Proofs.YtoijhecphgdfnaaDoor

/-
  The program's calls answer as the document does.
-/
namespace Go.Proofs.YtoijhecphgdfnaaDoor
open Go.RowKit

theorem err_no {e : Bool} {a p : Int} (ok : okB e a p = false) : errN e a p = 220 := by unfold errN; rw [ok]; rfl
theorem err_ok {e : Bool} {a p : Int} (ok : okB e a p = true) : errN e a p = 0 := by unfold errN; rw [ok]; rfl
theorem wB_text (x : Nat) (hx : x < 4) : wB x = textB true x := by
  rcases (by omega : x = 0 ∨ x = 1 ∨ x = 2 ∨ x = 3) with rfl | rfl | rfl | rfl <;> rfl
theorem word_empty {s : ByteArray} (h : s.toList.isEmpty = true) : wordK s = true := by unfold wordK; rw [h]; rfl
theorem may_ok (e : Bool) (a p : Int) (s : ByteArray) (w : World) (hV : PVc w) : Calls Tryd.prog 55 #[.agg #[.bool e, .int .i64 a, .int .i64 p], .string s] w fun r w' => ∃ ev, r = .returned (.tuple #[.bool (okB e a p && sentB e a p s), ev]) ∧ Ev w' ev 0 (errN e a p) ∧ Below w.heap.size w w' := by
  cases ok : okB e a p with
  | false => rw [err_no ok]; exact (May_no e a p s w ok).mono fun _ _ ⟨z, g1, g2, g3⟩ => ⟨_, g1, ev_no g2 (by decide), g3⟩
  | true => rw [err_ok ok]; exact (May_ok e a p s w hV ok).mono fun _ _ ⟨g1, g3⟩ => ⟨_, g1, ev_ok _ _, g3⟩
theorem pans2E {w : World} {r : Ending} {w' : World} {cd : Int} (hc : cd ≠ 0) (h : ∃ z, r = .returned (.tuple #[.agg #[.bool false, .string ⟨#[]⟩], .slice none 0 0, .iface 91 (.pointer (some ⟨z, 0, none⟩))]) ∧ DFault w' z 0 cd ∧ Below w.heap.size w w') : PAns2Q ⟨false, nT, [], cd⟩ w r w' := by
  obtain ⟨z, h1, h2, h3⟩ := h
  exact ⟨_, _, h1, ActRow.nil _ _, ev_no h2 hc, h3⟩
theorem pans2 {d : Bool} {c : ByteArray} {l : ActL} {w : World} {r : Ending} {w' : World} {n : Nat} (hn : l.length = n) (h : ∃ po cap, r = .returned (.tuple #[.agg #[.bool d, .string c], .slice po n cap, .nilIface]) ∧ ActRow w' w.heap.size (.slice po n cap) l ∧ Below w.heap.size w w') : PAns2Q ⟨d, c, l, 0⟩ w r w' := by
  subst hn
  obtain ⟨po, cap, h1, h2, h3⟩ := h
  exact ⟨_, _, h1, h2, ev_ok _ _, h3⟩
end Go.Proofs.YtoijhecphgdfnaaDoor

/-
  The box's leaves: numbers, control ids, conditions, a message copied, found.
-/
namespace Go.Proofs.YtoijhecphgdfnaaDoor
open Go.RowKit

set_option maxHeartbeats 400000 in
theorem isNumber_any (n : Int) (w : World) : Calls Tryd.prog 56 #[.int .i64 n] w fun e w' => e = .returned (.bool (nmB n)) ∧ w' = w := by
  go_enter Tryd.func56, Tryd.ntmps56
  go_wp2
  all_goals (go_ret; exact ⟨ret_bool (by unfold nmB; rw [Bool.eq_iff_iff]; simp; try omega), rfl⟩)
set_option maxHeartbeats 1000000 in
theorem isCB_any (c : Int) (w : World) : Calls Tryd.prog 54 #[.int .u8 c] w fun e w' => e = .returned (.bool (cbB c)) ∧ w' = w := by
  go_enter Tryd.func54, Tryd.ntmps54
  go_wp2
  all_goals (go_ret; exact ⟨ret_bool (by unfold cbB; rw [Bool.eq_iff_iff]; simp; try (first | omega | (intros; omega))), rfl⟩)
set_option maxRecDepth 100000 in
set_option maxHeartbeats 2000000 in
theorem isControl_any (s : ByteArray) (w : World) : Calls Tryd.prog 45 #[.string s] w fun e w' => e = .returned (.bool (ctB s)) ∧ Below w.heap.size w w' := by
  by_cases h0 : s.size = 0
  · have e0 : ctB s = false := by unfold ctB; rw [h0]; rfl
    rw [e0]
    have h2 : ((s.size : Int) == 0) = true := by rw [h0]; rfl
    go_enter Tryd.func45, Tryd.ntmps45
    go_wp2
    go_ret
    exact ⟨rfl, Below.refl _ _⟩
  have h2 : ((s.size : Int) == 0) = false := by rw [beq_eq_false_iff_ne]; omega
  by_cases h18 : 18 < s.size
  · have e0 : ctB s = false := by unfold ctB; rw [decide_eq_false (show ¬ s.size ≤ 18 by omega)]; simp
    rw [e0]
    have h3 : (s.size : Int) > 18 := by omega
    go_enter Tryd.func45, Tryd.ntmps45
    go_wp2
    go_ret
    exact ⟨rfl, Below.refl _ _⟩
  have h3 : ¬ (s.size : Int) > 18 := by omega
  have hcv : (convert 9 44 (.string s)).run Tryd.prog w = _ := Lib.run_convert_string_bytes _ 9 44 5 s Tryd.underlying9 Tryd.underlying44 Tryd.underlying5
  have hc2 := fun j hj => Lib.bytesWorld_cell w 5 s j hj
  have hb2 : Below w.heap.size w (Lib.bytesWorld w 5 s) := ⟨rfl, rfl, rfl, by rw [Lib.bytesWorld_size]; omega, fun k hk => Lib.bytesWorld_at_old w _ s k hk⟩
  obtain ⟨W2, hW2⟩ : ∃ W2, Lib.bytesWorld w 5 s = W2 := ⟨_, rfl⟩
  rw [hW2] at hcv hc2 hb2
  obtain ⟨cap, hcap⟩ : ∃ c, grownCap w s.size 0 5 = c := ⟨_, rfl⟩
  rw [hcap] at hcv
  obtain ⟨n, hn⟩ : ∃ n, s.size = n := ⟨_, rfl⟩
  have HN : Hid (s.data.toList.length = n) := by unfold Hid; rw [← hn]; rfl
  have HE : Hid (ctB s = s.data.toList.all (fun c => cbB (c.toNat : Int))) := by
    unfold ctB; rw [decide_eq_true (show 1 ≤ s.size by omega), decide_eq_true (show s.size ≤ 18 by omega)]; rfl
  rw [hn] at hcv h0 h18 h2 h3 hc2
  have HC : Hid (∀ j, j < n → W2.cell? ⟨w.heap.size, j, none⟩ = some (.int .u8 (s.data.toList.getD j 0).toNat)) := hc2
  have HB : Hid (Below w.heap.size w W2) := hb2
  have hsz : (s.size : Int) = n := by rw [hn]
  clear hW2 hcap hc2 hb2 hn
  go_enter Tryd.func45, Tryd.ntmps45
  go_wp2_with fail
  go_loopw [16] (fun t wx => ∃ i : Nat, i ≤ n ∧ t = .int .i64 i ∧ wx = W2 ∧ Hid ((s.data.toList.take i).all (fun c => cbB (c.toNat : Int)) = true)) (fun t _ => n - (intOf t).toNat)
  case atStart => exact ⟨0, Nat.zero_le _, rfl, rfl, rfl⟩
  case round =>
    obtain ⟨i, hi, rfl, rfl, HA⟩ := hrel
    by_cases hlt : i < n
    · have hlt1 : (i : Int) < n := by omega
      have ci := HC.out i hlt
      obtain ⟨b, hb⟩ : ∃ b, s.data.toList.getD i 0 = b := ⟨_, rfl⟩
      rw [hb] at ci
      have hil : i < s.data.toList.length := by rw [HN.out]; exact hlt
      have hgt : s.data.toList[i]'hil = b := by rw [← hb, List.getD_eq_getElem?_getD, List.getElem?_eq_getElem hil]; rfl
      have HB1 : Hid (s.data.toList[i]'hil = b) := hgt
      clear hb hgt
      cases hc : cbB (b.toNat : Int) with
      | true =>
        have hcb := isCB_any (b.toNat : Int) wr
        rw [hc] at hcb
        have HH : Hid (cbB (b.toNat : Int) = true) := hc
        clear hc
        go_wp2_with fail
        refine hcb.mono ?_
        rintro _ w9 ⟨rfl, h9⟩
        subst w9
        go_wp2_with fail
        go_roundw
        case rel =>
          refine ⟨i + 1, hlt, by go_num, by trivial, ?_⟩
          unfold Hid
          rw [List.take_succ_eq_append_getElem hil, List.all_append, HA.out, HB1.out]
          simp [HH.out]
        case measure => simp [intOf]; omega
      | false =>
        have hcb := isCB_any (b.toNat : Int) wr
        rw [hc] at hcb
        have HH : Hid (ctB s = false) := by
          unfold Hid
          rw [HE.out, List.all_eq_false]
          exact ⟨s.data.toList[i]'hil, List.getElem_mem hil, by rw [HB1.out, hc]; simp⟩
        clear hc
        go_wp2_with fail
        refine hcb.mono ?_
        rintro _ w9 ⟨rfl, h9⟩
        subst w9
        go_wp2_with fail
        go_ret
        exact ⟨ret_bool HH.out.symm, HB.out⟩
    · have hlt1 : ¬ (i : Int) < n := by omega
      have HH : Hid (ctB s = true) := by
        unfold Hid
        rw [HE.out, ← HA.out, List.take_of_length_le (by rw [HN.out]; omega)]
      go_wp2_with fail
      go_ret
      exact ⟨ret_bool HH.out.symm, HB.out⟩
set_option maxHeartbeats 1000000 in
theorem areRight_any (e : Bool) (a p : Int) (nt : Bool) (w : World) (hV : PVc w) : Calls Tryd.prog 46 #[.agg #[.bool e, .int .i64 a, .int .i64 p], .bool nt] w fun r w' => r = .returned (.bool (okB e a p && (caB e a || !nt))) ∧ Below w.heap.size w w' := by
  have bv : Below w.heap.size w (w.alloc (.cells #[.bool e, .int .i64 a, .int .i64 p] 46)) := (Below.refl _ _).alloc (Nat.le_refl _) _
  have hm := may_ok e a p ⟨#[67, 65]⟩ (w.alloc (.cells #[.bool e, .int .i64 a, .int .i64 p] 46)) (hV.below bv)
  rw [sent_1] at hm
  have HB : Hid (Below w.heap.size w (w.alloc (.cells #[.bool e, .int .i64 a, .int .i64 p] 46))) := bv
  clear bv hV
  cases ok : okB e a p with
  | true =>
    rw [err_ok ok, ok] at hm
    clear ok
    cases hc : caB e a <;> cases nt
    all_goals
      rw [hc] at hm
      clear hc
      go_enter Tryd.func46, Tryd.ntmps46
      go_wp2_with fail
      refine hm.mono ?_
      rintro _ w1 ⟨ev, rfl, hev, hb⟩
      rcases hev with ⟨rfl, _⟩ | ⟨h, _⟩
      · have HB1 : Hid (Below w.heap.size w w1) := below_then HB.out hb
        clear hb hm
        go_wp2_with fail
        go_ret
        exact ⟨rfl, HB1.out⟩
      · exact absurd rfl h
  | false =>
    rw [err_no ok, ok] at hm
    clear ok
    go_enter Tryd.func46, Tryd.ntmps46
    go_wp2_with fail
    refine hm.mono ?_
    rintro _ w1 ⟨ev, rfl, hev, hb⟩
    rcases hev with ⟨_, h⟩ | ⟨_, z, rfl, _⟩
    · cases h
    · have HB1 : Hid (Below w.heap.size w w1) := below_then HB.out hb
      clear hb hm
      go_wp2_with fail
      go_ret
      exact ⟨rfl, HB1.out⟩
end Go.Proofs.YtoijhecphgdfnaaDoor
