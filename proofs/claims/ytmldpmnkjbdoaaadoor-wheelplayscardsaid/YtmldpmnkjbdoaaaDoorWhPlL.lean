import Derived.Test.YtmldpmnkjbdoaaaDoorWhPlC
import Derived.Deep.RegionHeld3
import Derived.Test.YtmldpmnkjbdoaaaDoorWhPl1f
import Derived.Test.YtmldpmnkjbdoaaaDoorWhPl1
import Derived.Test.YtmldpmnkjbdoaaaDoorWhPl2
import Derived.Test.YtmldpmnkjbdoaaaDoorWhPl3f
import Derived.Test.YtmldpmnkjbdoaaaDoorWhPl3
import Derived.Test.YtmldpmnkjbdoaaaDoorWhPl5
import Derived.Test.YtmldpmnkjbdoaaaDoorWhPl6
import Derived.Test.YtmldpmnkjbdoaaaDoorWhSets
/-
  The law's plays of both wheels: one kind.
-/
namespace Go.Proofs.YtmldpmnkjbdoaaaDoor
open Go.RowKit

set_option maxRecDepth 100000 in
set_option maxHeartbeats 2000000 in
theorem pl_7 {w0 X : World} {W rb now : Nat} {S : List Tm} {F : Nat → Prop} (h : PI w0 X W rb now S F) (ky : Int) (s : ByteArray) (tk : Int) : Calls Tryd.prog 8 #[.pointer (some ⟨W, 0, none⟩), .pointer (some ⟨rb, 0, none⟩), .agg #[.int .i64 (7), .int .i64 ky, .string s, .int .i64 tk]] X fun e w' => e = .returned (.bool true) ∧ PQ w0 W rb w' := by
  have HI : Hid (type_of% (Jq.start (7) ky s tk h)) := Jq.start (7) ky s tk h
  have HL : Hid (S.length ≤ 4096 ∧ Uniq S) := ⟨h.wh.held.2, h.wh.held.1.uq⟩
  have co := HI.out.o
  have ck := HI.out.k
  clear h
  go_enter Tryd.func8, Tryd.ntmps8
  go_wp2_with fail
  generalize ((X.alloc (.cells #[.int .i64 (7), .int .i64 ky, .string s, .int .i64 tk] 39)).alloc (.cells #[.int .i64 ky, .string ⟨#[]⟩] 69)) = V at HI co ck ⊢
  obtain ⟨a, n, c, HRW⟩ : ∃ a n c, Hid (RWl V rb now S a n c) := by obtain ⟨F', g⟩ := HI.out; obtain ⟨a, n, c, r⟩ := g.rw; exact ⟨a, n, c, r⟩
  have cr := HRW.out.cell
  obtain ⟨N, hN⟩ : ∃ N : Int, N = (now : Int) := ⟨_, rfl⟩
  rw [← hN] at cr
  have HS : Hid (∀ z, Below V.heap.size V z → Calls Tryd.prog 11 #[.pointer (some ⟨W, 0, none⟩)] z fun e w' => ∃ a1 n1 c1, e = .returned (.slice a1 n1 c1) ∧ Hid (NmS w0 X.heap.size W rb (7) ky s tk now S S (.slice a1 n1 c1) (.slice a n c) w' ∧ RWl w' rb now S a n c) ∧ (∀ o, w'.cell? ⟨rb, o, none⟩ = (#[.bool true, .int .i64 N, .slice a n c] : Array Value)[o]?)) := fun z hz => (jall (HI.out.below hz) (HRW.out.below hz)).mono fun e w' ⟨a1, n1, c1, he, hh⟩ => ⟨a1, n1, c1, he, ⟨hh.out.1, (HRW.out.below hz).below hh.out.2⟩, by rw [hN]; exact ((HRW.out.below hz).below hh.out.2).cell⟩
  have HR : Hid (∀ z a1 n1 c1, NmS w0 X.heap.size W rb (7) ky s tk now S S (.slice a1 n1 c1) (.slice a n c) z → RWl z rb now S a n c → Calls Tryd.prog 10 #[.slice a1 n1 c1] z fun e w' => ∃ a1 n1 c1, e = .returned (.slice a1 n1 c1) ∧ Hid (LkS w0 X.heap.size W rb (7) ky s tk now S S (.slice a1 n1 c1) (.slice a n c) w' ∧ RWl w' rb now S a n c) ∧ (∀ o, w'.cell? ⟨rb, o, none⟩ = (#[.bool true, .int .i64 N, .slice a n c] : Array Value)[o]?)) := fun z a1 n1 c1 hz hr => (jnum hz).mono fun e w' ⟨a1, n1, c1, he, hh⟩ => ⟨a1, n1, c1, he, ⟨hh.out.1, hr.below hh.out.2⟩, by rw [hN]; exact (hr.below hh.out.2).cell⟩
  have HT : Hid (∀ z a1 n1 c1, LkS w0 X.heap.size W rb (7) ky s tk now S S (.slice a1 n1 c1) (.slice a n c) z → RWl z rb now S a n c → Calls Tryd.prog 9 #[.slice a1 n1 c1, .slice a n c] z fun e w' => e = .returned (.bool true) ∧ Hid (PQ w0 W rb w') ∧ (∀ o, w'.cell? ⟨rb, o, none⟩ = (#[.bool true, .int .i64 N, .slice a n c] : Array Value)[o]?)) := fun z a1 n1 c1 hz hr => (jlike hz).mono fun e w' ⟨he, hh⟩ => by
    obtain ⟨h1, q, h2⟩ := hh.out
    refine ⟨he, h1, ?_⟩
    rw [h2, hN]
    exact (hr.below (below_drewN (Below.refl _ _) q)).cell
  clear HI HRW hN HL
  go_region_held3 (fun z => (∀ o, z.cell? ⟨rb, o, none⟩ = (#[.bool true, .int .i64 N, .slice a n c] : Array Value)[o]?)) (simp [*]) (first | (go_at_call 11; refine (HS.out _ ?_).mono ?_; (first | (with_reducible exact Below.refl _ _) | exact Below.drew (Below.refl _ _) | exact below_drewN (Below.refl _ _) _); clear HS; rintro _ w1 ⟨a1, n1, c1, rfl, H1, s1⟩) | (go_at_call 10; refine (HR.out _ a1 n1 c1 ?_ ?_).mono ?_; (first | (with_reducible exact H1.out.1) | (with_reducible exact H1.out.1.drew) | exact H1.out.1.drewN _); (first | exact H1.out.2 | exact H1.out.2.below (Below.drew (Below.refl _ _)) | exact H1.out.2.below (below_drewN (Below.refl _ _) _)); clear HR; rintro _ w2 ⟨a2, n2, c2, rfl, H2, s2⟩) | (go_at_call 9; refine (HT.out _ a2 n2 c2 ?_ ?_).mono ?_; (first | (with_reducible exact H2.out.1) | (with_reducible exact H2.out.1.drew) | exact H2.out.1.drewN _); (first | exact H2.out.2 | exact H2.out.2.below (Below.drew (Below.refl _ _)) | exact H2.out.2.below (below_drewN (Below.refl _ _) _)); clear HT; rintro _ w3 ⟨rfl, H3, s3⟩))
  go_wp2_with fail
  go_ret
  exact ⟨rfl, H3.out⟩
end Go.Proofs.YtmldpmnkjbdoaaaDoor

/-
  The law's plays of both wheels: one kind.
-/
namespace Go.Proofs.YtmldpmnkjbdoaaaDoor
open Go.RowKit

set_option maxRecDepth 100000 in
set_option maxHeartbeats 2000000 in
theorem pl_o {w0 X : World} {W rb now : Nat} {S : List Tm} {F : Nat → Prop} (h : PI w0 X W rb now S F) (kd : Int) (ky : Int) (s : ByteArray) (tk : Int) (q1 : (kd == 1) = false) (q2 : (kd == 2) = false) (q3 : (kd == 3) = false) (q4 : (kd == 4) = false) (q5 : (kd == 5) = false) (q6 : (kd == 6) = false) (q7 : (kd == 7) = false) : Calls Tryd.prog 8 #[.pointer (some ⟨W, 0, none⟩), .pointer (some ⟨rb, 0, none⟩), .agg #[.int .i64 kd, .int .i64 ky, .string s, .int .i64 tk]] X fun e w' => e = .returned (.bool true) ∧ PQ w0 W rb w' := by
  have HI : Hid (type_of% (Jq.start kd ky s tk h)) := Jq.start kd ky s tk h
  have HL : Hid (S.length ≤ 4096 ∧ Uniq S) := ⟨h.wh.held.2, h.wh.held.1.uq⟩
  have co := HI.out.o
  have ck := HI.out.k
  clear h
  go_enter Tryd.func8, Tryd.ntmps8
  go_wp2_with fail
  go_ret
  exact ⟨rfl, HI.out.fin⟩
end Go.Proofs.YtmldpmnkjbdoaaaDoor

/-
  The law's plays of both wheels, whatever the call.
-/
namespace Go.Proofs.YtmldpmnkjbdoaaaDoor
open Go.RowKit

theorem pl_any {w0 X : World} {W rb now : Nat} {S : List Tm} {F : Nat → Prop} (h : PI w0 X W rb now S F) (hE : ErrType w0) (kd ky : Int) (s : ByteArray) (tk : Int) (hky : KeyI ky) : Calls Tryd.prog 8 #[.pointer (some ⟨W, 0, none⟩), .pointer (some ⟨rb, 0, none⟩), .agg #[.int .i64 kd, .int .i64 ky, .string s, .int .i64 tk]] X fun e w' => e = .returned (.bool true) ∧ PQ w0 W rb w' := by
  by_cases q1 : kd = 1
  · subst q1
    by_cases hc : setE now S ky tk = 0
    · exact pl_1 h ky s tk hky hc
    · exact pl_1f h ky s tk hE hky rfl (by simpa using hc)
  by_cases q2 : kd = 2
  · subst q2; exact pl_2 h ky s tk hky
  by_cases q3 : kd = 3
  · subst q3
    by_cases ht : tk < (now : Int) ∨ 1099511627776 < tk
    · exact pl_3f h ky s tk hE ht
    · exact pl_3 h ky s tk tk.toNat (by omega) (by omega) (by unfold MaxT; omega)
  by_cases q4 : kd = 4
  · subst q4; exact pl_4 h ky s tk
  by_cases q5 : kd = 5
  · subst q5; exact pl_5 h ky s tk hky
  by_cases q6 : kd = 6
  · subst q6; exact pl_6 h ky s tk
  by_cases q7 : kd = 7
  · subst q7; exact pl_7 h ky s tk
  exact pl_o h kd ky s tk (by simpa using q1) (by simpa using q2) (by simpa using q3) (by simpa using q4) (by simpa using q5) (by simpa using q6) (by simpa using q7)
end Go.Proofs.YtmldpmnkjbdoaaaDoor

/-
  WheelPlays, walked.
-/
namespace Go.Proofs.YtmldpmnkjbdoaaaDoor
open Go.RowKit

set_option maxHeartbeats 1000000 in
theorem new_no2 {now : Int} (w : World) (hn : now < 0 ∨ 1099511627776 < now) : Calls Tryd.prog 4 #[.int .i64 now] w fun e w' => e = .returned (.tuple #[.pointer none, .iface 55 (.pointer (some ⟨w.heap.size, 0, none⟩))]) ∧ Hid (FaultAt w' w.heap.size 2 ∧ Below w.heap.size w w') := by
  have hb : ∀ o, Below w.heap.size w (w.alloc o) := fun o => (Below.refl _ _).alloc (Nat.le_refl _) _
  rcases (by omega : now < 0 ∨ (¬ now < 0 ∧ now > 1099511627776)) with h | ⟨h, h1⟩
  · have h3 : decide (now < 0) = true := decide_eq_true h
    go_enter Tryd.func4, Tryd.ntmps4
    go_wp2_with (go_at_call 13; refine (fault_any _ _).mono ?_; rintro _ w9 ⟨rfl, h9⟩; subst w9)
    refine bodyPost_ret ?_ rfl ⟨rfl, fault_new w 2, hb _⟩
    simp [results, Tryd.results4, go_sem]
  · have h3 : decide (now < 0) = false := decide_eq_false h
    go_enter Tryd.func4, Tryd.ntmps4
    go_wp2_with (go_at_call 13; refine (fault_any _ _).mono ?_; rintro _ w9 ⟨rfl, h9⟩; subst w9)
    refine bodyPost_ret ?_ rfl ⟨rfl, fault_new w 2, hb _⟩
    simp [results, Tryd.results4, go_sem]
set_option maxHeartbeats 1000000 in
theorem rnew_ok {now : Nat} (w : World) (hn : now ≤ MaxT) : Calls Tryd.prog 5 #[.int .i64 (now : Int)] w fun e w' => e = .returned (.tuple #[.agg #[.bool true, .int .i64 (now : Int), .slice none 0 0], .int .i64 0]) ∧ Below w.heap.size w w' := by
  unfold MaxT at hn
  have h1 : ¬ (now : Int) < 0 := by omega
  have h2 : ¬ (now : Int) > 1099511627776 := by omega
  have h3 : decide ((now : Int) < 0) = false := decide_eq_false h1
  go_enter Tryd.func5, Tryd.ntmps5
  go_wp2
  refine bodyPost_ret ?_ rfl ⟨rfl, (Below.refl _ _).alloc (Nat.le_refl _) _⟩
  simp [results, Tryd.results5, go_sem]
set_option maxHeartbeats 1000000 in
theorem rnew_no {now : Int} (w : World) (hn : now < 0 ∨ 1099511627776 < now) : Calls Tryd.prog 5 #[.int .i64 now] w fun e w' => e = .returned (.tuple #[.agg #[.bool false, .int .i64 0, .slice none 0 0], .int .i64 2]) ∧ Below w.heap.size w w' := by
  rcases (by omega : now < 0 ∨ (¬ now < 0 ∧ now > 1099511627776)) with h | ⟨h, h1⟩
  · have h3 : decide (now < 0) = true := decide_eq_true h
    go_enter Tryd.func5, Tryd.ntmps5
    go_wp2
    refine bodyPost_ret ?_ rfl ⟨rfl, (Below.refl _ _).alloc (Nat.le_refl _) _⟩
    simp [results, Tryd.results5, go_sem]
  · have h3 : decide (now < 0) = false := decide_eq_false h
    go_enter Tryd.func5, Tryd.ntmps5
    go_wp2
    refine bodyPost_ret ?_ rfl ⟨rfl, (Below.refl _ _).alloc (Nat.le_refl _) _⟩
    simp [results, Tryd.results5, go_sem]
/-- Both, just made. -/
theorem PI.made {w w1 : World} {now W : Nat} {F : Nat → Prop} (hw : Whl w1 w.heap.size W now [] F) (hb : Below w.heap.size w w1) : PI w (w1.alloc (.cells #[.bool true, .int .i64 (now : Int), .slice none 0 0] 30)) W w1.heap.size now [] F := by
  have b1 := (Below.refl w1.heap.size w1).alloc (Nat.le_refl _) (.cells #[.bool true, .int .i64 (now : Int), .slice none 0 0] 30)
  have bx := Box.new w1 #[.bool true, .int .i64 (now : Int), .slice none 0 0] 30
  exact ⟨hw.below b1, ⟨none, 0, 0, bx.cell, bx.free, bx.lt, ERow.nil _ _ _ _ _⟩, hb.size, fun e => Nat.lt_irrefl _ (hw.foot e).2, below_then hb b1⟩
set_option maxRecDepth 100000 in
set_option maxHeartbeats 4000000 in
theorem plays_no (now : Int) (ao : Option Addr) (cap N : Nat) (w : World) (hE : ErrType w) (hn : now < 0 ∨ 1099511627776 < now) :
    Calls Tryd.prog 3 #[.int .i64 now, .slice ao N cap] w fun e w' => e = .returned (.bool true) ∧ Below w.heap.size w w' := by
  have HC : Hid (ErrType w ∧ (now < 0 ∨ 1099511627776 < now)) := ⟨hE, hn⟩
  clear hE hn
  go_enter Tryd.func3, Tryd.ntmps3
  go_wp2_with fail
  refine (new_no2 w HC.out.2).mono ?_
  rintro _ w1 ⟨rfl, H1⟩
  go_wp2_with fail
  refine (rnew_no w1 HC.out.2).mono ?_
  rintro _ w2 ⟨rfl, h2⟩
  have b3 := (Below.refl w2.heap.size w2).alloc (Nat.le_refl _) (.cells #[.bool false, .int .i64 0, .slice none 0 0] 30)
  have H3 : Hid (FaultAt (w2.alloc (.cells #[.bool false, .int .i64 0, .slice none 0 0] 30)) w.heap.size 2 ∧ Below w.heap.size w (w2.alloc (.cells #[.bool false, .int .i64 0, .slice none 0 0] 30))) := ⟨faultAt_below (faultAt_below H1.out.1 h2) b3, below_then (below_then H1.out.2 h2) b3⟩
  clear h2 b3 H1
  go_wp2_with fail
  refine (isFault w.heap.size 2 _ rfl (errType_below HC.out.1 H3.out.2) H3.out.1).mono ?_
  rintro _ w4 ⟨rfl, h4⟩
  have H4 : Hid (Below w.heap.size w w4) := below_then H3.out.2 h4
  clear h4 H3
  go_wp2_with fail
  refine (anchor_true w4).mono ?_
  rintro _ w5 ⟨rfl, h5⟩
  have H5 : Hid (Below w.heap.size w w5) := below_then H4.out h5
  clear h5 H4
  go_wp2_with fail
  go_ret
  exact ⟨rfl, H5.out⟩
set_option maxRecDepth 100000 in
set_option maxHeartbeats 4000000 in
theorem plays_yes (now : Nat) (hnM : now ≤ MaxT) (ao : Option Addr) (cap : Nat) (ys : List Opv) (w : World) (hE : ErrType w) (h : Opl w ao ys) (hk : OpsI ys) (hl : ys.length ≤ maxLen) :
    Calls Tryd.prog 3 #[.int .i64 (now : Int), .slice ao ys.length cap] w fun e w' => e = .returned (.bool true) ∧ Below w.heap.size w w' := by
  obtain ⟨N, hN⟩ : ∃ q, ys.length = q := ⟨_, rfl⟩
  have HA : Hid (Opl w ao ys ∧ OpsI ys ∧ ys.length = N ∧ ErrType w) := ⟨h, hk, hN, hE⟩
  have HM : Hid (now ≤ MaxT) := hnM
  rw [hN] at hl ⊢
  unfold maxLen at hl
  have hNi : (N : Int) ≤ 9223372036854775807 := by omega
  clear h hk hN hl hE hnM
  go_enter Tryd.func3, Tryd.ntmps3
  go_wp2_with fail
  refine (new_whl w HM.out).mono ?_
  rintro _ w1 ⟨rfl, F, hw, hb, _⟩
  have H1 : Hid (∃ F, Whl w1 w.heap.size (w.heap.size + 1 + 1) now [] F ∧ Below w.heap.size w w1) := ⟨F, hw, hb⟩
  clear hw hb
  obtain ⟨W, hW⟩ : ∃ q, w.heap.size + 1 + 1 = q := ⟨_, rfl⟩
  rw [hW] at H1 ⊢
  clear hW
  go_wp2_with fail
  refine (rnew_ok w1 HM.out).mono ?_
  rintro _ w2 ⟨rfl, h2⟩
  have H3 : Hid (PQ w W w2.heap.size (w2.alloc (.cells #[.bool true, .int .i64 (now : Int), .slice none 0 0] 30))) := by
    obtain ⟨F, hw, hb⟩ := H1.out
    exact ⟨now, [], F, PI.made (hw.below h2) (below_then hb h2)⟩
  clear h2 H1
  go_wp2_with fail
  generalize (w2.alloc (.cells #[.bool true, .int .i64 (now : Int), .slice none 0 0] 30)) = V at H3 ⊢
  obtain ⟨rb, hrb⟩ : ∃ q, w2.heap.size = q := ⟨_, rfl⟩
  rw [hrb] at H3 ⊢
  clear hrb
  refine (isOk V).mono ?_
  rintro _ w3 ⟨rfl, h3⟩
  subst w3
  go_wp2_with fail
  go_loopw [9, 10] (fun t9 _ wx => ∃ i : Nat, i ≤ N ∧ t9 = .int .i64 (i : Int) ∧ Hid (PQ w W rb wx)) (fun t9 _ _ => N - (intOf t9).toNat)
  case atStart => exact ⟨0, Nat.zero_le _, rfl, H3.out⟩
  case round =>
    obtain ⟨i, hiN, rfl, HJ⟩ := hrel
    clear H3
    by_cases hlt : i < N
    · have g1 : (i : Int) < N := by omega
      have g2 : decide ((i : Int) < N) = true := decide_eq_true g1
      obtain ⟨y, hy⟩ : ∃ y, ys[i]? = some y := ⟨_, List.getElem?_eq_getElem (by have := HA.out.2.2.1; omega)⟩
      obtain ⟨nw, S, F, hp⟩ := HJ.out
      obtain ⟨b, off, rfl, hb, h0, h1, h2, h3⟩ := (HA.out.1.below (w' := wr) hp.b) i y hy
      have hpl := pl_any hp HA.out.2.2.2 y.kind y.key y.text y.tick (HA.out.2.1 y (List.mem_of_getElem? hy)).1
      obtain ⟨kd, ky, s, tk⟩ := y
      have HP : Hid (type_of% hpl) := hpl
      clear hp hpl hy hb HJ
      go_wp2_with fail
      refine HP.out.mono ?_
      rintro _ w4 ⟨rfl, h4⟩
      have H4 : Hid (PQ w W rb w4) := h4
      clear h4 HP h0 h1 h2 h3
      go_wp2_with fail
      go_roundw
      case rel => exact ⟨i + 1, hlt, by go_num, H4.out⟩
      case measure => simp [intOf]; omega
    · have g1 : ¬ (i : Int) < N := by omega
      have g2 : decide ((i : Int) < N) = false := decide_eq_false g1
      go_wp2_with fail
      obtain ⟨nw, S, F, hp⟩ := HJ.out
      obtain ⟨a, n, c, hr⟩ := hp.rw
      obtain ⟨V, hV⟩ : ∃ V : World, V = wr := ⟨wr, rfl⟩
      subst wr
      have HV : Hid (PI w V W rb nw S F ∧ RWl V rb nw S a n c ∧ S.length ≤ 4096) := ⟨hp, hr, hp.wh.held.2⟩
      have cr := hr.cell
      obtain ⟨M, hM⟩ : ∃ M : Int, M = (nw : Int) := ⟨_, rfl⟩
      rw [← hM] at cr
      have HK : Hid (∀ z, Below V.heap.size V z → (∀ o, z.cell? ⟨rb, o, none⟩ = (#[.bool true, .int .i64 M, .slice a n c] : Array Value)[o]?)) := fun z hz => by rw [hM]; exact (HV.out.2.1.below hz).cell
      have HS : Hid (∀ z, Below V.heap.size V z → Calls Tryd.prog 11 #[.pointer (some ⟨W, 0, none⟩)] z fun e w' => ∃ a1 n1 c1, e = .returned (.slice a1 n1 c1) ∧ Hid (Below V.heap.size V w' ∧ ∃ B, TRow w' B (.slice a1 n1 c1) S) ∧ (∀ o, w'.cell? ⟨rb, o, none⟩ = (#[.bool true, .int .i64 M, .slice a n c] : Array Value)[o]?)) := fun z hz => (alls_ok (HV.out.1.wh.below hz)).mono fun e w' ⟨a1, n1, c1, he, h1, hb⟩ => ⟨a1, n1, c1, he, ⟨below_then hz hb, _, h1⟩, HK.out _ (below_then hz hb)⟩
      have HR : Hid (∀ z a1 n1 c1, Below V.heap.size V z → (∃ B, TRow z B (.slice a1 n1 c1) S) → Calls Tryd.prog 10 #[.slice a1 n1 c1] z fun e w' => ∃ a1 n1 c1, e = .returned (.slice a1 n1 c1) ∧ Hid (Below V.heap.size V w' ∧ ∃ B, RRow w' B (.slice a1 n1 c1) S) ∧ (∀ o, w'.cell? ⟨rb, o, none⟩ = (#[.bool true, .int .i64 M, .slice a n c] : Array Value)[o]?)) := fun z a1 n1 c1 hz ⟨B, ht⟩ => (numbers_any ht (by have := HV.out.2.2; omega)).mono fun e w' ⟨a1, n1, c1, he, h1, hb⟩ => ⟨a1, n1, c1, he, ⟨below_then hz hb, _, h1⟩, HK.out _ (below_then hz hb)⟩
      have HT : Hid (∀ z a1 n1 c1, Below V.heap.size V z → (∃ B, RRow z B (.slice a1 n1 c1) S) → Calls Tryd.prog 9 #[.slice a1 n1 c1, .slice a n c] z fun e w' => e = .returned (.bool true) ∧ Hid (Below V.heap.size V w') ∧ (∀ o, w'.cell? ⟨rb, o, none⟩ = (#[.bool true, .int .i64 M, .slice a n c] : Array Value)[o]?)) := fun z a1 n1 c1 hz ⟨B, ht⟩ => (like_true ht (HV.out.2.1.below hz).row (by have := HV.out.2.2; omega)).mono fun e w' ⟨he, q, hw⟩ => by
        have hb : Below V.heap.size V w' := by rw [hw]; exact below_drewN hz q
        exact ⟨he, hb, HK.out _ hb⟩
      have HN : Hid (∀ z, Below V.heap.size V z → Calls Tryd.prog 12 #[.pointer (some ⟨W, 0, none⟩)] z fun e w' => e = .returned (.int .i64 M) ∧ Hid (Below V.heap.size V w') ∧ (∀ o, w'.cell? ⟨rb, o, none⟩ = (#[.bool true, .int .i64 M, .slice a n c] : Array Value)[o]?)) := fun z hz => (now_any (HV.out.1.wh.below hz)).mono fun e w' ⟨he, hw⟩ => by
        rw [hw]
        exact ⟨by rw [he, hM], hz, HK.out _ hz⟩
      have HX : Hid (∀ z, Below V.heap.size V z → Calls Tryd.prog 7 #[] z fun e w' => e = .returned (.bool true) ∧ Hid (Below V.heap.size V w') ∧ (∀ o, w'.cell? ⟨rb, o, none⟩ = (#[.bool true, .int .i64 M, .slice a n c] : Array Value)[o]?)) := fun z hz => (anchor_true z).mono fun e w' ⟨he, hb⟩ => ⟨he, below_then hz hb, HK.out _ (below_then hz hb)⟩
      have HB : Hid (Below w.heap.size w V) := HV.out.1.b
      clear hp hr hM HK HV HJ HA HM
      go_region_held3 (fun z => (∀ o, z.cell? ⟨rb, o, none⟩ = (#[.bool true, .int .i64 M, .slice a n c] : Array Value)[o]?)) (simp [*]) (first | (go_at_call 11; refine (HS.out _ ?_).mono ?_; (first | (with_reducible exact Below.refl _ _) | (with_reducible exact Below.refl _ _) | (with_reducible exact Below.drew Below.refl _ _) | exact Below.drew (Below.refl _ _) | exact below_drewN (Below.refl _ _) _ | exact below_drewN Below.refl _ _ _); clear HS; rintro _ w1 ⟨a1, n1, c1, rfl, H1, s1⟩) | (go_at_call 10; refine (HR.out _ a1 n1 c1 ?_ ?_).mono ?_; (first | (with_reducible exact Below.refl _ _) | (with_reducible exact H1.out.1) | (with_reducible exact Below.drew H1.out.1) | exact Below.drew (Below.refl _ _) | exact below_drewN (Below.refl _ _) _ | exact below_drewN H1.out.1 _); (first | exact H1.out.2 | (obtain ⟨B, hB⟩ := H1.out.2; exact ⟨B, ERow.below hB (Below.drew (Below.refl _ _))⟩)); clear HR; rintro _ w2 ⟨a2, n2, c2, rfl, H2, s2⟩) | (go_at_call 9; refine (HT.out _ a2 n2 c2 ?_ ?_).mono ?_; (first | (with_reducible exact Below.refl _ _) | (with_reducible exact H2.out.1) | (with_reducible exact Below.drew H2.out.1) | exact Below.drew (Below.refl _ _) | exact below_drewN (Below.refl _ _) _ | exact below_drewN H2.out.1 _); (first | exact H2.out.2 | (obtain ⟨B, hB⟩ := H2.out.2; exact ⟨B, ERow.below hB (Below.drew (Below.refl _ _))⟩)); clear HT; rintro _ w3 ⟨rfl, H3, s3⟩) | (go_at_call 12; refine (HN.out _ ?_).mono ?_; (first | (with_reducible exact Below.refl _ _) | (with_reducible exact H3.out) | (with_reducible exact Below.drew H3.out) | exact Below.drew (Below.refl _ _) | exact below_drewN (Below.refl _ _) _ | exact below_drewN H3.out _); clear HN; rintro _ w4 ⟨rfl, H4, s4⟩) | (go_at_call 7; refine (HX.out _ ?_).mono ?_; (first | (with_reducible exact Below.refl _ _) | (with_reducible exact H4.out) | (with_reducible exact Below.drew H4.out) | exact Below.drew (Below.refl _ _) | exact below_drewN (Below.refl _ _) _ | exact below_drewN H4.out _); clear HX; rintro _ w5 ⟨rfl, H5, s5⟩))
      go_wp2_with fail
      go_ret
      exact ⟨rfl, below_then HB.out H5.out⟩
theorem plays_law (now : Int) (ao : Option Addr) (cap : Nat) (ys : List Opv) (w : World) (hE : ErrType w) (h : Opl w ao ys) (hk : OpsI ys) (hl : ys.length ≤ maxLen) :
    Calls Tryd.prog 3 #[.int .i64 now, .slice ao ys.length cap] w fun e w' => e = .returned (.bool true) ∧ Below w.heap.size w w' := by
  by_cases hn : now < 0 ∨ 1099511627776 < now
  · exact plays_no now ao cap _ w hE hn
  · obtain ⟨n, rfl⟩ : ∃ q : Nat, now = (q : Int) := ⟨now.toNat, by omega⟩
    exact plays_yes n (by unfold MaxT; omega) ao cap ys w hE h hk hl
end Go.Proofs.YtmldpmnkjbdoaaaDoor
