/-
  Both Texts come to the same; the law's walk.
-/
import Derived.Test.YtphobcobpclioaaGreatDoorTtText
import Derived.Test.YtphobcobpclioaaGreatDoorTtFlaw
import Derived.Test.YtphobcobpclioaaGreatDoorTtPrimA
import Derived.Test.YtphobcobpclioaaGreatDoorTtPrimB
import Derived.Test.YtphobcobpclioaaGreatDoorTtPrimC
import Derived.Test.YtphobcobpclioaaGreatDoorTtPrimD
import Derived.Test.YtphobcobpclioaaGreatDoorTtPrimE
namespace Go.Proofs.YtphobcobpclioaaGreatDoor.Td
open Go.RowKit

/-- What the listed variables hold. -/
structure PV (w : World) : Prop where
  tabs : Tabs w
  spc : Spc w
  months : Months w
theorem PV.below {w w' : World} (h : PV w) (hb : Below w.heap.size w w') : PV w' := ⟨h.tabs.below hb, h.spc.below hb, months_below h.months hb⟩
def BothQ (k s : ByteArray) (c : Int) : Prop := (∀ w, PV w → Calls Tryz.prog 5 #[.string k, .string s] w (TtQ c w)) ∧ (∀ w, Calls Tryz.prog 6 #[.string k, .string s] w (RtQ c w))
theorem jf (q : Bool) : ((if q then (0 : Int) else 102) = 0 ∧ (if q then (0 : Int) else 162) = 0) ∨ ((if q then (0 : Int) else 102) = 102 ∧ (if q then (0 : Int) else 162) = 162) ∨ ((if q then (0 : Int) else 102) = 103 ∧ (if q then (0 : Int) else 162) = 163) := by
  cases q
  · exact Or.inr (Or.inl ⟨rfl, rfl⟩)
  · exact Or.inl ⟨rfl, rfl⟩
theorem jfT (l : List (List UInt8)) (s : ByteArray) : (fT l s = 0 ∧ jT l s = 0) ∨ (fT l s = 102 ∧ jT l s = 162) ∨ (fT l s = 103 ∧ jT l s = 163) := by
  unfold fT jT
  by_cases h : isCd (bl s) = true
  · by_cases m : bl s ∈ l
    · simp [h, m]
    · simp [h, m]
  · simp [h]
theorem ne_l {k : ByteArray} {l : List UInt8} (h : k ≠ ⟨l.toArray⟩) : (k.toList == l) = false ∧ (l == k.toList) = false := by
  have hb : bl k ≠ l := fun e => h (bl_inj e)
  rw [Lib.toList_data]
  exact ⟨beq_eq_false_iff_ne.2 hb, beq_eq_false_iff_ne.2 (Ne.symm hb)⟩
theorem both_st (s : ByteArray) : BothQ ⟨#[83, 84]⟩ s (cdS s (if decide (s.size ≤ 199) then 0 else 162)) :=
  ⟨fun w hP => text_go _ s _ w ((prim_st w).mono fun _ _ ⟨he, hb⟩ => ⟨18, 19, none, 0, 0, he, hb, fun _ w2 hb2 => judge_isShort _ _ s w2 _ (fun w _ => isShort_any s w) ((hP.below hb).below hb2).months⟩),
   fun w => rtext_go _ s _ _ w rprim_st (fun hs w => rflaw_st s w hs) (jf (decide (s.size ≤ 199)))⟩
theorem both_tx (s : ByteArray) : BothQ ⟨#[84, 88]⟩ s (cdS s (if true then 0 else 162)) :=
  ⟨fun w hP => text_go _ s _ w ((prim_tx w).mono fun _ _ ⟨he, hb⟩ => ⟨20, 19, none, 0, 0, he, hb, fun _ w2 hb2 => judge_isAny _ _ s w2 _ (fun w _ => isAny_any s w) ((hP.below hb).below hb2).months⟩),
   fun w => rtext_go _ s _ _ w rprim_tx (fun hs w => rflaw_tx s w hs) (jf true)⟩
theorem both_ft (s : ByteArray) : BothQ ⟨#[70, 84]⟩ s (cdS s (if true then 0 else 162)) :=
  ⟨fun w hP => text_go _ s _ w ((prim_ft w).mono fun _ _ ⟨he, hb⟩ => ⟨20, 21, none, 0, 0, he, hb, fun _ w2 hb2 => judge_isAny _ _ s w2 _ (fun w _ => isAny_any s w) ((hP.below hb).below hb2).months⟩),
   fun w => rtext_go _ s _ _ w rprim_ft (fun hs w => rflaw_ft s w hs) (jf true)⟩
theorem both_nm (s : ByteArray) : BothQ ⟨#[78, 77]⟩ s (cdS s (if isNm (bl s) then 0 else 162)) :=
  ⟨fun w hP => text_go _ s _ w ((prim_nm w).mono fun _ _ ⟨he, hb⟩ => ⟨22, 21, none, 0, 0, he, hb, fun hs w2 hb2 => judge_isNumber _ _ s w2 _ (fun w _ => isNumber_any s w (by omega)) ((hP.below hb).below hb2).months⟩),
   fun w => rtext_go _ s _ _ w rprim_nm (fun hs w => rflaw_nm s w hs) (jf (isNm (bl s)))⟩
theorem both_si (s : ByteArray) : BothQ ⟨#[83, 73]⟩ s (cdS s (if isCt (bl s) then 0 else 162)) :=
  ⟨fun w hP => text_go _ s _ w ((prim_si w).mono fun _ _ ⟨he, hb⟩ => ⟨23, 21, none, 0, 0, he, hb, fun hs w2 hb2 => judge_isCount _ _ s w2 _ (fun w _ => isCount_any s w (by omega)) ((hP.below hb).below hb2).months⟩),
   fun w => rtext_go _ s _ _ w rprim_si (fun hs w => rflaw_si s w hs) (jf (isCt (bl s)))⟩
theorem both_id (s : ByteArray) : BothQ ⟨#[73, 68]⟩ s (cdS s (if isCd (bl s) then 0 else 162)) :=
  ⟨fun w hP => text_go _ s _ w ((prim_id w).mono fun _ _ ⟨he, hb⟩ => ⟨24, 21, none, 0, 0, he, hb, fun hs w2 hb2 => judge_isCode _ _ s w2 _ (fun w _ => isCode_any s w (by omega)) ((hP.below hb).below hb2).months⟩),
   fun w => rtext_go _ s _ _ w rprim_id (fun hs w => rflaw_id s w hs) (jf (isCd (bl s)))⟩
theorem both_is (s : ByteArray) : BothQ ⟨#[73, 83]⟩ s (cdS s (if isCd (bl s) then 0 else 162)) :=
  ⟨fun w hP => text_go _ s _ w ((prim_is w).mono fun _ _ ⟨he, hb⟩ => ⟨24, 21, none, 0, 0, he, hb, fun hs w2 hb2 => judge_isCode _ _ s w2 _ (fun w _ => isCode_any s w (by omega)) ((hP.below hb).below hb2).months⟩),
   fun w => rtext_go _ s _ _ w rprim_is (fun hs w => rflaw_is s w hs) (jf (isCd (bl s)))⟩
theorem both_dt (s : ByteArray) : BothQ ⟨#[68, 84]⟩ s (cdS s (if (dateE s).isNone then 0 else 162)) :=
  ⟨fun w hP => text_go _ s _ w ((prim_dt w).mono fun _ _ ⟨he, hb⟩ => ⟨25, 21, none, 0, 0, he, hb, fun hs w2 hb2 => judge_isDate _ _ s w2 _ (fun w h => isDate_any s w (by omega) h) ((hP.below hb).below hb2).months⟩),
   fun w => rtext_go _ s _ _ w rprim_dt (fun hs w => rflaw_dt s w hs) (jf ((dateE s).isNone))⟩
theorem both_tm (s : ByteArray) : BothQ ⟨#[84, 77]⟩ s (cdS s (if (timeE s).isNone then 0 else 162)) :=
  ⟨fun w hP => text_go _ s _ w ((prim_tm w).mono fun _ _ ⟨he, hb⟩ => ⟨26, 21, none, 0, 0, he, hb, fun hs w2 hb2 => judge_isTime _ _ s w2 _ (fun w _ => isTime_any s w (by omega)) ((hP.below hb).below hb2).months⟩),
   fun w => rtext_go _ s _ _ w rprim_tm (fun hs w => rflaw_tm s w hs) (jf ((timeE s).isNone))⟩
theorem both_ts (s : ByteArray) : BothQ ⟨#[84, 83]⟩ s (cdS s (if (parE s).isNone then 0 else 162)) :=
  ⟨fun w hP => text_go _ s _ w ((prim_ts w).mono fun _ _ ⟨he, hb⟩ => ⟨27, 21, none, 0, 0, he, hb, fun hs w2 hb2 => judge_isStamp _ _ s w2 _ (fun w h => isStamp_any s w (by omega) h) ((hP.below hb).below hb2).months⟩),
   fun w => rtext_go _ s _ _ w rprim_ts (fun hs w => rflaw_ts s w hs) (jf ((parE s).isNone))⟩
theorem both_rest (k s : ByteArray) (n0 : k ≠ ⟨#[83, 84]⟩) (n1 : k ≠ ⟨#[84, 88]⟩) (n2 : k ≠ ⟨#[70, 84]⟩) (n3 : k ≠ ⟨#[78, 77]⟩) (n4 : k ≠ ⟨#[83, 73]⟩) (n5 : k ≠ ⟨#[73, 68]⟩) (n6 : k ≠ ⟨#[73, 83]⟩) (n7 : k ≠ ⟨#[68, 84]⟩) (n8 : k ≠ ⟨#[84, 77]⟩) (n9 : k ≠ ⟨#[84, 83]⟩) : ∃ c, BothQ k s c := by
  obtain ⟨a0, b0⟩ := ne_l (l := [83, 84]) n0
  obtain ⟨a1, b1⟩ := ne_l (l := [84, 88]) n1
  obtain ⟨a2, b2⟩ := ne_l (l := [70, 84]) n2
  obtain ⟨a3, b3⟩ := ne_l (l := [78, 77]) n3
  obtain ⟨a4, b4⟩ := ne_l (l := [83, 73]) n4
  obtain ⟨a5, b5⟩ := ne_l (l := [73, 68]) n5
  obtain ⟨a6, b6⟩ := ne_l (l := [73, 83]) n6
  obtain ⟨a7, b7⟩ := ne_l (l := [68, 84]) n7
  obtain ⟨a8, b8⟩ := ne_l (l := [84, 77]) n8
  obtain ⟨a9, b9⟩ := ne_l (l := [84, 83]) n9
  cases ht : tabOf (bl k) with
  | none =>
    refine ⟨160, fun w hP => text_none k s w ((prim_rest k w hP.tabs hP.spc b0 b1 b2 b3 b4 b5 b6 b7 b8 b9).mono fun e w' h => ?_), fun w => rtext_none k s w fun w => rprim_rest k w a0 a1 a2 a3 a4 a5 a6 a7 a8 a9 false (by rw [tno_none ht]; rfl)⟩
    obtain ⟨⟨l, b, g, _⟩ | ⟨_, rfl⟩, hb⟩ := h
    · rw [ht] at g; cases g
    · exact ⟨rfl, hb⟩
  | some l =>
    obtain ⟨t1, _, _, t4⟩ := tno_some ht
    refine ⟨cdS s (jT l s), fun w hP => text_go k s _ w ((prim_rest k w hP.tabs hP.spc b0 b1 b2 b3 b4 b5 b6 b7 b8 b9).mono fun e w' h => ?_), fun w => rtext_go k s _ _ w (fun w => rprim_rest k w a0 a1 a2 a3 a4 a5 a6 a7 a8 a9 true (by simp [t1])) (fun hs w => rflaw_rest k s l w ht hs a0 a1 a2 a3 a4 a5 a6 a7 a8 a9) (jfT l s)⟩
    obtain ⟨⟨L, b, g, hs, h0, rfl⟩ | ⟨g, _⟩, hb⟩ := h
    · obtain rfl : L = l := Option.some.inj (g.symm.trans ht)
      exact ⟨24, 21, some ⟨b, 0, none⟩, L.length, L.length, rfl, hb, fun hz w2 hb2 => judge_tab k _ s w2 b L (hs.below hb2) h0 t4 (by omega)⟩
    · rw [ht] at g; cases g
theorem both_any (k s : ByteArray) : ∃ c, BothQ k s c := by
  by_cases n0 : k = ⟨#[83, 84]⟩
  · subst n0; exact ⟨_, both_st s⟩
  by_cases n1 : k = ⟨#[84, 88]⟩
  · subst n1; exact ⟨_, both_tx s⟩
  by_cases n2 : k = ⟨#[70, 84]⟩
  · subst n2; exact ⟨_, both_ft s⟩
  by_cases n3 : k = ⟨#[78, 77]⟩
  · subst n3; exact ⟨_, both_nm s⟩
  by_cases n4 : k = ⟨#[83, 73]⟩
  · subst n4; exact ⟨_, both_si s⟩
  by_cases n5 : k = ⟨#[73, 68]⟩
  · subst n5; exact ⟨_, both_id s⟩
  by_cases n6 : k = ⟨#[73, 83]⟩
  · subst n6; exact ⟨_, both_is s⟩
  by_cases n7 : k = ⟨#[68, 84]⟩
  · subst n7; exact ⟨_, both_dt s⟩
  by_cases n8 : k = ⟨#[84, 77]⟩
  · subst n8; exact ⟨_, both_tm s⟩
  by_cases n9 : k = ⟨#[84, 83]⟩
  · subst n9; exact ⟨_, both_ts s⟩
  exact both_rest k s n0 n1 n2 n3 n4 n5 n6 n7 n8 n9
set_option maxHeartbeats 1000000 in
theorem texts_law (k s : ByteArray) (w : World) (hP : PV w) (hE : ErrType w) : Calls Tryz.prog 3 #[.string k, .string s] w fun r w' => r = .returned (.bool true) ∧ Below w.heap.size w w' := by
  obtain ⟨c, hc1, hc2⟩ := both_any k s
  have H1 : Hid (type_of% (hc1 w hP)) := hc1 w hP
  have H2 : Hid (type_of% hc2) := hc2
  have HE : Hid (ErrType w) := hE
  clear hc1 hc2 hP hE
  go_enter Tryz.func3, Tryz.ntmps3
  go_wp2_with fail
  refine H1.out.mono ?_
  rintro _ w1 ⟨ev, rfl, hev, hb⟩
  have HB1 : Hid (Below w.heap.size w w1 ∧ TEv w1 ev 0 c) := ⟨hb, hev⟩
  clear hev hb H1
  go_wp2_with fail
  refine (H2.out _).mono ?_
  rintro _ w2 ⟨no, rfl, hno, hb⟩
  have HB2 : Hid (Below w.heap.size w w2 ∧ TEv w2 ev 0 c ∧ TNo w2 no 0 c) := ⟨below_then HB1.out.1 hb, HB1.out.2.below hb, hno⟩
  clear hno hb H2
  go_wp2_with fail
  refine (refused_any (errType_below HE.out HB2.out.1) HB2.out.2.1 HB2.out.2.2).mono ?_
  rintro _ w3 ⟨rfl, hb⟩
  have HB3 : Hid (Below w.heap.size w w3) := below_then HB2.out.1 hb
  clear hb
  go_wp2_with fail
  go_ret
  exact ⟨rfl, HB3.out⟩
end Go.Proofs.YtphobcobpclioaaGreatDoor.Td
