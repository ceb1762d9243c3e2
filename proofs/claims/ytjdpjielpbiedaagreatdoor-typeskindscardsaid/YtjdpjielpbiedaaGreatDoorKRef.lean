/-
  The document's composite, Known, Parts.
-/
import Derived.Test.YtjdpjielpbiedaaGreatDoorKCalls
namespace Go.Proofs.YtjdpjielpbiedaaGreatDoor.Td
open Go.RowKit

def cmpS (k : List UInt8) : ByteArray := mkS ((cmpX k).getD [])
def CoQ (k : ByteArray) (w : World) (e : Ending) (w' : World) : Prop := e = .returned (.string (cmpS (bl k))) ∧ w' = w
set_option maxHeartbeats 1000000 in
theorem comp_0 (w : World) : Calls Tryz.prog 20 #[.string ⟨#[72, 68]⟩] w (CoQ ⟨#[72, 68]⟩ w) := by
  go_enter Tryz.func20, Tryz.ntmps20
  go_wp2_with fail
  go_ret
  exact ⟨rfl, rfl⟩
set_option maxHeartbeats 1000000 in
theorem comp_1 (w : World) : Calls Tryz.prog 20 #[.string ⟨#[69, 73]⟩] w (CoQ ⟨#[69, 73]⟩ w) := by
  go_enter Tryz.func20, Tryz.ntmps20
  go_wp2_with fail
  go_ret
  exact ⟨rfl, rfl⟩
set_option maxHeartbeats 1000000 in
theorem comp_2 (w : World) : Calls Tryz.prog 20 #[.string ⟨#[67, 69]⟩] w (CoQ ⟨#[67, 69]⟩ w) := by
  go_enter Tryz.func20, Tryz.ntmps20
  go_wp2_with fail
  go_ret
  exact ⟨rfl, rfl⟩
set_option maxHeartbeats 1000000 in
theorem comp_3 (w : World) : Calls Tryz.prog 20 #[.string ⟨#[67, 87, 69]⟩] w (CoQ ⟨#[67, 87, 69]⟩ w) := by
  go_enter Tryz.func20, Tryz.ntmps20
  go_wp2_with fail
  go_ret
  exact ⟨rfl, rfl⟩
set_option maxHeartbeats 1000000 in
theorem comp_4 (w : World) : Calls Tryz.prog 20 #[.string ⟨#[77, 83, 71]⟩] w (CoQ ⟨#[77, 83, 71]⟩ w) := by
  go_enter Tryz.func20, Tryz.ntmps20
  go_wp2_with fail
  go_ret
  exact ⟨rfl, rfl⟩
set_option maxHeartbeats 1000000 in
theorem comp_5 (w : World) : Calls Tryz.prog 20 #[.string ⟨#[80, 84]⟩] w (CoQ ⟨#[80, 84]⟩ w) := by
  go_enter Tryz.func20, Tryz.ntmps20
  go_wp2_with fail
  go_ret
  exact ⟨rfl, rfl⟩
set_option maxHeartbeats 1000000 in
theorem comp_6 (w : World) : Calls Tryz.prog 20 #[.string ⟨#[86, 73, 68]⟩] w (CoQ ⟨#[86, 73, 68]⟩ w) := by
  go_enter Tryz.func20, Tryz.ntmps20
  go_wp2_with fail
  go_ret
  exact ⟨rfl, rfl⟩
set_option maxHeartbeats 1000000 in
theorem comp_7 (w : World) : Calls Tryz.prog 20 #[.string ⟨#[69, 82, 76]⟩] w (CoQ ⟨#[69, 82, 76]⟩ w) := by
  go_enter Tryz.func20, Tryz.ntmps20
  go_wp2_with fail
  go_ret
  exact ⟨rfl, rfl⟩
set_option maxHeartbeats 1000000 in
theorem comp_8 (w : World) : Calls Tryz.prog 20 #[.string ⟨#[67, 88]⟩] w (CoQ ⟨#[67, 88]⟩ w) := by
  go_enter Tryz.func20, Tryz.ntmps20
  go_wp2_with fail
  go_ret
  exact ⟨rfl, rfl⟩
set_option maxHeartbeats 1000000 in
theorem comp_9 (w : World) : Calls Tryz.prog 20 #[.string ⟨#[70, 78]⟩] w (CoQ ⟨#[70, 78]⟩ w) := by
  go_enter Tryz.func20, Tryz.ntmps20
  go_wp2_with fail
  go_ret
  exact ⟨rfl, rfl⟩
set_option maxHeartbeats 1000000 in
theorem comp_10 (w : World) : Calls Tryz.prog 20 #[.string ⟨#[88, 80, 78]⟩] w (CoQ ⟨#[88, 80, 78]⟩ w) := by
  go_enter Tryz.func20, Tryz.ntmps20
  go_wp2_with fail
  go_ret
  exact ⟨rfl, rfl⟩
set_option maxHeartbeats 1000000 in
theorem comp_11 (w : World) : Calls Tryz.prog 20 #[.string ⟨#[80, 76]⟩] w (CoQ ⟨#[80, 76]⟩ w) := by
  go_enter Tryz.func20, Tryz.ntmps20
  go_wp2_with fail
  go_ret
  exact ⟨rfl, rfl⟩
set_option maxHeartbeats 1000000 in
theorem comp_none (k : ByteArray) (w : World) (h : cmpX (bl k) = none) (h0 : (k.toList == [72, 68]) = false) (h1 : (k.toList == [69, 73]) = false) (h2 : (k.toList == [67, 69]) = false) (h3 : (k.toList == [67, 87, 69]) = false) (h4 : (k.toList == [77, 83, 71]) = false) (h5 : (k.toList == [80, 84]) = false) (h6 : (k.toList == [86, 73, 68]) = false) (h7 : (k.toList == [69, 82, 76]) = false) (h8 : (k.toList == [67, 88]) = false) (h9 : (k.toList == [70, 78]) = false) (h10 : (k.toList == [88, 80, 78]) = false) (h11 : (k.toList == [80, 76]) = false) : Calls Tryz.prog 20 #[.string k] w (CoQ k w) := by
  have HE : Hid (cmpS (bl k) = ⟨#[]⟩) := by unfold Hid cmpS; rw [h]; rfl
  clear h
  go_enter Tryz.func20, Tryz.ntmps20
  go_wp2_with fail
  go_ret
  exact ⟨by rw [HE.out]; rfl, rfl⟩
theorem comp_any (k : ByteArray) (w : World) : Calls Tryz.prog 20 #[.string k] w (CoQ k w) := by
  by_cases n0 : k = ⟨#[72, 68]⟩
  · subst n0; exact comp_0 w
  by_cases n1 : k = ⟨#[69, 73]⟩
  · subst n1; exact comp_1 w
  by_cases n2 : k = ⟨#[67, 69]⟩
  · subst n2; exact comp_2 w
  by_cases n3 : k = ⟨#[67, 87, 69]⟩
  · subst n3; exact comp_3 w
  by_cases n4 : k = ⟨#[77, 83, 71]⟩
  · subst n4; exact comp_4 w
  by_cases n5 : k = ⟨#[80, 84]⟩
  · subst n5; exact comp_5 w
  by_cases n6 : k = ⟨#[86, 73, 68]⟩
  · subst n6; exact comp_6 w
  by_cases n7 : k = ⟨#[69, 82, 76]⟩
  · subst n7; exact comp_7 w
  by_cases n8 : k = ⟨#[67, 88]⟩
  · subst n8; exact comp_8 w
  by_cases n9 : k = ⟨#[70, 78]⟩
  · subst n9; exact comp_9 w
  by_cases n10 : k = ⟨#[88, 80, 78]⟩
  · subst n10; exact comp_10 w
  by_cases n11 : k = ⟨#[80, 76]⟩
  · subst n11; exact comp_11 w
  refine comp_none k w ?_ (ne_l (l := [72, 68]) n0).1 (ne_l (l := [69, 73]) n1).1 (ne_l (l := [67, 69]) n2).1 (ne_l (l := [67, 87, 69]) n3).1 (ne_l (l := [77, 83, 71]) n4).1 (ne_l (l := [80, 84]) n5).1 (ne_l (l := [86, 73, 68]) n6).1 (ne_l (l := [69, 82, 76]) n7).1 (ne_l (l := [67, 88]) n8).1 (ne_l (l := [70, 78]) n9).1 (ne_l (l := [88, 80, 78]) n10).1 (ne_l (l := [80, 76]) n11).1
  cases h : cmpX (bl k) with
  | none => rfl
  | some x =>
    rcases cmp_name h with e | e | e | e | e | e | e | e | e | e | e | e
    · exact absurd (bl_inj e) n0
    · exact absurd (bl_inj e) n1
    · exact absurd (bl_inj e) n2
    · exact absurd (bl_inj e) n3
    · exact absurd (bl_inj e) n4
    · exact absurd (bl_inj e) n5
    · exact absurd (bl_inj e) n6
    · exact absurd (bl_inj e) n7
    · exact absurd (bl_inj e) n8
    · exact absurd (bl_inj e) n9
    · exact absurd (bl_inj e) n10
    · exact absurd (bl_inj e) n11
theorem bl_mkS (x : List UInt8) : bl (mkS x) = x := rfl
theorem mkS_nil {x : List UInt8} (h : x ≠ []) : ((mkS x).toList == []) = false := by
  rw [Lib.toList_data]
  exact beq_eq_false_iff_ne.2 h
theorem cmpS_some {k x : List UInt8} (h : cmpX k = some x) : cmpS k = mkS x := by unfold cmpS; rw [h]; rfl
theorem cmpS_none {k : List UInt8} (h : cmpX k = none) : cmpS k = ⟨#[]⟩ := by unfold cmpS; rw [h]; rfl
theorem pts_pos (k : List UInt8) : decide (0 < (ptsOf k).length) = (prB k || (cmpX k).isSome) := by
  unfold ptsOf
  cases hp : prB k with
  | true => simp
  | false =>
    simp only [Bool.false_eq_true, if_false, Bool.false_or]
    cases hc : cmpX k with
    | none => rw [acc_none hc]; rfl
    | some x => obtain ⟨h1, _, h3, _⟩ := acc_some hc; rw [h1, List.length_map]; simp [h3]
set_option maxHeartbeats 1000000 in
theorem rKnown_any (k : ByteArray) (w : World) : Calls Tryz.prog 11 #[.string k] w fun e w' => e = .returned (.bool (decide (0 < (ptsOf (bl k)).length))) ∧ Below w.heap.size w w' := by
  rw [pts_pos]
  have H1 := (pm_any k).2 w
  have H2 := comp_any k
  cases hp : prB (bl k) with
  | true =>
    rw [hp] at H1
    go_enter Tryz.func11, Tryz.ntmps11
    go_wp2_with fail
    refine H1.mono ?_
    rintro _ w1 ⟨rfl, hb⟩
    have HB : Hid (Below w.heap.size w w1) := hb
    clear hb H1 H2
    go_wp2_with fail
    go_ret
    exact ⟨rfl, HB.out⟩
  | false =>
    rw [hp] at H1
    cases hc : cmpX (bl k) with
    | none =>
      unfold CoQ at H2
      rw [cmpS_none hc] at H2
      go_enter Tryz.func11, Tryz.ntmps11
      go_wp2_with fail
      refine H1.mono ?_
      rintro _ w1 ⟨rfl, hb⟩
      have HB : Hid (Below w.heap.size w w1) := hb
      clear hb H1
      go_wp2_with fail
      refine (H2 _).mono ?_
      rintro _ w9 ⟨rfl, hw⟩
      subst w9
      go_wp2_with fail
      go_ret
      exact ⟨rfl, HB.out⟩
    | some x =>
      unfold CoQ at H2
      rw [cmpS_some hc] at H2
      have hx := mkS_nil (acc_some hc).2.2.2.2.2.1
      obtain ⟨S, hS⟩ : ∃ S, mkS x = S := ⟨_, rfl⟩
      rw [hS] at H2 hx
      go_enter Tryz.func11, Tryz.ntmps11
      go_wp2_with fail
      refine H1.mono ?_
      rintro _ w1 ⟨rfl, hb⟩
      have HB : Hid (Below w.heap.size w w1) := hb
      clear hb H1
      go_wp2_with fail
      refine (H2 _).mono ?_
      rintro _ w9 ⟨rfl, hw⟩
      subst w9
      go_wp2_with fail
      go_ret
      exact ⟨rfl, HB.out⟩
/-- What the document's Parts answers. -/
def RpQ (ps : List (List UInt8 × Bool)) (w : World) (e : Ending) (w' : World) : Prop :=
  (ps = [] ∧ ∃ no, e = .returned (.tuple #[.slice none 0 0, .slice none 0 0, no]) ∧ TNo w' no 0 160 ∧ Below w.heap.size w w') ∨
  (ps ≠ [] ∧ ∃ va vb, e = .returned (.tuple #[va, vb, .slice none 0 0]) ∧ VRow w' w.heap.size 9 va (strs (ps.map Prod.fst)) ∧ VRow w' w.heap.size 4 vb (bools (ps.map Prod.snd)) ∧ Below w.heap.size w w')
set_option maxHeartbeats 1000000 in
theorem rParts_prim (k : ByteArray) (w : World) (hp : prB (bl k) = true) : Calls Tryz.prog 5 #[.string k] w (RpQ [(bl k, false)] w) := by
  have H1 := (pm_any k).2 w
  rw [hp] at H1
  go_enter Tryz.func5, Tryz.ntmps5
  go_wp2_with fail
  refine H1.mono ?_
  rintro _ w1 ⟨rfl, hb⟩
  have HB : Hid (Below w.heap.size w w1) := hb
  clear hb H1
  go_wp2_with fail
  have hb := HB.out
  have r1 := VRow.new w1 [.string k] 9 (by simp)
  have r2 := VRow.new (w1.alloc (.cells #[.string k] 9)) [.bool false] 4 (by simp)
  have b2 : Below (w1.alloc (.cells #[.string k] 9)).heap.size (w1.alloc (.cells #[.string k] 9)) ((w1.alloc (.cells #[.string k] 9)).alloc (.cells #[.bool false] 4)) := (Below.refl _ _).alloc (Nat.le_refl _) _
  refine bodyPost_ret ?_ rfl (Or.inr ⟨by simp, .slice (some ⟨w1.heap.size, 0, none⟩) 1 1, .slice (some ⟨w1.heap.size + 1, 0, none⟩) 1 1, rfl, VRow.base (r1.below b2) hb.size, VRow.base (B := w1.heap.size + 1) (by simp only [World.size_alloc] at r2; exact r2) (by have := hb.size; omega), (hb.alloc hb.size _).alloc (by have := hb.size; simp; omega) _⟩)
  simp [results, Tryz.results5, go_sem]
set_option maxHeartbeats 1000000 in
theorem rParts_none (k : ByteArray) (w : World) (hp : prB (bl k) = false) (hc : cmpX (bl k) = none) : Calls Tryz.prog 5 #[.string k] w (RpQ [] w) := by
  have H1 := (pm_any k).2 w
  rw [hp] at H1
  have H2 := comp_any k
  unfold CoQ at H2
  rw [cmpS_none hc] at H2
  go_enter Tryz.func5, Tryz.ntmps5
  go_wp2_with fail
  refine H1.mono ?_
  rintro _ w1 ⟨rfl, hb⟩
  have HB : Hid (Below w.heap.size w w1) := hb
  clear hb H1
  go_wp2_with fail
  refine (H2 _).mono ?_
  rintro _ w9 ⟨rfl, hw⟩
  subst w9
  go_wp2_with fail
  refine (rNo_any 0 160 (by decide) _).mono ?_
  rintro _ w2 ⟨no, rfl, hno, hb⟩
  have HB2 : Hid (TNo w2 no 0 160 ∧ Below w.heap.size w w2) := ⟨hno, below_then HB.out hb⟩
  clear hno hb
  go_wp2_with fail
  refine bodyPost_ret ?_ rfl (Or.inl ⟨rfl, no, rfl, HB2.out.1, HB2.out.2⟩)
  simp [results, Tryz.results5, go_sem]
/-- The words of which the first j have lost their stars. -/
def cutJ (L : List (List UInt8)) (j : Nat) : List (List UInt8) := (L.take j).map (fun x => (cutW x).1) ++ L.drop j
theorem cutJ_get {L : List (List UInt8)} {j : Nat} {x : List UInt8} (h : L[j]? = some x) : (cutJ L j)[j]? = some x := by
  have hj := (List.getElem?_eq_some_iff.1 h).1
  unfold cutJ
  rw [List.getElem?_append_right (by simp; omega)]
  simp [h, Nat.min_eq_left (Nat.le_of_lt hj)]
theorem cutJ_succ {L : List (List UInt8)} {j : Nat} {x : List UInt8} (h : L[j]? = some x) : cutJ L (j + 1) = (cutJ L j).set j (cutW x).1 := by
  obtain ⟨hj, e⟩ := List.getElem?_eq_some_iff.1 h
  unfold cutJ
  have hl : ((L.take j).map (fun x => (cutW x).1)).length = j := by simp; omega
  rw [List.set_append_right _ _ (by omega), hl, Nat.sub_self, List.drop_eq_getElem_cons hj, List.set_cons_zero, List.take_add_one, h, Option.toList_some, List.map_append, List.append_assoc]
  rfl
theorem cutJ_len (L : List (List UInt8)) (j : Nat) (h : j ≤ L.length) : (cutJ L j).length = L.length := by
  unfold cutJ; simp; omega
theorem strs_set (l : List (List UInt8)) (j : Nat) (x : List UInt8) : strs (l.set j x) = (strs l).set j (.string (mkS x)) := by simp [strs, List.map_set]
theorem set_here {α : Type} {l : List α} {j : Nat} {x : α} (h : l[j]? = some x) : l.set j x = l := by
  obtain ⟨hj, e⟩ := List.getElem?_eq_some_iff.1 h
  rw [← e]; exact List.set_getElem_self hj
set_option maxRecDepth 100000 in
set_option maxHeartbeats 4000000 in
theorem rParts_some (k : ByteArray) (x0 : List UInt8) (w : World) (hp : prB (bl k) = false) (hc : cmpX (bl k) = some x0) : Calls Tryz.prog 5 #[.string k] w (RpQ ((wrd x0).map cutW) w) := by
  have H1 := (pm_any k).2 w
  rw [hp] at H1
  have H2 := comp_any k
  unfold CoQ at H2
  rw [cmpS_some hc] at H2
  obtain ⟨_, hne, hpos, hlen, hxl, hx0, _⟩ := acc_some hc
  have hx := mkS_nil hx0
  have HW : Hid (∀ y, Calls Tryz.prog 21 #[.string (mkS x0)] y fun e y' => ∃ v, e = .returned v ∧ VRow y' y.heap.size 9 v (strs (wrd x0)) ∧ Below y.heap.size y y') := fun y => by
    refine (words_any (mkS x0) y (by rw [← bl_len, bl_mkS]; exact hxl)).mono ?_
    rintro _ y' ⟨v, rfl, hr, hb⟩
    refine ⟨v, rfl, ?_, hb⟩
    have h9 := srow_of hr
    rw [bl_mkS, show (mkS x0).size + 1 = x0.length + 1 by rw [← bl_len, bl_mkS]] at h9
    exact h9
  obtain ⟨S, hS⟩ : ∃ S, mkS x0 = S := ⟨_, rfl⟩
  obtain ⟨L, hL⟩ : ∃ L, wrd x0 = L := ⟨_, rfl⟩
  rw [hS] at H2 hx HW
  rw [hL] at HW hne hpos hlen ⊢
  have HL : Hid ((∀ y ∈ L, y ≠ [] ∧ y.length ≤ 90) ∧ 0 < L.length ∧ L.length ≤ 10) := ⟨hne, hpos, hlen⟩
  clear hne hpos hlen hL hS hx0 hxl hc hp
  go_enter Tryz.func5, Tryz.ntmps5
  go_wp2_with fail
  refine H1.mono ?_
  rintro _ w1 ⟨rfl, hb⟩
  have HB : Hid (Below w.heap.size w w1) := hb
  clear hb H1
  go_wp2_with fail
  refine (H2 _).mono ?_
  rintro _ w9 ⟨rfl, hw⟩
  subst w9
  go_wp2_with fail
  refine (H2 _).mono ?_
  rintro _ w9 ⟨rfl, hw⟩
  subst w9
  go_wp2_with fail
  refine (HW.out _).mono ?_
  rintro _ w2 ⟨v, rfl, hr, hb⟩
  obtain ⟨m, hm⟩ : ∃ m, L.length = m := ⟨_, rfl⟩
  have HM : Hid (L.length = m) := hm
  obtain ⟨a, c, rfl, ha⟩ := hr.isSlice
  rw [strs_length, hm] at hr ha
  rw [strs_length, hm]
  obtain ⟨g, rfl⟩ := ha (by have := HL.out.2.1; omega)
  have H3 : Hid (VRow w2 w.heap.size 9 (.slice (some ⟨g, 0, none⟩) m c) (strs L) ∧ Below w.heap.size w w2) := ⟨VRow.base hr HB.out.size, below_then HB.out hb⟩
  have hm10 : m ≤ 10 := by have := HL.out.2.2; omega
  clear hr hb H2 HW hm hx ha
  go_wp2_with fail
  go_loopw [6, 7] (fun t6 t7 wx => ∃ (j : Nat) (a6 : Option Addr) (c6 : Nat), j ≤ m ∧ t7 = .int .i64 j ∧ t6 = .slice a6 j c6 ∧ Hid (VRow wx w.heap.size 9 (.slice (some ⟨g, 0, none⟩) m c) (strs (cutJ L j)) ∧ VRow wx w.heap.size 4 (.slice a6 j c6) (bools ((L.take j).map fun x => (cutW x).2)) ∧ Below w.heap.size w wx)) (fun _ t7 _ => m - (intOf t7).toNat)
  case atStart => exact ⟨0, none, 0, Nat.zero_le _, rfl, rfl, H3.out.1, VRow.nil _ _ _, H3.out.2⟩
  case round =>
    obtain ⟨j, a6, c6, hj, rfl, rfl, HJ⟩ := hrel
    by_cases hlt : j < m
    · have hlt1 : (j : Int) < m := by omega
      obtain ⟨x, hx⟩ : ∃ x, L[j]? = some x := ⟨_, List.getElem?_eq_getElem (by have := HM.out; omega)⟩
      have hcell := HJ.out.1.slot (strs_get (cutJ_get hx))
      obtain ⟨hnx, hx90⟩ := HL.out.1 x (List.mem_of_getElem? hx)
      obtain ⟨X, hX⟩ : ∃ X, mkS x = X := ⟨_, rfl⟩
      rw [hX] at hcell
      have hsz : X.size = x.length := by rw [← hX, ← bl_len, bl_mkS]
      obtain ⟨N1, hN⟩ : ∃ N1, X.size = N1 + 1 := ⟨X.size - 1, by have : x.length ≠ 0 := fun e => hnx (List.eq_nil_of_length_eq_zero e); omega⟩
      have hN1 : N1 < X.size := by omega
      have hN90 : N1 ≤ 90 := by omega
      clear hx90
      have hlast : x.getLast? = some X[N1] := by
        subst hX
        have h1 : (bl (mkS x))[N1]? = some (mkS x)[N1] := bl_at hN1
        rw [List.getLast?_eq_getElem?, show x.length - 1 = N1 by omega]
        exact h1
      have r1 := HJ.out.2.1
      have hl2 : (bools ((L.take j).map fun x => (cutW x).2)).length = j := by rw [bools_length, List.length_map, List.length_take]; have := HM.out; omega
      have hthaw := HJ.out.1.thaw j
      by_cases h42 : X[N1] = 42
      · have q1 : ((X[N1].toNat : Int) == 42) = true := by rw [h42]; rfl
        have ec : cutW x = (x.dropLast, true) := by unfold cutW; rw [hlast, h42, if_pos rfl]
        obtain ⟨a3, c3, w3, e3, r3, o3, s3, _⟩ := run_vpush Tryz.underlying29 oneB (by omega) r1 HJ.out.2.2.size (by rw [hl2]; omega) (.bool true) rfl
        rw [hl2] at e3 r3 s3
        have hne9 : ∀ z, (Value.slice (some ⟨g, 0, none⟩) m c).ownBlock = some z → ¬ (Value.slice a6 j c6).ownBlock = some z := fun z e e' => rows_ne r1 HJ.out.1 (by decide) z e' e
        have hs3 : VRow w3 w.heap.size 9 (.slice (some ⟨g, 0, none⟩) m c) (strs (cutJ L j)) := HJ.out.1.off o3 hne9
        have k3 : w3.cell? ⟨g, j, none⟩ = some (.string X) := by rw [← hX]; exact hs3.slot (strs_get (cutJ_get hx))
        have f3 := hs3.thaw j
        have HK : Hid (VRow (w3.setCell ⟨g, j, none⟩ (.string (X.extract 0 N1))) w.heap.size 9 (.slice (some ⟨g, 0, none⟩) m c) (strs (cutJ L (j + 1))) ∧ VRow (w3.setCell ⟨g, j, none⟩ (.string (X.extract 0 N1))) w.heap.size 4 (.slice a3 (j + 1) c3) (bools ((L.take (j + 1)).map fun x => (cutW x).2)) ∧ Below w.heap.size w (w3.setCell ⟨g, j, none⟩ (.string (X.extract 0 N1)))) := by
          have b3 : Below w.heap.size w w3 := off_base HJ.out.2.2 o3 (fun k e => (r1.lt e).1)
          have o4 : Off (fun k => k = g) w3 (w3.setCell ⟨g, j, none⟩ (.string (X.extract 0 N1))) := Off.setCell (P := fun k => k = g) (Off.refl _ _) (p := ⟨g, j, none⟩) rfl _
          refine ⟨?_, ?_, off_base b3 o4 (fun k e => by rw [e]; exact (hs3.lt (g := g) rfl).1)⟩
          · have h5 := hs3.stored j (.string (X.extract 0 N1))
            rw [cutJ_succ hx, strs_set, ec]
            have e5 : X.extract 0 N1 = mkS x.dropLast := by
              rw [cut_mk, ← hX, bl_mkS, List.drop_zero, List.dropLast_eq_take, show x.length - 1 = N1 by omega, Nat.sub_zero]
            rw [e5] at h5 ⊢
            exact h5
          · have e6 : (bools ((L.take (j + 1)).map fun x => (cutW x).2)) = bools ((L.take j).map fun x => (cutW x).2) ++ [.bool true] := by
              rw [List.take_add_one, hx, Option.toList_some, List.map_append, bools_append]
              simp [ec, bools]
            rw [e6]
            exact r3.off o4 (fun z e e' => by subst e'; exact rows_ne r3 hs3 (by decide) z e rfl)
        clear r1 r3 o3 s3 hs3 hne9 hx hnx hX hlast ec h42 hl2 hsz
        go_wp2_with (at_builtin; refine wpList_append_run rfl (.tmp 33) (.tmp 41) 29 _ rfl e3 ?_)
        go_roundw
        case rel => exact ⟨j + 1, a3, c3, hlt, by go_num, rfl, HK⟩
        case measure => simp [intOf]; omega
      · have q1 : ((X[N1].toNat : Int) == 42) = false := by
          simp only [beq_eq_false_iff_ne, ne_eq]
          intro e
          exact h42 (UInt8.toNat_inj.1 (by have : X[N1].toNat = 42 := by omega
                                           exact this))
        have ec : cutW x = (x, false) := by unfold cutW; rw [hlast, if_neg (fun e => h42 (Option.some.inj e))]
        obtain ⟨a3, c3, w3, e3, r3, o3, s3, _⟩ := run_vpush Tryz.underlying29 oneB (by omega) r1 HJ.out.2.2.size (by rw [hl2]; omega) (.bool false) rfl
        rw [hl2] at e3 r3 s3
        have hne9 : ∀ z, (Value.slice (some ⟨g, 0, none⟩) m c).ownBlock = some z → ¬ (Value.slice a6 j c6).ownBlock = some z := fun z e e' => rows_ne r1 HJ.out.1 (by decide) z e' e
        have hs3 : VRow w3 w.heap.size 9 (.slice (some ⟨g, 0, none⟩) m c) (strs (cutJ L j)) := HJ.out.1.off o3 hne9
        have k3 : w3.cell? ⟨g, j, none⟩ = some (.string X) := by rw [← hX]; exact hs3.slot (strs_get (cutJ_get hx))
        have HK : Hid (VRow w3 w.heap.size 9 (.slice (some ⟨g, 0, none⟩) m c) (strs (cutJ L (j + 1))) ∧ VRow w3 w.heap.size 4 (.slice a3 (j + 1) c3) (bools ((L.take (j + 1)).map fun x => (cutW x).2)) ∧ Below w.heap.size w w3) := by
          refine ⟨?_, ?_, off_base HJ.out.2.2 o3 (fun k e => (r1.lt e).1)⟩
          · have e5 : cutJ L (j + 1) = cutJ L j := by
              rw [cutJ_succ hx, ec]
              exact set_here (cutJ_get hx)
            rw [e5]; exact hs3
          · have e6 : (bools ((L.take (j + 1)).map fun x => (cutW x).2)) = bools ((L.take j).map fun x => (cutW x).2) ++ [.bool false] := by
              rw [List.take_add_one, hx, Option.toList_some, List.map_append, bools_append]
              simp [ec, bools]
            rw [e6]
            exact r3
        clear r1 r3 o3 s3 hs3 hne9 hx hnx hX hlast ec h42 hl2 hsz
        go_wp2_with (at_builtin; refine wpList_append_run rfl (.tmp 33) (.tmp 41) 29 _ rfl e3 ?_)
        go_roundw
        case rel => exact ⟨j + 1, a3, c3, hlt, by go_num, rfl, HK⟩
        case measure => simp [intOf]; omega
    · have hlt1 : ¬ (j : Int) < m := by omega
      obtain rfl : j = m := by omega
      obtain ⟨r1, r2, hb⟩ := HJ.out
      have e1 : cutJ L j = (L.map cutW).map Prod.fst := by
        unfold cutJ
        rw [List.take_of_length_le (by have := HM.out; omega), List.drop_of_length_le (by have := HM.out; omega), List.append_nil, List.map_map]; rfl
      have e2 : (L.take j).map (fun x => (cutW x).2) = (L.map cutW).map Prod.snd := by
        rw [List.take_of_length_le (by have := HM.out; omega), List.map_map]; rfl
      rw [e1] at r1
      rw [e2] at r2
      have HR : Hid (VRow wr w.heap.size 9 (.slice (some ⟨g, 0, none⟩) j c) (strs ((L.map cutW).map Prod.fst)) ∧ VRow wr w.heap.size 4 (.slice a6 j c6) (bools ((L.map cutW).map Prod.snd)) ∧ Below w.heap.size w wr) := ⟨r1, r2, hb⟩
      clear r1 r2 hb e1 e2 HJ
      go_wp2_with fail
      refine bodyPost_ret ?_ rfl (Or.inr ⟨fun e => ?_, _, _, rfl, HR.out.1, HR.out.2.1, HR.out.2.2⟩)
      · simp [results, Tryz.results5, go_sem]
      · have h1 := HL.out.2.1
        have h2 : (L.map cutW).length = 0 := by rw [e]; rfl
        rw [List.length_map] at h2
        omega
theorem rParts_any (k : ByteArray) (w : World) : Calls Tryz.prog 5 #[.string k] w (RpQ (ptsOf (bl k)) w) := by
  unfold ptsOf
  cases hp : prB (bl k) with
  | true => exact rParts_prim k w hp
  | false =>
    simp only [Bool.false_eq_true, if_false]
    cases hc : cmpX (bl k) with
    | none => rw [acc_none hc]; exact rParts_none k w hp hc
    | some x => rw [(acc_some hc).1]; exact rParts_some k x w hp hc
end Go.Proofs.YtjdpjielpbiedaaGreatDoor.Td
