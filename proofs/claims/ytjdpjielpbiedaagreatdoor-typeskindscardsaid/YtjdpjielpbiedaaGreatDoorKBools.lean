/-
  The law's sameBools, boolsApart.
-/
import Derived.Test.YtjdpjielpbiedaaGreatDoorKAlone
namespace Go.Proofs.YtjdpjielpbiedaaGreatDoor.Td
open Go.RowKit

/-- A list of truths of the call's own. -/
abbrev BRow (w : World) (B : Nat) (v : Value) (xs : List Value) : Prop := VRow w B 4 v xs
/-- l has grown out of v: it holds ys, v still holds bs. -/
structure BGrew (w : World) (B : Nat) (v l : Value) (bs ys : List Value) : Prop where
  row : BRow w B l ys
  val : BRow w B v bs
  pre : ys.take bs.length = bs
  way : (∃ g n m cap, v = .slice (some ⟨g, 0, none⟩) n cap ∧ l = .slice (some ⟨g, 0, none⟩) m cap) ∨ (∀ g, l.ownBlock = some g → v.ownBlock ≠ some g)
theorem BGrew.refl {w : World} {B : Nat} {v : Value} {bs : List Value} (h : BRow w B v bs) : BGrew w B v v bs bs := by
  refine ⟨h, h, List.take_length, ?_⟩
  rcases VRow.form h with ⟨rfl, _⟩ | ⟨g, cap, rfl, _⟩
  · exact Or.inr (fun g e => by cases e)
  · exact Or.inl ⟨_, _, _, _, rfl, rfl⟩
theorem run_bgrow {w : World} {B : Nat} {v l : Value} {bs ys : List Value} (h : BGrew w B v l bs ys) (hB : B ≤ w.heap.size) (hl : ys.length + 1 ≤ 1000000) (z : Value) (hz : z.oneCell' = true) :
    ∃ a c w', (Builtin.append_ #[29, 29] 29 #[l, .slice (some ⟨w.heap.size, 0, none⟩) 1 1]).run Tryz.prog (w.alloc (.cells #[z] 4)) = .ok (.slice a (ys.length + 1) c) w' ∧ BGrew w' B v (.slice a (ys.length + 1) c) bs (ys ++ [z]) ∧ Off (fun k => l.ownBlock = some k) w w' ∧ ((Value.slice a (ys.length + 1) c).ownBlock = l.ownBlock ∨ ∃ g, (Value.slice a (ys.length + 1) c).ownBlock = some g ∧ w.heap.size ≤ g) := by
  have hbl : Below w.heap.size w (w.alloc (.cells #[z] 4)) := (Below.refl w.heap.size w).alloc (Nat.le_refl _) _
  have hval : BRow (w.alloc (.cells #[z] 4)) B v bs := VRow.below h.val hbl
  have hbl2 : bs.length ≤ ys.length := by have := congrArg List.length h.pre; rw [List.length_take] at this; omega
  obtain ⟨a, c, w', hr, r2, hof, hs, p⟩ := run_vpush Tryz.underlying29 oneB (by omega) h.row hB hl z hz
  have hpre : (ys ++ [z]).take bs.length = bs := by rw [List.take_append_of_le_length hbl2]; exact h.pre
  refine ⟨a, c, w', hr, ?_, hof, hs⟩
  cases p with
  | same g cap hv hv' hg =>
    simp only [Value.slice.injEq] at hv'
    obtain ⟨rfl, _, rfl⟩ := hv'
    subst hv
    refine ⟨r2, ?_, hpre, ?_⟩
    · rcases h.way with ⟨g1, n1, m1, c1, e1, e2⟩ | hne
      · simp only [Value.slice.injEq, Option.some.injEq, Addr.mk.injEq, and_true] at e2
        obtain ⟨rfl, _, rfl⟩ := e2
        subst e1
        have hn := VRow.len h.val
        have hp := VRow.prefix r2 (m := n1) (by omega)
        rw [← hn, hpre] at hp
        rw [← hn]
        exact hp
      · exact VRow.off hval (Off.of_grown hg) (fun k e p => by simp only [Option.some.injEq] at p; subst p; exact hne _ rfl e)
    · rcases h.way with ⟨g1, n1, m1, c1, e1, e2⟩ | hne
      · simp only [Value.slice.injEq, Option.some.injEq, Addr.mk.injEq, and_true] at e2
        obtain ⟨rfl, _, rfl⟩ := e2
        exact Or.inl ⟨_, _, _, _, e1, rfl⟩
      · exact Or.inr (fun k e => hne k e)
  | idle hv hm hw => omega
  | fresh cap hv' hg hs' =>
    refine ⟨r2, VRow.off hval (Off.of_grown hg) (fun k e p => by cases p), hpre, Or.inr (fun k e e2 => ?_)⟩
    rw [hv'] at e
    simp only [Value.ownBlock, Option.some.injEq] at e
    have := (VRow.lt h.val e2).2
    simp at e
    omega

set_option maxRecDepth 100000 in
set_option maxHeartbeats 2000000 in
theorem sameB_true {w : World} {B B' n c c' : Nat} {a a' : Option Addr} {bs : List Bool} (ha : BRow w B (.slice a n c) (bools bs)) (hb : BRow w B' (.slice a' n c') (bools bs)) (hn : n ≤ 1000) :
    Calls Tryz.prog 13 #[.slice a n c, .slice a' n c'] w fun e w' => e = .returned (.bool true) ∧ Below w.heap.size w w' := by
  have HA : Hid (BRow w B (.slice a n c) (bools bs) ∧ BRow w B' (.slice a' n c') (bools bs) ∧ bs.length = n) := ⟨ha, hb, by have := VRow.len ha; rwa [bools_length] at this⟩
  clear ha hb
  go_enter Tryz.func13, Tryz.ntmps13
  go_wp2_with fail
  go_loopw [5] (fun ti wx => ∃ j m : Nat, j ≤ n ∧ ti = .int .i64 j ∧ wx = w.drewN m) (fun ti _ => n - (intOf ti).toNat)
  case atStart => exact ⟨0, 0, Nat.zero_le _, rfl, rfl⟩
  case round =>
    obtain ⟨j, m, hj, rfl, rfl⟩ := hrel
    by_cases hlt : j < n
    · have hlt1 : (j : Int) < n := by omega
      obtain ⟨h1, h2, h4⟩ := HA.out
      obtain ⟨u, hu⟩ : ∃ u, bs[j]? = some u := ⟨_, List.getElem?_eq_getElem (by omega)⟩
      obtain ⟨g, rfl, k1⟩ := VRow.at_ h1 (bools_get hu)
      obtain ⟨g', rfl, k2⟩ := VRow.at_ h2 (bools_get hu)
      clear h1 h2 h4 hu
      cases u
      all_goals
        go_wp2_with fail
        go_quiet (fail)
        go_wp2_with fail
        go_roundw
        case rel => exact ⟨j + 1, _, hlt, by go_num, rfl⟩
        case measure => simp [intOf]; omega
    · have hlt1 : ¬ ((j : Int) < n) := by omega
      go_wp2_with fail
      go_ret
      exact ⟨rfl, below_drewN (Below.refl _ _) _⟩
/-- So many of one truth. -/
def rp (n : Nat) (q : Bool) : List Value := List.replicate n (.bool q)
theorem rp_len (n : Nat) (q : Bool) : (rp n q).length = n := by simp [rp]
theorem rp_get {n j : Nat} (q : Bool) (h : j < n) : (rp n q)[j]? = some (.bool q) := by simp [rp, h]
theorem rp_succ (n : Nat) (q : Bool) : rp (n + 1) q = rp n q ++ [.bool q] := by simp [rp, List.replicate_succ']
theorem rp_over (bs : List Value) (q : Bool) (k : Nat) (h : k < bs.length) : (rp k q ++ bs.drop k).set k (.bool q) = rp (k + 1) q ++ bs.drop (k + 1) := by
  rw [List.set_append_right _ _ (by rw [rp_len]; omega), rp_len, Nat.sub_self, List.drop_eq_getElem_cons h, List.set_cons_zero, rp_succ, List.append_assoc]
  rfl
/-- What may be touched. -/
def Tw (va vb : Value) (z : Nat) : Prop := va.ownBlock = some z ∨ vb.ownBlock = some z
set_option maxRecDepth 100000 in
set_option maxHeartbeats 8000000 in
theorem apart_true {w : World} {B n c m d : Nat} {a b : Option Addr} {xs ys : List Value} (ha : BRow w B (.slice a n c) xs) (hb : BRow w B (.slice b m d) ys) (hn : n ≤ 100) (hm : m ≤ 100) (hB : B ≤ w.heap.size)
    (hxs : ∀ u ∈ xs, ∃ q, u = .bool q) (hys : ∀ u ∈ ys, ∃ q, u = .bool q)
    (hne : ∀ g, (Value.slice a n c).ownBlock = some g → (Value.slice b m d).ownBlock ≠ some g) :
    Calls Tryz.prog 16 #[.slice a n c, .slice b m d] w fun e w' => e = .returned (.bool true) ∧ Off (Tw (.slice a n c) (.slice b m d)) w w' := by
  have HP : Hid (BRow w B (.slice a n c) xs ∧ BRow w B (.slice b m d) ys ∧ B ≤ w.heap.size ∧ (∀ g, (Value.slice a n c).ownBlock = some g → (Value.slice b m d).ownBlock ≠ some g) ∧ xs.length = n ∧ ys.length = m) := ⟨ha, hb, hB, hne, VRow.len ha, VRow.len hb⟩
  have HS : Hid ((∀ u ∈ xs, ∃ q, u = .bool q) ∧ (∀ u ∈ ys, ∃ q, u = .bool q)) := ⟨hxs, hys⟩
  clear ha hb hB hne hxs hys
  go_enter Tryz.func16, Tryz.ntmps16
  go_wp2_with fail
  go_loopw [5] (fun t5 wx => ∃ k : Nat, k ≤ n ∧ t5 = .int .i64 k ∧ Hid (BRow wx B (.slice a n c) (rp k true ++ xs.drop k) ∧ BRow wx B (.slice b m d) ys ∧ Off (Tw (.slice a n c) (.slice b m d)) w wx)) (fun t5 _ => n - (intOf t5).toNat)
  case atStart => exact ⟨0, Nat.zero_le _, rfl, HP.out.1, HP.out.2.1, Off.refl _ _⟩
  case round =>
    obtain ⟨k, hk, rfl, HK⟩ := hrel
    by_cases hlt : k < n
    · have hlt1 : (k : Int) < n := by omega
      obtain ⟨u, hu⟩ : ∃ u, xs[k]? = some u := ⟨_, List.getElem?_eq_getElem (by have := HP.out.2.2.2.2.1; omega)⟩
      have hu2 : (rp k true ++ xs.drop k)[k]? = some u := by
        rw [List.getElem?_append_right (by rw [rp_len]; omega), rp_len, Nat.sub_self, List.getElem?_drop, Nat.add_zero]; exact hu
      obtain ⟨q, rfl⟩ := HS.out.1 u (List.mem_of_getElem? hu)
      obtain ⟨g, rfl, k1⟩ := VRow.at_ HK.out.1 hu2
      have k2 := VRow.thaw HK.out.1 k
      have HN : Hid (BRow (wr.setCell ⟨g, k, none⟩ (.bool true)) B (.slice (some ⟨g, 0, none⟩) n c) (rp (k + 1) true ++ xs.drop (k + 1)) ∧ BRow (wr.setCell ⟨g, k, none⟩ (.bool true)) B (.slice b m d) ys ∧ Off (Tw (.slice (some ⟨g, 0, none⟩) n c) (.slice b m d)) w (wr.setCell ⟨g, k, none⟩ (.bool true))) := by
        have h5 := VRow.stored HK.out.1 k (.bool true)
        rw [rp_over xs true k (by have := HP.out.2.2.2.2.1; omega)] at h5
        have o5 : Off (fun z => z = g) wr (wr.setCell ⟨g, k, none⟩ (.bool true)) := Off.setCell (P := fun z => z = g) (Off.refl _ _) (p := ⟨g, k, none⟩) rfl _
        exact ⟨h5, VRow.off HK.out.2.1 o5 (fun z e e' => by subst e'; exact HP.out.2.2.2.1 z rfl e), HK.out.2.2.trans (o5.mono (fun z e => Or.inl (by rw [e]; rfl)))⟩
      clear hu hu2
      go_wp2_with fail
      go_roundw
      case rel => exact ⟨k + 1, hlt, by go_num, HN⟩
      case measure => simp [intOf]; omega
    · have hlt1 : ¬ (k : Int) < n := by omega
      obtain rfl : k = n := by omega
      have H1 : Hid (BRow wr B (.slice a k c) (rp k true) ∧ BRow wr B (.slice b m d) ys ∧ Off (Tw (.slice a k c) (.slice b m d)) w wr) := by
        have h9 := HK.out
        rw [List.drop_of_length_le (by have := HP.out.2.2.2.2.1; omega), List.append_nil] at h9
        exact h9
      clear HK
      go_wp2_with fail
      go_loopw [6] (fun t6 wx => ∃ j : Nat, j ≤ m ∧ t6 = .int .i64 j ∧ Hid (BRow wx B (.slice a k c) (rp k true) ∧ BRow wx B (.slice b m d) (rp j false ++ ys.drop j) ∧ Off (Tw (.slice a k c) (.slice b m d)) w wx)) (fun t6 _ => m - (intOf t6).toNat)
      case atStart => exact ⟨0, Nat.zero_le _, rfl, H1.out.1, H1.out.2.1, H1.out.2.2⟩
      case round =>
        obtain ⟨j, hj, rfl, HJ⟩ := hrel
        by_cases hjl : j < m
        · have hjl1 : (j : Int) < m := by omega
          obtain ⟨u, hu⟩ : ∃ u, ys[j]? = some u := ⟨_, List.getElem?_eq_getElem (by have := HP.out.2.2.2.2.2; omega)⟩
          have hu2 : (rp j false ++ ys.drop j)[j]? = some u := by
            rw [List.getElem?_append_right (by rw [rp_len]; omega), rp_len, Nat.sub_self, List.getElem?_drop, Nat.add_zero]; exact hu
          obtain ⟨q, rfl⟩ := HS.out.2 u (List.mem_of_getElem? hu)
          obtain ⟨g, rfl, k1⟩ := VRow.at_ HJ.out.2.1 hu2
          have k2 := VRow.thaw HJ.out.2.1 j
          have HN : Hid (BRow (wr.setCell ⟨g, j, none⟩ (.bool false)) B (.slice a k c) (rp k true) ∧ BRow (wr.setCell ⟨g, j, none⟩ (.bool false)) B (.slice (some ⟨g, 0, none⟩) m d) (rp (j + 1) false ++ ys.drop (j + 1)) ∧ Off (Tw (.slice a k c) (.slice (some ⟨g, 0, none⟩) m d)) w (wr.setCell ⟨g, j, none⟩ (.bool false))) := by
            have h5 := VRow.stored HJ.out.2.1 j (.bool false)
            rw [rp_over ys false j (by have := HP.out.2.2.2.2.2; omega)] at h5
            have o5 : Off (fun z => z = g) wr (wr.setCell ⟨g, j, none⟩ (.bool false)) := Off.setCell (P := fun z => z = g) (Off.refl _ _) (p := ⟨g, j, none⟩) rfl _
            exact ⟨VRow.off HJ.out.1 o5 (fun z e e' => by subst e'; exact HP.out.2.2.2.1 z e rfl), h5, HJ.out.2.2.trans (o5.mono (fun z e => Or.inr (by rw [e]; rfl)))⟩
          clear hu hu2
          go_wp2_with fail
          go_roundw
          case rel => exact ⟨j + 1, hjl, by go_num, HN⟩
          case measure => simp [intOf]; omega
        · have hjl1 : ¬ (j : Int) < m := by omega
          obtain rfl : j = m := by omega
          have H2 : Hid (BRow wr B (.slice a k c) (rp k true) ∧ BRow wr B (.slice b j d) (rp j false) ∧ Off (Tw (.slice a k c) (.slice b j d)) w wr) := by
            have h9 := HJ.out
            rw [List.drop_of_length_le (by have := HP.out.2.2.2.2.2; omega), List.append_nil] at h9
            exact h9
          clear HJ H1
          obtain ⟨W, hW⟩ : ∃ W, W = wr := ⟨_, rfl⟩
          subst hW
          go_wp2_with fail
          go_loopw [7, 9] (fun t7 t9 wx => ∃ (i : Nat) (a7 : Option Addr) (c7 : Nat), i ≤ 90 ∧ t9 = .int .i64 i ∧ t7 = .slice a7 (k + i) c7 ∧ Hid (BGrew wx B (.slice a k c) (.slice a7 (k + i) c7) (rp k true) (rp (k + i) true) ∧ BRow wx B (.slice b j d) (rp j false) ∧ Off (Tw (.slice a k c) (.slice b j d)) w wx ∧ W.heap.size ≤ wx.heap.size ∧ ∀ z, (Value.slice a7 (k + i) c7).ownBlock = some z → (Value.slice a k c).ownBlock = some z ∨ W.heap.size ≤ z)) (fun _ t9 _ => 90 - (intOf t9).toNat)
          case atStart => exact ⟨0, a, c, by omega, rfl, rfl, BGrew.refl H2.out.1, H2.out.2.1, H2.out.2.2, Nat.le_refl _, fun z e => Or.inl e⟩
          case round =>
            obtain ⟨i, a7, c7, hi, rfl, rfl, HI⟩ := hrel
            by_cases hil : i < 90
            · have hil1 : (i : Int) < 90 := by omega
              have hsz : w.heap.size ≤ W.heap.size := H2.out.2.2.size
              obtain ⟨a9, c9, w9, e9, g9, o9, s9⟩ := run_bgrow HI.out.1 (Nat.le_trans HP.out.2.2.1 HI.out.2.2.1.size) (by rw [rp_len]; omega) (.bool true) rfl
              rw [rp_len, show k + i + 1 = k + (i + 1) from Nat.add_assoc _ _ _] at e9 g9 s9
              rw [← rp_succ] at g9
              have HN : Hid (BGrew w9 B (.slice a k c) (.slice a9 (k + (i + 1)) c9) (rp k true) (rp (k + (i + 1)) true) ∧ BRow w9 B (.slice b j d) (rp j false) ∧ Off (Tw (.slice a k c) (.slice b j d)) w w9 ∧ W.heap.size ≤ w9.heap.size ∧ ∀ z, (Value.slice a9 (k + (i + 1)) c9).ownBlock = some z → (Value.slice a k c).ownBlock = some z ∨ W.heap.size ≤ z) := by
                refine ⟨g9, VRow.off HI.out.2.1 o9 (fun z e e' => ?_), HI.out.2.2.1.join o9 (fun z hz e' => ?_), Nat.le_trans HI.out.2.2.2.1 o9.size, fun z e => ?_⟩
                · rcases HI.out.2.2.2.2 z e' with q | q
                  · exact HP.out.2.2.2.1 z q e
                  · have := (VRow.lt H2.out.2.1 e).2; omega
                · rcases HI.out.2.2.2.2 z e' with q | q
                  · exact Or.inl q
                  · omega
                · rcases s9 with q | ⟨g', q, hg'⟩
                  · rw [q] at e; exact HI.out.2.2.2.2 z e
                  · rw [q, Option.some.injEq] at e; have := HI.out.2.2.2.1; exact Or.inr (by omega)
              clear g9 o9 s9
              go_wp2_with (at_builtin; refine wpList_append_run rfl (.tmp 37) (.tmp 38) 29 _ rfl e9 ?_)
              go_roundw
              case rel => exact ⟨i + 1, a9, c9, hil, by go_num, rfl, HN⟩
              case measure => simp [intOf]; omega
            · have hil1 : ¬ (i : Int) < 90 := by omega
              obtain rfl : i = 90 := by omega
              obtain ⟨U, hU⟩ : ∃ U, U = wr := ⟨_, rfl⟩
              subst hU
              have H3 : Hid (type_of% HI.out) := HI.out
              clear HI
              go_wp2_with fail
              go_loopw [8, 10] (fun t8 t10 wx => ∃ (i : Nat) (a8 : Option Addr) (c8 : Nat), i ≤ 90 ∧ t10 = .int .i64 i ∧ t8 = .slice a8 (j + i) c8 ∧ Hid (BGrew wx B (.slice b j d) (.slice a8 (j + i) c8) (rp j false) (rp (j + i) false) ∧ BRow wx B (.slice a k c) (rp k true) ∧ BRow wx B (.slice a7 (k + 90) c7) (rp (k + 90) true) ∧ Off (Tw (.slice a k c) (.slice b j d)) w wx ∧ U.heap.size ≤ wx.heap.size ∧ ∀ z, (Value.slice a8 (j + i) c8).ownBlock = some z → (Value.slice b j d).ownBlock = some z ∨ U.heap.size ≤ z)) (fun _ t10 _ => 90 - (intOf t10).toNat)
              case atStart => exact ⟨0, b, d, by omega, rfl, rfl, BGrew.refl H3.out.2.1, H3.out.1.val, H3.out.1.row, H3.out.2.2.1, Nat.le_refl _, fun z e => Or.inl e⟩
              case round =>
                obtain ⟨i, a8, c8, hi, rfl, rfl, HI⟩ := hrel
                by_cases hil : i < 90
                · have hil1 : (i : Int) < 90 := by omega
                  obtain ⟨a9, c9, w9, e9, g9, o9, s9⟩ := run_bgrow HI.out.1 (Nat.le_trans HP.out.2.2.1 HI.out.2.2.2.1.size) (by rw [rp_len]; omega) (.bool false) rfl
                  rw [rp_len, show j + i + 1 = j + (i + 1) from Nat.add_assoc _ _ _] at e9 g9 s9
                  rw [← rp_succ] at g9
                  have HN : Hid (BGrew w9 B (.slice b j d) (.slice a9 (j + (i + 1)) c9) (rp j false) (rp (j + (i + 1)) false) ∧ BRow w9 B (.slice a k c) (rp k true) ∧ BRow w9 B (.slice a7 (k + 90) c7) (rp (k + 90) true) ∧ Off (Tw (.slice a k c) (.slice b j d)) w w9 ∧ U.heap.size ≤ w9.heap.size ∧ ∀ z, (Value.slice a9 (j + (i + 1)) c9).ownBlock = some z → (Value.slice b j d).ownBlock = some z ∨ U.heap.size ≤ z) := by
                    have hbW : ∀ z, (Value.slice b j d).ownBlock = some z → z < W.heap.size := fun z e => (VRow.lt H2.out.2.1 e).2
                    have hWU := H3.out.2.2.2.1
                    refine ⟨g9, VRow.off HI.out.2.1 o9 (fun z e e' => ?_), VRow.off HI.out.2.2.1 o9 (fun z e e' => ?_), HI.out.2.2.2.1.join o9 (fun z hz e' => ?_), Nat.le_trans HI.out.2.2.2.2.1 o9.size, fun z e => ?_⟩
                    · rcases HI.out.2.2.2.2.2 z e' with q | q
                      · exact HP.out.2.2.2.1 z e q
                      · have := (VRow.lt H3.out.1.val e).2; omega
                    · rcases HI.out.2.2.2.2.2 z e' with q | q
                      · rcases H3.out.2.2.2.2 z e with p | p
                        · exact HP.out.2.2.2.1 z p q
                        · have := hbW z q; omega
                      · have := (VRow.lt H3.out.1.row e).2; omega
                    · rcases HI.out.2.2.2.2.2 z e' with q | q
                      · exact Or.inr q
                      · have := H2.out.2.2.size; omega
                    · rcases s9 with q | ⟨g', q, hg'⟩
                      · rw [q] at e; exact HI.out.2.2.2.2.2 z e
                      · rw [q, Option.some.injEq] at e; have := HI.out.2.2.2.2.1; exact Or.inr (by omega)
                  clear g9 o9 s9
                  go_wp2_with (at_builtin; refine wpList_append_run rfl (.tmp 44) (.tmp 45) 29 _ rfl e9 ?_)
                  go_roundw
                  case rel => exact ⟨i + 1, a9, c9, hil, by go_num, rfl, HN⟩
                  case measure => simp [intOf]; omega
                · have hil1 : ¬ (i : Int) < 90 := by omega
                  obtain rfl : i = 90 := by omega
                  obtain ⟨g4, r4a, r4g, o4, _, _⟩ := HI.out
                  have H4 : Hid (BRow wr B (.slice a k c) (rp k true) ∧ BRow wr B (.slice a7 (k + 90) c7) (rp (k + 90) true) ∧ BRow wr B (.slice b j d) (rp j false) ∧ BRow wr B (.slice a8 (j + 90) c8) (rp (j + 90) false) ∧ Off (Tw (.slice a k c) (.slice b j d)) w wr) := ⟨r4a, r4g, g4.val, g4.row, o4⟩
                  clear g4 r4a r4g o4 HI H3 H2 HP HS
                  obtain ⟨Z, hZ⟩ : ∃ Z, Z = wr := ⟨_, rfl⟩
                  subst hZ
                  go_wp2_with fail
                  go_loopw [11] (fun t11 wx => ∃ i : Nat, i ≤ k + 90 ∧ t11 = .int .i64 i ∧ ∃ y, wx = Z.drewN y) (fun t11 _ => k + 90 - (intOf t11).toNat)
                  case atStart => exact ⟨0, by omega, rfl, 0, rfl⟩
                  case round =>
                    obtain ⟨i, hi, rfl, y, rfl⟩ := hrel
                    by_cases hil : i < k + 90
                    · have hil1 : (i : Int) < (k : Int) + 90 := by omega
                      obtain ⟨g, rfl, k1⟩ := VRow.at_ H4.out.2.1 (rp_get true hil)
                      by_cases hkl : i < k
                      · have hkl1 : (i : Int) < k := by omega
                        obtain ⟨g', rfl, k2⟩ := VRow.at_ H4.out.1 (rp_get true hkl)
                        go_wp2_with fail
                        go_roundw
                        case rel => exact ⟨i + 1, hil, by go_num, y, rfl⟩
                        case measure => simp [intOf]; omega
                      · have hkl1 : ¬ (i : Int) < k := by omega
                        go_wp2_with fail
                        go_roundw
                        case rel => exact ⟨i + 1, hil, by go_num, y, rfl⟩
                        case measure => simp [intOf]; omega
                    · have hil1 : ¬ (i : Int) < (k : Int) + 90 := by omega
                      go_wp2_with fail
                      go_loopw [12] (fun t12 wx => ∃ i : Nat, i ≤ j + 90 ∧ t12 = .int .i64 i ∧ ∃ y, wx = Z.drewN y) (fun t12 _ => j + 90 - (intOf t12).toNat)
                      case atStart => exact ⟨0, by omega, rfl, y, rfl⟩
                      case round =>
                        obtain ⟨i, hi, rfl, y, rfl⟩ := hrel
                        by_cases hil : i < j + 90
                        · have hil1 : (i : Int) < (j : Int) + 90 := by omega
                          obtain ⟨g, rfl, k1⟩ := VRow.at_ H4.out.2.2.2.1 (rp_get false hil)
                          by_cases hkl : i < j
                          · have hkl1 : (i : Int) < j := by omega
                            obtain ⟨g', rfl, k2⟩ := VRow.at_ H4.out.2.2.1 (rp_get false hkl)
                            go_wp2_with fail
                            go_roundw
                            case rel => exact ⟨i + 1, hil, by go_num, y, rfl⟩
                            case measure => simp [intOf]; omega
                          · have hkl1 : ¬ (i : Int) < j := by omega
                            go_wp2_with fail
                            go_roundw
                            case rel => exact ⟨i + 1, hil, by go_num, y, rfl⟩
                            case measure => simp [intOf]; omega
                        · have hil1 : ¬ (i : Int) < (j : Int) + 90 := by omega
                          go_wp2_with fail
                          go_ret
                          exact ⟨rfl, H4.out.2.2.2.2.drewN _⟩
end Go.Proofs.YtjdpjielpbiedaaGreatDoor.Td
