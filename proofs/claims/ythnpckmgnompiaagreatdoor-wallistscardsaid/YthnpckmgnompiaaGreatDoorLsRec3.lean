/-
  couriermem.Lists.record, walked.
-/
import Derived.Test.YthnpckmgnompiaaGreatDoorLsGrow
namespace Go.Proofs.YthnpckmgnompiaaGreatDoor
open Go.RowKit Go.BigFrame

theorem sl3info : ∃ i z, Tryz.prog.info? 23 = some i ∧ i.zero = some z ∧ z.cells.size = 1 ∧ i.size = 1 ∧ i.bytes = 24 := by
  have h : (Tryz.prog.info? 23).map (fun i => (i.zero.map (fun z => z.cells.size), i.size, i.bytes)) = some (some 1, 1, 24) := by kernel_rfl
  obtain ⟨i, hi, e⟩ := Option.map_eq_some_iff.1 h
  simp only [Prod.mk.injEq] at e
  obtain ⟨z, hz, e1⟩ := Option.map_eq_some_iff.1 e.1
  exact ⟨i, z, hi, hz, e1, e.2.1, e.2.2⟩
/-- append of two lists of lists. -/
theorem run_two {w : World} {B : Nat} {v : Value} {xs : List Value} (h : VRow w B 23 v xs) (hB : B ≤ w.heap.size) (hl : xs.length ≤ 100) (p q : Value) (hp : p.oneCell' = true) (hq : q.oneCell' = true) :
    ∃ a c w', (Builtin.append_ #[55, 55] 55 #[v, .slice (some ⟨w.heap.size, 0, none⟩) 2 2]).run Tryz.prog (w.alloc (.cells #[p, q] 23)) = .ok (.slice a (xs.length + 2) c) w' ∧ VRow w' B 23 (.slice a (xs.length + 2) c) (xs ++ [p, q]) ∧ Off (fun k => v.ownBlock = some k) w w' ∧ (∀ g, (Value.slice a (xs.length + 2) c).ownBlock = some g → v.ownBlock = some g ∨ w.heap.size ≤ g) := by
  obtain ⟨i, z, hi, hz, hzs, hs, hby⟩ := sl3info
  have hb : Below w.heap.size w (w.alloc (.cells #[p, q] 23)) := (Below.refl _ _).alloc (Nat.le_refl _) _
  obtain ⟨v', w', hr, r, pp⟩ := run_append_two (P := Tryz.prog) (w.alloc (.cells #[p, q] 23)) B 55 55 23 i z 24 Tryz.underlying55 hi hz hs hby hzs v xs (h.under hb) ⟨w.heap.size, 0, none⟩ 2 2 [p, q] rfl (fun j u hu => by
    rw [show (⟨w.heap.size, 0, none⟩ : Addr).add j = ⟨w.heap.size, j, none⟩ by rw [Addr.add_lit, Nat.zero_add], World.cell?_alloc_new]
    simpa using hu) (fun u hu => by simp only [List.mem_cons, List.not_mem_nil, or_false] at hu; rcases hu with rfl | rfl <;> assumption) (by unfold maxLen; omega) (by omega) (by simp; omega)
  obtain ⟨a, c, e1, _⟩ := r.isSlice
  rw [List.length_append] at e1
  simp only [List.length_cons, List.length_nil, Nat.zero_add, Nat.reduceAdd] at e1
  subst e1
  refine ⟨a, c, w', hr, r, ((Off.refl _ w).alloc (.cells #[p, q] 23)).trans ?_, fun g hg => ?_⟩
  · cases pp with
    | same g cap hv hv' hg => rw [hv]; exact Off.of_grown hg
    | idle hv hm hw => omega
    | fresh cap hv' hg hs => exact (Off.of_grown hg).mono (fun k e => by cases e)
  · cases pp with
    | same g' cap hv hv' hg' => rw [hv'] at hg; rw [hv]; exact Or.inl hg
    | idle hv hm hw => omega
    | fresh cap hv' hg' hs =>
      rw [hv'] at hg
      simp [Value.ownBlock] at hg
      exact Or.inr (by omega)
set_option maxRecDepth 100000 in
set_option maxHeartbeats 8000000 in
theorem record_true {w : World} {B X n m h ch cp cq : Nat} {ap aq : Option Addr} {usP usQ : List Value}
    (hx : w.cell? ⟨X, 22, none⟩ = some (.slice (some ⟨h, 0, none⟩) 2 ch)) (hc : Rc w w B (.slice (some ⟨h, 0, none⟩) 2 ch) (.slice ap n cp) (.slice aq m cq) usP usQ 0 0) (hn : n ≤ 16777216) (hm : m ≤ 16777216) (hX : ∀ g, (Value.slice ap n cp).ownBlock = some g ∨ (Value.slice aq m cq).ownBlock = some g → g ≠ X) :
    Calls Tryz.prog 48 #[.pointer (some ⟨X, 0, none⟩)] w fun e w' => e = .returned (.bool true) ∧ Off (fun z => (Value.slice ap n cp).ownBlock = some z ∨ (Value.slice aq m cq).ownBlock = some z) w w' := by
  have HC : Hid (Rc w w B (.slice (some ⟨h, 0, none⟩) 2 ch) (.slice ap n cp) (.slice aq m cq) usP usQ 0 0 ∧ w.cell? ⟨X, 22, none⟩ = some (.slice (some ⟨h, 0, none⟩) 2 ch) ∧ (∀ g, (Value.slice ap n cp).ownBlock = some g ∨ (Value.slice aq m cq).ownBlock = some g → g ≠ X)) := ⟨hc, hx, hX⟩
  have hxc : ∀ {us vs : List Value} {k j : Nat} {y : World}, Rc w y B (.slice (some ⟨h, 0, none⟩) 2 ch) (.slice ap n cp) (.slice aq m cq) us vs k j → y.cell? ⟨X, 22, none⟩ = some (.slice (some ⟨h, 0, none⟩) 2 ch) := fun {us vs k j y} hr => by
    rw [hr.of.cell (p := ⟨X, 22, none⟩) (cell_lt HC.out.2.1) (fun p => HC.out.2.2 X p rfl)]; exact HC.out.2.1
  have HXC : Hid (∀ (us vs : List Value) (k j : Nat) (y : World), Rc w y B (.slice (some ⟨h, 0, none⟩) 2 ch) (.slice ap n cp) (.slice aq m cq) us vs k j → y.cell? ⟨X, 22, none⟩ = some (.slice (some ⟨h, 0, none⟩) 2 ch)) := fun us vs k j y hr => hxc hr
  clear hxc hX hc
  go_enter Tryz.func48, Tryz.ntmps48
  go_wp2_with fail
  refine wp_loop_rounds 3 ?_
  rw [rounds_succ]
  go_wp2_with fail
  clear hx
  go_loopw [4] (fun t4 wx => ∃ (i : Nat) (us : List Value), i ≤ n ∧ t4 = .int .i64 i ∧ Hid (Rc w wx B (.slice (some ⟨h, 0, none⟩) 2 ch) (.slice ap n cp) (.slice aq m cq) us usQ i 0)) (fun t4 _ => n - (intOf t4).toNat)
  case atStart => exact ⟨0, usP, Nat.zero_le _, rfl, HC.out.1⟩
  case round =>
    obtain ⟨i, us, hk, rfl, HK⟩ := hrel
    have x1 := HXC.out _ _ _ _ _ HK.out
    have x2 : wr.cell? ⟨h, 0, none⟩ = some (.slice ap n cp) := HK.out.rr.slot rfl
    by_cases hlt : i < n
    · have hlt1 : (i : Int) < n := by omega
      have hlen := HK.out.rp.len
      obtain ⟨u, hu⟩ : ∃ u, us[i]? = some u := ⟨_, List.getElem?_eq_getElem (by omega)⟩
      obtain ⟨g, rfl, k1⟩ := HK.out.rp.at_ hu
      have ba : Below wr.heap.size wr (wr.alloc (.cells #[.int .u8 0, .int .u8 0, .int .u8 7] 5)) := (Below.refl _ _).alloc (Nat.le_refl _) _
      have k2 : (wr.alloc (.cells #[.int .u8 0, .int .u8 0, .int .u8 7] 5)).cell? ⟨g, i, none⟩ = some u := by rw [ba.cell (p := ⟨g, i, none⟩) (cell_lt k1)]; exact k1
      have k3 : (wr.alloc (.cells #[.int .u8 0, .int .u8 0, .int .u8 7] 5)).frozen? ⟨g, i, none⟩ = false := by rw [ba.frozen (p := ⟨g, i, none⟩) (cell_lt k1)]; exact HK.out.rp.thaw i
      have HN : Hid (type_of% (HK.out.putP (by omega))) := HK.out.putP (by omega)
      clear hu hlen ba
      go_wp2_with fail
      go_roundw
      case rel => exact ⟨i + 1, _, hlt, by go_num, HN.out⟩
      case measure => simp [intOf]; omega
    · have hlt1 : ¬ (i : Int) < n := by omega
      obtain rfl : i = n := by omega
      go_wp2_with fail
      have HU : Hid (Rc w wr B (.slice (some ⟨h, 0, none⟩) 2 ch) (.slice ap i cp) (.slice aq m cq) us usQ i 0) := HK.out
      clear HK x2
      obtain ⟨uP, hup⟩ : ∃ uP, uP = us := ⟨_, rfl⟩
      rw [← hup] at HU
      clear hup us
      rw [rounds_succ]
      go_wp2_with fail
      clear x1
      go_loopw [4] (fun t4 wx => ∃ (j : Nat) (us : List Value), j ≤ m ∧ t4 = .int .i64 j ∧ Hid (Rc w wx B (.slice (some ⟨h, 0, none⟩) 2 ch) (.slice ap i cp) (.slice aq m cq) uP us i j)) (fun t4 _ => m - (intOf t4).toNat)
      case atStart => exact ⟨0, usQ, Nat.zero_le _, rfl, HU.out⟩
      case round =>
        obtain ⟨j, us, hk, rfl, HK⟩ := hrel
        have x1 := HXC.out _ _ _ _ _ HK.out
        have x2 : wr.cell? ⟨h, 1, none⟩ = some (.slice aq m cq) := HK.out.rr.slot rfl
        by_cases hlt : j < m
        · have hlt1 : (j : Int) < m := by omega
          have hlen := HK.out.rq.len
          obtain ⟨u, hu⟩ : ∃ u, us[j]? = some u := ⟨_, List.getElem?_eq_getElem (by omega)⟩
          obtain ⟨g, rfl, k1⟩ := HK.out.rq.at_ hu
          have ba : Below wr.heap.size wr (wr.alloc (.cells #[.int .u8 1, .int .u8 0, .int .u8 7] 5)) := (Below.refl _ _).alloc (Nat.le_refl _) _
          have k2 : (wr.alloc (.cells #[.int .u8 1, .int .u8 0, .int .u8 7] 5)).cell? ⟨g, j, none⟩ = some u := by rw [ba.cell (p := ⟨g, j, none⟩) (cell_lt k1)]; exact k1
          have k3 : (wr.alloc (.cells #[.int .u8 1, .int .u8 0, .int .u8 7] 5)).frozen? ⟨g, j, none⟩ = false := by rw [ba.frozen (p := ⟨g, j, none⟩) (cell_lt k1)]; exact HK.out.rq.thaw j
          have HN : Hid (type_of% (HK.out.putQ (by omega))) := HK.out.putQ (by omega)
          clear hu hlen ba
          go_wp2_with fail
          go_roundw
          case rel => exact ⟨j + 1, _, hlt, by go_num, HN.out⟩
          case measure => simp [intOf]; omega
        · have hlt1 : ¬ (j : Int) < m := by omega
          obtain rfl : j = m := by omega
          go_wp2_with fail
          have HV : Hid (Rc w wr B (.slice (some ⟨h, 0, none⟩) 2 ch) (.slice ap i cp) (.slice aq j cq) uP us i j) := HK.out
          clear HK x2 HU
          obtain ⟨uQ, huq⟩ : ∃ uQ, uQ = us := ⟨_, rfl⟩
          rw [← huq] at HV
          clear huq us
          obtain ⟨U0, hU0⟩ : ∃ U, U = wr := ⟨_, rfl⟩
          subst hU0
          have x2 : U0.cell? ⟨h, 0, none⟩ = some (.slice ap i cp) := HV.out.rr.slot rfl
          rw [rounds_succ]
          go_wp2_with fail
          refine wp_loop_rounds 3 ?_
          rw [rounds_succ]
          go_wp2_with fail
          go_loopw [7, 8] (fun t7 t8 wx => ∃ (t : Nat) (a7 : Option Addr) (c7 : Nat) (ys : List Value), t ≤ 90 ∧ t8 = .int .i64 t ∧ t7 = .slice a7 (i + t) c7 ∧ Hid (Gr w U0 wx B (.slice ap i cp) (.slice a7 (i + t) c7) uP ys 0 ∧ ys.length = i + t)) (fun _ t8 _ => 90 - (intOf t8).toNat)
          case atStart => exact ⟨0, ap, cp, uP, by omega, rfl, rfl, Gr.start HV.out.rp (by rw [HV.out.rp.len]; exact HV.out.mp) HV.out.hB, HV.out.rp.len⟩
          case round =>
            obtain ⟨t, a7, c7, ys, ht, rfl, rfl, HI⟩ := hrel
            by_cases htl : t < 90
            · have htl1 : (t : Int) < 90 := by omega
              obtain ⟨a9, c9, w9, e9, g9⟩ := HI.out.1.step (by have := HI.out.2; omega)
              rw [HI.out.2, show i + t + 1 = i + (t + 1) from Nat.add_assoc _ _ _] at e9 g9
              rw [show (wr.alloc (.cells #[.int .u8 0, .int .u8 0, .int .u8 7] 5)).heap.size = wr.heap.size + 1 by simp] at e9
              have HN : Hid (Gr w U0 w9 B (.slice ap i cp) (.slice a9 (i + (t + 1)) c9) uP (ys ++ [.slice (some ⟨wr.heap.size, 0, none⟩) 3 3]) 0 ∧ (ys ++ [Value.slice (some ⟨wr.heap.size, 0, none⟩) 3 3]).length = i + (t + 1)) := ⟨g9, by have := HI.out.2; simp; omega⟩
              clear g9
              go_wp2_with (at_builtin; refine wpList_append_run rfl (.tmp 67) (.tmp 74) 23 _ rfl e9 ?_)
              go_roundw
              case rel => exact ⟨t + 1, a9, c9, _, htl, by go_num, rfl, HN.out⟩
              case measure => simp [intOf]; omega
            · have htl1 : ¬ (t : Int) < 90 := by omega
              obtain rfl : t = 90 := by omega
              obtain ⟨U1, hU1⟩ : ∃ U, U = wr := ⟨_, rfl⟩
              subst hU1
              obtain ⟨yP, hyp⟩ : ∃ y, y = ys := ⟨_, rfl⟩
              rw [← hyp] at HI
              clear hyp ys
              have ne1 : ∀ z, (Value.slice (some ⟨h, 0, none⟩) 2 ch).ownBlock = some z → (Value.slice ap i cp).ownBlock ≠ some z := lists_ne HV.out.rr HV.out.rp (by decide)
              have rr1 : VRow U1 B 23 (.slice (some ⟨h, 0, none⟩) 2 ch) [.slice ap i cp, .slice aq j cq] := HI.out.1.beside HV.out.rr ne1
              have rq1 : VRow U1 B 22 (.slice aq j cq) uQ := HI.out.1.beside HV.out.rq (fun z e e' => HV.out.ne z e' e)
              have mq1 : Mks U1 B 1 uQ j := HI.out.1.marks HV.out.rp HV.out.mq
              have hxx : ∀ y, Off (fun z => (Value.slice ap i cp).ownBlock = some z ∨ (Value.slice aq j cq).ownBlock = some z) w y → y.cell? ⟨X, 22, none⟩ = some (.slice (some ⟨h, 0, none⟩) 2 ch) := fun y o => by
                rw [o.cell (p := ⟨X, 22, none⟩) (cell_lt HC.out.2.1) (fun p => HC.out.2.2 X p rfl)]; exact HC.out.2.1
              have of1 : Off (fun z => (Value.slice ap i cp).ownBlock = some z ∨ (Value.slice aq j cq).ownBlock = some z) w U1 := HV.out.of.trans (HI.out.1.of.mono (fun z e => Or.inl e))
              have y1 := hxx U1 of1
              have y2 : U1.cell? ⟨h, 0, none⟩ = some (.slice ap i cp) := rr1.slot rfl
              clear x1 x2
              obtain ⟨aA, cA, w3, e3, r3, o3, s3⟩ := run_two (VRow.nil U1 B 23) HI.out.1.hB (by simp) (.slice ap i cp) (.slice a7 (i + 90) c7) rfl rfl
              have hnone : ∀ z, ¬ (Value.slice none 0 0).ownBlock = some z := fun z e => by cases e
              have H3 : Hid (VRow w3 B 23 (.slice aA 2 cA) [.slice ap i cp, .slice a7 (i + 90) c7] ∧ VRow w3 B 23 (.slice (some ⟨h, 0, none⟩) 2 ch) [.slice ap i cp, .slice aq j cq] ∧ VRow w3 B 22 (.slice ap i cp) uP ∧ VRow w3 B 22 (.slice a7 (i + 90) c7) yP ∧ VRow w3 B 22 (.slice aq j cq) uQ ∧ Mks w3 B 0 uP i ∧ Mks w3 B 0 yP (i + 90) ∧ Mks w3 B 1 uQ j ∧ Off (fun z => (Value.slice ap i cp).ownBlock = some z ∨ (Value.slice aq j cq).ownBlock = some z) w w3 ∧ B ≤ w3.heap.size ∧ (∀ z, (Value.slice a7 (i + 90) c7).ownBlock = some z → (Value.slice aq j cq).ownBlock ≠ some z) ∧ yP.length = i + 90 ∧ (∀ z, (Value.slice aA 2 cA).ownBlock = some z → w.heap.size ≤ z)) := by
                have oF : Off (fun _ => False) U1 w3 := o3.mono (fun z e => hnone z e)
                have mof : ∀ {mk : Int} {xs : List Value} {k : Nat}, Mks U1 B mk xs k → Mks w3 B mk xs k := fun hm => hm.off oF (fun z e => e.elim)
                have mP : Mks U1 B 0 uP i := HI.out.1.marks HV.out.rp HV.out.mp
                have mY : Mks U1 B 0 yP (i + 90) := by have := HI.out.1.my; rw [HI.out.2] at this; exact this
                refine ⟨r3, rr1.off oF (fun _ _ => id), HI.out.1.gw.val.off oF (fun _ _ => id) |> fun h9 => ?_, HI.out.1.gw.row.off oF (fun _ _ => id), rq1.off oF (fun _ _ => id), mof mP, mof mY, mof mq1, of1.trans (oF.mono (fun _ e => e.elim)), Nat.le_trans HI.out.1.hB oF.size, fun z e e' => ?_, HI.out.2, fun z e => ?_⟩
                · exact h9
                · rcases HI.out.1.nw z e with q | q
                  · exact HV.out.ne z q e'
                  · have := (HV.out.rq.lt e').2; omega
                · rcases s3 z e with q | q
                  · cases q
                  · have := of1.size; omega
              clear s3 r3 o3 rr1 rq1 mq1 of1
              go_wp2_with (at_builtin; refine wpList_append_run rfl (.tmp 76) (.tmp 85) 55 _ rfl e3 ?_)
              rw [rounds_succ]
              have y1 := hxx w3 H3.out.2.2.2.2.2.2.2.2.1
              have y2 : w3.cell? ⟨h, 1, none⟩ = some (.slice aq j cq) := H3.out.2.1.slot rfl
              go_wp2_with fail
              obtain ⟨U2, hU2⟩ : ∃ U, U = w3 := ⟨_, rfl⟩
              subst hU2
              go_loopw [7, 8] (fun t7 t8 wx => ∃ (t : Nat) (a8 : Option Addr) (c8 : Nat) (ys : List Value), t ≤ 90 ∧ t8 = .int .i64 t ∧ t7 = .slice a8 (j + t) c8 ∧ Hid (Gr w U2 wx B (.slice aq j cq) (.slice a8 (j + t) c8) uQ ys 1 ∧ ys.length = j + t)) (fun _ t8 _ => 90 - (intOf t8).toNat)
              case atStart => exact ⟨0, aq, cq, uQ, by omega, rfl, rfl, Gr.start H3.out.2.2.2.2.1 (by rw [H3.out.2.2.2.2.1.len]; exact H3.out.2.2.2.2.2.2.2.1) H3.out.2.2.2.2.2.2.2.2.2.1, H3.out.2.2.2.2.1.len⟩
              case round =>
                obtain ⟨t, a8, c8, ys, ht, rfl, rfl, HI⟩ := hrel
                by_cases htl : t < 90
                · have htl1 : (t : Int) < 90 := by omega
                  obtain ⟨a9, c9, w9, e9, g9⟩ := HI.out.1.step (by have := HI.out.2; omega)
                  rw [HI.out.2, show j + t + 1 = j + (t + 1) from Nat.add_assoc _ _ _] at e9 g9
                  rw [show (wr.alloc (.cells #[.int .u8 1, .int .u8 0, .int .u8 7] 5)).heap.size = wr.heap.size + 1 by simp] at e9
                  have HN : Hid (Gr w U2 w9 B (.slice aq j cq) (.slice a9 (j + (t + 1)) c9) uQ (ys ++ [.slice (some ⟨wr.heap.size, 0, none⟩) 3 3]) 1 ∧ (ys ++ [Value.slice (some ⟨wr.heap.size, 0, none⟩) 3 3]).length = j + (t + 1)) := ⟨g9, by have := HI.out.2; simp; omega⟩
                  clear g9
                  go_wp2_with (at_builtin; refine wpList_append_run rfl (.tmp 67) (.tmp 74) 23 _ rfl e9 ?_)
                  go_roundw
                  case rel => exact ⟨t + 1, a9, c9, _, htl, by go_num, rfl, HN.out⟩
                  case measure => simp [intOf]; omega
                · have htl1 : ¬ (t : Int) < 90 := by omega
                  obtain rfl : t = 90 := by omega
                  obtain ⟨U3, hU3⟩ : ∃ U, U = wr := ⟨_, rfl⟩
                  subst hU3
                  obtain ⟨yQ, hyq⟩ : ∃ y, y = ys := ⟨_, rfl⟩
                  rw [← hyq] at HI
                  clear hyq ys
                  obtain ⟨hA, hR, hP, hY, hQ, mP, mY, mQ, o0, hB3, nY, lY, fA⟩ := H3.out
                  have tA : ∀ {v : Value} {xs : List Value}, VRow U2 B 23 v xs → VRow U3 B 23 v xs := fun hv => HI.out.1.beside hv (lists_ne hv hQ (by decide))
                  have hA3 := tA hA
                  have hR3 := tA hR
                  have hP3 : VRow U3 B 22 (.slice ap i cp) uP := HI.out.1.beside hP (fun z e e' => HV.out.ne z e e')
                  have hY3 : VRow U3 B 22 (.slice a7 (i + 90) c7) yP := HI.out.1.beside hY nY
                  have mP3 := HI.out.1.marks hQ mP
                  have mY3 := HI.out.1.marks hQ mY
                  have mQ3 := HI.out.1.marks hQ mQ
                  have mZ3 : Mks U3 B 1 yQ (j + 90) := by have := HI.out.1.my; rw [HI.out.2] at this; exact this
                  have o3 : Off (fun z => (Value.slice ap i cp).ownBlock = some z ∨ (Value.slice aq j cq).ownBlock = some z) w U3 := o0.trans (HI.out.1.of.mono (fun z e => Or.inr e))
                  have y1' := hxx U3 o3
                  have y2' : U3.cell? ⟨h, 1, none⟩ = some (.slice aq j cq) := hR3.slot rfl
                  obtain ⟨aB, cB, Z, e4, r4, o4, _⟩ := run_two hA3 HI.out.1.hB (by simp) (.slice aq j cq) (.slice a8 (j + 90) c8) rfl rfl
                  obtain ⟨gA, haB⟩ : ∃ gA, aB = some ⟨gA, 0, none⟩ := by
                    obtain ⟨a', c', e', hg'⟩ := r4.isSlice
                    obtain ⟨g, hg⟩ := hg' (by simp)
                    simp only [Value.slice.injEq] at e'
                    exact ⟨g, e'.1.trans hg⟩
                  subst haB
                  have HZ : Hid (VRow Z B 23 (.slice (some ⟨gA, 0, none⟩) 4 cB) [.slice ap i cp, .slice a7 (i + 90) c7, .slice aq j cq, .slice a8 (j + 90) c8] ∧ VRow Z B 22 (.slice ap i cp) uP ∧ VRow Z B 22 (.slice a7 (i + 90) c7) yP ∧ VRow Z B 22 (.slice aq j cq) uQ ∧ VRow Z B 22 (.slice a8 (j + 90) c8) yQ ∧ Mks Z B 0 uP i ∧ Mks Z B 0 yP (i + 90) ∧ Mks Z B 1 uQ j ∧ Mks Z B 1 yQ (j + 90) ∧ Off (fun z => (Value.slice ap i cp).ownBlock = some z ∨ (Value.slice aq j cq).ownBlock = some z) w Z) := by
                    have tB : ∀ {v : Value} {xs : List Value}, VRow U3 B 22 v xs → VRow Z B 22 v xs := fun hv => hv.off o4 (fun z e e' => lists_ne hA3 hv (by decide) z e' e)
                    have tM : ∀ {mk : Int} {xs : List Value} {k : Nat}, Mks U3 B mk xs k → Mks Z B mk xs k := fun hm => hm.off o4 (fun z e => Or.inr ⟨_, _, _, hA3, by decide, e⟩)
                    refine ⟨r4, tB hP3, tB hY3, tB HI.out.1.gw.val, tB HI.out.1.gw.row, tM mP3, tM mY3, tM mQ3, tM mZ3, o3.join o4 (fun z hz e => by have := fA z e; omega)⟩
                  clear hA hR hP hY hQ mP mY mQ o0 hB3 nY lY fA tA hA3 hR3 hP3 hY3 mP3 mY3 mQ3 mZ3 o3 r4 o4 y1 y2
                  go_wp2_with (at_builtin; refine wpList_append_run rfl (.tmp 76) (.tmp 85) 55 _ rfl e4 ?_)
                  have y1 := hxx Z HZ.out.2.2.2.2.2.2.2.2.2
                  rw [rounds_succ]
                  go_wp2_with fail
                  refine wp_loop_rounds 5 ?_
                  rw [rounds_succ]
                  have zA0 : Z.cell? ⟨gA, 0, none⟩ = some (.slice ap i cp) := HZ.out.1.slot rfl
                  go_wp2_with fail
                  go_loopw [10] (fun t10 wx => ∃ k : Nat, k ≤ i ∧ t10 = .int .i64 k ∧ Hid (Below Z.heap.size Z wx)) (fun t10 _ => i - (intOf t10).toNat)
                  case atStart => exact ⟨0, Nat.zero_le _, rfl, Below.refl _ _⟩
                  case round =>
                    obtain ⟨k, hk, rfl, HK0⟩ := hrel
                    have q1 : wr.cell? ⟨gA, 0, none⟩ = some (.slice ap i cp) := by rw [HK0.out.cell (p := ⟨gA, 0, none⟩) (cell_lt zA0)]; exact zA0
                    by_cases hlt : k < i
                    · have hlt1 : (k : Int) < i := by omega
                      obtain ⟨u, hu⟩ : ∃ u, uP[k]? = some u := ⟨_, List.getElem?_eq_getElem (by have := HZ.out.2.1.len; omega)⟩
                      have hru := HZ.out.2.2.2.2.2.1 k u (by omega) hu
                      obtain ⟨gv, hgv, q2⟩ := HZ.out.2.1.at_ hu
                      obtain ⟨gu, cu, rfl⟩ : ∃ gu cu, u = .slice (some ⟨gu, 0, none⟩) 3 cu := by
                        rcases hru.form with ⟨_, e⟩ | ⟨g, cap, e, _⟩
                        · cases e
                        · exact ⟨g, cap, e⟩
                      have q3 : wr.cell? ⟨gv, k, none⟩ = some (.slice (some ⟨gu, 0, none⟩) 3 cu) := by rw [HK0.out.cell (p := ⟨gv, k, none⟩) (cell_lt q2)]; exact q2
                      have HSm : Hid (Calls Tryz.prog 30 #[.slice (some ⟨gu, 0, none⟩) 3 cu, .slice (some ⟨wr.heap.size, 0, none⟩) 3 3] (wr.alloc (.cells #[.int .u8 0, .int .u8 0, .int .u8 7] 5)) fun e w' => e = .returned (.bool true) ∧ ∃ y, w' = (wr.alloc (.cells #[.int .u8 0, .int .u8 0, .int .u8 7] 5)).drewN y) := by
                        have ba : Below wr.heap.size wr (wr.alloc (.cells #[.int .u8 0, .int .u8 0, .int .u8 7] 5)) := (Below.refl _ _).alloc (Nat.le_refl _) _
                        exact same_true ((hru.under HK0.out).under ba).asByts (row_three wr 0 (Nat.zero_le _) 0 0 7).asByts (by omega)
                      clear hru hu q2
                      subst hgv
                      go_wp2_with fail
                      refine HSm.out.mono ?_
                      rintro _ w9 ⟨rfl, y, hw⟩
                      have HN : Hid (Below Z.heap.size Z w9) := by
                        rw [hw]
                        exact below_then HK0.out ((Off.drewN (P := fun _ => False) ((Off.refl _ wr).alloc _) y).below (Nat.le_refl _) (fun z e => e.elim))
                      clear hw HSm
                      go_wp2_with fail
                      go_roundw
                      case rel => exact ⟨k + 1, hlt, by go_num, HN⟩
                      case measure => simp [intOf]; omega
                    · have hlt1 : ¬ (k : Int) < i := by omega
                      go_wp2_with fail
                      clear q1
                      rw [rounds_succ]
                      have zb : wr.cell? ⟨gA, 1, none⟩ = some (.slice a7 (i + 90) c7) := by rw [HK0.out.cell (p := ⟨gA, 1, none⟩) (cell_lt (HZ.out.1.slot (j := 1) rfl))]; exact HZ.out.1.slot rfl
                      have zA1 : Z.cell? ⟨gA, 1, none⟩ = some (.slice a7 (i + 90) c7) := HZ.out.1.slot rfl
                      go_wp2_with fail
                      go_loopw [10] (fun t10 wx => ∃ k : Nat, k ≤ (i + 90) ∧ t10 = .int .i64 k ∧ Hid (Below Z.heap.size Z wx)) (fun t10 _ => (i + 90) - (intOf t10).toNat)
                      case atStart => exact ⟨0, Nat.zero_le _, rfl, HK0.out⟩
                      case round =>
                        obtain ⟨k, hk, rfl, HK1⟩ := hrel
                        have q1 : wr.cell? ⟨gA, 1, none⟩ = some (.slice a7 (i + 90) c7) := by rw [HK1.out.cell (p := ⟨gA, 1, none⟩) (cell_lt zA1)]; exact zA1
                        by_cases hlt : k < (i + 90)
                        · have hlt1 : (k : Int) < (i : Int) + 90 := by omega
                          obtain ⟨u, hu⟩ : ∃ u, yP[k]? = some u := ⟨_, List.getElem?_eq_getElem (by have := HZ.out.2.2.1.len; omega)⟩
                          have hru := HZ.out.2.2.2.2.2.2.1 k u (by omega) hu
                          obtain ⟨gv, hgv, q2⟩ := HZ.out.2.2.1.at_ hu
                          obtain ⟨gu, cu, rfl⟩ : ∃ gu cu, u = .slice (some ⟨gu, 0, none⟩) 3 cu := by
                            rcases hru.form with ⟨_, e⟩ | ⟨g, cap, e, _⟩
                            · cases e
                            · exact ⟨g, cap, e⟩
                          have q3 : wr.cell? ⟨gv, k, none⟩ = some (.slice (some ⟨gu, 0, none⟩) 3 cu) := by rw [HK1.out.cell (p := ⟨gv, k, none⟩) (cell_lt q2)]; exact q2
                          have HSm : Hid (Calls Tryz.prog 30 #[.slice (some ⟨gu, 0, none⟩) 3 cu, .slice (some ⟨wr.heap.size, 0, none⟩) 3 3] (wr.alloc (.cells #[.int .u8 0, .int .u8 0, .int .u8 7] 5)) fun e w' => e = .returned (.bool true) ∧ ∃ y, w' = (wr.alloc (.cells #[.int .u8 0, .int .u8 0, .int .u8 7] 5)).drewN y) := by
                            have ba : Below wr.heap.size wr (wr.alloc (.cells #[.int .u8 0, .int .u8 0, .int .u8 7] 5)) := (Below.refl _ _).alloc (Nat.le_refl _) _
                            exact same_true ((hru.under HK1.out).under ba).asByts (row_three wr 0 (Nat.zero_le _) 0 0 7).asByts (by omega)
                          clear hru hu q2
                          subst hgv
                          go_wp2_with fail
                          refine HSm.out.mono ?_
                          rintro _ w9 ⟨rfl, y, hw⟩
                          have HN : Hid (Below Z.heap.size Z w9) := by
                            rw [hw]
                            exact below_then HK1.out ((Off.drewN (P := fun _ => False) ((Off.refl _ wr).alloc _) y).below (Nat.le_refl _) (fun z e => e.elim))
                          clear hw HSm
                          go_wp2_with fail
                          go_roundw
                          case rel => exact ⟨k + 1, hlt, by go_num, HN⟩
                          case measure => simp [intOf]; omega
                        · have hlt1 : ¬ (k : Int) < (i : Int) + 90 := by omega
                          go_wp2_with fail
                          clear q1
                          rw [rounds_succ]
                          have zb : wr.cell? ⟨gA, 2, none⟩ = some (.slice aq j cq) := by rw [HK1.out.cell (p := ⟨gA, 2, none⟩) (cell_lt (HZ.out.1.slot (j := 2) rfl))]; exact HZ.out.1.slot rfl
                          have zA2 : Z.cell? ⟨gA, 2, none⟩ = some (.slice aq j cq) := HZ.out.1.slot rfl
                          go_wp2_with fail
                          go_loopw [10] (fun t10 wx => ∃ k : Nat, k ≤ j ∧ t10 = .int .i64 k ∧ Hid (Below Z.heap.size Z wx)) (fun t10 _ => j - (intOf t10).toNat)
                          case atStart => exact ⟨0, Nat.zero_le _, rfl, HK1.out⟩
                          case round =>
                            obtain ⟨k, hk, rfl, HK2⟩ := hrel
                            have q1 : wr.cell? ⟨gA, 2, none⟩ = some (.slice aq j cq) := by rw [HK2.out.cell (p := ⟨gA, 2, none⟩) (cell_lt zA2)]; exact zA2
                            by_cases hlt : k < j
                            · have hlt1 : (k : Int) < j := by omega
                              obtain ⟨u, hu⟩ : ∃ u, uQ[k]? = some u := ⟨_, List.getElem?_eq_getElem (by have := HZ.out.2.2.2.1.len; omega)⟩
                              have hru := HZ.out.2.2.2.2.2.2.2.1 k u (by omega) hu
                              obtain ⟨gv, hgv, q2⟩ := HZ.out.2.2.2.1.at_ hu
                              obtain ⟨gu, cu, rfl⟩ : ∃ gu cu, u = .slice (some ⟨gu, 0, none⟩) 3 cu := by
                                rcases hru.form with ⟨_, e⟩ | ⟨g, cap, e, _⟩
                                · cases e
                                · exact ⟨g, cap, e⟩
                              have q3 : wr.cell? ⟨gv, k, none⟩ = some (.slice (some ⟨gu, 0, none⟩) 3 cu) := by rw [HK2.out.cell (p := ⟨gv, k, none⟩) (cell_lt q2)]; exact q2
                              have HSm : Hid (Calls Tryz.prog 30 #[.slice (some ⟨gu, 0, none⟩) 3 cu, .slice (some ⟨wr.heap.size, 0, none⟩) 3 3] (wr.alloc (.cells #[.int .u8 1, .int .u8 0, .int .u8 7] 5)) fun e w' => e = .returned (.bool true) ∧ ∃ y, w' = (wr.alloc (.cells #[.int .u8 1, .int .u8 0, .int .u8 7] 5)).drewN y) := by
                                have ba : Below wr.heap.size wr (wr.alloc (.cells #[.int .u8 1, .int .u8 0, .int .u8 7] 5)) := (Below.refl _ _).alloc (Nat.le_refl _) _
                                exact same_true ((hru.under HK2.out).under ba).asByts (row_three wr 0 (Nat.zero_le _) 1 0 7).asByts (by omega)
                              clear hru hu q2
                              subst hgv
                              go_wp2_with fail
                              refine HSm.out.mono ?_
                              rintro _ w9 ⟨rfl, y, hw⟩
                              have HN : Hid (Below Z.heap.size Z w9) := by
                                rw [hw]
                                exact below_then HK2.out ((Off.drewN (P := fun _ => False) ((Off.refl _ wr).alloc _) y).below (Nat.le_refl _) (fun z e => e.elim))
                              clear hw HSm
                              go_wp2_with fail
                              go_roundw
                              case rel => exact ⟨k + 1, hlt, by go_num, HN⟩
                              case measure => simp [intOf]; omega
                            · have hlt1 : ¬ (k : Int) < j := by omega
                              go_wp2_with fail
                              clear q1
                              rw [rounds_succ]
                              have zb : wr.cell? ⟨gA, 3, none⟩ = some (.slice a8 (j + 90) c8) := by rw [HK2.out.cell (p := ⟨gA, 3, none⟩) (cell_lt (HZ.out.1.slot (j := 3) rfl))]; exact HZ.out.1.slot rfl
                              have zA3 : Z.cell? ⟨gA, 3, none⟩ = some (.slice a8 (j + 90) c8) := HZ.out.1.slot rfl
                              go_wp2_with fail
                              go_loopw [10] (fun t10 wx => ∃ k : Nat, k ≤ (j + 90) ∧ t10 = .int .i64 k ∧ Hid (Below Z.heap.size Z wx)) (fun t10 _ => (j + 90) - (intOf t10).toNat)
                              case atStart => exact ⟨0, Nat.zero_le _, rfl, HK2.out⟩
                              case round =>
                                obtain ⟨k, hk, rfl, HK3⟩ := hrel
                                have q1 : wr.cell? ⟨gA, 3, none⟩ = some (.slice a8 (j + 90) c8) := by rw [HK3.out.cell (p := ⟨gA, 3, none⟩) (cell_lt zA3)]; exact zA3
                                by_cases hlt : k < (j + 90)
                                · have hlt1 : (k : Int) < (j : Int) + 90 := by omega
                                  obtain ⟨u, hu⟩ : ∃ u, yQ[k]? = some u := ⟨_, List.getElem?_eq_getElem (by have := HZ.out.2.2.2.2.1.len; omega)⟩
                                  have hru := HZ.out.2.2.2.2.2.2.2.2.1 k u (by omega) hu
                                  obtain ⟨gv, hgv, q2⟩ := HZ.out.2.2.2.2.1.at_ hu
                                  obtain ⟨gu, cu, rfl⟩ : ∃ gu cu, u = .slice (some ⟨gu, 0, none⟩) 3 cu := by
                                    rcases hru.form with ⟨_, e⟩ | ⟨g, cap, e, _⟩
                                    · cases e
                                    · exact ⟨g, cap, e⟩
                                  have q3 : wr.cell? ⟨gv, k, none⟩ = some (.slice (some ⟨gu, 0, none⟩) 3 cu) := by rw [HK3.out.cell (p := ⟨gv, k, none⟩) (cell_lt q2)]; exact q2
                                  have HSm : Hid (Calls Tryz.prog 30 #[.slice (some ⟨gu, 0, none⟩) 3 cu, .slice (some ⟨wr.heap.size, 0, none⟩) 3 3] (wr.alloc (.cells #[.int .u8 1, .int .u8 0, .int .u8 7] 5)) fun e w' => e = .returned (.bool true) ∧ ∃ y, w' = (wr.alloc (.cells #[.int .u8 1, .int .u8 0, .int .u8 7] 5)).drewN y) := by
                                    have ba : Below wr.heap.size wr (wr.alloc (.cells #[.int .u8 1, .int .u8 0, .int .u8 7] 5)) := (Below.refl _ _).alloc (Nat.le_refl _) _
                                    exact same_true ((hru.under HK3.out).under ba).asByts (row_three wr 0 (Nat.zero_le _) 1 0 7).asByts (by omega)
                                  clear hru hu q2
                                  subst hgv
                                  go_wp2_with fail
                                  refine HSm.out.mono ?_
                                  rintro _ w9 ⟨rfl, y, hw⟩
                                  have HN : Hid (Below Z.heap.size Z w9) := by
                                    rw [hw]
                                    exact below_then HK3.out ((Off.drewN (P := fun _ => False) ((Off.refl _ wr).alloc _) y).below (Nat.le_refl _) (fun z e => e.elim))
                                  clear hw HSm
                                  go_wp2_with fail
                                  go_roundw
                                  case rel => exact ⟨k + 1, hlt, by go_num, HN⟩
                                  case measure => simp [intOf]; omega
                                · have hlt1 : ¬ (k : Int) < (j : Int) + 90 := by omega
                                  go_wp2_with fail
                                  clear q1
                                  rw [rounds_succ]
                                  go_wp2_with fail
                                  go_ret
                                  exact ⟨rfl, HZ.out.2.2.2.2.2.2.2.2.2.trans (Off.of_below HK3.out)⟩
end Go.Proofs.YthnpckmgnompiaaGreatDoor
