/-
  The program's Parts, Known, Table.
-/
import Derived.Test.YtjdpjielpbiedaaGreatDoorKParts
namespace Go.Proofs.YtjdpjielpbiedaaGreatDoor.Td
open Go.RowKit

theorem partsOf_any (k : ByteArray) (w : World) (hV : KV w) : Calls Tryz.prog 17 #[.string k] w (PoQ (ptsOf (bl k)) w) := by
  unfold ptsOf
  cases hp : prB (bl k) with
  | true => exact partsOf_prim k w hV hp
  | false => exact partsOf_rest k w hV hp
/-- No kind has more than ten parts. -/
theorem pts_len (k : List UInt8) : (ptsOf k).length ≤ 10 := by
  unfold ptsOf
  cases hp : prB k with
  | true => simp
  | false =>
    simp only [Bool.false_eq_true, if_false]
    cases hc : cmpX k with
    | none => rw [acc_none hc]; simp
    | some x => obtain ⟨h1, _, _, h4, _⟩ := acc_some hc; rw [h1, List.length_map]; exact h4
set_option maxHeartbeats 1000000 in
theorem Known_any (k : ByteArray) (w : World) (hV : KV w) : Calls Tryz.prog 10 #[.string k] w fun e w' => e = .returned (.bool (decide (0 < (ptsOf (bl k)).length))) ∧ Below w.heap.size w w' := by
  have H1 := partsOf_any k w hV
  have hl := pts_len (bl k)
  clear hV
  obtain ⟨ps, hps⟩ : ∃ ps, ptsOf (bl k) = ps := ⟨_, rfl⟩
  rw [hps] at H1 hl ⊢
  clear hps
  go_enter Tryz.func10, Tryz.ntmps10
  go_wp2_with fail
  refine H1.mono ?_
  rintro _ w1 ⟨v, rfl, hr, hb⟩
  obtain ⟨a, c, rfl, _⟩ := hr.isSlice
  have HB : Hid (Below w.heap.size w w1) := hb
  clear hr hb H1
  obtain ⟨n, hn⟩ : ∃ n, ps.length = n := ⟨_, rfl⟩
  have HN : Hid (ps.length = n) := hn
  rw [hn] at hl ⊢
  clear hn
  by_cases h0 : 0 < n
  · have h1 : (0 : Int) < n := by omega
    go_wp2_with fail
    go_ret
    exact ⟨ret_bool (by rw [HN.out]; simp [h0]), HB.out⟩
  · have h1 : ¬ (0 : Int) < n := by omega
    go_wp2_with fail
    go_ret
    exact ⟨ret_bool (by rw [HN.out]; simp [h0]), HB.out⟩
/-- What Parts answers. -/
def PtQ (ps : List (List UInt8 × Bool)) (w : World) (e : Ending) (w' : World) : Prop :=
  (ps = [] ∧ ∃ ev, e = .returned (.tuple #[.slice none 0 0, .slice none 0 0, ev]) ∧ TEv w' ev 0 160 ∧ Below w.heap.size w w') ∨
  (ps ≠ [] ∧ ∃ va vb, e = .returned (.tuple #[va, vb, .nilIface]) ∧ VRow w' w.heap.size 9 va (strs (ps.map Prod.fst)) ∧ VRow w' w.heap.size 4 vb (bools (ps.map Prod.snd)) ∧ Below w.heap.size w w')
theorem off_base {P : Nat → Prop} {w a b : World} (h : Below w.heap.size w a) (o : Off P a b) (hP : ∀ k, P k → w.heap.size ≤ k) : Below w.heap.size w b :=
  h.trans (o.below h.size hP)
set_option maxRecDepth 100000 in
set_option maxHeartbeats 4000000 in
theorem Parts_any (k : ByteArray) (w : World) (hV : KV w) : Calls Tryz.prog 4 #[.string k] w (PtQ (ptsOf (bl k)) w) := by
  have H1 := partsOf_any k w hV
  have hl := pts_len (bl k)
  clear hV
  obtain ⟨ps, hps⟩ : ∃ ps, ptsOf (bl k) = ps := ⟨_, rfl⟩
  rw [hps] at H1 hl ⊢
  clear hps
  go_enter Tryz.func4, Tryz.ntmps4
  go_wp2_with fail
  refine H1.mono ?_
  rintro _ w1 ⟨v, rfl, hr, hb⟩
  obtain ⟨a, c, rfl, ha⟩ := hr.isSlice
  have HB : Hid (PRow w1 w.heap.size (.slice a ps.length c) ps ∧ Below w.heap.size w w1 ∧ (0 < ps.length → ∃ g, a = some ⟨g, 0, none⟩)) := ⟨hr, hb, ha⟩
  clear hr hb H1 ha
  obtain ⟨n, hn⟩ : ∃ n, ps.length = n := ⟨_, rfl⟩
  have HN : Hid (ps.length = n) := hn
  rw [hn] at hl HB ⊢
  clear hn
  by_cases h0 : n = 0
  · subst h0
    have hp0 : ps = [] := List.eq_nil_of_length_eq_zero HN.out
    go_wp2_with fail
    refine (tfault_any 0 160 (by decide) _).mono ?_
    rintro _ w2 ⟨ev, rfl, hev, hb⟩
    have H2 : Hid (TEv w2 ev 0 160 ∧ Below w.heap.size w w2) := ⟨hev, below_then HB.out.2.1 hb⟩
    clear hev hb
    go_wp2_with fail
    refine bodyPost_ret ?_ rfl (Or.inl ⟨hp0, ev, rfl, H2.out.1, H2.out.2⟩)
    simp [results, Tryz.results4, go_sem]
  · have h1 : ((n : Int) == 0) = false := by simp; omega
    obtain ⟨g, rfl⟩ := HB.out.2.2 (by omega)
    go_wp2_with fail
    go_loopw [6, 7, 18] (fun t6 t7 t18 wx => ∃ (j : Nat) (a6 a7 : Option Addr) (c6 c7 : Nat), j ≤ n ∧ t18 = .int .i64 j ∧ t6 = .slice a6 j c6 ∧ t7 = .slice a7 j c7 ∧ Hid (PRow wx w.heap.size (.slice (some ⟨g, 0, none⟩) n c) ps ∧ VRow wx w.heap.size 9 (.slice a6 j c6) (strs ((ps.take j).map Prod.fst)) ∧ VRow wx w.heap.size 4 (.slice a7 j c7) (bools ((ps.take j).map Prod.snd)) ∧ Below w.heap.size w wx)) (fun _ _ t18 _ => n - (intOf t18).toNat)
    case atStart => exact ⟨0, none, none, 0, 0, Nat.zero_le _, rfl, rfl, rfl, HB.out.1, VRow.nil _ _ _, VRow.nil _ _ _, HB.out.2.1⟩
    case round =>
      obtain ⟨j, a6, a7, c6, c7, hj, rfl, rfl, rfl, HJ⟩ := hrel
      by_cases hlt : j < n
      · have hlt1 : (j : Int) < n := by omega
        obtain ⟨p, hp⟩ : ∃ p, ps[j]? = some p := ⟨_, List.getElem?_eq_getElem (by have := HN.out; omega)⟩
        obtain ⟨k0, k1⟩ := HJ.out.1.slot hp
        obtain ⟨x, q⟩ := p
        obtain ⟨X, hX⟩ : ∃ X, mkS x = X := ⟨_, rfl⟩
        have k0' : wr.cell? ⟨g, j * 2, none⟩ = some (.string X) := by rw [← hX]; exact k0
        have k1' : wr.cell? ⟨g, j * 2 + 1, none⟩ = some (.bool q) := k1
        clear k0 k1
        have hg : g < wr.heap.size := cell_lt k0'
        have bA : Below wr.heap.size wr (wr.alloc (.cells #[.string X, .bool q] 53)) := (Below.refl _ _).alloc (Nat.le_refl _) _
        have xA : Box (wr.alloc (.cells #[.string X, .bool q] 53)) wr.heap.size #[.string X, .bool q] := Box.new _ _ _
        go_upto_region 9 with fail
        obtain ⟨V, hV⟩ : ∃ V, wr.alloc (.cells #[.string X, .bool q] 53) = V := ⟨_, rfl⟩
        rw [hV] at bA xA ⊢
        clear hV
        obtain ⟨D, hD⟩ : ∃ D, wr.heap.size = D := ⟨_, rfl⟩
        have r1 : VRow V w.heap.size 9 (.slice a6 j c6) (strs ((ps.take j).map Prod.fst)) := HJ.out.2.1.below bA
        have hsz : w.heap.size ≤ V.heap.size := Nat.le_trans HJ.out.2.2.2.size bA.size
        have hl1 : (strs ((ps.take j).map Prod.fst)).length = j := by rw [strs_length, List.length_map, List.length_take]; have := HN.out; omega
        have hl2 : (bools ((ps.take j).map Prod.snd)).length = j := by rw [bools_length, List.length_map, List.length_take]; have := HN.out; omega
        obtain ⟨a2, c2, w2, e2, r2, o2, s2, _⟩ := run_vpush Tryz.underlying28 oneS (by omega) r1 hsz (by rw [hl1]; omega) (.string X) rfl
        rw [hl1] at e2 r2 s2
        have p2 : PRow V w.heap.size (.slice (some ⟨g, 0, none⟩) n c) ps := HJ.out.1.below bA
        have b2 : Below w.heap.size w w2 := off_base (below_then HJ.out.2.2.2 bA) o2 (fun k e => (r1.lt e).1)
        have q2 : VRow w2 w.heap.size 4 (.slice a7 j c7) (bools ((ps.take j).map Prod.snd)) := (HJ.out.2.2.1.below bA).off o2 (fun z e e' => rows_ne r1 (HJ.out.2.2.1.below bA) (by decide) z e' e)
        obtain ⟨a3, c3, w3, e3, r3, o3, s3, _⟩ := run_vpush Tryz.underlying29 oneB (by omega) q2 b2.size (by rw [hl2]; omega) (.bool q) rfl
        rw [hl2] at e3 r3 s3
        have HK : Hid (PRow w3 w.heap.size (.slice (some ⟨g, 0, none⟩) n c) ps ∧ VRow w3 w.heap.size 9 (.slice a2 (j + 1) c2) (strs ((ps.take (j + 1)).map Prod.fst)) ∧ VRow w3 w.heap.size 4 (.slice a3 (j + 1) c3) (bools ((ps.take (j + 1)).map Prod.snd)) ∧ Below w.heap.size w w3) := by
          have e4 : ps.take (j + 1) = ps.take j ++ [(x, q)] := by rw [List.take_add_one, hp]; rfl
          have e5 : strs ((ps.take (j + 1)).map Prod.fst) = strs ((ps.take j).map Prod.fst) ++ [.string X] := by rw [e4, List.map_append, strs_append, ← hX]; rfl
          have e6 : bools ((ps.take (j + 1)).map Prod.snd) = bools ((ps.take j).map Prod.snd) ++ [.bool q] := by rw [e4, List.map_append, bools_append]; rfl
          refine ⟨?_, ?_, by rw [e6]; exact r3, off_base b2 o3 (fun k e => (q2.lt e).1)⟩
          · have p3 : PRow w2 w.heap.size (.slice (some ⟨g, 0, none⟩) n c) ps := p2.off o2 (fun z e e' => rows_ne r1 p2 (by decide) z e' e)
            exact p3.off o3 (fun z e e' => rows_ne q2 p3 (by decide) z e' e)
          · rw [e5]
            exact r2.off o3 (fun z e e' => rows_ne q2 r2 (by decide) z e' e)
        have f1 : V.cell? ⟨D, 0, none⟩ = some (.string X) := by rw [← hD]; exact xA.cell 0
        have f2 : w2.cell? ⟨D, 1, none⟩ = some (.bool q) := by
          rw [← hD, o2.cell (p := ⟨wr.heap.size, 1, none⟩) xA.lt (fun e => by have h9 : wr.heap.size < wr.heap.size := (HJ.out.2.1.lt e).2; omega)]
          exact xA.cell 1
        rw [hD]
        clear r1 r2 o2 s2 p2 b2 q2 r3 o3 s3 hp hX bA hl1 hl2 xA hD hg k0' k1'
        go_wp2_with (at_builtin; first | (refine wpList_append_run rfl (.tmp 22) (.tmp 25) 28 _ rfl e2 ?_; clear e2) | refine wpList_append_run rfl (.tmp 27) (.tmp 30) 29 _ rfl e3 ?_)
        go_roundw
        case rel => exact ⟨j + 1, a2, a3, c2, c3, hlt, by go_num, rfl, rfl, HK⟩
        case measure => simp [intOf]; omega
      · have hlt1 : ¬ (j : Int) < n := by omega
        obtain rfl : j = n := by omega
        go_wp2_with fail
        obtain ⟨_, r1, r2, hb⟩ := HJ.out
        rw [List.take_of_length_le (by have := HN.out; omega)] at r1 r2
        refine bodyPost_ret ?_ rfl (Or.inr ⟨fun e => h0 (by rw [← HN.out, e]; rfl), _, _, rfl, r1, r2, hb⟩)
        simp [results, Tryz.results4, go_sem]
end Go.Proofs.YtjdpjielpbiedaaGreatDoor.Td
