/-
  pieces: the walk.
-/
import Derived.Test.YtkpebmhokdckfaaDoorEsPcs
namespace Go.Proofs.YtkpebmhokdckfaaDoor
open Go.RowKit

theorem itSet_below2 (w : World) (k : Nat) (s : ByteArray) (p : Nat) : Below k w (itSet w k s p) := itSet_below (Below.refl _ _) (Nat.le_refl _) s p
/-- What a round of pieces stands on. -/
structure PcI (w : World) (m : Mk) (s : ByteArray) (v : Value) (Ps : List Pc) (a p k : Nat) (wx : World) : Prop where
  row : PcRow wx (w.heap.size + 1) v Ps
  it : wx.heap[w.heap.size]? = some (.stringIter s p)
  bel : Below w.heap.size w wx
  pin : Pin m s.data.toList Ps a p k
set_option maxRecDepth 100000 in
set_option maxHeartbeats 4000000 in
theorem pieces_any (m : Mk) (s : ByteArray) (w : World) (hm : Wrong m.l 5 5) (hs : s.size ≤ 8192) : Calls Tryd.prog 11 #[.string m.str, .string s] w (PcsQ m s w) := by
  have HM : Hid (Wrong m.l 5 5) := hm
  clear hm
  have hTl : s.data.toList.length = s.size := by rw [Array.length_toList]; rfl
  have HT : Hid (s.data.toList.length = s.size) := hTl
  clear hTl
  go_enter Tryd.func11, Tryd.ntmps11
  go_wp2_with fail
  go_loopw [5, 6, 7] (fun t5 t6 t7 wx => ∃ (Ps : List Pc) (a p k : Nat), t6 = .int .i64 (a : Int) ∧ t7 = .int .i64 (k : Int) ∧ Hid (PcI w m s t5 Ps a p k wx)) (fun _ _ _ wx => s.size - wx.iterPos w.heap.size)
  case atStart => exact ⟨[], 0, 0, 1, rfl, rfl, PcRow.nil _ _, World.iter_heap w s 0, (Below.refl _ _).alloc (Nat.le_refl _) _, Pin.start _ _⟩
  case round =>
    obtain ⟨Ps, a, p, k, rfl, rfl, HI⟩ := hrel
    have hle : a ≤ p := HI.out.pin.le
    have hle2 : p ≤ s.size := by have := HI.out.pin.top; have := HT.out; omega
    have hlei : (a : Int) ≤ p := by omega
    have hsz : w.heap.size < wr.heap.size := (Array.getElem?_eq_some_iff.1 HI.out.it).1
    by_cases hlt : p < s.size
    · have hpz : (p : Int) ≤ s.size := by omega
      have hnx0 := fun ty => run_next_at (P := Tryd.prog) ty HI.out.it hlt
      have hkd := fun w => kind_at m s p HM.out hlt w
      have HW : Hid (∀ j, p ≤ j → j < p + wd s p → kdB m (s.data.toList.getD j 0) = kdB m (s.data.toList.getD p 0)) := fun j h0 h1 => kind_wide m s p j HM.out hlt h0 h1
      have HD : Hid (kdB m (s.data.toList.getD p 0) ≠ 1 → wd s p = 1) := fun h => wd_one HM.out hlt h
      have HS : Hid (p + wd s p ≤ s.size ∧ 1 ≤ wd s p) := ⟨wd_span hlt, wd_pos hlt⟩
      have HN : Hid (kdB m (s.data.toList.getD p 0) = 1 ∨ kdB m (s.data.toList.getD p 0) = 2 ∨ kdB m (s.data.toList.getD p 0) = 3) := kdB_any _ _
      obtain ⟨R, hR⟩ : ∃ R : Nat, rn s p = R := ⟨_, rfl⟩
      obtain ⟨d, hd⟩ : ∃ d : Nat, wd s p = d := ⟨_, rfl⟩
      have hnx : ∀ ty, (Instr.next (.pointer (some ⟨w.heap.size, 0, none⟩)) true ty).run Tryd.prog wr = .ok (.tuple #[.bool true, .int .i64 p, .int .i32 R]) (itSet wr w.heap.size s (p + d)) := fun ty => by
        rw [hnx0]; unfold rn at hR; unfold wd at hd; rw [hR, hd]
      rw [hR] at hkd
      rw [hd] at HW HD HS
      obtain ⟨n, hn⟩ : ∃ n : Nat, kdB m (s.data.toList.getD p 0) = n := ⟨_, rfl⟩
      rw [hn] at hkd HW HD HN
      have HK : Hid (kdB m (s.data.toList.getD p 0) = n) := hn
      have HI2 : Hid (PcRow (itSet wr w.heap.size s (p + d)) (w.heap.size + 1) u5 Ps ∧ (itSet wr w.heap.size s (p + d)).heap[w.heap.size]? = some (.stringIter s (p + d)) ∧ Below w.heap.size w (itSet wr w.heap.size s (p + d)) ∧ w.heap.size < (itSet wr w.heap.size s (p + d)).heap.size) :=
        ⟨HI.out.row.keep (fun q h0 _ => itSet_block wr w.heap.size s (p + d) (by omega)), itSet_at hsz, itSet_below HI.out.bel (Nat.le_refl _) s _, by rw [itSet_size]; exact hsz⟩
      obtain ⟨W2, hW2⟩ : ∃ W, itSet wr w.heap.size s (p + d) = W := ⟨_, rfl⟩
      rw [hW2] at hnx HI2
      clear hnx0 hR hd hn hW2
      have fin : ∀ w3, Below W2.heap.size W2 w3 → Hid (PcRow w3 (w.heap.size + 1) u5 Ps ∧ w3.heap[w.heap.size]? = some (.stringIter s (p + d)) ∧ Below w.heap.size w w3 ∧ w.heap.size < w3.heap.size) := fun w3 h3 => by
        obtain ⟨h0, h1, h2, h4⟩ := HI2.out
        exact ⟨h0.below h3, by rw [h3.block _ h4]; exact h1, below_then h2 h3, by have := h3.size; omega⟩
      have hT : s.data.toList.length ≤ 8192 := by have := HT.out; omega
      by_cases e1 : n = k
      · subst e1
        have HNK : Hid (True) := trivial
        by_cases e2 : n = 2
        · subst e2
          have CUT : Hid (Cut m s.data.toList (pushP m 2 (s.extract a p) Ps) p) := HI.out.pin.cut hT _ (ext_mid s a p) (fun h => by omega)
          clear hT
          go_wp2_with (go_at_call 19; refine (hkd _).mono ?_; rintro e w3 ⟨rfl, hb3⟩; have H3 := fin w3 hb3; clear hb3 fin hnx hkd HI2)
          go_wp2_with fail
          refine (add_any m u5 Ps 2 (s.extract a p) w3 (w.heap.size + 1) H3.out.1 (by have := H3.out.2.2.2; omega) (by have := HI.out.pin.len; omega) (fun h2 h0 => by exact ext_first m HI.out.pin h0)).mono ?_
          rintro e w4 ⟨v4, rfl, row4, b4⟩
          have H4 : Hid (PcI w m s v4 (pushP m 2 (s.extract a p) Ps) p (p + d) 2 w4) := ⟨row4, by rw [b4.block _ (by omega)]; exact H3.out.2.1, H3.out.2.2.1.trans ⟨b4.os, b4.tape, b4.output, b4.size, fun q hq => b4.block q (by omega)⟩, CUT.out.pin (by have := HS.out; have := HT.out; omega) HW.out HD.out (by first | exact HN.out | omega)⟩
          clear row4 b4 H3
          go_wp2_with fail
          go_roundw
          case rel => exact ⟨_, p, p + d, 2, rfl, rfl, H4.out⟩
          case measure =>
            have h1 : wr.iterPos w.heap.size = p := by simp [World.iterPos, HI.out.it]
            have h2 : w4.iterPos w.heap.size = p + d := by simp [World.iterPos, H4.out.it]
            have := HS.out
            rw [h1, h2]; omega
        · have f2 : ((n : Int) == 2) = false := by simp; omega
          by_cases e3 : n = 3
          · subst e3
            by_cases e4 : p = a + 64
            · have f4 : (((p : Int) - (a : Int)) == 64) = true := by simp; omega
              have CUT : Hid (Cut m s.data.toList (pushP m 3 (s.extract a p) Ps) p) := HI.out.pin.cut hT _ (ext_mid s a p) (fun h => Or.inl e4)
              clear hT e4
              go_wp2_with (go_at_call 19; refine (hkd _).mono ?_; rintro e w3 ⟨rfl, hb3⟩; have H3 := fin w3 hb3; clear hb3 fin hnx hkd HI2)
              go_wp2_with fail
              refine (add_any m u5 Ps 3 (s.extract a p) w3 (w.heap.size + 1) H3.out.1 (by have := H3.out.2.2.2; omega) (by have := HI.out.pin.len; omega) (fun h2 h0 => by omega)).mono ?_
              rintro e w4 ⟨v4, rfl, row4, b4⟩
              have H4 : Hid (PcI w m s v4 (pushP m 3 (s.extract a p) Ps) p (p + d) 3 w4) := ⟨row4, by rw [b4.block _ (by omega)]; exact H3.out.2.1, H3.out.2.2.1.trans ⟨b4.os, b4.tape, b4.output, b4.size, fun q hq => b4.block q (by omega)⟩, CUT.out.pin (by have := HS.out; have := HT.out; omega) HW.out HD.out (by first | exact HN.out | omega)⟩
              clear row4 b4 H3
              go_wp2_with fail
              go_roundw
              case rel => exact ⟨_, p, p + d, 3, rfl, rfl, H4.out⟩
              case measure =>
                have h1 : wr.iterPos w.heap.size = p := by simp [World.iterPos, HI.out.it]
                have h2 : w4.iterPos w.heap.size = p + d := by simp [World.iterPos, H4.out.it]
                have := HS.out
                rw [h1, h2]; omega
            · have f4 : (((p : Int) - (a : Int)) == 64) = false := by simp; omega
              have GO : Hid (Pin m s.data.toList Ps a (p + d) 3) := HI.out.pin.go (by have := HS.out; have := HT.out; omega) HW.out HD.out (by omega) (fun _ => e4)
              clear hT e4
              go_wp2_with (go_at_call 19; refine (hkd _).mono ?_; rintro e w3 ⟨rfl, hb3⟩; have H3 := fin w3 hb3; clear hb3 fin hnx hkd HI2)
              go_wp2_with fail
              go_roundw
              case rel => exact ⟨Ps, a, p + d, 3, rfl, by first | rfl | exact HNK.out, H3.out.1, H3.out.2.1, H3.out.2.2.1, GO.out⟩
              case measure =>
                have h1 : wr.iterPos w.heap.size = p := by simp [World.iterPos, HI.out.it]
                have h2 : w3.iterPos w.heap.size = p + d := by simp [World.iterPos, H3.out.2.1]
                have := HS.out
                rw [h1, h2]; omega
          · have f3 : ((n : Int) == 3) = false := by simp; omega
            have GO : Hid (Pin m s.data.toList Ps a (p + d) n) := HI.out.pin.go (by have := HS.out; have := HT.out; omega) HW.out HD.out e2 (fun e => absurd e e3)
            clear hT
            go_wp2_with (go_at_call 19; refine (hkd _).mono ?_; rintro e w3 ⟨rfl, hb3⟩; have H3 := fin w3 hb3; clear hb3 fin hnx hkd HI2)
            go_wp2_with fail
            go_roundw
            case rel => exact ⟨Ps, a, p + d, n, rfl, by first | rfl | exact HNK.out, H3.out.1, H3.out.2.1, H3.out.2.2.1, GO.out⟩
            case measure =>
              have h1 : wr.iterPos w.heap.size = p := by simp [World.iterPos, HI.out.it]
              have h2 : w3.iterPos w.heap.size = p + d := by simp [World.iterPos, H3.out.2.1]
              have := HS.out
              rw [h1, h2]; omega
      · have f1 : ((n : Int) != (k : Int)) = true := by simp; omega
        have CUT : Hid (Cut m s.data.toList (pushP m k (s.extract a p) Ps) p) := HI.out.pin.cut hT _ (ext_mid s a p) (fun h => Or.inr (Or.inr (by rw [HK.out]; omega)))
        clear hT
        go_wp2_with (go_at_call 19; refine (hkd _).mono ?_; rintro e w3 ⟨rfl, hb3⟩; have H3 := fin w3 hb3; clear hb3 fin hnx hkd HI2)
        go_wp2_with fail
        refine (add_any m u5 Ps k (s.extract a p) w3 (w.heap.size + 1) H3.out.1 (by have := H3.out.2.2.2; omega) (by have := HI.out.pin.len; omega) (fun h2 h0 => by subst h2; exact ext_first m HI.out.pin h0)).mono ?_
        rintro e w4 ⟨v4, rfl, row4, b4⟩
        have H4 : Hid (PcI w m s v4 (pushP m k (s.extract a p) Ps) p (p + d) n w4) := ⟨row4, by rw [b4.block _ (by omega)]; exact H3.out.2.1, H3.out.2.2.1.trans ⟨b4.os, b4.tape, b4.output, b4.size, fun q hq => b4.block q (by omega)⟩, CUT.out.pin (by have := HS.out; have := HT.out; omega) HW.out HD.out (by first | exact HN.out | omega)⟩
        clear row4 b4 H3
        go_wp2_with fail
        go_roundw
        case rel => exact ⟨_, p, p + d, n, rfl, rfl, H4.out⟩
        case measure =>
          have h1 : wr.iterPos w.heap.size = p := by simp [World.iterPos, HI.out.it]
          have h2 : w4.iterPos w.heap.size = p + d := by simp [World.iterPos, H4.out.it]
          have := HS.out
          rw [h1, h2]; omega
    · have hnx : ∀ ty, (Instr.next (.pointer (some ⟨w.heap.size, 0, none⟩)) true ty).run Tryd.prog wr = .ok (.tuple #[.bool false]) wr := fun ty => run_next_over ty HI.out.it hlt
      obtain rfl : p = s.size := by omega
      have CUT : Hid (Cut m s.data.toList (pushP m k (s.extract a s.size) Ps) s.size) := HI.out.pin.cut (by have := HT.out; omega) _ (ext_mid s a s.size) (fun h => Or.inr (Or.inl HT.out.symm))
      go_wp2_with fail
      refine (add_any m u5 Ps k (s.extract a s.size) wr (w.heap.size + 1) HI.out.row (by omega) (by have := HI.out.pin.len; omega) (fun h2 h0 => by subst h2; exact ext_first m HI.out.pin h0)).mono ?_
      rintro e w4 ⟨v4, rfl, row4, b4⟩
      go_wp2_with fail
      go_ret
      exact PcsQ.mk row4 CUT.out hs (HI.out.bel.trans ⟨b4.os, b4.tape, b4.output, b4.size, fun q hq => b4.block q (by omega)⟩)
end Go.Proofs.YtkpebmhokdckfaaDoor
