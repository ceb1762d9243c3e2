/-
  The document's Read; the law EscReads.
-/
import Derived.Test.YtcllcpjdoaeaiaaDoorRRREsRead
import Derived.Test.YtcllcpjdoaeaiaaDoorRRREsRName
import Derived.Test.YtcllcpjdoaeaiaaDoorRRREsValid
namespace Go.Proofs.YtcllcpjdoaeaiaaDoorRRR
open Go.RowKit

def ROut (s : ByteArray) (e : Ending) : Prop := (∃ a, RErr s a ∧ e = .returned (.tuple #[.agg #[.int .u8 0, .int .u8 0, .int .u8 0, .int .u8 0, .int .u8 0], .int .i64 a, .int .i64 101])) ∨ (∃ m : Mk, ROk s m ∧ e = .returned (.tuple #[.agg #[.int .u8 (m.f.toNat : Int), .int .u8 (m.c.toNat : Int), .int .u8 (m.r.toNat : Int), .int .u8 (m.x.toNat : Int), .int .u8 (m.s.toNat : Int)], .int .i64 0, .int .i64 0]))
theorem RErr.one {s : ByteArray} {a b : Int} (h : RErr s a) (g : RErr s b) : a = b := by
  cases h with
  | name h => cases g with
    | name g => rfl
    | five k g hk h5 => omega
    | ninth g hk h9 hc hf => omega
  | five k h hk h5 => cases g with
    | name g => omega
    | five k' g hk' h5' => rw [hk.one hk']
    | ninth g hk' h9 hc hf => have := hk.one hk'; omega
  | ninth h hk h9 hc hf => cases g with
    | name g => omega
    | five k' g hk' h5' => have := hk.one hk'; omega
    | ninth g hk' h9 hc hf => rfl
theorem RErr.no {s : ByteArray} {a : Int} {m : Mk} (h : RErr s a) (g : ROk s m) : False := by
  cases h with
  | name h => have := g.nm; omega
  | five k h hk h5 => have := hk.one g.five; omega
  | ninth h hk h9 hc hf => rcases g.end_ h9 with q | q
                           · exact hc q
                           · exact hf q
theorem ROk.one {s : ByteArray} {m m' : Mk} (h : ROk s m) (g : ROk s m') : m = m' := by
  have e : m.str = m'.str := h.str.symm.trans g.str
  obtain ⟨a, b, c, d, e'⟩ := m
  obtain ⟨a', b', c', d', e''⟩ := m'
  simp [Mk.str] at e
  obtain ⟨rfl, rfl, rfl, rfl, rfl⟩ := e
  rfl
/-- The world behind: the result's block holds zeros still. -/
structure RW (w wx : World) : Prop where
  b : Below w.heap.size w wx
  c : ∀ o, wx.cell? ⟨w.heap.size, o, none⟩ = (w.alloc (.cells #[.int .u8 0, .int .u8 0, .int .u8 0, .int .u8 0, .int .u8 0] 23)).cell? ⟨w.heap.size, o, none⟩
  f : ∀ o, wx.frozen? ⟨w.heap.size, o, none⟩ = (w.alloc (.cells #[.int .u8 0, .int .u8 0, .int .u8 0, .int .u8 0, .int .u8 0] 23)).frozen? ⟨w.heap.size, o, none⟩
  l : w.heap.size < wx.heap.size
theorem RW.new (w : World) : RW w (w.alloc (.cells #[.int .u8 0, .int .u8 0, .int .u8 0, .int .u8 0, .int .u8 0] 23)) := ⟨(Below.refl _ _).alloc (Nat.le_refl _) _, fun _ => rfl, fun _ => rfl, by simp⟩
theorem RW.step {w wx w' : World} (h : RW w wx) (g : Below wx.heap.size wx w') : RW w w' :=
  ⟨below_then h.b g, fun o => (g.cell (p := ⟨w.heap.size, o, none⟩) h.l).trans (h.c o), fun o => (g.frozen (p := ⟨w.heap.size, o, none⟩) h.l).trans (h.f o), Nat.lt_of_lt_of_le h.l g.size⟩
theorem RW.drewN {w wx : World} (h : RW w wx) (n : Nat) : RW w (wx.drewN n) := h.step (below_drewN (Below.refl _ _) n)
theorem RW.set {w wx : World} (h : RW w wx) {B : Nat} (hB : w.heap.size < B) (o : Nat) (v : Value) : RW w (wx.setCell ⟨B, o, none⟩ v) :=
  ⟨h.b.setCell (by simp; omega) _, fun q => (World.cell?_of_block (Below.heap_setCell wx ⟨B, o, none⟩ v w.heap.size (by simp; omega))).trans (h.c q), fun q => (World.frozen?_of_block (Below.heap_setCell wx ⟨B, o, none⟩ v w.heap.size (by simp; omega))).trans (h.f q), by simpa using h.l⟩
/-- The array, its first i filled. -/
structure Fill (wx : World) (B : Nat) (l : List UInt8) (i : Nat) : Prop where
  got : ∀ j, j < i → wx.cell? ⟨B, j, none⟩ = some (.int .u8 ((l.getD j 0).toNat : Int))
  has : ∀ j, j < 5 → ∃ v, wx.cell? ⟨B, j, none⟩ = some v
  fr : ∀ j, j < 5 → wx.frozen? ⟨B, j, none⟩ = false
theorem Fill.new (w : World) (l : List UInt8) (t : TypeId) : Fill (w.alloc (.cells #[.int .u8 0, .int .u8 0, .int .u8 0, .int .u8 0, .int .u8 0] t)) w.heap.size l 0 := by
  refine ⟨fun _ h => absurd h (by omega), fun j hj => ?_, fun j hj => ?_⟩
  · rw [cell_new]; rcases (by omega : j = 0 ∨ j = 1 ∨ j = 2 ∨ j = 3 ∨ j = 4) with rfl | rfl | rfl | rfl | rfl <;> exact ⟨_, rfl⟩
  · rcases (by omega : j = 0 ∨ j = 1 ∨ j = 2 ∨ j = 3 ∨ j = 4) with rfl | rfl | rfl | rfl | rfl <;> simp
theorem Fill.put {wx : World} {B : Nat} {l : List UInt8} {i : Nat} (h : Fill wx B l i) (hi : i < 5) : Fill (wx.setCell ⟨B, i, none⟩ (.int .u8 ((l.getD i 0).toNat : Int))) B l (i + 1) := by
  obtain ⟨v, hv⟩ := h.has i hi
  refine ⟨fun j hj => ?_, fun j hj => ?_, fun j hj => ?_⟩
  · by_cases e : j = i
    · subst e; exact World.cell?_setCell_same _ _ _ hv
    · have hne : (⟨B, i, none⟩ : Addr) ≠ ⟨B, j, none⟩ := fun g => e (by simpa using (congrArg Addr.off g).symm)
      rw [World.cell?_setCell_other _ _ _ _ hne]; exact h.got j (by omega)
  · by_cases e : j = i
    · subst e; exact ⟨_, World.cell?_setCell_same _ _ _ hv⟩
    · have hne : (⟨B, i, none⟩ : Addr) ≠ ⟨B, j, none⟩ := fun g => e (by simpa using (congrArg Addr.off g).symm)
      rw [World.cell?_setCell_other _ _ _ _ hne]; exact h.has j hj
  · rw [World.frozen?_setCell]; exact h.fr j hj
theorem run_index_at {s : ByteArray} {i : Nat} (h : 3 + i < s.size) (w : World) : (Instr.index 9 (.string s) (.int .i64 ((3 : Int) + i))).run Tryd.prog w = .ok (.int .u8 (s[3 + i].toNat : Int)) w := by
  have h1 : (0 : Int) ≤ 3 + (i : Int) ∧ 3 + (i : Int) < s.size := by omega
  have h2 : ((3 : Int) + (i : Int)).toNat = 3 + i := by omega
  simp [Instr.index, run_underlying Tryd.underlying9, go_sem, h1, h2]
  rw [getElem?_pos s (3 + i) h]; rfl
set_option maxRecDepth 100000 in
set_option maxHeartbeats 8000000 in
theorem rRead_any (s : ByteArray) (w : World) (hs : s.size ≤ maxLen) : Calls Tryd.prog 7 #[.string s] w fun e w' => ROut s e ∧ Below w.heap.size w w' := by
  unfold maxLen at hs
  have HNL : Hid (nmd s.data.toList 3 ≤ s.size ∧ nmd s.data.toList 3 ≤ 3) := nmd_le s.data.toList 3
  go_enter Tryd.func7, Tryd.ntmps7
  go_wp2_with fail
  go_loopw [5] (fun t5 wx => ∃ i : Nat, i ≤ 3 ∧ t5 = .int .i64 i ∧ Hid (RW w wx ∧ i ≤ nmd s.data.toList 3)) (fun t5 _ => 3 - (intOf t5).toNat)
  case atStart => exact ⟨0, Nat.zero_le _, rfl, RW.new w, Nat.zero_le _⟩
  case round =>
    obtain ⟨i, hi, rfl, HI⟩ := hrel
    have hc1 := HI.out.1.c
    have hf1 := HI.out.1.f
    by_cases hlt : i < 3
    · have hlti : (i : Int) < 3 := by omega
      by_cases hz : i < s.size
      · have hzi : (i : Int) < s.size := by omega
        obtain ⟨q, hq⟩ : ∃ q, decide (i + 1 ≤ nmd s.data.toList 3) = q := ⟨_, rfl⟩
        have hn : ∀ w, Calls Tryd.prog 18 #[.string s, .int .i64 ((i : Int) + 1)] w fun e w' => e = .returned (.bool q) ∧ Below w.heap.size w w' := fun w => by
          have := name_any s (i + 1) w (by omega) (by omega) (by omega)
          rw [hq] at this; exact this
        have HQ : Hid (decide (i + 1 ≤ nmd s.data.toList 3) = q) := hq
        clear hq
        go_wp2_with fail
        refine (hn _).mono ?_
        rintro e w1 ⟨rfl, b1⟩
        have H1 : Hid (RW w w1) := HI.out.1.step b1
        have hc2 := H1.out.c
        have hf2 := H1.out.f
        clear b1 hc1 hf1
        cases q with
        | true =>
          go_wp2_with fail
          go_roundw
          case rel => exact ⟨i + 1, by omega, by go_num, H1.out, of_decide_eq_true HQ.out⟩
          case measure => simp [intOf]; omega
        | false =>
          have he : Hid (RErr s i) := by
            have h1 := of_decide_eq_false HQ.out
            have h2 := HI.out.2
            have h3 : nmd s.data.toList 3 = i := by omega
            unfold Hid; rw [← h3]; exact .name (by omega)
          go_wp2_with fail
          refine bodyPost_ret (v := .tuple #[.agg #[.int .u8 0, .int .u8 0, .int .u8 0, .int .u8 0, .int .u8 0], .int .i64 (i), .int .i64 101]) (by simp [results, Tryd.results7, go_sem, hc2]) rfl ⟨Or.inl ⟨_, he.out, rfl⟩, ?_⟩
          exact below_set5 H1.out.b (Nat.le_refl _)
      · have hzi : (s.size : Int) ≤ i := by omega
        have he : Hid (RErr s i) := by
          have h1 := HNL.out.1
          have h2 := HI.out.2
          have h3 : nmd s.data.toList 3 = i := by omega
          unfold Hid; rw [← h3]; exact .name (by omega)
        go_wp2_with fail
        refine bodyPost_ret (v := .tuple #[.agg #[.int .u8 0, .int .u8 0, .int .u8 0, .int .u8 0, .int .u8 0], .int .i64 (i), .int .i64 101]) (by simp [results, Tryd.results7, go_sem, hc1]) rfl ⟨Or.inl ⟨_, he.out, rfl⟩, ?_⟩
        exact below_set5 HI.out.1.b (Nat.le_refl _)
    · obtain rfl : i = 3 := by omega
      have HN3 : Hid (nmd s.data.toList 3 = 3) := by have h1 := HNL.out.2; have h2 := HI.out.2; unfold Hid; omega
      clear hc1 hf1
      go_wp2_with fail
      have HRW : Hid (RW w (wr.alloc (.cells #[.int .u8 0, .int .u8 0, .int .u8 0, .int .u8 0, .int .u8 0] 48))) := HI.out.1.step ((Below.refl _ _).alloc (Nat.le_refl _) _)
      have HFL : Hid (Fill (wr.alloc (.cells #[.int .u8 0, .int .u8 0, .int .u8 0, .int .u8 0, .int .u8 0] 48)) wr.heap.size (s.data.toList.drop 3) 0) := Fill.new wr _ _
      have HBB : Hid (w.heap.size < wr.heap.size) := HI.out.1.l
      obtain ⟨B, hB⟩ : ∃ B, wr.heap.size = B := ⟨_, rfl⟩
      obtain ⟨W, hW⟩ : ∃ W, wr.alloc (.cells #[.int .u8 0, .int .u8 0, .int .u8 0, .int .u8 0, .int .u8 0] 48) = W := ⟨_, rfl⟩
      rw [hB, hW] at HFL
      rw [hW] at HRW ⊢
      rw [hB] at HBB ⊢
      clear hB hW HI
      go_loopw [7] (fun t7 wx => ∃ i : Nat, i ≤ 5 ∧ t7 = .int .i64 i ∧ Hid (RW w wx ∧ Fill wx B (s.data.toList.drop 3) i ∧ (∀ j, j < i → badAt (s.data.toList.drop 3) j = false) ∧ 3 + i ≤ s.size)) (fun t7 _ => 5 - (intOf t7).toNat)
      case atStart => exact ⟨0, Nat.zero_le _, rfl, HRW.out, HFL.out, fun _ h => absurd h (by omega), by have h1 := HNL.out.1; have h2 := HN3.out; omega⟩
      case round =>
        obtain ⟨i, hi5, rfl, HI⟩ := hrel
        obtain ⟨WX, hWX⟩ : ∃ x, wr = x := ⟨_, rfl⟩
        rw [hWX] at HI ⊢
        clear hWX
        have hc1 := HI.out.1.c
        have hf1 := HI.out.1.f
        have hll : (s.data.toList.drop 3).length = s.size - 3 := by simp
        by_cases hlt : i < 5
        · have hlti : (i : Int) < 5 := by omega
          by_cases hz : 3 + i < s.size
          · have hzi : (3 : Int) + i < s.size := by omega
            have hgt : (s.data.toList.drop 3).getD i 0 = s[3 + i] := by
              rw [List.getD_eq_getElem?_getD, List.getElem?_drop, ← List.getD_eq_getElem?_getD]; exact get_bt hz
            have hix : ∀ w, (Instr.index 9 (.string s) (.int .i64 ((3 : Int) + i))).run Tryd.prog w = .ok (.int .u8 (((s.data.toList.drop 3).getD i 0).toNat : Int)) w := fun w => by
              rw [hgt]; exact run_index_at hz w
            obtain ⟨bi, hbi⟩ : ∃ b, (s.data.toList.drop 3).getD i 0 = b := ⟨_, rfl⟩
            rw [hbi] at hix
            have HBI : Hid ((s.data.toList.drop 3).getD i 0 = bi) := hbi
            clear hbi hgt
            cases hm : markI bi.toNat with
            | false =>
              have he : Hid (RErr s (3 + (i : Int))) := .five i HN3.out ⟨by omega, HI.out.2.2.1, fun _ => badAt_nomark (by rw [HBI.out]; exact hm)⟩ hlt
              have hc : ∀ w, Calls Tryd.prog 19 #[.int .u8 bi.toNat] w fun e w' => e = .returned (.bool false) ∧ w' = w := fun w => by have := rIsMark_any bi.toNat w; rw [hm] at this; exact this
              clear hm
              go_wp2_with (go_at_call 19; refine (hc _).mono ?_; rintro e w' ⟨rfl, rfl⟩)
              refine bodyPost_ret (v := .tuple #[.agg #[.int .u8 0, .int .u8 0, .int .u8 0, .int .u8 0, .int .u8 0], .int .i64 (3 + (i : Int)), .int .i64 101]) (by simp [results, Tryd.results7, go_sem, hc1]) rfl ⟨Or.inl ⟨_, he.out, rfl⟩, ?_⟩
              exact below_set5 HI.out.1.b (Nat.le_refl _)
            | true =>
              have HM : Hid (markI ((s.data.toList.drop 3).getD i 0).toNat = true) := by unfold Hid; rw [HBI.out]; exact hm
              have hc : ∀ w, Calls Tryd.prog 19 #[.int .u8 bi.toNat] w fun e w' => e = .returned (.bool true) ∧ w' = w := fun w => by have := rIsMark_any bi.toNat w; rw [hm] at this; exact this
              obtain ⟨v0, hv0⟩ := HI.out.2.1.has i hlt
              have hfr0 := HI.out.2.1.fr i hlt
              clear hm hc1 hf1
              go_wp2_with (go_at_call 19; refine (hc _).mono ?_; rintro e w' ⟨rfl, hw'⟩; rw [hw']; clear hw')
              have HRW2 : Hid (RW w (WX.setCell ⟨B, i, none⟩ (.int .u8 (bi.toNat : Int)))) := HI.out.1.set HBB.out _ _
              have HFL2 : Hid (Fill (WX.setCell ⟨B, i, none⟩ (.int .u8 (bi.toNat : Int))) B (s.data.toList.drop 3) (i + 1)) := by have := HI.out.2.1.put hlt; rw [HBI.out] at this; exact this
              obtain ⟨V, hV⟩ : ∃ V, WX.setCell ⟨B, i, none⟩ (.int .u8 (bi.toNat : Int)) = V := ⟨_, rfl⟩
              rw [hV] at HRW2 HFL2 ⊢
              have HI2 : Hid ((∀ j, j < i → badAt (s.data.toList.drop 3) j = false) ∧ 3 + i ≤ s.size) := HI.out.2.2
              clear hV HI hv0 hfr0 hix hc
              go_loopw [8] (fun t8 wx => ∃ k y : Nat, k ≤ i ∧ t8 = .int .i64 k ∧ wx = V.drewN y ∧ Hid (∀ j, j < k → (s.data.toList.drop 3).getD j 0 ≠ (s.data.toList.drop 3).getD i 0)) (fun t8 _ => i - (intOf t8).toNat)
              case atStart => exact ⟨0, 0, Nat.zero_le _, rfl, (World.drewN_zero _).symm, fun _ h => absurd h (by omega)⟩
              case round =>
                obtain ⟨k, y, hk, rfl, rfl, HK⟩ := hrel
                by_cases hkl : k < i
                · have hkli : (k : Int) < i := by omega
                  have hk5 : (k : Int) < 5 := by omega
                  have ci := HFL2.out.got i (by omega)
                  have ck := HFL2.out.got k (by omega)
                  rw [HBI.out] at ci
                  obtain ⟨bk, hbk⟩ : ∃ b, (s.data.toList.drop 3).getD k 0 = b := ⟨_, rfl⟩
                  rw [hbk] at ck
                  have HBK : Hid ((s.data.toList.drop 3).getD k 0 = bk) := hbk
                  clear hbk
                  by_cases he : bk = bi
                  · subst he
                    have her : Hid (RErr s (3 + (i : Int))) := .five i HN3.out ⟨by omega, HI2.out.1, fun _ => badAt_same hkl (by rw [hll]; omega) (by rw [HBI.out, HBK.out])⟩ hlt
                    have hc1 := HRW2.out.c
                    have hf1 := HRW2.out.f
                    go_wp2_with fail
                    go_quiet (fail)
                    go_wp2_with fail
                    refine bodyPost_ret (v := .tuple #[.agg #[.int .u8 0, .int .u8 0, .int .u8 0, .int .u8 0, .int .u8 0], .int .i64 (3 + (i : Int)), .int .i64 101]) (by simp [results, Tryd.results7, go_sem, hc1]) rfl ⟨Or.inl ⟨_, her.out, rfl⟩, ?_⟩
                    first | exact below_set5 (HRW2.out.drewN _).b (Nat.le_refl _) | exact below_set5 ((HRW2.out.drewN _).drewN _).b (Nat.le_refl _)
                  · have hne := u8_ne he
                    have HNE : Hid ((s.data.toList.drop 3).getD k 0 ≠ (s.data.toList.drop 3).getD i 0) := by unfold Hid; rw [HBI.out, HBK.out]; exact he
                    clear he
                    go_wp2_with fail
                    go_quiet (fail)
                    go_wp2_with fail
                    go_roundw
                    case rel =>
                      refine ⟨k + 1, _, by omega, by go_num, by first | rfl | exact drew2 _ _ _, fun j hj => ?_⟩
                      rcases Nat.lt_or_ge j k with g | g
                      · exact HK.out j g
                      · obtain rfl : j = k := by omega
                        exact HNE.out
                    case measure => simp [intOf]; omega
                · obtain rfl : k = i := by omega
                  go_wp2_with fail
                  go_roundw
                  case rel =>
                    have hR : ∃ i' : Nat, i' ≤ 5 ∧ (Value.int .i64 ((k : Int) + 1)) = .int .i64 i' ∧ Hid (RW w (V.drewN y) ∧ Fill (V.drewN y) B (s.data.toList.drop 3) i' ∧ (∀ j, j < i' → badAt (s.data.toList.drop 3) j = false) ∧ 3 + i' ≤ s.size) := by
                      refine ⟨k + 1, by omega, by go_num, HRW2.out.drewN _, ⟨fun j hj => HFL2.out.got j hj, fun j hj => HFL2.out.has j hj, fun j hj => HFL2.out.fr j hj⟩, fun j hj => ?_, by omega⟩
                      rcases Nat.lt_or_ge j k with g | g
                      · exact HI2.out.1 j g
                      · obtain rfl : j = k := by omega
                        exact badAt_mono HM.out HK.out (by rw [hll]; omega)
                    first | exact hR | ((repeat apply Exists.intro); exact ⟨hR, rfl⟩)
                  case measure => simp [intOf]; omega
          · have hzi : (s.size : Int) ≤ 3 + i := by omega
            have he : Hid (RErr s (3 + (i : Int))) := .five i HN3.out ⟨by omega, HI.out.2.2.1, fun _ => badAt_end (by rw [hll]; omega)⟩ hlt
            go_wp2_with fail
            refine bodyPost_ret (v := .tuple #[.agg #[.int .u8 0, .int .u8 0, .int .u8 0, .int .u8 0, .int .u8 0], .int .i64 (3 + (i : Int)), .int .i64 101]) (by simp [results, Tryd.results7, go_sem, hc1]) rfl ⟨Or.inl ⟨_, he.out, rfl⟩, ?_⟩
            exact below_set5 HI.out.1.b (Nat.le_refl _)
        · obtain rfl : i = 5 := by omega
          have HW5 : Hid (Wrong (s.data.toList.drop 3) 5 5) := ⟨by omega, HI.out.2.2.1, fun h => absurd h (by omega)⟩
          have h8 : 8 ≤ s.size := by have := HI.out.2.2.2; omega
          obtain ⟨m, hm⟩ := five_of h8
          have HM : Hid (s.extract 3 8 = m.str) := hm
          have hml : (s.data.toList.drop 3).take 5 = m.l := by
            have := congrArg (fun x : ByteArray => x.data.toList) hm
            rw [Mk.str_l, Lib.extract_data] at this
            exact this
          have key : ∀ j, j < 5 → (s.data.toList.drop 3).getD j 0 = m.l.getD j 0 := fun j hj => by
            rw [← hml]; simp [List.getD_eq_getElem?_getD, hj]
          have g0 : WX.cell? ⟨B, 0, none⟩ = some (.int .u8 (m.f.toNat : Int)) := by have := HI.out.2.1.got 0 (by omega); rw [key 0 (by omega)] at this; exact this
          have g1 : WX.cell? ⟨B, 1, none⟩ = some (.int .u8 (m.c.toNat : Int)) := by have := HI.out.2.1.got 1 (by omega); rw [key 1 (by omega)] at this; exact this
          have g2 : WX.cell? ⟨B, 2, none⟩ = some (.int .u8 (m.r.toNat : Int)) := by have := HI.out.2.1.got 2 (by omega); rw [key 2 (by omega)] at this; exact this
          have g3 : WX.cell? ⟨B, 3, none⟩ = some (.int .u8 (m.x.toNat : Int)) := by have := HI.out.2.1.got 3 (by omega); rw [key 3 (by omega)] at this; exact this
          have g4 : WX.cell? ⟨B, 4, none⟩ = some (.int .u8 (m.s.toNat : Int)) := by have := HI.out.2.1.got 4 (by omega); rw [key 4 (by omega)] at this; exact this
          have e3 : Hid (s.data.toList.getD 3 0 = m.f) := getD_five hm
          have HRW3 : Hid (RW w WX) := HI.out.1
          clear key hml hm HI hll
          by_cases h9 : 8 < s.size
          · have h9i : (8 : Int) < s.size := by omega
            have e8 : Hid (s.data.toList.getD 8 0 = s[8]) := get_bt (s := s) (p := 8) h9
            by_cases hc9 : s[8] = 13
            · have n1 : ((s[8].toNat : Int) != 13) = false := u8_eqn (b := 13) hc9
              have hok : Hid (ROk s m) := ⟨HN3.out, HW5.out, HM.out, fun _ => Or.inl (by rw [e8.out]; exact hc9)⟩
              clear hc9
              go_wp2_with fail
              go_quiet (fail)
              go_wp2_with fail
              refine bodyPost_ret (v := .tuple #[.agg #[.int .u8 (m.f.toNat : Int), .int .u8 (m.c.toNat : Int), .int .u8 (m.r.toNat : Int), .int .u8 (m.x.toNat : Int), .int .u8 (m.s.toNat : Int)], .int .i64 0, .int .i64 0]) (by simp [results, Tryd.results7, go_sem, hc1]) rfl ⟨Or.inr ⟨m, hok.out, rfl⟩, ?_⟩
              exact below_set5 (HRW3.out.drewN _).b (Nat.le_refl _)
            · have n1 : ((s[8].toNat : Int) != 13) = true := u8_neq (b := 13) hc9
              by_cases hf9 : s[8] = m.f
              · have n2 := u8_eqn hf9
                have hok : Hid (ROk s m) := ⟨HN3.out, HW5.out, HM.out, fun _ => Or.inr (by rw [e8.out, e3.out]; exact hf9)⟩
                clear hc9 hf9
                go_wp2_with fail
                go_quiet (fail)
                go_wp2_with fail
                refine bodyPost_ret (v := .tuple #[.agg #[.int .u8 (m.f.toNat : Int), .int .u8 (m.c.toNat : Int), .int .u8 (m.r.toNat : Int), .int .u8 (m.x.toNat : Int), .int .u8 (m.s.toNat : Int)], .int .i64 0, .int .i64 0]) (by simp [results, Tryd.results7, go_sem, hc1]) rfl ⟨Or.inr ⟨m, hok.out, rfl⟩, ?_⟩
                exact below_set5 (HRW3.out.drewN _).b (Nat.le_refl _)
              · have n2 := u8_neq hf9
                have her : Hid (RErr s 8) := .ninth HN3.out HW5.out h9 (by rw [e8.out]; exact hc9) (by rw [e8.out, e3.out]; exact hf9)
                clear hc9 hf9
                go_wp2_with fail
                go_quiet (fail)
                go_wp2_with fail
                refine bodyPost_ret (v := .tuple #[.agg #[.int .u8 0, .int .u8 0, .int .u8 0, .int .u8 0, .int .u8 0], .int .i64 8, .int .i64 101]) (by simp [results, Tryd.results7, go_sem, hc1]) rfl ⟨Or.inl ⟨_, her.out, rfl⟩, ?_⟩
                exact below_set5 (HRW3.out.drewN _).b (Nat.le_refl _)
          · have h9e : s.size = 8 := by omega
            have h9i : ¬ (8 : Int) < s.size := by omega
            have hd : decide ((8 : Int) < s.size) = false := by simpa using h9i
            have hok : Hid (ROk s m) := ⟨HN3.out, HW5.out, HM.out, fun g => absurd g h9⟩
            go_wp2_with fail
            go_quiet (fail)
            go_wp2_with fail
            refine bodyPost_ret (v := .tuple #[.agg #[.int .u8 (m.f.toNat : Int), .int .u8 (m.c.toNat : Int), .int .u8 (m.r.toNat : Int), .int .u8 (m.x.toNat : Int), .int .u8 (m.s.toNat : Int)], .int .i64 0, .int .i64 0]) (by simp [results, Tryd.results7, go_sem, hc1]) rfl ⟨Or.inr ⟨m, hok.out, rfl⟩, ?_⟩
            exact below_set5 (HRW3.out.drewN _).b (Nat.le_refl _)
theorem readPair (s : ByteArray) (hs : s.size ≤ maxLen) : ∃ (m : Mk) (a c : Int), (∀ w, Heads w → Calls Tryd.prog 6 #[.string s] w fun e w' => ∃ v, e = .returned (.tuple #[.agg #[.int .u8 (m.f.toNat : Int), .int .u8 (m.c.toNat : Int), .int .u8 (m.r.toNat : Int), .int .u8 (m.x.toNat : Int), .int .u8 (m.s.toNat : Int)], v]) ∧ Ev w' v a c ∧ Below w.heap.size w w') ∧ (∀ w, Calls Tryd.prog 7 #[.string s] w fun e w' => e = .returned (.tuple #[.agg #[.int .u8 (m.f.toNat : Int), .int .u8 (m.c.toNat : Int), .int .u8 (m.r.toNat : Int), .int .u8 (m.x.toNat : Int), .int .u8 (m.s.toNat : Int)], .int .i64 a, .int .i64 c]) ∧ Below w.heap.size w w') := by
  rcases read_cases s with ⟨a, h⟩ | ⟨m, h⟩
  · refine ⟨⟨0, 0, 0, 0, 0⟩, a, 101, fun w hH => Read_err w hs hH h, fun w => (rRead_any s w hs).mono ?_⟩
    rintro e w' ⟨hr, hb⟩
    rcases hr with ⟨b, g, rfl⟩ | ⟨m, g, _⟩
    · rw [h.one g]; exact ⟨rfl, hb⟩
    · exact (h.no g).elim
  · refine ⟨m, 0, 0, fun w hH => (Read_ok w hs hH h).mono ?_, fun w => (rRead_any s w hs).mono ?_⟩
    · rintro e w' ⟨rfl, hb⟩
      exact ⟨_, rfl, Or.inl ⟨rfl, rfl⟩, hb⟩
    · rintro e w' ⟨hr, hb⟩
      rcases hr with ⟨b, g, _⟩ | ⟨m', g, rfl⟩
      · exact (g.no h).elim
      · rw [h.one g]; exact ⟨rfl, hb⟩
set_option maxRecDepth 100000 in
set_option maxHeartbeats 4000000 in
theorem reads_law (s : ByteArray) (w : World) (hs : s.size ≤ maxLen) (hH : Heads w) : Calls Tryd.prog 3 #[.string s] w fun e w' => e = .returned (.bool true) ∧ Below w.heap.size w w' := by
  have HH : Hid (Heads w) := hH
  clear hH
  obtain ⟨m, a, c, h1, h2⟩ := readPair s hs
  clear hs
  go_enter Tryd.func3, Tryd.ntmps3
  go_wp2_with fail
  refine (h1 _ HH.out).mono ?_
  rintro e w1 ⟨v, rfl, e1, b1⟩
  have H1 : Hid (Ev (w1.alloc (.cells #[.int .u8 (m.f.toNat : Int), .int .u8 (m.c.toNat : Int), .int .u8 (m.r.toNat : Int), .int .u8 (m.x.toNat : Int), .int .u8 (m.s.toNat : Int)] 23)) v a c ∧ Below w.heap.size w (w1.alloc (.cells #[.int .u8 (m.f.toNat : Int), .int .u8 (m.c.toNat : Int), .int .u8 (m.r.toNat : Int), .int .u8 (m.x.toNat : Int), .int .u8 (m.s.toNat : Int)] 23))) := ⟨e1.below ((Below.refl _ _).alloc (Nat.le_refl _) _), b1.alloc b1.size _⟩
  clear e1 b1 h1
  go_wp2_with fail
  refine (h2 _).mono ?_
  rintro e w2 ⟨rfl, b2⟩
  have c2 : ∀ o, w2.cell? ⟨w1.heap.size, o, none⟩ = (w1.alloc (.cells #[.int .u8 (m.f.toNat : Int), .int .u8 (m.c.toNat : Int), .int .u8 (m.r.toNat : Int), .int .u8 (m.x.toNat : Int), .int .u8 (m.s.toNat : Int)] 23)).cell? ⟨w1.heap.size, o, none⟩ := fun o => b2.cell (p := ⟨w1.heap.size, o, none⟩) (by simp)
  have hl2 : w1.heap.size < w2.heap.size := by have := b2.size; simp at this; omega
  have H2 : Hid (Ev (w2.alloc (.cells #[.int .u8 (m.f.toNat : Int), .int .u8 (m.c.toNat : Int), .int .u8 (m.r.toNat : Int), .int .u8 (m.x.toNat : Int), .int .u8 (m.s.toNat : Int)] 23)) v a c ∧ Below w.heap.size w (w2.alloc (.cells #[.int .u8 (m.f.toNat : Int), .int .u8 (m.c.toNat : Int), .int .u8 (m.r.toNat : Int), .int .u8 (m.x.toNat : Int), .int .u8 (m.s.toNat : Int)] 23))) := by
    have q := below_then H1.out.2 b2
    exact ⟨(H1.out.1.below b2).below ((Below.refl _ _).alloc (Nat.le_refl _) _), q.alloc q.size _⟩
  clear b2 h2 H1
  go_wp2_with fail
  refine (refused_any H2.out.1).mono ?_
  rintro e w3 ⟨rfl, rfl⟩
  go_wp2_with fail
  go_ret
  exact ⟨rfl, H2.out.2⟩
end Go.Proofs.YtcllcpjdoaeaiaaDoorRRR
