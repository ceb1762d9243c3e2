/-
  esc.Read.
-/
import Derived.Test.YtcllcpjdoaeaiaaDoorRRREsName
import Derived.Lib.IndexBytes
import Derived.BigRegion
namespace Go.Proofs.YtcllcpjdoaeaiaaDoorRRR
open Go.RowKit

theorem badAt_take {l : List UInt8} {z j : Nat} (h : j < z) : badAt (l.take z) j = badAt l j := by
  unfold badAt
  have e1 : (l.take z).getD j 0 = l.getD j 0 := by simp [List.getD_eq_getElem?_getD, h]
  have e2 : (l.take z).take j = l.take j := by rw [List.take_take, Nat.min_eq_left (by omega)]
  rw [e1, e2]
theorem badAt_end {l : List UInt8} {j : Nat} (h : l.length ≤ j) : badAt l j = true := by
  refine badAt_nomark' ?_
  rw [List.getD_eq_getElem?_getD, List.getElem?_eq_none h]; rfl
where badAt_nomark' {l : List UInt8} {i : Nat} (h : markI (l.getD i 0).toNat = false) : badAt l i = true := by unfold badAt; rw [h]; rfl
theorem wrong_ext {l : List UInt8} {z k : Nat} (h : Wrong (l.take z) z k) (hz : z ≤ 5) (hl : z < 5 → l.length = z) : Wrong l 5 k := by
  have hk := h.le
  refine ⟨by omega, fun j hj => by rw [← badAt_take (z := z) (by omega)]; exact h.ok j hj, fun h5 => ?_⟩
  rcases Nat.lt_or_ge k z with q | q
  · rw [← badAt_take q]; exact h.bad q
  · exact badAt_end (by have := hl (by omega); omega)
/-- The five behind the name. -/
theorem five_of {s : ByteArray} (h : 8 ≤ s.size) : ∃ m : Mk, s.extract 3 8 = m.str := by
  have hl : (s.extract 3 8).data.toList.length = 5 := by
    rw [Lib.extract_data]; simp; omega
  obtain ⟨F, hF⟩ : ∃ F, s.extract 3 8 = F := ⟨_, rfl⟩
  rw [hF] at hl ⊢
  obtain ⟨⟨l⟩⟩ := F
  match l, hl with
  | [a, b, c, d, e], _ => exact ⟨⟨a, b, c, d, e⟩, rfl⟩
/-- What Read answers to a text. -/
inductive RErr (s : ByteArray) : Int → Prop
  | name (h : nmd s.data.toList 3 < 3) : RErr s (nmd s.data.toList 3)
  | five (k : Nat) (h : nmd s.data.toList 3 = 3) (hk : Wrong (s.data.toList.drop 3) 5 k) (h5 : k < 5) : RErr s (3 + k)
  | ninth (h : nmd s.data.toList 3 = 3) (hk : Wrong (s.data.toList.drop 3) 5 5) (h9 : 8 < s.size) (hc : s.data.toList.getD 8 0 ≠ 13) (hf : s.data.toList.getD 8 0 ≠ s.data.toList.getD 3 0) : RErr s 8
structure ROk (s : ByteArray) (m : Mk) : Prop where
  nm : nmd s.data.toList 3 = 3
  five : Wrong (s.data.toList.drop 3) 5 5
  str : s.extract 3 8 = m.str
  end_ : 8 < s.size → s.data.toList.getD 8 0 = 13 ∨ s.data.toList.getD 8 0 = s.data.toList.getD 3 0
theorem five_size {s : ByteArray} (h : Wrong (s.data.toList.drop 3) 5 5) : 8 ≤ s.size := by
  rcases Nat.lt_or_ge s.size 8 with g | g
  · exfalso
    have h4 := h.ok 4 (by omega)
    rw [badAt_end (by simp; omega)] at h4; cases h4
  · exact g
theorem read_cases (s : ByteArray) : (∃ a, RErr s a) ∨ ∃ m, ROk s m := by
  have hn := (nmd_le s.data.toList 3).2
  by_cases h3 : nmd s.data.toList 3 < 3
  · exact Or.inl ⟨_, .name h3⟩
  · have h3 : nmd s.data.toList 3 = 3 := by omega
    obtain ⟨k, hk⟩ := wrong_ex (s.data.toList.drop 3) 5
    by_cases h5 : k < 5
    · exact Or.inl ⟨_, .five k h3 hk h5⟩
    · obtain rfl : k = 5 := by have := hk.le; omega
      obtain ⟨m, hm⟩ := five_of (five_size hk)
      by_cases h9 : 8 < s.size
      · by_cases hc : s.data.toList.getD 8 0 = 13
        · exact Or.inr ⟨m, h3, hk, hm, fun _ => Or.inl hc⟩
        · by_cases hf : s.data.toList.getD 8 0 = s.data.toList.getD 3 0
          · exact Or.inr ⟨m, h3, hk, hm, fun _ => Or.inr hf⟩
          · exact Or.inl ⟨_, .ninth h3 hk h9 hc hf⟩
      · exact Or.inr ⟨m, h3, hk, hm, fun g => absurd g h9⟩
theorem wrong_five {s : ByteArray} (h3 : 3 ≤ s.size) {k k' : Nat} (h : Wrong (s.data.toList.drop 3) 5 k) (g : Wrong (s.extract 3 (min 8 s.size)).data.toList (s.extract 3 (min 8 s.size)).size k') : k' = k := by
  have e : (s.extract 3 (min 8 s.size)).data.toList = (s.data.toList.drop 3).take (min 8 s.size - 3) := Lib.extract_data _ _ _
  have z : (s.extract 3 (min 8 s.size)).size = min 8 s.size - 3 := by simp
  rw [e, z] at g
  exact (wrong_ext g (by omega) (fun q => by simp; omega)).one h
theorem EFault.set {w : World} {b B : Nat} {a c : Int} (h : EFault w b a c) (hb : b ≠ B) (o : Nat) (v : Value) : EFault (w.setCell ⟨B, o, none⟩ v) b a c := by
  have hc : ∀ q, (w.setCell ⟨B, o, none⟩ v).cell? ⟨b, q, none⟩ = w.cell? ⟨b, q, none⟩ := fun q => World.cell?_of_block (Below.heap_setCell w ⟨B, o, none⟩ v b hb)
  exact ⟨by rw [hc]; exact h.1, by rw [hc]; exact h.2.1, by rw [hc]; exact h.2.2.1, by rw [hc]; exact h.2.2.2⟩
theorem Ev.set {w : World} {b B : Nat} {a c : Int} (h : EFault w b a c) (hb : b ≠ B) (hc : c ≠ 0) {u v x y z : Value} : Ev (((((w.setCell ⟨B, 0, none⟩ u).setCell ⟨B, 0 + 1, none⟩ v).setCell ⟨B, 0 + 2, none⟩ x).setCell ⟨B, 0 + 3, none⟩ y).setCell ⟨B, 0 + 4, none⟩ z) (.iface 50 (.pointer (some ⟨b, 0, none⟩))) a c :=
  Or.inr ⟨hc, b, rfl, ((((h.set hb _ _).set hb _ _).set hb _ _).set hb _ _).set hb _ _⟩
theorem below_set5 {w0 w : World} {B : Nat} (h : Below w0.heap.size w0 w) (hB : w0.heap.size ≤ B) {u v x y z : Value} : Below w0.heap.size w0 (((((w.setCell ⟨B, 0, none⟩ u).setCell ⟨B, 0 + 1, none⟩ v).setCell ⟨B, 0 + 2, none⟩ x).setCell ⟨B, 0 + 3, none⟩ y).setCell ⟨B, 0 + 4, none⟩ z) :=
  ((((h.setCell hB _).setCell hB _).setCell hB _).setCell hB _).setCell hB _
theorem u8_ne' {a b : UInt8} (h : a ≠ b) : ((a.toNat : Int) == b.toNat) = false := by
  simp only [beq_eq_false_iff_ne, ne_eq]; intro g; exact h (UInt8.toNat_inj.1 (by omega))
theorem u8_neq {a b : UInt8} (h : a ≠ b) : ((a.toNat : Int) != b.toNat) = true := by rw [bne, u8_ne' h]; rfl
theorem u8_eqn {a b : UInt8} (h : a = b) : ((a.toNat : Int) != b.toNat) = false := by rw [h]; simp
theorem getD_five {s : ByteArray} {m : Mk} (h : s.extract 3 8 = m.str) : s.data.toList.getD 3 0 = m.f := by
  have e : (s.data.toList.drop 3).take 5 = m.l := by
    have := congrArg (fun x : ByteArray => x.data.toList) h
    rw [Mk.str_l, Lib.extract_data] at this
    exact this
  have := congrArg (fun x => x.getD 0 0) e
  simpa [List.getD_eq_getElem?_getD, Mk.l] using this
set_option maxRecDepth 100000 in
set_option maxHeartbeats 2000000 in
theorem Read_err {s : ByteArray} {a : Int} (w : World) (hs : s.size ≤ maxLen) (hH : Heads w) (h : RErr s a) : Calls Tryd.prog 6 #[.string s] w fun e w' => ∃ v, e = .returned (.tuple #[.agg #[.int .u8 0, .int .u8 0, .int .u8 0, .int .u8 0, .int .u8 0], v]) ∧ Ev w' v a 101 ∧ Below w.heap.size w w' := by
  unfold maxLen at hs
  have HH : Hid (Heads w) := hH
  clear hH
  cases h with
  | name h =>
    obtain ⟨n, hn⟩ : ∃ n : Nat, nmd s.data.toList 3 = n := ⟨_, rfl⟩
    have hc : ∀ w, Heads w → Calls Tryd.prog 15 #[.string s] w fun e w' => e = .returned (.int .i64 n) ∧ ∃ n, w' = w.drewN n := fun w g => by have := named_any s w g; rw [hn] at this; exact this
    rw [hn] at h ⊢
    have hi : (n : Int) < 3 := by omega
    clear hn h
    go_enter Tryd.func6, Tryd.ntmps6
    go_wp2_with fail
    refine (hc _ (HH.out.alloc _)).mono ?_
    rintro e w1 ⟨rfl, nn1, rfl⟩
    go_wp2_with fail
    refine (efault_any _ _ _).mono ?_
    rintro e w2 ⟨rfl, f2, b2⟩
    have hc2 : ∀ o, w2.cell? ⟨w.heap.size, o, none⟩ = (w.alloc (.cells #[.int .u8 0, .int .u8 0, .int .u8 0, .int .u8 0, .int .u8 0] 23)).cell? ⟨w.heap.size, o, none⟩ := fun o => b2.cell (p := ⟨w.heap.size, o, none⟩) (by simp)
    have hf2 : ∀ o, w2.frozen? ⟨w.heap.size, o, none⟩ = (w.alloc (.cells #[.int .u8 0, .int .u8 0, .int .u8 0, .int .u8 0, .int .u8 0] 23)).frozen? ⟨w.heap.size, o, none⟩ := fun o => b2.frozen (p := ⟨w.heap.size, o, none⟩) (by simp)
    have H2 : Hid (EFault w2 (w.heap.size + 1) n 101 ∧ Below w.heap.size w w2) := ⟨by simpa using f2, below_then (below_drewN ((Below.refl _ _).alloc (Nat.le_refl _) _) _) b2⟩
    clear f2 b2
    go_wp2_with fail
    refine bodyPost_ret (v := .tuple #[.agg #[.int .u8 0, .int .u8 0, .int .u8 0, .int .u8 0, .int .u8 0], .iface 50 (.pointer (some ⟨w.heap.size + 1, 0, none⟩))]) (by simp [results, Tryd.results6, go_sem, hc2]) rfl ⟨_, rfl, ?_, ?_⟩
    · exact Ev.set H2.out.1 (by omega) (by decide)
    · exact below_set5 H2.out.2 (Nat.le_refl _)
  | five k h hk h5 =>
    have h3 : 3 ≤ s.size := by have := (nmd_le s.data.toList 3).1; simp at this; omega
    have hc : ∀ w, Heads w → Calls Tryd.prog 15 #[.string s] w fun e w' => e = .returned (.int .i64 3) ∧ ∃ n, w' = w.drewN n := fun w g => by have := named_any s w g; rw [h] at this; exact this
    have hw0 : ∀ z w, z = min 8 s.size → Calls Tryd.prog 17 #[.string (s.extract 3 z)] w fun e w' => e = .returned (.int .i64 k) ∧ Below w.heap.size w w' := fun z w hz => by
      subst hz
      refine (wrong_any _ w).mono ?_
      rintro e w' ⟨⟨k', rfl, hk'⟩, b⟩
      exact ⟨by rw [wrong_five h3 hk hk'.out], b⟩
    have HW : Hid (∀ z w, z = min 8 s.size → Calls Tryd.prog 17 #[.string (s.extract 3 z)] w fun e w' => e = .returned (.int .i64 k) ∧ Below w.heap.size w w') := hw0
    have h3i : (3 : Int) ≤ s.size := by omega
    clear h hk hw0
    have h5i : (3 : Int) + k < 8 := by omega
    by_cases h8 : 8 ≤ s.size
    · have h8i : (8 : Int) ≤ s.size := by omega
      go_enter Tryd.func6, Tryd.ntmps6
      go_wp2_with fail
      refine (hc _ (HH.out.alloc _)).mono ?_
      rintro e w1 ⟨rfl, nn1, rfl⟩
      go_wp2_with fail
      refine (HW.out 8 _ (by omega)).mono ?_
      rintro e w2 ⟨rfl, b2⟩
      have hc2 : ∀ o, w2.cell? ⟨w.heap.size, o, none⟩ = (w.alloc (.cells #[.int .u8 0, .int .u8 0, .int .u8 0, .int .u8 0, .int .u8 0] 23)).cell? ⟨w.heap.size, o, none⟩ := fun o => b2.cell (p := ⟨w.heap.size, o, none⟩) (by simp)
      have hf2 : ∀ o, w2.frozen? ⟨w.heap.size, o, none⟩ = (w.alloc (.cells #[.int .u8 0, .int .u8 0, .int .u8 0, .int .u8 0, .int .u8 0] 23)).frozen? ⟨w.heap.size, o, none⟩ := fun o => b2.frozen (p := ⟨w.heap.size, o, none⟩) (by simp)
      have hl2 : w.heap.size < w2.heap.size := by have := b2.size; simp at this; omega
      have HB2 : Hid (Below w.heap.size w w2) := below_then (below_drewN ((Below.refl _ _).alloc (Nat.le_refl _) _) _) b2
      clear b2
      go_wp2_with fail
      refine (efault_any _ _ _).mono ?_
      rintro e w3 ⟨rfl, f3, b3⟩
      have hc3 : ∀ o, w3.cell? ⟨w.heap.size, o, none⟩ = (w.alloc (.cells #[.int .u8 0, .int .u8 0, .int .u8 0, .int .u8 0, .int .u8 0] 23)).cell? ⟨w.heap.size, o, none⟩ := fun o => (b3.cell (p := ⟨w.heap.size, o, none⟩) hl2).trans (hc2 o)
      have hf3 : ∀ o, w3.frozen? ⟨w.heap.size, o, none⟩ = (w.alloc (.cells #[.int .u8 0, .int .u8 0, .int .u8 0, .int .u8 0, .int .u8 0] 23)).frozen? ⟨w.heap.size, o, none⟩ := fun o => (b3.frozen (p := ⟨w.heap.size, o, none⟩) hl2).trans (hf2 o)
      have H3 : Hid (EFault w3 w2.heap.size (3 + (k : Int)) 101 ∧ Below w.heap.size w w3) := ⟨f3, below_then HB2.out b3⟩
      clear f3 b3 hc2 hf2
      go_wp2_with fail
      refine bodyPost_ret (v := .tuple #[.agg #[.int .u8 0, .int .u8 0, .int .u8 0, .int .u8 0, .int .u8 0], .iface 50 (.pointer (some ⟨w2.heap.size, 0, none⟩))]) (by simp [results, Tryd.results6, go_sem, hc3]) rfl ⟨_, rfl, ?_, ?_⟩
      · exact Ev.set H3.out.1 (by omega) (by decide)
      · exact below_set5 H3.out.2 (Nat.le_refl _)
    · have h8i : ¬ (8 : Int) ≤ s.size := by omega
      go_enter Tryd.func6, Tryd.ntmps6
      go_wp2_with fail
      refine (hc _ (HH.out.alloc _)).mono ?_
      rintro e w1 ⟨rfl, nn1, rfl⟩
      go_wp2_with fail
      refine (HW.out s.size _ (by omega)).mono ?_
      rintro e w2 ⟨rfl, b2⟩
      have hc2 : ∀ o, w2.cell? ⟨w.heap.size, o, none⟩ = (w.alloc (.cells #[.int .u8 0, .int .u8 0, .int .u8 0, .int .u8 0, .int .u8 0] 23)).cell? ⟨w.heap.size, o, none⟩ := fun o => b2.cell (p := ⟨w.heap.size, o, none⟩) (by simp)
      have hf2 : ∀ o, w2.frozen? ⟨w.heap.size, o, none⟩ = (w.alloc (.cells #[.int .u8 0, .int .u8 0, .int .u8 0, .int .u8 0, .int .u8 0] 23)).frozen? ⟨w.heap.size, o, none⟩ := fun o => b2.frozen (p := ⟨w.heap.size, o, none⟩) (by simp)
      have hl2 : w.heap.size < w2.heap.size := by have := b2.size; simp at this; omega
      have HB2 : Hid (Below w.heap.size w w2) := below_then (below_drewN ((Below.refl _ _).alloc (Nat.le_refl _) _) _) b2
      clear b2
      go_wp2_with fail
      refine (efault_any _ _ _).mono ?_
      rintro e w3 ⟨rfl, f3, b3⟩
      have hc3 : ∀ o, w3.cell? ⟨w.heap.size, o, none⟩ = (w.alloc (.cells #[.int .u8 0, .int .u8 0, .int .u8 0, .int .u8 0, .int .u8 0] 23)).cell? ⟨w.heap.size, o, none⟩ := fun o => (b3.cell (p := ⟨w.heap.size, o, none⟩) hl2).trans (hc2 o)
      have hf3 : ∀ o, w3.frozen? ⟨w.heap.size, o, none⟩ = (w.alloc (.cells #[.int .u8 0, .int .u8 0, .int .u8 0, .int .u8 0, .int .u8 0] 23)).frozen? ⟨w.heap.size, o, none⟩ := fun o => (b3.frozen (p := ⟨w.heap.size, o, none⟩) hl2).trans (hf2 o)
      have H3 : Hid (EFault w3 w2.heap.size (3 + (k : Int)) 101 ∧ Below w.heap.size w w3) := ⟨f3, below_then HB2.out b3⟩
      clear f3 b3 hc2 hf2
      go_wp2_with fail
      refine bodyPost_ret (v := .tuple #[.agg #[.int .u8 0, .int .u8 0, .int .u8 0, .int .u8 0, .int .u8 0], .iface 50 (.pointer (some ⟨w2.heap.size, 0, none⟩))]) (by simp [results, Tryd.results6, go_sem, hc3]) rfl ⟨_, rfl, ?_, ?_⟩
      · exact Ev.set H3.out.1 (by omega) (by decide)
      · exact below_set5 H3.out.2 (Nat.le_refl _)
  | ninth h hk h9 hc9 hf9 =>
    have h3 : 3 ≤ s.size := by have := (nmd_le s.data.toList 3).1; simp at this; omega
    have hc : ∀ w, Heads w → Calls Tryd.prog 15 #[.string s] w fun e w' => e = .returned (.int .i64 3) ∧ ∃ n, w' = w.drewN n := fun w g => by have := named_any s w g; rw [h] at this; exact this
    have HW : Hid (∀ z w, z = min 8 s.size → Calls Tryd.prog 17 #[.string (s.extract 3 z)] w fun e w' => e = .returned (.int .i64 5) ∧ Below w.heap.size w w') := fun z w hz => by
      subst hz
      refine (wrong_any _ w).mono ?_
      rintro e w' ⟨⟨k', rfl, hk'⟩, b⟩
      exact ⟨by rw [wrong_five h3 hk hk'.out]; rfl, b⟩
    have h8i : (8 : Int) ≤ s.size := by omega
    have h9i : (8 : Int) < s.size := by omega
    obtain ⟨m, hm⟩ := five_of (s := s) (by omega)
    have hms := m.str_size
    have e3 : s.data.toList.getD 3 0 = m.f := getD_five hm
    rw [e3] at hf9
    have e8 := get_bt (s := s) (p := 8) h9
    rw [e8] at hc9 hf9
    have n1 : ((s[8].toNat : Int) != 13) = true := u8_neq (b := 13) hc9
    have n2 := u8_neq hf9
    have i0 : ∀ w, (Instr.index 45 (.string m.str) (.int .i64 0)).run Tryd.prog w = .ok (.int .u8 (m.f.toNat : Int)) w := fun w => by kernel_rfl
    have HM : Hid (s.extract 3 8 = m.str) := hm
    clear h hk e3 e8 hc9 hf9 hm
    go_enter Tryd.func6, Tryd.ntmps6
    go_wp2_with fail
    refine (hc _ (HH.out.alloc _)).mono ?_
    rintro e w1 ⟨rfl, nn1, rfl⟩
    go_wp2_with fail
    refine (HW.out 8 _ (by omega)).mono ?_
    rintro e w2 ⟨rfl, b2⟩
    have hc2 : ∀ o, w2.cell? ⟨w.heap.size, o, none⟩ = (w.alloc (.cells #[.int .u8 0, .int .u8 0, .int .u8 0, .int .u8 0, .int .u8 0] 23)).cell? ⟨w.heap.size, o, none⟩ := fun o => b2.cell (p := ⟨w.heap.size, o, none⟩) (by simp)
    have hf2 : ∀ o, w2.frozen? ⟨w.heap.size, o, none⟩ = (w.alloc (.cells #[.int .u8 0, .int .u8 0, .int .u8 0, .int .u8 0, .int .u8 0] 23)).frozen? ⟨w.heap.size, o, none⟩ := fun o => b2.frozen (p := ⟨w.heap.size, o, none⟩) (by simp)
    have hl2 : w.heap.size < w2.heap.size := by have := b2.size; simp at this; omega
    have HB2 : Hid (Below w.heap.size w w2) := below_then (below_drewN ((Below.refl _ _).alloc (Nat.le_refl _) _) _) b2
    clear b2
    rw [HM.out]
    go_wp2_with fail
    go_quiet (fail)
    go_wp2_with fail
    refine (efault_any _ _ _).mono ?_
    rintro e w3 ⟨rfl, f3, b3⟩
    have hc3 : ∀ o, w3.cell? ⟨w.heap.size, o, none⟩ = (w.alloc (.cells #[.int .u8 0, .int .u8 0, .int .u8 0, .int .u8 0, .int .u8 0] 23)).cell? ⟨w.heap.size, o, none⟩ := fun o => (b3.cell (p := ⟨w.heap.size, o, none⟩) hl2).trans (hc2 o)
    have hf3 : ∀ o, w3.frozen? ⟨w.heap.size, o, none⟩ = (w.alloc (.cells #[.int .u8 0, .int .u8 0, .int .u8 0, .int .u8 0, .int .u8 0] 23)).frozen? ⟨w.heap.size, o, none⟩ := fun o => (b3.frozen (p := ⟨w.heap.size, o, none⟩) hl2).trans (hf2 o)
    have H3 : Hid (EFault w3 w2.heap.size (8) 101 ∧ Below w.heap.size w w3) := ⟨f3, below_then (below_drewN HB2.out _) b3⟩
    clear f3 b3 hc2 hf2
    go_wp2_with fail
    refine bodyPost_ret (v := .tuple #[.agg #[.int .u8 0, .int .u8 0, .int .u8 0, .int .u8 0, .int .u8 0], .iface 50 (.pointer (some ⟨w2.heap.size, 0, none⟩))]) (by simp [results, Tryd.results6, go_sem, hc3]) rfl ⟨_, rfl, ?_, ?_⟩
    · exact Ev.set H3.out.1 (by omega) (by decide)
    · exact below_set5 H3.out.2 (Nat.le_refl _)
set_option maxRecDepth 100000 in
set_option maxHeartbeats 2000000 in
theorem Read_ok {s : ByteArray} {m : Mk} (w : World) (hs : s.size ≤ maxLen) (hH : Heads w) (h : ROk s m) : Calls Tryd.prog 6 #[.string s] w fun e w' => e = .returned (.tuple #[.agg #[.int .u8 (m.f.toNat : Int), .int .u8 (m.c.toNat : Int), .int .u8 (m.r.toNat : Int), .int .u8 (m.x.toNat : Int), .int .u8 (m.s.toNat : Int)], .nilIface]) ∧ Below w.heap.size w w' := by
  unfold maxLen at hs
  have HH : Hid (Heads w) := hH
  clear hH
  obtain ⟨h, hk, hm, he⟩ := h
  have h8 := five_size hk
  have hc : ∀ w, Heads w → Calls Tryd.prog 15 #[.string s] w fun e w' => e = .returned (.int .i64 3) ∧ ∃ n, w' = w.drewN n := fun w g => by have := named_any s w g; rw [h] at this; exact this
  have HW : Hid (∀ z w, z = min 8 s.size → Calls Tryd.prog 17 #[.string (s.extract 3 z)] w fun e w' => e = .returned (.int .i64 5) ∧ Below w.heap.size w w') := fun z w hz => by
    subst hz
    refine (wrong_any _ w).mono ?_
    rintro e w' ⟨⟨k', rfl, hk'⟩, b⟩
    exact ⟨by rw [wrong_five (by omega) hk hk'.out]; rfl, b⟩
  have h8i : (8 : Int) ≤ s.size := by omega
  have hms := m.str_size
  have e3 : s.data.toList.getD 3 0 = m.f := getD_five hm
  rw [e3] at he
  have i0 : ∀ w, (Instr.index 45 (.string m.str) (.int .i64 0)).run Tryd.prog w = .ok (.int .u8 (m.f.toNat : Int)) w := fun w => by kernel_rfl
  have i1 : ∀ w, (Instr.index 45 (.string m.str) (.int .i64 1)).run Tryd.prog w = .ok (.int .u8 (m.c.toNat : Int)) w := fun w => by kernel_rfl
  have i2 : ∀ w, (Instr.index 45 (.string m.str) (.int .i64 2)).run Tryd.prog w = .ok (.int .u8 (m.r.toNat : Int)) w := fun w => by kernel_rfl
  have i3 : ∀ w, (Instr.index 45 (.string m.str) (.int .i64 3)).run Tryd.prog w = .ok (.int .u8 (m.x.toNat : Int)) w := fun w => by kernel_rfl
  have i4 : ∀ w, (Instr.index 45 (.string m.str) (.int .i64 4)).run Tryd.prog w = .ok (.int .u8 (m.s.toNat : Int)) w := fun w => by kernel_rfl
  have HM : Hid (s.extract 3 8 = m.str) := hm
  clear h hk hm
  by_cases h9 : 8 < s.size
  · have h9i : (8 : Int) < s.size := by omega
    have e8 := get_bt (s := s) (p := 8) h9
    rw [e8] at he
    by_cases hc9 : s[8] = 13
    · have n1 : ((s[8].toNat : Int) != 13) = false := u8_eqn (b := 13) hc9
      clear he e8 e3 hc9
      go_enter Tryd.func6, Tryd.ntmps6
      go_wp2_with fail
      refine (hc _ (HH.out.alloc _)).mono ?_
      rintro e w1 ⟨rfl, nn1, rfl⟩
      go_wp2_with fail
      refine (HW.out 8 _ (by omega)).mono ?_
      rintro e w2 ⟨rfl, b2⟩
      have hc2 : ∀ o, w2.cell? ⟨w.heap.size, o, none⟩ = (w.alloc (.cells #[.int .u8 0, .int .u8 0, .int .u8 0, .int .u8 0, .int .u8 0] 23)).cell? ⟨w.heap.size, o, none⟩ := fun o => b2.cell (p := ⟨w.heap.size, o, none⟩) (by simp)
      have hf2 : ∀ o, w2.frozen? ⟨w.heap.size, o, none⟩ = (w.alloc (.cells #[.int .u8 0, .int .u8 0, .int .u8 0, .int .u8 0, .int .u8 0] 23)).frozen? ⟨w.heap.size, o, none⟩ := fun o => b2.frozen (p := ⟨w.heap.size, o, none⟩) (by simp)
      have HB2 : Hid (Below w.heap.size w w2) := below_then (below_drewN ((Below.refl _ _).alloc (Nat.le_refl _) _) _) b2
      clear b2
      rw [HM.out]
      go_wp2_with fail
      go_quiet (fail)
      go_wp2_with fail
      go_region
      go_wp2_with fail
      refine bodyPost_ret (v := .tuple #[.agg #[.int .u8 (m.f.toNat : Int), .int .u8 (m.c.toNat : Int), .int .u8 (m.r.toNat : Int), .int .u8 (m.x.toNat : Int), .int .u8 (m.s.toNat : Int)], .nilIface]) (by simp [results, Tryd.results6, go_sem, hc2]) rfl ⟨rfl, ?_⟩
      first | exact below_set5 (below_drewN (below_drewN HB2.out _) _) (Nat.le_refl _) | exact below_set5 (below_drewN HB2.out _) (Nat.le_refl _)
    · have n1 : ((s[8].toNat : Int) != 13) = true := u8_neq (b := 13) hc9
      have n2 := u8_eqn ((he h9).resolve_left hc9)
      clear he e8 e3 hc9
      go_enter Tryd.func6, Tryd.ntmps6
      go_wp2_with fail
      refine (hc _ (HH.out.alloc _)).mono ?_
      rintro e w1 ⟨rfl, nn1, rfl⟩
      go_wp2_with fail
      refine (HW.out 8 _ (by omega)).mono ?_
      rintro e w2 ⟨rfl, b2⟩
      have hc2 : ∀ o, w2.cell? ⟨w.heap.size, o, none⟩ = (w.alloc (.cells #[.int .u8 0, .int .u8 0, .int .u8 0, .int .u8 0, .int .u8 0] 23)).cell? ⟨w.heap.size, o, none⟩ := fun o => b2.cell (p := ⟨w.heap.size, o, none⟩) (by simp)
      have hf2 : ∀ o, w2.frozen? ⟨w.heap.size, o, none⟩ = (w.alloc (.cells #[.int .u8 0, .int .u8 0, .int .u8 0, .int .u8 0, .int .u8 0] 23)).frozen? ⟨w.heap.size, o, none⟩ := fun o => b2.frozen (p := ⟨w.heap.size, o, none⟩) (by simp)
      have HB2 : Hid (Below w.heap.size w w2) := below_then (below_drewN ((Below.refl _ _).alloc (Nat.le_refl _) _) _) b2
      clear b2
      rw [HM.out]
      go_wp2_with fail
      go_quiet (fail)
      go_wp2_with fail
      go_region
      go_wp2_with fail
      refine bodyPost_ret (v := .tuple #[.agg #[.int .u8 (m.f.toNat : Int), .int .u8 (m.c.toNat : Int), .int .u8 (m.r.toNat : Int), .int .u8 (m.x.toNat : Int), .int .u8 (m.s.toNat : Int)], .nilIface]) (by simp [results, Tryd.results6, go_sem, hc2]) rfl ⟨rfl, ?_⟩
      first | exact below_set5 (below_drewN (below_drewN HB2.out _) _) (Nat.le_refl _) | exact below_set5 (below_drewN HB2.out _) (Nat.le_refl _)
  · obtain h9e : s.size = 8 := by omega
    have h9i : ¬ (8 : Int) < s.size := by omega
    clear he e3
    go_enter Tryd.func6, Tryd.ntmps6
    go_wp2_with fail
    refine (hc _ (HH.out.alloc _)).mono ?_
    rintro e w1 ⟨rfl, nn1, rfl⟩
    go_wp2_with fail
    refine (HW.out 8 _ (by omega)).mono ?_
    rintro e w2 ⟨rfl, b2⟩
    have hc2 : ∀ o, w2.cell? ⟨w.heap.size, o, none⟩ = (w.alloc (.cells #[.int .u8 0, .int .u8 0, .int .u8 0, .int .u8 0, .int .u8 0] 23)).cell? ⟨w.heap.size, o, none⟩ := fun o => b2.cell (p := ⟨w.heap.size, o, none⟩) (by simp)
    have hf2 : ∀ o, w2.frozen? ⟨w.heap.size, o, none⟩ = (w.alloc (.cells #[.int .u8 0, .int .u8 0, .int .u8 0, .int .u8 0, .int .u8 0] 23)).frozen? ⟨w.heap.size, o, none⟩ := fun o => b2.frozen (p := ⟨w.heap.size, o, none⟩) (by simp)
    have HB2 : Hid (Below w.heap.size w w2) := below_then (below_drewN ((Below.refl _ _).alloc (Nat.le_refl _) _) _) b2
    clear b2
    rw [HM.out]
    go_wp2_with fail
    go_quiet (fail)
    go_wp2_with fail
    go_region
    go_wp2_with fail
    refine bodyPost_ret (v := .tuple #[.agg #[.int .u8 (m.f.toNat : Int), .int .u8 (m.c.toNat : Int), .int .u8 (m.r.toNat : Int), .int .u8 (m.x.toNat : Int), .int .u8 (m.s.toNat : Int)], .nilIface]) (by simp [results, Tryd.results6, go_sem, hc2]) rfl ⟨rfl, ?_⟩
    first | exact below_set5 (below_drewN (below_drewN HB2.out _) _) (Nat.le_refl _) | exact below_set5 (below_drewN HB2.out _) (Nat.le_refl _)
end Go.Proofs.YtcllcpjdoaeaiaaDoorRRR
