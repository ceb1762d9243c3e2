/-
  The names of heads: named, and the document's name.
-/
import Derived.Test.YtcllcpjdoaeaiaaDoorRRREsMk
namespace Go.Proofs.YtcllcpjdoaeaiaaDoorRRR
open Go.RowKit

/-- How many bytes two texts have in common from the left. -/
def cp : List UInt8 → List UInt8 → Nat
  | a :: l, b :: n => if a = b then cp l n + 1 else 0
  | _, _ => 0
theorem cp_le : ∀ (l n : List UInt8), cp l n ≤ l.length ∧ cp l n ≤ n.length
  | [], _ => by simp [cp]
  | _ :: _, [] => by simp [cp]
  | a :: l, b :: n => by
    have := cp_le l n
    unfold cp
    split <;> simp <;> omega
theorem cp_is : ∀ (l n : List UInt8) (k : Nat), k ≤ l.length → k ≤ n.length → (∀ j, j < k → l.getD j 0 = n.getD j 0) → (k < l.length → k < n.length → l.getD k 0 ≠ n.getD k 0) → cp l n = k
  | [], n, k, h, _, _, _ => by
    obtain rfl : k = 0 := by simpa using h
    unfold cp; rfl
  | a :: l, [], k, _, h, _, _ => by
    obtain rfl : k = 0 := by simpa using h
    unfold cp; rfl
  | a :: l, b :: n, 0, _, _, _, h => by
    have := h (by simp) (by simp)
    simp only [List.getD_cons_zero] at this
    unfold cp; rw [if_neg this]
  | a :: l, b :: n, k + 1, h1, h2, h3, h4 => by
    have e := h3 0 (by omega)
    simp only [List.getD_cons_zero] at e
    unfold cp
    rw [if_pos e]
    congr 1
    refine cp_is l n k (by simpa using h1) (by simpa using h2) (fun j hj => by simpa using h3 (j + 1) (by omega)) (fun q1 q2 => by simpa using h4 (by simp; omega) (by simp; omega))
theorem cp_take : ∀ (l n : List UInt8) (k : Nat), k ≤ l.length → k ≤ n.length → (l.take k = n.take k ↔ k ≤ cp l n)
  | _, _, 0, _, _ => by simp
  | [], n, k + 1, h, _ => by simp at h
  | a :: l, [], k + 1, _, h => by simp at h
  | a :: l, b :: n, k + 1, h1, h2 => by
    have := cp_take l n k (by simpa using h1) (by simpa using h2)
    unfold cp
    simp only [List.take_succ_cons, List.cons.injEq]
    split
    · rw [this]; constructor
      · intro g; omega
      · intro g; exact ⟨‹_›, by omega⟩
    · constructor
      · intro g; exact absurd g.1 ‹_›
      · intro g; omega
def MSH : List UInt8 := [77, 83, 72]
def FHS : List UInt8 := [70, 72, 83]
def BHS : List UInt8 := [66, 72, 83]
def nm : Nat → List UInt8
  | 0 => MSH
  | 1 => FHS
  | _ => BHS
theorem nm_len (i : Nat) : (nm i).length = 3 := by
  unfold nm; split <;> rfl
/-- How many first bytes of a text one of the first i names goes on with. -/
def nmd (l : List UInt8) : Nat → Nat
  | 0 => 0
  | i + 1 => max (nmd l i) (cp l (nm i))
theorem nmd_le (l : List UInt8) : ∀ i, nmd l i ≤ l.length ∧ nmd l i ≤ 3
  | 0 => by simp [nmd]
  | i + 1 => by
    have h1 := nmd_le l i
    have h2 := cp_le l (nm i)
    rw [nm_len] at h2
    unfold nmd; omega
theorem nmd_mono (l : List UInt8) (i : Nat) : nmd l i ≤ nmd l (i + 1) := by
  show nmd l i ≤ max (nmd l i) (cp l (nm i)); omega
/-- The names in their variable. -/
def Heads (w : World) : Prop := w.cell? ⟨0, 0, none⟩ = some (.string ⟨#[77, 83, 72]⟩) ∧ w.cell? ⟨0, 1, none⟩ = some (.string ⟨#[70, 72, 83]⟩) ∧ w.cell? ⟨0, 2, none⟩ = some (.string ⟨#[66, 72, 83]⟩)
theorem Heads.below {w w' : World} (h : Heads w) (hb : Below w.heap.size w w') : Heads w' := by
  have hl : 0 < w.heap.size := cell_lt h.1
  have hc : ∀ o, w'.cell? ⟨0, o, none⟩ = w.cell? ⟨0, o, none⟩ := fun o => hb.cell (p := ⟨0, o, none⟩) hl
  exact ⟨by rw [hc]; exact h.1, by rw [hc]; exact h.2.1, by rw [hc]; exact h.2.2⟩
theorem Heads.alloc {w : World} (h : Heads w) (o : Obj) : Heads (w.alloc o) := h.below ((Below.refl _ _).alloc (Nat.le_refl _) _)
/-- A name as a string. -/
def nmS (i : Nat) : ByteArray := ⟨(nm i).toArray⟩
theorem nmS_size (i : Nat) : (nmS i).size = 3 := nm_len i
theorem nmS_l (i : Nat) : (nmS i).data.toList = nm i := by simp [nmS]
theorem index3 (i : Nat) (hi : i < 3) (w : World) : (Instr.index 61 (.agg #[.string ⟨#[77, 83, 72]⟩, .string ⟨#[70, 72, 83]⟩, .string ⟨#[66, 72, 83]⟩]) (.int .i64 (i : Int))).run Tryd.prog w = .ok (.string (nmS i)) w := by
  rcases (by omega : i = 0 ∨ i = 1 ∨ i = 2) with rfl | rfl | rfl <;> kernel_rfl
theorem u8_beq {a b : UInt8} {q : Bool} (h : (a == b) = q) : ((a.toNat : Int) == b.toNat) = q := by
  rw [← h]
  by_cases e : a = b
  · subst e; simp
  · rw [show (a == b) = false by simpa using e, beq_eq_false_iff_ne]; intro g; exact e (UInt8.toNat_inj.1 (by omega))
set_option maxRecDepth 100000 in
set_option maxHeartbeats 4000000 in
theorem named_any (s : ByteArray) (w : World) (hH : Heads w) : Calls Tryd.prog 15 #[.string s] w fun e w' => e = .returned (.int .i64 (nmd s.data.toList 3)) ∧ ∃ n, w' = w.drewN n := by
  obtain ⟨g0, g1, g2⟩ := hH
  go_enter Tryd.func15, Tryd.ntmps15
  go_wp2_with fail
  clear g0 g1 g2
  go_loopw [3, 8] (fun t3 t8 wx => ∃ i x : Nat, i ≤ 3 ∧ t8 = .int .i64 i ∧ t3 = .int .i64 (nmd s.data.toList i) ∧ wx = w.drewN x) (fun _ t8 _ => 3 - (intOf t8).toNat)
  case atStart => exact ⟨0, 0, Nat.zero_le _, rfl, rfl, (World.drewN_zero _).symm⟩
  case round =>
    obtain ⟨i, x, hi, rfl, rfl, rfl⟩ := hrel
    by_cases hlt : i < 3
    · have hlti : (i : Int) < 3 := by omega
      have hix := index3 i hlt
      have hz := nmS_size i
      obtain ⟨N, hN⟩ : ∃ N, nmS i = N := ⟨_, rfl⟩
      rw [hN] at hix hz
      have HN : Hid (N.data.toList = nm i) := by unfold Hid; rw [← hN]; exact nmS_l i
      have hm := (nmd_le s.data.toList i).2
      obtain ⟨mx, hmx⟩ : ∃ mx, nmd s.data.toList i = mx := ⟨_, rfl⟩
      rw [hmx] at hm ⊢
      have HMX : Hid (nmd s.data.toList i = mx) := hmx
      clear hN hmx
      go_wp2_with fail
      go_loopw [6] (fun t6 wx => ∃ k y : Nat, k ≤ 3 ∧ k ≤ s.size ∧ t6 = .int .i64 k ∧ wx = w.drewN y ∧ Hid (∀ j, j < k → s.data.toList.getD j 0 = N.data.toList.getD j 0)) (fun t6 _ => 3 - (intOf t6).toNat)
      case atStart => exact ⟨0, x, Nat.zero_le _, Nat.zero_le _, rfl, rfl, fun _ h => absurd h (by omega)⟩
      case round =>
        obtain ⟨k, y, hk3, hks, rfl, rfl, HK⟩ := hrel
        have fin : Hid ((k < s.size → k < 3 → s.data.toList.getD k 0 ≠ N.data.toList.getD k 0) → nmd s.data.toList (i + 1) = max mx k) := fun g => by
          show max (nmd s.data.toList i) (cp s.data.toList (nm i)) = _
          rw [HMX.out, ← HN.out, cp_is s.data.toList N.data.toList k (by simpa using hks) (by rw [HN.out, nm_len]; exact hk3) HK.out (fun q1 q2 => g (by simpa using q1) (by rw [HN.out, nm_len] at q2; exact q2))]
        by_cases c1 : k < 3
        · have c1i : (k : Int) < 3 := by omega
          by_cases c2 : k < s.size
          · have c2i : (k : Int) < s.size := by omega
            have c3 : k < N.size := by omega
            obtain ⟨q, hq⟩ : ∃ q, (s[k] == N[k]) = q := ⟨_, rfl⟩
            have hqi := u8_beq hq
            have HQ : Hid ((s.data.toList.getD k 0 == N.data.toList.getD k 0) = q) := by unfold Hid; rw [get_bt c2, get_bt c3]; exact hq
            clear hq
            cases q with
            | true =>
              go_wp2_with fail
              go_quiet (fail)
              go_wp2_with fail
              go_roundw
              case rel =>
                refine ⟨k + 1, _, by omega, by omega, by go_num, by first | rfl | exact drew2 _ _ _, fun j hj => ?_⟩
                rcases Nat.lt_or_ge j k with g | g
                · exact HK.out j g
                · obtain rfl : j = k := by omega
                  exact eq_of_beq HQ.out
              case measure => simp [intOf]; omega
            | false =>
              have hfin := fin.out (fun _ _ g => by have := HQ.out; rw [g] at this; simp at this)
              have HF : Hid (nmd s.data.toList (i + 1) = max mx k) := hfin
              clear hfin
              go_wp2_with fail
              go_quiet (fail)
              go_wp2_with fail
              go_roundw
              case rel => exact ⟨i + 1, _, by omega, by go_num, by rw [HF.out]; first | rfl | go_num | (congr 1; omega), by first | rfl | exact drew2 _ _ _⟩
              case measure => simp [intOf]; omega
          · have hfin := fin.out (fun q => absurd q c2)
            have HF : Hid (nmd s.data.toList (i + 1) = max mx k) := hfin
            clear hfin
            have c2i : ¬ (k : Int) < s.size := by omega
            have hd : decide ((k : Int) < s.size) = false := by simpa using c2i
            go_wp2_with fail
            go_quiet (fail)
            go_wp2_with fail
            go_roundw
            case rel => exact ⟨i + 1, _, by omega, by go_num, by rw [HF.out]; first | rfl | go_num | (congr 1; omega), by first | rfl | exact drew2 _ _ _⟩
            case measure => simp [intOf]; omega
        · have hfin := fin.out (fun _ q => absurd q c1)
          have HF : Hid (nmd s.data.toList (i + 1) = max mx k) := hfin
          clear hfin
          have c1i : ¬ (k : Int) < 3 := by omega
          have hd : decide ((k : Int) < 3) = false := by simpa using c1i
          go_wp2_with fail
          go_quiet (fail)
          go_wp2_with fail
          go_roundw
          case rel => exact ⟨i + 1, _, by omega, by go_num, by rw [HF.out]; first | rfl | go_num | (congr 1; omega), by first | rfl | exact drew2 _ _ _⟩
          case measure => simp [intOf]; omega
    · obtain rfl : i = 3 := by omega
      go_wp2_with fail
      go_ret
      exact ⟨rfl, x, rfl⟩
end Go.Proofs.YtcllcpjdoaeaiaaDoorRRR
