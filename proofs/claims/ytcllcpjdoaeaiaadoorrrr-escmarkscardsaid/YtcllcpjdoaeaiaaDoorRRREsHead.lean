/-
  Both Head.
-/
import Derived.Test.YtcllcpjdoaeaiaaDoorRRREsValid
import Derived.Test.YtcllcpjdoaeaiaaDoorRRREsName
namespace Go.Proofs.YtcllcpjdoaeaiaaDoorRRR
open Go.RowKit

/-- A name that is one of the three. -/
def isNm (s : ByteArray) : Bool := decide (s.size = 3) && decide (nmd s.data.toList 3 = 3)
theorem eq_of_list {s : ByteArray} {l : List UInt8} (h : s.data.toList = l) : s = ⟨l.toArray⟩ := by
  obtain ⟨⟨d⟩⟩ := s; simp at h; subst h; rfl
theorem isNm_iff (s : ByteArray) : isNm s = true ↔ (s = ⟨#[77, 83, 72]⟩ ∨ s = ⟨#[70, 72, 83]⟩ ∨ s = ⟨#[66, 72, 83]⟩) := by
  constructor
  · intro h
    simp only [isNm, Bool.and_eq_true, decide_eq_true_eq] at h
    obtain ⟨h1, h2⟩ := h
    have hl : s.data.toList.length = 3 := h1
    have key : ∀ n : List UInt8, n.length = 3 → cp s.data.toList n = 3 → s.data.toList = n := fun n hn hc => by
      have := (cp_take s.data.toList n 3 (by omega) (by omega)).2 (by omega)
      rwa [List.take_of_length_le (by omega), List.take_of_length_le (by omega)] at this
    have c1 := (cp_le s.data.toList MSH).2
    have c2 := (cp_le s.data.toList FHS).2
    have c3 := (cp_le s.data.toList BHS).2
    have e1 : MSH.length = 3 := rfl
    have e2 : FHS.length = 3 := rfl
    have e3 : BHS.length = 3 := rfl
    have hm : max (max (max 0 (cp s.data.toList MSH)) (cp s.data.toList FHS)) (cp s.data.toList BHS) = 3 := h2
    rcases (by omega : cp s.data.toList MSH = 3 ∨ cp s.data.toList FHS = 3 ∨ cp s.data.toList BHS = 3) with h | h | h
    · exact Or.inl (eq_of_list (key _ rfl h))
    · exact Or.inr (Or.inl (eq_of_list (key _ rfl h)))
    · exact Or.inr (Or.inr (eq_of_list (key _ rfl h)))
  · rintro (rfl | rfl | rfl) <;> decide

set_option maxRecDepth 100000 in
set_option maxHeartbeats 2000000 in
theorem Head_no (s : ByteArray) (m : Mk) (w : World) (hH : Heads w) (h : isNm s = false) : Calls Tryd.prog 10 #[.string s, .agg #[.int .u8 (m.f.toNat : Int), .int .u8 (m.c.toNat : Int), .int .u8 (m.r.toNat : Int), .int .u8 (m.x.toNat : Int), .int .u8 (m.s.toNat : Int)]] w fun e w' => ∃ v, e = .returned (.tuple #[.string ⟨#[]⟩, v]) ∧ Ev w' v 0 101 ∧ Below w.heap.size w w' := by
  have HH : Hid (Heads w) := hH
  clear hH
  by_cases h3 : s.size = 3
  · have hq : ¬ nmd s.data.toList 3 = 3 := by simp [isNm, h3] at h; exact h
    obtain ⟨q, hq2⟩ : ∃ q : Nat, nmd s.data.toList 3 = q := ⟨_, rfl⟩
    rw [hq2] at hq
    have hq3 : (((q : Int)) == 3) = false := by simp; omega
    have hc : ∀ w, Heads w → Calls Tryd.prog 15 #[.string s] w fun e w' => e = .returned (.int .i64 q) ∧ ∃ n, w' = w.drewN n := fun w g => by have := named_any s w g; rw [hq2] at this; exact this
    clear hq hq2 h
    go_enter Tryd.func10, Tryd.ntmps10
    go_wp2_with fail
    refine (hc _ (HH.out.alloc _)).mono ?_
    rintro e w1 ⟨rfl, n1, hw1⟩
    have HB : Hid (Below w.heap.size w w1) := by unfold Hid; rw [hw1]; exact below_drewN ((Below.refl _ _).alloc (Nat.le_refl _) _) _
    clear hw1
    go_wp2_with fail
    refine (efault_any _ _ _).mono ?_
    rintro e w2 ⟨rfl, f2, b2⟩
    have H2 : Hid (EFault w2 w1.heap.size 0 101 ∧ Below w.heap.size w w2) := ⟨f2, below_then HB.out b2⟩
    clear f2 b2
    go_wp2_with fail
    refine bodyPost_ret (v := .tuple #[.string ⟨#[]⟩, .iface 50 (.pointer (some ⟨w1.heap.size, 0, none⟩))]) (by simp [results, Tryd.results10, go_sem]) rfl ⟨_, rfl, Or.inr ⟨by decide, _, rfl, H2.out.1⟩, H2.out.2⟩
  · have h3i : ((s.size : Int) == 3) = false := by simp; omega
    clear h
    go_enter Tryd.func10, Tryd.ntmps10
    go_wp2_with fail
    refine (efault_any _ _ _).mono ?_
    rintro e w2 ⟨rfl, f2, b2⟩
    have H2 : Hid (EFault w2 (w.heap.size + 1) 0 101 ∧ Below w.heap.size w w2) := ⟨by simpa using f2, below_then ((Below.refl _ _).alloc (Nat.le_refl _) _) b2⟩
    clear f2 b2
    go_wp2_with fail
    refine bodyPost_ret (v := .tuple #[.string ⟨#[]⟩, .iface 50 (.pointer (some ⟨w.heap.size + 1, 0, none⟩))]) (by simp [results, Tryd.results10, go_sem]) rfl ⟨_, rfl, Or.inr ⟨by decide, _, rfl, H2.out.1⟩, H2.out.2⟩
set_option maxRecDepth 100000 in
set_option maxHeartbeats 2000000 in
theorem Head_bad (s : ByteArray) (m : Mk) (n : Nat) (w : World) (hH : Heads w) (h : isNm s = true) (hn : Wrong m.l 5 n) (h5 : n < 5) : Calls Tryd.prog 10 #[.string s, .agg #[.int .u8 (m.f.toNat : Int), .int .u8 (m.c.toNat : Int), .int .u8 (m.r.toNat : Int), .int .u8 (m.x.toNat : Int), .int .u8 (m.s.toNat : Int)]] w fun e w' => ∃ v, e = .returned (.tuple #[.string ⟨#[]⟩, v]) ∧ Ev w' v n 100 ∧ Below w.heap.size w w' := by
  have HH : Hid (Heads w ∧ Wrong m.l 5 n) := ⟨hH, hn⟩
  simp only [isNm, Bool.and_eq_true, decide_eq_true_eq] at h
  obtain ⟨h3, h4⟩ := h
  have hc : ∀ w, Heads w → Calls Tryd.prog 15 #[.string s] w fun e w' => e = .returned (.int .i64 3) ∧ ∃ n, w' = w.drewN n := fun w g => by have := named_any s w g; rw [h4] at this; exact this
  clear hH hn h4
  go_enter Tryd.func10, Tryd.ntmps10
  go_wp2_with fail
  refine (hc _ (HH.out.1.alloc _)).mono ?_
  rintro e w1 ⟨rfl, n1, rfl⟩
  have HB : Hid (Below w.heap.size w ((w.alloc (.cells #[.int .u8 (m.f.toNat : Int), .int .u8 (m.c.toNat : Int), .int .u8 (m.r.toNat : Int), .int .u8 (m.x.toNat : Int), .int .u8 (m.s.toNat : Int)] 23)).drewN n1)) := below_drewN ((Below.refl _ _).alloc (Nat.le_refl _) _) _
  go_wp2_with fail
  refine (Valid_bad m n _ HH.out.2 h5).mono ?_
  rintro e w2 ⟨v, rfl, e2, b2⟩
  have H2 : Hid (Ev w2 v n 100 ∧ Below w.heap.size w w2) := ⟨e2, below_then HB.out b2⟩
  rcases e2 with ⟨_, hz⟩ | ⟨_, b, rfl, _⟩
  · cases hz
  · clear b2 HB
    go_wp2_with fail
    refine bodyPost_ret (v := .tuple #[.string ⟨#[]⟩, .iface 50 (.pointer (some ⟨b, 0, none⟩))]) (by simp [results, Tryd.results10, go_sem]) rfl ⟨_, rfl, H2.out.1, H2.out.2⟩
set_option maxRecDepth 100000 in
set_option maxHeartbeats 2000000 in
theorem Head_ok (s : ByteArray) (m : Mk) (w : World) (hH : Heads w) (h : isNm s = true) (hn : Wrong m.l 5 5) : Calls Tryd.prog 10 #[.string s, .agg #[.int .u8 (m.f.toNat : Int), .int .u8 (m.c.toNat : Int), .int .u8 (m.r.toNat : Int), .int .u8 (m.x.toNat : Int), .int .u8 (m.s.toNat : Int)]] w fun e w' => e = .returned (.tuple #[.string (s ++ m.str), .nilIface]) ∧ Below w.heap.size w w' := by
  have HH : Hid (Heads w ∧ Wrong m.l 5 5) := ⟨hH, hn⟩
  simp only [isNm, Bool.and_eq_true, decide_eq_true_eq] at h
  obtain ⟨h3, h4⟩ := h
  have hsz := m.str_size
  have hc : ∀ w, Heads w → Calls Tryd.prog 15 #[.string s] w fun e w' => e = .returned (.int .i64 3) ∧ ∃ n, w' = w.drewN n := fun w g => by have := named_any s w g; rw [h4] at this; exact this
  clear hH hn h4
  go_enter Tryd.func10, Tryd.ntmps10
  go_wp2_with fail
  refine (hc _ (HH.out.1.alloc _)).mono ?_
  rintro e w1 ⟨rfl, n1, rfl⟩
  have HB : Hid (Below w.heap.size w ((w.alloc (.cells #[.int .u8 (m.f.toNat : Int), .int .u8 (m.c.toNat : Int), .int .u8 (m.r.toNat : Int), .int .u8 (m.x.toNat : Int), .int .u8 (m.s.toNat : Int)] 23)).drewN n1)) := below_drewN ((Below.refl _ _).alloc (Nat.le_refl _) _) _
  go_wp2_with fail
  refine (Valid_ok m _ HH.out.2).mono ?_
  rintro e w2 ⟨rfl, b2⟩
  have HB2 : Hid (Below w.heap.size w w2) := below_then HB.out b2
  obtain ⟨hcl, _⟩ : (∀ b o, b < ((w.alloc (.cells #[.int .u8 (m.f.toNat : Int), .int .u8 (m.c.toNat : Int), .int .u8 (m.r.toNat : Int), .int .u8 (m.x.toNat : Int), .int .u8 (m.s.toNat : Int)] 23)).drewN n1).heap.size → w2.cell? ⟨b, o, none⟩ = ((w.alloc (.cells #[.int .u8 (m.f.toNat : Int), .int .u8 (m.c.toNat : Int), .int .u8 (m.r.toNat : Int), .int .u8 (m.x.toNat : Int), .int .u8 (m.s.toNat : Int)] 23)).drewN n1).cell? ⟨b, o, none⟩) ∧ True := ⟨fun b o g => b2.cell (p := ⟨b, o, none⟩) g, trivial⟩
  clear b2 HB
  go_wp2_with fail
  refine (of_any m _).mono ?_
  rintro e w3 ⟨rfl, b3⟩
  have HB3 : Hid (Below w.heap.size w w3) := below_then HB2.out b3
  clear b3 hcl HB2
  go_wp2_with fail
  refine bodyPost_ret (v := .tuple #[.string (s ++ m.str), .nilIface]) (by simp [results, Tryd.results10, go_sem]) rfl ⟨rfl, HB3.out⟩
end Go.Proofs.YtcllcpjdoaeaiaaDoorRRR
