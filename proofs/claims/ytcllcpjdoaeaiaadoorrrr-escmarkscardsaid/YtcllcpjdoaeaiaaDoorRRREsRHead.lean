/-
  The document's Head; the law EscMarks.
-/
import Derived.Test.YtcllcpjdoaeaiaaDoorRRREsHead
namespace Go.Proofs.YtcllcpjdoaeaiaaDoorRRR
open Go.RowKit

theorem str_ne {s : ByteArray} {l : List UInt8} (h : s ≠ ⟨l.toArray⟩) : ¬ s.toList = l := by
  intro g
  rw [Lib.toList_data] at g
  exact h (eq_of_list g)
set_option maxRecDepth 100000 in
set_option maxHeartbeats 2000000 in
theorem rHead_no (s : ByteArray) (m : Mk) (w : World) (h : isNm s = false) : Calls Tryd.prog 11 #[.string s, .agg #[.int .u8 (m.f.toNat : Int), .int .u8 (m.c.toNat : Int), .int .u8 (m.r.toNat : Int), .int .u8 (m.x.toNat : Int), .int .u8 (m.s.toNat : Int)]] w fun e w' => e = .returned (.tuple #[.string ⟨#[]⟩, .int .i64 0, .int .i64 101]) ∧ Below w.heap.size w w' := by
  have hn : ¬ (s = ⟨#[77, 83, 72]⟩ ∨ s = ⟨#[70, 72, 83]⟩ ∨ s = ⟨#[66, 72, 83]⟩) := fun g => by rw [(isNm_iff s).2 g] at h; cases h
  have h1 : s ≠ ⟨#[77, 83, 72]⟩ := fun g => hn (Or.inl g)
  have h2 : s ≠ ⟨#[70, 72, 83]⟩ := fun g => hn (Or.inr (Or.inl g))
  have h3 : s ≠ ⟨#[66, 72, 83]⟩ := fun g => hn (Or.inr (Or.inr g))
  have k1 : (s.toList == [77, 83, 72]) = false := beq_eq_false_iff_ne.2 (str_ne (l := [77, 83, 72]) h1)
  have k2 : (s.toList == [70, 72, 83]) = false := beq_eq_false_iff_ne.2 (str_ne (l := [70, 72, 83]) h2)
  have k3 : (s.toList == [66, 72, 83]) = false := beq_eq_false_iff_ne.2 (str_ne (l := [66, 72, 83]) h3)
  clear hn h h1 h2 h3
  go_enter Tryd.func11, Tryd.ntmps11
  go_wp2_with fail
  refine bodyPost_ret (v := .tuple #[.string ⟨#[]⟩, .int .i64 0, .int .i64 101]) (by simp [results, Tryd.results11, go_sem]) rfl ⟨rfl, (Below.refl _ _).alloc (Nat.le_refl _) _⟩
def HOut (s : ByteArray) (m : Mk) (n : Nat) (e : Ending) : Prop := (n < 5 ∧ e = .returned (.tuple #[.string ⟨#[]⟩, .int .i64 n, .int .i64 100])) ∨ (n = 5 ∧ e = .returned (.tuple #[.string (s ++ m.str), .int .i64 0, .int .i64 0]))
set_option maxRecDepth 100000 in
set_option maxHeartbeats 4000000 in
theorem rHead_nm (s : ByteArray) (m : Mk) (n : Nat) (w : World) (h : isNm s = true) (hn : Wrong m.l 5 n) : Calls Tryd.prog 11 #[.string s, .agg #[.int .u8 (m.f.toNat : Int), .int .u8 (m.c.toNat : Int), .int .u8 (m.r.toNat : Int), .int .u8 (m.x.toNat : Int), .int .u8 (m.s.toNat : Int)]] w fun e w' => HOut s m n e ∧ Below w.heap.size w w' := by
  have HN : Hid (Wrong m.l 5 n) := hn
  have hsz := m.str_size
  clear hn
  have hcv := fun (w : World) (n : Nat) (hn : w.heap.size = n) => conv5 w n hn m 9 Tryd.underlying9
  have h3 : s.size = 3 := by rcases (isNm_iff s).1 h with rfl | rfl | rfl <;> rfl
  have hk : (s.toList == [77, 83, 72]) = true ∨ ((s.toList == [77, 83, 72]) = false ∧ (s.toList == [70, 72, 83]) = true) ∨ ((s.toList == [77, 83, 72]) = false ∧ (s.toList == [70, 72, 83]) = false ∧ (s.toList == [66, 72, 83]) = true) := by
    rcases (isNm_iff s).1 h with rfl | rfl | rfl <;> simp [Lib.toList_data]
  clear h
  rcases hk with k1 | ⟨k1, k2⟩ | ⟨k1, k2, k3⟩
  all_goals
    go_enter Tryd.func11, Tryd.ntmps11
    go_wp2_with fail
    refine (rValid_any m _).mono ?_
    rintro e w1 ⟨⟨k, hk, hr⟩, b1⟩
    have HB1 : Hid (Below w.heap.size w w1) := below_then ((Below.refl _ _).alloc (Nat.le_refl _) _) b1
    obtain ⟨hcl, _⟩ : (∀ b o, b < (w.alloc (.cells #[.int .u8 (m.f.toNat : Int), .int .u8 (m.c.toNat : Int), .int .u8 (m.r.toNat : Int), .int .u8 (m.x.toNat : Int), .int .u8 (m.s.toNat : Int)] 23)).heap.size → w1.cell? ⟨b, o, none⟩ = (w.alloc (.cells #[.int .u8 (m.f.toNat : Int), .int .u8 (m.c.toNat : Int), .int .u8 (m.r.toNat : Int), .int .u8 (m.x.toNat : Int), .int .u8 (m.s.toNat : Int)] 23)).cell? ⟨b, o, none⟩) ∧ True := ⟨fun b o g => b1.cell (p := ⟨b, o, none⟩) g, trivial⟩
    obtain rfl : n = k := HN.out.one hk.out
    clear hk b1 HN
    rcases hr with ⟨h5, rfl⟩ | ⟨h5, rfl⟩
    · clear hcv
      go_wp2_with fail
      refine bodyPost_ret (v := .tuple #[.string ⟨#[]⟩, .int .i64 n, .int .i64 100]) (by simp [results, Tryd.results11, go_sem]) rfl ⟨Or.inl ⟨h5, rfl⟩, HB1.out⟩
    · subst h5
      go_wp2_with fail
      refine (Five_any m _).mono ?_
      rintro e w2 ⟨rfl, b2⟩
      have HB2 : Hid (Below w.heap.size w w2) := below_then HB1.out b2
      clear b2 hcl HB1
      have hcv2 := hcv (w2.alloc (.cells #[.int .u8 (m.f.toNat : Int), .int .u8 (m.c.toNat : Int), .int .u8 (m.r.toNat : Int), .int .u8 (m.x.toNat : Int), .int .u8 (m.s.toNat : Int)] 48)) (w2.heap.size + 1) (by simp)
      clear hcv
      go_wp2_with fail
      refine bodyPost_ret (v := .tuple #[.string (s ++ m.str), .int .i64 0, .int .i64 0]) (by simp [results, Tryd.results11, go_sem]) rfl ⟨Or.inr ⟨rfl, rfl⟩, ?_⟩
      exact (HB2.out.alloc HB2.out.size _).alloc (by have := HB2.out.size; simp; omega) _
end Go.Proofs.YtcllcpjdoaeaiaaDoorRRR
