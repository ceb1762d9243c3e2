/-
  EscMarks: the walk.
-/
import Derived.Test.YtcllcpjdoaeaiaaDoorRRREsRHead
namespace Go.Proofs.YtcllcpjdoaeaiaaDoorRRR
open Go.RowKit

theorem marksPair (m : Mk) : ∃ a c : Int, (∀ w, Calls Tryd.prog 9 #[.agg #[.int .u8 (m.f.toNat : Int), .int .u8 (m.c.toNat : Int), .int .u8 (m.r.toNat : Int), .int .u8 (m.x.toNat : Int), .int .u8 (m.s.toNat : Int)]] w fun e w' => e = .returned (.tuple #[.int .i64 a, .int .i64 c]) ∧ Below w.heap.size w w') ∧ (∀ w, Calls Tryd.prog 12 #[.agg #[.int .u8 (m.f.toNat : Int), .int .u8 (m.c.toNat : Int), .int .u8 (m.r.toNat : Int), .int .u8 (m.x.toNat : Int), .int .u8 (m.s.toNat : Int)]] w fun e w' => ∃ v, e = .returned v ∧ Ev w' v a c ∧ Below w.heap.size w w') := by
  obtain ⟨n, hn⟩ := wrong_ex m.l 5
  by_cases h5 : n < 5
  · refine ⟨n, 100, fun w => (rValid_any m w).mono ?_, fun w => Valid_bad m n w hn h5⟩
    rintro e w' ⟨⟨k, hk, hr⟩, hb⟩
    obtain rfl : n = k := hn.one hk.out
    rcases hr with ⟨_, rfl⟩ | ⟨h, _⟩
    · exact ⟨rfl, hb⟩
    · omega
  · obtain rfl : n = 5 := by have := hn.le; omega
    refine ⟨0, 0, fun w => (rValid_any m w).mono ?_, fun w => (Valid_ok m w hn).mono ?_⟩
    · rintro e w' ⟨⟨k, hk, hr⟩, hb⟩
      obtain rfl : 5 = k := hn.one hk.out
      rcases hr with ⟨h, _⟩ | ⟨_, rfl⟩
      · omega
      · exact ⟨rfl, hb⟩
    · rintro e w' ⟨rfl, hb⟩
      exact ⟨_, rfl, Or.inl ⟨rfl, rfl⟩, hb⟩
theorem headPair (s : ByteArray) (m : Mk) : ∃ (t : ByteArray) (a c : Int), (∀ w, Heads w → Calls Tryd.prog 10 #[.string s, .agg #[.int .u8 (m.f.toNat : Int), .int .u8 (m.c.toNat : Int), .int .u8 (m.r.toNat : Int), .int .u8 (m.x.toNat : Int), .int .u8 (m.s.toNat : Int)]] w fun e w' => ∃ v, e = .returned (.tuple #[.string t, v]) ∧ Ev w' v a c ∧ Below w.heap.size w w') ∧ (∀ w, Calls Tryd.prog 11 #[.string s, .agg #[.int .u8 (m.f.toNat : Int), .int .u8 (m.c.toNat : Int), .int .u8 (m.r.toNat : Int), .int .u8 (m.x.toNat : Int), .int .u8 (m.s.toNat : Int)]] w fun e w' => e = .returned (.tuple #[.string t, .int .i64 a, .int .i64 c]) ∧ Below w.heap.size w w') := by
  cases h : isNm s with
  | false => exact ⟨_, 0, 101, fun w hH => Head_no s m w hH h, fun w => rHead_no s m w h⟩
  | true =>
    obtain ⟨n, hn⟩ := wrong_ex m.l 5
    by_cases h5 : n < 5
    · refine ⟨_, n, 100, fun w hH => Head_bad s m n w hH h hn h5, fun w => (rHead_nm s m n w h hn).mono ?_⟩
      rintro e w' ⟨hr, hb⟩
      rcases hr with ⟨_, rfl⟩ | ⟨h, _⟩
      · exact ⟨rfl, hb⟩
      · omega
    · obtain rfl : n = 5 := by have := hn.le; omega
      refine ⟨s ++ m.str, 0, 0, fun w hH => (Head_ok s m w hH h hn).mono ?_, fun w => (rHead_nm s m 5 w h hn).mono ?_⟩
      · rintro e w' ⟨rfl, hb⟩
        exact ⟨_, rfl, Or.inl ⟨rfl, rfl⟩, hb⟩
      · rintro e w' ⟨hr, hb⟩
        rcases hr with ⟨h, _⟩ | ⟨_, rfl⟩
        · omega
        · exact ⟨rfl, hb⟩
set_option maxRecDepth 100000 in
set_option maxHeartbeats 4000000 in
theorem marks_law (m : Mk) (s : ByteArray) (w : World) (_hs : s.size ≤ maxLen) (hH : Heads w) : Calls Tryd.prog 4 #[.agg #[.int .u8 (m.f.toNat : Int), .int .u8 (m.c.toNat : Int), .int .u8 (m.r.toNat : Int), .int .u8 (m.x.toNat : Int), .int .u8 (m.s.toNat : Int)], .string s] w fun e w' => e = .returned (.bool true) ∧ Below w.heap.size w w' := by
  have HH : Hid (Heads w) := hH
  clear hH
  obtain ⟨a, c, h1, h2⟩ := marksPair m
  obtain ⟨t, x, y, h3, h4⟩ := headPair s m
  go_enter Tryd.func4, Tryd.ntmps4
  go_wp2_with fail
  refine (h1 _).mono ?_
  rintro e w1 ⟨rfl, b1⟩
  have HB1 : Hid (Below w.heap.size w w1) := below_then ((Below.refl _ _).alloc (Nat.le_refl _) _) b1
  have c1 : ∀ o, w1.cell? ⟨w.heap.size, o, none⟩ = (w.alloc (.cells #[.int .u8 (m.f.toNat : Int), .int .u8 (m.c.toNat : Int), .int .u8 (m.r.toNat : Int), .int .u8 (m.x.toNat : Int), .int .u8 (m.s.toNat : Int)] 23)).cell? ⟨w.heap.size, o, none⟩ := fun o => b1.cell (p := ⟨w.heap.size, o, none⟩) (by simp)
  have hl1 : w.heap.size < w1.heap.size := by have := b1.size; simp at this; omega
  clear b1 h1
  go_wp2_with fail
  refine (h3 _ (HH.out.below HB1.out)).mono ?_
  rintro e w2 ⟨v2, rfl, e2, b2⟩
  have H2 : Hid (Ev w2 v2 x y ∧ Below w.heap.size w w2) := ⟨e2, below_then HB1.out b2⟩
  have c2 : ∀ o, w2.cell? ⟨w.heap.size, o, none⟩ = (w.alloc (.cells #[.int .u8 (m.f.toNat : Int), .int .u8 (m.c.toNat : Int), .int .u8 (m.r.toNat : Int), .int .u8 (m.x.toNat : Int), .int .u8 (m.s.toNat : Int)] 23)).cell? ⟨w.heap.size, o, none⟩ := fun o => (b2.cell (p := ⟨w.heap.size, o, none⟩) hl1).trans (c1 o)
  have hl2 : w.heap.size < w2.heap.size := by have := b2.size; omega
  clear b2 h3 e2 c1 HB1
  go_wp2_with fail
  refine (h4 _).mono ?_
  rintro e w3 ⟨rfl, b3⟩
  have H3 : Hid (Ev w3 v2 x y ∧ Below w.heap.size w w3) := ⟨H2.out.1.below b3, below_then H2.out.2 b3⟩
  have c3 : ∀ o, w3.cell? ⟨w.heap.size, o, none⟩ = (w.alloc (.cells #[.int .u8 (m.f.toNat : Int), .int .u8 (m.c.toNat : Int), .int .u8 (m.r.toNat : Int), .int .u8 (m.x.toNat : Int), .int .u8 (m.s.toNat : Int)] 23)).cell? ⟨w.heap.size, o, none⟩ := fun o => (b3.cell (p := ⟨w.heap.size, o, none⟩) hl2).trans (c2 o)
  clear b3 h4 c2 H2
  go_wp2_with fail
  refine (h2 _).mono ?_
  rintro e w4 ⟨v4, rfl, e4, b4⟩
  have H4 : Hid (Ev w4 v2 x y ∧ Ev w4 v4 a c ∧ Below w.heap.size w w4) := ⟨H3.out.1.below b4, e4, below_then H3.out.2 b4⟩
  clear b4 h2 e4 c3 H3
  go_wp2_with fail
  refine (refused_any H4.out.2.1).mono ?_
  rintro e w5 ⟨rfl, rfl⟩
  go_wp2_with fail
  refine (refused_any H4.out.1).mono ?_
  rintro e w6 ⟨rfl, rfl⟩
  go_wp2_with fail
  go_ret
  exact ⟨rfl, H4.out.2.2⟩
end Go.Proofs.YtcllcpjdoaeaiaaDoorRRR
