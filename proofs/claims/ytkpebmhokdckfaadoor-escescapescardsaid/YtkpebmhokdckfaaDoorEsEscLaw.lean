/-
  EscEscapes: both Escapes, the walk.
-/
import Derived.Test.YtkpebmhokdckfaaDoorEsWrite
import Derived.Test.YtkpebmhokdckfaaDoorEsRefE
import Derived.Laws.IdiomStrings
namespace Go.Proofs.YtkpebmhokdckfaaDoor
open Go.RowKit

theorem validPair (m : Mk) (n : Nat) (hn : Wrong m.l 5 n) : (n < 5 ∧ (∀ w, Calls Tryd.prog 12 #[.agg #[.int .u8 (m.f.toNat : Int), .int .u8 (m.c.toNat : Int), .int .u8 (m.r.toNat : Int), .int .u8 (m.x.toNat : Int), .int .u8 (m.s.toNat : Int)]] w fun e w' => e = .returned (.tuple #[.int .i64 n, .int .i64 100]) ∧ Below w.heap.size w w')) ∨ (n = 5 ∧ (∀ w, Calls Tryd.prog 12 #[.agg #[.int .u8 (m.f.toNat : Int), .int .u8 (m.c.toNat : Int), .int .u8 (m.r.toNat : Int), .int .u8 (m.x.toNat : Int), .int .u8 (m.s.toNat : Int)]] w fun e w' => e = .returned (.tuple #[.int .i64 0, .int .i64 0]) ∧ Below w.heap.size w w')) := by
  by_cases h5 : n < 5
  · refine Or.inl ⟨h5, fun w => (rValid_any m w).mono ?_⟩
    rintro e w' ⟨⟨k, hk, hr⟩, hb⟩
    obtain rfl : n = k := hn.one hk.out
    rcases hr with ⟨_, rfl⟩ | ⟨h, _⟩
    · exact ⟨rfl, hb⟩
    · omega
  · obtain rfl : n = 5 := by have := hn.le; omega
    refine Or.inr ⟨rfl, fun w => (rValid_any m w).mono ?_⟩
    rintro e w' ⟨⟨k, hk, hr⟩, hb⟩
    obtain rfl : 5 = k := hn.one hk.out
    rcases hr with ⟨h, _⟩ | ⟨_, rfl⟩
    · omega
    · exact ⟨rfl, hb⟩
def EscQ (w : World) (t : ByteArray) (a c : Int) (e : Ending) (w' : World) : Prop := ∃ v, e = .returned (.tuple #[.string t, v]) ∧ Ev w' v a c ∧ Below w.heap.size w w'
theorem EscQ.mk {w w' : World} {t : ByteArray} {a c : Int} {v : Value} (h : Ev w' v a c) (hb : Below w.heap.size w w') : EscQ w t a c (.returned (.tuple #[.string t, v])) w' := ⟨v, rfl, h, hb⟩
theorem ev_notnil {w : World} {v : Value} {a c : Int} (h : Ev w v a c) (hc : c ≠ 0) : ∃ b, v = .iface 44 (.pointer (some ⟨b, 0, none⟩)) := by
  rcases h with ⟨_, h0⟩ | ⟨_, b, h1, _⟩
  · exact absurd h0 hc
  · exact ⟨b, h1⟩
set_option maxRecDepth 100000 in
set_option maxHeartbeats 2000000 in
theorem Escape_bad (m : Mk) (s : ByteArray) (n : Nat) (w : World) (hn : Wrong m.l 5 n) (h5 : n < 5) : Calls Tryd.prog 4 #[.agg #[.int .u8 (m.f.toNat : Int), .int .u8 (m.c.toNat : Int), .int .u8 (m.r.toNat : Int), .int .u8 (m.x.toNat : Int), .int .u8 (m.s.toNat : Int)], .string s] w (EscQ w ⟨#[]⟩ n 100) := by
  have hv := fun w => Valid_bad m n w hn h5
  have HB : Hid (Below w.heap.size w (w.alloc (.cells #[.int .u8 (m.f.toNat : Int), .int .u8 (m.c.toNat : Int), .int .u8 (m.r.toNat : Int), .int .u8 (m.x.toNat : Int), .int .u8 (m.s.toNat : Int)] 23))) := (Below.refl _ _).alloc (Nat.le_refl _) _
  clear hn
  go_enter Tryd.func4, Tryd.ntmps4
  go_wp2_with fail
  refine (hv _).mono ?_
  rintro e w1 ⟨v, rfl, e1, b1⟩
  obtain ⟨b, rfl⟩ := ev_notnil e1 (by decide)
  have H1 : Hid (Ev w1 (.iface 44 (.pointer (some ⟨b, 0, none⟩))) n 100 ∧ Below w.heap.size w w1) := ⟨e1, below_then HB.out b1⟩
  clear e1 b1 hv
  go_wp2_with fail
  go_ret2
  exact EscQ.mk H1.out.1 H1.out.2
set_option maxRecDepth 100000 in
set_option maxHeartbeats 2000000 in
theorem Escape_long (m : Mk) (s : ByteArray) (w : World) (hn : Wrong m.l 5 5) (hs : 8192 < s.size) : Calls Tryd.prog 4 #[.agg #[.int .u8 (m.f.toNat : Int), .int .u8 (m.c.toNat : Int), .int .u8 (m.r.toNat : Int), .int .u8 (m.x.toNat : Int), .int .u8 (m.s.toNat : Int)], .string s] w (EscQ w ⟨#[]⟩ 0 4) := by
  have hv := fun w => Valid_ok m w hn
  have HB : Hid (Below w.heap.size w (w.alloc (.cells #[.int .u8 (m.f.toNat : Int), .int .u8 (m.c.toNat : Int), .int .u8 (m.r.toNat : Int), .int .u8 (m.x.toNat : Int), .int .u8 (m.s.toNat : Int)] 23))) := (Below.refl _ _).alloc (Nat.le_refl _) _
  have hd : decide ((8192 : Int) < s.size) = true := by simp; omega
  clear hn hs
  go_enter Tryd.func4, Tryd.ntmps4
  go_wp2_with fail
  refine (hv _).mono ?_
  rintro e w1 ⟨rfl, b1⟩
  have H1 : Hid (Below w.heap.size w w1) := below_then HB.out b1
  clear b1 hv
  go_wp2_with fail
  refine (efault_any _ _ _).mono ?_
  rintro e w2 ⟨rfl, f2, b2⟩
  have H2 : Hid (EFault w2 w1.heap.size 0 4 ∧ Below w.heap.size w w2) := ⟨f2, below_then H1.out b2⟩
  clear f2 b2
  go_wp2_with fail
  go_ret2
  exact EscQ.mk (Or.inr ⟨by decide, _, rfl, H2.out.1⟩) H2.out.2
set_option maxRecDepth 100000 in
set_option maxHeartbeats 4000000 in
theorem Escape_ok (m : Mk) (s : ByteArray) (w : World) (hn : Wrong m.l 5 5) (hs : s.size ≤ 8192) (hW : Words w) : Calls Tryd.prog 4 #[.agg #[.int .u8 (m.f.toNat : Int), .int .u8 (m.c.toNat : Int), .int .u8 (m.r.toNat : Int), .int .u8 (m.x.toNat : Int), .int .u8 (m.s.toNat : Int)], .string s] w (EscQ w (wrS (esB m s.data.toList)) 0 (wrC (esB m s.data.toList))) := by
  have hv := fun w => Valid_ok m w hn
  have HN : Hid (Wrong m.l 5 5 ∧ Words w) := ⟨hn, hW⟩
  have HB : Hid (Below w.heap.size w (w.alloc (.cells #[.int .u8 (m.f.toNat : Int), .int .u8 (m.c.toNat : Int), .int .u8 (m.r.toNat : Int), .int .u8 (m.x.toNat : Int), .int .u8 (m.s.toNat : Int)] 23))) := (Below.refl _ _).alloc (Nat.le_refl _) _
  have c1 : ∀ o, (w.alloc (.cells #[.int .u8 (m.f.toNat : Int), .int .u8 (m.c.toNat : Int), .int .u8 (m.r.toNat : Int), .int .u8 (m.x.toNat : Int), .int .u8 (m.s.toNat : Int)] 23)).cell? ⟨w.heap.size, o, none⟩ = (#[.int .u8 (m.f.toNat : Int), .int .u8 (m.c.toNat : Int), .int .u8 (m.r.toNat : Int), .int .u8 (m.x.toNat : Int), .int .u8 (m.s.toNat : Int)] : Array Value)[o]? := fun o => cell_new _ _ _ _ o
  have hd : decide ((8192 : Int) < s.size) = false := by simp; omega
  clear hn hW
  go_enter Tryd.func4, Tryd.ntmps4
  go_wp2_with fail
  refine (hv _).mono ?_
  rintro e w1 ⟨rfl, b1⟩
  have H1 : Hid (Below w.heap.size w w1) := below_then HB.out b1
  have g : ∀ o, w1.cell? ⟨w.heap.size, o, none⟩ = (#[.int .u8 (m.f.toNat : Int), .int .u8 (m.c.toNat : Int), .int .u8 (m.r.toNat : Int), .int .u8 (m.x.toNat : Int), .int .u8 (m.s.toNat : Int)] : Array Value)[o]? := fun o => (b1.cell (p := ⟨w.heap.size, o, none⟩) (by simp)).trans (c1 o)
  have g0 := g 0
  have g1 := g 1
  have g2 := g 2
  have g3 := g 3
  have g4 := g 4
  simp only [List.getElem?_toArray, List.getElem?_cons_zero, List.getElem?_cons_succ] at g0 g1 g2 g3 g4
  clear b1 hv c1 g
  go_wp2_with fail
  refine (of_any m _).mono ?_
  rintro e w2 ⟨rfl, b2⟩
  have H2 : Hid (Below w.heap.size w w2) := below_then H1.out b2
  clear b2 g0 g1 g2 g3 g4
  go_wp2_with fail
  refine (pieces_any m s _ HN.out.1 hs).mono ?_
  rintro e w3 ⟨v, Ps, rfl, row, ok, wr, len, b3⟩
  have H3 : Hid (PcRow w3 (w2.heap.size + 1) v Ps ∧ (∀ x ∈ Ps, PcOk x) ∧ Ps.length ≤ 8192 ∧ Below w.heap.size w w3) := ⟨row, ok, len, below_then H2.out b3⟩
  have HWR : Hid (wrs m Ps = esB m s.data.toList) := wr
  clear row ok wr len b3
  go_wp2_with fail
  refine (write_any m v Ps w3 (w2.heap.size + 1) HN.out.1 H3.out.1 H3.out.2.1 H3.out.2.2.1 (HN.out.2.below H3.out.2.2.2)).mono ?_
  rintro e w4 ⟨v4, rfl, e4, b4⟩
  have H4 : Hid (Ev w4 v4 0 (wrC (esB m s.data.toList)) ∧ Below w.heap.size w w4) := ⟨by rw [← HWR.out]; exact e4, below_then H3.out.2.2.2 b4⟩
  rw [HWR.out]
  clear e4 b4
  go_wp2_with fail
  go_ret2
  exact EscQ.mk H4.out.1 H4.out.2
theorem BRow.conv {w : World} {B : Nat} {a : Option Addr} {n c : Nat} {l : List UInt8} (h : BRow w B (.slice a n c) l) : n = l.length ∧ (convert 42 9 (.slice a n c)).run Tryd.prog w = .ok (.string ⟨l.toArray⟩) w := by
  rcases h.2 with ⟨e, h0⟩ | ⟨g, cap, cur, e, _⟩
  · simp only [Value.slice.injEq] at e
    obtain ⟨rfl, rfl, rfl⟩ := e
    obtain rfl : l = [] := List.eq_nil_of_length_eq_zero h0
    exact ⟨rfl, by rw [run_convert_bytes_string w _ _ 5 none 0 0 Tryd.underlying42 Tryd.underlying5 Tryd.underlying9]; rfl⟩
  · have e' := e
    simp only [Value.slice.injEq] at e
    obtain ⟨rfl, rfl, rfl⟩ := e
    refine ⟨rfl, run_convert_bytes_back w _ _ 5 ⟨g, 0, none⟩ c l Tryd.underlying42 Tryd.underlying5 Tryd.underlying9 (fun j hj => ?_)⟩
    refine World.ownsRow.cells h (g := g) rfl j _ ?_
    simp [Lib.byteCells, List.getElem?_eq_getElem hj]
set_option maxRecDepth 100000 in
set_option maxHeartbeats 2000000 in
theorem rEscape_bad (m : Mk) (s : ByteArray) (n : Nat) (w : World) (hv : ∀ w, Calls Tryd.prog 12 #[.agg #[.int .u8 (m.f.toNat : Int), .int .u8 (m.c.toNat : Int), .int .u8 (m.r.toNat : Int), .int .u8 (m.x.toNat : Int), .int .u8 (m.s.toNat : Int)]] w fun e w' => e = .returned (.tuple #[.int .i64 n, .int .i64 100]) ∧ Below w.heap.size w w') :
    Calls Tryd.prog 5 #[.agg #[.int .u8 (m.f.toNat : Int), .int .u8 (m.c.toNat : Int), .int .u8 (m.r.toNat : Int), .int .u8 (m.x.toNat : Int), .int .u8 (m.s.toNat : Int)], .string s] w fun e w' => e = .returned (.tuple #[.string ⟨#[]⟩, .int .i64 n, .int .i64 100]) ∧ Below w.heap.size w w' := by
  have HB : Hid (Below w.heap.size w (w.alloc (.cells #[.int .u8 (m.f.toNat : Int), .int .u8 (m.c.toNat : Int), .int .u8 (m.r.toNat : Int), .int .u8 (m.x.toNat : Int), .int .u8 (m.s.toNat : Int)] 23))) := (Below.refl _ _).alloc (Nat.le_refl _) _
  go_enter Tryd.func5, Tryd.ntmps5
  go_wp2_with fail
  refine (hv _).mono ?_
  rintro e w1 ⟨rfl, b1⟩
  have H1 : Hid (Below w.heap.size w w1) := below_then HB.out b1
  clear b1 hv
  go_wp2_with fail
  go_ret3
  exact ⟨rfl, H1.out⟩
set_option maxRecDepth 100000 in
set_option maxHeartbeats 2000000 in
theorem rEscape_long (m : Mk) (s : ByteArray) (w : World) (hs : 8192 < s.size) (hv : ∀ w, Calls Tryd.prog 12 #[.agg #[.int .u8 (m.f.toNat : Int), .int .u8 (m.c.toNat : Int), .int .u8 (m.r.toNat : Int), .int .u8 (m.x.toNat : Int), .int .u8 (m.s.toNat : Int)]] w fun e w' => e = .returned (.tuple #[.int .i64 0, .int .i64 0]) ∧ Below w.heap.size w w') :
    Calls Tryd.prog 5 #[.agg #[.int .u8 (m.f.toNat : Int), .int .u8 (m.c.toNat : Int), .int .u8 (m.r.toNat : Int), .int .u8 (m.x.toNat : Int), .int .u8 (m.s.toNat : Int)], .string s] w fun e w' => e = .returned (.tuple #[.string ⟨#[]⟩, .int .i64 0, .int .i64 4]) ∧ Below w.heap.size w w' := by
  have HB : Hid (Below w.heap.size w (w.alloc (.cells #[.int .u8 (m.f.toNat : Int), .int .u8 (m.c.toNat : Int), .int .u8 (m.r.toNat : Int), .int .u8 (m.x.toNat : Int), .int .u8 (m.s.toNat : Int)] 23))) := (Below.refl _ _).alloc (Nat.le_refl _) _
  have hd : decide ((8192 : Int) < s.size) = true := by simp; omega
  clear hs
  go_enter Tryd.func5, Tryd.ntmps5
  go_wp2_with fail
  refine (hv _).mono ?_
  rintro e w1 ⟨rfl, b1⟩
  have H1 : Hid (Below w.heap.size w w1) := below_then HB.out b1
  clear b1 hv
  go_wp2_with fail
  go_ret3
  exact ⟨rfl, H1.out⟩
set_option maxRecDepth 100000 in
set_option maxHeartbeats 4000000 in
theorem rEscape_ok (m : Mk) (s : ByteArray) (w : World) (hn : Wrong m.l 5 5) (hs : s.size ≤ 8192) (hv : ∀ w, Calls Tryd.prog 12 #[.agg #[.int .u8 (m.f.toNat : Int), .int .u8 (m.c.toNat : Int), .int .u8 (m.r.toNat : Int), .int .u8 (m.x.toNat : Int), .int .u8 (m.s.toNat : Int)]] w fun e w' => e = .returned (.tuple #[.int .i64 0, .int .i64 0]) ∧ Below w.heap.size w w') :
    Calls Tryd.prog 5 #[.agg #[.int .u8 (m.f.toNat : Int), .int .u8 (m.c.toNat : Int), .int .u8 (m.r.toNat : Int), .int .u8 (m.x.toNat : Int), .int .u8 (m.s.toNat : Int)], .string s] w fun e w' => e = .returned (.tuple #[.string (wrS (esB m s.data.toList)), .int .i64 0, .int .i64 (wrC (esB m s.data.toList))]) ∧ Below w.heap.size w w' := by
  have HN : Hid (Wrong m.l 5 5) := hn
  have HB : Hid (Below w.heap.size w (w.alloc (.cells #[.int .u8 (m.f.toNat : Int), .int .u8 (m.c.toNat : Int), .int .u8 (m.r.toNat : Int), .int .u8 (m.x.toNat : Int), .int .u8 (m.s.toNat : Int)] 23))) := (Below.refl _ _).alloc (Nat.le_refl _) _
  have c1 : ∀ o, (w.alloc (.cells #[.int .u8 (m.f.toNat : Int), .int .u8 (m.c.toNat : Int), .int .u8 (m.r.toNat : Int), .int .u8 (m.x.toNat : Int), .int .u8 (m.s.toNat : Int)] 23)).cell? ⟨w.heap.size, o, none⟩ = (#[.int .u8 (m.f.toNat : Int), .int .u8 (m.c.toNat : Int), .int .u8 (m.r.toNat : Int), .int .u8 (m.x.toNat : Int), .int .u8 (m.s.toNat : Int)] : Array Value)[o]? := fun o => cell_new _ _ _ _ o
  have hd : decide ((8192 : Int) < s.size) = false := by simp; omega
  clear hn
  go_enter Tryd.func5, Tryd.ntmps5
  go_wp2_with fail
  refine (hv _).mono ?_
  rintro e w1 ⟨rfl, b1⟩
  have H1 : Hid (Below w.heap.size w w1) := below_then HB.out b1
  have g : ∀ o, w1.cell? ⟨w.heap.size, o, none⟩ = (#[.int .u8 (m.f.toNat : Int), .int .u8 (m.c.toNat : Int), .int .u8 (m.r.toNat : Int), .int .u8 (m.x.toNat : Int), .int .u8 (m.s.toNat : Int)] : Array Value)[o]? := fun o => (b1.cell (p := ⟨w.heap.size, o, none⟩) (by simp)).trans (c1 o)
  have g0 := g 0
  have g1 := g 1
  have g2 := g 2
  have g3 := g 3
  have g4 := g 4
  simp only [List.getElem?_toArray, List.getElem?_cons_zero, List.getElem?_cons_succ] at g0 g1 g2 g3 g4
  clear b1 hv c1 g
  go_wp2_with fail
  refine (escaped_any m s _ HN.out hs).mono ?_
  rintro e w2 ⟨⟨a, n, c, rfl, hr⟩, b2⟩
  have H2 : Hid (Below w.heap.size w w2) := below_then H1.out b2
  obtain ⟨hn, hcv⟩ := hr.out.conv
  have hbd : n ≤ 40960 := by rw [hn]; have h1 := esB_len m s.data.toList; have h2 : s.data.toList.length = s.size := by rw [Array.length_toList]; rfl
                             omega
  clear hr b2 g0 g1 g2 g3 g4
  obtain ⟨S, hS⟩ : ∃ S, (⟨(esB m s.data.toList).toArray⟩ : ByteArray) = S := ⟨_, rfl⟩
  rw [hS] at hcv
  by_cases hl : n ≤ 8192
  · have hd2 : decide ((8192 : Int) < n) = false := by simp; omega
    have HF : Hid (wrS (esB m s.data.toList) = S ∧ wrC (esB m s.data.toList) = 0) := by rw [hn] at hl; unfold Hid wrS wrC; rw [if_pos hl, if_pos hl]; exact ⟨hS, rfl⟩
    clear hS hn hl
    go_wp2_with fail
    go_ret3
    exact ⟨by rw [HF.out.1, HF.out.2]; rfl, H2.out⟩
  · have hd2 : decide ((8192 : Int) < n) = true := by simp; omega
    have HF : Hid (wrS (esB m s.data.toList) = ⟨#[]⟩ ∧ wrC (esB m s.data.toList) = 4) := by rw [hn] at hl; unfold Hid wrS wrC; rw [if_neg hl, if_neg hl]; exact ⟨rfl, rfl⟩
    clear hS hn hl
    go_wp2_with fail
    go_ret3
    exact ⟨by rw [HF.out.1, HF.out.2]; rfl, H2.out⟩
theorem escPair (m : Mk) (s : ByteArray) : ∃ (t : ByteArray) (a c : Int), (∀ w, Words w → Calls Tryd.prog 4 #[.agg #[.int .u8 (m.f.toNat : Int), .int .u8 (m.c.toNat : Int), .int .u8 (m.r.toNat : Int), .int .u8 (m.x.toNat : Int), .int .u8 (m.s.toNat : Int)], .string s] w (EscQ w t a c)) ∧ (∀ w, Calls Tryd.prog 5 #[.agg #[.int .u8 (m.f.toNat : Int), .int .u8 (m.c.toNat : Int), .int .u8 (m.r.toNat : Int), .int .u8 (m.x.toNat : Int), .int .u8 (m.s.toNat : Int)], .string s] w fun e w' => e = .returned (.tuple #[.string t, .int .i64 a, .int .i64 c]) ∧ Below w.heap.size w w') := by
  obtain ⟨n, hn⟩ := wrong_ex m.l 5
  rcases validPair m n hn with ⟨h5, hv⟩ | ⟨rfl, hv⟩
  · exact ⟨_, n, 100, fun w _ => Escape_bad m s n w hn h5, fun w => rEscape_bad m s n w hv⟩
  · by_cases hs : s.size ≤ 8192
    · exact ⟨_, 0, _, fun w hW => Escape_ok m s w hn hs hW, fun w => rEscape_ok m s w hn hs hv⟩
    · exact ⟨_, 0, 4, fun w _ => Escape_long m s w hn (by omega), fun w => rEscape_long m s w (by omega) hv⟩
set_option maxRecDepth 100000 in
set_option maxHeartbeats 4000000 in
theorem escapes_law (m : Mk) (s : ByteArray) (w : World) (_hs : s.size ≤ maxLen) (hW : Words w) : Calls Tryd.prog 3 #[.agg #[.int .u8 (m.f.toNat : Int), .int .u8 (m.c.toNat : Int), .int .u8 (m.r.toNat : Int), .int .u8 (m.x.toNat : Int), .int .u8 (m.s.toNat : Int)], .string s] w fun e w' => e = .returned (.bool true) ∧ Below w.heap.size w w' := by
  have HW : Hid (Words (w.alloc (.cells #[.int .u8 (m.f.toNat : Int), .int .u8 (m.c.toNat : Int), .int .u8 (m.r.toNat : Int), .int .u8 (m.x.toNat : Int), .int .u8 (m.s.toNat : Int)] 23)) ∧ Below w.heap.size w (w.alloc (.cells #[.int .u8 (m.f.toNat : Int), .int .u8 (m.c.toNat : Int), .int .u8 (m.r.toNat : Int), .int .u8 (m.x.toNat : Int), .int .u8 (m.s.toNat : Int)] 23))) := ⟨hW.below ((Below.refl _ _).alloc (Nat.le_refl _) _), (Below.refl _ _).alloc (Nat.le_refl _) _⟩
  obtain ⟨t, a, c, h1, h2⟩ := escPair m s
  have c0 : ∀ o, (w.alloc (.cells #[.int .u8 (m.f.toNat : Int), .int .u8 (m.c.toNat : Int), .int .u8 (m.r.toNat : Int), .int .u8 (m.x.toNat : Int), .int .u8 (m.s.toNat : Int)] 23)).cell? ⟨w.heap.size, o, none⟩ = (#[.int .u8 (m.f.toNat : Int), .int .u8 (m.c.toNat : Int), .int .u8 (m.r.toNat : Int), .int .u8 (m.x.toNat : Int), .int .u8 (m.s.toNat : Int)] : Array Value)[o]? := fun o => cell_new _ _ _ _ o
  clear hW
  go_enter Tryd.func3, Tryd.ntmps3
  go_wp2_with fail
  refine (h1 _ HW.out.1).mono ?_
  rintro e w1 ⟨v1, rfl, e1, b1⟩
  have H1 : Hid (Ev w1 v1 a c ∧ Below w.heap.size w w1) := ⟨e1, below_then HW.out.2 b1⟩
  have g : ∀ o, w1.cell? ⟨w.heap.size, o, none⟩ = (#[.int .u8 (m.f.toNat : Int), .int .u8 (m.c.toNat : Int), .int .u8 (m.r.toNat : Int), .int .u8 (m.x.toNat : Int), .int .u8 (m.s.toNat : Int)] : Array Value)[o]? := fun o => (b1.cell (p := ⟨w.heap.size, o, none⟩) (by simp)).trans (c0 o)
  have g0 := g 0
  have g1 := g 1
  have g2 := g 2
  have g3 := g 3
  have g4 := g 4
  simp only [List.getElem?_toArray, List.getElem?_cons_zero, List.getElem?_cons_succ] at g0 g1 g2 g3 g4
  clear b1 e1 h1 c0 g
  go_wp2_with fail
  refine (h2 _).mono ?_
  rintro e w2 ⟨rfl, b2⟩
  have H2 : Hid (Ev w2 v1 a c ∧ Below w.heap.size w w2) := ⟨H1.out.1.below b2, below_then H1.out.2 b2⟩
  clear b2 h2 g0 g1 g2 g3 g4
  go_wp2_with (go_at_call 6; refine (refused_any H2.out.1).mono ?_; rintro e w3 ⟨rfl, hw⟩; rw [hw]; clear hw)
  go_ret
  exact ⟨rfl, H2.out.2⟩
end Go.Proofs.YtkpebmhokdckfaaDoor
