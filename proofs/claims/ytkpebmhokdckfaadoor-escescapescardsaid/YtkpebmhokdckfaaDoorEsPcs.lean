/-
  The pieces as which any bytes are written.
-/
import Derived.Test.YtkpebmhokdckfaaDoorEsRow
namespace Go.Proofs.YtkpebmhokdckfaaDoor
open Go.RowKit

theorem wrP1 (m : Mk) (t : ByteArray) : wrP m ⟨1, t⟩ = t.data.toList := rfl
theorem wrP2 (m : Mk) (t : ByteArray) : wrP m ⟨2, t⟩ = m.x :: (t.data.toList ++ [m.x]) := rfl
theorem wrP3 (m : Mk) (t : ByteArray) : wrP m ⟨3, t⟩ = m.x :: 88 :: (prB t.data.toList ++ [m.x]) := rfl
/-- Pieces up to the place a; from there to p bytes of the kind k. -/
structure Pin (m : Mk) (T : List UInt8) (Ps : List Pc) (a p k : Nat) : Prop where
  le : a ≤ p
  top : p ≤ T.length
  ok : ∀ x ∈ Ps, PcOk x
  wr : wrs m Ps ++ esB m (T.drop a) = esB m T
  kd : ∀ j, a ≤ j → j < p → kdB m (T.getD j 0) = k
  one : k = 2 → p ≤ a + 1
  hex : k = 3 → p ≤ a + 64
  num : k = 1 ∨ k = 2 ∨ k = 3
  len : Ps.length ≤ a
theorem Pin.start (m : Mk) (T : List UInt8) : Pin m T [] 0 0 1 :=
  ⟨Nat.le_refl _, Nat.zero_le _, fun _ h => by simp at h, by simp [wrs], fun j h0 h1 => by omega, fun h => by omega, fun h => by omega, Or.inl rfl, by simp⟩
structure Cut (m : Mk) (T : List UInt8) (Ps : List Pc) (p : Nat) : Prop where
  ok : ∀ x ∈ Ps, PcOk x
  wr : wrs m Ps ++ esB m (T.drop p) = esB m T
  len : Ps.length ≤ p
theorem Pin.cut {m : Mk} {T : List UInt8} {Ps : List Pc} {a p k : Nat} (h : Pin m T Ps a p k) (hT : T.length ≤ 8192) (t : ByteArray) (ht : t.data.toList = (T.take p).drop a) (hb : k = 3 → p = a + 64 ∨ p = T.length ∨ kdB m (T.getD p 0) ≠ 3) : Cut m T (pushP m k t Ps) p := by
  have hsz : t.size = p - a := by have := congrArg List.length ht; rw [mid_len T h.top] at this; exact this
  unfold pushP
  by_cases h0 : t.size = 0
  · rw [if_pos h0]
    obtain rfl : a = p := by have := h.le; omega
    exact ⟨h.ok, h.wr, h.len⟩
  · rw [if_neg h0]
    have hle := h.le
    have htop := h.top
    have hall : ∀ b ∈ (T.take p).drop a, kdB m b = k := fun b hb => by
      obtain ⟨j, h1, h2, _, rfl⟩ := mid_mem hb; exact h.kd j h1 h2
    refine ⟨fun x hx => ?_, ?_, by have := h.len; simp; omega⟩
    · rcases List.mem_append.1 hx with g | g
      · exact h.ok x g
      · obtain rfl := List.mem_singleton.1 g
        rcases h.num with rfl | rfl | rfl
        · exact ⟨Or.inl rfl, by simp; omega⟩
        · refine ⟨Or.inr (Or.inl ⟨rfl, ?_⟩), by simp; show 1 ≤ 8192; omega⟩
          simp only [if_true]
          rcases ltB_any m (t.data.toList.getD 0 0) with e | e | e | e | e <;> rw [e] <;> simp
        · exact ⟨Or.inr (Or.inr ⟨rfl, by have := h.hex rfl; simp; omega⟩), by simp; omega⟩
    · rw [wrs_snoc, ← h.wr, List.append_assoc]
      congr 1
      rw [drop_mid T h.le]
      rcases h.num with rfl | rfl | rfl
      · rw [esB_txts m _ _ hall]
        rw [if_neg (by omega), wrP1, ht]
      · have h1 := h.one rfl
        obtain rfl : p = a + 1 := by omega
        have hc : (T.take (a + 1)).drop a = [T.getD a 0] := by
          rw [mid_snoc T (Nat.le_refl _) (by omega), List.drop_eq_nil_of_le (by rw [List.length_take]; omega)]; rfl
        have hb2 : kdB m (T.getD a 0) = 2 := h.kd a (Nat.le_refl _) (by omega)
        rw [ht, hc, List.singleton_append, esB_mrk m hb2]
        rw [if_pos rfl, wrP2]
        rfl
      · have hne : (T.take p).drop a ≠ [] := fun g => by have := congrArg List.length g; rw [mid_len T h.top] at this; simp at this; omega
        rw [esB_run m _ _ hne (by rw [mid_len T h.top]; have := h.hex rfl; omega) hall (by
          rw [mid_len T h.top]
          rcases hb rfl with g | g | g
          · exact Or.inl (by omega)
          · exact Or.inr (Or.inl (by rw [g, List.drop_length]))
          · rcases Nat.lt_or_ge p T.length with q | q
            · exact Or.inr (Or.inr ⟨_, _, drop_cons T q, g⟩)
            · exact Or.inr (Or.inl (List.drop_eq_nil_of_le q)))]
        rw [if_neg (by omega), wrP3, ht]
        simp
theorem Cut.pin {m : Mk} {T : List UInt8} {Ps : List Pc} {p d k : Nat} (h : Cut m T Ps p) (hT : p + d ≤ T.length) (hk : ∀ j, p ≤ j → j < p + d → kdB m (T.getD j 0) = k) (hd : k ≠ 1 → d = 1) (hn : k = 1 ∨ k = 2 ∨ k = 3) : Pin m T Ps p (p + d) k :=
  ⟨by omega, hT, h.ok, h.wr, hk, fun e => by have := hd (by omega); omega, fun e => by have := hd (by omega); omega, hn, h.len⟩
theorem Pin.go {m : Mk} {T : List UInt8} {Ps : List Pc} {a p d k : Nat} (h : Pin m T Ps a p k) (hT : p + d ≤ T.length) (hk : ∀ j, p ≤ j → j < p + d → kdB m (T.getD j 0) = k) (hd : k ≠ 1 → d = 1) (h2 : k ≠ 2) (h3 : k = 3 → p ≠ a + 64) : Pin m T Ps a (p + d) k :=
  ⟨by have := h.le; omega, hT, h.ok, h.wr, fun j h0 h1 => by
    rcases Nat.lt_or_ge j p with g | g
    · exact h.kd j h0 g
    · exact hk j g h1, fun e => absurd e h2, fun e => by have := hd (by omega); have := h.hex e; have := h3 e; omega, h.num, h.len⟩
def PcsQ (m : Mk) (s : ByteArray) (w : World) (e : Ending) (w' : World) : Prop :=
  ∃ v Ps, e = .returned v ∧ PcRow w' (w.heap.size + 1) v Ps ∧ (∀ x ∈ Ps, PcOk x) ∧ wrs m Ps = esB m s.data.toList ∧ Ps.length ≤ 8192 ∧ Below w.heap.size w w'
theorem PcsQ.mk {m : Mk} {s : ByteArray} {w w' : World} {v : Value} {Ps : List Pc} (h1 : PcRow w' (w.heap.size + 1) v Ps) (h2 : Cut m s.data.toList Ps s.size) (hs : s.size ≤ 8192) (hb : Below w.heap.size w w') : PcsQ m s w (.returned v) w' :=
  ⟨v, Ps, rfl, h1, h2.ok, by
    have := h2.wr
    rw [List.drop_eq_nil_of_le (by show s.data.toList.length ≤ s.data.size; simp), esB_nil, List.append_nil] at this
    exact this, by have := h2.len; omega, hb⟩
theorem ext_mid (s : ByteArray) (a p : Nat) : (s.extract a p).data.toList = (s.data.toList.take p).drop a := by
  rw [ByteArray.data_extract, Array.toList_extract, List.drop_take]
theorem ext_first (m : Mk) {s : ByteArray} {Ps : List Pc} {a p : Nat} (h : Pin m s.data.toList Ps a p 2) (h0 : 0 < (s.extract a p).size) : (s.extract a p).data.toList.getD 0 0 ∈ m.l := by
  have htop := h.top
  have hl : (s.data.toList.take p).drop a ≠ [] := fun g => by
    have : (s.extract a p).data.toList.length = 0 := by rw [ext_mid, g]; rfl
    have h1 : (s.extract a p).size = (s.extract a p).data.toList.length := by rw [Array.length_toList]; rfl
    omega
  have ha : a < p := by
    rcases Nat.lt_or_ge a p with q | q
    · exact q
    · exact absurd (List.drop_eq_nil_of_le (by rw [List.length_take]; omega)) hl
  have hk := h.kd a (Nat.le_refl _) ha
  have he : (s.extract a p).data.toList.getD 0 0 = s.data.toList.getD a 0 := by
    rw [ext_mid, List.getD_eq_getElem?_getD, List.getD_eq_getElem?_getD, List.getElem?_drop, List.getElem?_take]
    simp [ha]
  rw [he]
  unfold kdB at hk
  split at hk
  · rename_i g; rw [← List.contains_iff_mem]; exact g
  · split at hk <;> omega
end Go.Proofs.YtkpebmhokdckfaaDoor
