/-
  Lists that are handed to the book one behind the other; what the calls answer, in one form.
-/
import Derived.Test.YtjdpjielpbiedaaGreatDoorKBools
import Derived.Test.YtjdpjielpbiedaaGreatDoorKRef
import Derived.Test.YtjdpjielpbiedaaGreatDoorKTab
namespace Go.Proofs.YtjdpjielpbiedaaGreatDoor.Td
open Go.RowKit

/-- From x to y lists were taken, and nothing else was done. -/
structure Tk (x y : World) (K : Nat) (ρ : Nat → Nat) (es : List Ent) : Prop where
  off : Off (fun z => z = K) x y
  rho : ∀ z, z < x.heap.size → (∀ e ∈ es, e.val.ownBlock ≠ some z) → ρ z = if z = K then 1 else 0
theorem Tk.zero (x : World) (K : Nat) : Tk x x K (fun k => if k = K then 1 else 0) [] := ⟨Off.refl _ _, fun _ _ _ => rfl⟩
theorem Tk.step {x y y' : World} {B K : Nat} {ρ ρ' : Nat → Nat} {vb vw v was : Value} {es : List Ent} {bs : List Value} (h : Tk x y K ρ es) (hb : Bk y B K ρ vb vw es) (o : Off (fun k => ρ k = 1 ∨ ρ k = 2 ∨ ρ k = 3) y y') (hr : ∀ k, k < y.heap.size → v.ownBlock ≠ some k → ρ' k = ρ k) : Tk x y' K ρ' (es ++ [⟨v, was, bs, bs⟩]) := by
  refine ⟨h.off.join o (fun z hz p => ?_), fun z hz hn => ?_⟩
  · by_cases hq : ∃ e ∈ es, e.val.ownBlock = some z
    · obtain ⟨e, he, e1⟩ := hq
      obtain ⟨i, hi, e2⟩ := List.getElem_of_mem he
      have := hb.pval i e (by rw [List.getElem?_eq_getElem hi, e2]) z e1
      omega
    · have h1 := h.rho z hz (fun e he e1 => hq ⟨e, he, e1⟩)
      by_cases hK : z = K
      · exact hK
      · rw [if_neg hK] at h1; omega
  · rw [hr z (Nat.lt_of_lt_of_le hz h.off.size) (fun e => hn _ (List.mem_append.2 (Or.inr (List.mem_singleton.2 rfl))) e)]
    exact h.rho z hz (fun e he => hn e (List.mem_append.2 (Or.inl he)))
theorem Tk.zeroAt {x y : World} {K : Nat} {ρ : Nat → Nat} {es : List Ent} (h : Tk x y K ρ es) {z : Nat} (hz : z < x.heap.size) (hK : z ≠ K) (hn : ∀ e ∈ es, e.val.ownBlock ≠ some z) : ρ z = 0 := by
  rw [h.rho z hz hn, if_neg hK]
theorem Tk.below {x y y' : World} {K : Nat} {ρ : Nat → Nat} {es : List Ent} (h : Tk x y K ρ es) (hb : Below y.heap.size y y') : Tk x y' K ρ es :=
  ⟨h.off.trans (Off.of_below hb), h.rho⟩
/-- Where a list's own block lies. -/
def Rg (v : Value) (lo hi : Nat) : Prop := ∀ g, v.ownBlock = some g → lo ≤ g ∧ g < hi
theorem Rg.of {w : World} {B : Nat} {e : TypeId} {v : Value} {xs : List Value} (h : VRow w B e v xs) : Rg v B w.heap.size := fun _ hg => h.lt hg
theorem TFault.off {P : Nat → Prop} {w w' : World} {b : Nat} {a c : Int} (h : TFault w b a c) (o : Off P w w') (hP : ¬ P b) : TFault w' b a c := by
  have hl : b < w.heap.size := cell_lt h.1
  have hc : ∀ q, w'.cell? ⟨b, q, none⟩ = w.cell? ⟨b, q, none⟩ := fun q => o.cell (p := ⟨b, q, none⟩) hl hP
  exact ⟨by rw [hc]; exact h.1, by rw [hc]; exact h.2.1, by rw [hc]; exact h.2.2.1, by rw [hc]; exact h.2.2.2⟩
theorem TEv.offK {w w' : World} {K : Nat} {v : Value} {a c : Int} (h : TEv w v a c) (o : Off (fun z => z = K) w w') (hK : w.cell? ⟨K, 0, none⟩ = some (.slice none 0 0)) : TEv w' v a c := by
  rcases h with h | ⟨h0, b, h1, h2⟩
  · exact Or.inl h
  · exact Or.inr ⟨h0, b, h1, h2.off o (fun e => by subst e; have := h2.1; rw [hK] at this; cases this)⟩
theorem TNo.offK {w w' : World} {K : Nat} {v : Value} {a c : Int} (h : TNo w v a c) (o : Off (fun z => z = K) w w') (hK : w.cell? ⟨K, 0, none⟩ = some (.slice none 0 0)) : TNo w' v a c := by
  rcases h with h | ⟨h0, g, h1, h2⟩
  · exact Or.inl h
  · have hg : ¬ g = K := fun e => by subst e; have := h2.1; rw [hK] at this; cases this
    have hl : g < w.heap.size := cell_lt h2.1
    have hc : ∀ q, w'.cell? ⟨g, q, none⟩ = w.cell? ⟨g, q, none⟩ := fun q => o.cell (p := ⟨g, q, none⟩) hl hg
    exact Or.inr ⟨h0, g, h1, by rw [hc]; exact h2.1, by rw [hc]; exact h2.2.1, by rw [hc]; exact h2.2.2⟩
/-- The code of what has no parts; of a number without a table. -/
def cdP (ps : List (List UInt8 × Bool)) : Int := if ps = [] then 160 else 0
def cdT (o : Option (List (List UInt8))) : Int := if o = none then 161 else 0
def tl (o : Option (List (List UInt8))) : List Value := strs (o.getD [])
def nmV (ps : List (List UInt8 × Bool)) : List Value := strs (ps.map Prod.fst)
def muV (ps : List (List UInt8 × Bool)) : List Value := bools (ps.map Prod.snd)
theorem strs_str (l : List (List UInt8)) : ∀ u ∈ strs l, ∃ s, u = .string s := fun u hu => by
  simp only [strs, List.mem_map] at hu; obtain ⟨x, _, rfl⟩ := hu; exact ⟨_, rfl⟩
theorem bools_bool (l : List Bool) : ∀ u ∈ bools l, ∃ q, u = .bool q := fun u hu => by
  simp only [bools, List.mem_map] at hu; obtain ⟨x, _, rfl⟩ := hu; exact ⟨_, rfl⟩
theorem Parts_u (k : ByteArray) (w : World) (hV : KV w) : Calls Tryz.prog 4 #[.string k] w fun e w' => ∃ a c m d ev, e = .returned (.tuple #[.slice a (ptsOf (bl k)).length c, .slice m (ptsOf (bl k)).length d, ev]) ∧ TRow w' w.heap.size (.slice a (ptsOf (bl k)).length c) (nmV (ptsOf (bl k))) ∧ BRow w' w.heap.size (.slice m (ptsOf (bl k)).length d) (muV (ptsOf (bl k))) ∧ TEv w' ev 0 (cdP (ptsOf (bl k))) ∧ Below w.heap.size w w' := by
  refine (Parts_any k w hV).mono ?_
  rintro e w' (⟨h0, ev, rfl, he, hb⟩ | ⟨h0, va, vb, rfl, h1, h2, hb⟩)
  · rw [h0]
    exact ⟨none, 0, none, 0, ev, rfl, VRow.nil _ _ _, VRow.nil _ _ _, he, hb⟩
  · obtain ⟨a, c, rfl, _⟩ := VRow.isSlice h1
    obtain ⟨m, d, rfl, _⟩ := VRow.isSlice h2
    rw [strs_length, List.length_map] at h1 ⊢
    rw [bools_length, List.length_map] at h2 ⊢
    exact ⟨a, c, m, d, _, rfl, h1, h2, Or.inl ⟨rfl, if_neg h0⟩, hb⟩
theorem rParts_u (k : ByteArray) (w : World) : Calls Tryz.prog 5 #[.string k] w fun e w' => ∃ a c m d no, e = .returned (.tuple #[.slice a (ptsOf (bl k)).length c, .slice m (ptsOf (bl k)).length d, no]) ∧ TRow w' w.heap.size (.slice a (ptsOf (bl k)).length c) (nmV (ptsOf (bl k))) ∧ BRow w' w.heap.size (.slice m (ptsOf (bl k)).length d) (muV (ptsOf (bl k))) ∧ TNo w' no 0 (cdP (ptsOf (bl k))) ∧ Below w.heap.size w w' := by
  refine (rParts_any k w).mono ?_
  rintro e w' (⟨h0, ev, rfl, he, hb⟩ | ⟨h0, va, vb, rfl, h1, h2, hb⟩)
  · rw [h0]
    exact ⟨none, 0, none, 0, ev, rfl, VRow.nil _ _ _, VRow.nil _ _ _, he, hb⟩
  · obtain ⟨a, c, rfl, _⟩ := VRow.isSlice h1
    obtain ⟨m, d, rfl, _⟩ := VRow.isSlice h2
    rw [strs_length, List.length_map] at h1 ⊢
    rw [bools_length, List.length_map] at h2 ⊢
    exact ⟨a, c, m, d, _, rfl, h1, h2, Or.inl ⟨rfl, if_neg h0⟩, hb⟩
theorem tl_len {o : Option (List (List UInt8))} {l : List (List UInt8)} (h : o = some l) : (tl o).length = l.length := by rw [h]; exact strs_length l
theorem Table_u (n : Int) (w : World) (hV : KV w) : Calls Tryz.prog 6 #[.int .i64 n] w fun e w' => ∃ a c ev, e = .returned (.tuple #[.slice a (tl (tabI n)).length c, ev]) ∧ TRow w' w.heap.size (.slice a (tl (tabI n)).length c) (tl (tabI n)) ∧ TEv w' ev 0 (cdT (tabI n)) ∧ Below w.heap.size w w' := by
  refine (Table_any n w hV).mono ?_
  rintro e w' (⟨l, v, h0, h1, h2, rfl, h3, hb⟩ | ⟨h0, ev, rfl, he, hb⟩)
  · obtain ⟨a, c, rfl, _⟩ := VRow.isSlice h3
    rw [h0]
    exact ⟨a, c, _, rfl, h3, Or.inl ⟨rfl, rfl⟩, hb⟩
  · rw [h0]
    exact ⟨none, 0, ev, rfl, VRow.nil _ _ _, he, hb⟩
theorem rTable_u (n : Int) (w : World) : Calls Tryz.prog 7 #[.int .i64 n] w fun e w' => ∃ a c, e = .returned (.slice a (tl (tabI n)).length c) ∧ TRow w' w.heap.size (.slice a (tl (tabI n)).length c) (tl (tabI n)) ∧ a.isNone = (tabI n).isNone ∧ Below w.heap.size w w' := by
  refine (rTable_any n w).mono ?_
  rintro e w' ⟨⟨l, v, h0, h1, h2, rfl, h3⟩ | ⟨h0, rfl⟩, hb⟩
  · obtain ⟨a, c, rfl, ha⟩ := VRow.isSlice h3
    obtain ⟨g, rfl⟩ := ha (by rw [strs_length]; exact h1)
    rw [h0]
    exact ⟨_, c, rfl, h3, rfl, hb⟩
  · rw [h0]
    exact ⟨none, 0, rfl, VRow.nil _ _ _, rfl, hb⟩
theorem tl_small (n : Int) : (tl (tabI n)).length ≤ 20 := by
  unfold tabI
  split
  · cases h : tabN n.toNat with
    | none => simp [tl, strs]
    | some l =>
      rcases tabN_nums (n := n.toNat) (by rw [h]; simp) with e | e | e | e | e | e | e | e | e
      all_goals
        rw [e] at h
        obtain rfl := Option.some.inj h
        simp [tl, strs]
  · simp [tl, strs]
end Go.Proofs.YtjdpjielpbiedaaGreatDoor.Td
