/-
  write: pieces on the wire.
-/
import Derived.Test.YtkpebmhokdckfaaDoorEsPcw
import Derived.Test.YtkpebmhokdckfaaDoorEsWire
namespace Go.Proofs.YtkpebmhokdckfaaDoor
open Go.RowKit

def wrS (l : List UInt8) : ByteArray := if l.length ≤ 8192 then ⟨l.toArray⟩ else ⟨#[]⟩
def wrC (l : List UInt8) : Int := if l.length ≤ 8192 then 0 else 4
def WrQ (w : World) (l : List UInt8) (e : Ending) (w' : World) : Prop := ∃ v, e = .returned (.tuple #[.string (wrS l), v]) ∧ Ev w' v 0 (wrC l) ∧ Below w.heap.size w w'
theorem WrQ.ok {w w' : World} {l : List UInt8} (h : l.length ≤ 8192) (hb : Below w.heap.size w w') : WrQ w l (.returned (.tuple #[.string ⟨l.toArray⟩, .nilIface])) w' :=
  ⟨_, by unfold wrS; rw [if_pos h], by unfold wrC; rw [if_pos h]; exact Or.inl ⟨rfl, rfl⟩, hb⟩
theorem WrQ.long {w w' : World} {l : List UInt8} {b : Nat} (h : ¬ l.length ≤ 8192) (hf : EFault w' b 0 4) (hb : Below w.heap.size w w') : WrQ w l (.returned (.tuple #[.string ⟨#[]⟩, .iface 44 (.pointer (some ⟨b, 0, none⟩))])) w' :=
  ⟨_, by unfold wrS; rw [if_neg h], by unfold wrC; rw [if_neg h]; exact Or.inr ⟨by decide, _, rfl, hf⟩, hb⟩
theorem PcRow.at {w : World} {B g n c : Nat} {xs : List Pc} (h : PcRow w B (.slice (some ⟨g, 0, none⟩) n c) xs) {i : Nat} (hi : i < xs.length) :
    w.cell? ⟨g, i * 3, none⟩ = some (.int .i64 (xs[i].k : Int)) ∧ w.cell? ⟨g, i * 3 + 1, none⟩ = some (.string xs[i].t) ∧ w.cell? ⟨g, i * 3 + 2, none⟩ = some (.int .i64 0) := by
  have hc : ∀ q u, q < 3 → (pcells xs[i])[q]? = some u → w.cell? ⟨g, i * 3 + q, none⟩ = some u := fun q u hq hu => by
    have := World.ownsRow.cells h (g := g) rfl (i * 3 + q) u (by rw [pflat_get xs i xs[i] (List.getElem?_eq_getElem hi) q hq]; exact hu)
    rw [Addr.add_lit, Nat.zero_add] at this
    exact this
  exact ⟨hc 0 _ (by omega) rfl, hc 1 _ (by omega) rfl, hc 2 _ (by omega) rfl⟩
theorem wrP_len {m : Mk} {p : Pc} (h : PcOk p) : (wrP m p).length ≤ 8192 := by
  obtain ⟨k, t⟩ := p
  have hl : t.data.toList.length = t.size := by rw [Array.length_toList]; rfl
  have hlen := h.len
  simp only at hlen
  rcases h.or with e | ⟨e, g⟩ | ⟨e, g⟩
  · simp only at e; subst e; rw [wrP1, hl]; exact hlen
  · simp only at e g; subst e
    have : t.size = 1 := by rcases g with rfl | rfl | rfl | rfl | rfl <;> rfl
    rw [wrP2, List.length_cons, List.length_append, hl, this]; simp
  · simp only at e g; subst e
    rw [wrP3, List.length_cons, List.length_cons, List.length_append, prB_len, hl]; simp; omega
theorem Words.frame {w w' : World} {B b : Nat} (h : Words w) (hf : BFr B b w w') (h0 : 0 < B) (h1 : 0 ≠ b) : Words w' := fun j u hu => by
  rw [World.cell?_of_block (a := ⟨0, j, none⟩) (hf.block _ h0 h1)]; exact h j u hu
set_option maxRecDepth 100000 in
set_option maxHeartbeats 4000000 in
theorem write_any (m : Mk) (v : Value) (Ps : List Pc) (w : World) (B : Nat) (hm : Wrong m.l 5 5) (hrow : PcRow w B v Ps) (hok : ∀ x ∈ Ps, PcOk x) (hlen : Ps.length ≤ 8192) (hW : Words w) :
    Calls Tryd.prog 10 #[.string m.str, v] w (WrQ w (wrs m Ps)) := by
  have HM : Hid (Wrong m.l 5 5 ∧ (∀ x ∈ Ps, PcOk x)) := ⟨hm, hok⟩
  have HW1 : Hid (Words (w.alloc (.cells #[.pointer none, .slice none 0 0] 51))) := hW.below ((Below.refl _ _).alloc (Nat.le_refl _) _)
  have h0w : 0 < w.heap.size := cell_lt (hW 0 _ rfl)
  have HF : Hid (Bld (w.alloc (.cells #[.pointer none, .slice none 0 0] 51)) (w.heap.size + 1) w.heap.size [] ∧ Below w.heap.size w (w.alloc (.cells #[.pointer none, .slice none 0 0] 51)) ∧ (w.alloc (.cells #[.pointer none, .slice none 0 0] 51)).heap.size = w.heap.size + 1) := ⟨Bld.fresh w _, (Below.refl _ _).alloc (Nat.le_refl _) _, by simp⟩
  have HR : Hid (PcRow (w.alloc (.cells #[.pointer none, .slice none 0 0] 51)) B v Ps) := hrow.below ((Below.refl _ _).alloc (Nat.le_refl _) _)
  obtain ⟨W1, hW1⟩ : ∃ W, w.alloc (.cells #[.pointer none, .slice none 0 0] 51) = W := ⟨_, rfl⟩
  rw [hW1] at HW1 HF HR
  have hsl : ∃ a c, v = .slice a Ps.length c ∧ (0 < Ps.length → ∃ g, a = some ⟨g, 0, none⟩ ∧ g < w.heap.size) := by
    rcases hrow.isSlice with ⟨rfl, rfl⟩ | ⟨g, c, rfl, hg⟩
    · exact ⟨none, 0, rfl, fun h => by simp at h⟩
    · exact ⟨_, c, rfl, fun _ => ⟨g, rfl, hg⟩⟩
  obtain ⟨a, c, rfl, ha⟩ := hsl
  clear hm hok hW hrow
  go_enter Tryd.func10, Tryd.ntmps10
  go_wp2_with fail
  go_loopw [12] (fun t12 wx => ∃ i : Nat, i ≤ Ps.length ∧ t12 = .int .i64 (i : Int) ∧ Hid (Bld wx (w.heap.size + 1) w.heap.size (wrs m (Ps.take i)) ∧ BFr (w.heap.size + 1) w.heap.size W1 wx ∧ (wrs m (Ps.take i)).length ≤ 8192)) (fun t12 _ => Ps.length - (intOf t12).toNat)
  case atStart => exact ⟨0, Nat.zero_le _, rfl, HF.out.1, BFr.refl _ _ _, by simp [wrs]⟩
  case round =>
    obtain ⟨i, hi, rfl, HI⟩ := hrel
    have hsw : w.heap.size + 1 ≤ wr.heap.size := by have := HI.out.2.1.size; have := HF.out.2.2; omega
    by_cases hlt : i < Ps.length
    · have hlti : (i : Int) < Ps.length := by omega
      obtain ⟨g, rfl, hg⟩ := ha (by omega)
      clear ha
      obtain ⟨d0, d1, d2⟩ := HR.out.at hlt
      have hcc : ∀ o, wr.cell? ⟨g, o, none⟩ = W1.cell? ⟨g, o, none⟩ := fun o => World.cell?_of_block (a := ⟨g, o, none⟩) (HI.out.2.1.block g (by omega) (by omega))
      have c0 := (hcc _).trans d0
      have c1 := (hcc _).trans d1
      have c2 := (hcc _).trans d2
      clear hcc d0 d1 d2
      have HP : Hid (PcOk Ps[i]) := HM.out.2 _ (List.getElem_mem hlt)
      have HT : Hid (wrs m (Ps.take (i + 1)) = wrs m (Ps.take i) ++ wrP m Ps[i] ∧ (wrs m (Ps.take (i + 1))).length ≤ (wrs m Ps).length) := ⟨wrs_take m Ps hlt, wrs_le m Ps _⟩
      obtain ⟨y, hy⟩ : ∃ y, Ps[i] = y := ⟨_, rfl⟩
      rw [hy] at c0 c1 HP HT
      clear hy
      go_wp2_with fail
      refine (wire_any m y _ HM.out.1 HP.out ((HW1.out.frame HI.out.2.1 (by omega) (by omega)).below ((Below.refl _ _).alloc (Nat.le_refl _) _))).mono ?_
      rintro e w3 ⟨⟨Y, rfl, hY⟩, b3⟩
      have b4 : Below wr.heap.size wr w3 := below_then ((Below.refl _ _).alloc (Nat.le_refl _) _) b3
      have H3 : Hid (Bld w3 (w.heap.size + 1) w.heap.size (wrs m (Ps.take i)) ∧ BFr (w.heap.size + 1) w.heap.size W1 w3) := ⟨HI.out.1.below b4, HI.out.2.1.trans (BFr.of (b4.mono hsw))⟩
      have HY : Hid (wrs m (Ps.take (i + 1)) = wrs m (Ps.take i) ++ Y.data.toList ∧ (wrs m (Ps.take (i + 1))).length = (wrs m (Ps.take i)).length + Y.size) := by
        have h1 : wrs m (Ps.take (i + 1)) = wrs m (Ps.take i) ++ Y.data.toList := by rw [hY.out]; exact HT.out.1
        refine ⟨h1, ?_⟩
        rw [h1, List.length_append]; simp only [Array.length_toList]; rfl
      have hw3 : w.heap.size + 1 ≤ w3.heap.size := by have := b4.size; omega
      have h8 := HI.out.2.2
      have hYs : Y.size ≤ 8192 := by have h1 := wrP_len (m := m) HP.out; rw [← hY.out, Array.length_toList] at h1; exact h1
      have HLn := fun w (h : Bld w (w.heap.size + 1) w.heap.size (wrs m (Ps.take i))) => bLen _ _ _ w h
      have hLn : Calls Tryd.prog 16 #[.pointer (some ⟨w.heap.size, 0, none⟩)] w3 fun e w' => e = .returned (.int .i64 (wrs m (Ps.take i)).length) ∧ w' = w3 := bLen _ _ _ _ H3.out.1
      obtain ⟨n0, hn0⟩ : ∃ n0, (wrs m (Ps.take i)).length = n0 := ⟨_, rfl⟩
      rw [hn0] at hLn h8 HY
      have HN0 : Hid ((wrs m (Ps.take i)).length = n0) := hn0
      clear hY b3 b4 HLn hn0 c0 c1 c2
      by_cases hbig : n0 + Y.size ≤ 8192
      · have hbi : ¬ (8192 : Int) < (n0 : Int) + Y.size := by omega
        go_wp2_with (go_at_call 16; refine hLn.mono ?_; rintro e w' ⟨rfl, hw⟩; obtain rfl : w3 = w' := hw.symm; clear hw)
        go_wp2_with fail
        refine (bWriteString _ _ _ _ _ H3.out.1 (by have := HN0.out; omega) hw3).mono ?_
        rintro e w5 ⟨rfl, hB5, hR5⟩
        have H5 : Hid (Bld w5 (w.heap.size + 1) w.heap.size (wrs m (Ps.take (i + 1))) ∧ BFr (w.heap.size + 1) w.heap.size W1 w5 ∧ (wrs m (Ps.take (i + 1))).length ≤ 8192) := ⟨by rw [HY.out.1]; exact hB5, H3.out.2.trans hR5, by rw [HY.out.2]; exact hbig⟩
        clear hB5 hR5
        go_wp2_with fail
        go_roundw
        case rel => exact ⟨i + 1, by omega, by go_num, H5.out⟩
        case measure => simp [intOf]; omega
      · have hbi : (8192 : Int) < (n0 : Int) + Y.size := by omega
        go_wp2_with (go_at_call 16; refine hLn.mono ?_; rintro e w' ⟨rfl, hw⟩; obtain rfl : w3 = w' := hw.symm; clear hw)
        go_wp2_with fail
        refine (efault_any _ _ _).mono ?_
        rintro e w5 ⟨rfl, f5, b5⟩
        have H5 : Hid (EFault w5 w3.heap.size 0 4 ∧ Below w.heap.size w w5 ∧ ¬ (wrs m Ps).length ≤ 8192) := ⟨f5, (HF.out.2.1.trans (H3.out.2.below (by omega) (Nat.le_refl _))).trans (b5.mono (by omega)), by have := HY.out.2; have := HT.out.2; omega⟩
        clear f5 b5
        go_wp2_with fail
        go_ret2
        exact WrQ.long H5.out.2.2 H5.out.1 H5.out.2.1
    · go_wp2_with fail
      refine (bString _ _ w.heap.size _ _ HI.out.1 (by omega) (Nat.le_refl _)).mono ?_
      rintro e w4 ⟨rfl, b4⟩
      have H4 : Hid (Below w.heap.size w w4 ∧ (wrs m Ps).length ≤ 8192 ∧ Ps.take i = Ps) := by
        have ht : Ps.take i = Ps := List.take_of_length_le (by omega)
        refine ⟨(HF.out.2.1.trans (HI.out.2.1.below (by omega) (Nat.le_refl _))).trans b4, ?_, ht⟩
        have := HI.out.2.2; rw [ht] at this; exact this
      clear b4
      rw [H4.out.2.2]
      go_wp2_with fail
      go_ret2
      exact WrQ.ok H4.out.2.1 H4.out.1
end Go.Proofs.YtkpebmhokdckfaaDoor
