/-
  judge and Text of "NM"; types.Decimal.
-/
import Derived.Test.YtphobcobpclioaaGreatDoorTdText
namespace Go.Proofs.YtphobcobpclioaaGreatDoor.Td
open Go.RowKit

theorem cell_lt {w : World} {a : Addr} {v : Value} (h : w.cell? a = some v) : a.block < w.heap.size := by
  rcases Nat.lt_or_ge a.block w.heap.size with g | g
  · exact g
  · simp [World.cell?, Array.getElem?_eq_none g] at h
/-- A block of one's own. -/
structure Box (w : World) (b : Nat) (cs : Array Value) : Prop where
  lt : b < w.heap.size
  cell : ∀ o, w.cell? ⟨b, o, none⟩ = cs[o]?
  free : ∀ o, w.frozen? ⟨b, o, none⟩ = false
theorem cell_new (w : World) (cs : Array Value) (t : TypeId) (j : Nat) : (w.alloc (.cells cs t)).cell? ⟨w.heap.size, j, none⟩ = cs[j]? := by
  have hb : (w.alloc (.cells cs t)).heap[w.heap.size]? = some (.cells cs t) := by show (w.heap.push _)[w.heap.size]? = _; simp
  unfold World.cell?
  rw [hb]
  rfl
theorem Box.new (w : World) (cs : Array Value) (t : TypeId) : Box (w.alloc (.cells cs t)) w.heap.size cs :=
  ⟨by simp, cell_new w cs t, fun o => by simp⟩
theorem Box.below {w w' : World} {b : Nat} {cs : Array Value} (h : Box w b cs) (hb : Below w.heap.size w w') : Box w' b cs :=
  ⟨Nat.lt_of_lt_of_le h.lt hb.size, fun o => by rw [hb.cell (p := ⟨b, o, none⟩) h.lt]; exact h.cell o, fun o => by rw [hb.frozen (p := ⟨b, o, none⟩) h.lt]; exact h.free o⟩
theorem Box.alloc {w : World} {b : Nat} {cs : Array Value} (h : Box w b cs) (x : Obj) : Box (w.alloc x) b cs := h.below ((Below.refl _ _).alloc (Nat.le_refl _) _)
theorem Box.pPut {w : World} {b : Nat} {cs : Array Value} (h : Box w b cs) {j : Nat} (hj : j < cs.size) (v : Value) : Box (w.setCell ⟨b, j, none⟩ v) b (cs.set! j v) := by
  refine ⟨by have := h.lt; simpa [World.setCell] using this, fun o => ?_, fun o => (World.frozen?_setCell _ _ _ _).trans (h.free o)⟩
  by_cases ho : j = o
  · subst ho
    rw [World.cell?_setCell_same' _ _ _ (by rw [h.cell j]; simp [hj])]
    simp [hj]
  · rw [World.cell?_setCell_other _ _ _ _ (by simp), h.cell o, Array.set!_eq_setIfInBounds, Array.getElem?_setIfInBounds_ne (by omega)]
/-- A number's three cells, written one behind the other. -/
theorem nb_put {w0 w : World} {b : Nat} {z0 z1 z2 : Value} (h : Box w b #[z0, z1, z2]) (hB : w0.heap.size ≤ b) (hb : Below w0.heap.size w0 w) (x0 x1 x2 : Value) : Box (((w.setCell ⟨b, 0, none⟩ x0).setCell ⟨b, 1, none⟩ x1).setCell ⟨b, 2, none⟩ x2) b #[x0, x1, x2] ∧ Below w0.heap.size w0 (((w.setCell ⟨b, 0, none⟩ x0).setCell ⟨b, 1, none⟩ x1).setCell ⟨b, 2, none⟩ x2) :=
  ⟨by simpa using ((h.pPut (j := 0) (by simp) x0).pPut (j := 1) (by simp) x1).pPut (j := 2) (by simp) x2, ((hb.setCell (p := ⟨b, 0, none⟩) hB _).setCell (p := ⟨b, 1, none⟩) hB _).setCell (p := ⟨b, 2, none⟩) hB _⟩
/-- The cells of a fault of layer "types". -/
def TFault (w : World) (b : Nat) (a code : Int) : Prop :=
  w.cell? ⟨b, 0, none⟩ = some (.string ⟨#[116, 121, 112, 101, 115]⟩) ∧ w.cell? ⟨b, 1, none⟩ = some (.int .i64 a) ∧ w.cell? ⟨b, 2, none⟩ = some (.int .i64 code) ∧ w.cell? ⟨b, 3, none⟩ = some .nilIface
theorem TFault.below {w w' : World} {b : Nat} {a c : Int} (h : TFault w b a c) (hb : Below w.heap.size w w') : TFault w' b a c := by
  have hl : b < w.heap.size := cell_lt h.1
  have hc : ∀ o, w'.cell? ⟨b, o, none⟩ = w.cell? ⟨b, o, none⟩ := fun o => hb.cell (p := ⟨b, o, none⟩) hl
  exact ⟨by rw [hc]; exact h.1, by rw [hc]; exact h.2.1, by rw [hc]; exact h.2.2.1, by rw [hc]; exact h.2.2.2⟩
/-- An error that is just that: none where the number is 0. -/
def TEv (w : World) (v : Value) (a code : Int) : Prop := (v = .nilIface ∧ code = 0) ∨ (code ≠ 0 ∧ ∃ b, v = .iface 45 (.pointer (some ⟨b, 0, none⟩)) ∧ TFault w b a code)
theorem TEv.below {w w' : World} {v : Value} {a c : Int} (h : TEv w v a c) (hb : Below w.heap.size w w') : TEv w' v a c := by
  rcases h with h | ⟨h0, b, h1, h2⟩
  · exact Or.inl h
  · exact Or.inr ⟨h0, b, h1, h2.below hb⟩
theorem TEv.ok {w : World} {v : Value} {a : Int} (h : TEv w v a 0) : v = .nilIface := by
  rcases h with h | h
  · exact h.1
  · exact absurd rfl h.1
theorem TEv.bad {w : World} {v : Value} {a c : Int} (h : TEv w v a c) (hc : c ≠ 0) : ∃ b, v = .iface 45 (.pointer (some ⟨b, 0, none⟩)) := by
  rcases h with h | ⟨_, b, h, _⟩
  · exact absurd h.2 hc
  · exact ⟨b, h⟩
set_option maxHeartbeats 400000 in
theorem tfault_any (a code : Int) (hc : code ≠ 0) (w : World) : Calls Tryz.prog 10 #[.int .i64 a, .int .i64 code] w fun e w' => ∃ v, e = .returned v ∧ TEv w' v a code ∧ Below w.heap.size w w' := by
  go_enter Tryz.func10, Tryz.ntmps10
  go_wp2
  go_ret
  exact ⟨_, rfl, Or.inr ⟨hc, _, rfl, by simp [TFault]⟩, (Below.refl _ _).alloc (Nat.le_refl _) _⟩
def nmE (s : ByteArray) : Int := if isNm (bl s) then 0 else 162
set_option maxHeartbeats 1000000 in
theorem judge_nm (s : ByteArray) (w : World) (hs : s.size ≤ 140737488355328) : Calls Tryz.prog 11 #[.agg #[.string ⟨#[78, 77]⟩, fv 22, fv 21, .slice none 0 0], .string s] w fun e w' => e = .returned (.int .i64 (nmE s)) ∧ Below w.heap.size w w' := by
  have cN := fun w => isNumber_any s w hs
  obtain ⟨q, hq⟩ : ∃ q, isNm (bl s) = q := ⟨_, rfl⟩
  unfold nmE
  simp only [hq] at cN ⊢
  clear hq
  have HU : Hid (Below w.heap.size w (w.alloc (.cells #[.string ⟨#[78, 77]⟩, fv 22, fv 21, .slice none 0 0] 38))) := (Below.refl _ _).alloc (Nat.le_refl _) _
  go_enter Tryz.func11, Tryz.ntmps11
  go_wp2_with fail
  refine (cN _).mono ?_
  rintro _ w1 ⟨rfl, hb⟩
  have H1 : Hid (Below w.heap.size w w1) := below_then HU.out hb
  have k3 : w1.cell? ⟨w.heap.size, 3, none⟩ = some (.slice none 0 0) := by rw [hb.cell (p := ⟨w.heap.size, 3, none⟩) (by simp)]; simp
  clear hb cN
  cases q with
  | true =>
    go_wp2_with fail
    go_ret
    exact ⟨rfl, H1.out⟩
  | false =>
    go_wp2_with fail
    go_ret
    exact ⟨rfl, H1.out⟩
theorem nm_long {s : ByteArray} (h : 16 < s.size) : isNm (bl s) = false := by
  unfold isNm; rw [bl_len, decide_eq_false (by omega)]; rfl
/-- Text of "NM" and a text that is not the null. -/
def TxQ (s : ByteArray) (w : World) (r : Ending) (w' : World) : Prop := ∃ v, r = .returned v ∧ (isNm (bl s) = true → v = .nilIface) ∧ (isNm (bl s) = false → ∃ b, v = .iface 45 (.pointer (some ⟨b, 0, none⟩))) ∧ Below w.heap.size w w'
set_option maxRecDepth 100000 in
set_option maxHeartbeats 2000000 in
theorem text_nm (s : ByteArray) (w : World) (hs : s.size ≤ 140737488355328) (hn : (s.toList == [34, 34]) = false) : Calls Tryz.prog 5 #[.string ⟨#[78, 77]⟩, .string s] w fun r w' => TxQ s w r w' := by
  have cJ := fun w => judge_nm s w hs
  go_enter Tryz.func5, Tryz.ntmps5
  go_wp2_with fail
  refine (prim_nm _).mono ?_
  rintro _ w1 ⟨rfl, hb⟩
  have H1 : Hid (Below w.heap.size w w1) := hb
  clear hb
  by_cases hl : 8192 < s.size
  · have hli : (8192 : Int) < s.size := by omega
    go_wp2_with fail
    refine (tfault_any 0 4 (by decide) _).mono ?_
    rintro _ w2 ⟨ev, rfl, hev, hb⟩
    obtain ⟨fb, rfl⟩ := hev.bad (by decide)
    have H2 : Hid (Below w.heap.size w w2) := below_then H1.out (below_then ((Below.refl _ _).alloc (Nat.le_refl _) _) hb)
    clear hev hb
    go_wp2_with fail
    go_ret
    exact ⟨_, rfl, fun h => (by rw [nm_long (by omega)] at h; cases h), fun _ => ⟨_, rfl⟩, H2.out⟩
  · have hli : ¬ (8192 : Int) < s.size := by omega
    go_wp2_with fail
    refine (cJ _).mono ?_
    rintro _ w2 ⟨rfl, hb⟩
    have H2 : Hid (Below w.heap.size w w2) := below_then H1.out (below_then ((Below.refl _ _).alloc (Nat.le_refl _) _) hb)
    clear hb cJ
    unfold nmE
    cases hq : isNm (bl s) with
    | true =>
      simp only [if_true]
      go_wp2_with fail
      go_ret
      exact ⟨_, rfl, fun _ => rfl, fun h => (by rw [hq] at h; cases h), H2.out⟩
    | false =>
      simp only [Bool.false_eq_true, if_false]
      go_wp2_with fail
      refine (tfault_any 0 162 (by decide) _).mono ?_
      rintro _ w3 ⟨ev, rfl, hev, hb⟩
      obtain ⟨fb, rfl⟩ := hev.bad (by decide)
      have H3 : Hid (Below w.heap.size w w3) := below_then H2.out hb
      clear hev hb
      go_wp2_with fail
      go_ret
      exact ⟨_, rfl, fun h => (by rw [hq] at h; cases h), fun _ => ⟨_, rfl⟩, H3.out⟩
/-- What Decimal answers: sign, digits, scale; the error's number. -/
def dN (l : List UInt8) : Bool × List UInt8 × Nat := (numS l).getD (false, [], 0)
def dE (l : List UInt8) : Int := if (numS l).isSome then 0 else 162
abbrev nbV (x : Bool × List UInt8 × Nat) : Value := .agg #[.bool x.1, .string ⟨x.2.1.toArray⟩, .int .i64 (x.2.2 : Int)]
def DcQ (l : List UInt8) (w : World) (r : Ending) (w' : World) : Prop := ∃ ev, r = .returned (.tuple #[nbV (dN l), ev]) ∧ TEv w' ev 0 (dE l) ∧ Below w.heap.size w w'
theorem d_none {l : List UInt8} (h : isNm l = false) : dN l = (false, [], 0) ∧ dE l = 162 := by
  unfold dN dE numS; rw [h]; exact ⟨rfl, rfl⟩
theorem d_zero {l : List UInt8} (h : isNm l = true) (hd : numD l = []) : dN l = (false, [48], 0) ∧ dE l = 0 := by
  unfold dN dE numS; rw [h, hd]; exact ⟨rfl, rfl⟩
theorem d_some {l : List UInt8} (h : isNm l = true) (hd : numD l ≠ []) : dN l = (l.head? == some 45, numD l, (trR (cutB (uns l))).length) ∧ dE l = 0 := by
  unfold dN dE numS; rw [h]; simp [hd]
theorem null_not {s : ByteArray} (h : (s.toList == [34, 34]) = true) : isNm (bl s) = false := by
  have h2 : bl s = [34, 34] := by have := eq_of_beq h; rw [Lib.toList_data] at this; exact this
  rw [h2]; decide
theorem bl_append (a b : ByteArray) : bl (a ++ b) = bl a ++ bl b := by
  show (a ++ b).data.toList = _
  simp [bl]
theorem head_of {s : ByteArray} (h : 0 < s.size) : (bl s).head? = some s[0] := by
  obtain ⟨r, hr⟩ := cons_of h; rw [hr]; rfl
theorem nm_pos {s : ByteArray} (h : isNm (bl s) = true) : 0 < s.size := by
  rcases Nat.eq_zero_or_pos s.size with g | g
  · rw [bl_nil g] at h; cases h
  · exact g
theorem TFault.set {w : World} {b g : Nat} {a c : Int} (h : TFault w b a c) (hg : g ≠ b) (o : Nat) (v : Value) : TFault (w.setCell ⟨g, o, none⟩ v) b a c := by
  have hc : ∀ k, (w.setCell ⟨g, o, none⟩ v).cell? ⟨b, k, none⟩ = w.cell? ⟨b, k, none⟩ := fun k => World.cell?_setCell_other _ _ _ _ (fun e => hg (by cases e; rfl))
  exact ⟨by rw [hc]; exact h.1, by rw [hc]; exact h.2.1, by rw [hc]; exact h.2.2.1, by rw [hc]; exact h.2.2.2⟩
theorem TEv.put {w : World} {g : Nat} {v : Value} {a c : Int} (h : TEv w v a c) {z0 z1 z2 : Value} (hB : Box w g #[z0, z1, z2]) (hz : ∀ x, z0 ≠ .string x) (x0 x1 x2 : Value) : TEv (((w.setCell ⟨g, 0, none⟩ x0).setCell ⟨g, 1, none⟩ x1).setCell ⟨g, 2, none⟩ x2) v a c := by
  rcases h with h | ⟨h0, b, h1, h2⟩
  · exact Or.inl h
  · have hne : g ≠ b := fun e => by
      have := hB.cell 0
      rw [e, h2.1] at this
      simp at this
      exact hz _ this.symm
    exact Or.inr ⟨h0, b, h1, ((h2.set hne _ _).set hne _ _).set hne _ _⟩
theorem fin_dc {w x : World} {l : List UInt8} {ev z0 z1 z2 : Value} {c : Int} {n : Bool × List UInt8 × Nat} (hE : dN l = n ∧ dE l = c) (hev : TEv x ev 0 c) (hB : Box x w.heap.size #[z0, z1, z2]) (hz : ∀ y, z0 ≠ .string y) (hb : Below w.heap.size w x) {x0 x1 x2 : Value} (h0 : x0 = .bool n.1) (h1 : x1 = .string ⟨n.2.1.toArray⟩) (h2 : x2 = .int .i64 (n.2.2 : Int)) :
    DcQ l w (.returned (.tuple #[.agg #[x0, x1, x2], ev])) (((x.setCell ⟨w.heap.size, 0, none⟩ x0).setCell ⟨w.heap.size, 1, none⟩ x1).setCell ⟨w.heap.size, 2, none⟩ x2) := by
  refine ⟨ev, ?_, ?_, (nb_put hB (Nat.le_refl _) hb _ _ _).2⟩
  · rw [hE.1, h0, h1, h2]
  · rw [hE.2]; exact hev.put hB hz _ _ _
end Go.Proofs.YtphobcobpclioaaGreatDoor.Td
