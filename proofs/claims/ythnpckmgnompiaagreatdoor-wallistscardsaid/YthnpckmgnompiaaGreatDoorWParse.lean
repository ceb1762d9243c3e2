/-
  The log's parse: an area's bytes.
-/
import Derived.Test.YthnpckmgnompiaaGreatDoorWRecOf
import Derived.Test.YthnpckmgnompiaaGreatDoorBook
namespace Go.Proofs.YthnpckmgnompiaaGreatDoor
open Go.RowKit Go.BigFrame

/-- The whole records with which bytes begin. -/
def recsS : Nat → List Int → List (List Int)
  | 0, _ => []
  | f + 1, bs => match rcS bs 1 20000 with
    | none => []
    | some ct => ct :: recsS f (bs.drop (ct.length + 13))
/-- How many bytes records take. -/
def sizes (rs : List (List Int)) : Nat := (rs.map (fun r => r.length + 13)).sum
/-- An area's generation, snapshot, records. -/
def psS (bs : List Int) (ar : Int) : Option (Nat × List Int × List (List Int)) :=
  match hdS bs with
  | none => none
  | some g => if (g : Int) % 2 ≠ ar then none else match rcS (bs.drop 17) 0 2097152 with
    | none => none
    | some sn => some (g, sn, recsS bs.length (bs.drop (30 + sn.length)))
theorem rcS_len {bs : List Int} {le mo : Nat} {ct : List Int} (h : rcS bs le mo = some ct) : ct.length + 13 ≤ bs.length ∧ le ≤ ct.length ∧ ct.length ≤ mo ∧ ct = (bs.drop 12).take ct.length := by
  unfold rcS at h
  split at h
  · cases h
  · split at h
    · cases h
    · split at h
      · cases h
      · rename_i h1 h2 h3
        simp only [Option.some.injEq] at h
        have hl : ct.length = valN (bs.take 4) := by rw [← h, List.length_take, List.length_drop]; omega
        rw [hl]
        exact ⟨by omega, by omega, by omega, h.symm⟩
/-- A list of slices that lie in memory: what each holds. -/
def Pcs (w : World) (us : List Value) (ds : List (List Int)) : Prop := us.length = ds.length ∧ ∀ (j : Nat) (u : Value) (d : List Int), us[j]? = some u → ds[j]? = some d → ∃ a c, u = .slice a d.length c ∧ Byts w a d.length d ∧ (a = none → c = 0)
/-- Where a slice lies: from block N on. -/
def Far (N : Nat) (a : Option Addr) : Prop := ∀ b o, a = some ⟨b, o, none⟩ → N ≤ b
def PFar (N : Nat) (us : List Value) : Prop := ∀ (j b o n c : Nat), us[j]? = some (.slice (some ⟨b, o, none⟩) n c) → N ≤ b
theorem Far.low {N N' : Nat} {a : Option Addr} (h : Far N a) (hN : N' ≤ N) : Far N' a := fun b o e => Nat.le_trans hN (h b o e)
theorem PFar.low {N N' : Nat} {us : List Value} (h : PFar N us) (hN : N' ≤ N) : PFar N' us := fun j b o n c e => Nat.le_trans hN (h j b o n c e)
theorem PFar.snoc {N : Nat} {us : List Value} {b o n c : Nat} (h : PFar N us) (hb : N ≤ b) : PFar N (us ++ [Value.slice (some ⟨b, o, none⟩) n c]) := fun j b' o' n' c' hj => by
  rcases Nat.lt_or_ge j us.length with hl | hl
  · rw [List.getElem?_append_left hl] at hj
    exact h j b' o' n' c' hj
  · rw [List.getElem?_append_right hl] at hj
    rcases Nat.eq_zero_or_pos (j - us.length) with e | e
    · rw [e] at hj
      simp at hj
      omega
    · rw [List.getElem?_eq_none (by simp only [List.length_singleton]; omega)] at hj; cases hj
theorem Pcs.snoc {w : World} {us : List Value} {ds : List (List Int)} (h : Pcs w us ds) {a : Option Addr} {c : Nat} {d : List Int} (hb : Byts w a d.length d) (hn : a = none → c = 0) : Pcs w (us ++ [Value.slice a d.length c]) (ds ++ [d]) := by
  refine ⟨by simp [h.1], fun j u d' hu hd => ?_⟩
  rcases Nat.lt_or_ge j us.length with hj | hj
  · rw [List.getElem?_append_left hj] at hu
    rw [List.getElem?_append_left (by rw [← h.1]; exact hj)] at hd
    exact h.2 j u d' hu hd
  · rw [List.getElem?_append_right hj] at hu
    rw [List.getElem?_append_right (by rw [← h.1]; exact hj), ← h.1] at hd
    rcases Nat.eq_zero_or_pos (j - us.length) with e | e
    · rw [e] at hu hd
      simp at hu hd
      subst hu hd
      exact ⟨a, c, rfl, hb, hn⟩
    · rw [List.getElem?_eq_none (by simp only [List.length_singleton]; omega)] at hu; cases hu
theorem Pcs.below {w w' : World} {us : List Value} {ds : List (List Int)} (h : Pcs w us ds) (hb : Below w.heap.size w w') : Pcs w' us ds :=
  ⟨h.1, fun j u d hu hd => by obtain ⟨a, c, e, hby, hn⟩ := h.2 j u d hu hd; exact ⟨a, c, e, hby.below hb, hn⟩⟩
theorem VRow.low {w : World} {B B' : Nat} {e : TypeId} {v : Value} {xs : List Value} (h : VRow w B e v xs) (hB : B' ≤ B) : VRow w B' e v xs := by
  rcases h.2 with ⟨rfl, h0⟩ | ⟨g, cap, cur, rfl, hb, rest⟩
  · exact ⟨h.1, Or.inl ⟨rfl, h0⟩⟩
  · exact ⟨h.1, Or.inr ⟨g, cap, cur, rfl, Nat.le_trans hB hb, rest⟩⟩
theorem recsS_none {f : Nat} {bs : List Int} (h : rcS bs 1 20000 = none) : recsS f bs = [] := by
  cases f with
  | zero => rfl
  | succ f => rw [recsS, h]
theorem recsS_some {f : Nat} {bs ct : List Int} (h : rcS bs 1 20000 = some ct) (hf : 0 < f) : recsS f bs = ct :: recsS (f - 1) (bs.drop (ct.length + 13)) := by
  cases f with
  | zero => omega
  | succ f => rw [recsS, h]; rfl
theorem sizes_snoc (ds : List (List Int)) (d : List Int) : sizes (ds ++ [d]) = sizes ds + (d.length + 13) := by simp [sizes]
/-- What parse answers. -/
def PsQ (w : World) (N : Nat) (bs : List Int) (ar : Int) (e : Ending) (w' : World) : Prop :=
  Below w.heap.size w w' ∧ ((psS bs ar = none ∧ e = .returned (.agg #[.int .u64 0, .slice none 0 0, .slice none 0 0, .int .i64 0, .int .i64 0, .int .i64 0])) ∨ ∃ g sn rs sa sc ra rn rc us, psS bs ar = some (g, sn, rs) ∧ e = .returned (.agg #[.int .u64 (g : Nat), .slice sa sn.length sc, .slice ra rn rc, .int .i64 0, .int .i64 0, .int .i64 ((30 + sn.length + sizes rs : Nat) : Int)]) ∧ Byts w' sa sn.length sn ∧ (sa = none → sc = 0) ∧ VRow w' w.heap.size 22 (.slice ra rn rc) us ∧ Pcs w' us rs ∧ Far N sa ∧ PFar N us)
/-- A block of six cells, written whole. -/
theorem six_set {x : World} {R : Nat} {c0 c1 c2 c3 c4 c5 : Value} (h0 : x.cell? ⟨R, 0, none⟩ = some c0) (h1 : x.cell? ⟨R, 1, none⟩ = some c1) (h2 : x.cell? ⟨R, 2, none⟩ = some c2) (h3 : x.cell? ⟨R, 3, none⟩ = some c3) (h4 : x.cell? ⟨R, 4, none⟩ = some c4) (h5 : x.cell? ⟨R, 5, none⟩ = some c5) (u0 u1 u2 u3 u4 u5 : Value) : Off (fun k => k = R) x ((((((x.setCell ⟨R, 0, none⟩ u0).setCell ⟨R, 1, none⟩ u1).setCell ⟨R, 2, none⟩ u2).setCell ⟨R, 3, none⟩ u3).setCell ⟨R, 4, none⟩ u4).setCell ⟨R, 5, none⟩ u5) ∧ ((((((x.setCell ⟨R, 0, none⟩ u0).setCell ⟨R, 1, none⟩ u1).setCell ⟨R, 2, none⟩ u2).setCell ⟨R, 3, none⟩ u3).setCell ⟨R, 4, none⟩ u4).setCell ⟨R, 5, none⟩ u5).cell? ⟨R, 0, none⟩ = some u0 ∧ ((((((x.setCell ⟨R, 0, none⟩ u0).setCell ⟨R, 1, none⟩ u1).setCell ⟨R, 2, none⟩ u2).setCell ⟨R, 3, none⟩ u3).setCell ⟨R, 4, none⟩ u4).setCell ⟨R, 5, none⟩ u5).cell? ⟨R, 1, none⟩ = some u1 ∧ ((((((x.setCell ⟨R, 0, none⟩ u0).setCell ⟨R, 1, none⟩ u1).setCell ⟨R, 2, none⟩ u2).setCell ⟨R, 3, none⟩ u3).setCell ⟨R, 4, none⟩ u4).setCell ⟨R, 5, none⟩ u5).cell? ⟨R, 2, none⟩ = some u2 ∧ ((((((x.setCell ⟨R, 0, none⟩ u0).setCell ⟨R, 1, none⟩ u1).setCell ⟨R, 2, none⟩ u2).setCell ⟨R, 3, none⟩ u3).setCell ⟨R, 4, none⟩ u4).setCell ⟨R, 5, none⟩ u5).cell? ⟨R, 3, none⟩ = some u3 ∧ ((((((x.setCell ⟨R, 0, none⟩ u0).setCell ⟨R, 1, none⟩ u1).setCell ⟨R, 2, none⟩ u2).setCell ⟨R, 3, none⟩ u3).setCell ⟨R, 4, none⟩ u4).setCell ⟨R, 5, none⟩ u5).cell? ⟨R, 4, none⟩ = some u4 ∧ ((((((x.setCell ⟨R, 0, none⟩ u0).setCell ⟨R, 1, none⟩ u1).setCell ⟨R, 2, none⟩ u2).setCell ⟨R, 3, none⟩ u3).setCell ⟨R, 4, none⟩ u4).setCell ⟨R, 5, none⟩ u5).cell? ⟨R, 5, none⟩ = some u5 := by
  have so : ∀ (y : World) (p q : Nat) (u : Value), p ≠ q → (y.setCell ⟨R, p, none⟩ u).cell? ⟨R, q, none⟩ = y.cell? ⟨R, q, none⟩ := fun y p q u h => World.cell?_setCell_other _ _ _ _ (by simp; first | done | omega)
  have ss : ∀ (y : World) (p : Nat) (u c : Value), y.cell? ⟨R, p, none⟩ = some c → (y.setCell ⟨R, p, none⟩ u).cell? ⟨R, p, none⟩ = some u := fun y p u c h => World.cell?_setCell_same' _ _ _ (by rw [h]; rfl)
  have off : ∀ (y : World) (p : Nat) (u : Value), Off (fun k => k = R) x y → Off (fun k => k = R) x (y.setCell ⟨R, p, none⟩ u) := fun y p u h => h.setCell (p := ⟨R, p, none⟩) rfl u
  refine ⟨off _ _ _ (off _ _ _ (off _ _ _ (off _ _ _ (off _ _ _ (off _ _ _ (Off.refl _ _)))))), ?_, ?_, ?_, ?_, ?_, ?_⟩
  · rw [so _ 5 0 _ (by omega), so _ 4 0 _ (by omega), so _ 3 0 _ (by omega), so _ 2 0 _ (by omega), so _ 1 0 _ (by omega)]
    refine ss _ 0 _ c0 ?_
    exact h0
  · rw [so _ 5 1 _ (by omega), so _ 4 1 _ (by omega), so _ 3 1 _ (by omega), so _ 2 1 _ (by omega)]
    refine ss _ 1 _ c1 ?_
    rw [so _ 0 1 _ (by omega)]
    exact h1
  · rw [so _ 5 2 _ (by omega), so _ 4 2 _ (by omega), so _ 3 2 _ (by omega)]
    refine ss _ 2 _ c2 ?_
    rw [so _ 1 2 _ (by omega), so _ 0 2 _ (by omega)]
    exact h2
  · rw [so _ 5 3 _ (by omega), so _ 4 3 _ (by omega)]
    refine ss _ 3 _ c3 ?_
    rw [so _ 2 3 _ (by omega), so _ 1 3 _ (by omega), so _ 0 3 _ (by omega)]
    exact h3
  · rw [so _ 5 4 _ (by omega)]
    refine ss _ 4 _ c4 ?_
    rw [so _ 3 4 _ (by omega), so _ 2 4 _ (by omega), so _ 1 4 _ (by omega), so _ 0 4 _ (by omega)]
    exact h4
  · skip
    refine ss _ 5 _ c5 ?_
    rw [so _ 4 5 _ (by omega), so _ 3 5 _ (by omega), so _ 2 5 _ (by omega), so _ 1 5 _ (by omega), so _ 0 5 _ (by omega)]
    exact h5
section
variable {w : World} {po : Option Addr} {m c : Nat} {bs : List Int} {ar : Int}
/-- What holds ahead of each round of parse's loop (block F: what was found up to now). -/
def PLp (N : Nat) (w wx : World) (F R m : Nat) (bs : List Int) (g : Nat) (sv : Value) (p0 : Nat) : Prop :=
  ∃ (p : Nat) (ds : List (List Int)) (us : List Value) (a : Option Addr) (n k : Nat), Below w.heap.size w wx ∧ p ≤ m ∧ p = p0 + sizes ds ∧ recsS bs.length (bs.drop p0) = ds ++ recsS (bs.length - ds.length) (bs.drop p) ∧ ds.length ≤ p ∧ wx.cell? ⟨F, 0, none⟩ = some (.int .u64 g) ∧ wx.cell? ⟨F, 1, none⟩ = some sv ∧ wx.cell? ⟨F, 2, none⟩ = some (.slice a n k) ∧ wx.cell? ⟨F, 3, none⟩ = some (.int .i64 0) ∧ wx.cell? ⟨F, 4, none⟩ = some (.int .i64 0) ∧ wx.cell? ⟨F, 5, none⟩ = some (.int .i64 p) ∧ (∀ q, wx.frozen? ⟨F, q, none⟩ = false) ∧ (∀ q, wx.cell? ⟨R, q, none⟩ = (#[Value.int .u64 0, Value.slice none 0 0, Value.slice none 0 0, Value.int .i64 0, Value.int .i64 0, Value.int .i64 0] : Array Value)[q]?) ∧ (∀ q, wx.frozen? ⟨R, q, none⟩ = false) ∧ VRow wx (F + 1) 22 (.slice a n k) us ∧ Pcs w us ds ∧ PFar N us ∧ F < wx.heap.size ∧ w.heap.size ≤ R ∧ R < F
set_option maxRecDepth 100000 in
set_option maxHeartbeats 4000000 in
theorem parse_any {N : Nat} (hfar : Far N po) (hb : Byts w po m bs) (hr : Rng bs) (hpo : po = none → c = 0) (hmc : m ≤ c) (hcm : c ≤ maxLen) (hm47 : m ≤ 16777216) (hH : Halves w) (hR : HdR) :
    Calls Tryz.prog 89 #[.slice po m c, .int .i64 ar] w (PsQ w N bs ar) := by
  have hl := hb.len
  have hcm' := hcm
  unfold maxLen at hcm
  have HH : Hid (∀ x, Below w.heap.size w x → Calls Tryz.prog 93 #[.slice po m c] x fun e w' => e = .returned (.tuple #[.int .u64 ((hdS bs).getD 0 : Nat), .bool (hdS bs).isSome]) ∧ Below x.heap.size x w') := fun x hx => headOf_any (hb.below hx) hr hmc hcm' (hH.under hx) hR
  have HB : Hid (Byts w po m bs ∧ Rng bs ∧ Halves w) := ⟨hb, hr, hH⟩
  have HFar : Hid (Far N po) := hfar
  clear hb hr hH hR hfar
  cases hd : hdS bs with
  | none =>
    have E : Hid (psS bs ar = none) := by unfold Hid psS; rw [hd]
    rw [hd] at HH
    clear hd
    go_enter Tryz.func89, Tryz.ntmps89
    go_wp2_with fail
    refine (HH.out _ ((Below.refl _ _).alloc (Nat.le_refl _) _)).mono ?_
    rintro e w1 ⟨rfl, b1⟩
    have r0 : w1.cell? ⟨w.heap.size, 0, none⟩ = some (.int .u64 0) := (b1.cell (p := ⟨w.heap.size, 0, none⟩) (by simp)).trans (by simp)
    have z0 : w1.frozen? ⟨w.heap.size, 0, none⟩ = false := (b1.frozen (p := ⟨w.heap.size, 0, none⟩) (by simp)).trans (by simp)
    have r1 : w1.cell? ⟨w.heap.size, 1, none⟩ = some (.slice none 0 0) := (b1.cell (p := ⟨w.heap.size, 1, none⟩) (by simp)).trans (by simp)
    have z1 : w1.frozen? ⟨w.heap.size, 1, none⟩ = false := (b1.frozen (p := ⟨w.heap.size, 1, none⟩) (by simp)).trans (by simp)
    have r2 : w1.cell? ⟨w.heap.size, 2, none⟩ = some (.slice none 0 0) := (b1.cell (p := ⟨w.heap.size, 2, none⟩) (by simp)).trans (by simp)
    have z2 : w1.frozen? ⟨w.heap.size, 2, none⟩ = false := (b1.frozen (p := ⟨w.heap.size, 2, none⟩) (by simp)).trans (by simp)
    have r3 : w1.cell? ⟨w.heap.size, 3, none⟩ = some (.int .i64 0) := (b1.cell (p := ⟨w.heap.size, 3, none⟩) (by simp)).trans (by simp)
    have z3 : w1.frozen? ⟨w.heap.size, 3, none⟩ = false := (b1.frozen (p := ⟨w.heap.size, 3, none⟩) (by simp)).trans (by simp)
    have r4 : w1.cell? ⟨w.heap.size, 4, none⟩ = some (.int .i64 0) := (b1.cell (p := ⟨w.heap.size, 4, none⟩) (by simp)).trans (by simp)
    have z4 : w1.frozen? ⟨w.heap.size, 4, none⟩ = false := (b1.frozen (p := ⟨w.heap.size, 4, none⟩) (by simp)).trans (by simp)
    have r5 : w1.cell? ⟨w.heap.size, 5, none⟩ = some (.int .i64 0) := (b1.cell (p := ⟨w.heap.size, 5, none⟩) (by simp)).trans (by simp)
    have z5 : w1.frozen? ⟨w.heap.size, 5, none⟩ = false := (b1.frozen (p := ⟨w.heap.size, 5, none⟩) (by simp)).trans (by simp)
    have HW : Hid (Below w.heap.size w w1) := ((Below.refl _ _).alloc (Nat.le_refl _) _).trans (b1.mono (by simp))
    clear b1 HH HB
    go_wp2_with fail
    obtain ⟨ho, y0, y1, y2, y3, y4, y5⟩ := six_set r0 r1 r2 r3 r4 r5 (.int .u64 0) (.slice none 0 0) (.slice none 0 0) (.int .i64 0) (.int .i64 0) (.int .i64 0)
    have HY : Hid (Off (fun k => k = w.heap.size) w1 ((((((w1.setCell ⟨w.heap.size, 0, none⟩ (.int .u64 0)).setCell ⟨w.heap.size, 1, none⟩ (.slice none 0 0)).setCell ⟨w.heap.size, 2, none⟩ (.slice none 0 0)).setCell ⟨w.heap.size, 3, none⟩ (.int .i64 0)).setCell ⟨w.heap.size, 4, none⟩ (.int .i64 0)).setCell ⟨w.heap.size, 5, none⟩ (.int .i64 0))) := ho
    exact bodyPost_ret (v := .agg #[.int .u64 0, .slice none 0 0, .slice none 0 0, .int .i64 0, .int .i64 0, .int .i64 0]) (by simp [results, Tryz.results89, go_sem, y0, y1, y2, y3, y4, y5]) rfl ⟨HW.out.trans (HY.out.below HW.out.size (fun k g => by omega)), Or.inl ⟨E.out, rfl⟩⟩
  | some g =>
    obtain ⟨b, o, rfl⟩ : ∃ b o, po = some ⟨b, o, none⟩ := by
      have : ¬ bs.length < 17 := fun h => by unfold hdS at hd; rw [if_pos h] at hd; cases hd
      obtain ⟨b, o, e, _⟩ := HB.out.1.cell 0 (by omega)
      exact ⟨b, o, e⟩
    have h17 : 17 ≤ m := by
      rcases Nat.lt_or_ge m 17 with h | h
      · unfold hdS at hd; rw [if_pos (by omega)] at hd; cases hd
      · exact h
    have HD : Hid (hdS bs = some g) := hd
    rw [hd] at HH
    clear hd
    go_enter Tryz.func89, Tryz.ntmps89
    go_wp2_with fail
    refine (HH.out _ ((Below.refl _ _).alloc (Nat.le_refl _) _)).mono ?_
    rintro e w1 ⟨rfl, b1⟩
    have r0 : w1.cell? ⟨w.heap.size, 0, none⟩ = some (.int .u64 0) := (b1.cell (p := ⟨w.heap.size, 0, none⟩) (by simp)).trans (by simp)
    have z0 : w1.frozen? ⟨w.heap.size, 0, none⟩ = false := (b1.frozen (p := ⟨w.heap.size, 0, none⟩) (by simp)).trans (by simp)
    have r1 : w1.cell? ⟨w.heap.size, 1, none⟩ = some (.slice none 0 0) := (b1.cell (p := ⟨w.heap.size, 1, none⟩) (by simp)).trans (by simp)
    have z1 : w1.frozen? ⟨w.heap.size, 1, none⟩ = false := (b1.frozen (p := ⟨w.heap.size, 1, none⟩) (by simp)).trans (by simp)
    have r2 : w1.cell? ⟨w.heap.size, 2, none⟩ = some (.slice none 0 0) := (b1.cell (p := ⟨w.heap.size, 2, none⟩) (by simp)).trans (by simp)
    have z2 : w1.frozen? ⟨w.heap.size, 2, none⟩ = false := (b1.frozen (p := ⟨w.heap.size, 2, none⟩) (by simp)).trans (by simp)
    have r3 : w1.cell? ⟨w.heap.size, 3, none⟩ = some (.int .i64 0) := (b1.cell (p := ⟨w.heap.size, 3, none⟩) (by simp)).trans (by simp)
    have z3 : w1.frozen? ⟨w.heap.size, 3, none⟩ = false := (b1.frozen (p := ⟨w.heap.size, 3, none⟩) (by simp)).trans (by simp)
    have r4 : w1.cell? ⟨w.heap.size, 4, none⟩ = some (.int .i64 0) := (b1.cell (p := ⟨w.heap.size, 4, none⟩) (by simp)).trans (by simp)
    have z4 : w1.frozen? ⟨w.heap.size, 4, none⟩ = false := (b1.frozen (p := ⟨w.heap.size, 4, none⟩) (by simp)).trans (by simp)
    have r5 : w1.cell? ⟨w.heap.size, 5, none⟩ = some (.int .i64 0) := (b1.cell (p := ⟨w.heap.size, 5, none⟩) (by simp)).trans (by simp)
    have z5 : w1.frozen? ⟨w.heap.size, 5, none⟩ = false := (b1.frozen (p := ⟨w.heap.size, 5, none⟩) (by simp)).trans (by simp)
    have HRC : Hid ((∀ q, w1.cell? ⟨w.heap.size, q, none⟩ = (#[Value.int .u64 0, Value.slice none 0 0, Value.slice none 0 0, Value.int .i64 0, Value.int .i64 0, Value.int .i64 0] : Array Value)[q]?) ∧ ∀ q, w1.frozen? ⟨w.heap.size, q, none⟩ = false) := ⟨fun q => (b1.cell (p := ⟨w.heap.size, q, none⟩) (by simp)).trans (World.cell?_alloc_new _ _ _ _), fun q => (b1.frozen (p := ⟨w.heap.size, q, none⟩) (by simp)).trans (by simp)⟩
    have HW : Hid (Below w.heap.size w w1) := ((Below.refl _ _).alloc (Nat.le_refl _) _).trans (b1.mono (by simp))
    have hR1 : w.heap.size < w1.heap.size := cell_lt r0
    clear b1 HH
    go_wp2_with fail
    refine (areaOf_any _ (by omega)).mono ?_
    rintro e w1' ⟨rfl, hw1⟩
    rw [hw1]
    clear hw1
    by_cases hga : (g : Int) % 2 = ar
    · have d1 : ((g : Int) % 2 == ar) = true := by simp [hga]
      have d1' : ((g : Int) % 2 != ar) = false := by simp [hga]
      have h17c : (17 : Int) ≤ m := by omega
      by_cases hc17 : c = 17
      · subst hc17
        obtain rfl : m = 17 := by omega
        have hrn : rcS (bs.drop 17) 0 2097152 = none := by unfold rcS; rw [if_pos (by rw [List.length_drop]; omega)]
        have E : Hid (psS bs ar = none) := by unfold Hid psS; rw [HD.out]; simp only; rw [if_neg (by simp [hga]), hrn]
        have HR1 : Hid (Calls Tryz.prog 94 #[.slice (some ⟨b, o, none⟩) 0 0, .int .i64 0, .int .i64 2097152] w1 fun e w' => e = .returned (.tuple #[.slice none 0 0, .bool false]) ∧ w' = w1) := by
          refine (recordOf_any (po := some ⟨b, o, none⟩) (m := 0) (c := 0) (bs := []) (le := 0) (mo := 2097152) ⟨rfl, fun j hj => absurd hj (Nat.not_lt_zero _)⟩ (fun z hz => by cases hz) (Nat.le_refl _) (by unfold maxLen; omega) (by omega) (HB.out.2.2.under HW.out) (by omega) (by omega)).mono ?_
          rintro e w' ⟨rfl, ⟨_, he⟩ | ⟨_, _, _, hn, _⟩⟩
          · exact ⟨he, rfl⟩
          · cases hn
        clear HB hrn
        go_wp2_with fail
        refine HR1.out.mono ?_
        rintro e w1'' ⟨rfl, hw1⟩
        rw [hw1]
        clear hw1 HR1
        go_wp2_with fail
        obtain ⟨ho, y0, y1, y2, y3, y4, y5⟩ := six_set r0 r1 r2 r3 r4 r5 (.int .u64 0) (.slice none 0 0) (.slice none 0 0) (.int .i64 0) (.int .i64 0) (.int .i64 0)
        exact bodyPost_ret (v := .agg #[.int .u64 0, .slice none 0 0, .slice none 0 0, .int .i64 0, .int .i64 0, .int .i64 0]) (by simp [results, Tryz.results89, go_sem, y0, y1, y2, y3, y4, y5]) rfl ⟨HW.out.trans (ho.below HW.out.size (fun k g => by omega)), Or.inl ⟨E.out, rfl⟩⟩
      · have hc17' : (17 : Int) < c := by omega
        have hc17n : 17 < c := by omega
        have HR1 : Hid (Calls Tryz.prog 94 #[.slice (some ⟨b, o + 17, none⟩) (m - 17) (c - 17), .int .i64 0, .int .i64 2097152] w1 (RcQ w1 (some ⟨b, o + 17, none⟩) (c - 17) (rcS (bs.drop 17) 0 2097152))) := by
          have hsh := (HB.out.1.below HW.out).shift 17 (m - 17) (by omega)
          rw [List.take_of_length_le (by rw [List.length_drop]; omega)] at hsh
          exact recordOf_any (le := 0) (mo := 2097152) hsh (HB.out.2.1.drop 17) (by omega) (by unfold maxLen; omega) (by omega) (HB.out.2.2.under HW.out) (by omega) (by omega)
        go_wp2_with fail
        refine HR1.out.mono ?_
        rintro e w1'' ⟨rfl, hrc⟩
        rcases hrc with ⟨hrn, rfl⟩ | ⟨b', o', sn, hrs, hbo, rfl⟩
        · have E : Hid (psS bs ar = none) := by unfold Hid psS; rw [HD.out]; simp only; rw [if_neg (by simp [hga]), hrn]
          clear HB hrn HR1
          go_wp2_with fail
          obtain ⟨ho, y0, y1, y2, y3, y4, y5⟩ := six_set r0 r1 r2 r3 r4 r5 (.int .u64 0) (.slice none 0 0) (.slice none 0 0) (.int .i64 0) (.int .i64 0) (.int .i64 0)
          exact bodyPost_ret (v := .agg #[.int .u64 0, .slice none 0 0, .slice none 0 0, .int .i64 0, .int .i64 0, .int .i64 0]) (by simp [results, Tryz.results89, go_sem, y0, y1, y2, y3, y4, y5]) rfl ⟨HW.out.trans (ho.below HW.out.size (fun k g => by omega)), Or.inl ⟨E.out, rfl⟩⟩
        · simp only [Option.some.injEq, Addr.mk.injEq] at hbo
          obtain ⟨rfl, rfl, _⟩ := hbo
          obtain ⟨hsl, _, hsm, hse⟩ := rcS_len hrs
          rw [List.length_drop] at hsl
          have HSE : Hid (sn = ((bs.drop 17).drop 12).take sn.length) := hse
          clear hse
          obtain ⟨sl, hsn⟩ : ∃ sl, sn.length = sl := ⟨_, rfl⟩
          rw [hsn] at hsl hsm
          have q1 : IntKind.i64.wrap (30 + (sl : Int)) = 30 + sl := wrap_id (by omega) (by omega)
          have HS : Hid (psS bs ar = some (g, sn, recsS bs.length (bs.drop (30 + sn.length)))) := by unfold Hid psS; rw [HD.out]; simp only; rw [if_neg (by simp [hga]), hrs]
          rw [hsn]
          have HSN : Hid (sn.length = sl) := hsn
          clear HR1 hrs hsn
          go_wp2_with fail
          obtain ⟨F, hF⟩ : ∃ z, w1''.heap.size = z := ⟨_, rfl⟩
          obtain ⟨W2, hW2⟩ : ∃ z, w1''.alloc (.cells #[.int .u64 g, .slice (some ⟨b, o + 17 + 12, none⟩) sl (c - 17 - 12), .slice none 0 0, .int .i64 0, .int .i64 0, .int .i64 (30 + sl)] 93) = z := ⟨_, rfl⟩
          have HP : Hid (PLp N w W2 F w.heap.size m bs g (.slice (some ⟨b, o + 17 + 12, none⟩) sl (c - 17 - 12)) (30 + sl)) := by
            unfold Hid
            have b2 : Below w1''.heap.size w1'' W2 := by rw [← hW2]; exact (Below.refl _ _).alloc (Nat.le_refl _) _
            have hcF : ∀ q, W2.cell? ⟨F, q, none⟩ = (#[Value.int .u64 g, Value.slice (some ⟨b, o + 17 + 12, none⟩) sl (c - 17 - 12), Value.slice none 0 0, Value.int .i64 0, Value.int .i64 0, Value.int .i64 (30 + sl)] : Array Value)[q]? := fun q => by rw [← hW2, ← hF]; exact World.cell?_alloc_new _ _ _ _
            refine ⟨30 + sl, [], [], none, 0, 0, HW.out.trans (b2.mono HW.out.size), by omega, by simp [sizes], by simp, by simp, hcF 0, hcF 1, hcF 2, hcF 3, hcF 4, (hcF 5).trans (by simp), fun q => ?_, fun q => ?_, fun q => ?_, VRow.nil _ _ _, ⟨rfl, fun j u d hu => by cases hu⟩, (fun j b o n c hj => by simp at hj), by rw [← hW2, ← hF]; simp, Nat.le_refl _, by omega⟩
            · rw [← hW2, ← hF]; simp
            · rw [b2.cell (p := ⟨w.heap.size, q, none⟩) hR1]; exact HRC.out.1 q
            · rw [b2.frozen (p := ⟨w.heap.size, q, none⟩) hR1]; exact HRC.out.2 q
          rw [hF, hW2]
          clear hF hW2 r0 r1 r2 r3 r4 r5 z0 z1 z2 z3 z4 z5 HW hR1 HRC
          go_loopw [9, 10] (fun t9 t10 wx => Hid (PLp N w wx F w.heap.size m bs g (.slice (some ⟨b, o + 17 + 12, none⟩) sl (c - 17 - 12)) (30 + sl))) (fun _ _ wx => m - (match wx.cell? ⟨F, 5, none⟩ with | some v => (intOf v).toNat | none => 0))
          case atStart => exact HP
          case round =>
            obtain ⟨p, ds, us, a, n, k, hbe, hpm, hpe, hre, hdl, f0, f1, f2, f3, f4, f5, ff, rr, rf, hv, hpcs, hpf, hFl, _, hRF⟩ := hrel.out
            have r0 : wr.cell? ⟨w.heap.size, 0, none⟩ = some (.int .u64 0) := rr 0
            have r1 : wr.cell? ⟨w.heap.size, 1, none⟩ = some (.slice none 0 0) := rr 1
            have r2 : wr.cell? ⟨w.heap.size, 2, none⟩ = some (.slice none 0 0) := rr 2
            have r3 : wr.cell? ⟨w.heap.size, 3, none⟩ = some (.int .i64 0) := rr 3
            have r4 : wr.cell? ⟨w.heap.size, 4, none⟩ = some (.int .i64 0) := rr 4
            have r5 : wr.cell? ⟨w.heap.size, 5, none⟩ = some (.int .i64 0) := rr 5
            have z0 := rf 0
            have z1 := rf 1
            have z2 := rf 2
            have z3 := rf 3
            have z4 := rf 4
            have z5 := rf 5
            have x2 := ff 2
            have x5 := ff 5
            have HR : Hid (Below w.heap.size w wr ∧ recsS bs.length (bs.drop (30 + sl)) = ds ++ recsS (bs.length - ds.length) (bs.drop p) ∧ VRow wr (F + 1) 22 (.slice a n k) us ∧ Pcs w us ds) := ⟨hbe, hre, hv, hpcs⟩
            have HL : Hid (PLp N w wr F w.heap.size m bs g (.slice (some ⟨b, o + 17 + 12, none⟩) sl (c - 17 - 12)) (30 + sl)) := hrel.out
            have HQQ : Hid ((∀ q, wr.frozen? ⟨F, q, none⟩ = false) ∧ (∀ q, wr.cell? ⟨w.heap.size, q, none⟩ = (#[Value.int .u64 0, Value.slice none 0 0, Value.slice none 0 0, Value.int .i64 0, Value.int .i64 0, Value.int .i64 0] : Array Value)[q]?) ∧ ∀ q, wr.frozen? ⟨w.heap.size, q, none⟩ = false) := ⟨ff, rr, rf⟩
            have HPE : Hid (p = 30 + sl + sizes ds ∧ ds.length ≤ p) := ⟨hpe, hdl⟩
            have HPF : Hid (PFar N us ∧ N ≤ b) := ⟨hpf, HFar.out b o rfl⟩
            clear hbe hre hv hpcs hpf rr rf ff hrel hpe hdl
            have hpmi : (p : Int) ≤ m := by omega
            by_cases hpc : p = c
            · have HN : Hid (rcS (bs.drop p) 1 20000 = none) := by unfold Hid rcS; rw [if_pos (by rw [List.length_drop]; omega)]
              have hmc' : m = c := by omega
              subst hpc
              subst hmc'
              have HR1 : Hid (Calls Tryz.prog 94 #[.slice (some ⟨b, o, none⟩) 0 0, .int .i64 1, .int .i64 20000] wr fun e w' => e = .returned (.tuple #[.slice none 0 0, .bool false]) ∧ w' = wr) := by
                refine (recordOf_any (po := some ⟨b, o, none⟩) (m := 0) (c := 0) (bs := []) (le := 1) (mo := 20000) ⟨rfl, fun j hj => absurd hj (Nat.not_lt_zero _)⟩ (fun z hz => by cases hz) (Nat.le_refl _) (by unfold maxLen; omega) (by omega) (HB.out.2.2.under HR.out.1) (by omega) (by omega)).mono ?_
                rintro e w' ⟨rfl, ⟨_, he⟩ | ⟨_, _, _, hn, _⟩⟩
                · exact ⟨he, rfl⟩
                · cases hn
              go_wp2_with fail
              refine HR1.out.mono ?_
              rintro e wr' ⟨rfl, hwr⟩
              rw [hwr]
              clear hwr HR1
              go_wp2_with fail
              obtain ⟨ho, y0, y1, y2, y3, y4, y5⟩ := six_set r0 r1 r2 r3 r4 r5 (.int .u64 g) (.slice (some ⟨b, o + 17 + 12, none⟩) sl (m - 17 - 12)) (.slice a n k) (.int .i64 0) (.int .i64 0) (.int .i64 m)
              have HO : Hid (Off (fun k => k = w.heap.size) wr ((((((wr.setCell ⟨w.heap.size, 0, none⟩ (.int .u64 g)).setCell ⟨w.heap.size, 1, none⟩ (.slice (some ⟨b, o + 17 + 12, none⟩) sl (m - 17 - 12))).setCell ⟨w.heap.size, 2, none⟩ (.slice a n k)).setCell ⟨w.heap.size, 3, none⟩ (.int .i64 0)).setCell ⟨w.heap.size, 4, none⟩ (.int .i64 0)).setCell ⟨w.heap.size, 5, none⟩ (.int .i64 m))) := ho
              refine bodyPost_ret (v := .agg #[.int .u64 g, .slice (some ⟨b, o + 17 + 12, none⟩) sl (m - 17 - 12), .slice a n k, .int .i64 0, .int .i64 0, .int .i64 m]) (by simp [results, Tryz.results89, go_sem, y0, y1, y2, y3, y4, y5]) rfl ?_
              have hbw := HR.out.1.trans (HO.out.below HR.out.1.size (fun k g => by omega))
              have hrs : recsS bs.length (bs.drop (30 + sl)) = ds := by rw [HR.out.2.1, recsS_none HN.out, List.append_nil]
              refine ⟨hbw, Or.inr ⟨g, sn, ds, some ⟨b, o + 17 + 12, none⟩, m - 17 - 12, a, n, k, us, by rw [HS.out, HSN.out, hrs], ?_, ?_, (fun h => by cases h), (HR.out.2.2.1.off HO.out (fun q hq e => by have := (HR.out.2.2.1.lt hq).1; omega)).low (by omega), HR.out.2.2.2.below hbw, (fun b' o' e => by cases e; exact HPF.out.2), HPF.out.1⟩⟩
              · rw [HSN.out, show ((30 + sl + sizes ds : Nat) : Int) = m by have := HPE.out.1; omega]
              · have h1 := (HB.out.1.below hbw).shift 29 sl (by have := HPE.out.1; omega)
                have h2 : (bs.drop 29).take sl = sn := by rw [HSE.out, List.drop_drop, HSN.out]
                rw [h2] at h1
                rw [HSN.out]
                exact h1
            · have hpc' : (p : Int) < c := by omega
              have hpcn : p < c := by omega
              have HR1 : Hid (Calls Tryz.prog 94 #[.slice (some ⟨b, o + p, none⟩) (m - p) (c - p), .int .i64 1, .int .i64 20000] wr (RcQ wr (some ⟨b, o + p, none⟩) (c - p) (rcS (bs.drop p) 1 20000))) := by
                have hsh := (HB.out.1.below HR.out.1).shift p (m - p) (by omega)
                rw [List.take_of_length_le (by rw [List.length_drop]; omega)] at hsh
                exact recordOf_any (le := 1) (mo := 20000) hsh (HB.out.2.1.drop p) (by omega) (by unfold maxLen; omega) (by omega) (HB.out.2.2.under HR.out.1) (by omega) (by omega)
              go_wp2_with fail
              refine HR1.out.mono ?_
              rintro e wr' ⟨hwr, hrc⟩
              rw [hwr]
              clear hwr HR1
              rcases hrc with ⟨hrn, rfl⟩ | ⟨b', o', ct, hrs, hbo, rfl⟩
              · have HN : Hid (rcS (bs.drop p) 1 20000 = none) := hrn
                clear hrn
                go_wp2_with fail
                obtain ⟨ho, y0, y1, y2, y3, y4, y5⟩ := six_set r0 r1 r2 r3 r4 r5 (.int .u64 g) (.slice (some ⟨b, o + 17 + 12, none⟩) sl (c - 17 - 12)) (.slice a n k) (.int .i64 0) (.int .i64 0) (.int .i64 p)
                have HO : Hid (Off (fun k => k = w.heap.size) wr ((((((wr.setCell ⟨w.heap.size, 0, none⟩ (.int .u64 g)).setCell ⟨w.heap.size, 1, none⟩ (.slice (some ⟨b, o + 17 + 12, none⟩) sl (c - 17 - 12))).setCell ⟨w.heap.size, 2, none⟩ (.slice a n k)).setCell ⟨w.heap.size, 3, none⟩ (.int .i64 0)).setCell ⟨w.heap.size, 4, none⟩ (.int .i64 0)).setCell ⟨w.heap.size, 5, none⟩ (.int .i64 p))) := ho
                refine bodyPost_ret (v := .agg #[.int .u64 g, .slice (some ⟨b, o + 17 + 12, none⟩) sl (c - 17 - 12), .slice a n k, .int .i64 0, .int .i64 0, .int .i64 p]) (by simp [results, Tryz.results89, go_sem, y0, y1, y2, y3, y4, y5]) rfl ?_
                have hbw := HR.out.1.trans (HO.out.below HR.out.1.size (fun k g => by omega))
                have hrs : recsS bs.length (bs.drop (30 + sl)) = ds := by rw [HR.out.2.1, recsS_none HN.out, List.append_nil]
                refine ⟨hbw, Or.inr ⟨g, sn, ds, some ⟨b, o + 17 + 12, none⟩, c - 17 - 12, a, n, k, us, by rw [HS.out, HSN.out, hrs], ?_, ?_, (fun h => by cases h), (HR.out.2.2.1.off HO.out (fun q hq e => by have := (HR.out.2.2.1.lt hq).1; omega)).low (by omega), HR.out.2.2.2.below hbw, (fun b' o' e => by cases e; exact HPF.out.2), HPF.out.1⟩⟩
                · rw [HSN.out, show ((30 + sl + sizes ds : Nat) : Int) = p by have := HPE.out.1; omega]
                · have h1 := (HB.out.1.below hbw).shift 29 sl (by have := HPE.out.1; omega)
                  have h2 : (bs.drop 29).take sl = sn := by rw [HSE.out, List.drop_drop, HSN.out]
                  rw [h2] at h1
                  rw [HSN.out]
                  exact h1
              · simp only [Option.some.injEq, Addr.mk.injEq] at hbo
                obtain ⟨rfl, rfl, _⟩ := hbo
                obtain ⟨hcl, hc1, hc2, hce⟩ := rcS_len hrs
                rw [List.length_drop] at hcl
                have HCE : Hid (ct = ((bs.drop p).drop 12).take ct.length ∧ rcS (bs.drop p) 1 20000 = some ct) := ⟨hce, hrs⟩
                clear hce hrs
                obtain ⟨cl, hcn⟩ : ∃ cl, ct.length = cl := ⟨_, rfl⟩
                rw [hcn] at hcl hc1 hc2
                have q2 : IntKind.i64.wrap (13 + (cl : Int)) = 13 + cl := wrap_id (by omega) (by omega)
                have q3 : IntKind.i64.wrap ((p : Int) + (13 + cl)) = p + (13 + cl) := wrap_id (by omega) (by omega)
                have hus : us.length = ds.length := HR.out.2.2.2.1
                obtain ⟨a2, n2, k2, w4, e4, r4, o4, s4⟩ := run_vpush HR.out.2.2.1 (by omega) (by have := HPE.out.2; omega) (.slice (some ⟨b, o + p + 12, none⟩) cl (c - p - 12)) (slice_one _ _ _)
                have hFo : (Value.slice a n k).ownBlock ≠ some F := fun e => by have := (HR.out.2.2.1.lt e).1; omega
                have hRo : (Value.slice a n k).ownBlock ≠ some w.heap.size := fun e => by have := (HR.out.2.2.1.lt e).1; omega
                have hcF : ∀ q, w4.cell? ⟨F, q, none⟩ = wr.cell? ⟨F, q, none⟩ := fun q => o4.cell (p := ⟨F, q, none⟩) hFl hFo
                have g2 : w4.cell? ⟨F, 2, none⟩ = some (.slice a n k) := (hcF 2).trans f2
                have g5 : w4.cell? ⟨F, 5, none⟩ = some (.int .i64 p) := (hcF 5).trans f5
                have y2 : w4.frozen? ⟨F, 2, none⟩ = false := (o4.frozen (p := ⟨F, 2, none⟩) hFl hFo).trans x2
                have y5 : w4.frozen? ⟨F, 5, none⟩ = false := (o4.frozen (p := ⟨F, 5, none⟩) hFl hFo).trans x5
                have HX : Hid (VRow w4 (F + 1) 22 (.slice a2 n2 k2) (us ++ [.slice (some ⟨b, o + p + 12, none⟩) cl (c - p - 12)]) ∧ Off (fun k' => (Value.slice a n k).ownBlock = some k') wr w4 ∧ (∀ q, w4.cell? ⟨F, q, none⟩ = wr.cell? ⟨F, q, none⟩)) := ⟨r4, o4, hcF⟩
                rw [hcn]
                have HCN : Hid (ct.length = cl) := hcn
                clear r4 o4 s4 hcF hus hcn
                go_wp2_with (at_builtin; refine wpList_append_run rfl (.tmp 52) (.tmp 54) 23 _ rfl e4 ?_)
                clear e4
                obtain ⟨r4, o4, hcF⟩ := HX.out
                have hRF' : w.heap.size < wr.heap.size := by omega
                have offA : Off (fun k' => (Value.slice a n k).ownBlock = some k' ∨ k' = F) wr ((w4.setCell ⟨F, 2, none⟩ (.slice a2 n2 k2)).setCell ⟨F, 5, none⟩ (.int .i64 ((p : Int) + (13 + cl)))) := Off.setCell (P := fun k' => (Value.slice a n k).ownBlock = some k' ∨ k' = F) (Off.setCell (P := fun k' => (Value.slice a n k).ownBlock = some k' ∨ k' = F) (o4.mono (fun _ e => Or.inl e)) (p := ⟨F, 2, none⟩) (Or.inr rfl) _) (p := ⟨F, 5, none⟩) (Or.inr rfl) _
                have off2 : Off (fun k' => k' = F) w4 ((w4.setCell ⟨F, 2, none⟩ (.slice a2 n2 k2)).setCell ⟨F, 5, none⟩ (.int .i64 ((p : Int) + (13 + cl)))) := Off.setCell (P := fun k' => k' = F) (Off.setCell (P := fun k' => k' = F) (Off.refl _ _) (p := ⟨F, 2, none⟩) rfl _) (p := ⟨F, 5, none⟩) rfl _
                have so : ∀ (y : World) (q q' : Nat) (u : Value), q ≠ q' → (y.setCell ⟨F, q, none⟩ u).cell? ⟨F, q', none⟩ = y.cell? ⟨F, q', none⟩ := fun y q q' u h => World.cell?_setCell_other _ _ _ _ (by simp; first | done | omega)
                have hnR : ∀ k', ((Value.slice a n k).ownBlock = some k' ∨ k' = F) → w.heap.size < k' := fun k' g => by
                  rcases g with g | g
                  · have := (HR.out.2.2.1.lt g).1; omega
                  · omega
                have v5 : ((w4.setCell ⟨F, 2, none⟩ (.slice a2 n2 k2)).setCell ⟨F, 5, none⟩ (.int .i64 ((p : Int) + (13 + cl)))).cell? ⟨F, 5, none⟩ = some (.int .i64 ((p + (cl + 13) : Nat) : Int)) := by
                  rw [World.cell?_setCell_same' _ _ _ (by rw [so _ 2 5 _ (by omega), g5]; rfl), show (p : Int) + (13 + cl) = ((p + (cl + 13) : Nat) : Int) by omega]
                refine ⟨?_, ?_⟩
                · refine ⟨p + (cl + 13), ds ++ [ct], us ++ [.slice (some ⟨b, o + p + 12, none⟩) cl (c - p - 12)], a2, n2, k2, HR.out.1.trans (offA.below HR.out.1.size (fun k' g => Nat.le_of_lt (hnR k' g))), by omega, ?_, ?_, ?_, ?_, ?_, ?_, ?_, ?_, v5, fun q => ?_, fun q => ?_, fun q => ?_, r4.off off2 (fun q hq e => by have := (r4.lt hq).1; omega), ?_, HPF.out.1.snoc HPF.out.2, ?_, Nat.le_refl _, hRF⟩
                  · rw [sizes_snoc, HCN.out]; have := HPE.out.1; omega
                  · rw [HR.out.2.1, recsS_some HCE.out.2 (by have := HPE.out.2; omega), HCN.out, List.drop_drop, List.append_assoc, List.singleton_append, List.length_append, List.length_singleton, Nat.sub_add_eq]
                  · rw [List.length_append, List.length_singleton]; have := HPE.out.2; omega
                  · rw [so _ 5 0 _ (by omega), so _ 2 0 _ (by omega), hcF]; exact f0
                  · rw [so _ 5 1 _ (by omega), so _ 2 1 _ (by omega), hcF]; exact f1
                  · rw [so _ 5 2 _ (by omega)]; exact World.cell?_setCell_same' _ _ _ (by rw [g2]; rfl)
                  · rw [so _ 5 3 _ (by omega), so _ 2 3 _ (by omega), hcF]; exact f3
                  · rw [so _ 5 4 _ (by omega), so _ 2 4 _ (by omega), hcF]; exact f4
                  · rw [World.frozen?_setCell, World.frozen?_setCell, o4.frozen (p := ⟨F, q, none⟩) hFl hFo]; exact HQQ.out.1 q
                  · rw [offA.cell (p := ⟨w.heap.size, q, none⟩) hRF' (fun g => by have := hnR _ g; simp only at this; omega)]; exact HQQ.out.2.1 q
                  · rw [offA.frozen (p := ⟨w.heap.size, q, none⟩) hRF' (fun g => by have := hnR _ g; simp only at this; omega)]; exact HQQ.out.2.2 q
                  · have hby := HB.out.1.shift (p + 12) cl (by omega)
                    have h2 : (bs.drop (p + 12)).take cl = ct := by rw [← List.drop_drop, ← HCN.out]; exact HCE.out.1.symm
                    rw [h2, ← HCN.out] at hby
                    have h3 := HR.out.2.2.2.snoc (a := some ⟨b, o + (p + 12), none⟩) (c := c - p - 12) hby (fun h => by cases h)
                    rw [HCN.out] at h3
                    exact h3
                  · have := offA.size; omega
                · rw [v5, f5]
                  simp only [intOf]
                  omega
    · have E : Hid (psS bs ar = none) := by unfold Hid psS; rw [HD.out]; simp only; rw [if_pos hga]
      have d1 : ((g : Int) % 2 == ar) = false := by simp [hga]
      have d1' : ((g : Int) % 2 != ar) = true := by simp [hga]
      clear HB
      go_wp2_with fail
      obtain ⟨ho, y0, y1, y2, y3, y4, y5⟩ := six_set r0 r1 r2 r3 r4 r5 (.int .u64 0) (.slice none 0 0) (.slice none 0 0) (.int .i64 0) (.int .i64 0) (.int .i64 0)
      exact bodyPost_ret (v := .agg #[.int .u64 0, .slice none 0 0, .slice none 0 0, .int .i64 0, .int .i64 0, .int .i64 0]) (by simp [results, Tryz.results89, go_sem, y0, y1, y2, y3, y4, y5]) rfl ⟨HW.out.trans (ho.below HW.out.size (fun k g => by omega)), Or.inl ⟨E.out, rfl⟩⟩
end
end Go.Proofs.YthnpckmgnompiaaGreatDoor
