import Derived.Test.YthnpckmgnompiaaGreatDoorAs
import Derived.Test.YthnpckmgnompiaaGreatDoorCards
import Derived.Test.YthnpckmgnompiaaGreatDoorTie
import Derived.ProofKit
import Derived.OpenShut
import Derived.Deep.DeepHandedRow
import Derived.Deep.Slices
import Derived.Lib.LaidTab
import Derived.LaidHandle
import Derived.LaidMore
import Derived.SizedLaws
import Derived.Maps.AppendAt
import Derived.Laws.OwnMore
/-
  The log's errors: fault, unread, the law's 'code'; the calls at a disk that nobody made.
-/
namespace Go.Proofs.YthnpckmgnompiaaGreatDoor
open Go.RowKit

def ErrType (w : World) : Prop := w.cell? ⟨0, 0, none⟩ = some (.iface 198 (.agg #[.pointer (some ⟨2, 27, none⟩)]))
theorem errType_below {w w' : World} (h : ErrType w) (hb : Below w.heap.size w w') : ErrType w' := by
  unfold ErrType; rw [hb.cell (p := ⟨0, 0, none⟩) (cell_lt h)]; exact h
theorem errType_alloc {w : World} (h : ErrType w) (o : Obj) : ErrType (w.alloc o) := errType_below h ((Below.refl _ _).alloc (Nat.le_refl _) _)
theorem as_hit' (e : Addr) (B : Nat) (w : World) (hE : ErrType w) (hB : B < w.heap.size) (ht0 : w.cell? ⟨B, 0, none⟩ = some (.pointer none)) (hf0 : w.frozen? ⟨B, 0, none⟩ = false) :
    Calls Tryz.prog 21 #[.iface 86 (.pointer (some e)), .iface 88 (.pointer (some ⟨B, 0, none⟩))] w fun ev w' => ev = .returned (.bool true) ∧ w'.cell? ⟨B, 0, none⟩ = some (.pointer (some e)) ∧ Below B w w' := by
  refine (as_hit e ⟨B, 0, none⟩ (.pointer none) w hE ht0 hf0).mono ?_
  rintro ev w' ⟨rfl, rfl⟩
  refine ⟨rfl, ?_, ?_⟩
  · refine World.cell?_setCell_same _ _ _ (?_ : _ = some (.pointer none))
    rw [World.cell?_alloc_lt _ _ ⟨B, 0, none⟩ (by simp; omega), World.cell?_alloc_lt _ _ ⟨B, 0, none⟩ (by simp; omega), World.cell?_alloc_lt _ _ ⟨B, 0, none⟩ (by simp; omega), World.cell?_alloc_lt _ _ ⟨B, 0, none⟩ hB]; exact ht0
  · exact (((((Below.refl _ _).alloc (Nat.le_of_lt hB) _).alloc (by simp; omega) _).alloc (by simp; omega) _).alloc (by simp; omega) _).setCell (Nat.le_refl _) _
/-- The cells of a fault of layer "wal". -/
def WFault (w : World) (b : Nat) (code : Int) : Prop :=
  w.cell? ⟨b, 0, none⟩ = some (.string ⟨#[119, 97, 108]⟩) ∧ w.cell? ⟨b, 1, none⟩ = some (.int .i64 0) ∧ w.cell? ⟨b, 2, none⟩ = some (.int .i64 code) ∧ w.cell? ⟨b, 3, none⟩ = some .nilIface
theorem WFault.below {w w' : World} {b : Nat} {c : Int} (h : WFault w b c) (hb : Below w.heap.size w w') : WFault w' b c := by
  have hl : b < w.heap.size := cell_lt h.1
  have hc : ∀ o, w'.cell? ⟨b, o, none⟩ = w.cell? ⟨b, o, none⟩ := fun o => hb.cell (p := ⟨b, o, none⟩) hl
  exact ⟨by rw [hc]; exact h.1, by rw [hc]; exact h.2.1, by rw [hc]; exact h.2.2.1, by rw [hc]; exact h.2.2.2⟩
/-- What a call that is refused with this code tells. -/
def WErr (w : World) (code : Int) (v : Value) (w' : World) : Prop := ∃ b, v = .iface 86 (.pointer (some ⟨b, 0, none⟩)) ∧ WFault w' b code ∧ Below w.heap.size w w'

set_option maxHeartbeats 400000 in
theorem wfault_any (code : Int) (w : World) : Calls Tryz.prog 15 #[.int .i64 code] w fun e w' => ∃ v, e = .returned v ∧ WErr w code v w' := by
  go_enter Tryz.func15, Tryz.ntmps15
  go_wp2
  go_ret
  exact ⟨_, rfl, _, rfl, ⟨by simp, by simp, by simp, by simp⟩, (Below.refl _ _).alloc (Nat.le_refl _) _⟩

set_option maxHeartbeats 1000000 in
theorem unread_zero {b : Nat} (w : World) (hE : ErrType w) (hF : FaultAt w b 0 3) : Calls Tryz.prog 14 #[.iface 86 (.pointer (some ⟨b, 0, none⟩))] w fun e w' => ∃ v, e = .returned v ∧ WErr w 3 v w' := by
  obtain ⟨f0, f1, f2, f3⟩ := hF
  have hb : b < w.heap.size := cell_lt f0
  have HE : Hid (ErrType (w.alloc (.cells #[.pointer none] 86))) := errType_alloc hE _
  have HF2 : Hid (w.cell? ⟨b, 2, none⟩ = some (.int .i64 3)) := f2
  clear f0 f1 f2 f3 hE
  go_enter Tryz.func14, Tryz.ntmps14
  go_wp2_with fail
  refine (as_hit' _ _ _ HE.out (by simp) (by simp) (by simp)).mono ?_
  rintro e w1 ⟨rfl, ht, hw⟩
  have k2 : w1.cell? ⟨b, 2, none⟩ = some (.int .i64 3) := by rw [hw.cell (p := ⟨b, 2, none⟩) hb, World.cell?_alloc_lt _ _ ⟨b, 2, none⟩ hb]; exact HF2.out
  have HB : Hid (Below w.heap.size w w1) := ((Below.refl _ _).alloc (Nat.le_refl _) _).trans hw
  clear hw
  go_wp2_with fail
  refine (wfault_any 3 _).mono ?_
  rintro e w2 ⟨v, rfl, b', rfl, hF, hb2⟩
  have HF : Hid (WFault w2 b' 3 ∧ Below w.heap.size w w2) := ⟨hF, below_then HB.out hb2⟩
  clear hF hb2
  go_wp2_with fail
  go_ret
  exact ⟨_, rfl, _, rfl, HF.out.1, HF.out.2⟩

set_option maxHeartbeats 1000000 in
theorem code_fault {b : Nat} {code : Int} (w : World) (hE : ErrType w) (hF : WFault w b code) (hc : (code == 0) = false) (hd : (code == 63) = false) : Calls Tryz.prog 6 #[.iface 86 (.pointer (some ⟨b, 0, none⟩))] w fun e w' => e = .returned (.int .i64 code) ∧ Below w.heap.size w w' := by
  obtain ⟨f0, f1, f2, f3⟩ := hF
  have hb : b < w.heap.size := cell_lt f0
  have HE : Hid (ErrType (w.alloc (.cells #[.pointer none] 86))) := errType_alloc hE _
  have HF : Hid (WFault w b code) := ⟨f0, f1, f2, f3⟩
  clear f0 f1 f2 f3 hE
  go_enter Tryz.func6, Tryz.ntmps6
  go_wp2_with fail
  go_region_with (go_at_call 21; refine (as_hit' _ _ _ (by exact HE.out) (by simp) (by simp) (by simp)).mono ?_; rintro e w1 ⟨rfl, ht, hw⟩; have hcell : ∀ o, w1.cell? ⟨b, o, none⟩ = w.cell? ⟨b, o, none⟩ := (fun o => (hw.cell (p := ⟨b, o, none⟩) hb).trans (World.cell?_alloc_lt w _ ⟨b, o, none⟩ hb)); have k0 : w1.cell? ⟨b, 0, none⟩ = some (.string ⟨#[119, 97, 108]⟩) := ((hcell 0).trans HF.out.1); have k1 : w1.cell? ⟨b, 1, none⟩ = some (.int .i64 0) := ((hcell 1).trans HF.out.2.1); have k2 : w1.cell? ⟨b, 2, none⟩ = some (.int .i64 code) := ((hcell 2).trans HF.out.2.2.1); have k3 : w1.cell? ⟨b, 3, none⟩ = some .nilIface := ((hcell 3).trans HF.out.2.2.2); have HB : Hid (Below w.heap.size w w1) := (by first | exact ((Below.refl _ _).alloc (Nat.le_refl _) _).trans hw | exact (((Below.refl _ _).alloc (Nat.le_refl _) _).drew).trans hw); clear hw hcell)
  all_goals
    go_wp2_with fail
    go_ret
    exact ⟨rfl, HB.out⟩
end Go.Proofs.YthnpckmgnompiaaGreatDoor

/-
  Arguments opened: byte strings; what the listed package-level variables give: the handle of 'error', the table of the CRC.
-/
namespace Go.Proofs.YthnpckmgnompiaaGreatDoor
open Go.ChangeShapes Go.WideShapes Go.ChangeAt Go.RowKit Go.Deep

theorem own : ownKnob Tryz.prog.godebug = none := by kernel_rfl
theorem typesSize : Tryz.prog.types.size = 255 := by kernel_rfl
theorem cellsU8 : Tryz.prog.cellsOf 5 = 1 := by kernel_rfl
theorem bytesU8 : Tryz.prog.bytesOf 5 = 1 := by kernel_rfl
theorem gErr : Tryz.prog.globalNamed "errors.errorType" = some 0 := by kernel_rfl
theorem rtypeAt : (Tryz.prog.cutTypes.find? (·.1 == "internal/reflectlite.rtype")).map (·.2) = some 198 := by kernel_rfl
theorem errorRow : ((List.range 255).filter fun t => Tryz.prog.rowNamed t [101, 114, 114, 111, 114]) = [27] := by kernel_rfl
theorem errType_of {W : World} (h : handlesMet Tryz.prog [("errors.errorType", Rows.laid_errors_errorType)] W) : ErrType W := by
  obtain ⟨name, u, ty, e1, e2, e3, e4, e5⟩ := h _ (List.mem_singleton.2 rfl)
  have en : name = [101, 114, 114, 111, 114] := (Option.some.inj e1).symm
  subst en
  obtain rfl := Option.some.inj (rtypeAt.symm.trans e2)
  have hm : ty ∈ (List.range 255).filter fun t => Tryz.prog.rowNamed t [101, 114, 114, 111, 114] := List.mem_filter.2 ⟨List.mem_range.2 (by rw [← typesSize]; exact e3), e4⟩
  rw [errorRow] at hm
  obtain rfl := List.mem_singleton.1 hm
  have hh : typeHandle Tryz.prog 27 = .pointer (some ⟨2, 27, none⟩) := by kernel_rfl
  rw [hh] at e5
  simpa [ErrType] using World.var?_cell gErr e5 0
section
variable {H : Type} {enc : TypeId × Value → H} {W : World} {base : Nat} {spare : Nat → Bool} {held : Bool}
theorem getD_mem {l : List Int} {j : Nat} (h : j < l.length) : l.getD j 0 ∈ l := by
  rw [List.getD_eq_getElem?_getD, List.getElem?_eq_getElem h]; exact List.getElem_mem h
theorem open_bytes {n : Nat} {cs : List Value} {x : DataW H × List MemPlace} (h : DataW.trod enc Tryz.prog W base spare held n 22 cs = some x) :
    ∃ po pl pc bs, cs = [.slice po pl pc] ∧ Byts W po pl bs ∧ pl ≤ maxLen ∧ (po = none → pc = 0) ∧ pl ≤ pc ∧ (pl = 0 ∨ ∃ el sp, x.1 = .slice el sp ∧ el.length = pl) ∧ ∀ z ∈ bs, 0 ≤ z ∧ z ≤ 255 := by
  rcases open_ints Tryz.underlying22 Tryz.underlying5 cellsU8 h with ⟨rfl, _⟩ | ⟨a, len, cap, zs, rfl, _, hl, hm, hz, hxx, hc, hw⟩
  · exact ⟨none, 0, 0, [], rfl, ⟨rfl, fun j hj => (by omega)⟩, Nat.zero_le _, fun _ => rfl, Nat.le_refl _, Or.inl rfl, fun z hz => (by cases hz)⟩
  · have hzl : len ≤ zs.length := by rw [hz]; split <;> omega
    refine ⟨some a, len, cap, zs.take len, rfl, ⟨by simp; omega, fun j hj => ?_⟩, Nat.le_trans hl hm, fun e => (by cases e), hl, Or.inr ⟨_, _, by rw [hxx], by simp [lits]; omega⟩, fun z hzm => ?_⟩
    rotate_left
    · have := hw z (List.mem_of_mem_take hzm)
      simp [Lit.wf, IntKind.min, IntKind.max, IntKind.signed, IntKind.bits] at this
      omega
    · obtain ⟨b, o, sp⟩ := a
      have h0 := hc 0 (by omega)
      have hs : sp = none := by simpa [Addr.add] using World.cell?_spot h0
      subst hs
      have hj' := hc j (by omega)
      rw [Addr.add_lit] at hj'
      refine ⟨b, o, rfl, cell_lt hj', ?_⟩
      rw [hj']
      simp [List.getD_eq_getElem?_getD, hj]
end
end Go.Proofs.YthnpckmgnompiaaGreatDoor

/-
  Rows of bytes that the call itself made: append, cut, copy, clear, as equations of a run.
-/
namespace Go.Proofs.YthnpckmgnompiaaGreatDoor
open Go.RowKit

theorem u8info : ∃ i, Tryz.prog.info? 5 = some i ∧ i.zero = some (.int .u8 0) ∧ i.size = 1 ∧ i.bytes = 1 := by
  have h : (Tryz.prog.info? 5).map (fun i => (i.zero, i.size, i.bytes)) = some (some (.int .u8 0), 1, 1) := by kernel_rfl
  obtain ⟨i, hi, e⟩ := Option.map_eq_some_iff.1 h
  simp only [Prod.mk.injEq] at e
  exact ⟨i, hi, e.1, e.2.1, e.2.2⟩
def u8s (xs : List Int) : List Value := xs.map (Value.int .u8)
theorem u8s_length (xs : List Int) : (u8s xs).length = xs.length := by simp [u8s]
theorem u8s_append (xs ys : List Int) : u8s (xs ++ ys) = u8s xs ++ u8s ys := by simp [u8s]
theorem u8s_take (xs : List Int) (n : Nat) : u8s (xs.take n) = (u8s xs).take n := by simp [u8s, List.map_take]
theorem u8s_get {xs : List Int} {j : Nat} {u : Value} (h : (u8s xs)[j]? = some u) : j < xs.length ∧ u = .int .u8 (xs.getD j 0) := by
  simp only [u8s, List.getElem?_map, Option.map_eq_some_iff] at h
  obtain ⟨z, hz, rfl⟩ := h
  have hl := (List.getElem?_eq_some_iff.1 hz).1
  exact ⟨hl, by rw [List.getD_eq_getElem?_getD, hz]; rfl⟩
/-- A slice of bytes, of the call's own making (blocks from B on). -/
def Row (w : World) (B : Nat) (v : Value) (xs : List Int) : Prop := w.ownsRow B 5 1 v xs.length (u8s xs)
theorem Row.nil (w : World) (B : Nat) : Row w B (.slice none 0 0) [] := ⟨rfl, Or.inl ⟨rfl, rfl⟩⟩
theorem Row.form {w : World} {B : Nat} {v : Value} {xs : List Int} (h : Row w B v xs) : (v = .slice none 0 0 ∧ xs = []) ∨ ∃ g cap, v = .slice (some ⟨g, 0, none⟩) xs.length cap ∧ B ≤ g ∧ g < w.heap.size ∧ xs.length ≤ cap ∧ cap ≤ maxLen := by
  rcases h.2 with ⟨rfl, h0⟩ | ⟨g, cap, cur, rfl, hB, hg, hn, hm, _, _⟩
  · exact Or.inl ⟨rfl, List.eq_nil_of_length_eq_zero h0⟩
  · refine Or.inr ⟨g, cap, rfl, hB, ?_, hn, hm⟩
    rcases Nat.lt_or_ge g w.heap.size with g1 | g1
    · exact g1
    · rw [Array.getElem?_eq_none g1] at hg; cases hg
theorem Row.keep {w w' : World} {B : Nat} {v : Value} {xs : List Int} (h : Row w B v xs) (hk : ∀ g, v.ownBlock = some g → w'.heap[g]? = w.heap[g]?) : Row w' B v xs := by
  rcases h.2 with ⟨rfl, h0⟩ | ⟨g, cap, cur, rfl, hB, hg, rest⟩
  · exact ⟨h.1, Or.inl ⟨rfl, h0⟩⟩
  · exact ⟨h.1, Or.inr ⟨g, cap, cur, rfl, hB, by rw [hk g rfl]; exact hg, rest⟩⟩
theorem Row.lt {w : World} {B : Nat} {v : Value} {xs : List Int} (h : Row w B v xs) {g : Nat} (hg : v.ownBlock = some g) : B ≤ g ∧ g < w.heap.size := by
  rcases h.form with ⟨rfl, _⟩ | ⟨g', cap, rfl, hB, hl, _⟩
  · cases hg
  · simp only [Value.ownBlock, Option.some.injEq] at hg; subst hg; exact ⟨hB, hl⟩
theorem Row.cell {w : World} {B : Nat} {xs : List Int} {g cap n : Nat} (h : Row w B (.slice (some ⟨g, 0, none⟩) n cap) xs) : n = xs.length ∧ ∀ j, j < xs.length → w.cell? ⟨g, j, none⟩ = some (.int .u8 (xs.getD j 0)) := by
  rcases h.2 with ⟨h0, _⟩ | ⟨g', cap', cur, e, hB, hg, hn, hm, hc, ht⟩
  · cases h0
  · simp only [Value.slice.injEq, Option.some.injEq, Addr.mk.injEq, and_true] at e
    obtain ⟨rfl, rfl, rfl⟩ := e
    refine ⟨rfl, fun j hj => ?_⟩
    have e1 : (cur.toList.take (xs.length * 1))[j]? = (u8s xs)[j]? := by rw [ht]
    rw [List.getElem?_take, if_pos (by omega)] at e1
    have e2 : w.cell? ⟨g, j, none⟩ = cur[j]? := by simp [World.cell?, hg]
    rw [e2, ← Array.getElem?_toList, e1]
    simp [u8s, List.getD_eq_getElem?_getD, List.getElem?_eq_getElem hj]
/-- append: a row of the call's own, and bytes that lie somewhere. -/
theorem run_append_bytes {w : World} {B : Nat} {v : Value} {xs : List Int} {po : Option Addr} {m c : Nat} {bs : List Int} (h : Row w B v xs) (hb : Byts w po m bs) (hpo : po = none → c = 0) (hl : xs.length + m ≤ 140737488355328) (hB : B ≤ w.heap.size) (ty : TypeId) :
    ∃ v' w', (Builtin.append_ #[22, 22] ty #[v, .slice po m c]).run Tryz.prog w = .ok v' w' ∧ Row w' B v' (xs ++ bs) ∧ w.grownBy w' v.ownBlock ∧ (v'.ownBlock = v.ownBlock ∨ v'.ownBlock = some w.heap.size) := by
  obtain ⟨i, hi, hz, hs, hby⟩ := u8info
  have hm := hb.len
  cases po with
  | none =>
    have m0 : m = 0 := by
      rcases Nat.eq_zero_or_pos m with g | g
      · exact g
      · obtain ⟨_, _, e, _⟩ := hb.cell 0 g; cases e
    obtain rfl : bs = [] := List.eq_nil_of_length_eq_zero (by omega)
    obtain rfl := hpo rfl
    subst m0
    exact ⟨v, w, run_append_owned_none w B _ _ _ i 1 Tryz.underlying22 hi v _ _ h, by rw [List.append_nil]; exact h, ⟨rfl, rfl, rfl, Nat.le_refl _, fun _ _ _ => rfl⟩, Or.inl rfl⟩
  | some a =>
    obtain ⟨v', w', hr, h2, h3, _, h5⟩ := run_append_own_at (P := Tryz.prog) w B 22 ty 5 i _ 1 1 Tryz.underlying22 hi hz hs hby rfl (by decide) v _ _ h a m c (u8s bs) (by rw [u8s_length]; omega) (fun j u hu => by
      obtain ⟨hj, rfl⟩ := u8s_get hu
      obtain ⟨b, o, e, _, hc⟩ := hb.cell j (by omega)
      obtain rfl : a = ⟨b, o, none⟩ := by simpa using e
      rw [Addr.add_lit]; exact hc) (fun u hu => by simp only [u8s, List.mem_map] at hu; obtain ⟨z, _, rfl⟩ := hu; rfl) (by unfold maxLen; omega) (by omega) hB
    refine ⟨v', w', hr, ?_, h3, h5⟩
    unfold Row
    rw [u8s_append, List.length_append, hm]
    exact h2
end Go.Proofs.YthnpckmgnompiaaGreatDoor
