import Derived.Test.YtfkcnnjkflomkaaDoorDkUn
import Derived.Test.YtfkcnnjkflomkaaDoorAs
import Derived.Test.YtfkcnnjkflomkaaDoorCards
import Derived.Test.YtfkcnnjkflomkaaDoorTie
import Derived.ProofKit
import Derived.OpenShut
import Derived.Deep.DeepHandedRow
import Derived.Deep.Slices
import Derived.Lib.LaidTab
import Derived.LaidHandle
import Derived.LaidMore
import Derived.SizedLaws
/-
  The log's errors: fault, unread, the law's 'code'; the calls at a disk that nobody made.
-/
namespace Go.Proofs.YtfkcnnjkflomkaaDoor
open Go.RowKit

def ErrType (w : World) : Prop := w.cell? ⟨0, 0, none⟩ = some (.iface 150 (.agg #[.pointer (some ⟨2, 30, none⟩)]))
theorem errType_below {w w' : World} (h : ErrType w) (hb : Below w.heap.size w w') : ErrType w' := by
  unfold ErrType; rw [hb.cell (p := ⟨0, 0, none⟩) (cell_lt h)]; exact h
theorem errType_alloc {w : World} (h : ErrType w) (o : Obj) : ErrType (w.alloc o) := errType_below h ((Below.refl _ _).alloc (Nat.le_refl _) _)
theorem as_hit' (e : Addr) (B : Nat) (w : World) (hE : ErrType w) (hB : B < w.heap.size) (ht0 : w.cell? ⟨B, 0, none⟩ = some (.pointer none)) (hf0 : w.frozen? ⟨B, 0, none⟩ = false) :
    Calls Tryd.prog 40 #[.iface 98 (.pointer (some e)), .iface 100 (.pointer (some ⟨B, 0, none⟩))] w fun ev w' => ev = .returned (.bool true) ∧ w'.cell? ⟨B, 0, none⟩ = some (.pointer (some e)) ∧ Below B w w' := by
  refine (as_hit e ⟨B, 0, none⟩ (.pointer none) w hE ht0 hf0).mono ?_
  rintro ev w' ⟨rfl, rfl⟩
  refine ⟨rfl, ?_, ?_⟩
  · refine World.cell?_setCell_same _ _ _ (?_ : _ = some (.pointer none))
    rw [World.cell?_alloc_lt _ _ ⟨B, 0, none⟩ (by simp; omega), World.cell?_alloc_lt _ _ ⟨B, 0, none⟩ (by simp; omega), World.cell?_alloc_lt _ _ ⟨B, 0, none⟩ (by simp; omega), World.cell?_alloc_lt _ _ ⟨B, 0, none⟩ hB]; exact ht0
  · exact (((((Below.refl _ _).alloc (Nat.le_of_lt hB) _).alloc (by simp; omega) _).alloc (by simp; omega) _).alloc (by simp; omega) _).setCell (Nat.le_refl _) _
/-- The cells of a fault of layer "wal". -/
def WFault (w : World) (b : Nat) (code : Int) : Prop :=
  w.cell? ⟨b, 0, none⟩ = some (.string ⟨#[119, 97, 108]⟩) ∧ w.cell? ⟨b, 1, none⟩ = some (.int .i64 0) ∧ w.cell? ⟨b, 2, none⟩ = some (.int .i64 code) ∧ w.cell? ⟨b, 3, none⟩ = some .nilIface
theorem WFault.below {w w' : World} {b : Nat} {c : Int} (h : WFault w b c) (hb : Below w.heap.size w w') : WFault w' b c := by
  have hl : b < w.heap.size := cell_lt h.1
  have hc : ∀ o, w'.cell? ⟨b, o, none⟩ = w.cell? ⟨b, o, none⟩ := fun o => hb.cell (p := ⟨b, o, none⟩) hl
  exact ⟨by rw [hc]; exact h.1, by rw [hc]; exact h.2.1, by rw [hc]; exact h.2.2.1, by rw [hc]; exact h.2.2.2⟩
/-- What a call that is refused with this code tells. -/
def WErr (w : World) (code : Int) (v : Value) (w' : World) : Prop := ∃ b, v = .iface 98 (.pointer (some ⟨b, 0, none⟩)) ∧ WFault w' b code ∧ Below w.heap.size w w'

set_option maxHeartbeats 400000 in
theorem wfault_any (code : Int) (w : World) : Calls Tryd.prog 27 #[.int .i64 code] w fun e w' => ∃ v, e = .returned v ∧ WErr w code v w' := by
  go_enter Tryd.func27, Tryd.ntmps27
  go_wp2
  go_ret
  exact ⟨_, rfl, _, rfl, ⟨by simp, by simp, by simp, by simp⟩, (Below.refl _ _).alloc (Nat.le_refl _) _⟩

set_option maxHeartbeats 1000000 in
theorem unread_zero {b : Nat} (w : World) (hE : ErrType w) (hF : FaultAt w b 0 3) : Calls Tryd.prog 45 #[.iface 98 (.pointer (some ⟨b, 0, none⟩))] w fun e w' => ∃ v, e = .returned v ∧ WErr w 3 v w' := by
  obtain ⟨f0, f1, f2, f3⟩ := hF
  have hb : b < w.heap.size := cell_lt f0
  have HE : Hid (ErrType (w.alloc (.cells #[.pointer none] 98))) := errType_alloc hE _
  have HF2 : Hid (w.cell? ⟨b, 2, none⟩ = some (.int .i64 3)) := f2
  clear f0 f1 f2 f3 hE
  go_enter Tryd.func45, Tryd.ntmps45
  go_wp2_with fail
  refine (as_hit' _ _ _ HE.out (by simp) (by simp) (by simp)).mono ?_
  rintro e w1 ⟨rfl, ht, hw⟩
  have k2 : w1.cell? ⟨b, 2, none⟩ = some (.int .i64 3) := by rw [hw.cell (p := ⟨b, 2, none⟩) hb, World.cell?_alloc_lt _ _ ⟨b, 2, none⟩ hb]; exact HF2.out
  have HB : Hid (Below w.heap.size w w1) := ((Below.refl _ _).alloc (Nat.le_refl _) _).trans hw
  clear hw
  go_wp2_with fail
  refine (wfault_any 3 _).mono ?_
  rintro e w2 ⟨v, rfl, b', rfl, hF, hb2⟩
  have HF : Hid (WFault w2 b' 3 ∧ Below w.heap.size w w2) := ⟨hF, below_then HB.out hb2⟩
  clear hF hb2
  go_wp2_with fail
  go_ret
  exact ⟨_, rfl, _, rfl, HF.out.1, HF.out.2⟩

set_option maxHeartbeats 1000000 in
theorem code_fault {b : Nat} {code : Int} (w : World) (hE : ErrType w) (hF : WFault w b code) (hc : (code == 0) = false) (hd : (code == 63) = false) : Calls Tryd.prog 20 #[.iface 98 (.pointer (some ⟨b, 0, none⟩))] w fun e w' => e = .returned (.int .i64 code) ∧ Below w.heap.size w w' := by
  obtain ⟨f0, f1, f2, f3⟩ := hF
  have hb : b < w.heap.size := cell_lt f0
  have HE : Hid (ErrType (w.alloc (.cells #[.pointer none] 98))) := errType_alloc hE _
  have HF : Hid (WFault w b code) := ⟨f0, f1, f2, f3⟩
  clear f0 f1 f2 f3 hE
  go_enter Tryd.func20, Tryd.ntmps20
  go_wp2_with fail
  go_region_with (go_at_call 40; refine (as_hit' _ _ _ (by exact HE.out) (by simp) (by simp) (by simp)).mono ?_; rintro e w1 ⟨rfl, ht, hw⟩; have hcell : ∀ o, w1.cell? ⟨b, o, none⟩ = w.cell? ⟨b, o, none⟩ := (fun o => (hw.cell (p := ⟨b, o, none⟩) hb).trans (World.cell?_alloc_lt w _ ⟨b, o, none⟩ hb)); have k0 : w1.cell? ⟨b, 0, none⟩ = some (.string ⟨#[119, 97, 108]⟩) := ((hcell 0).trans HF.out.1); have k1 : w1.cell? ⟨b, 1, none⟩ = some (.int .i64 0) := ((hcell 1).trans HF.out.2.1); have k2 : w1.cell? ⟨b, 2, none⟩ = some (.int .i64 code) := ((hcell 2).trans HF.out.2.2.1); have k3 : w1.cell? ⟨b, 3, none⟩ = some .nilIface := ((hcell 3).trans HF.out.2.2.2); have HB : Hid (Below w.heap.size w w1) := (by first | exact ((Below.refl _ _).alloc (Nat.le_refl _) _).trans hw | exact (((Below.refl _ _).alloc (Nat.le_refl _) _).drew).trans hw); clear hw hcell)
  all_goals
    go_wp2_with fail
    go_ret
    exact ⟨rfl, HB.out⟩
end Go.Proofs.YtfkcnnjkflomkaaDoor

/-
  Arguments opened: byte strings; what the listed package-level variables give: the handle of 'error', the table of the CRC.
-/
namespace Go.Proofs.YtfkcnnjkflomkaaDoor
open Go.ChangeShapes Go.WideShapes Go.ChangeAt Go.RowKit Go.Deep

theorem own : ownKnob Tryd.prog.godebug = none := by kernel_rfl
theorem typesSize : Tryd.prog.types.size = 201 := by kernel_rfl
theorem cellsU8 : Tryd.prog.cellsOf 5 = 1 := by kernel_rfl
theorem bytesU8 : Tryd.prog.bytesOf 5 = 1 := by kernel_rfl
theorem gErr : Tryd.prog.globalNamed "errors.errorType" = some 0 := by kernel_rfl
theorem rtypeAt : (Tryd.prog.cutTypes.find? (·.1 == "internal/reflectlite.rtype")).map (·.2) = some 150 := by kernel_rfl
theorem errorRow : ((List.range 201).filter fun t => Tryd.prog.rowNamed t [101, 114, 114, 111, 114]) = [30] := by kernel_rfl
theorem errType_of {W : World} (h : handlesMet Tryd.prog [("errors.errorType", Rows.laid_errors_errorType)] W) : ErrType W := by
  obtain ⟨name, u, ty, e1, e2, e3, e4, e5⟩ := h _ (List.mem_singleton.2 rfl)
  have en : name = [101, 114, 114, 111, 114] := (Option.some.inj e1).symm
  subst en
  obtain rfl := Option.some.inj (rtypeAt.symm.trans e2)
  have hm : ty ∈ (List.range 201).filter fun t => Tryd.prog.rowNamed t [101, 114, 114, 111, 114] := List.mem_filter.2 ⟨List.mem_range.2 (by rw [← typesSize]; exact e3), e4⟩
  rw [errorRow] at hm
  obtain rfl := List.mem_singleton.1 hm
  have hh : typeHandle Tryd.prog 30 = .pointer (some ⟨2, 30, none⟩) := by kernel_rfl
  rw [hh] at e5
  simpa [ErrType] using World.var?_cell gErr e5 0
section
variable {H : Type} {enc : TypeId × Value → H} {W : World} {base : Nat} {spare : Nat → Bool} {held : Bool}
theorem getD_mem {l : List Int} {j : Nat} (h : j < l.length) : l.getD j 0 ∈ l := by
  rw [List.getD_eq_getElem?_getD, List.getElem?_eq_getElem h]; exact List.getElem_mem h
theorem open_bytes {n : Nat} {cs : List Value} {x : DataW H × List MemPlace} (h : DataW.trod enc Tryd.prog W base spare held n 28 cs = some x) :
    ∃ po pl pc bs, cs = [.slice po pl pc] ∧ Byts W po pl bs ∧ pl ≤ maxLen ∧ (po = none → pc = 0) ∧ pl ≤ pc ∧ (pl = 0 ∨ ∃ el sp, x.1 = .slice el sp ∧ el.length = pl) ∧ ∀ z ∈ bs, 0 ≤ z ∧ z ≤ 255 := by
  rcases open_ints Tryd.underlying28 Tryd.underlying5 cellsU8 h with ⟨rfl, _⟩ | ⟨a, len, cap, zs, rfl, _, hl, hm, hz, hxx, hc, hw⟩
  · exact ⟨none, 0, 0, [], rfl, ⟨rfl, fun j hj => (by omega)⟩, Nat.zero_le _, fun _ => rfl, Nat.le_refl _, Or.inl rfl, fun z hz => (by cases hz)⟩
  · have hzl : len ≤ zs.length := by rw [hz]; split <;> omega
    refine ⟨some a, len, cap, zs.take len, rfl, ⟨by simp; omega, fun j hj => ?_⟩, Nat.le_trans hl hm, fun e => (by cases e), hl, Or.inr ⟨_, _, by rw [hxx], by simp [lits]; omega⟩, fun z hzm => ?_⟩
    rotate_left
    · have := hw z (List.mem_of_mem_take hzm)
      simp [Lit.wf, IntKind.min, IntKind.max, IntKind.signed, IntKind.bits] at this
      omega
    · obtain ⟨b, o, sp⟩ := a
      have h0 := hc 0 (by omega)
      have hs : sp = none := by simpa [Addr.add] using World.cell?_spot h0
      subst hs
      have hj' := hc j (by omega)
      rw [Addr.add_lit] at hj'
      refine ⟨b, o, rfl, cell_lt hj', ?_⟩
      rw [hj']
      simp [List.getD_eq_getElem?_getD, hj]
end
end Go.Proofs.YtfkcnnjkflomkaaDoor
