/-
  couriermem.Chain of a fault of the ledger with nothing under it; Refused.
-/
import Derived.Test.YtdjjologpodnkaaGreatDoorLgREnc2
import Derived.Test.YtdjjologpodnkaaGreatDoorAs
import Derived.Test.YtdjjologpodnkaaGreatDoorIs
import Derived.Deep.RegionHeld3
import Derived.Laws.Append
namespace Go.Proofs.YtdjjologpodnkaaGreatDoor
open Go.RowKit

def ErrType (w : World) : Prop := w.cell? ⟨0, 0, none⟩ = some (.iface 115 (.agg #[.pointer (some ⟨2, 29, none⟩)]))
theorem errType_below {w w' : World} (h : ErrType w) (hb : Below w.heap.size w w') : ErrType w' := by
  unfold ErrType; rw [hb.cell (p := ⟨0, 0, none⟩) (cell_lt h)]; exact h
theorem errType_alloc {w : World} (h : ErrType w) (o : Obj) : ErrType (w.alloc o) := errType_below h ((Below.refl _ _).alloc (Nat.le_refl _) _)
theorem as_hit' (e : Addr) (B : Nat) (w : World) (hE : ErrType w) (hB : B < w.heap.size) (ht0 : w.cell? ⟨B, 0, none⟩ = some (.pointer none)) (hf0 : w.frozen? ⟨B, 0, none⟩ = false) :
    Calls Tryz.prog 36 #[.iface 74 (.pointer (some e)), .iface 85 (.pointer (some ⟨B, 0, none⟩))] w fun ev w' => ev = .returned (.bool true) ∧ w'.cell? ⟨B, 0, none⟩ = some (.pointer (some e)) ∧ Below B w w' := by
  refine (as_hit e ⟨B, 0, none⟩ (.pointer none) w hE ht0 hf0).mono ?_
  rintro ev w' ⟨rfl, rfl⟩
  refine ⟨rfl, ?_, ?_⟩
  · refine World.cell?_setCell_same _ _ _ (?_ : _ = some (.pointer none))
    rw [World.cell?_alloc_lt _ _ ⟨B, 0, none⟩ (by simp; omega), World.cell?_alloc_lt _ _ ⟨B, 0, none⟩ (by simp; omega), World.cell?_alloc_lt _ _ ⟨B, 0, none⟩ (by simp; omega), World.cell?_alloc_lt _ _ ⟨B, 0, none⟩ hB]; exact ht0
  · exact (((((Below.refl _ _).alloc (Nat.le_of_lt hB) _).alloc (by simp; omega) _).alloc (by simp; omega) _).alloc (by simp; omega) _).setCell (Nat.le_refl _) _
theorem infoLink : (Tryz.prog.info? 54).map (fun i => (i.size, i.bytes, i.zero.isSome)) = some (3, 32, true) := by kernel_rfl
/-- append of one Link to no list, as one step of a region that draws. -/
theorem step_link {w : World} {ops : Array Oper} {o : Oper} {a : Act} {K : Act → World → Prop} {Q : Exit → Act → World → Prop} {E : Prop} {g : Nat} {v0 v1 v2 : Value} (hgd : o.guard = none) (s y : Operand)
    (ho : o.op = .call { callee := .builtin .append, args := #[s, y], argTypes := #[32, 32] }) (hs : a.eval s = .slice none 0 0) (hx : a.eval y = .slice (some ⟨g, 0, none⟩) 1 1)
    (h0 : w.cell? ⟨g, 0, none⟩ = some v0) (h1 : w.cell? ⟨g, 1, none⟩ = some v1) (h2 : w.cell? ⟨g, 2, none⟩ = some v2)
    (h : ∀ (c' : Nat) (w' : World), w'.cell? ⟨w.heap.size, 0, none⟩ = some v0 → w'.cell? ⟨w.heap.size, 1, none⟩ = some v1 → w'.cell? ⟨w.heap.size, 2, none⟩ = some v2 → Below w.heap.size w w' → K (a.put o.dst (.slice (some ⟨w.heap.size, 0, none⟩) 1 c')) w') :
    if Region.wanted o (yielded ops a.tmps) = true then Oper.wp Tryz.prog o a w K Q else E := by
  have hw : Region.wanted o (yielded ops a.tmps) = true := by simp [Region.wanted, hgd]
  obtain ⟨i, hi, hm⟩ := Option.map_eq_some_iff.1 infoLink
  simp only [Prod.mk.injEq] at hm
  obtain ⟨m1, m2, m3⟩ := hm
  obtain ⟨z, hz⟩ := Option.isSome_iff_exists.1 m3
  have hrn := run_append_nil (P := Tryz.prog) w 32 o.type 54 i z Tryz.underlying32 hi hz ⟨g, 0, none⟩ 1 1 [v0, v1, v2] (by rw [m1]; rfl) (fun j u hu => by
    rw [Addr.add_lit, Nat.zero_add]
    match j, hu with
    | 0, hu => simp at hu; rw [h0, hu]
    | 1, hu => simp at hu; rw [h1, hu]
    | 2, hu => simp at hu; rw [h2, hu]
    | j + 3, hu => simp at hu) (by omega) (by omega) (by omega)
  rw [if_pos hw]
  unfold Oper.wp execOp
  simp only [ho, resolve, invoke, builtin, Sem.run_bind, Sem.run_pure, Result.andThen_ok, List.map_toArray, List.map_cons, List.map_nil, hs, hx, hrn]
  have hc : ∀ j, (w.drew.alloc (.cells ([v0, v1, v2].toArray ++ Builtin.zeroCells z.cells (grownCap w 1 0 54 - 1)) 54)).cell? ⟨w.heap.size, j, none⟩ = ([v0, v1, v2].toArray ++ Builtin.zeroCells z.cells (grownCap w 1 0 54 - 1))[j]? := fun j => by
    have hb : (w.drew.alloc (.cells ([v0, v1, v2].toArray ++ Builtin.zeroCells z.cells (grownCap w 1 0 54 - 1)) 54)).heap[w.heap.size]? = some (.cells ([v0, v1, v2].toArray ++ Builtin.zeroCells z.cells (grownCap w 1 0 54 - 1)) 54) := by show (w.heap.push _)[w.heap.size]? = _; simp
    unfold World.cell?
    rw [hb]; rfl
  exact h _ _ (by rw [hc, Array.getElem?_append_left (by simp)]; rfl) (by rw [hc, Array.getElem?_append_left (by simp)]; rfl) (by rw [hc, Array.getElem?_append_left (by simp)]; rfl) ((below_drewN (Below.refl _ _) 1).alloc (by simp) _)
set_option maxRecDepth 100000 in
set_option maxHeartbeats 4000000 in
theorem chain_one (b : Nat) (a code : Int) (w : World) (hE : ErrType w) (hF : GFault w b a code) :
    Calls Tryz.prog 22 #[.iface 74 (.pointer (some ⟨b, 0, none⟩))] w fun e w' => ∃ g c, e = .returned (.slice (some ⟨g, 0, none⟩) 1 c) ∧ w'.cell? ⟨g, 0, none⟩ = some (.string ⟨#[108, 101, 100, 103, 101, 114]⟩) ∧ w'.cell? ⟨g, 1, none⟩ = some (.int .i64 a) ∧ w'.cell? ⟨g, 2, none⟩ = some (.int .i64 code) ∧ Below w.heap.size w w' := by
  obtain ⟨f0, f1, f2, f3⟩ := hF
  have hb : b < w.heap.size := cell_lt f0
  have HE1 : Hid (ErrType (w.alloc (.cells #[.pointer none] 74))) := errType_alloc hE _
  have HF : Hid (GFault w b a code) := ⟨f0, f1, f2, f3⟩
  clear f0 f1 f2 f3 hE
  go_enter Tryz.func22, Tryz.ntmps22
  go_wp2_with fail
  refine wp_loop_rounds 2 ?_
  rw [rounds_succ]
  go_wp2_with fail
  refine (as_hit' _ _ _ HE1.out (by simp) (by simp) (by simp)).mono ?_
  rintro e w1 ⟨rfl, ht, hw⟩
  have hcell : ∀ o, w1.cell? ⟨b, o, none⟩ = w.cell? ⟨b, o, none⟩ := fun o => by
    rw [hw.cell (p := ⟨b, o, none⟩) hb]; exact World.cell?_alloc_lt _ _ ⟨b, o, none⟩ hb
  have k0 : w1.cell? ⟨b, 0, none⟩ = some (.string ⟨#[108, 101, 100, 103, 101, 114]⟩) := by rw [hcell]; exact HF.out.1
  have k1 : w1.cell? ⟨b, 1, none⟩ = some (.int .i64 a) := by rw [hcell]; exact HF.out.2.1
  have k2 : w1.cell? ⟨b, 2, none⟩ = some (.int .i64 code) := by rw [hcell]; exact HF.out.2.2.1
  have k3 : w1.cell? ⟨b, 3, none⟩ = some .nilIface := by rw [hcell]; exact HF.out.2.2.2
  have HB : Hid (Below w.heap.size w w1) := ((Below.refl _ _).alloc (Nat.le_refl _) _).trans hw
  have hsz : w.heap.size < w1.heap.size := by have := hw.size; simp at this; omega
  clear hw hcell HE1 HF
  go_wp2_with fail
  have hb1 : b < w1.heap.size := by omega
  go_region_held3 (fun x => x.cell? ⟨w.heap.size, 0, none⟩ = some (.pointer (some ⟨b, 0, none⟩)) ∧ x.cell? ⟨b, 0, none⟩ = some (.string ⟨#[108, 101, 100, 103, 101, 114]⟩) ∧ x.cell? ⟨b, 1, none⟩ = some (.int .i64 a) ∧ x.cell? ⟨b, 2, none⟩ = some (.int .i64 code)) (simp [*, World.cell?_alloc_lt _ _ ⟨w.heap.size, 0, none⟩ hsz, World.cell?_alloc_lt _ _ ⟨b, 0, none⟩ hb1, World.cell?_alloc_lt _ _ ⟨b, 1, none⟩ hb1, World.cell?_alloc_lt _ _ ⟨b, 2, none⟩ hb1]) (first | (refine step_link (v0 := .string ⟨#[108, 101, 100, 103, 101, 114]⟩) (v1 := .int .i64 a) (v2 := .int .i64 code) rfl (.tmp 23) (.tmp 37) rfl rfl rfl (by simp) (by simp) (by simp) ?_; intro c' w3 d0 d1 d2 hb3; have e1 : w3.cell? ⟨w.heap.size, 0, none⟩ = some (.pointer (some ⟨b, 0, none⟩)) := (by rw [hb3.cell (p := ⟨w.heap.size, 0, none⟩) (by simp; omega)]; simp [*]); have g0 : w3.cell? ⟨b, 0, none⟩ = some (.string ⟨#[108, 101, 100, 103, 101, 114]⟩) := (by rw [hb3.cell (p := ⟨b, 0, none⟩) (by simp; omega)]; simp [*]); have g1 : w3.cell? ⟨b, 1, none⟩ = some (.int .i64 a) := (by rw [hb3.cell (p := ⟨b, 1, none⟩) (by simp; omega)]; simp [*]); have g2 : w3.cell? ⟨b, 2, none⟩ = some (.int .i64 code) := (by rw [hb3.cell (p := ⟨b, 2, none⟩) (by simp; omega)]; simp [*]); have g3 : w3.cell? ⟨b, 3, none⟩ = some (.nilIface) := (by rw [hb3.cell (p := ⟨b, 3, none⟩) (by simp; omega)]; simp [*, World.cell?_alloc_lt _ _ ⟨b, 3, none⟩ hb1]); have hbw : Below w1.heap.size w1 w3 := (by first | exact Below.trans ((Below.refl _ _).alloc (Nat.le_refl _) _) (hb3.mono (by simp)) | exact Below.trans ((below_drewN (Below.refl _ _) 1).alloc (Nat.le_refl _) _) (hb3.mono (by simp)) | exact Below.trans (below_drewN ((Below.refl _ _).alloc (Nat.le_refl _) _) 1) (hb3.mono (by simp)))))
  have HC : Hid (w3.cell? ⟨w1.heap.size + 1, 0, none⟩ = some (.string ⟨#[108, 101, 100, 103, 101, 114]⟩) ∧ w3.cell? ⟨w1.heap.size + 1, 1, none⟩ = some (.int .i64 a) ∧ w3.cell? ⟨w1.heap.size + 1, 2, none⟩ = some (.int .i64 code)) := ⟨by simpa using d0, by simpa using d1, by simpa using d2⟩
  have HBW : Hid (Below w1.heap.size w1 w3) := hbw
  clear d0 d1 d2 hb3 hbw k0 k1 k2 k3 g0 g1 g2
  go_wp2_with fail
  rw [rounds_succ]
  go_wp2_with fail
  go_ret
  exact ⟨_, _, rfl, HC.out.1, HC.out.2.1, HC.out.2.2, below_then HB.out HBW.out⟩
set_option maxHeartbeats 400000 in
theorem refused_nil (w : World) : Calls Tryz.prog 9 #[.nilIface, .slice none 0 0] w fun e w' => e = .returned (.bool true) ∧ w' = w := by
  go_enter Tryz.func9, Tryz.ntmps9
  go_wp2
  go_ret
  exact ⟨rfl, rfl⟩
set_option maxRecDepth 100000 in
set_option maxHeartbeats 2000000 in
theorem refused_one (b g : Nat) (a code : Int) (w : World) (hE : ErrType w) (hF : GFault w b a code) (h0 : w.cell? ⟨g, 0, none⟩ = some (.string ⟨#[108, 101, 100, 103, 101, 114]⟩)) (h1 : w.cell? ⟨g, 1, none⟩ = some (.int .i64 a)) (h2 : w.cell? ⟨g, 2, none⟩ = some (.int .i64 code)) :
    Calls Tryz.prog 9 #[.iface 74 (.pointer (some ⟨b, 0, none⟩)), .slice (some ⟨g, 0, none⟩) 1 1] w fun e w' => e = .returned (.bool true) ∧ Below w.heap.size w w' := by
  have HE : Hid (ErrType w) := hE
  have HF : Hid (GFault w b a code) := hF
  have hg : g < w.heap.size := cell_lt h0
  have HL : Hid (w.cell? ⟨g, 0, none⟩ = some (.string ⟨#[108, 101, 100, 103, 101, 114]⟩) ∧ w.cell? ⟨g, 1, none⟩ = some (.int .i64 a) ∧ w.cell? ⟨g, 2, none⟩ = some (.int .i64 code)) := ⟨h0, h1, h2⟩
  clear hE hF h0 h1 h2
  go_enter Tryz.func9, Tryz.ntmps9
  go_wp2_with fail
  refine (chain_one b a code _ HE.out HF.out).mono ?_
  rintro e w1 ⟨G, c, rfl, c0, c1, c2, hb⟩
  have d0 : w1.cell? ⟨g, 0, none⟩ = some (.string ⟨#[108, 101, 100, 103, 101, 114]⟩) := (hb.cell (p := ⟨g, 0, none⟩) hg).trans HL.out.1
  have d1 : w1.cell? ⟨g, 1, none⟩ = some (.int .i64 a) := (hb.cell (p := ⟨g, 1, none⟩) hg).trans HL.out.2.1
  have d2 : w1.cell? ⟨g, 2, none⟩ = some (.int .i64 code) := (hb.cell (p := ⟨g, 2, none⟩) hg).trans HL.out.2.2
  have HF1 : Hid (GFault w1 b a code) := HF.out.below hb
  have HB : Hid (Below w.heap.size w w1) := hb
  clear hb HF HL HE
  go_wp2_with fail
  refine wp_loop_rounds 2 ?_
  rw [rounds_succ]
  go_wp2_with fail
  go_quiet (fail)
  go_wp2_with fail
  rw [rounds_succ]
  go_wp2_with fail
  have HF2 : Hid (GFault (w1.drewN nq) b a code) := HF1.out.below (below_drewN (Below.refl _ _) _)
  refine (is_code _ _ _ HF2.out.2.2.1 HF2.out.2.2.2).mono ?_
  rintro e w2 ⟨rfl, rfl⟩
  go_wp2_with fail
  go_ret
  exact ⟨rfl, below_drewN HB.out _⟩
end Go.Proofs.YtdjjologpodnkaaGreatDoor
