/-
  Faults of layer "setup", the program's and the document's; couriermem.Chain and Refused of one.
-/
import Derived.Test.YtgcdddkebehajaaDoorSuTypes
import Derived.Test.YtgcdddkebehajaaDoorAs
import Derived.Test.YtgcdddkebehajaaDoorIs
import Derived.Deep.RegionHeld3
import Derived.Laws.Append
namespace Go.Proofs.YtgcdddkebehajaaDoor.Su
open Go.RowKit Go.Proofs.YtgcdddkebehajaaDoor.Td

/-- The cells of a fault of layer "setup". -/
def TFault (w : World) (b : Nat) (a code : Int) : Prop :=
  w.cell? ⟨b, 0, none⟩ = some (.string ⟨#[115, 101, 116, 117, 112]⟩) ∧ w.cell? ⟨b, 1, none⟩ = some (.int .i64 a) ∧ w.cell? ⟨b, 2, none⟩ = some (.int .i64 code) ∧ w.cell? ⟨b, 3, none⟩ = some .nilIface
theorem TFault.below {w w' : World} {b : Nat} {a c : Int} (h : TFault w b a c) (hb : Below w.heap.size w w') : TFault w' b a c := by
  have hl : b < w.heap.size := cell_lt h.1
  have hc : ∀ o, w'.cell? ⟨b, o, none⟩ = w.cell? ⟨b, o, none⟩ := fun o => hb.cell (p := ⟨b, o, none⟩) hl
  exact ⟨by rw [hc]; exact h.1, by rw [hc]; exact h.2.1, by rw [hc]; exact h.2.2.1, by rw [hc]; exact h.2.2.2⟩
/-- An error that is just that: none where the number is 0. -/
def TEv (w : World) (v : Value) (a code : Int) : Prop := (v = .nilIface ∧ code = 0) ∨ (code ≠ 0 ∧ ∃ b, v = .iface 44 (.pointer (some ⟨b, 0, none⟩)) ∧ TFault w b a code)
theorem TEv.below {w w' : World} {v : Value} {a c : Int} (h : TEv w v a c) (hb : Below w.heap.size w w') : TEv w' v a c := by
  rcases h with h | ⟨h0, b, h1, h2⟩
  · exact Or.inl h
  · exact Or.inr ⟨h0, b, h1, h2.below hb⟩
theorem TEv.ok {w : World} {v : Value} {a : Int} (h : TEv w v a 0) : v = .nilIface := by
  rcases h with h | h
  · exact h.1
  · exact absurd rfl h.1
theorem TEv.bad {w : World} {v : Value} {a c : Int} (h : TEv w v a c) (hc : c ≠ 0) : ∃ b, v = .iface 44 (.pointer (some ⟨b, 0, none⟩)) := by
  rcases h with h | ⟨_, b, h, _⟩
  · exact absurd h.2 hc
  · exact ⟨b, h⟩
set_option maxHeartbeats 400000 in
theorem tfault_any (a code : Int) (hc : code ≠ 0) (w : World) : Calls Tryd.prog 8 #[.int .i64 a, .int .i64 code] w fun e w' => ∃ v, e = .returned v ∧ TEv w' v a code ∧ (∀ b, v = .iface 44 (.pointer (some ⟨b, 0, none⟩)) → w.heap.size ≤ b) ∧ Below w.heap.size w w' := by
  go_enter Tryd.func8, Tryd.ntmps8
  go_wp2
  go_ret
  exact ⟨_, rfl, Or.inr ⟨hc, _, rfl, by simp [TFault]⟩, (fun b h => by cases h; simp), (Below.refl _ _).alloc (Nat.le_refl _) _⟩

/-- One link of this layer. -/
def TLink (w : World) (g : Nat) (a code : Int) : Prop := w.cell? ⟨g, 0, none⟩ = some (.string ⟨#[115, 101, 116, 117, 112]⟩) ∧ w.cell? ⟨g, 1, none⟩ = some (.int .i64 a) ∧ w.cell? ⟨g, 2, none⟩ = some (.int .i64 code)
/-- The document's refusal: none where the number is 0. -/
def TNo (w : World) (v : Value) (a code : Int) : Prop := (v = .slice none 0 0 ∧ code = 0) ∨ (code ≠ 0 ∧ ∃ g, v = .slice (some ⟨g, 0, none⟩) 1 1 ∧ TLink w g a code)
theorem TNo.below {w w' : World} {v : Value} {a c : Int} (h : TNo w v a c) (hb : Below w.heap.size w w') : TNo w' v a c := by
  rcases h with h | ⟨h0, g, h1, h2⟩
  · exact Or.inl h
  · have hl : g < w.heap.size := cell_lt h2.1
    have hc : ∀ o, w'.cell? ⟨g, o, none⟩ = w.cell? ⟨g, o, none⟩ := fun o => hb.cell (p := ⟨g, o, none⟩) hl
    exact Or.inr ⟨h0, g, h1, by rw [hc]; exact h2.1, by rw [hc]; exact h2.2.1, by rw [hc]; exact h2.2.2⟩
theorem TNo.bad {w : World} {v : Value} {a c : Int} (h : TNo w v a c) (hc : c ≠ 0) : ∃ g, v = .slice (some ⟨g, 0, none⟩) 1 1 := by
  rcases h with h | ⟨_, b, h, _⟩
  · exact absurd h.2 hc
  · exact ⟨b, h⟩
set_option maxHeartbeats 1000000 in
theorem rNo_any (a code : Int) (hc : code ≠ 0) (w : World) : Calls Tryd.prog 11 #[.int .i64 a, .int .i64 code] w fun e w' => ∃ v, e = .returned v ∧ TNo w' v a code ∧ (∀ g, v = .slice (some ⟨g, 0, none⟩) 1 1 → w.heap.size ≤ g) ∧ Below w.heap.size w w' := by
  go_enter Tryd.func11, Tryd.ntmps11
  go_wp2
  go_ret
  refine ⟨_, rfl, Or.inr ⟨hc, _, rfl, ?_⟩, (fun b h => by cases h; simp), ?_⟩
  · simp [TLink]
  · repeat (first | exact Below.refl _ _ | refine Below.setCell ?_ (by simp) _ | refine Below.alloc ?_ (by simp) _)

def ErrType (w : World) : Prop := w.cell? ⟨1, 0, none⟩ = some (.iface 72 (.agg #[.pointer (some ⟨8, 27, none⟩)]))
theorem errType_below {w w' : World} (h : ErrType w) (hb : Below w.heap.size w w') : ErrType w' := by
  unfold ErrType; rw [hb.cell (p := ⟨1, 0, none⟩) (cell_lt h)]; exact h
theorem errType_alloc {w : World} (h : ErrType w) (o : Obj) : ErrType (w.alloc o) := errType_below h ((Below.refl _ _).alloc (Nat.le_refl _) _)
theorem as_hit' (e : Addr) (B : Nat) (w : World) (hE : ErrType w) (hB : B < w.heap.size) (ht0 : w.cell? ⟨B, 0, none⟩ = some (.pointer none)) (hf0 : w.frozen? ⟨B, 0, none⟩ = false) :
    Calls Tryd.prog 15 #[.iface 44 (.pointer (some e)), .iface 48 (.pointer (some ⟨B, 0, none⟩))] w fun ev w' => ev = .returned (.bool true) ∧ w'.cell? ⟨B, 0, none⟩ = some (.pointer (some e)) ∧ Below B w w' := by
  refine (as_hit e ⟨B, 0, none⟩ (.pointer none) w hE ht0 hf0).mono ?_
  rintro ev w' ⟨rfl, rfl⟩
  refine ⟨rfl, ?_, ?_⟩
  · refine World.cell?_setCell_same _ _ _ (?_ : _ = some (.pointer none))
    rw [World.cell?_alloc_lt _ _ ⟨B, 0, none⟩ (by simp; omega), World.cell?_alloc_lt _ _ ⟨B, 0, none⟩ (by simp; omega), World.cell?_alloc_lt _ _ ⟨B, 0, none⟩ (by simp; omega), World.cell?_alloc_lt _ _ ⟨B, 0, none⟩ hB]; exact ht0
  · exact (((((Below.refl _ _).alloc (Nat.le_of_lt hB) _).alloc (by simp; omega) _).alloc (by simp; omega) _).alloc (by simp; omega) _).setCell (Nat.le_refl _) _
theorem infoLink : (Tryd.prog.info? 41).map (fun i => (i.size, i.bytes, i.zero.isSome)) = some (3, 32, true) := by kernel_rfl
/-- append of one Link to no list, as one step of a region that draws. -/
theorem step_link {w : World} {ops : Array Oper} {o : Oper} {a : Act} {K : Act → World → Prop} {Q : Exit → Act → World → Prop} {E : Prop} {g : Nat} {v0 v1 v2 : Value} (hgd : o.guard = none) (s y : Operand)
    (ho : o.op = .call { callee := .builtin .append, args := #[s, y], argTypes := #[30, 30] }) (hs : a.eval s = .slice none 0 0) (hx : a.eval y = .slice (some ⟨g, 0, none⟩) 1 1)
    (h0 : w.cell? ⟨g, 0, none⟩ = some v0) (h1 : w.cell? ⟨g, 1, none⟩ = some v1) (h2 : w.cell? ⟨g, 2, none⟩ = some v2)
    (h : ∀ (c' : Nat) (w' : World), w'.cell? ⟨w.heap.size, 0, none⟩ = some v0 → w'.cell? ⟨w.heap.size, 1, none⟩ = some v1 → w'.cell? ⟨w.heap.size, 2, none⟩ = some v2 → Below w.heap.size w w' → K (a.put o.dst (.slice (some ⟨w.heap.size, 0, none⟩) 1 c')) w') :
    if Region.wanted o (yielded ops a.tmps) = true then Oper.wp Tryd.prog o a w K Q else E := by
  have hw : Region.wanted o (yielded ops a.tmps) = true := by simp [Region.wanted, hgd]
  obtain ⟨i, hi, hm⟩ := Option.map_eq_some_iff.1 infoLink
  simp only [Prod.mk.injEq] at hm
  obtain ⟨m1, m2, m3⟩ := hm
  obtain ⟨z, hz⟩ := Option.isSome_iff_exists.1 m3
  have hrn := run_append_nil (P := Tryd.prog) w 30 o.type 41 i z Tryd.underlying30 hi hz ⟨g, 0, none⟩ 1 1 [v0, v1, v2] (by rw [m1]; rfl) (fun j u hu => by
    rw [Addr.add_lit, Nat.zero_add]
    match j, hu with
    | 0, hu => simp at hu; rw [h0, hu]
    | 1, hu => simp at hu; rw [h1, hu]
    | 2, hu => simp at hu; rw [h2, hu]
    | j + 3, hu => simp at hu) (by omega) (by omega) (by omega)
  rw [if_pos hw]
  unfold Oper.wp execOp
  simp only [ho, resolve, invoke, builtin, Sem.run_bind, Sem.run_pure, Result.andThen_ok, List.map_toArray, List.map_cons, List.map_nil, hs, hx, hrn]
  have hc : ∀ j, (w.drew.alloc (.cells ([v0, v1, v2].toArray ++ Builtin.zeroCells z.cells (grownCap w 1 0 41 - 1)) 41)).cell? ⟨w.heap.size, j, none⟩ = ([v0, v1, v2].toArray ++ Builtin.zeroCells z.cells (grownCap w 1 0 41 - 1))[j]? := fun j => by
    have hb : (w.drew.alloc (.cells ([v0, v1, v2].toArray ++ Builtin.zeroCells z.cells (grownCap w 1 0 41 - 1)) 41)).heap[w.heap.size]? = some (.cells ([v0, v1, v2].toArray ++ Builtin.zeroCells z.cells (grownCap w 1 0 41 - 1)) 41) := by show (w.heap.push _)[w.heap.size]? = _; simp
    unfold World.cell?
    rw [hb]; rfl
  exact h _ _ (by rw [hc, Array.getElem?_append_left (by simp)]; rfl) (by rw [hc, Array.getElem?_append_left (by simp)]; rfl) (by rw [hc, Array.getElem?_append_left (by simp)]; rfl) ((below_drewN (Below.refl _ _) 1).alloc (by simp) _)
set_option maxRecDepth 100000 in
set_option maxHeartbeats 4000000 in
theorem chain_one (b : Nat) (a code : Int) (w : World) (hE : ErrType w) (hF : TFault w b a code) :
    Calls Tryd.prog 12 #[.iface 44 (.pointer (some ⟨b, 0, none⟩))] w fun e w' => ∃ g c, e = .returned (.slice (some ⟨g, 0, none⟩) 1 c) ∧ w'.cell? ⟨g, 0, none⟩ = some (.string ⟨#[115, 101, 116, 117, 112]⟩) ∧ w'.cell? ⟨g, 1, none⟩ = some (.int .i64 a) ∧ w'.cell? ⟨g, 2, none⟩ = some (.int .i64 code) ∧ Below w.heap.size w w' := by
  obtain ⟨f0, f1, f2, f3⟩ := hF
  have hb : b < w.heap.size := cell_lt f0
  have HE1 : Hid (ErrType (w.alloc (.cells #[.pointer none] 44))) := errType_alloc hE _
  have HF : Hid (TFault w b a code) := ⟨f0, f1, f2, f3⟩
  clear f0 f1 f2 f3 hE
  go_enter Tryd.func12, Tryd.ntmps12
  go_wp2_with fail
  refine wp_loop_rounds 2 ?_
  rw [rounds_succ]
  go_wp2_with fail
  refine (as_hit' _ _ _ HE1.out (by simp) (by simp) (by simp)).mono ?_
  rintro e w1 ⟨rfl, ht, hw⟩
  have hcell : ∀ o, w1.cell? ⟨b, o, none⟩ = w.cell? ⟨b, o, none⟩ := fun o => by
    rw [hw.cell (p := ⟨b, o, none⟩) hb]; exact World.cell?_alloc_lt _ _ ⟨b, o, none⟩ hb
  have k0 : w1.cell? ⟨b, 0, none⟩ = some (.string ⟨#[115, 101, 116, 117, 112]⟩) := by rw [hcell]; exact HF.out.1
  have k1 : w1.cell? ⟨b, 1, none⟩ = some (.int .i64 a) := by rw [hcell]; exact HF.out.2.1
  have k2 : w1.cell? ⟨b, 2, none⟩ = some (.int .i64 code) := by rw [hcell]; exact HF.out.2.2.1
  have k3 : w1.cell? ⟨b, 3, none⟩ = some .nilIface := by rw [hcell]; exact HF.out.2.2.2
  have HB : Hid (Below w.heap.size w w1) := ((Below.refl _ _).alloc (Nat.le_refl _) _).trans hw
  have hsz : w.heap.size < w1.heap.size := by have := hw.size; simp at this; omega
  clear hw hcell HE1 HF
  go_wp2_with fail
  have hb1 : b < w1.heap.size := by omega
  go_region_held3 (fun x => x.cell? ⟨w.heap.size, 0, none⟩ = some (.pointer (some ⟨b, 0, none⟩)) ∧ x.cell? ⟨b, 0, none⟩ = some (.string ⟨#[115, 101, 116, 117, 112]⟩) ∧ x.cell? ⟨b, 1, none⟩ = some (.int .i64 a) ∧ x.cell? ⟨b, 2, none⟩ = some (.int .i64 code)) (simp [*, World.cell?_alloc_lt _ _ ⟨w.heap.size, 0, none⟩ hsz, World.cell?_alloc_lt _ _ ⟨b, 0, none⟩ hb1, World.cell?_alloc_lt _ _ ⟨b, 1, none⟩ hb1, World.cell?_alloc_lt _ _ ⟨b, 2, none⟩ hb1]) (first | (refine step_link (v0 := .string ⟨#[115, 101, 116, 117, 112]⟩) (v1 := .int .i64 a) (v2 := .int .i64 code) rfl (.tmp 23) (.tmp 37) rfl rfl rfl (by simp) (by simp) (by simp) ?_; intro c' w3 d0 d1 d2 hb3; have e1 : w3.cell? ⟨w.heap.size, 0, none⟩ = some (.pointer (some ⟨b, 0, none⟩)) := (by rw [hb3.cell (p := ⟨w.heap.size, 0, none⟩) (by simp; omega)]; simp [*]); have g0 : w3.cell? ⟨b, 0, none⟩ = some (.string ⟨#[115, 101, 116, 117, 112]⟩) := (by rw [hb3.cell (p := ⟨b, 0, none⟩) (by simp; omega)]; simp [*]); have g1 : w3.cell? ⟨b, 1, none⟩ = some (.int .i64 a) := (by rw [hb3.cell (p := ⟨b, 1, none⟩) (by simp; omega)]; simp [*]); have g2 : w3.cell? ⟨b, 2, none⟩ = some (.int .i64 code) := (by rw [hb3.cell (p := ⟨b, 2, none⟩) (by simp; omega)]; simp [*]); have g3 : w3.cell? ⟨b, 3, none⟩ = some (.nilIface) := (by rw [hb3.cell (p := ⟨b, 3, none⟩) (by simp; omega)]; simp [*, World.cell?_alloc_lt _ _ ⟨b, 3, none⟩ hb1]); have hbw : Below w1.heap.size w1 w3 := (by first | exact Below.trans ((Below.refl _ _).alloc (Nat.le_refl _) _) (hb3.mono (by simp)) | exact Below.trans ((below_drewN (Below.refl _ _) 1).alloc (Nat.le_refl _) _) (hb3.mono (by simp)) | exact Below.trans (below_drewN ((Below.refl _ _).alloc (Nat.le_refl _) _) 1) (hb3.mono (by simp)))))
  have HC : Hid (w3.cell? ⟨w1.heap.size + 1, 0, none⟩ = some (.string ⟨#[115, 101, 116, 117, 112]⟩) ∧ w3.cell? ⟨w1.heap.size + 1, 1, none⟩ = some (.int .i64 a) ∧ w3.cell? ⟨w1.heap.size + 1, 2, none⟩ = some (.int .i64 code)) := ⟨by simpa using d0, by simpa using d1, by simpa using d2⟩
  have HBW : Hid (Below w1.heap.size w1 w3) := hbw
  clear d0 d1 d2 hb3 hbw k0 k1 k2 k3 g0 g1 g2
  go_wp2_with fail
  rw [rounds_succ]
  go_wp2_with fail
  go_ret
  exact ⟨_, _, rfl, HC.out.1, HC.out.2.1, HC.out.2.2, below_then HB.out HBW.out⟩
set_option maxHeartbeats 400000 in
theorem refused_nil (w : World) : Calls Tryd.prog 6 #[.nilIface, .slice none 0 0] w fun e w' => e = .returned (.bool true) ∧ w' = w := by
  go_enter Tryd.func6, Tryd.ntmps6
  go_wp2
  go_ret
  exact ⟨rfl, rfl⟩
set_option maxRecDepth 100000 in
set_option maxHeartbeats 2000000 in
theorem refused_code (b g : Nat) (a cd : Int) (w : World) (hE : ErrType w) (hF : TFault w b a cd) (h0 : w.cell? ⟨g, 0, none⟩ = some (.string ⟨#[115, 101, 116, 117, 112]⟩)) (h1 : w.cell? ⟨g, 1, none⟩ = some (.int .i64 a)) (h2 : w.cell? ⟨g, 2, none⟩ = some (.int .i64 cd)) :
    Calls Tryd.prog 6 #[.iface 44 (.pointer (some ⟨b, 0, none⟩)), .slice (some ⟨g, 0, none⟩) 1 1] w fun e w' => e = .returned (.bool true) ∧ Below w.heap.size w w' := by
  have HE : Hid (ErrType w) := hE
  have HF : Hid (TFault w b a cd) := hF
  have hg : g < w.heap.size := cell_lt h0
  have HL : Hid (w.cell? ⟨g, 0, none⟩ = some (.string ⟨#[115, 101, 116, 117, 112]⟩) ∧ w.cell? ⟨g, 1, none⟩ = some (.int .i64 a) ∧ w.cell? ⟨g, 2, none⟩ = some (.int .i64 cd)) := ⟨h0, h1, h2⟩
  clear hE hF h0 h1 h2
  go_enter Tryd.func6, Tryd.ntmps6
  go_wp2_with fail
  refine (chain_one b a cd _ HE.out HF.out).mono ?_
  rintro e w1 ⟨G, c, rfl, c0, c1, c2, hb⟩
  have d0 : w1.cell? ⟨g, 0, none⟩ = some (.string ⟨#[115, 101, 116, 117, 112]⟩) := (hb.cell (p := ⟨g, 0, none⟩) hg).trans HL.out.1
  have d1 : w1.cell? ⟨g, 1, none⟩ = some (.int .i64 a) := (hb.cell (p := ⟨g, 1, none⟩) hg).trans HL.out.2.1
  have d2 : w1.cell? ⟨g, 2, none⟩ = some (.int .i64 cd) := (hb.cell (p := ⟨g, 2, none⟩) hg).trans HL.out.2.2
  have HF1 : Hid (TFault w1 b a cd) := HF.out.below hb
  have HB : Hid (Below w.heap.size w w1) := hb
  clear hb HF HL HE
  go_wp2_with fail
  refine wp_loop_rounds 2 ?_
  rw [rounds_succ]
  go_wp2_with fail
  go_quiet (fail)
  go_wp2_with fail
  rw [rounds_succ]
  go_wp2_with fail
  have HF2 : Hid (TFault (w1.drewN nq) b a cd) := HF1.out.below (below_drewN (Below.refl _ _) _)
  refine (is_code _ _ _ HF2.out.2.2.1 HF2.out.2.2.2).mono ?_
  rintro e w2 ⟨rfl, rfl⟩
  go_wp2_with fail
  go_ret
  exact ⟨rfl, below_drewN HB.out _⟩
/-- Just that refusal. -/
theorem refused_any {w : World} {ev no : Value} {a c : Int} (hE : ErrType w) (he : TEv w ev a c) (hn : TNo w no a c) : Calls Tryd.prog 6 #[ev, no] w fun e w' => e = .returned (.bool true) ∧ Below w.heap.size w w' := by
  rcases he with ⟨rfl, rfl⟩ | ⟨h0, b, rfl, hF⟩
  · rcases hn with ⟨rfl, _⟩ | ⟨h, _⟩
    · exact (refused_nil w).mono fun _ _ ⟨h, h'⟩ => ⟨h, h' ▸ Below.refl _ _⟩
    · exact absurd rfl h
  · rcases hn with ⟨_, h⟩ | ⟨_, g, rfl, hL⟩
    · exact absurd h h0
    · exact refused_code b g a c w hE hF hL.1 hL.2.1 hL.2.2
end Go.Proofs.YtgcdddkebehajaaDoor.Su
