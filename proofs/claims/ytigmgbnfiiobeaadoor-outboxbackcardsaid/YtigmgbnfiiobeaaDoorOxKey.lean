/-
  The box's list by key: fault, keyOf, place, find, count.
-/
import Derived.Test.YtigmgbnfiiobeaaDoorOxSpec
import Derived.Test.YtigmgbnfiiobeaaDoorOxBase
namespace Go.Proofs.YtigmgbnfiiobeaaDoor
open Go.RowKit

theorem bcell {W w1 : World} (hb : Below W.heap.size W w1) : (∀ b o, b < W.heap.size → w1.cell? ⟨b, o, none⟩ = W.cell? ⟨b, o, none⟩) ∧ (∀ b o, b < W.heap.size → w1.frozen? ⟨b, o, none⟩ = W.frozen? ⟨b, o, none⟩) :=
  ⟨fun b o h => hb.cell (p := ⟨b, o, none⟩) h, fun b o h => hb.frozen (p := ⟨b, o, none⟩) h⟩
theorem blk_lt {w : World} {W : Nat} {o : Obj} (h : w.heap[W]? = some o) : W < w.heap.size := by
  rcases Nat.lt_or_ge W w.heap.size with g | g
  · exact g
  · rw [Array.getElem?_eq_none g] at h; cases h
theorem hcell {w : World} {b : Nat} {cs : Array Value} {t : TypeId} (h : w.heap[b]? = some (.cells cs t (0, 0))) (o : Nat) : w.cell? ⟨b, o, none⟩ = cs[o]? := by simp [World.cell?, h]
theorem hfroz {w : World} {b : Nat} {cs : Array Value} {t : TypeId} (h : w.heap[b]? = some (.cells cs t (0, 0))) (o : Nat) : w.frozen? ⟨b, o, none⟩ = false := by simp [World.frozen?, h]
/-- The cells of a fault of layer "outbox". -/
def OFault (w : World) (b : Nat) (a code : Int) : Prop :=
  w.cell? ⟨b, 0, none⟩ = some (.string ⟨#[111, 117, 116, 98, 111, 120]⟩) ∧ w.cell? ⟨b, 1, none⟩ = some (.int .i64 a) ∧ w.cell? ⟨b, 2, none⟩ = some (.int .i64 code) ∧ w.cell? ⟨b, 3, none⟩ = some .nilIface
theorem OFault.keep {w w' : World} {b : Nat} {a c : Int} (h : OFault w b a c) (hk : ∀ o, w'.cell? ⟨b, o, none⟩ = w.cell? ⟨b, o, none⟩) : OFault w' b a c :=
  ⟨by rw [hk]; exact h.1, by rw [hk]; exact h.2.1, by rw [hk]; exact h.2.2.1, by rw [hk]; exact h.2.2.2⟩
theorem OFault.below {w w' : World} {b : Nat} {a c : Int} (h : OFault w b a c) (hb : Below w.heap.size w w') : OFault w' b a c := by
  have hl : b < w.heap.size := cell_lt h.1
  exact h.keep fun o => hb.cell (p := ⟨b, o, none⟩) hl
/-- An error that is just that: none where the number is 0; its block is new (from B on). -/
def OEv (w : World) (B : Nat) (v : Value) (a code : Int) : Prop := (v = .nilIface ∧ code = 0) ∨ (code ≠ 0 ∧ ∃ b, v = .iface 91 (.pointer (some ⟨b, 0, none⟩)) ∧ B ≤ b ∧ OFault w b a code)
theorem OEv.keep {w w' : World} {B : Nat} {v : Value} {a c : Int} (h : OEv w B v a c) (hk : ∀ b o, b < w.heap.size → B ≤ b → w'.cell? ⟨b, o, none⟩ = w.cell? ⟨b, o, none⟩) : OEv w' B v a c := by
  rcases h with h | ⟨h0, b, h1, h2, h3⟩
  · exact Or.inl h
  · exact Or.inr ⟨h0, b, h1, h2, h3.keep fun o => hk b o (cell_lt h3.1) h2⟩
theorem OEv.below {w w' : World} {B : Nat} {v : Value} {a c : Int} (h : OEv w B v a c) (hb : Below w.heap.size w w') : OEv w' B v a c := h.keep fun b o hl _ => hb.cell (p := ⟨b, o, none⟩) hl
theorem OEv.mono {w : World} {B C : Nat} {v : Value} {a c : Int} (h : OEv w B v a c) (hB : C ≤ B) : OEv w C v a c := by
  rcases h with h | ⟨h0, b, h1, h2, h3⟩
  · exact Or.inl h
  · exact Or.inr ⟨h0, b, h1, Nat.le_trans hB h2, h3⟩
theorem oev_ok (w : World) (B : Nat) (a : Int) : OEv w B .nilIface a 0 := Or.inl ⟨rfl, rfl⟩
set_option maxHeartbeats 400000 in
theorem fault_any (a code : Int) (w : World) : Calls Tryd.prog 16 #[.int .i64 a, .int .i64 code] w fun e w' => e = .returned (.iface 91 (.pointer (some ⟨w.heap.size, 0, none⟩))) ∧ OFault w' w.heap.size a code ∧ Below w.heap.size w w' := by
  go_enter Tryd.func16, Tryd.ntmps16
  go_wp2
  go_ret
  exact ⟨rfl, ⟨by simp, by simp, by simp, by simp⟩, (Below.refl _ _).alloc (Nat.le_refl _) _⟩
set_option maxHeartbeats 400000 in
theorem key_any (m : Msg) (w : World) : Calls Tryd.prog 17 #[.agg #[.string m.ct, .slice m.tp m.tn m.tc, .bool m.e, .int .i64 m.a, .int .i64 m.p, .int .i64 m.nu, .bool m.nt, .int .i64 m.st, .int .i64 m.lf, .bool m.un]] w fun e w' => e = .returned (.string m.ct) ∧ Below w.heap.size w w' := by
  go_enter Tryd.func17, Tryd.ntmps17
  go_wp2
  go_ret
  exact ⟨rfl, (Below.refl _ _).alloc (Nat.le_refl _) _⟩
set_option maxRecDepth 100000 in
set_option maxHeartbeats 1000000 in
theorem same_any {kb b1 b2 : Nat} {s : ByteArray} (m : Msg) (w : World) (h1 : w.cell? ⟨b1, 0, none⟩ = some (.pointer (some ⟨kb, 0, none⟩))) (h2 : w.cell? ⟨b2, 0, none⟩ = some (.string s)) (h3 : w.cell? ⟨kb, 0, none⟩ = some (.func (.func 17) #[] #[])) :
    Calls Tryd.prog 53 #[.agg #[.string m.ct, .slice m.tp m.tn m.tc, .bool m.e, .int .i64 m.a, .int .i64 m.p, .int .i64 m.nu, .bool m.nt, .int .i64 m.st, .int .i64 m.lf, .bool m.un], .pointer (some ⟨b1, 0, none⟩), .pointer (some ⟨b2, 0, none⟩)] w fun e w' => e = .returned (.bool (m.ct.toList == s.toList)) ∧ Below w.heap.size w w' := by
  have bx := Box.new w #[.string m.ct, .slice m.tp m.tn m.tc, .bool m.e, .int .i64 m.a, .int .i64 m.p, .int .i64 m.nu, .bool m.nt, .int .i64 m.st, .int .i64 m.lf, .bool m.un] 49
  have bv : Below w.heap.size w (w.alloc (.cells #[.string m.ct, .slice m.tp m.tn m.tc, .bool m.e, .int .i64 m.a, .int .i64 m.p, .int .i64 m.nu, .bool m.nt, .int .i64 m.st, .int .i64 m.lf, .bool m.un] 49)) := (Below.refl _ _).alloc (Nat.le_refl _) _
  go_enter Tryd.func53, Tryd.ntmps53
  go_wp2_with fail
  obtain ⟨V, hV⟩ : ∃ V, w.alloc (.cells #[.string m.ct, .slice m.tp m.tn m.tc, .bool m.e, .int .i64 m.a, .int .i64 m.p, .int .i64 m.nu, .bool m.nt, .int .i64 m.st, .int .i64 m.lf, .bool m.un] 49) = V := ⟨_, rfl⟩
  rw [hV] at bx bv ⊢
  clear hV
  have l0 := sub_box bx
  have hlt : ∀ (x : Sub V) (b o : Nat) (v : Value), w.cell? ⟨b, o, none⟩ = some v → x.1.cell? ⟨b, o, none⟩ = some v := fun x b o v h => by
    rw [x.2.cell (p := ⟨b, o, none⟩) (Nat.lt_of_lt_of_le (cell_lt h) bv.size), bv.cell (p := ⟨b, o, none⟩) (cell_lt h)]; exact h
  have l1 : ∀ x : Sub V, x.1.cell? ⟨b1, 0, none⟩ = some (.pointer (some ⟨kb, 0, none⟩)) := fun x => hlt x _ _ _ h1
  have l2 : ∀ x : Sub V, x.1.cell? ⟨b2, 0, none⟩ = some (.string s) := fun x => hlt x _ _ _ h2
  have l3 : ∀ x : Sub V, x.1.cell? ⟨kb, 0, none⟩ = some (.func (.func 17) #[] #[]) := fun x => hlt x _ _ _ h3
  have c1 := sub_of (V := V) (key_any m)
  have HV : Hid (Below w.heap.size w V) := bv
  haveI hne : Nonempty (Sub V) := ⟨⟨V, Below.refl _ _⟩⟩
  clear bx bv hlt h1 h2 h3
  refine wp_region_class (V := V) (Below.refl _ _) (by kernel_rfl) (by kernel_rfl) ?_
  repeat (go_big_quiet_step ((exact c1 _)))
  refine wpQuiet_nil ?_
  rintro wc ⟨xwc, rfl⟩
  have HB : Hid (Below w.heap.size w xwc.1) := below_then HV.out xwc.2
  clear l0 l1 l2 l3 c1 hne
  go_wp2_with fail
  go_ret
  exact ⟨rfl, HB.out⟩
end Go.Proofs.YtigmgbnfiiobeaaDoor
