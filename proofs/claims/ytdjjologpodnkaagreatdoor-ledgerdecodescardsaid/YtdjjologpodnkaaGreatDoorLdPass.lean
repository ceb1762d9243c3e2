/-
  A field passed to the reader.
-/
import Derived.Test.YtdjjologpodnkaaGreatDoorLdCnd
import Derived.Test.YtdjjologpodnkaaGreatDoorLgPass
namespace Go.Proofs.YtdjjologpodnkaaGreatDoor
open Go.RowKit

theorem none_read {w : World} (b : Bool) (v : Value) : Calls Tryz.prog 121 #[.bool b, v] w fun r w' => r = .returned (.tuple #[]) ∧ Below w.heap.size w w' := by
  have HB : Hid (Below w.heap.size w w) := Below.refl _ _
  go_enter Tryz.func121, Tryz.ntmps121
  go_wp2_with fail
  go_end0
  exact ⟨rfl, HB.out⟩
theorem rmt_num (x a b c : Value) (w : World) : (method 292 128 (.agg #[x, a, b, c]) "courier/ledger.read").run Tryz.prog w = .ok (115, .agg #[x, a, b, c]) w := by kernel_rfl
theorem rmt_str (x a b c : Value) (w : World) : (method 292 139 (.agg #[x, a, b, c]) "courier/ledger.read").run Tryz.prog w = .ok (132, .agg #[x, a, b, c]) w := by kernel_rfl
theorem rmt_byt (x a b c : Value) (w : World) : (method 292 146 (.agg #[x, a, b, c]) "courier/ledger.read").run Tryz.prog w = .ok (136, .agg #[x, a, b, c]) w := by kernel_rfl
theorem rmt_cnd (x : Value) (w : World) : (method 292 136 (.agg #[x]) "courier/ledger.read").run Tryz.prog w = .ok (124, .agg #[x]) w := by kernel_rfl
theorem rmt_non (b : Bool) (w : World) : (method 292 129 (.bool b) "courier/ledger.read").run Tryz.prog w = .ok (121, .bool b) w := by kernel_rfl
theorem rna_num (x a b c : Value) (w : World) : (nilAhead 292 128 (.agg #[x, a, b, c]) "courier/ledger.read").run Tryz.prog w = .ok (some false) w := by kernel_rfl
theorem rna_str (x a b c : Value) (w : World) : (nilAhead 292 139 (.agg #[x, a, b, c]) "courier/ledger.read").run Tryz.prog w = .ok (some false) w := by kernel_rfl
theorem rna_byt (x a b c : Value) (w : World) : (nilAhead 292 146 (.agg #[x, a, b, c]) "courier/ledger.read").run Tryz.prog w = .ok (some false) w := by kernel_rfl
theorem rna_cnd (x : Value) (w : World) : (nilAhead 292 136 (.agg #[x]) "courier/ledger.read").run Tryz.prog w = .ok (some false) w := by kernel_rfl
theorem rna_non (b : Bool) (w : World) : (nilAhead 292 129 (.bool b) "courier/ledger.read").run Tryz.prog w = .ok (some false) w := by kernel_rfl
set_option maxRecDepth 100000 in
set_option maxHeartbeats 2000000 in
theorem rpass_num {w : World} {fb g : Nat} {A : Int → World → Prop} {D : World → Prop} (x a b c : Value) (hg : w.cell? ⟨g, 0, none⟩ = some (.iface 128 (.agg #[x, a, b, c])))
    (HC : Hid (Calls Tryz.prog 115 #[.agg #[x, a, b, c], .pointer (some ⟨fb, 0, none⟩)] w fun e z => (∃ n, e = gaveUp n ∧ Hid (A n z)) ∨ (e = .returned (.tuple #[]) ∧ Hid (D z)))) :
    Calls Tryz.prog 95 #[.pointer (some ⟨fb, 0, none⟩), .slice (some ⟨g, 0, none⟩) 1 1] w fun e z => (∃ n, e = gaveUp n ∧ Hid (A n z)) ∨ (e = .returned (.tuple #[]) ∧ Hid (D z)) := by
  have hna := rna_num
  have hmt := rmt_num
  go_enter Tryz.func95, Tryz.ntmps95
  go_wp2_with fail
  refine wp_loop_rounds 2 ?_
  rw [rounds_succ]
  go_wp2_with fail
  refine HC.out.mono ?_
  clear HC
  rintro _ z (⟨n, rfl, H⟩ | ⟨rfl, H⟩)
  · exact ⟨rfl, Or.inl ⟨n, rfl, H⟩⟩
  · go_wp2_with fail
    rw [rounds_succ]
    go_wp2_with fail
    go_end0
    exact Or.inr ⟨rfl, H⟩
set_option maxRecDepth 100000 in
set_option maxHeartbeats 2000000 in
theorem rpass_str {w : World} {fb g : Nat} {A : Int → World → Prop} {D : World → Prop} (x a b c : Value) (hg : w.cell? ⟨g, 0, none⟩ = some (.iface 139 (.agg #[x, a, b, c])))
    (HC : Hid (Calls Tryz.prog 132 #[.agg #[x, a, b, c], .pointer (some ⟨fb, 0, none⟩)] w fun e z => (∃ n, e = gaveUp n ∧ Hid (A n z)) ∨ (e = .returned (.tuple #[]) ∧ Hid (D z)))) :
    Calls Tryz.prog 95 #[.pointer (some ⟨fb, 0, none⟩), .slice (some ⟨g, 0, none⟩) 1 1] w fun e z => (∃ n, e = gaveUp n ∧ Hid (A n z)) ∨ (e = .returned (.tuple #[]) ∧ Hid (D z)) := by
  have hna := rna_str
  have hmt := rmt_str
  go_enter Tryz.func95, Tryz.ntmps95
  go_wp2_with fail
  refine wp_loop_rounds 2 ?_
  rw [rounds_succ]
  go_wp2_with fail
  refine HC.out.mono ?_
  clear HC
  rintro _ z (⟨n, rfl, H⟩ | ⟨rfl, H⟩)
  · exact ⟨rfl, Or.inl ⟨n, rfl, H⟩⟩
  · go_wp2_with fail
    rw [rounds_succ]
    go_wp2_with fail
    go_end0
    exact Or.inr ⟨rfl, H⟩
set_option maxRecDepth 100000 in
set_option maxHeartbeats 2000000 in
theorem rpass_byt {w : World} {fb g : Nat} {A : Int → World → Prop} {D : World → Prop} (x a b c : Value) (hg : w.cell? ⟨g, 0, none⟩ = some (.iface 146 (.agg #[x, a, b, c])))
    (HC : Hid (Calls Tryz.prog 136 #[.agg #[x, a, b, c], .pointer (some ⟨fb, 0, none⟩)] w fun e z => (∃ n, e = gaveUp n ∧ Hid (A n z)) ∨ (e = .returned (.tuple #[]) ∧ Hid (D z)))) :
    Calls Tryz.prog 95 #[.pointer (some ⟨fb, 0, none⟩), .slice (some ⟨g, 0, none⟩) 1 1] w fun e z => (∃ n, e = gaveUp n ∧ Hid (A n z)) ∨ (e = .returned (.tuple #[]) ∧ Hid (D z)) := by
  have hna := rna_byt
  have hmt := rmt_byt
  go_enter Tryz.func95, Tryz.ntmps95
  go_wp2_with fail
  refine wp_loop_rounds 2 ?_
  rw [rounds_succ]
  go_wp2_with fail
  refine HC.out.mono ?_
  clear HC
  rintro _ z (⟨n, rfl, H⟩ | ⟨rfl, H⟩)
  · exact ⟨rfl, Or.inl ⟨n, rfl, H⟩⟩
  · go_wp2_with fail
    rw [rounds_succ]
    go_wp2_with fail
    go_end0
    exact Or.inr ⟨rfl, H⟩
set_option maxRecDepth 100000 in
set_option maxHeartbeats 2000000 in
theorem rpass_cnd {w : World} {fb g : Nat} {A : Int → World → Prop} {D : World → Prop} (x : Value) (hg : w.cell? ⟨g, 0, none⟩ = some (.iface 136 (.agg #[x])))
    (HC : Hid (Calls Tryz.prog 124 #[.agg #[x], .pointer (some ⟨fb, 0, none⟩)] w fun e z => (∃ n, e = gaveUp n ∧ Hid (A n z)) ∨ (e = .returned (.tuple #[]) ∧ Hid (D z)))) :
    Calls Tryz.prog 95 #[.pointer (some ⟨fb, 0, none⟩), .slice (some ⟨g, 0, none⟩) 1 1] w fun e z => (∃ n, e = gaveUp n ∧ Hid (A n z)) ∨ (e = .returned (.tuple #[]) ∧ Hid (D z)) := by
  have hna := rna_cnd
  have hmt := rmt_cnd
  go_enter Tryz.func95, Tryz.ntmps95
  go_wp2_with fail
  refine wp_loop_rounds 2 ?_
  rw [rounds_succ]
  go_wp2_with fail
  refine HC.out.mono ?_
  clear HC
  rintro _ z (⟨n, rfl, H⟩ | ⟨rfl, H⟩)
  · exact ⟨rfl, Or.inl ⟨n, rfl, H⟩⟩
  · go_wp2_with fail
    rw [rounds_succ]
    go_wp2_with fail
    go_end0
    exact Or.inr ⟨rfl, H⟩
set_option maxRecDepth 100000 in
set_option maxHeartbeats 2000000 in
theorem rpass_non {w : World} {fb g : Nat} {A : Int → World → Prop} {D : World → Prop} (b : Bool) (hg : w.cell? ⟨g, 0, none⟩ = some (.iface 129 (.bool b)))
    (HC : Hid (Calls Tryz.prog 121 #[.bool b, .pointer (some ⟨fb, 0, none⟩)] w fun e z => (∃ n, e = gaveUp n ∧ Hid (A n z)) ∨ (e = .returned (.tuple #[]) ∧ Hid (D z)))) :
    Calls Tryz.prog 95 #[.pointer (some ⟨fb, 0, none⟩), .slice (some ⟨g, 0, none⟩) 1 1] w fun e z => (∃ n, e = gaveUp n ∧ Hid (A n z)) ∨ (e = .returned (.tuple #[]) ∧ Hid (D z)) := by
  have hna := rna_non
  have hmt := rmt_non
  go_enter Tryz.func95, Tryz.ntmps95
  go_wp2_with fail
  refine wp_loop_rounds 2 ?_
  rw [rounds_succ]
  go_wp2_with fail
  refine HC.out.mono ?_
  clear HC
  rintro _ z (⟨n, rfl, H⟩ | ⟨rfl, H⟩)
  · exact ⟨rfl, Or.inl ⟨n, rfl, H⟩⟩
  · go_wp2_with fail
    rw [rounds_succ]
    go_wp2_with fail
    go_end0
    exact Or.inr ⟨rfl, H⟩
end Go.Proofs.YtdjjologpodnkaaGreatDoor
