/-
  inOrder.
-/
import Derived.Test.YtdglnobapnohmaaDoorWhLeaf
import Derived.Shelf.SlSortCmp.WholeK
namespace Go.Proofs.YtdglnobapnohmaaDoor
open Go.RowKit

theorem grow3 (w : World) (a b c : Obj) : ∃ q os, (((w.alloc a).alloc b).alloc c).drew = Sort.grow (w.drewN q) os := ⟨1, #[a] ++ #[b] ++ #[c], by
  rw [Sort.alloc_eq_grow, Sort.alloc_eq_grow, Sort.alloc_eq_grow, Sort.grow_grow, Sort.grow_grow]
  rfl⟩
set_option maxHeartbeats 1000000 in
theorem inOrder_any (w : World) (x y : Tm) : Calls Tryd.prog 35 #[.agg #[.int .i64 x.1, .int .i64 (x.2 : Int)], .agg #[.int .i64 y.1, .int .i64 (y.2 : Int)]] w fun e w' => e = .returned (.int .i64 (cfT x y)) ∧ ∃ q os, w' = Sort.grow (w.drewN q) os := by
  obtain ⟨k1, t1⟩ := x
  obtain ⟨k2, t2⟩ := y
  have hcf : cfT (k1, t1) (k2, t2) = if cmpI (t1 : Int) t2 = 0 then cmpI k1 k2 else cmpI (t1 : Int) t2 := by
    unfold cfT cmpI
    split
    · simp
    · split <;> simp
  simp only
  rw [hcf]
  generalize hA : cmpI (t1 : Int) t2 = A
  generalize hB : cmpI k1 k2 = B
  have cA : ∀ z, Calls Tryd.prog 55 #[.int .i64 (t1 : Int), .int .i64 (t2 : Int)] z fun e w' => e = .returned (.int .i64 A) ∧ w' = z := fun z => hA ▸ compare_any z _ _
  have cB : ∀ z, Calls Tryd.prog 55 #[.int .i64 k1, .int .i64 k2] z fun e w' => e = .returned (.int .i64 B) ∧ w' = z := fun z => hB ▸ compare_any z _ _
  have hc : ∀ (a b c : Obj) (o : Nat), (((w.alloc a).alloc b).alloc c).cell? ⟨w.heap.size, o, none⟩ = (w.alloc a).cell? ⟨w.heap.size, o, none⟩ := fun a b c o => by
    rw [World.cell?_alloc_lt _ _ ⟨w.heap.size, o, none⟩ (by simp; omega), World.cell?_alloc_lt _ _ ⟨w.heap.size, o, none⟩ (by simp)]
  have hn : ∀ (a b : Obj) (cs : Array Value) (t : TypeId) (o : Nat), (((w.alloc a).alloc b).alloc (.cells cs t)).cell? ⟨w.heap.size + 1 + 1, o, none⟩ = cs[o]? := fun a b cs t o => by
    have := cell_new ((w.alloc a).alloc b) cs t o
    rwa [World.size_alloc, World.size_alloc] at this
  generalize hC : (if A = 0 then B else A) = C
  have cO : ∀ z b, z.cell? ⟨b, 0, none⟩ = some (.int .i64 A) → z.cell? ⟨b, 1, none⟩ = some (.int .i64 B) → Calls Tryd.prog 54 #[.slice (some ⟨b, 0, none⟩) 2 2] z fun e w' => e = .returned (.int .i64 C) ∧ w' = z := fun z b h0 h1 => hC ▸ or_any z A B b h0 h1
  clear hcf hA hB hC
  go_enter Tryd.func35, Tryd.ntmps35
  go_wp2_with fail
  go_region_held3 (fun z => z.cell? ⟨w.heap.size, 0, none⟩ = some (.int .i64 k1) ∧ z.cell? ⟨w.heap.size, 1, none⟩ = some (.int .i64 (t1 : Int)) ∧ z.cell? ⟨w.heap.size + 1, 0, none⟩ = some (.int .i64 k2) ∧ z.cell? ⟨w.heap.size + 1, 1, none⟩ = some (.int .i64 (t2 : Int))) (first | (simp [*]; done) | (simp [World.cell?_alloc_lt, *]; done)) (first | (go_at_call 55; (first | (with_reducible refine (cA _).mono ?_) | (with_reducible refine (cB _).mono ?_)); rintro _ _ ⟨rfl, rfl⟩) | (go_at_call 54; refine (cO _ _ (by simp [hn]) (by simp [hn])).mono ?_; rintro _ _ ⟨rfl, rfl⟩))
  go_wp2_with fail
  go_ret
  exact ⟨rfl, grow3 w _ _ _⟩
end Go.Proofs.YtdglnobapnohmaaDoor
