/-
  The document's link: copied, way, put.
-/
import Derived.Test.YtpcickhellkiaaaDoorLkBase
import Derived.Test.YtpcickhellkiaaaDoorLkSpec
namespace Go.Proofs.YtpcickhellkiaaaDoor
open Go.RowKit

set_option maxHeartbeats 1000000 in
theorem rcopied_any {po : Option Addr} {m c : Nat} {bs : List Int} (w : World) (hb : Byts w po m bs) (hm : m ≤ 140737488355328) :
    Calls Tryd.prog 73 #[.slice po m c] w fun e w' => ∃ a k, e = .returned (.slice a m k) ∧ Hid (BRow w' w.heap.size (.slice a m k) bs ∧ Below w.heap.size w w') := by
  obtain ⟨a', c', w', hr, r1, o1⟩ := run_bapp (v := .slice none 0 0) (c := c) (B := w.heap.size) (ERow.nil _ _ _ _ _) hb hm (Nat.le_refl _)
  have HE : Hid (BRow w' w.heap.size (.slice a' m c') bs ∧ Below w.heap.size w w') := ⟨r1, o1.below (Nat.le_refl _) (fun k e => by simp [Value.ownBlock] at e)⟩
  clear hb r1 o1
  go_enter Tryd.func73, Tryd.ntmps73
  go_wp2_with (at_builtin; refine wpList_append_run rfl (.tmp 4) (.tmp 5) 27 _ rfl hr ?_)
  go_ret
  exact ⟨a', c', rfl, HE.out⟩
set_option maxHeartbeats 1000000 in
theorem rway_ok {w : World} {rb : Nat} {x y : Wy} (h : RLk w rb x y) {s : Nat} (hs : s < 2) : Calls Tryd.prog 70 #[.pointer (some ⟨rb, 0, none⟩), .int .i64 (s : Int)] w fun e w' => e = .returned (.tuple #[.pointer (some ⟨rb, 1 + 2 * s, none⟩), .int .i64 0]) ∧ w' = w := by
  have c := hcell h.blk
  clear h
  rcases (by omega : s = 0 ∨ s = 1) with rfl | rfl
  · go_enter Tryd.func70, Tryd.ntmps70
    go_wp2_with fail
    refine bodyPost_ret (v := .tuple #[.pointer (some ⟨rb, 1 + 2 * 0, none⟩), .int .i64 0]) ?_ rfl ⟨rfl, rfl⟩
    simp [results, Tryd.results70, go_sem]
  · go_enter Tryd.func70, Tryd.ntmps70
    go_wp2_with fail
    refine bodyPost_ret (v := .tuple #[.pointer (some ⟨rb, 1 + 2 * 1, none⟩), .int .i64 0]) ?_ rfl ⟨rfl, rfl⟩
    simp [results, Tryd.results70, go_sem]
set_option maxHeartbeats 1000000 in
theorem rway_no {w : World} {rb : Nat} {x y : Wy} (h : RLk w rb x y) {s : Int} (hs : ¬ (s = 0 ∨ s = 1)) : Calls Tryd.prog 70 #[.pointer (some ⟨rb, 0, none⟩), .int .i64 s] w fun e w' => e = .returned (.tuple #[.pointer none, .int .i64 1]) ∧ w' = w := by
  have c := hcell h.blk
  have e1 : (s != 0) = true := by simp; omega
  have e2 : (s != 1) = true := by simp; omega
  clear h hs
  go_enter Tryd.func70, Tryd.ntmps70
  go_wp2_with fail
  refine bodyPost_ret (v := .tuple #[.pointer none, .int .i64 1]) ?_ rfl ⟨rfl, rfl⟩
  simp [results, Tryd.results70, go_sem]
/-- Each piece is one of before, or it lies in new memory. -/
def NewP (w : World) (z z' : Wy) : Prop := ∀ p ∈ z'.ps, p ∈ z.ps ∨ ∀ g, (Value.slice p.a p.n p.c).ownBlock = some g → w.heap.size ≤ g
/-- What a call leaves of a side: its two cells, its list. -/
def WQ (w : World) (rb o : Nat) (cs : Array Value) (z z' : Wy) (w' : World) : Prop :=
  w'.heap[rb]? = some (.cells ((cs.set! o (.slice z'.a z'.n z'.c)).set! (o + 1) (.int .i64 z'.h)) 59 (0, 0)) ∧ WyOk w' (rb + 1) z' ∧ Off (fun q => q = rb ∨ wyOwn z = some q) w w' ∧ (∀ g, wyOwn z' = some g → wyOwn z = some g ∨ w.heap.size ≤ g) ∧ NewP w z z'
/-- A side, where it lies. -/
structure WAt (w : World) (rb o : Nat) (cs : Array Value) (z : Wy) : Prop where
  blk : w.heap[rb]? = some (.cells cs 59 (0, 0))
  c0 : cs[o]? = some (.slice z.a z.n z.c)
  c1 : cs[o + 1]? = some (.int .i64 z.h)
  ok : WyOk w (rb + 1) z
theorem WAt.below {w w' : World} {rb o : Nat} {cs : Array Value} {z : Wy} (h : WAt w rb o cs z) (hb : Below w.heap.size w w') : WAt w' rb o cs z := ⟨(hb.block rb (blk_lt h.blk)).trans h.blk, h.c0, h.c1, h.ok.below hb⟩
theorem set_same {cs : Array Value} {o : Nat} {v : Value} (h : cs[o]? = some v) : cs.set! o v = cs := by
  apply Array.ext_getElem?
  intro i
  rw [Array.set!_eq_setIfInBounds]
  by_cases e : o = i
  · subst e
    have hi := (Array.getElem?_eq_some_iff.1 h).1
    rw [Array.getElem?_setIfInBounds_self, if_pos hi, h]
  · rw [Array.getElem?_setIfInBounds_ne e]
set_option maxRecDepth 100000 in
set_option maxHeartbeats 2000000 in
theorem rput_full {w : World} {rb o : Nat} {cs : Array Value} {z : Wy} (h : WAt w rb o cs z) {po : Option Addr} {m c : Nat} (hf : 256 ≤ z.ps.length) : Calls Tryd.prog 71 #[.pointer (some ⟨rb, o, none⟩), .slice po m c] w fun e w' => e = .returned (.int .i64 7) ∧ w' = w := by
  have hn := h.ok.row.len
  have d0 : w.cell? ⟨rb, o, none⟩ = some (.slice z.a z.n z.c) := (hcell h.blk o).trans h.c0
  have e1 : (z.n : Int) ≥ 256 := by omega
  obtain ⟨za, zn, zc, zp, zh⟩ := z
  simp only at d0 e1
  clear h hn hf
  go_enter Tryd.func71, Tryd.ntmps71
  go_wp2_with fail
  go_ret
  exact ⟨rfl, rfl⟩
/-- The piece joins the list. -/
theorem put_step {w w1 : World} {rb o : Nat} {cs : Array Value} {z : Wy} (h : WAt w rb o cs z) {a1 : Option Addr} {m k1 : Nat} {bs : List Int} (hB : BRow w1 w.heap.size (.slice a1 m k1) bs) (hb : Below w.heap.size w w1) (hm : m ≤ 8195) (hf : z.ps.length < 256) :
    ∃ a2 c2 W2, (Builtin.append_ #[22, 22] 22 #[.slice z.a z.n z.c, .slice (some ⟨w1.heap.size, 0, none⟩) 1 1]).run Tryd.prog (w1.alloc (.cells #[.slice a1 m k1] 27)) = .ok (.slice a2 (z.n + 1) c2) W2 ∧ w1.cell? ⟨rb, o, none⟩ = some (.slice z.a z.n z.c) ∧ (w1.alloc (.cells #[.slice a1 m k1] 27)).cell? ⟨rb, o, none⟩ = some (.slice z.a z.n z.c) ∧ W2.cell? ⟨rb, o, none⟩ = some (.slice z.a z.n z.c) ∧ W2.frozen? ⟨rb, o, none⟩ = false ∧
      Hid (∃ z', WQ w rb o cs z z' (W2.setCell ⟨rb, o, none⟩ (.slice a2 (z.n + 1) c2)) ∧ z'.ps.map (·.bs) = z.ps.map (·.bs) ++ [bs] ∧ z'.h = z.h) := by
  have h1 := h.below hb
  have hn : z.n = z.ps.length := h.ok.row.len
  have hrl := blk_lt h.blk
  have hs := hb.size
  obtain ⟨a2, c2, W2, hap, r2, o2, l2⟩ := run_epush (P := Tryd.prog) (t := 22) Tryd.underlying22 celPc encPc_len encPc_one h1.ok.row ⟨a1, m, k1, bs⟩ #[.slice a1 m k1] rfl (by omega) (by omega) (by omega)
  rw [← hn] at hap r2 l2
  have hnr : ¬ (Value.slice z.a z.n z.c).ownBlock = some rb := fun e => by have := (h1.ok.row.lt e).1; omega
  have bW : W2.heap[rb]? = some (.cells cs 59 (0, 0)) := (o2.block rb (by omega) hnr).trans h1.blk
  have hso : o < cs.size := (Array.getElem?_eq_some_iff.1 h.c0).1
  have e1 : (cs.set! o (.slice a2 (z.n + 1) c2)).set! (o + 1) (.int .i64 z.h) = cs.set! o (.slice a2 (z.n + 1) c2) := set_same (by rw [Array.set!_eq_setIfInBounds, Array.getElem?_setIfInBounds_ne (by omega)]; exact h.c1)
  have hby : ∀ q cs', w1.heap[q]? = some (.cells cs' 5 (0, 0)) → ¬ (Value.slice z.a z.n z.c).ownBlock = some q := fun q cs' hq e => by
    obtain ⟨cs2, e2⟩ := row_pc h1.ok.row e
    rw [hq] at e2
    simp at e2
  have o3 : Off (fun q => q = rb) W2 (W2.setCell ⟨rb, o, none⟩ (.slice a2 (z.n + 1) c2)) := Off.setCell (P := fun q => q = rb) (Off.refl _ _) (p := ⟨rb, o, none⟩) rfl _
  have hb3 : ∀ q cs', W2.heap[q]? = some (.cells cs' 5 (0, 0)) → ¬ q = rb := fun q cs' hq e => by
    rw [e, bW] at hq
    simp at hq
  refine ⟨a2, c2, W2, hap, (hcell h1.blk o).trans h.c0, (World.cell?_alloc_lt _ _ ⟨rb, o, none⟩ (by show rb < _; omega)).trans ((hcell h1.blk o).trans h.c0), (hcell bW o).trans h.c0, hfroz bW o, ⟨a2, z.n + 1, c2, z.ps ++ [⟨a1, m, k1, bs⟩], z.h⟩, ⟨?_, ⟨?_, fun p hp => ?_, by simp; omega⟩, ?_, fun g hg => ?_, fun p hp => ?_⟩, by simp, rfl⟩
  · rw [e1]
    exact set_heap bW o _
  · exact ERow.off r2 o3 fun g hg e => by have := (ERow.lt r2 hg).1; omega
  · have key : PcOk w1 (rb + 1) p := by
      rcases List.mem_append.1 hp with g | g
      · exact h1.ok.pcs p g
      · rw [List.mem_singleton] at g; subst g; exact ⟨ERow.base hB (by omega), hm⟩
    exact (key.off o2 hby).off o3 hb3
  · exact (Off.of_below hb).trans ((o2.mono fun q e => Or.inr e).trans (o3.mono fun q e => Or.inl e))
  · rcases l2 with e | e
    · exact Or.inl (e.symm.trans hg)
    · have : (some g : Option Nat) = some (w1.heap.size + 1) := hg.symm.trans e
      injection this with this
      exact Or.inr (by omega)
  · rcases List.mem_append.1 hp with g | g
    · exact Or.inl g
    · rw [List.mem_singleton] at g; subst g; exact Or.inr fun g hg => (ERow.lt hB hg).1
set_option maxRecDepth 100000 in
set_option maxHeartbeats 2000000 in
theorem rput_ok {w : World} {rb o : Nat} {cs : Array Value} {z : Wy} (h : WAt w rb o cs z) {po : Option Addr} {m c : Nat} {bs : List Int} (hb : Byts w po m bs) (hm : m ≤ 8195) (hf : z.ps.length < 256) : Calls Tryd.prog 71 #[.pointer (some ⟨rb, o, none⟩), .slice po m c] w fun e w' => e = .returned (.int .i64 0) ∧ Hid (∃ z', WQ w rb o cs z z' w' ∧ z'.ps.map (·.bs) = z.ps.map (·.bs) ++ [bs] ∧ z'.h = z.h) := by
  have hn := h.ok.row.len
  have d0 : w.cell? ⟨rb, o, none⟩ = some (.slice z.a z.n z.c) := (hcell h.blk o).trans h.c0
  have e1 : ¬ (z.n : Int) ≥ 256 := by omega
  have HC : Hid (∀ v, Below w.heap.size w v → Calls Tryd.prog 73 #[.slice po m c] v fun e w' => ∃ a1 k1 a2 c2 W2, e = .returned (.slice a1 m k1) ∧ (Builtin.append_ #[22, 22] 22 #[.slice z.a z.n z.c, .slice (some ⟨w'.heap.size, 0, none⟩) 1 1]).run Tryd.prog (w'.alloc (.cells #[.slice a1 m k1] 27)) = .ok (.slice a2 (z.n + 1) c2) W2 ∧ w'.cell? ⟨rb, o, none⟩ = some (.slice z.a z.n z.c) ∧ (w'.alloc (.cells #[.slice a1 m k1] 27)).cell? ⟨rb, o, none⟩ = some (.slice z.a z.n z.c) ∧ W2.cell? ⟨rb, o, none⟩ = some (.slice z.a z.n z.c) ∧ W2.frozen? ⟨rb, o, none⟩ = false ∧ Hid (∃ z', WQ w rb o cs z z' (W2.setCell ⟨rb, o, none⟩ (.slice a2 (z.n + 1) c2)) ∧ z'.ps.map (·.bs) = z.ps.map (·.bs) ++ [bs] ∧ z'.h = z.h)) :=
    fun v hv => (rcopied_any (c := c) v (hb.below hv) (by omega)).mono fun e w' ⟨a1, k1, he, hh⟩ => by
      obtain ⟨a2, c2, W2, q1, q2, q2', q3, q4, q5⟩ := put_step h (ERow.base hh.out.1 hv.size) (below_then hv hh.out.2) hm hf
      exact ⟨a1, k1, a2, c2, W2, he, q1, q2, q2', q3, q4, q5⟩
  clear h hn hf hb hm
  go_enter Tryd.func71, Tryd.ntmps71
  go_wp2_with fail
  go_region_law (first | (go_simp; go_at_call 73; refine (HC.out _ (Below.drew (Below.refl _ _))).mono ?_; rintro _ w1 ⟨a1, k1, a2, c2, W2, rfl, hap, f1, f1', f2, f3, HF⟩; go_wp2_with fail) | (refine step_app_run rfl (.tmp 15) (.tmp 18) 22 rfl rfl rfl hap ?_))
  all_goals (
    go_wp2_with fail
    go_ret
    exact ⟨rfl, HF.out⟩)
end Go.Proofs.YtpcickhellkiaaaDoor
