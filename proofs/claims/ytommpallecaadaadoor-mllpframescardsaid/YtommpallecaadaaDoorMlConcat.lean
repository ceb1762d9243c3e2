/-
  slices.Grow of nothing, slices.Concat of three lists; mllp.Frame.
-/
import Derived.Test.YtommpallecaadaaDoorMlFrame
namespace Go.Proofs.YtommpallecaadaaDoor
open Go.RowKit

theorem zero_u8 (z : Nat) : (Builtin.zeroCells (Value.int .u8 0).cells z).toList = u8s (List.replicate z 0) := by
  simp [Builtin.zeroCells, u8s, Value.cells]
  apply List.ext_getElem
  · simp
  · intro i h1 h2
    simp [Nat.mod_one]
/-- append of so many zeros, in the walk, by an equation of its run. -/
theorem wpList_append_run2 {P : Program} {w w' : World} {ops : Array Oper} {rest : List Oper} {o : Oper} {a : Act} {Q : Exit → Act → World → Prop} (hgd : o.guard = none) (s x : Operand) (t u : TypeId) (v' : Value)
    (ho : o.op = .call { callee := .builtin .append, args := #[s, x], argTypes := #[t, u] }) (hr : (Builtin.append_ #[t, u] o.type #[a.eval s, a.eval x]).run P w = .ok v' w') (h : wpList P ops Q rest (a.put o.dst v') w') : wpList P ops Q (o :: rest) a w :=
  wpList_plain hgd fun _ hK => by
    unfold Oper.wp execOp
    simp only [ho, resolve, invoke, builtin, Sem.run_bind, Sem.run_pure, Result.andThen_ok, List.map_toArray, List.map_cons, List.map_nil, hr]
    exact hK _ _ h
theorem run_append_zeros {w : World} (n : Nat) (h0 : 0 < n) (hn : n ≤ 1099511627776) (ty : TypeId) :
    ∃ cap w', (Builtin.append_ #[22, 3] ty #[.slice none 0 0, .int .i64 (n : Int)]).run Tryd.prog w = .ok (.slice (some ⟨w.heap.size, 0, none⟩) n cap) w' ∧ Row w' w.heap.size (.slice (some ⟨w.heap.size, 0, none⟩) n cap) (List.replicate n 0) ∧ Below w.heap.size w w' := by
  obtain ⟨i, hi, hz, hs, hby⟩ := u8info
  have hwr : IntKind.i64.wrap (n : Int) = n := wrap_small _ (by omega) (by omega)
  have hne : n ≠ 0 := by omega
  have h48 : ¬ (281474976710656 < Builtin.nextslicecap n 0 * i.bytes) := by rw [nextslicecap_zero h0, hby]; omega
  have h48b : ¬ (281474976710656 < (n : Int) * (i.bytes : Int)) := by rw [hby]; omega
  have hneg : ¬ ((n : Int) < 0) := by omega
  have h63 : ¬ (9223372036854775807 < (n : Int)) := by omega
  have hr : (Builtin.append_ #[22, 3] ty #[.slice none 0 0, .int .i64 (n : Int)]).run Tryd.prog w = .ok (.slice (some ⟨w.heap.size, 0, none⟩) n (grownCap w n 0 5)) (w.drew.alloc (.cells (Builtin.zeroCells (Value.int .u8 0).cells n ++ Builtin.zeroCells (Value.int .u8 0).cells (grownCap w n 0 5 - n)) 5)) := by
    simp [Builtin.append_, run_underlying Tryd.underlying22, run_underlying Tryd.underlying3, sizeOf, typeInfo, zeroValue, hi, hz, hs, hwr, hne, h48, h48b, hneg, h63, asInt, asIntOf, Question.forced, run_firstCells_none, newRow, grownCap]
  have hge := grownCap_ge w n 0 5
  have hcm : grownCap w n 0 5 ≤ maxLen := grownCap_le_maxLen w n 0 5 (by unfold maxLen; omega)
  refine ⟨_, _, hr, ?_, ?_⟩
  · refine ⟨by rw [u8s_length]; simp, Or.inr ⟨w.heap.size, _, _, by rw [List.length_replicate], Nat.le_refl _, heap_alloc_new w.drew _, by rw [List.length_replicate]; exact hge, hcm, ?_, ?_⟩⟩
    · rw [← Array.length_toList, Array.toList_append, List.length_append, zero_u8, zero_u8, u8s_length, u8s_length, List.length_replicate, List.length_replicate]; omega
    · rw [Array.toList_append, zero_u8, zero_u8, List.length_replicate, Nat.mul_one, List.take_left' (by rw [u8s_length]; simp)]
  · exact ((Below.refl w.heap.size w).drew).alloc (Nat.le_refl _) _
set_option maxRecDepth 100000 in
set_option maxHeartbeats 1000000 in
theorem Grow_any {w : World} (n : Nat) (h0 : 0 < n) (hn : n ≤ 1099511627776) : Calls Tryd.prog 41 #[.slice none 0 0, .int .i64 (n : Int)] w fun e w' => ∃ cap, e = .returned (.slice (some ⟨w.heap.size, 0, none⟩) 0 cap) ∧ Row w' w.heap.size (.slice (some ⟨w.heap.size, 0, none⟩) 0 cap) [] ∧ Below w.heap.size w w' := by
  obtain ⟨cap, w1, hr, row, hb⟩ := run_append_zeros (w := w) n h0 hn 22
  have hc : n ≤ cap := by
    rcases row.form with ⟨e, _⟩ | ⟨g, cap', e, _, _, h1, _⟩
    · cases e
    · simp only [Value.slice.injEq] at e; rw [List.length_replicate] at h1; omega
  have HR : Hid (Row w1 w.heap.size (.slice (some ⟨w.heap.size, 0, none⟩) 0 cap) [] ∧ Below w.heap.size w w1) := ⟨row.prefix (m := 0) (Nat.zero_le _), hb⟩
  clear row hb
  go_enter Tryd.func41, Tryd.ntmps41
  go_wp2_with (at_builtin; refine wpList_append_run2 rfl (.tmp 20) (.tmp 21) 22 3 _ rfl hr ?_)
  go_ret
  exact ⟨_, rfl, HR.out⟩
theorem Row.low {w : World} {B B' : Nat} {v : Value} {xs : List Int} (h : Row w B v xs) (hB : B' ≤ B) : Row w B' v xs := by
  refine ⟨h.1, ?_⟩
  rcases h.2 with q | ⟨g, cap, cur, e, hb, rest⟩
  · exact Or.inl q
  · exact Or.inr ⟨g, cap, cur, e, Nat.le_trans hB hb, rest⟩
theorem Row.isSlice0 {w : World} {B : Nat} {v : Value} {xs : List Int} (h : Row w B v xs) : ∃ a c, v = .slice a xs.length c ∧ True := by
  rcases h.form with ⟨rfl, rfl⟩ | ⟨g, cap, rfl, _⟩
  · exact ⟨_, _, rfl, trivial⟩
  · exact ⟨_, _, rfl, trivial⟩
/-- append of bytes, the answer a slice. -/
theorem run_append_sl {w : World} {B : Nat} {v : Value} {xs : List Int} {po : Option Addr} {m c : Nat} {bs : List Int} (h : Row w B v xs) (hb : Byts w po m bs) (hpo : po = none → c = 0) (hl : xs.length + m ≤ 140737488355328) (hB : B ≤ w.heap.size) (hv : ∀ g, v.ownBlock = some g → B ≤ g) :
    ∃ a n c' w', (Builtin.append_ #[22, 22] 22 #[v, .slice po m c]).run Tryd.prog w = .ok (.slice a n c') w' ∧ Row w' B (.slice a n c') (xs ++ bs) ∧ Below B w w' := by
  obtain ⟨v', w', hr, r, g, o⟩ := run_append_bytes h hb hpo hl hB 22
  obtain ⟨a, c', rfl, _⟩ := r.isSlice0
  exact ⟨a, _, c', w', hr, r, (Off.of_grown g).below hB (fun k e => hv k e)⟩
set_option maxRecDepth 100000 in
set_option maxHeartbeats 2000000 in
theorem Concat3 {w : World} {g : Nat} {a0 a1 a2 : Option Addr} {n0 n1 n2 c0 c1 c2 : Nat} {x0 x1 x2 : List Int} (h0 : w.cell? ⟨g, 0, none⟩ = some (.slice a0 n0 c0)) (h1 : w.cell? ⟨g, 1, none⟩ = some (.slice a1 n1 c1)) (h2 : w.cell? ⟨g, 2, none⟩ = some (.slice a2 n2 c2)) (hg : g < w.heap.size)
    (b0 : Byts w a0 n0 x0) (b1 : Byts w a1 n1 x1) (b2 : Byts w a2 n2 x2) (z0 : a0 = none → c0 = 0) (z1 : a1 = none → c1 = 0) (z2 : a2 = none → c2 = 0) (hp : 0 < n0) (m0 : n0 ≤ 9000) (m1 : n1 ≤ 9000) (m2 : n2 ≤ 9000) :
    Calls Tryd.prog 26 #[.slice (some ⟨g, 0, none⟩) 3 3] w fun e w' => ∃ a n c, e = .returned (.slice a n c) ∧ Row w' w.heap.size (.slice a n c) (x0 ++ x1 ++ x2) ∧ Below w.heap.size w w' := by
  have HC := Grow_any (w := w) (n0 + n1 + n2) (by omega) (by omega)
  have HG : Hid (Calls Tryd.prog 41 #[.slice none 0 0, .int .i64 ((n0 + n1 + n2 : Nat) : Int)] w fun e w' => ∃ cap, e = .returned (.slice (some ⟨w.heap.size, 0, none⟩) 0 cap) ∧ Row w' w.heap.size (.slice (some ⟨w.heap.size, 0, none⟩) 0 cap) [] ∧ Below w.heap.size w w') := HC
  have HB : Hid (Byts w a0 n0 x0 ∧ Byts w a1 n1 x1 ∧ Byts w a2 n2 x2 ∧ (a0 = none → c0 = 0) ∧ (a1 = none → c1 = 0) ∧ (a2 = none → c2 = 0)) := ⟨b0, b1, b2, z0, z1, z2⟩
  clear HC b0 b1 b2 z0 z1 z2
  have e1 : ((n0 + n1 + n2 : Nat) : Int) = (n0 : Int) + n1 + n2 := by omega
  rw [e1] at HG
  go_enter Tryd.func26, Tryd.ntmps26
  go_wp2_with fail
  refine wp_loop_rounds 4 ?_
  rw [rounds_succ]
  go_wp2_with fail
  rw [rounds_succ]
  go_wp2_with fail
  rw [rounds_succ]
  go_wp2_with fail
  rw [rounds_succ]
  go_wp2_with fail
  refine HG.out.mono ?_
  rintro ev w1 ⟨cap, rfl, r1, o1⟩
  obtain ⟨b0, b1, b2, z0, z1, z2⟩ := HB.out
  have s1 := o1.size
  obtain ⟨ad, nd, cd, w2, e2, r2, o2⟩ := run_append_sl r1 (b0.below o1) z0 (by simp; omega) s1 (fun k e => (r1.lt e).1)
  have q2 : Below w.heap.size w w2 := o1.trans o2
  obtain ⟨ae, ne, ce, w3, e3, r3, o3⟩ := run_append_sl r2 (b1.below q2) z1 (by have := b0.len; simp; omega) q2.size (fun k e => (r2.lt e).1)
  have q3 : Below w.heap.size w w3 := q2.trans o3
  obtain ⟨af, nf, cf, w4, e4, r4, o4⟩ := run_append_sl r3 (b2.below q3) z2 (by have := b0.len; have := b1.len; simp; omega) q3.size (fun k e => (r3.lt e).1)
  have HF : Hid (Row w4 w.heap.size (.slice af nf cf) (x0 ++ x1 ++ x2) ∧ Below w.heap.size w w4) := ⟨by simpa using r4, q3.trans o4⟩
  have k0 : w1.cell? ⟨g, 0, none⟩ = some (.slice a0 n0 c0) := by rw [o1.cell (p := ⟨g, 0, none⟩) hg]; exact h0
  have k1 : w2.cell? ⟨g, 1, none⟩ = some (.slice a1 n1 c1) := by rw [q2.cell (p := ⟨g, 1, none⟩) hg]; exact h1
  have k2 : w3.cell? ⟨g, 2, none⟩ = some (.slice a2 n2 c2) := by rw [q3.cell (p := ⟨g, 2, none⟩) hg]; exact h2
  clear HB b0 b1 b2 z0 z1 z2 r1 r2 r3 r4 o1 o2 o3 o4 q2 q3 s1 HG
  go_wp2_with fail
  refine wp_loop_rounds 4 ?_
  rw [rounds_succ]
  go_wp2_with (at_builtin; refine wpList_append_run rfl (.tmp 31) (.tmp 32) 22 _ rfl e2 ?_)
  rw [rounds_succ]
  go_wp2_with (at_builtin; refine wpList_append_run rfl (.tmp 31) (.tmp 32) 22 _ rfl e3 ?_)
  rw [rounds_succ]
  go_wp2_with (at_builtin; refine wpList_append_run rfl (.tmp 31) (.tmp 32) 22 _ rfl e4 ?_)
  rw [rounds_succ]
  go_wp2_with fail
  go_ret
  exact ⟨_, _, _, rfl, HF.out⟩
end Go.Proofs.YtommpallecaadaaDoor
