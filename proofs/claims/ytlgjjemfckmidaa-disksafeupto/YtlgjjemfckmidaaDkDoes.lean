/-
  The law's does: one call that may write.
-/
import Derived.Test.YtlgjjemfckmidaaDkBeyond
import Derived.Test.YtlgjjemfckmidaaTornBase
import Derived.Deep.RegionLaw
namespace Go.Proofs.Ytlgjjemfckmidaa
open Go.RowKit

theorem row_empty_at {w0 w : World} {n : Nat} (hn : w0.heap.size ≤ n) (hg : w.heap[n]? = some (.cells #[] 5)) : Row w w0.heap.size (.slice (some ⟨n, 0, none⟩) 0 0) [] :=
  ⟨rfl, Or.inr ⟨n, 0, #[], rfl, hn, hg, Nat.le_refl _, Nat.zero_le _, rfl, rfl⟩⟩
/-- A copy by append, as a step of a region that draws. -/
theorem step_copy {w0 w : World} {ops : Array Oper} {o : Oper} {a : Act} {K : Act → World → Prop} {Q : Exit → Act → World → Prop} {E : Prop} {n : Nat} {po : Option Addr} {m c : Nat} {bs : List Int} (hgd : o.guard = none) (s x : Operand)
    (ho : o.op = .call { callee := .builtin .append, args := #[s, x], argTypes := #[25, 25] }) (hs : a.eval s = .slice (some ⟨n, 0, none⟩) 0 0) (hx : a.eval x = .slice po m c)
    (hb : Byts w0 po m bs) (hpo : po = none → c = 0) (hl : m ≤ 140737488355328) (ha : Off (fun _ => False) w0 w) (hn : w0.heap.size ≤ n) (hg : w.heap[n]? = some (.cells #[] 5))
    (h : ∀ a' n' c' w', Row w' w0.heap.size (.slice a' n' c') bs → Below w0.heap.size w0 w' → K (a.put o.dst (.slice a' n' c')) w') :
    if Region.wanted o (yielded ops a.tmps) = true then Oper.wp Try.prog o a w K Q else E := by
  have hw : Region.wanted o (yielded ops a.tmps) = true := by simp [Region.wanted, hgd]
  obtain ⟨v', w', hr, r1, g1, b1⟩ := run_append_bytes (row_empty_at hn hg) (hb.off ha (fun _ _ _ => id)) hpo (by simp; omega) ha.size o.type
  obtain ⟨a', c', rfl, _⟩ := r1.slice
  rw [if_pos hw]
  unfold Oper.wp execOp
  simp only [ho, resolve, invoke, builtin, Sem.run_bind, Sem.run_pure, Result.andThen_ok, List.map_toArray, List.map_cons, List.map_nil, hs, hx, hr]
  exact h _ _ _ _ (by simpa using r1) ((ha.below_of (fun _ _ => id)).trans ((Off.of_grown g1).below ha.size (fun k e => by simp [Value.ownBlock] at e; omega)))

set_option maxRecDepth 100000 in
set_option maxHeartbeats 4000000 in
theorem does_append_ok {w : World} {K : Nat} {x : Opv} {Q : World → Prop} (hk : x.kd = 1) (hb : Byts w x.po x.pl x.bs) (hpo : x.po = none → x.pc = 0) (hl : x.pl ≤ 140737488355328)
    (hA : ∀ a n c w1, Row w1 (w.heap.size + 1) (.slice a n c) x.bs → Below w.heap.size w w1 → Calls Try.prog 21 #[.pointer (some ⟨K, 0, none⟩), .int .i64 x.ar, .slice a n c] w1 fun e w' => e = .returned .nilIface ∧ Q w') :
    Calls Try.prog 11 #[.pointer (some ⟨K, 0, none⟩), .agg #[.int .i64 x.kd, .int .i64 x.ar, .int .i64 x.at_, .int .i64 x.n, .slice x.po x.pl x.pc, .int .i64 x.t0, .int .i64 x.t1, .int .i64 x.t2, .int .i64 x.t3]] w
      fun e w' => e = .returned (.bool true) ∧ ∃ w2 m, Q w2 ∧ w' = w2.drewN m := by
  have HB : Hid (Byts (w.alloc (.cells #[.int .i64 1, .int .i64 x.ar, .int .i64 x.at_, .int .i64 x.n, .slice x.po x.pl x.pc, .int .i64 x.t0, .int .i64 x.t1, .int .i64 x.t2, .int .i64 x.t3] 34)) x.po x.pl x.bs) := hb.below ((Below.refl _ _).alloc (Nat.le_refl _) _)
  have HP : Hid (x.po = none → x.pc = 0) := hpo
  have HA : Hid (∀ a n c w1, Row w1 (w.heap.size + 1) (.slice a n c) x.bs → Below w.heap.size w w1 → Calls Try.prog 21 #[.pointer (some ⟨K, 0, none⟩), .int .i64 x.ar, .slice a n c] w1 fun e w' => e = .returned .nilIface ∧ Q w') := hA
  have hg0 : Hid (((w.alloc (.cells #[.int .i64 1, .int .i64 x.ar, .int .i64 x.at_, .int .i64 x.n, .slice x.po x.pl x.pc, .int .i64 x.t0, .int .i64 x.t1, .int .i64 x.t2, .int .i64 x.t3] 34)).alloc (.cells #[] 5)).heap[w.heap.size + 1]? = some (.cells #[] 5)) := by
    show ((w.alloc (.cells #[.int .i64 1, .int .i64 x.ar, .int .i64 x.at_, .int .i64 x.n, .slice x.po x.pl x.pc, .int .i64 x.t0, .int .i64 x.t1, .int .i64 x.t2, .int .i64 x.t3] 34)).heap.push _)[w.heap.size + 1]? = _
    have e : (w.alloc (.cells #[.int .i64 1, .int .i64 x.ar, .int .i64 x.at_, .int .i64 x.n, .slice x.po x.pl x.pc, .int .i64 x.t0, .int .i64 x.t1, .int .i64 x.t2, .int .i64 x.t3] 34)).heap.size = w.heap.size + 1 := by simp
    rw [← e, Array.getElem?_push_size]
  have HSZ : Hid ((w.alloc (.cells #[.int .i64 1, .int .i64 x.ar, .int .i64 x.at_, .int .i64 x.n, .slice x.po x.pl x.pc, .int .i64 x.t0, .int .i64 x.t1, .int .i64 x.t2, .int .i64 x.t3] 34)).heap.size = w.heap.size + 1) := by unfold Hid; simp
  have HW0 : Hid (Below w.heap.size w (w.alloc (.cells #[.int .i64 1, .int .i64 x.ar, .int .i64 x.at_, .int .i64 x.n, .slice x.po x.pl x.pc, .int .i64 x.t0, .int .i64 x.t1, .int .i64 x.t2, .int .i64 x.t3] 34))) := (Below.refl _ _).alloc (Nat.le_refl _) _
  have HQ1 : Hid (∀ w1, Below (w.alloc (.cells #[.int .i64 1, .int .i64 x.ar, .int .i64 x.at_, .int .i64 x.n, .slice x.po x.pl x.pc, .int .i64 x.t0, .int .i64 x.t1, .int .i64 x.t2, .int .i64 x.t3] 34)).heap.size (w.alloc (.cells #[.int .i64 1, .int .i64 x.ar, .int .i64 x.at_, .int .i64 x.n, .slice x.po x.pl x.pc, .int .i64 x.t0, .int .i64 x.t1, .int .i64 x.t2, .int .i64 x.t3] 34)) w1 → w1.cell? ⟨w.heap.size, 1, none⟩ = some (.int .i64 x.ar)) := fun w1 h => by rw [h.cell (p := ⟨w.heap.size, 1, none⟩) (by show w.heap.size < _; rw [HSZ.out]; omega)]; simp
  clear hb hpo hA
  go_enter Try.func11, Try.ntmps11
  go_wp2_with fail
  go_region_law (first
    | (refine step_copy (w0 := (w.alloc (.cells #[.int .i64 1, .int .i64 x.ar, .int .i64 x.at_, .int .i64 x.n, .slice x.po x.pl x.pc, .int .i64 x.t0, .int .i64 x.t1, .int .i64 x.t2, .int .i64 x.t3] 34))) rfl (.tmp 12) (.tmp 14) rfl rfl rfl HB.out HP.out hl (by first | exact (Off.refl _ _).alloc _ | exact ((Off.refl _ _).alloc _).drew | exact ((Off.refl _ _).drew).alloc _) (by rw [HSZ.out]; exact Nat.le_refl _) (by exact hg0.out) ?_; intro a' n' c' w1 hR hBB; have q1 := HQ1.out w1 hBB; rw [HSZ.out] at hR)
    | (go_simp; go_at_call 21; refine (HA.out _ _ _ _ (by first | exact hR | exact hR.keep (fun _ _ => rfl)) (by first | exact HW0.out.trans (hBB.mono HW0.out.size) | exact (HW0.out.trans (hBB.mono HW0.out.size)).drew)).mono ?_; rintro e w2 ⟨rfl, hQ⟩))
  all_goals
    go_wp2_with fail
    go_ret
    first
      | exact ⟨rfl, _, 0, by assumption, rfl⟩
      | exact ⟨rfl, _, 1, by assumption, rfl⟩
      | exact ⟨rfl, _, 2, by assumption, rfl⟩
set_option maxRecDepth 100000 in
set_option maxHeartbeats 4000000 in
theorem does_append_no {w : World} {K : Nat} {x : Opv} {Q : World → Prop} (hk : x.kd = 1) (hb : Byts w x.po x.pl x.bs) (hpo : x.po = none → x.pc = 0) (hl : x.pl ≤ 140737488355328)
    (hA : ∀ a n c w1, Row w1 (w.heap.size + 1) (.slice a n c) x.bs → Below w.heap.size w w1 → Calls Try.prog 21 #[.pointer (some ⟨K, 0, none⟩), .int .i64 x.ar, .slice a n c] w1 fun e w' => (∃ b, e = .returned (.iface 113 (.pointer (some ⟨b, 0, none⟩)))) ∧ Q w') :
    Calls Try.prog 11 #[.pointer (some ⟨K, 0, none⟩), .agg #[.int .i64 x.kd, .int .i64 x.ar, .int .i64 x.at_, .int .i64 x.n, .slice x.po x.pl x.pc, .int .i64 x.t0, .int .i64 x.t1, .int .i64 x.t2, .int .i64 x.t3]] w
      fun e w' => e = .returned (.bool false) ∧ ∃ w2 m, Q w2 ∧ w' = w2.drewN m := by
  have HB : Hid (Byts (w.alloc (.cells #[.int .i64 1, .int .i64 x.ar, .int .i64 x.at_, .int .i64 x.n, .slice x.po x.pl x.pc, .int .i64 x.t0, .int .i64 x.t1, .int .i64 x.t2, .int .i64 x.t3] 34)) x.po x.pl x.bs) := hb.below ((Below.refl _ _).alloc (Nat.le_refl _) _)
  have HP : Hid (x.po = none → x.pc = 0) := hpo
  have HA : Hid (∀ a n c w1, Row w1 (w.heap.size + 1) (.slice a n c) x.bs → Below w.heap.size w w1 → Calls Try.prog 21 #[.pointer (some ⟨K, 0, none⟩), .int .i64 x.ar, .slice a n c] w1 fun e w' => (∃ b, e = .returned (.iface 113 (.pointer (some ⟨b, 0, none⟩)))) ∧ Q w') := hA
  have hg0 : Hid (((w.alloc (.cells #[.int .i64 1, .int .i64 x.ar, .int .i64 x.at_, .int .i64 x.n, .slice x.po x.pl x.pc, .int .i64 x.t0, .int .i64 x.t1, .int .i64 x.t2, .int .i64 x.t3] 34)).alloc (.cells #[] 5)).heap[w.heap.size + 1]? = some (.cells #[] 5)) := by
    show ((w.alloc (.cells #[.int .i64 1, .int .i64 x.ar, .int .i64 x.at_, .int .i64 x.n, .slice x.po x.pl x.pc, .int .i64 x.t0, .int .i64 x.t1, .int .i64 x.t2, .int .i64 x.t3] 34)).heap.push _)[w.heap.size + 1]? = _
    have e : (w.alloc (.cells #[.int .i64 1, .int .i64 x.ar, .int .i64 x.at_, .int .i64 x.n, .slice x.po x.pl x.pc, .int .i64 x.t0, .int .i64 x.t1, .int .i64 x.t2, .int .i64 x.t3] 34)).heap.size = w.heap.size + 1 := by simp
    rw [← e, Array.getElem?_push_size]
  have HSZ : Hid ((w.alloc (.cells #[.int .i64 1, .int .i64 x.ar, .int .i64 x.at_, .int .i64 x.n, .slice x.po x.pl x.pc, .int .i64 x.t0, .int .i64 x.t1, .int .i64 x.t2, .int .i64 x.t3] 34)).heap.size = w.heap.size + 1) := by unfold Hid; simp
  have HW0 : Hid (Below w.heap.size w (w.alloc (.cells #[.int .i64 1, .int .i64 x.ar, .int .i64 x.at_, .int .i64 x.n, .slice x.po x.pl x.pc, .int .i64 x.t0, .int .i64 x.t1, .int .i64 x.t2, .int .i64 x.t3] 34))) := (Below.refl _ _).alloc (Nat.le_refl _) _
  have HQ1 : Hid (∀ w1, Below (w.alloc (.cells #[.int .i64 1, .int .i64 x.ar, .int .i64 x.at_, .int .i64 x.n, .slice x.po x.pl x.pc, .int .i64 x.t0, .int .i64 x.t1, .int .i64 x.t2, .int .i64 x.t3] 34)).heap.size (w.alloc (.cells #[.int .i64 1, .int .i64 x.ar, .int .i64 x.at_, .int .i64 x.n, .slice x.po x.pl x.pc, .int .i64 x.t0, .int .i64 x.t1, .int .i64 x.t2, .int .i64 x.t3] 34)) w1 → w1.cell? ⟨w.heap.size, 1, none⟩ = some (.int .i64 x.ar)) := fun w1 h => by rw [h.cell (p := ⟨w.heap.size, 1, none⟩) (by show w.heap.size < _; rw [HSZ.out]; omega)]; simp
  clear hb hpo hA
  go_enter Try.func11, Try.ntmps11
  go_wp2_with fail
  go_region_law (first
    | (refine step_copy (w0 := (w.alloc (.cells #[.int .i64 1, .int .i64 x.ar, .int .i64 x.at_, .int .i64 x.n, .slice x.po x.pl x.pc, .int .i64 x.t0, .int .i64 x.t1, .int .i64 x.t2, .int .i64 x.t3] 34))) rfl (.tmp 12) (.tmp 14) rfl rfl rfl HB.out HP.out hl (by first | exact (Off.refl _ _).alloc _ | exact ((Off.refl _ _).alloc _).drew | exact ((Off.refl _ _).drew).alloc _) (by rw [HSZ.out]; exact Nat.le_refl _) (by exact hg0.out) ?_; intro a' n' c' w1 hR hBB; have q1 := HQ1.out w1 hBB; rw [HSZ.out] at hR)
    | (go_simp; go_at_call 21; refine (HA.out _ _ _ _ (by first | exact hR | exact hR.keep (fun _ _ => rfl)) (by first | exact HW0.out.trans (hBB.mono HW0.out.size) | exact (HW0.out.trans (hBB.mono HW0.out.size)).drew)).mono ?_; rintro e w2 ⟨⟨b, rfl⟩, hQ⟩))
  all_goals
    go_wp2_with fail
    go_ret
    first
      | exact ⟨rfl, _, 0, by assumption, rfl⟩
      | exact ⟨rfl, _, 1, by assumption, rfl⟩
      | exact ⟨rfl, _, 2, by assumption, rfl⟩
set_option maxRecDepth 100000 in
set_option maxHeartbeats 4000000 in
theorem does_sync_ok {w : World} {K : Nat} {x : Opv} {Q : World → Prop} (hk : x.kd = 2)
    (hA : ∀ w1, Below w.heap.size w w1 → Calls Try.prog 22 #[.pointer (some ⟨K, 0, none⟩), .int .i64 x.ar] w1 fun e w' => e = .returned .nilIface ∧ Q w') :
    Calls Try.prog 11 #[.pointer (some ⟨K, 0, none⟩), .agg #[.int .i64 x.kd, .int .i64 x.ar, .int .i64 x.at_, .int .i64 x.n, .slice x.po x.pl x.pc, .int .i64 x.t0, .int .i64 x.t1, .int .i64 x.t2, .int .i64 x.t3]] w
      fun e w' => e = .returned (.bool true) ∧ ∃ w2 m, Q w2 ∧ w' = w2.drewN m := by
  have HA : Hid (∀ w1, Below w.heap.size w w1 → Calls Try.prog 22 #[.pointer (some ⟨K, 0, none⟩), .int .i64 x.ar] w1 fun e w' => e = .returned .nilIface ∧ Q w') := hA
  clear hA
  go_enter Try.func11, Try.ntmps11
  go_wp2_with fail
  refine (HA.out _ ((Below.refl _ _).alloc (Nat.le_refl _) _)).mono ?_
  rintro e w2 ⟨rfl, hQ⟩
  have HQ : Hid (Q w2) := hQ
  clear hQ
  go_wp2_with fail
  go_ret
  exact ⟨rfl, w2, 0, HQ.out, rfl⟩
set_option maxRecDepth 100000 in
set_option maxHeartbeats 4000000 in
theorem does_sync_no {w : World} {K : Nat} {x : Opv} {Q : World → Prop} (hk : x.kd = 2)
    (hA : ∀ w1, Below w.heap.size w w1 → Calls Try.prog 22 #[.pointer (some ⟨K, 0, none⟩), .int .i64 x.ar] w1 fun e w' => (∃ b, e = .returned (.iface 113 (.pointer (some ⟨b, 0, none⟩)))) ∧ Q w') :
    Calls Try.prog 11 #[.pointer (some ⟨K, 0, none⟩), .agg #[.int .i64 x.kd, .int .i64 x.ar, .int .i64 x.at_, .int .i64 x.n, .slice x.po x.pl x.pc, .int .i64 x.t0, .int .i64 x.t1, .int .i64 x.t2, .int .i64 x.t3]] w
      fun e w' => e = .returned (.bool false) ∧ ∃ w2 m, Q w2 ∧ w' = w2.drewN m := by
  have HA : Hid (∀ w1, Below w.heap.size w w1 → Calls Try.prog 22 #[.pointer (some ⟨K, 0, none⟩), .int .i64 x.ar] w1 fun e w' => (∃ b, e = .returned (.iface 113 (.pointer (some ⟨b, 0, none⟩)))) ∧ Q w') := hA
  clear hA
  go_enter Try.func11, Try.ntmps11
  go_wp2_with fail
  refine (HA.out _ ((Below.refl _ _).alloc (Nat.le_refl _) _)).mono ?_
  rintro e w2 ⟨⟨b, rfl⟩, hQ⟩
  have HQ : Hid (Q w2) := hQ
  clear hQ
  go_wp2_with fail
  go_ret
  exact ⟨rfl, w2, 0, HQ.out, rfl⟩
set_option maxRecDepth 100000 in
set_option maxHeartbeats 4000000 in
theorem does_cut_ok {w : World} {K : Nat} {x : Opv} {Q : World → Prop} (hk : x.kd = 3)
    (hA : ∀ w1, Below w.heap.size w w1 → Calls Try.prog 26 #[.pointer (some ⟨K, 0, none⟩), .int .i64 x.ar, .int .i64 x.n] w1 fun e w' => e = .returned .nilIface ∧ Q w') :
    Calls Try.prog 11 #[.pointer (some ⟨K, 0, none⟩), .agg #[.int .i64 x.kd, .int .i64 x.ar, .int .i64 x.at_, .int .i64 x.n, .slice x.po x.pl x.pc, .int .i64 x.t0, .int .i64 x.t1, .int .i64 x.t2, .int .i64 x.t3]] w
      fun e w' => e = .returned (.bool true) ∧ ∃ w2 m, Q w2 ∧ w' = w2.drewN m := by
  have HA : Hid (∀ w1, Below w.heap.size w w1 → Calls Try.prog 26 #[.pointer (some ⟨K, 0, none⟩), .int .i64 x.ar, .int .i64 x.n] w1 fun e w' => e = .returned .nilIface ∧ Q w') := hA
  clear hA
  go_enter Try.func11, Try.ntmps11
  go_wp2_with fail
  refine (HA.out _ ((Below.refl _ _).alloc (Nat.le_refl _) _)).mono ?_
  rintro e w2 ⟨rfl, hQ⟩
  have HQ : Hid (Q w2) := hQ
  clear hQ
  go_wp2_with fail
  go_ret
  exact ⟨rfl, w2, 0, HQ.out, rfl⟩
set_option maxRecDepth 100000 in
set_option maxHeartbeats 4000000 in
theorem does_cut_no {w : World} {K : Nat} {x : Opv} {Q : World → Prop} (hk : x.kd = 3)
    (hA : ∀ w1, Below w.heap.size w w1 → Calls Try.prog 26 #[.pointer (some ⟨K, 0, none⟩), .int .i64 x.ar, .int .i64 x.n] w1 fun e w' => (∃ b, e = .returned (.iface 113 (.pointer (some ⟨b, 0, none⟩)))) ∧ Q w') :
    Calls Try.prog 11 #[.pointer (some ⟨K, 0, none⟩), .agg #[.int .i64 x.kd, .int .i64 x.ar, .int .i64 x.at_, .int .i64 x.n, .slice x.po x.pl x.pc, .int .i64 x.t0, .int .i64 x.t1, .int .i64 x.t2, .int .i64 x.t3]] w
      fun e w' => e = .returned (.bool false) ∧ ∃ w2 m, Q w2 ∧ w' = w2.drewN m := by
  have HA : Hid (∀ w1, Below w.heap.size w w1 → Calls Try.prog 26 #[.pointer (some ⟨K, 0, none⟩), .int .i64 x.ar, .int .i64 x.n] w1 fun e w' => (∃ b, e = .returned (.iface 113 (.pointer (some ⟨b, 0, none⟩)))) ∧ Q w') := hA
  clear hA
  go_enter Try.func11, Try.ntmps11
  go_wp2_with fail
  refine (HA.out _ ((Below.refl _ _).alloc (Nat.le_refl _) _)).mono ?_
  rintro e w2 ⟨⟨b, rfl⟩, hQ⟩
  have HQ : Hid (Q w2) := hQ
  clear hQ
  go_wp2_with fail
  go_ret
  exact ⟨rfl, w2, 0, HQ.out, rfl⟩
end Go.Proofs.Ytlgjjemfckmidaa
