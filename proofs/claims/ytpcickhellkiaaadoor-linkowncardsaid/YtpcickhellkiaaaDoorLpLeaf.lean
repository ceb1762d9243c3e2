/-
  The program's link: fault, way, isNoLength, fresh, New.
-/
import Derived.Test.YtpcickhellkiaaaDoorLpBase
import Derived.Test.YtpcickhellkiaaaDoorLkIs
namespace Go.Proofs.YtpcickhellkiaaaDoor
open Go.RowKit

/-- An error as a call answers it: none, or a new fault. -/
def EvIs (w : World) (v : Value) (at_ code : Int) : Prop := (code = 0 ∧ v = .nilIface) ∨ ((code == 0) = false ∧ ∃ b, v = .iface 88 (.pointer (some ⟨b, 0, none⟩)) ∧ FaultAt w b at_ code ∧ ∃ cs, w.heap[b]? = some (.cells cs 92 (0, 0)))
theorem EvIs.below {w w' : World} {v : Value} {a c : Int} (h : EvIs w v a c) (hb : Below w.heap.size w w') : EvIs w' v a c := by
  rcases h with h | ⟨h, b, e, f, cs, hc⟩
  · exact Or.inl h
  · exact Or.inr ⟨h, b, e, faultAt_below f hb, cs, (hb.block b (blk_lt hc)).trans hc⟩
/-- The law's look at an error. -/
theorem is_any {w : World} {v : Value} {a c : Int} (h : EvIs w v a c) (hE : ErrType w) : Calls Tryd.prog 20 #[v, .int .i64 a, .int .i64 c] w fun e w' => e = .returned (.bool true) ∧ Below w.heap.size w w' := by
  rcases h with ⟨rfl, rfl⟩ | ⟨h, b, rfl, f, _⟩
  · exact (isOk w a).mono fun e w' ⟨h1, h2⟩ => ⟨h1, by rw [h2]; exact Below.refl _ _⟩
  · exact isFault b a c w h hE f
set_option maxHeartbeats 1000000 in
theorem pfault_any (w : World) (at_ code : Int) (hc : (code == 0) = false) : Calls Tryd.prog 31 #[.int .i64 at_, .int .i64 code] w fun e w' => ∃ b, e = .returned (.iface 88 (.pointer (some ⟨b, 0, none⟩))) ∧ Hid (EvIs w' (.iface 88 (.pointer (some ⟨b, 0, none⟩))) at_ code ∧ Below w.heap.size w w') := by
  go_enter Tryd.func31, Tryd.ntmps31
  go_wp2_with fail
  go_ret
  exact ⟨_, rfl, Or.inr ⟨hc, _, rfl, fault_new w at_ code, _, heap_alloc_new w _⟩, (Below.refl _ _).alloc (Nat.le_refl _) _⟩
set_option maxHeartbeats 1000000 in
theorem way_ok {w : World} {lb s : Nat} {F : Nat → Prop} {x y : Dw} (h : Lk w lb F x y) (hs : s < 2) : Calls Tryd.prog 29 #[.pointer (some ⟨lb, 0, none⟩), .int .i64 (s : Int)] w fun e w' => e = .returned (.tuple #[.pointer (some ⟨lb, s, none⟩), .nilIface]) ∧ w' = w := by
  have c := hcell h.blk
  clear h
  rcases (by omega : s = 0 ∨ s = 1) with rfl | rfl
  · go_enter Tryd.func29, Tryd.ntmps29
    go_wp2_with fail
    refine bodyPost_ret (v := .tuple #[.pointer (some ⟨lb, 0, none⟩), .nilIface]) ?_ rfl ⟨rfl, rfl⟩
    simp [results, Tryd.results29, go_sem]
  · go_enter Tryd.func29, Tryd.ntmps29
    go_wp2_with fail
    refine bodyPost_ret (v := .tuple #[.pointer (some ⟨lb, 1, none⟩), .nilIface]) ?_ rfl ⟨rfl, rfl⟩
    simp [results, Tryd.results29, go_sem]
/-- There is no such side: why. -/
def NoWay (w : World) (l : Option Addr) (s code : Int) : Prop := Hid (Calls Tryd.prog 29 #[.pointer l, .int .i64 s] w fun e w' => ∃ b, e = .returned (.tuple #[.pointer none, .iface 88 (.pointer (some ⟨b, 0, none⟩))]) ∧ Hid (EvIs w' (.iface 88 (.pointer (some ⟨b, 0, none⟩))) 0 code ∧ Below w.heap.size w w'))
set_option maxHeartbeats 1000000 in
theorem way_bad {w : World} {lb : Nat} {F : Nat → Prop} {x y : Dw} (h : Lk w lb F x y) {s : Int} (hs : ¬ (s = 0 ∨ s = 1)) : NoWay w (some ⟨lb, 0, none⟩) s 1 := by
  have c := hcell h.blk
  have HF := pfault_any w 0 1 rfl
  clear h
  show Calls Tryd.prog 29 _ _ _
  by_cases g : s < 0
  · clear hs
    go_enter Tryd.func29, Tryd.ntmps29
    go_wp2_with fail
    refine HF.mono ?_
    rintro _ w1 ⟨b, rfl, HE⟩
    go_wp2_with fail
    refine bodyPost_ret (v := .tuple #[.pointer none, .iface 88 (.pointer (some ⟨b, 0, none⟩))]) ?_ rfl ⟨b, rfl, HE.out⟩
    simp [results, Tryd.results29, go_sem]
  · have g2 : s ≥ 2 := by omega
    clear hs
    go_enter Tryd.func29, Tryd.ntmps29
    go_wp2_with fail
    refine HF.mono ?_
    rintro _ w1 ⟨b, rfl, HE⟩
    go_wp2_with fail
    refine bodyPost_ret (v := .tuple #[.pointer none, .iface 88 (.pointer (some ⟨b, 0, none⟩))]) ?_ rfl ⟨b, rfl, HE.out⟩
    simp [results, Tryd.results29, go_sem]
set_option maxHeartbeats 1000000 in
theorem way_plain {w : World} {lb : Nat} (c : w.cell? ⟨lb, 2, none⟩ = some (.bool false)) (s : Int) : NoWay w (some ⟨lb, 0, none⟩) s 3 := by
  have HF := pfault_any w 0 3 rfl
  show Calls Tryd.prog 29 _ _ _
  go_enter Tryd.func29, Tryd.ntmps29
  go_wp2_with fail
  refine HF.mono ?_
  rintro _ w1 ⟨b, rfl, HE⟩
  go_wp2_with fail
  refine bodyPost_ret (v := .tuple #[.pointer none, .iface 88 (.pointer (some ⟨b, 0, none⟩))]) ?_ rfl ⟨b, rfl, HE.out⟩
  simp [results, Tryd.results29, go_sem]
set_option maxHeartbeats 1000000 in
theorem way_nil {w : World} (s : Int) : NoWay w none s 3 := by
  have HF := pfault_any w 0 3 rfl
  show Calls Tryd.prog 29 _ _ _
  go_enter Tryd.func29, Tryd.ntmps29
  go_wp2_with fail
  refine HF.mono ?_
  rintro _ w1 ⟨b, rfl, HE⟩
  go_wp2_with fail
  refine bodyPost_ret (v := .tuple #[.pointer none, .iface 88 (.pointer (some ⟨b, 0, none⟩))]) ?_ rfl ⟨b, rfl, HE.out⟩
  simp [results, Tryd.results29, go_sem]
/-- A text of no byte, or of more than so many. -/
def nlB (m k : Nat) : Bool := m == 0 || decide (k < m)
set_option maxHeartbeats 1000000 in
theorem nolen_any (w : World) (po : Option Addr) (m c k : Nat) : Calls Tryd.prog 30 #[.slice po m c, .int .i64 (k : Int)] w fun e w' => e = .returned (.bool (nlB m k)) ∧ w' = w := by
  rcases Nat.eq_zero_or_pos m with rfl | h
  · go_enter Tryd.func30, Tryd.ntmps30
    go_wp2_with fail
    go_ret
    exact ⟨rfl, rfl⟩
  · have e0 : ((m : Int) == 0) = false := by simp; omega
    have e1 : nlB m k = decide ((m : Int) > (k : Int)) := by
      unfold nlB
      rw [show (m == 0) = false by simp; omega, Bool.false_or]
      exact decide_eq_decide.2 (by omega)
    rw [e1]
    clear e1
    by_cases g : (m : Int) > (k : Int)
    · rw [decide_eq_true g]
      go_enter Tryd.func30, Tryd.ntmps30
      go_wp2_with fail
      go_ret
      exact ⟨rfl, rfl⟩
    · rw [decide_eq_false g]
      go_enter Tryd.func30, Tryd.ntmps30
      go_wp2_with fail
      go_ret
      exact ⟨rfl, rfl⟩
theorem flatBm (ys : List Int) : ys.flatMap encB = ys.map (Value.int .u8) := by
  induction ys with
  | nil => rfl
  | cons y r ih => rw [List.flatMap_cons, ih]; rfl
/-- copy of a text into a new row of its length. -/
theorem run_bcopy {w w1 : World} {po : Option Addr} {m c : Nat} {bs : List Int} (hb : Byts w po m bs) (hm : 1 ≤ m) {N : Nat} (hN : N = w.heap.size) (hr : BRow w1 N (.slice (some ⟨N, 0, none⟩) m m) (List.replicate m 0)) (hB : Below w.heap.size w w1) (ty : TypeId) :
    ∃ w2, (Builtin.copy_ #[27, 27] ty #[.slice (some ⟨N, 0, none⟩) m m, .slice po m c]).run Tryd.prog w1 = .ok (goInt m) w2 ∧ BRow w2 N (.slice (some ⟨N, 0, none⟩) m m) bs ∧ Below w.heap.size w w2 := by
  subst hN
  obtain ⟨b, o, rfl, hlt, _⟩ := hb.cell 0 (by omega)
  obtain ⟨i, z, hi, hz, hzs, hs, hby⟩ := celB
  have hl := hb.len
  have hn : (bs.flatMap encB).length = Nat.min m m * i.size := by rw [flat_len encB_len, hs]; simp; omega
  have h' : w1.ownsRow w.heap.size 5 1 (.slice (some ⟨w.heap.size, 0, none⟩) m m) m ((List.replicate m (0 : Int)).flatMap encB) := by
    have := hr
    unfold BRow ERow at this
    rw [List.length_replicate] at this
    exact this
  have th := own_there h' (o := 0) (k := (bs.flatMap encB).length) (by rw [flat_len encB_len]; omega)
  have hr2 := run_copy_k (P := Tryd.prog) w1 27 27 ty 5 i hi w.heap.size 0 m m ⟨b, o, none⟩ m c (bs.flatMap encB) Tryd.underlying27 hn (fun j v hv => by
    obtain ⟨hj, rfl⟩ := flatB bs hv
    obtain ⟨b', o', e, _, hc⟩ := (hb.below hB).cell j (by omega)
    simp only [Option.some.injEq, Addr.mk.injEq, and_true] at e
    obtain ⟨rfl, rfl⟩ := e
    rw [Addr.add_lit]; exact hc) (fun j hj => (th j hj).1) (fun j hj => (th j hj).2) (fun v hv => by
    obtain ⟨x, _, hx⟩ := List.mem_flatMap.1 hv
    exact encB_one x v hx)
  refine ⟨_, by simpa using hr2, ?_, ?_⟩
  · have := own_setCells (bs.flatMap encB) 0 w1 _ h'
    unfold BRow ERow
    have e : setAll ((List.replicate m (0 : Int)).flatMap encB) 0 (bs.flatMap encB) = bs.flatMap encB := by
      have := setAll_pre (bs.flatMap encB) ((List.replicate m (0 : Int)).flatMap encB) [] [] (by rw [flat_len encB_len, flat_len encB_len]; simp; omega)
      simpa using this
    rw [e] at this
    rw [hl]
    exact this
  · exact hB.trans ((Off.setCells (P := fun q => q = w.heap.size) rfl (bs.flatMap encB) 0 w1 (Off.refl _ _)).below hB.size fun k e => by omega)
set_option maxRecDepth 100000 in
set_option maxHeartbeats 1000000 in
theorem fresh_any {po : Option Addr} {m c : Nat} {bs : List Int} (w : World) (hb : Byts w po m bs) (h1 : 1 ≤ m) (hm : m ≤ 140737488355328) : Calls Tryd.prog 38 #[.slice po m c] w fun e w' => e = .returned (.slice (some ⟨w.heap.size, 0, none⟩) m m) ∧ Hid (BRow w' w.heap.size (.slice (some ⟨w.heap.size, 0, none⟩) m m) bs ∧ Below w.heap.size w w') := by
  obtain ⟨w1, hmk, hR, hB1⟩ := run_make_bytes (w := w) m hm
  obtain ⟨w2, hcp, hR2, hB2⟩ := run_bcopy (c := c) hb h1 rfl hR hB1 3
  have HQ : Hid (BRow w2 w.heap.size (.slice (some ⟨w.heap.size, 0, none⟩) m m) bs ∧ Below w.heap.size w w2) := ⟨hR2, hB2⟩
  clear hR hB1 hR2 hB2 hb
  go_enter Tryd.func38, Tryd.ntmps38
  go_wp2_with (at_builtin; refine wpList_copy_run rfl (.tmp 7) (.tmp 8) 27 _ rfl hcp ?_)
  go_ret
  exact ⟨rfl, HQ.out⟩
def dw0 : Dw := ⟨none, 0, 0, [], -1⟩
theorem dw0_ok (w : World) (F : Nat → Prop) : DwOk w F dw0 := ⟨ERow.nil _ _ _ _ _, fun g hg => by simp [dwOwn, dw0, Value.ownBlock] at hg, fun p hp => (List.not_mem_nil hp).elim, fun j p hp => by simp [dw0] at hp, ⟨by simp [sdL, dw0], by simp [sdL, dw0], by simp [sdL, dw0], by simp [sdL, dw0]⟩⟩
set_option maxHeartbeats 1000000 in
theorem pnew_any (w : World) : Calls Tryd.prog 9 #[] w fun e w' => e = .returned (.pointer (some ⟨w.heap.size, 0, none⟩)) ∧ Hid (Lk w' w.heap.size (fun _ => False) dw0 dw0 ∧ Below w.heap.size w w' ∧ w'.heap.size = w.heap.size + 1) := by
  go_enter Tryd.func9, Tryd.ntmps9
  go_wp2_with fail
  go_ret
  exact ⟨rfl, ⟨heap_alloc_new w _, dw0_ok _ _, dw0_ok _ _, id, fun b => False.elim, fun b => False.elim⟩, (Below.refl _ _).alloc (Nat.le_refl _) _, by simp⟩
end Go.Proofs.YtpcickhellkiaaaDoor
