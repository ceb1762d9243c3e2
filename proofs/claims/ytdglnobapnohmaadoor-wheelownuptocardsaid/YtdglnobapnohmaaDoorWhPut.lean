/-
  timers: put.
-/
import Derived.Test.YtdglnobapnohmaaDoorWhAt
import Derived.Deep.RegionLaw
namespace Go.Proofs.YtdglnobapnohmaaDoor
open Go.RowKit

/-- How put leaves the timers (i: the list). -/
def PutQ (w : World) (B T M now : Nat) (v : Nat → Value) (L : Nat → List Tm) (f : Int → Option (Nat × Nat)) (n : Nat) (k : Int) (t i : Nat) (w' : World) : Prop :=
  ∃ u, Tms w' B T M now (upd v i u) (upd L i (L i ++ [(k, t)])) (updF f k (some (i, (L i).length))) (n + (if (f k).isSome then 0 else 1)) ∧ Off (Ft T M v) w w' ∧ ∀ q, u.ownBlock = some q → Ft T M v q ∨ w.heap.size ≤ q
section
variable {w : World} {B T M now n : Nat} {v : Nat → Value} {L : Nat → List Tm} {f : Int → Option (Nat × Nat)}
set_option maxRecDepth 100000 in
set_option maxHeartbeats 4000000 in
theorem put_any (h : Tms w B T M now v L f n) (hB : B ≤ w.heap.size) {k : Int} {t : Nat} (hk : KeyI k) (hnow : now ≤ MaxT) (ht : t ≤ MaxT) (hn : n < 1000000000) (hl : ∀ i, i < 448 → (L i).length < 1000000) :
    Calls Tryd.prog 32 #[.pointer (some ⟨T, 0, none⟩), .agg #[.int .i64 k, .int .i64 (t : Int)]] w fun e w' => e = .returned (.tuple #[]) ∧ PutQ w B T M now v L f n k t (idx now t) w' := by
  obtain ⟨l, hle⟩ : ∃ l, lev now t = l := ⟨_, rfl⟩
  obtain ⟨s, hse⟩ : ∃ s, dig t (lev now t) = s := ⟨_, rfl⟩
  have hl6 := lev_le now t
  have hs64 := dig_lt t (lev now t)
  have hidx : idx now t = 64 * l + s := by unfold idx; rw [hse, hle]
  rw [hidx]
  have HLv : ∀ z, Calls Tryd.prog 49 #[.int .i64 (now : Int), .int .i64 (t : Int)] z fun e w' => e = .returned (.int .i64 (l : Int)) ∧ ∃ q, w' = z.drewN q := fun z => by rw [← hle]; exact levelOf_any z now t hnow ht
  have HDg : ∀ z, Calls Tryd.prog 50 #[.int .i64 (t : Int), .int .i64 (l : Int)] z fun e w' => e = .returned (.int .i64 (s : Int)) ∧ w' = z := fun z => by rw [← hse, hle]; exact digit_any z t l ht (by omega)
  have HT : Hid (Tms w B T M now v L f n) := h
  have c0 := h.tb.c0
  rw [hle] at hl6
  rw [hse] at hs64
  have hT := h.tb.lt
  clear hle hse hidx h
  go_enter Tryd.func32, Tryd.ntmps32
  go_wp2_with fail
  have c0' : ∀ o, (w.alloc o).cell? ⟨T, 0, none⟩ = some (.int .i64 (now : Int)) := fun o => by rw [World.cell?_alloc_lt _ _ ⟨T, 0, none⟩ hT]; exact c0
  go_quiet ((go_at_call 49; exact quiet_draw (HLv _)))
  have HW : Hid (Tms ((w.alloc (.cells #[.int .i64 k, .int .i64 (t : Int)] 68)).drewN nq) B T M now v L f n ∧ Off (fun _ => False) w ((w.alloc (.cells #[.int .i64 k, .int .i64 (t : Int)] 68)).drewN nq) ∧ ∀ o, ((w.alloc (.cells #[.int .i64 k, .int .i64 (t : Int)] 68)).drewN nq).cell? ⟨w.heap.size, o, none⟩ = (#[.int .i64 k, .int .i64 (t : Int)] : Array Value)[o]?) := ⟨(HT.out.below ((Below.refl _ _).alloc (Nat.le_refl _) _)).drewN nq, ((Off.refl _ _).alloc _).drewN nq, fun o => cell_new _ _ _ o⟩
  generalize (w.alloc (.cells #[.int .i64 k, .int .i64 (t : Int)] 68)).drewN nq = W0 at HW ⊢
  have d0 : W0.cell? ⟨w.heap.size, 0, none⟩ = some (.int .i64 k) := HW.out.2.2 0
  have d1 : W0.cell? ⟨w.heap.size, 1, none⟩ = some (.int .i64 (t : Int)) := HW.out.2.2 1
  go_wp2_with (go_at_call 50; refine (HDg _).mono ?_; rintro _ w9 ⟨rfl, h9⟩; subst w9)
  have hi : 64 * l + s < 448 := by omega
  have hrow := HW.out.1.row _ hi
  obtain ⟨ga, gc, hv, _⟩ := hrow.isSlice
  obtain ⟨m, hm⟩ : ∃ m, (L (64 * l + s)).length = m := ⟨_, rfl⟩
  have hml := hl _ hi
  rw [hm] at hv hml
  have cm := HW.out.1.tb.cm
  have cl : W0.cell? ⟨T, 1 + l * 64 + s, none⟩ = some (.slice ga m gc) := by
    rw [show 1 + l * 64 + s = 1 + (64 * l + s) by omega, ← hv]; exact HW.out.1.tb.cl hi
  obtain ⟨W1, hst, hm1, o1⟩ := (HW.out.1.drewN 1).mp.store hn hk (64 * l + s, m)
  rw [plV_ls hs64, ← World.drew_is_drewN] at hst
  have H1 : Hid (Tms W1 B T M now v L (updF f k (some (64 * l + s, m))) (n + (if (f k).isSome then 0 else 1)) ∧ Off (Ft T M v) w W1 ∧ ∀ o, W1.cell? ⟨w.heap.size, o, none⟩ = (#[.int .i64 k, .int .i64 (t : Int)] : Array Value)[o]?) := by
    refine ⟨(HW.out.1.drewN 1).setMap o1 hm1, (HW.out.2.1.mono (fun _ e => e.elim)).trans ((((Off.refl _ _).drewN 1)).trans (o1.mono fun q e => Or.inr (Or.inl e))), fun o => ?_⟩
    have hlt : w.heap.size < W0.heap.size := cell_lt d0
    rw [o1.cell (p := ⟨w.heap.size, o, none⟩) hlt (fun e => ?_)]
    · exact HW.out.2.2 o
    · have := HT.out.mp.lt; simp only at e; omega
  have e0 : W1.cell? ⟨w.heap.size, 0, none⟩ = some (.int .i64 k) := H1.out.2.2 0
  have e1 : W1.cell? ⟨w.heap.size, 1, none⟩ = some (.int .i64 (t : Int)) := H1.out.2.2 1
  have em := H1.out.1.tb.cm
  have el : W1.cell? ⟨T, 1 + l * 64 + s, none⟩ = some (.slice ga m gc) := by
    rw [show 1 + l * 64 + s = 1 + (64 * l + s) by omega, ← hv]; exact H1.out.1.tb.cl hi
  clear hrow hm1 o1 c0 c0' HLv HDg
  go_region_held3 (fun z => z.cell? ⟨T, 449, none⟩ = some (.map (some M)) ∧ z.cell? ⟨T, 1 + l * 64 + s, none⟩ = some (.slice ga m gc) ∧ z.cell? ⟨w.heap.size, 0, none⟩ = some (.int .i64 k)) (simp [*]) (first | (refine step_upd_run rfl (.tmp 28) (.tmp 30) (.tmp 37) 48 rfl rfl rfl rfl hst ?_))
  clear hst cm cl d0 d1 HW
  have hrow1 := H1.out.1.row _ hi
  rw [hv] at hrow1
  have hB1 : B ≤ W1.heap.size := Nat.le_trans hB H1.out.2.1.size
  obtain ⟨a2, c2, W2, hap, r2, o2, b2⟩ := run_epush (P := Tryd.prog) (t := 49) Tryd.underlying49 celT encT_len encT_one (w := W1.drew) (hrow1.off (P := fun _ => False) (Off.refl _ _).drew (fun _ _ => id)) (k, t) #[.int .i64 k, .int .i64 (t : Int)] rfl (by rw [hm]; omega) (by omega) hB1
  rw [hm] at hap r2 b2
  have hap' : (Builtin.append_ #[49, 49] 49 #[.slice ga m gc, .slice (some ⟨W1.heap.size, 0, none⟩) 1 1]).run Tryd.prog (W1.alloc (.cells #[.int .i64 k, .int .i64 (t : Int)] 68)).drew = .ok (.slice a2 (m + 1) c2) W2 := hap
  have o3 : Off (fun q => (v (64 * l + s)).ownBlock = some q) W1 W2 := ((Off.refl _ _).drew).trans (by rw [hv]; exact o2)
  have hT2 : W2.heap[T]? = W1.heap[T]? := o3.block T H1.out.1.tb.lt (fun e => (H1.out.1.neL hi e).1 rfl)
  have htb2 := H1.out.1.tb.keep hT2
  have cl2 : W2.cell? ⟨T, 1 + l * 64 + s, none⟩ = some (.slice ga m gc) := by
    rw [show 1 + l * 64 + s = 1 + (64 * l + s) by omega, ← hv]; exact htb2.cl hi
  have fl2 : W2.frozen? ⟨T, 1 + l * 64 + s, none⟩ = false := htb2.fr _
  have HZ : Hid (Tms (W2.setCell ⟨T, 1 + l * 64 + s, none⟩ (.slice a2 (m + 1) c2)) B T M now (upd v (64 * l + s) (.slice a2 (m + 1) c2)) (upd L (64 * l + s) (L (64 * l + s) ++ [(k, t)])) (updF f k (some (64 * l + s, m))) (n + (if (f k).isSome then 0 else 1)) ∧ Off (Ft T M v) w (W2.setCell ⟨T, 1 + l * 64 + s, none⟩ (.slice a2 (m + 1) c2)) ∧ ∀ q, (Value.slice a2 (m + 1) c2).ownBlock = some q → Ft T M v q ∨ w.heap.size ≤ q) := by
    have hw1 := H1.out.2.1.size
    have e9 : 1 + l * 64 + s = 1 + (64 * l + s) := by omega
    rw [e9]
    refine ⟨H1.out.1.setList hi o3 (by rw [hm] at *; exact r2) ?_, ?_, fun q e => ?_⟩
    · rcases b2 with b2 | b2
      · exact Or.inr (Or.inl (by rw [b2, hv]))
      · exact Or.inr (Or.inr ⟨_, b2, by show W1.heap.size ≤ W1.heap.size + 1; omega⟩)
    · exact (H1.out.2.1.trans (o3.mono fun q e => Or.inr (Or.inr ⟨_, hi, e⟩))).setCell (p := ⟨T, 1 + (64 * l + s), none⟩) (Or.inl rfl) _
    · rcases b2 with b2 | b2
      · rw [b2] at e
        exact Or.inl (Or.inr (Or.inr ⟨_, hi, by rw [hv]; exact e⟩))
      · rw [b2] at e
        injection e with e
        refine Or.inr ?_
        rw [← e]
        show w.heap.size ≤ W1.heap.size + 1
        omega
  have el' : ∀ o, (W1.alloc o).cell? ⟨T, 1 + l * 64 + s, none⟩ = some (.slice ga m gc) := fun o => by rw [World.cell?_alloc_lt _ _ ⟨T, 1 + l * 64 + s, none⟩ H1.out.1.tb.lt]; exact el
  clear hrow1 hap r2 o2 b2 o3 hT2 htb2 H1
  go_wp2_with fail
  go_region_law (first | (refine step_app_run rfl (.tmp 41) (.tmp 43) 49 rfl rfl rfl hap' ?_))
  all_goals
    go_wp2_with fail
    go_end0
    exact ⟨rfl, _, by rw [hm]; exact HZ.out⟩
end
end Go.Proofs.YtdglnobapnohmaaDoor
