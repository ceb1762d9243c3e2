/-
  The program's link: a side's add, has.
-/
import Derived.Test.YtpcickhellkiaaaDoorLpLeaf
namespace Go.Proofs.YtpcickhellkiaaaDoor
open Go.RowKit

section
variable {w w' : World} {lb s : Nat} {F : Nat → Prop} {x y : Dw}
/-- The piece joins the list. -/
theorem padd_step (h : Lk w lb F x y) (hs : s < 2) {w1 : World} {N m : Nat} {bs : List Int} (hB : BRow w1 w.heap.size (.slice (some ⟨N, 0, none⟩) m m) bs) (hb : Below w.heap.size w w1) (h1 : 1 ≤ m) (h2 : m ≤ 8195) (hf : (dwS x y s).n < 256) :
    ∃ a2 c2 W2, (Builtin.append_ #[48, 48] 48 #[.slice (dwS x y s).a (dwS x y s).n (dwS x y s).n, .slice (some ⟨w1.heap.size, 0, none⟩) 1 1]).run Tryd.prog (w1.alloc (.cells #[.slice (some ⟨N, 0, none⟩) m m, .bool false] 79)) = .ok (.slice a2 ((dwS x y s).n + 1) c2) W2 ∧ w1.cell? ⟨lb, s, none⟩ = some (.slice (dwS x y s).a (dwS x y s).n (dwS x y s).c) ∧ (w1.alloc (.cells #[.slice (some ⟨N, 0, none⟩) m m, .bool false] 79)).cell? ⟨lb, s, none⟩ = some (.slice (dwS x y s).a (dwS x y s).n (dwS x y s).c) ∧ W2.cell? ⟨lb, s, none⟩ = some (.slice (dwS x y s).a (dwS x y s).n (dwS x y s).c) ∧ W2.frozen? ⟨lb, s, none⟩ = false ∧
      Hid (LQ w lb F x y s (putC (sdL (dwS x y s)) bs) (W2.setCell ⟨lb, s, none⟩ (.slice a2 ((dwS x y s).n + 1) c2))) := by
  have hz := h.side s
  have hn := hz.len
  have hbl := (ERow.len hB).symm
  obtain ⟨a2, c2, W2, hap, r2, b2⟩ := run_padd ((h.below hb).side s).row hn.2.2.1 ⟨some ⟨N, 0, none⟩, m, m, bs, false⟩
  have hbW := below_then hb b2
  have eC : putC (sdL (dwS x y s)) bs = (((dwS x y s).ps ++ [(⟨some ⟨N, 0, none⟩, m, m, bs, false⟩ : Pp)]).map (·.bs), (dwS x y s).h) := by
    unfold putC
    rw [if_neg (by omega)]
    simp [sdL]
  have hlt := ERow.lt hB (g := N) rfl
  have hW := (h.below hbW)
  have key := lq_store h hs hbW (a' := a2) (n' := (dwS x y s).n + 1) (c1 := c2) (ps' := (dwS x y s).ps ++ [⟨some ⟨N, 0, none⟩, m, m, bs, false⟩]) (h' := (dwS x y s).h) (ERow.base r2 hb.size) (fun p hp => by
    rcases List.mem_append.1 hp with g | g
    · exact ((hW.side s).pcs p g).mono fun b hb' => Or.inl hb'
    · rw [List.mem_singleton] at g
      subst g
      refine ⟨(BRow.byts hB).below b2, ⟨N, 0, rfl, Or.inr ⟨hlt.1, ?_⟩⟩, h1, h2, Nat.le_refl _, by show m ≤ maxLen; unfold maxLen; omega⟩
      obtain ⟨cs, e⟩ := row_b hB (g := N) rfl
      exact ⟨cs, _, (b2.block N hlt.2).trans e, Or.inr rfl⟩) (fun j p hp => by
    rw [List.getElem?_append] at hp
    split at hp
    · exact hz.br j p hp
    · rename_i hj
      have hj2 : j - (dwS x y s).ps.length < 1 := by
        have := (List.getElem?_eq_some_iff.1 hp).1
        simpa using this
      rw [show j - (dwS x y s).ps.length = 0 by omega] at hp
      simp only [List.getElem?_cons_zero, Option.some.injEq] at hp
      subst hp
      have hh := hz.ok.h2
      have e1 : (sdL (dwS x y s)).2 = (dwS x y s).h := rfl
      symm
      simp only [decide_eq_false_iff_not]
      omega) (by
    have := hz.ok.put (bs := bs) (by omega) (by omega)
    rw [eC] at this
    exact this)
  have hlb := blk_lt h.blk
  have c1 := (h.below hb).cell hs
  refine ⟨a2, c2, W2, hap, c1.1, (World.cell?_alloc_lt _ _ ⟨lb, s, none⟩ (by show lb < _; have := hb.size; omega)).trans c1.1, key.1, key.2.1, ?_⟩
  rw [eC]
  exact key.2.2
set_option maxRecDepth 100000 in
set_option maxHeartbeats 2000000 in
theorem padd_full (h : Lk w lb F x y) (hs : s < 2) {po : Option Addr} {m c : Nat} (hf : 256 ≤ (dwS x y s).n) : Calls Tryd.prog 32 #[.pointer (some ⟨lb, s, none⟩), .slice po m c] w fun e w' => ∃ b, e = .returned (.iface 88 (.pointer (some ⟨b, 0, none⟩))) ∧ Hid (EvIs w' (.iface 88 (.pointer (some ⟨b, 0, none⟩))) 0 7 ∧ Below w.heap.size w w') := by
  have d0 := (h.cell hs).1
  have HF := pfault_any w 0 7 rfl
  have e1 : ((dwS x y s).n : Int) ≥ 256 := by omega
  generalize dwS x y s = z at d0 e1 hf
  obtain ⟨za, zn, zc, zp, zh⟩ := z
  simp only at d0 e1
  clear h hf
  go_enter Tryd.func32, Tryd.ntmps32
  go_wp2_with fail
  refine HF.mono ?_
  rintro _ w1 ⟨b, rfl, HE⟩
  go_wp2_with fail
  go_ret
  exact ⟨b, rfl, HE.out⟩
set_option maxRecDepth 100000 in
set_option maxHeartbeats 4000000 in
theorem padd_ok (h : Lk w lb F x y) (hs : s < 2) {po : Option Addr} {m c : Nat} {bs : List Int} (hb : Byts w po m bs) (h1 : 1 ≤ m) (h2 : m ≤ 8195) (hf : (dwS x y s).n < 256) : Calls Tryd.prog 32 #[.pointer (some ⟨lb, s, none⟩), .slice po m c] w fun e w' => e = .returned .nilIface ∧ Hid (LQ w lb F x y s (putC (sdL (dwS x y s)) bs) w') := by
  have d0 := (h.cell hs).1
  have hn := (h.side s).len
  have e1 : ¬ ((dwS x y s).n : Int) ≥ 256 := by omega
  have HC : Hid (∀ v, Below w.heap.size w v → Calls Tryd.prog 38 #[.slice po m c] v fun e w' => ∃ N a2 c2 W2, e = .returned (.slice (some ⟨N, 0, none⟩) m m) ∧ (Builtin.append_ #[48, 48] 48 #[.slice (dwS x y s).a (dwS x y s).n (dwS x y s).n, .slice (some ⟨w'.heap.size, 0, none⟩) 1 1]).run Tryd.prog (w'.alloc (.cells #[.slice (some ⟨N, 0, none⟩) m m, .bool false] 79)) = .ok (.slice a2 ((dwS x y s).n + 1) c2) W2 ∧ w'.cell? ⟨lb, s, none⟩ = some (.slice (dwS x y s).a (dwS x y s).n (dwS x y s).c) ∧ (w'.alloc (.cells #[.slice (some ⟨N, 0, none⟩) m m, .bool false] 79)).cell? ⟨lb, s, none⟩ = some (.slice (dwS x y s).a (dwS x y s).n (dwS x y s).c) ∧ W2.cell? ⟨lb, s, none⟩ = some (.slice (dwS x y s).a (dwS x y s).n (dwS x y s).c) ∧ W2.frozen? ⟨lb, s, none⟩ = false ∧ Hid (LQ w lb F x y s (putC (sdL (dwS x y s)) bs) (W2.setCell ⟨lb, s, none⟩ (.slice a2 ((dwS x y s).n + 1) c2)))) :=
    fun v hv => (fresh_any (c := c) v (hb.below hv) h1 (by omega)).mono fun e w' ⟨he, hh⟩ => by
      obtain ⟨a2, c2, W2, q1, q2, q2', q3, q4, q5⟩ := padd_step h hs (ERow.base hh.out.1 hv.size) (below_then hv hh.out.2) h1 h2 hf
      exact ⟨_, a2, c2, W2, he, q1, q2, q2', q3, q4, q5⟩
  have hz0 : (dwS x y s).a = none ∨ ∃ g, (dwS x y s).a = some ⟨g, 0, none⟩ := by
    rcases ERow.form (h.side s).row with ⟨e, _⟩ | ⟨g, cap, e, _⟩
    · simp only [Value.slice.injEq] at e; exact Or.inl e.1
    · simp only [Value.slice.injEq] at e; exact Or.inr ⟨g, e.1⟩
  have hnc := hn.2.2.2.1
  have hcm := hn.2.2.2.2
  have hn6 := hn.2.2.1
  have hz9 : (dwS x y s).a = none → (dwS x y s).n = 0 ∧ (dwS x y s).c = 0 := fun e => by
    rcases ERow.form (h.side s).row with ⟨e1, _⟩ | ⟨g, cap, e1, _⟩
    · simp only [Value.slice.injEq] at e1; exact ⟨e1.2.1, e1.2.2⟩
    · simp only [Value.slice.injEq] at e1; rw [e] at e1; cases e1.1
  clear h hn hf hb h1 h2
  generalize sdL (dwS x y s) = c0 at HC
  generalize (dwS x y s).n = zn at d0 e1 HC hnc hn6 hz9
  generalize (dwS x y s).c = zc at d0 HC hnc hcm hz9
  generalize (dwS x y s).a = za at d0 HC hz0 hz9
  rcases hz0 with rfl | ⟨g, rfl⟩
  · obtain ⟨rfl, rfl⟩ := hz9 rfl
    clear hz9
    go_enter Tryd.func32, Tryd.ntmps32
    go_wp2_with fail
    go_region_law (first | (go_simp; go_at_call 38; refine (HC.out _ (Below.drew (Below.refl _ _))).mono ?_; rintro _ w1 ⟨N, a2, c2, W2, rfl, hap, f1, f1', f2, f3, HF⟩; go_wp2_with fail) | (refine step_app_run rfl (.tmp 21) (.tmp 25) 48 rfl rfl rfl hap ?_))
    all_goals (
      go_wp2_with fail
      go_ret
      exact ⟨rfl, HF.out⟩)
  · clear hz9
    go_enter Tryd.func32, Tryd.ntmps32
    go_wp2_with fail
    go_region_law (first | (go_simp; go_at_call 38; refine (HC.out _ (Below.drew (Below.refl _ _))).mono ?_; rintro _ w1 ⟨N, a2, c2, W2, rfl, hap, f1, f1', f2, f3, HF⟩; go_wp2_with fail) | (refine step_app_run rfl (.tmp 21) (.tmp 25) 48 rfl rfl rfl hap ?_))
    all_goals (
      go_wp2_with fail
      go_ret
      exact ⟨rfl, HF.out⟩)
end
end Go.Proofs.YtpcickhellkiaaaDoor
