/-
  The law's beginning: lists of records, the one's beginning of the other.
-/
import Derived.Test.YtgminfbhaclbbaaDoorWRep2
namespace Go.Proofs.YtgminfbhaclbbaaDoor
open Go.RowKit Go.BigFrame

set_option maxRecDepth 100000 in
set_option maxHeartbeats 4000000 in
theorem beginning_true {x : World} {N M : Nat} {ao bo : Option Addr} {ac bc : Nat} {us vs : List Value} {ds rs : List (List Int)} (hu : VRow x N 28 (.slice ao us.length ac) us) (hv : VRow x M 28 (.slice bo vs.length bc) vs) (pu : Pcs x us ds) (pv : Pcs x vs rs) (hle : us.length ≤ vs.length) (hpre : ∀ (j : Nat) (d : List Int), ds[j]? = some d → rs[j]? = some d) (hn : vs.length ≤ 16777216) (hdl : ∀ d ∈ ds, d.length ≤ 16777216) :
    Calls Tryd.prog 17 #[.slice ao us.length ac, .slice bo vs.length bc] x fun e w' => e = .returned (.bool true) ∧ Below x.heap.size x w' := by
  have HS : Hid (VRow x N 28 (.slice ao us.length ac) us ∧ VRow x M 28 (.slice bo vs.length bc) vs ∧ Pcs x us ds ∧ Pcs x vs rs ∧ (∀ (j : Nat) (d : List Int), ds[j]? = some d → rs[j]? = some d) ∧ ∀ d ∈ ds, d.length ≤ 16777216) := ⟨hu, hv, pu, pv, hpre, hdl⟩
  obtain ⟨n, hnn⟩ : ∃ n, us.length = n := ⟨_, rfl⟩
  obtain ⟨m, hmm⟩ : ∃ m, vs.length = m := ⟨_, rfl⟩
  have HN : Hid (us.length = n ∧ vs.length = m) := ⟨hnn, hmm⟩
  rw [hnn, hmm] at hle ⊢
  rw [hmm] at hn
  clear hu hv pu pv hpre hdl hnn hmm
  have q1 : ¬ (m : Int) < (n : Int) := by omega
  have q2 : decide ((m : Int) < (n : Int)) = false := decide_eq_false q1
  have hni : (n : Int) ≤ 16777216 := by omega
  go_enter Tryd.func17, Tryd.ntmps17
  go_wp2_with fail
  go_loopw [5] (fun t5 wx => ∃ j : Nat, j ≤ n ∧ t5 = .int .i64 j ∧ Hid (Below x.heap.size x wx)) (fun t5 _ => n - (intOf t5).toNat)
  case atStart => exact ⟨0, by omega, rfl, Below.refl _ _⟩
  case round =>
    obtain ⟨j, hj, rfl, HB⟩ := hrel
    by_cases hlt : j < n
    · have hlti : (j : Int) < n := by omega
      have hjm : (j : Int) < m := by omega
      obtain ⟨u, hju⟩ : ∃ u, us[j]? = some u := ⟨_, List.getElem?_eq_getElem (by have := HN.out.1; omega)⟩
      obtain ⟨v, hjv⟩ : ∃ v, vs[j]? = some v := ⟨_, List.getElem?_eq_getElem (by have := HN.out.2; omega)⟩
      obtain ⟨hu, hv, pu, pv, hpre, hdl⟩ := HS.out
      obtain ⟨d, hjd⟩ : ∃ d, ds[j]? = some d := ⟨_, List.getElem?_eq_getElem (by have := HN.out.1; have := pu.1; omega)⟩
      obtain ⟨ua, uc, rfl, hub, _⟩ := pu.2 j u d hju hjd
      obtain ⟨va, vc, rfl, hvb, _⟩ := pv.2 j v d hjv (hpre j d hjd)
      obtain ⟨ga, rfl⟩ : ∃ g, ao = some ⟨g, 0, none⟩ := by
        rcases hu.form with ⟨e, h0⟩ | ⟨g, cap, e, _⟩
        · rw [h0] at hju; cases hju
        · cases e; exact ⟨g, rfl⟩
      obtain ⟨gb, rfl⟩ : ∃ g, bo = some ⟨g, 0, none⟩ := by
        rcases hv.form with ⟨e, h0⟩ | ⟨g, cap, e, _⟩
        · rw [h0] at hjv; cases hjv
        · cases e; exact ⟨g, rfl⟩
      have c1 : wr.cell? ⟨ga, j, none⟩ = some (.slice ua d.length uc) := (HB.out.cell (p := ⟨ga, j, none⟩) (cell_lt (hu.slot hju))).trans (hu.slot hju)
      have c2 : wr.cell? ⟨gb, j, none⟩ = some (.slice va d.length vc) := (HB.out.cell (p := ⟨gb, j, none⟩) (cell_lt (hv.slot hjv))).trans (hv.slot hjv)
      have hd47 : d.length ≤ 16777216 := hdl d (List.mem_of_getElem? hjd)
      have HSm : Hid (∀ z, Below wr.heap.size wr z → Calls Tryd.prog 15 #[.slice ua d.length uc, .slice va d.length vc] z fun e w' => e = .returned (.bool true) ∧ Below wr.heap.size wr w' ∧ w'.cell? ⟨ga, j, none⟩ = some (.slice ua d.length uc) ∧ w'.cell? ⟨gb, j, none⟩ = some (.slice va d.length vc)) := fun z hz => (same_true (hub.below (below_then HB.out hz)) (hvb.below (below_then HB.out hz)) (by omega)).mono fun e w' ⟨he, q, hq⟩ => by
        have hb' : Below wr.heap.size wr w' := by rw [hq]; exact hz.trans ⟨rfl, rfl, rfl, Nat.le_refl _, fun _ _ => rfl⟩
        exact ⟨he, hb', (hb'.cell (p := ⟨ga, j, none⟩) (cell_lt c1)).trans c1, (hb'.cell (p := ⟨gb, j, none⟩) (cell_lt c2)).trans c2⟩
      have hB0 : Below wr.heap.size wr wr := Below.refl _ _
      clear hu hv pu pv hpre hdl hub hvb hju hjv hjd
      go_wp2_with fail
      go_region_held3 (fun z => z.cell? ⟨ga, j, none⟩ = some (.slice ua d.length uc) ∧ z.cell? ⟨gb, j, none⟩ = some (.slice va d.length vc)) (simp [*]) (first | (go_at_call 15; refine (HSm.out _ ?_).mono ?_; (first | assumption | exact Below.drew (by assumption)); rintro e wp ⟨rfl, hp1, f0, f1⟩))
      all_goals
        go_wp2_with fail
        go_roundw
        case rel => exact ⟨j + 1, by omega, by go_num, below_then HB.out hp1⟩
        case measure => simp [intOf]; omega
    · have hlti : ¬ (j : Int) < n := by omega
      go_wp2_with fail
      go_ret
      exact ⟨rfl, HB.out⟩
end Go.Proofs.YtgminfbhaclbbaaDoor
