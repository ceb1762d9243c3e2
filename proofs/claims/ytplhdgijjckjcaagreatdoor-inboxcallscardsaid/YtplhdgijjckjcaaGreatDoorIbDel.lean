/-
  remove: slices.Delete of one entry.
-/
import Derived.Test.YtplhdgijjckjcaaGreatDoorIbPut
namespace Go.Proofs.YtplhdgijjckjcaaGreatDoor
open Go.RowKit

def zEs : List Value := [.string ⟨#[]⟩, .slice none 0 0, .int .i64 0, .int .i64 0, .slice none 0 0, .string ⟨#[]⟩, .slice none 0 0]
theorem zEs_one : ∀ v ∈ zEs, v.oneCell' = true := fun u hu => by
  simp only [zEs, List.mem_cons, List.not_mem_nil, or_false] at hu
  rcases hu with rfl | rfl | rfl | rfl | rfl | rfl | rfl <;> rfl
theorem zeroEs : (Builtin.zeroCells (Value.agg zEs.toArray).cells 1).toList = zEs := by kernel_rfl
/-- What the append and the clear of Delete do. -/
theorem del_runs {w : World} {B g k c i : Nat} {ms : List Ent} (h : ERow w B 29 7 encE (.slice (some ⟨g, 0, none⟩) (k + 1) c) ms) (hi : i ≤ k) (a' : Addr) (ha : i < k → a' = ⟨g, (i + 1) * 7, none⟩) :
    ∃ w1 w2, (∀ cc, (Builtin.append_ #[39, 39] 39 #[.slice (some ⟨g, 0, none⟩) i c, .slice (some a') (k - i) cc]).run Tryz.prog w.drew = .ok (.slice (some ⟨g, 0, none⟩) k c) w1) ∧
      (∀ cc, (Builtin.clear_ #[39] 0 #[.slice (some ⟨g, k * 7, none⟩) 1 cc]).run Tryz.prog w1 = .ok (.tuple #[]) w2) ∧ ERow w2 B 29 7 encE (.slice (some ⟨g, 0, none⟩) k c) (ms.eraseIdx i) ∧ Off (fun q => q = g) w w2 := by
  obtain ⟨inf, z, hinf, hz, hzs, hs, hby⟩ := celE
  have hlen : ms.length = k + 1 := h.len.symm
  have hd : w.drew.ownsRow B 29 7 (.slice (some ⟨g, 0, none⟩) (k + 1) c) (k + 1) (ms.flatMap encE) := by
    have := h.off (P := fun _ => False) (Off.refl _ _).drew (fun _ _ => id)
    unfold ERow at this; rw [hlen] at this; exact this
  have hc : k + 1 ≤ c := by
    rcases h.form with ⟨e, _⟩ | ⟨g', cap, e, _, _, h1, _⟩
    · cases e
    · simp only [Value.slice.injEq] at e; omega
  have hl : ((ms.drop (i + 1)).flatMap encE).length = (k - i) * 7 := by rw [flat_len encE_len, List.length_drop, hlen, show k + 1 - (i + 1) = k - i by omega]
  have o1 := own_setCells (g := g) ((ms.drop (i + 1)).flatMap encE) (i * 7) w.drew _ hd
  have o2 := own_setCells (g := g) zEs (k * 7) _ _ o1
  refine ⟨w.drew.setCells g (i * 7) ((ms.drop (i + 1)).flatMap encE), (w.drew.setCells g (i * 7) ((ms.drop (i + 1)).flatMap encE)).setCells g (k * 7) zEs, fun cc => ?_, fun cc => ?_, ?_, ?_⟩
  · have hr := run_append_room_cells (P := Tryz.prog) w.drew 39 39 29 inf Tryz.underlying39 hinf g 0 i c a' (k - i) cc ((ms.drop (i + 1)).flatMap encE) (by rw [hs]; exact hl) (fun j u hu => by
      have hj := (List.getElem?_eq_some_iff.1 hu).1
      rw [hl] at hj
      have hik : i < k := by omega
      rw [ha hik, Addr.add_lit]
      have e1 : ms.flatMap encE = (ms.take (i + 1)).flatMap encE ++ (ms.drop (i + 1)).flatMap encE := by rw [← List.flatMap_append, List.take_append_drop]
      have l1 : ((ms.take (i + 1)).flatMap encE).length = (i + 1) * 7 := by rw [flat_len encE_len, List.length_take, hlen, show min (i + 1) (k + 1) = i + 1 by omega]
      have hcl := World.ownsRow.cells hd (g := g) rfl ((i + 1) * 7 + j) u (by rw [e1, List.getElem?_append_right (by omega), l1, Nat.add_sub_cancel_left]; exact hu)
      rwa [Addr.add_lit, Nat.zero_add] at hcl) (fun u hu => by
      obtain ⟨x, _, hx⟩ := List.mem_flatMap.1 hu
      exact encE_one x u hx) (by omega) (fun j hj => by
      rw [hl] at hj
      rw [hs, Nat.zero_add]
      exact (own_there hd (o := i * 7) (k := (k - i) * 7) (by omega) j hj).1) (fun j hj => by
      rw [hl] at hj
      rw [hs, Nat.zero_add]
      exact (own_there hd (o := i * 7) (k := (k - i) * 7) (by omega) j hj).2)
    rw [hs, Nat.zero_add, show i + (k - i) = k by omega] at hr
    exact hr
  · exact run_clear_one _ _ _ _ (.agg zEs.toArray) Tryz.underlying39 Tryz.zeroValue29 zEs zeroEs zEs_one g (k * 7) cc (own_there o1 (by show k * 7 + 7 ≤ (k + 1) * 7; omega))
  · have o3 := own_prefix o2 (m := k) (by omega)
    rw [setAll_take _ _ _ _ (Nat.le_refl _)] at o3
    have he := erase_flat encE_len (ms := ms) (i := i) (by omega)
    rw [hlen, Nat.add_sub_cancel] at he
    rw [he] at o3
    unfold ERow
    rw [List.length_eraseIdx, hlen, if_pos (by omega), Nat.add_sub_cancel]
    exact o3
  · exact Off.setCells (P := fun q => q = g) rfl _ _ _ (Off.setCells (P := fun q => q = g) rfl _ _ _ ((Off.refl _ _).drew))
set_option maxRecDepth 100000 in
set_option maxHeartbeats 2000000 in
theorem delete_any {w : World} {B g k c i : Nat} {ms : List Ent} (h : ERow w B 29 7 encE (.slice (some ⟨g, 0, none⟩) (k + 1) c) ms) (hi : i ≤ k) (hk : k < 1000000) :
    Calls Tryz.prog 79 #[.slice (some ⟨g, 0, none⟩) (k + 1) c, .int .i64 (i : Int), .int .i64 ((i : Int) + 1)] w fun e w' => e = .returned (.slice (some ⟨g, 0, none⟩) k c) ∧ ERow w' B 29 7 encE (.slice (some ⟨g, 0, none⟩) k c) (ms.eraseIdx i) ∧ Off (fun q => q = g) w w' := by
  have hc : k + 1 ≤ c ∧ c ≤ maxLen := by
    rcases h.form with ⟨e, _⟩ | ⟨g', cap, e, _, _, h1, h2⟩
    · cases e
    · simp only [Value.slice.injEq] at e; have := h.len; omega
  obtain ⟨hc1, hc2⟩ := hc
  unfold maxLen at hc2
  obtain ⟨A, hA⟩ : ∃ A : Addr, (if c = i + 1 then (⟨g, 0, none⟩ : Addr) else ⟨g, (i + 1) * 7, none⟩) = A := ⟨_, rfl⟩
  obtain ⟨w1, w2, r1, r2, hr, ho⟩ := del_runs h hi A (fun hik => by rw [← hA, if_neg (by omega)])
  have HE : Hid (ERow w2 B 29 7 encE (.slice (some ⟨g, 0, none⟩) k c) (ms.eraseIdx i) ∧ Off (fun q => q = g) w w2) := ⟨hr, ho⟩
  clear hr ho h
  have q1 : (i : Int) ≤ k := by omega
  have q2 : (i : Int) + 1 ≤ (k : Int) + 1 := by omega
  have q3 : (k : Int) + 1 ≤ c := by omega
  have q5 : ((i : Int) == (i : Int) + 1) = false := by
    rw [beq_eq_false_iff_ne]; omega
  have q6 : i ≤ c := by omega
  have q7 : i + 1 ≤ c := by omega
  have q8 : (i : Int) ≤ (i : Int) + 1 := by omega
  have q9 : (i : Int) ≤ c := by omega
  have q10 : (0 : Int) ≤ (i : Int) + 1 := by omega
  have q11 : (0 : Int) ≤ (k : Int) + 1 := by omega
  by_cases hce : c = i + 1
  · rw [if_pos hce] at hA
    subst hA
    obtain rfl : k = i := by omega
    subst hce
    rw [Nat.sub_self] at r1
    go_enter Tryz.func79, Tryz.ntmps79
    go_wp2_with fail
    go_region_law (first | (refine step_app_run rfl (.tmp 22) (.tmp 25) 39 rfl rfl rfl (r1 _) ?_))
    all_goals
      go_wp2_with (at_builtin; refine wpList_clear_run rfl (.tmp 31) 39 _ rfl (r2 _) ?_)
      go_ret
      exact ⟨rfl, HE.out.1, HE.out.2⟩
  · rw [if_neg hce] at hA
    subst hA
    go_enter Tryz.func79, Tryz.ntmps79
    go_wp2_with fail
    go_region_law (first | (refine step_app_run rfl (.tmp 22) (.tmp 25) 39 rfl rfl rfl (r1 _) ?_))
    all_goals
      go_wp2_with (at_builtin; refine wpList_clear_run rfl (.tmp 31) 39 _ rfl (r2 _) ?_)
      go_ret
      exact ⟨rfl, HE.out.1, HE.out.2⟩
end Go.Proofs.YtplhdgijjckjcaaGreatDoor
