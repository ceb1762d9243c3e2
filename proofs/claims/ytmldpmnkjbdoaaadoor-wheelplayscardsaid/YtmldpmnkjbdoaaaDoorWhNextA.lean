/-
  Wheel.Next, whatever the wheel holds: the first of its timers in order.
-/
import Derived.Test.YtmldpmnkjbdoaaaDoorWhNextM
namespace Go.Proofs.YtmldpmnkjbdoaaaDoor
open Go.RowKit

theorem idx_mono {now a b : Nat} (h1 : now < a) (h2 : a ≤ b) (hb : b ≤ MaxT) : idx now a ≤ idx now b := by
  rcases Nat.lt_or_ge (idx now b) (idx now a) with h | h
  · exfalso
    have d1 := dig_lt a (lev now a)
    have d2 := dig_lt b (lev now b)
    unfold idx at h
    have e2 := lev_eq (a := now) (b := b) (by omega) hb
    rcases Nat.lt_trichotomy (lev now b) (lev now a) with hl | hl | hl
    · have n1 := lev_ne hl
      have m1 := div_mono (lev now b + 1) (Nat.le_of_lt h1)
      have m2 := div_mono (lev now b + 1) h2
      omega
    · have e1 := lev_eq (a := now) (b := a) (by omega) (by omega)
      rw [← hl] at e1 h
      have s1 := dig_split a (lev now b)
      have s2 := dig_split b (lev now b)
      have := lt_of_div (a := b) (b := a) (lev now b) (by omega)
      omega
    · omega
  · exact h
/-- What Next answers. -/
def nxI (S : List Tm) : Int := match S with
  | [] => 0
  | x :: _ => (x.2 : Int)
theorem least {α : Type} (L : Nat → List α) : ∀ n, (∃ i, i < n ∧ L i ≠ []) → ∃ i, i < n ∧ L i ≠ [] ∧ ∀ j, j < i → L j = []
  | 0, h => by obtain ⟨i, h, _⟩ := h; omega
  | n + 1, h => by
    by_cases hn : ∃ i, i < n ∧ L i ≠ []
    · obtain ⟨i, h1, h2, h3⟩ := least L n hn
      exact ⟨i, by omega, h2, h3⟩
    · obtain ⟨i, h1, h2⟩ := h
      refine ⟨n, by omega, ?_, fun j hj => ?_⟩
      · rcases Nat.lt_or_ge i n with g | g
        · exact absurd ⟨i, g, h2⟩ hn
        · obtain rfl : i = n := by omega
          exact h2
      · cases hLj : L j with
        | nil => rfl
        | cons _ _ => exact absurd ⟨j, hj, by rw [hLj]; simp⟩ hn
set_option maxHeartbeats 1000000 in
theorem nexts_any {w : World} {B W now : Nat} {F : Nat → Prop} {S : List Tm} (h : Whl w B W now S F) :
    Calls Tryd.prog 18 #[.pointer (some ⟨W, 0, none⟩)] w fun e w' => e = .returned (.tuple #[.int .i64 (nxI S), .bool (!S.isEmpty)]) ∧ Below w.heap.size w w' := by
  obtain ⟨T, M, v, L, f, n, hW, hB, hT, hk, hh, hp, hl, hF⟩ := h
  have c := wcell hW
  have hm := made_yes c
  have HN : Hid (Calls Tryd.prog 42 #[.pointer (some ⟨T, 0, none⟩)] w fun e w' => e = .returned (.tuple #[.int .i64 (nxI S), .bool (!S.isEmpty)]) ∧ Below w.heap.size w w') := by
    cases S with
    | nil =>
      have hn : allL L = [] := List.Perm.eq_nil hp
      exact next_none hT fun i hi => by
        cases hLi : L i with
        | nil => rfl
        | cons z zs =>
          have : z ∈ allL L := mem_allL.2 ⟨i, hi, by rw [hLi]; exact List.mem_cons_self ..⟩
          rw [hn] at this
          cases this
    | cons x S' =>
      obtain ⟨ix, hix, hxi⟩ := mem_allL.1 (hp.symm.subset (List.mem_cons_self ..) : x ∈ allL L)
      obtain ⟨i0, hi0, hne, hem⟩ := least L 448 ⟨ix, hix, fun e => by rw [e] at hxi; cases hxi⟩
      have hlen : (L i0).length ≤ 1000000 := by
        have h1 := hk.len hi0
        have h2 := hk.nn
        rw [List.append_nil, hp.length_eq] at h2
        omega
      refine (next_many hT hi0 rfl (List.length_pos_iff.2 hne) hlen hem).mono fun e w' ⟨z, he, hz, hmin, hb⟩ => ⟨?_, hb⟩
      have hzS : z ∈ x :: S' := hp.subset (mem_allL.2 ⟨i0, hi0, hz⟩)
      have hzx : z = x := by
        rcases List.mem_cons.1 hzS with g | g
        · exact g
        · exfalso
          have hxz : tlt x z := (List.pairwise_cons.1 hh.srt).1 z g
          have hge : i0 ≤ ix := by
            rcases Nat.lt_or_ge ix i0 with q | q
            · have := hem ix q
              rw [this] at hxi
              cases hxi
            · exact q
          have px := hk.pl ix hix x hxi
          have pz := hk.pl i0 hi0 z hz
          have hle : x.2 ≤ z.2 := by unfold tlt at hxz; omega
          have := idx_mono px.2.1 hle pz.2.2
          rw [px.1, pz.1] at this
          obtain rfl : ix = i0 := by omega
          exact hmin x hxi hxz
      rw [he, hzx]
      rfl
  obtain ⟨V, hV⟩ : ∃ q, nxI S = q := ⟨_, rfl⟩
  obtain ⟨Bo, hBo⟩ : ∃ q, (!S.isEmpty) = q := ⟨_, rfl⟩
  rw [hV, hBo] at HN ⊢
  clear hT hk hh hp hl hF hW hV hBo
  go_enter Tryd.func18, Tryd.ntmps18
  go_wp2_with (first | (go_at_call 27; refine hm.mono ?_; rintro _ w9 ⟨rfl, h9⟩; subst w9))
  refine HN.out.mono ?_
  rintro _ w1 ⟨rfl, hb⟩
  go_wp2_with fail
  refine bodyPost_ret ?_ rfl ⟨rfl, hb⟩
  simp [results, Tryd.results18, go_sem]
end Go.Proofs.YtmldpmnkjbdoaaaDoor
