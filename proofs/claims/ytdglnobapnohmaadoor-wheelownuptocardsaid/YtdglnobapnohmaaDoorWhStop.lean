import Derived.Test.YtdglnobapnohmaaDoorWhMin
import Derived.Test.YtdglnobapnohmaaDoorWhRef4
/-
  Wheel: the next of many, of none.
-/
namespace Go.Proofs.YtdglnobapnohmaaDoor
open Go.RowKit

def NxQ (ys : List Tm) (w : World) (e : Ending) (w' : World) : Prop := ∃ x : Tm, e = .returned (.tuple #[.int .i64 (x.2 : Int), .bool true]) ∧ x ∈ ys ∧ (∀ y ∈ ys, ¬ tlt y x) ∧ Below w.heap.size w w'
section
variable {w : World} {B T M now n : Nat} {v : Nat → Value} {L : Nat → List Tm} {f : Int → Option (Nat × Nat)}
set_option maxRecDepth 100000 in
set_option maxHeartbeats 4000000 in
theorem next_many (h : Tms w B T M now v L f n) {ys : List Tm} {i0 : Nat} (hi0 : i0 < 448) (h0 : L i0 = ys) (hne : 0 < ys.length) (hyl : ys.length ≤ 1000000) (he : ∀ i, i < i0 → L i = []) :
    Calls Tryd.prog 36 #[.pointer (some ⟨T, 0, none⟩)] w (NxQ ys w) := by
  have hr0 := h.row i0 hi0
  rw [h0] at hr0
  obtain ⟨a0, c0, hv0, _⟩ := hr0.isSlice
  rw [hv0] at hr0
  obtain ⟨m, hm⟩ : ∃ m, ys.length = m := ⟨_, rfl⟩
  have HMM := min_any hr0 hne hyl
  rw [hm] at HMM hv0 hne
  have hm0 : (0 : Int) < m := by omega
  have hm1 : (m : Int) > 0 := by omega
  have HM : Hid (type_of% HMM) := HMM
  have HT : Hid (Tms w B T M now v L f n ∧ (∀ i, i < i0 → L i = []) ∧ v i0 = .slice a0 m c0) := ⟨h, he, hv0⟩
  have hfld : ∀ (k T : Int) (w : World), (Instr.field 68 (.agg #[.int .i64 k, .int .i64 T]) 1).run Tryd.prog w = .ok (.int .i64 T) w := fun k T w => by kernel_rfl
  clear h h0 he hr0 hv0 HMM hyl hm
  go_enter Tryd.func36, Tryd.ntmps36
  go_wp2_with fail
  go_loopw [4, 5, 6, 7, 10] (fun _ _ _ t7 _ wx => ∃ p : Nat, 64 * p ≤ i0 ∧ t7 = .int .i64 (p : Int) ∧ wx = w) (fun _ _ _ t7 _ _ => 7 - (intOf t7).toNat)
  case atStart => exact ⟨0, by omega, rfl, rfl⟩
  case round =>
    obtain ⟨p, hp, rfl, hw⟩ := hrel
    subst wr
    have hlt1 : (p : Int) < 7 := by omega
    go_wp2_with fail
    go_loopw [5, 6, 10] (fun _ _ t10 wx => ∃ q : Nat, q ≤ 64 ∧ 64 * p + q ≤ i0 ∧ t10 = .int .i64 (q : Int) ∧ wx = w) (fun _ _ t10 _ => 64 - (intOf t10).toNat)
    case atStart => exact ⟨0, by omega, by omega, rfl, rfl⟩
    case round =>
      obtain ⟨q, hq, hpq, rfl, hw⟩ := hrel
      subst wr
      by_cases hq64 : q < 64
      · have hq1 : (q : Int) < 64 := by omega
        have hi : 64 * p + q < 448 := by omega
        by_cases hpi : 64 * p + q = i0
        · have cl : w.cell? ⟨T, 1 + p * 64 + q, none⟩ = some (.slice a0 m c0) := by
            rw [show 1 + p * 64 + q = 1 + (64 * p + q) by omega, hpi, ← HT.out.2.2]; exact HT.out.1.tb.cl hi0
          go_wp2_with fail
          refine HM.out.mono ?_
          rintro _ w1 ⟨⟨kz, tz⟩, rfl, hz1, hz2, hb1⟩
          have HZ : Hid ((kz, tz) ∈ ys ∧ (∀ y ∈ ys, ¬ tlt y (kz, tz)) ∧ Below w.heap.size w w1) := ⟨hz1, hz2, hb1⟩
          clear hz1 hz2 hb1
          simp only
          go_wp2_with fail
          refine bodyPost_ret (v := .tuple #[.int .i64 (tz : Int), .bool true]) ?_ rfl ⟨(kz, tz), rfl, HZ.out.1, HZ.out.2.1, HZ.out.2.2⟩
          simp [results, Tryd.results36, go_sem]
        · have hr := HT.out.1.row _ hi
          rw [HT.out.2.1 _ (by omega)] at hr
          obtain ⟨a1, c1, hv1, _⟩ := hr.isSlice
          have cl : w.cell? ⟨T, 1 + p * 64 + q, none⟩ = some (.slice a1 0 c1) := by
            rw [show 1 + p * 64 + q = 1 + (64 * p + q) by omega]
            have := HT.out.1.tb.cl hi
            rwa [show v (64 * p + q) = .slice a1 0 c1 from hv1] at this
          clear hr hv1
          go_wp2_with fail
          go_roundw
          case rel => exact ⟨q + 1, by omega, by omega, by go_num, trivial⟩
          case measure => simp [intOf]; omega
      · have hq1 : ¬ (q : Int) < 64 := by omega
        go_wp2_with fail
        go_roundw
        case rel => exact ⟨p + 1, by omega, by go_num, trivial⟩
        case measure => simp [intOf]; omega
set_option maxRecDepth 100000 in
set_option maxHeartbeats 4000000 in
theorem next_none (h : Tms w B T M now v L f n) (he : ∀ i, i < 448 → L i = []) :
    Calls Tryd.prog 36 #[.pointer (some ⟨T, 0, none⟩)] w fun e w' => e = .returned (.tuple #[.int .i64 0, .bool false]) ∧ Below w.heap.size w w' := by
  have HT : Hid (Tms w B T M now v L f n ∧ (∀ i, i < 448 → L i = [])) := ⟨h, he⟩
  clear h he
  go_enter Tryd.func36, Tryd.ntmps36
  go_wp2_with fail
  go_loopw [4, 5, 6, 7, 10] (fun _ _ _ t7 _ wx => ∃ p : Nat, p ≤ 7 ∧ t7 = .int .i64 (p : Int) ∧ wx = w) (fun _ _ _ t7 _ _ => 7 - (intOf t7).toNat)
  case atStart => exact ⟨0, by omega, rfl, rfl⟩
  case round =>
    obtain ⟨p, hp, rfl, hw⟩ := hrel
    subst wr
    by_cases hp7 : p < 7
    · have hlt1 : (p : Int) < 7 := by omega
      go_wp2_with fail
      go_loopw [5, 6, 10] (fun _ _ t10 wx => ∃ q : Nat, q ≤ 64 ∧ t10 = .int .i64 (q : Int) ∧ wx = w) (fun _ _ t10 _ => 64 - (intOf t10).toNat)
      case atStart => exact ⟨0, by omega, rfl, rfl⟩
      case round =>
        obtain ⟨q, hq, rfl, hw⟩ := hrel
        subst wr
        by_cases hq64 : q < 64
        · have hq1 : (q : Int) < 64 := by omega
          have hi : 64 * p + q < 448 := by omega
          have hr := HT.out.1.row _ hi
          rw [HT.out.2 _ hi] at hr
          obtain ⟨a1, c1, hv1, _⟩ := hr.isSlice
          have cl : w.cell? ⟨T, 1 + p * 64 + q, none⟩ = some (.slice a1 0 c1) := by
            rw [show 1 + p * 64 + q = 1 + (64 * p + q) by omega]
            have := HT.out.1.tb.cl hi
            rwa [show v (64 * p + q) = .slice a1 0 c1 from hv1] at this
          clear hr hv1
          go_wp2_with fail
          go_roundw
          case rel => exact ⟨q + 1, by omega, by go_num, trivial⟩
          case measure => simp [intOf]; omega
        · have hq1 : ¬ (q : Int) < 64 := by omega
          go_wp2_with fail
          go_roundw
          case rel => exact ⟨p + 1, by omega, by go_num, trivial⟩
          case measure => simp [intOf]; omega
    · have hlt1 : ¬ (p : Int) < 7 := by omega
      go_wp2_with fail
      refine bodyPost_ret (v := .tuple #[.int .i64 0, .bool false]) ?_ rfl ⟨rfl, Below.refl _ _⟩
      simp [results, Tryd.results36, go_sem]
end
end Go.Proofs.YtdglnobapnohmaaDoor

/-
  Wheel.Next, whatever the wheel holds: the first of its timers in order.
-/
namespace Go.Proofs.YtdglnobapnohmaaDoor
open Go.RowKit

theorem idx_mono {now a b : Nat} (h1 : now < a) (h2 : a ≤ b) (hb : b ≤ MaxT) : idx now a ≤ idx now b := by
  rcases Nat.lt_or_ge (idx now b) (idx now a) with h | h
  · exfalso
    have d1 := dig_lt a (lev now a)
    have d2 := dig_lt b (lev now b)
    unfold idx at h
    have e2 := lev_eq (a := now) (b := b) (by omega) hb
    rcases Nat.lt_trichotomy (lev now b) (lev now a) with hl | hl | hl
    · have n1 := lev_ne hl
      have m1 := div_mono (lev now b + 1) (Nat.le_of_lt h1)
      have m2 := div_mono (lev now b + 1) h2
      omega
    · have e1 := lev_eq (a := now) (b := a) (by omega) (by omega)
      rw [← hl] at e1 h
      have s1 := dig_split a (lev now b)
      have s2 := dig_split b (lev now b)
      have := lt_of_div (a := b) (b := a) (lev now b) (by omega)
      omega
    · omega
  · exact h
/-- What Next answers. -/
def nxI (S : List Tm) : Int := match S with
  | [] => 0
  | x :: _ => (x.2 : Int)
theorem least {α : Type} (L : Nat → List α) : ∀ n, (∃ i, i < n ∧ L i ≠ []) → ∃ i, i < n ∧ L i ≠ [] ∧ ∀ j, j < i → L j = []
  | 0, h => by obtain ⟨i, h, _⟩ := h; omega
  | n + 1, h => by
    by_cases hn : ∃ i, i < n ∧ L i ≠ []
    · obtain ⟨i, h1, h2, h3⟩ := least L n hn
      exact ⟨i, by omega, h2, h3⟩
    · obtain ⟨i, h1, h2⟩ := h
      refine ⟨n, by omega, ?_, fun j hj => ?_⟩
      · rcases Nat.lt_or_ge i n with g | g
        · exact absurd ⟨i, g, h2⟩ hn
        · obtain rfl : i = n := by omega
          exact h2
      · cases hLj : L j with
        | nil => rfl
        | cons _ _ => exact absurd ⟨j, hj, by rw [hLj]; simp⟩ hn
set_option maxHeartbeats 1000000 in
theorem nexts_any {w : World} {B W now : Nat} {F : Nat → Prop} {S : List Tm} (h : Whl w B W now S F) :
    Calls Tryd.prog 15 #[.pointer (some ⟨W, 0, none⟩)] w fun e w' => e = .returned (.tuple #[.int .i64 (nxI S), .bool (!S.isEmpty)]) ∧ Below w.heap.size w w' := by
  obtain ⟨T, M, v, L, f, n, hW, hB, hT, hk, hh, hp, hl, hF⟩ := h
  have c := wcell hW
  have hm := made_yes c
  have HN : Hid (Calls Tryd.prog 36 #[.pointer (some ⟨T, 0, none⟩)] w fun e w' => e = .returned (.tuple #[.int .i64 (nxI S), .bool (!S.isEmpty)]) ∧ Below w.heap.size w w') := by
    cases S with
    | nil =>
      have hn : allL L = [] := List.Perm.eq_nil hp
      exact next_none hT fun i hi => by
        cases hLi : L i with
        | nil => rfl
        | cons z zs =>
          have : z ∈ allL L := mem_allL.2 ⟨i, hi, by rw [hLi]; exact List.mem_cons_self ..⟩
          rw [hn] at this
          cases this
    | cons x S' =>
      obtain ⟨ix, hix, hxi⟩ := mem_allL.1 (hp.symm.subset (List.mem_cons_self ..) : x ∈ allL L)
      obtain ⟨i0, hi0, hne, hem⟩ := least L 448 ⟨ix, hix, fun e => by rw [e] at hxi; cases hxi⟩
      have hlen : (L i0).length ≤ 1000000 := by
        have h1 := hk.len hi0
        have h2 := hk.nn
        rw [List.append_nil, hp.length_eq] at h2
        omega
      refine (next_many hT hi0 rfl (List.length_pos_iff.2 hne) hlen hem).mono fun e w' ⟨z, he, hz, hmin, hb⟩ => ⟨?_, hb⟩
      have hzS : z ∈ x :: S' := hp.subset (mem_allL.2 ⟨i0, hi0, hz⟩)
      have hzx : z = x := by
        rcases List.mem_cons.1 hzS with g | g
        · exact g
        · exfalso
          have hxz : tlt x z := (List.pairwise_cons.1 hh.srt).1 z g
          have hge : i0 ≤ ix := by
            rcases Nat.lt_or_ge ix i0 with q | q
            · have := hem ix q
              rw [this] at hxi
              cases hxi
            · exact q
          have px := hk.pl ix hix x hxi
          have pz := hk.pl i0 hi0 z hz
          have hle : x.2 ≤ z.2 := by unfold tlt at hxz; omega
          have := idx_mono px.2.1 hle pz.2.2
          rw [px.1, pz.1] at this
          obtain rfl : ix = i0 := by omega
          exact hmin x hxi hxz
      rw [he, hzx]
      rfl
  obtain ⟨V, hV⟩ : ∃ q, nxI S = q := ⟨_, rfl⟩
  obtain ⟨Bo, hBo⟩ : ∃ q, (!S.isEmpty) = q := ⟨_, rfl⟩
  rw [hV, hBo] at HN ⊢
  clear hT hk hh hp hl hF hW hV hBo
  go_enter Tryd.func15, Tryd.ntmps15
  go_wp2_with (first | (go_at_call 28; refine hm.mono ?_; rintro _ w9 ⟨rfl, h9⟩; subst w9))
  refine HN.out.mono ?_
  rintro _ w1 ⟨rfl, hb⟩
  go_wp2_with fail
  refine bodyPost_ret ?_ rfl ⟨rfl, hb⟩
  simp [results, Tryd.results15, go_sem]
end Go.Proofs.YtdglnobapnohmaaDoor

/-
  Wheel.At of a wheel that New made.
-/
namespace Go.Proofs.YtdglnobapnohmaaDoor
open Go.RowKit

theorem pl_ne {k : Int} {S : List Tm} (h : plI k S = -1) : ∀ x ∈ S, x.1 ≠ k := fun x hx e => by
  have h1 := filter_key h
  have h2 := List.filter_eq_self.1 h1 x hx
  unfold keyNe at h2
  exact of_decide_eq_true h2 e
set_option maxHeartbeats 1000000 in
theorem ats_no {w : World} {B W now : Nat} {F : Nat → Prop} {S : List Tm} (h : Whl w B W now S F) {k : Int} (hky : KeyI k) (hq : plI k S = -1) :
    Calls Tryd.prog 41 #[.pointer (some ⟨W, 0, none⟩), .int .i64 k] w fun e w' => e = .returned (.tuple #[.int .i64 0, .bool false]) ∧ Below w.heap.size w w' := by
  obtain ⟨T, M, v, L, f, n, hW, hB, hT, hk, hh, hp, hl, hF⟩ := h
  have c := wcell hW
  have hm := made_yes c
  have HN : Hid (type_of% (at_no hT hky (hk.none_ fun x hx => pl_ne hq x (hp.subset hx)))) := at_no hT hky (hk.none_ fun x hx => pl_ne hq x (hp.subset hx))
  clear hT hk hh hp hl hF hW hq
  go_enter Tryd.func41, Tryd.ntmps41
  go_wp2_with (first | (go_at_call 28; refine hm.mono ?_; rintro _ w9 ⟨rfl, h9⟩; subst w9))
  refine HN.out.mono ?_
  rintro _ w1 ⟨rfl, hb⟩
  go_wp2_with fail
  refine bodyPost_ret ?_ rfl ⟨rfl, hb⟩
  simp [results, Tryd.results41, go_sem]
set_option maxHeartbeats 1000000 in
theorem ats_yes {w : World} {B W now : Nat} {F : Nat → Prop} {S : List Tm} (h : Whl w B W now S F) {k : Int} (hky : KeyI k) {t : Nat} (hx : (k, t) ∈ S) :
    Calls Tryd.prog 41 #[.pointer (some ⟨W, 0, none⟩), .int .i64 k] w fun e w' => e = .returned (.tuple #[.int .i64 (t : Int), .bool true]) ∧ Below w.heap.size w w' := by
  obtain ⟨T, M, v, L, f, n, hW, hB, hT, hk, hh, hp, hl, hF⟩ := h
  have c := wcell hW
  have hm := made_yes c
  have HN : Hid (Calls Tryd.prog 29 #[.pointer (some ⟨T, 0, none⟩), .int .i64 k] w fun e w' => e = .returned (.tuple #[.int .i64 (t : Int), .bool true]) ∧ Below w.heap.size w w') := by
    obtain ⟨j, hj, hxj⟩ := mem_allL.1 (hp.symm.subset hx)
    obtain ⟨p, hpx⟩ := List.getElem?_of_mem hxj
    have hf : f k = some (j, p) := (hk.mp k (fun x hx => by cases hx) j p).2 ⟨hj, t, hpx⟩
    have e : 64 * (j / 64) + j % 64 = j := by omega
    exact at_yes (l := j / 64) (s := j % 64) hT hky (by omega) (by omega) (by rw [e]; exact hf) (by rw [e]; exact hpx)
  clear hT hk hh hp hl hF hW hx
  go_enter Tryd.func41, Tryd.ntmps41
  go_wp2_with (first | (go_at_call 28; refine hm.mono ?_; rintro _ w9 ⟨rfl, h9⟩; subst w9))
  refine HN.out.mono ?_
  rintro _ w1 ⟨rfl, hb⟩
  go_wp2_with fail
  refine bodyPost_ret ?_ rfl ⟨rfl, hb⟩
  simp [results, Tryd.results41, go_sem]
end Go.Proofs.YtdglnobapnohmaaDoor

/-
  Wheel.Stop of a wheel that New made.
-/
namespace Go.Proofs.YtdglnobapnohmaaDoor
open Go.RowKit

/-- What Stop answers and leaves. -/
def StpQ (w : World) (B W now : Nat) (S : List Tm) (F : Nat → Prop) (k : Int) (e : Ending) (w' : World) : Prop := ∃ b : Bool, e = .returned (.bool b) ∧ (b = true ↔ ∃ x ∈ S, x.1 = k) ∧ Hid (WhQ w B W now (S.filter (keyNe k)) F w')
set_option maxRecDepth 100000 in
set_option maxHeartbeats 1000000 in
theorem stops_any {w : World} {B W now : Nat} {F : Nat → Prop} {S : List Tm} (h : Whl w B W now S F) {k : Int} (hky : KeyI k) :
    Calls Tryd.prog 38 #[.pointer (some ⟨W, 0, none⟩), .int .i64 k] w (StpQ w B W now S F k) := by
  obtain ⟨T, M, v, L, f, n, hW, hB, hT, hk, hh, hp, hl, hF⟩ := h
  have c := wcell hW
  have hWl := blk_lt hW
  have hWv : ¬ Ft T M v W := fun e => by
    rcases e with e | e | ⟨i, hi, e⟩
    · obtain ⟨cs, hc, _⟩ := hT.tb
      rw [e] at hW
      rw [hW] at hc
      simp only [Option.some.injEq, Obj.cells.injEq] at hc
      exact absurd hc.2.1 (by decide)
    · obtain ⟨es, cl, hm⟩ := hT.mp.isMap
      rw [e, hm] at hW; cases hW
    · rcases (hT.row i hi).2 with ⟨e0, _⟩ | ⟨g1, c1, u1, e1, _, b1, _⟩
      · rw [e0] at e; cases e
      · rw [e1] at e
        simp only [Value.ownBlock, Option.some.injEq] at e
        rw [e, hW] at b1
        simp only [Option.some.injEq, Obj.cells.injEq] at b1
        exact absurd b1.2.1 (by decide)
  have hm := made_yes c
  have HRm : Hid (Calls Tryd.prog 31 #[.pointer (some ⟨T, 0, none⟩), .int .i64 k] w (StpQ w B W now S F k)) := (rm_any hT hk hp hl hky hWv hWl).mono fun e w' ⟨b, he, hb, v2, L2, f2, n2, hT2, hk2, hp2, hf2, o2, hs2, hW2⟩ => by
    refine ⟨b, he, hb, ?_⟩
    have hF2 : Whl w' B W now (S.filter (keyNe k)) (fun q => q = W ∨ Ft T M v2 q) := ⟨T, M, v2, L2, f2, n2, hW2.trans hW, hB, hT2, hk2, ⟨hh.srt.filter _, hh.uq.filter _, fun x hx => hh.tk x (List.mem_filter.1 hx).1, hh.nw⟩, hp2, Nat.le_trans (List.length_filter_le _ _) hl, fun q => Iff.rfl⟩
    have o3 : Off F w w' := o2.mono fun q hq => (hF q).2 (Or.inr hq)
    exact ⟨_, hF2, o3, fun q hq => Or.inl (by
      rcases hq with hq | hq
      · exact (hF q).2 (Or.inl hq)
      · exact (hF q).2 (Or.inr (hs2 q hq)))⟩
  clear hT hk hh hp hl hF hW hWv hWl
  go_enter Tryd.func38, Tryd.ntmps38
  go_wp2_with (first | (go_at_call 28; refine hm.mono ?_; rintro _ w9 ⟨rfl, h9⟩; subst w9))
  refine HRm.out.mono ?_
  rintro _ w1 ⟨b, rfl, hb, HQ⟩
  have HB : Hid (b = true ↔ ∃ x ∈ S, x.1 = k) := hb
  clear hb
  go_wp2_with fail
  go_ret
  exact ⟨b, rfl, HB.out, HQ⟩
end Go.Proofs.YtdglnobapnohmaaDoor
