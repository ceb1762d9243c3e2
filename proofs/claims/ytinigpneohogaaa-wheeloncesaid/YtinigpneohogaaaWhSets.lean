/-
  The law's set: a wheel with these timers.
-/
import Derived.Test.YtinigpneohogaaaWhAnchor
namespace Go.Proofs.Ytinigpneohogaaa
open Go.RowKit

/-- An Op that came in. -/
structure Opv where
  kind : Int
  key : Int
  text : ByteArray
  tick : Int
/-- A list of Ops that came in. -/
def Opl (w : World) (ao : Option Addr) (ys : List Opv) : Prop :=
  ∀ i y, ys[i]? = some y → ∃ b off, ao = some ⟨b, off, none⟩ ∧ b < w.heap.size ∧ w.cell? ⟨b, off + i * 4, none⟩ = some (.int .i64 y.kind) ∧ w.cell? ⟨b, off + i * 4 + 1, none⟩ = some (.int .i64 y.key) ∧ w.cell? ⟨b, off + i * 4 + 2, none⟩ = some (.string y.text) ∧ w.cell? ⟨b, off + i * 4 + 3, none⟩ = some (.int .i64 y.tick)
def OpsI (ys : List Opv) : Prop := ∀ y ∈ ys, KeyI y.key ∧ KeyI y.tick
theorem Opl.below {w w' : World} {ao : Option Addr} {ys : List Opv} (h : Opl w ao ys) (hb : Below w.heap.size w w') : Opl w' ao ys := fun i y hy => by
  obtain ⟨b, off, ha, hl, h0, h1, h2, h3⟩ := h i y hy
  exact ⟨b, off, ha, Nat.lt_of_lt_of_le hl hb.size, (hb.cell (p := ⟨b, off + i * 4, none⟩) hl).trans h0, (hb.cell (p := ⟨b, off + i * 4 + 1, none⟩) hl).trans h1, (hb.cell (p := ⟨b, off + i * 4 + 2, none⟩) hl).trans h2, (hb.cell (p := ⟨b, off + i * 4 + 3, none⟩) hl).trans h3⟩
/-- May it be set? -/
def okT (now : Nat) (t : Int) : Bool := decide ((now : Int) < t) && decide (t ≤ 1099511627776)
def setOp (now : Nat) (S : List Tm) (y : Opv) : List Tm := if okT now y.tick = true then setS y.key y.tick.toNat S else S
def setsS (now : Nat) (S : List Tm) (ys : List Opv) : List Tm := ys.foldl (setOp now) S
theorem setS_len (k : Int) (t : Nat) (S : List Tm) : (setS k t S).length ≤ S.length + 1 := by
  have := (setS_perm k t S).length_eq
  have h2 := List.length_filter_le (keyNe k) S
  simp only [List.length_cons] at this
  omega
theorem setsS_len (now : Nat) : ∀ (ys : List Opv) (S : List Tm), (setsS now S ys).length ≤ S.length + ys.length
  | [], S => by simp [setsS]
  | y :: ys, S => by
    have h1 := setsS_len now ys (setOp now S y)
    have h2 : (setOp now S y).length ≤ S.length + 1 := by
      unfold setOp
      split
      · exact setS_len _ _ _
      · omega
    show (setsS now (setOp now S y) ys).length ≤ _
    simp only [List.length_cons]
    omega
theorem setsS_step {now i : Nat} {ys : List Opv} {y : Opv} (h : ys[i]? = some y) : setsS now [] (ys.take (i + 1)) = setOp now (setsS now [] (ys.take i)) y := by
  unfold setsS
  rw [List.take_add_one, h, Option.toList_some, List.foldl_append]
  rfl
set_option maxHeartbeats 1000000 in
theorem set_nil {now : Int} {ao : Option Addr} {N cap : Nat} (w : World) (hn : now < 0 ∨ 1099511627776 < now) : Calls Try.prog 11 #[.int .i64 now, .slice ao N cap] w fun e w' => e = .returned (.pointer none) ∧ Below w.heap.size w w' := by
  go_enter Try.func11, Try.ntmps11
  go_wp2_with fail
  refine (new_no w hn).mono ?_
  rintro _ w1 ⟨b, rfl, hb⟩
  go_wp2_with fail
  go_ret
  exact ⟨rfl, hb⟩
set_option maxRecDepth 100000 in
set_option maxHeartbeats 2000000 in
theorem set_many {now : Nat} {ao : Option Addr} {cap : Nat} {ys : List Opv} (w : World) (hn : now ≤ MaxT) (h : Opl w ao ys) (hk : OpsI ys) (hl : ys.length ≤ maxLen) : Calls Try.prog 11 #[.int .i64 (now : Int), .slice ao ys.length cap] w fun e w' => e = .returned (.pointer (some ⟨w.heap.size + 1 + 1, 0, none⟩)) ∧ WB w (w.heap.size + 1 + 1) now (setsS now [] (ys.take 1000)) w' := by
  have HN : Hid (Calls Try.prog 6 #[.int .i64 (now : Int)] w fun e w' => e = .returned (.tuple #[.pointer (some ⟨w.heap.size + 1 + 1, 0, none⟩), .nilIface]) ∧ Hid (WB w (w.heap.size + 1 + 1) now [] w')) :=
    (new_whl w hn).mono fun e w' ⟨he, F, hW, hb, _⟩ => ⟨he, F, hW, hb⟩
  obtain ⟨N, hN⟩ : ∃ q, ys.length = q := ⟨_, rfl⟩
  have HA : Hid (Opl w ao ys ∧ OpsI ys ∧ ys.length = N) := ⟨h, hk, hN⟩
  rw [hN] at hl ⊢
  unfold maxLen at hl
  have hNi : (N : Int) ≤ 9223372036854775807 := by omega
  clear h hk hN hl
  go_enter Try.func11, Try.ntmps11
  go_wp2_with fail
  refine HN.out.mono ?_
  rintro _ w1 ⟨rfl, H1⟩
  obtain ⟨W, hW⟩ : ∃ q, w.heap.size + 1 + 1 = q := ⟨_, rfl⟩
  rw [hW] at H1 ⊢
  clear HN
  go_wp2_with fail
  go_loopw [7] (fun t7 wx => ∃ i : Nat, i ≤ N ∧ i ≤ 1000 ∧ t7 = .int .i64 (i : Int) ∧ Hid (WB w W now (setsS now [] (ys.take i)) wx)) (fun t7 _ => 1000 - (intOf t7).toNat)
  case atStart => exact ⟨0, Nat.zero_le _, by omega, rfl, H1.out⟩
  case round =>
    obtain ⟨i, hiN, hi1, rfl, HJ⟩ := hrel
    clear H1
    by_cases hlt : i < N
    · have g1 : (i : Int) < N := by omega
      have g2 : decide ((i : Int) < N) = true := decide_eq_true g1
      by_cases hlk : i < 1000
      · have g3 : (i : Int) < 1000 := by omega
        obtain ⟨y, hy⟩ : ∃ y, ys[i]? = some y := ⟨_, List.getElem?_eq_getElem (by have := HA.out.2.2; omega)⟩
        obtain ⟨b, off, rfl, hb, _, h1, _, h3⟩ := HA.out.1 i y hy
        have hky := HA.out.2.1 y (List.mem_of_getElem? hy)
        obtain ⟨F, hWh, hbl⟩ := HJ.out
        have c1 : wr.cell? ⟨b, off + i * 4 + 1, none⟩ = some (.int .i64 y.key) := (hbl.cell (p := ⟨b, off + i * 4 + 1, none⟩) hb).trans h1
        have c3 : wr.cell? ⟨b, off + i * 4 + 3, none⟩ = some (.int .i64 y.tick) := (hbl.cell (p := ⟨b, off + i * 4 + 3, none⟩) hb).trans h3
        have hstep := setsS_step (now := now) hy
        have hlen := setsS_len now (ys.take i) []
        rw [List.length_take] at hlen
        simp only [List.length_nil] at hlen
        have HC : Hid (∃ ev, Calls Try.prog 8 #[.pointer (some ⟨W, 0, none⟩), .int .i64 y.key, .int .i64 y.tick] wr.drew fun e w' => e = .returned ev ∧ Hid (WB w W now (setsS now [] (ys.take (i + 1))) w') ∧ w'.cell? ⟨b, off + i * 4 + 1, none⟩ = some (.int .i64 y.key) ∧ w'.cell? ⟨b, off + i * 4 + 3, none⟩ = some (.int .i64 y.tick)) := by
          have hst : ∀ w', WB w W now (setsS now [] (ys.take (i + 1))) w' → w'.cell? ⟨b, off + i * 4 + 1, none⟩ = some (.int .i64 y.key) ∧ w'.cell? ⟨b, off + i * 4 + 3, none⟩ = some (.int .i64 y.tick) := fun w' ⟨_, _, hb'⟩ => ⟨(hb'.cell (p := ⟨b, off + i * 4 + 1, none⟩) hb).trans h1, (hb'.cell (p := ⟨b, off + i * 4 + 3, none⟩) hb).trans h3⟩
          by_cases hok : okT now y.tick = true
          · have hok' := hok
            unfold okT at hok'
            simp only [Bool.and_eq_true, decide_eq_true_eq] at hok'
            obtain ⟨t, ht⟩ : ∃ t : Nat, y.tick = (t : Int) := ⟨y.tick.toNat, by omega⟩
            have hW2 : WB w W now (setsS now [] (ys.take i)) wr.drew := ⟨F, hWh.below (Below.drew (Below.refl _ _)), Below.drew hbl⟩
            refine ⟨.nilIface, ?_⟩
            rw [ht]
            refine (hW2.set (k := y.key) (t := t) hky.1 (by omega) (by unfold MaxT; omega) (by have := List.length_filter_le (keyNe y.key) (setsS now [] (ys.take i)); omega)).mono ?_
            rintro e w' ⟨he, hw'⟩
            have h9 : WB w W now (setsS now [] (ys.take (i + 1))) w' := by
              rw [hstep]
              unfold setOp
              rw [if_pos hok, ht, Int.toNat_natCast]
              exact hw'.out
            exact ⟨he, h9, (hst w' h9).1, by rw [← ht]; exact (hst w' h9).2⟩
          · refine ⟨.iface 70 (.pointer (some ⟨wr.drew.heap.size, 0, none⟩)), ?_⟩
            refine (set_range (hWh.below (Below.drew (Below.refl _ _))) y.key (t := y.tick) ?_).mono ?_
            · have hok' := hok
              unfold okT at hok'
              simp only [Bool.and_eq_true, decide_eq_true_eq] at hok'
              omega
            · rintro e w' ⟨b9, he, rfl, rfl⟩
              have hb9 : ∀ o, Below wr.heap.size wr (wr.drew.alloc o) := fun o => (Below.drew (Below.refl _ _)).alloc (Nat.le_refl _) _
              have h9 : WB w W now (setsS now [] (ys.take (i + 1))) (wr.drew.alloc (.cells #[.string ⟨#[119, 104, 101, 101, 108]⟩, .int .i64 0, .int .i64 2, .nilIface] 72)) := by
                rw [hstep]
                unfold setOp
                rw [if_neg hok]
                exact ⟨F, hWh.below (hb9 _), hbl.trans ((hb9 _).mono hbl.size)⟩
              exact ⟨he, h9, (hst _ h9).1, (hst _ h9).2⟩
        obtain ⟨ev, hcall⟩ := HC.out
        clear hWh hbl h1 h3 hstep hlen hky HC HJ hy
        go_wp2_with fail
        go_region_held3 (fun z => z.cell? ⟨b, off + i * 4 + 1, none⟩ = some (.int .i64 y.key) ∧ z.cell? ⟨b, off + i * 4 + 3, none⟩ = some (.int .i64 y.tick)) (simp [*]) (first | (go_at_call 8; refine hcall.mono ?_; rintro _ w5 ⟨rfl, H5, d1, d3⟩))
        go_wp2_with fail
        go_roundw
        case rel => exact ⟨i + 1, by omega, by omega, by go_num, H5.out⟩
        case measure => simp [intOf]; omega
      · have g3 : ¬ (i : Int) < 1000 := by omega
        obtain rfl : i = 1000 := by omega
        go_wp2_with fail
        go_ret
        exact ⟨rfl, HJ.out⟩
    · have g1 : ¬ (i : Int) < N := by omega
      have g2 : decide ((i : Int) < N) = false := decide_eq_false g1
      go_wp2_with fail
      go_ret
      refine ⟨rfl, ?_⟩
      have h9 := HJ.out
      rw [List.take_of_length_le (by have := HA.out.2.2; omega)] at h9
      rw [List.take_of_length_le (by have := HA.out.2.2; omega)]
      exact h9
end Go.Proofs.Ytinigpneohogaaa
