/-
  rules, mayBe: what makes an entry one that may be.
-/
import Derived.Test.YtjbkfppibnlmoaaDoorIbAll
import Derived.Laws.EntriesVeiled
import Derived.WalkMore
namespace Go.Proofs.YtjbkfppibnlmoaaDoor
open Go.RowKit

/-- The closures over the entry in block b. -/
def ruF (b : Nat) : Array Value := #[.func (.func 73) #[] #[.pointer (some ⟨b, 0, none⟩)], .func (.func 75) #[] #[.pointer (some ⟨b, 0, none⟩)], .func (.func 77) #[] #[.pointer (some ⟨b, 0, none⟩)], .func (.func 78) #[] #[.pointer (some ⟨b, 0, none⟩)], .func (.func 79) #[] #[.pointer (some ⟨b, 0, none⟩)], .func (.func 80) #[] #[.pointer (some ⟨b, 0, none⟩)], .func (.func 81) #[] #[.pointer (some ⟨b, 0, none⟩)], .func (.func 83) #[] #[.pointer (some ⟨b, 0, none⟩)]]
set_option maxRecDepth 100000 in
set_option maxHeartbeats 1000000 in
theorem rules_any (e : Ent) (w : World) : Calls Tryd.prog 68 #[.agg #[.string e.ct, .slice e.tp e.tn e.tc, .int .i64 e.nu, .int .i64 e.tk, .slice e.cp e.cn e.cc, .string e.cd, .slice e.ap e.an e.ac]] w fun r w' => r = .returned (.slice (some ⟨w.heap.size + 1, 0, none⟩) 8 8) ∧ Box w' w.heap.size #[.string e.ct, .slice e.tp e.tn e.tc, .int .i64 e.nu, .int .i64 e.tk, .slice e.cp e.cn e.cc, .string e.cd, .slice e.ap e.an e.ac] ∧ Box w' (w.heap.size + 1) (ruF w.heap.size) ∧ Below w.heap.size w w' := by
  have HB : Hid (∀ cs t, Below w.heap.size w ((w.alloc (.cells #[.string e.ct, .slice e.tp e.tn e.tc, .int .i64 e.nu, .int .i64 e.tk, .slice e.cp e.cn e.cc, .string e.cd, .slice e.ap e.an e.ac] 30)).alloc (.cells cs t)) ∧ Box ((w.alloc (.cells #[.string e.ct, .slice e.tp e.tn e.tc, .int .i64 e.nu, .int .i64 e.tk, .slice e.cp e.cn e.cc, .string e.cd, .slice e.ap e.an e.ac] 30)).alloc (.cells cs t)) w.heap.size #[.string e.ct, .slice e.tp e.tn e.tc, .int .i64 e.nu, .int .i64 e.tk, .slice e.cp e.cn e.cc, .string e.cd, .slice e.ap e.an e.ac] ∧ Box ((w.alloc (.cells #[.string e.ct, .slice e.tp e.tn e.tc, .int .i64 e.nu, .int .i64 e.tk, .slice e.cp e.cn e.cc, .string e.cd, .slice e.ap e.an e.ac] 30)).alloc (.cells cs t)) (w.heap.size + 1) cs) := fun cs t => by
    have by_ := Box.new (w.alloc (.cells #[.string e.ct, .slice e.tp e.tn e.tc, .int .i64 e.nu, .int .i64 e.tk, .slice e.cp e.cn e.cc, .string e.cd, .slice e.ap e.an e.ac] 30)) cs t
    rw [World.size_alloc] at by_
    exact ⟨((Below.refl _ _).alloc (Nat.le_refl _) _).alloc (by simp) _, (Box.new w #[.string e.ct, .slice e.tp e.tn e.tc, .int .i64 e.nu, .int .i64 e.tk, .slice e.cp e.cn e.cc, .string e.cd, .slice e.ap e.an e.ac] 30).alloc _, by_⟩
  go_enter Tryd.func68, Tryd.ntmps68
  go_wp2_with fail
  go_ret
  exact ⟨rfl, (HB.out _ _).2.1, (HB.out _ _).2.2, (HB.out _ _).1⟩
set_option maxHeartbeats 1000000 in
theorem ru0_any {e : Ent} {w : World} {b : Nat} (h : Box w b #[.string e.ct, .slice e.tp e.tn e.tc, .int .i64 e.nu, .int .i64 e.tk, .slice e.cp e.cn e.cc, .string e.cd, .slice e.ap e.an e.ac]) : Calls Tryd.prog 73 #[.pointer (some ⟨b, 0, none⟩)] w fun r w' => r = .returned (.bool (ruB e 0)) ∧ Below w.heap.size w w' := by
  have c := h.cell
  clear h
  have hc := isControl_any e.ct w
  go_enter Tryd.func73, Tryd.ntmps73
  go_wp2_with fail
  refine hc.mono ?_
  rintro _ w1 ⟨rfl, hb⟩
  have HB : Hid (Below w.heap.size w w1) := hb
  clear hb hc
  go_wp2_with fail
  go_ret
  exact ⟨rfl, HB.out⟩
set_option maxHeartbeats 1000000 in
theorem ru1_any {e : Ent} {w : World} {b : Nat} (h : Box w b #[.string e.ct, .slice e.tp e.tn e.tc, .int .i64 e.nu, .int .i64 e.tk, .slice e.cp e.cn e.cc, .string e.cd, .slice e.ap e.an e.ac]) : Calls Tryd.prog 75 #[.pointer (some ⟨b, 0, none⟩)] w fun r w' => r = .returned (.bool (ruB e 1)) ∧ Below w.heap.size w w' := by
  have c := h.cell
  clear h
  have hc := isWithin_any (e.tn : Int) 1 8192 w
  go_enter Tryd.func75, Tryd.ntmps75
  go_wp2_with fail
  refine hc.mono ?_
  rintro _ w1 ⟨rfl, rfl⟩
  clear hc
  go_wp2_with fail
  go_ret
  exact ⟨ret_bool (by unfold ruB; rw [Bool.eq_iff_iff]; simp; omega), Below.refl _ _⟩
set_option maxHeartbeats 1000000 in
theorem ru2_any {e : Ent} {w : World} {b : Nat} (h : Box w b #[.string e.ct, .slice e.tp e.tn e.tc, .int .i64 e.nu, .int .i64 e.tk, .slice e.cp e.cn e.cc, .string e.cd, .slice e.ap e.an e.ac]) : Calls Tryd.prog 77 #[.pointer (some ⟨b, 0, none⟩)] w fun r w' => r = .returned (.bool (ruB e 2)) ∧ Below w.heap.size w w' := by
  have c := h.cell
  clear h
  have hc := isWithin_any e.nu 0 2147483647 w
  go_enter Tryd.func77, Tryd.ntmps77
  go_wp2_with fail
  refine hc.mono ?_
  rintro _ w1 ⟨rfl, rfl⟩
  clear hc
  go_wp2_with fail
  go_ret
  exact ⟨ret_bool rfl, Below.refl _ _⟩
set_option maxHeartbeats 1000000 in
theorem ru3_any {e : Ent} {w : World} {b : Nat} (h : Box w b #[.string e.ct, .slice e.tp e.tn e.tc, .int .i64 e.nu, .int .i64 e.tk, .slice e.cp e.cn e.cc, .string e.cd, .slice e.ap e.an e.ac]) : Calls Tryd.prog 78 #[.pointer (some ⟨b, 0, none⟩)] w fun r w' => r = .returned (.bool (ruB e 3)) ∧ Below w.heap.size w w' := by
  have c := h.cell
  clear h
  have hc := isWithin_any e.tk 0 1099511627776 w
  go_enter Tryd.func78, Tryd.ntmps78
  go_wp2_with fail
  refine hc.mono ?_
  rintro _ w1 ⟨rfl, rfl⟩
  clear hc
  go_wp2_with fail
  go_ret
  exact ⟨ret_bool rfl, Below.refl _ _⟩
set_option maxHeartbeats 1000000 in
theorem ru4_any {e : Ent} {w : World} {b : Nat} (h : Box w b #[.string e.ct, .slice e.tp e.tn e.tc, .int .i64 e.nu, .int .i64 e.tk, .slice e.cp e.cn e.cc, .string e.cd, .slice e.ap e.an e.ac]) : Calls Tryd.prog 79 #[.pointer (some ⟨b, 0, none⟩)] w fun r w' => r = .returned (.bool (ruB e 4)) ∧ Below w.heap.size w w' := by
  have c := h.cell
  clear h
  go_enter Tryd.func79, Tryd.ntmps79
  go_wp2_with fail
  all_goals
    go_ret
    exact ⟨ret_bool (by unfold ruB; rw [Bool.eq_iff_iff]; simp; try omega), Below.refl _ _⟩
set_option maxHeartbeats 1000000 in
theorem ru5_any {e : Ent} {w : World} {b : Nat} (h : Box w b #[.string e.ct, .slice e.tp e.tn e.tc, .int .i64 e.nu, .int .i64 e.tk, .slice e.cp e.cn e.cc, .string e.cd, .slice e.ap e.an e.ac]) : Calls Tryd.prog 80 #[.pointer (some ⟨b, 0, none⟩)] w fun r w' => r = .returned (.bool (ruB e 5)) ∧ Below w.heap.size w w' := by
  have c := h.cell
  clear h
  go_enter Tryd.func80, Tryd.ntmps80
  go_wp2_with fail
  all_goals
    go_ret
    exact ⟨ret_bool (by unfold ruB; rw [Bool.eq_iff_iff]; simp; try omega), Below.refl _ _⟩
set_option maxHeartbeats 1000000 in
theorem ru6_any {e : Ent} {w : World} {b : Nat} (h : Box w b #[.string e.ct, .slice e.tp e.tn e.tc, .int .i64 e.nu, .int .i64 e.tk, .slice e.cp e.cn e.cc, .string e.cd, .slice e.ap e.an e.ac]) : Calls Tryd.prog 81 #[.pointer (some ⟨b, 0, none⟩)] w fun r w' => r = .returned (.bool (ruB e 6)) ∧ Below w.heap.size w w' := by
  have c := h.cell
  clear h
  have hc := isVerdict_any e.cd w
  cases h1 : e.cd.toList.isEmpty
  · go_enter Tryd.func81, Tryd.ntmps81
    go_wp2_with fail
    refine hc.mono ?_
    rintro _ w1 ⟨rfl, rfl⟩
    clear hc
    go_wp2_with fail
    go_ret
    exact ⟨ret_bool (by simp [ruB, h1]), Below.refl _ _⟩
  · clear hc
    go_enter Tryd.func81, Tryd.ntmps81
    go_wp2_with fail
    go_ret
    exact ⟨ret_bool (by simp [ruB, h1]), Below.refl _ _⟩
set_option maxHeartbeats 1000000 in
theorem ru7_any {e : Ent} {w : World} {b : Nat} (h : Box w b #[.string e.ct, .slice e.tp e.tn e.tc, .int .i64 e.nu, .int .i64 e.tk, .slice e.cp e.cn e.cc, .string e.cd, .slice e.ap e.an e.ac]) : Calls Tryd.prog 83 #[.pointer (some ⟨b, 0, none⟩)] w fun r w' => r = .returned (.bool (ruB e 7)) ∧ Below w.heap.size w w' := by
  have c := h.cell
  clear h
  cases h1 : e.cd.toList.isEmpty
  all_goals
    go_enter Tryd.func83, Tryd.ntmps83
    go_wp2_with fail
    all_goals
      go_ret
      exact ⟨ret_bool (by first | (simp [ruB, h1]; done) | (rw [Bool.eq_iff_iff]; simp [ruB, h1]; done)), Below.refl _ _⟩
set_option maxRecDepth 100000 in
set_option maxHeartbeats 4000000 in
theorem mayBe_any (e : Ent) (w : World) : Calls Tryd.prog 53 #[.agg #[.string e.ct, .slice e.tp e.tn e.tc, .int .i64 e.nu, .int .i64 e.tk, .slice e.cp e.cn e.cc, .string e.cd, .slice e.ap e.an e.ac]] w fun r w' => r = .returned (.bool (mayB e)) ∧ Below w.heap.size w w' := by
  have bv : Below w.heap.size w (w.alloc (.cells #[.string e.ct, .slice e.tp e.tn e.tc, .int .i64 e.nu, .int .i64 e.tk, .slice e.cp e.cn e.cc, .string e.cd, .slice e.ap e.an e.ac] 30)) := (Below.refl _ _).alloc (Nat.le_refl _) _
  have bx := Box.new w #[.string e.ct, .slice e.tp e.tn e.tc, .int .i64 e.nu, .int .i64 e.tk, .slice e.cp e.cn e.cc, .string e.cd, .slice e.ap e.an e.ac] 30
  have hru := rules_any e (w.alloc (.cells #[.string e.ct, .slice e.tp e.tn e.tc, .int .i64 e.nu, .int .i64 e.tk, .slice e.cp e.cn e.cc, .string e.cd, .slice e.ap e.an e.ac] 30))
  obtain ⟨V, hV⟩ : ∃ V, w.alloc (.cells #[.string e.ct, .slice e.tp e.tn e.tc, .int .i64 e.nu, .int .i64 e.tk, .slice e.cp e.cn e.cc, .string e.cd, .slice e.ap e.an e.ac] 30) = V := ⟨_, rfl⟩
  have HB0 : Hid (Below w.heap.size w V) := by unfold Hid; rw [← hV]; exact bv
  have c := bx.cell
  rw [hV] at hru c
  clear bv bx
  go_enter Tryd.func53, Tryd.ntmps53
  go_wp2_with fail
  go_step3
  go_wp2_with fail
  go_step3
  go_wp2_with fail
  clear hV
  refine hru.mono ?_
  rintro _ w1 ⟨rfl, hx, hf, hb⟩
  have HX : Hid (Box w1 V.heap.size #[.string e.ct, .slice e.tp e.tn e.tc, .int .i64 e.nu, .int .i64 e.tk, .slice e.cp e.cn e.cc, .string e.cd, .slice e.ap e.an e.ac] ∧ Box w1 (V.heap.size + 1) (ruF V.heap.size)) := ⟨hx, hf⟩
  have HB1 : Hid (Below w.heap.size w w1) := below_then HB0.out hb
  obtain ⟨vb, hvb⟩ : ∃ vb, V.heap.size = vb := ⟨_, rfl⟩
  rw [hvb] at HX ⊢
  clear hru hx hf hb c hvb HB0
  go_wp2_with fail
  go_loopw [3, 9] (fun t3 t9 wx => t3 = .bool true ∧ ∃ i : Nat, i ≤ 8 ∧ t9 = .int .i64 i ∧ Hid (Below w1.heap.size w1 wx ∧ ∀ j, j < i → ruB e j = true)) (fun _ t9 _ => 8 - (intOf t9).toNat)
  case atStart => exact ⟨rfl, 0, Nat.zero_le _, rfl, Below.refl _ _, fun j hj => by omega⟩
  case round =>
    obtain ⟨rfl, i, hi, rfl, HR⟩ := hrel
    have hx1 := HX.out.1.below HR.out.1
    have hf1 := (HX.out.2.below HR.out.1).cell i
    rcases (by omega : i = 0 ∨ i = 1 ∨ i = 2 ∨ i = 3 ∨ i = 4 ∨ i = 5 ∨ i = 6 ∨ i = 7 ∨ i = 8) with rfl | rfl | rfl | rfl | rfl | rfl | rfl | rfl | rfl
    · have hc := ru0_any hx1
      simp [ruF] at hf1
      cases hr : ruB e 0 with
      | true =>
        rw [hr] at hc
        have HH : Hid (ruB e 0 = true) := hr
        clear hr hx1
        go_wp2_with fail
        refine hc.mono ?_
        rintro _ w2 ⟨rfl, hb2⟩
        have HB2 : Hid (Below w1.heap.size w1 w2) := below_then HR.out.1 hb2
        clear hb2 hc hf1
        go_wp2_with fail
        go_roundw
        case rel => exact ⟨rfl, 1, by omega, by go_num, HB2.out, fun j hj => if g : j < 0 then HR.out.2 j g else by obtain rfl : j = 0 := (by omega); exact HH.out⟩
        case measure => simp [intOf]
      | false =>
        rw [hr] at hc
        have HH : Hid (mayB e = false) := mayB_no (by decide) hr
        clear hr hx1
        go_wp2_with fail
        refine hc.mono ?_
        rintro _ w2 ⟨rfl, hb2⟩
        have HB2 : Hid (Below w1.heap.size w1 w2) := below_then HR.out.1 hb2
        clear hb2 hc hf1
        go_wp2_with fail
        rw [Exit.noGoto_ret]
        go_ret
        exact ⟨ret_bool HH.out.symm, below_then HB1.out HB2.out⟩
    · have hc := ru1_any hx1
      simp [ruF] at hf1
      cases hr : ruB e 1 with
      | true =>
        rw [hr] at hc
        have HH : Hid (ruB e 1 = true) := hr
        clear hr hx1
        go_wp2_with fail
        refine hc.mono ?_
        rintro _ w2 ⟨rfl, hb2⟩
        have HB2 : Hid (Below w1.heap.size w1 w2) := below_then HR.out.1 hb2
        clear hb2 hc hf1
        go_wp2_with fail
        go_roundw
        case rel => exact ⟨rfl, 2, by omega, by go_num, HB2.out, fun j hj => if g : j < 1 then HR.out.2 j g else by obtain rfl : j = 1 := (by omega); exact HH.out⟩
        case measure => simp [intOf]
      | false =>
        rw [hr] at hc
        have HH : Hid (mayB e = false) := mayB_no (by decide) hr
        clear hr hx1
        go_wp2_with fail
        refine hc.mono ?_
        rintro _ w2 ⟨rfl, hb2⟩
        have HB2 : Hid (Below w1.heap.size w1 w2) := below_then HR.out.1 hb2
        clear hb2 hc hf1
        go_wp2_with fail
        rw [Exit.noGoto_ret]
        go_ret
        exact ⟨ret_bool HH.out.symm, below_then HB1.out HB2.out⟩
    · have hc := ru2_any hx1
      simp [ruF] at hf1
      cases hr : ruB e 2 with
      | true =>
        rw [hr] at hc
        have HH : Hid (ruB e 2 = true) := hr
        clear hr hx1
        go_wp2_with fail
        refine hc.mono ?_
        rintro _ w2 ⟨rfl, hb2⟩
        have HB2 : Hid (Below w1.heap.size w1 w2) := below_then HR.out.1 hb2
        clear hb2 hc hf1
        go_wp2_with fail
        go_roundw
        case rel => exact ⟨rfl, 3, by omega, by go_num, HB2.out, fun j hj => if g : j < 2 then HR.out.2 j g else by obtain rfl : j = 2 := (by omega); exact HH.out⟩
        case measure => simp [intOf]
      | false =>
        rw [hr] at hc
        have HH : Hid (mayB e = false) := mayB_no (by decide) hr
        clear hr hx1
        go_wp2_with fail
        refine hc.mono ?_
        rintro _ w2 ⟨rfl, hb2⟩
        have HB2 : Hid (Below w1.heap.size w1 w2) := below_then HR.out.1 hb2
        clear hb2 hc hf1
        go_wp2_with fail
        rw [Exit.noGoto_ret]
        go_ret
        exact ⟨ret_bool HH.out.symm, below_then HB1.out HB2.out⟩
    · have hc := ru3_any hx1
      simp [ruF] at hf1
      cases hr : ruB e 3 with
      | true =>
        rw [hr] at hc
        have HH : Hid (ruB e 3 = true) := hr
        clear hr hx1
        go_wp2_with fail
        refine hc.mono ?_
        rintro _ w2 ⟨rfl, hb2⟩
        have HB2 : Hid (Below w1.heap.size w1 w2) := below_then HR.out.1 hb2
        clear hb2 hc hf1
        go_wp2_with fail
        go_roundw
        case rel => exact ⟨rfl, 4, by omega, by go_num, HB2.out, fun j hj => if g : j < 3 then HR.out.2 j g else by obtain rfl : j = 3 := (by omega); exact HH.out⟩
        case measure => simp [intOf]
      | false =>
        rw [hr] at hc
        have HH : Hid (mayB e = false) := mayB_no (by decide) hr
        clear hr hx1
        go_wp2_with fail
        refine hc.mono ?_
        rintro _ w2 ⟨rfl, hb2⟩
        have HB2 : Hid (Below w1.heap.size w1 w2) := below_then HR.out.1 hb2
        clear hb2 hc hf1
        go_wp2_with fail
        rw [Exit.noGoto_ret]
        go_ret
        exact ⟨ret_bool HH.out.symm, below_then HB1.out HB2.out⟩
    · have hc := ru4_any hx1
      simp [ruF] at hf1
      cases hr : ruB e 4 with
      | true =>
        rw [hr] at hc
        have HH : Hid (ruB e 4 = true) := hr
        clear hr hx1
        go_wp2_with fail
        refine hc.mono ?_
        rintro _ w2 ⟨rfl, hb2⟩
        have HB2 : Hid (Below w1.heap.size w1 w2) := below_then HR.out.1 hb2
        clear hb2 hc hf1
        go_wp2_with fail
        go_roundw
        case rel => exact ⟨rfl, 5, by omega, by go_num, HB2.out, fun j hj => if g : j < 4 then HR.out.2 j g else by obtain rfl : j = 4 := (by omega); exact HH.out⟩
        case measure => simp [intOf]
      | false =>
        rw [hr] at hc
        have HH : Hid (mayB e = false) := mayB_no (by decide) hr
        clear hr hx1
        go_wp2_with fail
        refine hc.mono ?_
        rintro _ w2 ⟨rfl, hb2⟩
        have HB2 : Hid (Below w1.heap.size w1 w2) := below_then HR.out.1 hb2
        clear hb2 hc hf1
        go_wp2_with fail
        rw [Exit.noGoto_ret]
        go_ret
        exact ⟨ret_bool HH.out.symm, below_then HB1.out HB2.out⟩
    · have hc := ru5_any hx1
      simp [ruF] at hf1
      cases hr : ruB e 5 with
      | true =>
        rw [hr] at hc
        have HH : Hid (ruB e 5 = true) := hr
        clear hr hx1
        go_wp2_with fail
        refine hc.mono ?_
        rintro _ w2 ⟨rfl, hb2⟩
        have HB2 : Hid (Below w1.heap.size w1 w2) := below_then HR.out.1 hb2
        clear hb2 hc hf1
        go_wp2_with fail
        go_roundw
        case rel => exact ⟨rfl, 6, by omega, by go_num, HB2.out, fun j hj => if g : j < 5 then HR.out.2 j g else by obtain rfl : j = 5 := (by omega); exact HH.out⟩
        case measure => simp [intOf]
      | false =>
        rw [hr] at hc
        have HH : Hid (mayB e = false) := mayB_no (by decide) hr
        clear hr hx1
        go_wp2_with fail
        refine hc.mono ?_
        rintro _ w2 ⟨rfl, hb2⟩
        have HB2 : Hid (Below w1.heap.size w1 w2) := below_then HR.out.1 hb2
        clear hb2 hc hf1
        go_wp2_with fail
        rw [Exit.noGoto_ret]
        go_ret
        exact ⟨ret_bool HH.out.symm, below_then HB1.out HB2.out⟩
    · have hc := ru6_any hx1
      simp [ruF] at hf1
      cases hr : ruB e 6 with
      | true =>
        rw [hr] at hc
        have HH : Hid (ruB e 6 = true) := hr
        clear hr hx1
        go_wp2_with fail
        refine hc.mono ?_
        rintro _ w2 ⟨rfl, hb2⟩
        have HB2 : Hid (Below w1.heap.size w1 w2) := below_then HR.out.1 hb2
        clear hb2 hc hf1
        go_wp2_with fail
        go_roundw
        case rel => exact ⟨rfl, 7, by omega, by go_num, HB2.out, fun j hj => if g : j < 6 then HR.out.2 j g else by obtain rfl : j = 6 := (by omega); exact HH.out⟩
        case measure => simp [intOf]
      | false =>
        rw [hr] at hc
        have HH : Hid (mayB e = false) := mayB_no (by decide) hr
        clear hr hx1
        go_wp2_with fail
        refine hc.mono ?_
        rintro _ w2 ⟨rfl, hb2⟩
        have HB2 : Hid (Below w1.heap.size w1 w2) := below_then HR.out.1 hb2
        clear hb2 hc hf1
        go_wp2_with fail
        rw [Exit.noGoto_ret]
        go_ret
        exact ⟨ret_bool HH.out.symm, below_then HB1.out HB2.out⟩
    · have hc := ru7_any hx1
      simp [ruF] at hf1
      cases hr : ruB e 7 with
      | true =>
        rw [hr] at hc
        have HH : Hid (ruB e 7 = true) := hr
        clear hr hx1
        go_wp2_with fail
        refine hc.mono ?_
        rintro _ w2 ⟨rfl, hb2⟩
        have HB2 : Hid (Below w1.heap.size w1 w2) := below_then HR.out.1 hb2
        clear hb2 hc hf1
        go_wp2_with fail
        go_roundw
        case rel => exact ⟨rfl, 8, by omega, by go_num, HB2.out, fun j hj => if g : j < 7 then HR.out.2 j g else by obtain rfl : j = 7 := (by omega); exact HH.out⟩
        case measure => simp [intOf]
      | false =>
        rw [hr] at hc
        have HH : Hid (mayB e = false) := mayB_no (by decide) hr
        clear hr hx1
        go_wp2_with fail
        refine hc.mono ?_
        rintro _ w2 ⟨rfl, hb2⟩
        have HB2 : Hid (Below w1.heap.size w1 w2) := below_then HR.out.1 hb2
        clear hb2 hc hf1
        go_wp2_with fail
        rw [Exit.noGoto_ret]
        go_ret
        exact ⟨ret_bool HH.out.symm, below_then HB1.out HB2.out⟩
    · have HH : Hid (mayB e = true) := mayB_all HR.out.2
      clear hx1 hf1
      go_wp2_with fail
      rw [Exit.noGoto_ret]
      go_ret
      exact ⟨ret_bool HH.out.symm, below_then HB1.out HR.out.1⟩
end Go.Proofs.YtjbkfppibnlmoaaDoor
