import Derived.Test.YtjbkfppibnlmoaaGreatDoorIbAll
import Derived.Laws.EntriesVeiled
import Derived.WalkMore
/-
  rules, mayBe: what makes an entry one that may be.
-/
namespace Go.Proofs.YtjbkfppibnlmoaaGreatDoor
open Go.RowKit

/-- The closures over the entry in block b. -/
def ruF (b : Nat) : Array Value := #[.func (.func 91) #[] #[.pointer (some ⟨b, 0, none⟩)], .func (.func 93) #[] #[.pointer (some ⟨b, 0, none⟩)], .func (.func 95) #[] #[.pointer (some ⟨b, 0, none⟩)], .func (.func 96) #[] #[.pointer (some ⟨b, 0, none⟩)], .func (.func 97) #[] #[.pointer (some ⟨b, 0, none⟩)], .func (.func 98) #[] #[.pointer (some ⟨b, 0, none⟩)], .func (.func 99) #[] #[.pointer (some ⟨b, 0, none⟩)], .func (.func 100) #[] #[.pointer (some ⟨b, 0, none⟩)]]
set_option maxRecDepth 100000 in
set_option maxHeartbeats 1000000 in
theorem rules_any (e : Ent) (w : World) : Calls Tryz.prog 86 #[.agg #[.string e.ct, .slice e.tp e.tn e.tc, .int .i64 e.nu, .int .i64 e.tk, .slice e.cp e.cn e.cc, .string e.cd, .slice e.ap e.an e.ac]] w fun r w' => r = .returned (.slice (some ⟨w.heap.size + 1, 0, none⟩) 8 8) ∧ Box w' w.heap.size #[.string e.ct, .slice e.tp e.tn e.tc, .int .i64 e.nu, .int .i64 e.tk, .slice e.cp e.cn e.cc, .string e.cd, .slice e.ap e.an e.ac] ∧ Box w' (w.heap.size + 1) (ruF w.heap.size) ∧ Below w.heap.size w w' := by
  have HB : Hid (∀ cs t, Below w.heap.size w ((w.alloc (.cells #[.string e.ct, .slice e.tp e.tn e.tc, .int .i64 e.nu, .int .i64 e.tk, .slice e.cp e.cn e.cc, .string e.cd, .slice e.ap e.an e.ac] 30)).alloc (.cells cs t)) ∧ Box ((w.alloc (.cells #[.string e.ct, .slice e.tp e.tn e.tc, .int .i64 e.nu, .int .i64 e.tk, .slice e.cp e.cn e.cc, .string e.cd, .slice e.ap e.an e.ac] 30)).alloc (.cells cs t)) w.heap.size #[.string e.ct, .slice e.tp e.tn e.tc, .int .i64 e.nu, .int .i64 e.tk, .slice e.cp e.cn e.cc, .string e.cd, .slice e.ap e.an e.ac] ∧ Box ((w.alloc (.cells #[.string e.ct, .slice e.tp e.tn e.tc, .int .i64 e.nu, .int .i64 e.tk, .slice e.cp e.cn e.cc, .string e.cd, .slice e.ap e.an e.ac] 30)).alloc (.cells cs t)) (w.heap.size + 1) cs) := fun cs t => by
    have by_ := Box.new (w.alloc (.cells #[.string e.ct, .slice e.tp e.tn e.tc, .int .i64 e.nu, .int .i64 e.tk, .slice e.cp e.cn e.cc, .string e.cd, .slice e.ap e.an e.ac] 30)) cs t
    rw [World.size_alloc] at by_
    exact ⟨((Below.refl _ _).alloc (Nat.le_refl _) _).alloc (by simp) _, (Box.new w #[.string e.ct, .slice e.tp e.tn e.tc, .int .i64 e.nu, .int .i64 e.tk, .slice e.cp e.cn e.cc, .string e.cd, .slice e.ap e.an e.ac] 30).alloc _, by_⟩
  go_enter Tryz.func86, Tryz.ntmps86
  go_wp2_with fail
  go_ret
  exact ⟨rfl, (HB.out _ _).2.1, (HB.out _ _).2.2, (HB.out _ _).1⟩
set_option maxHeartbeats 1000000 in
theorem ru0_any {e : Ent} {w : World} {b : Nat} (h : Box w b #[.string e.ct, .slice e.tp e.tn e.tc, .int .i64 e.nu, .int .i64 e.tk, .slice e.cp e.cn e.cc, .string e.cd, .slice e.ap e.an e.ac]) : Calls Tryz.prog 91 #[.pointer (some ⟨b, 0, none⟩)] w fun r w' => r = .returned (.bool (ruB e 0)) ∧ Below w.heap.size w w' := by
  have c := h.cell
  clear h
  have hc := isControl_any e.ct w
  go_enter Tryz.func91, Tryz.ntmps91
  go_wp2_with fail
  refine hc.mono ?_
  rintro _ w1 ⟨rfl, hb⟩
  have HB : Hid (Below w.heap.size w w1) := hb
  clear hb hc
  go_wp2_with fail
  go_ret
  exact ⟨rfl, HB.out⟩
set_option maxHeartbeats 1000000 in
theorem ru1_any {e : Ent} {w : World} {b : Nat} (h : Box w b #[.string e.ct, .slice e.tp e.tn e.tc, .int .i64 e.nu, .int .i64 e.tk, .slice e.cp e.cn e.cc, .string e.cd, .slice e.ap e.an e.ac]) : Calls Tryz.prog 93 #[.pointer (some ⟨b, 0, none⟩)] w fun r w' => r = .returned (.bool (ruB e 1)) ∧ Below w.heap.size w w' := by
  have c := h.cell
  clear h
  have hc := isWithin_any (e.tn : Int) 1 8192 w
  go_enter Tryz.func93, Tryz.ntmps93
  go_wp2_with fail
  refine hc.mono ?_
  rintro _ w1 ⟨rfl, rfl⟩
  clear hc
  go_wp2_with fail
  go_ret
  exact ⟨ret_bool (by unfold ruB; rw [Bool.eq_iff_iff]; simp; omega), Below.refl _ _⟩
set_option maxHeartbeats 1000000 in
theorem ru2_any {e : Ent} {w : World} {b : Nat} (h : Box w b #[.string e.ct, .slice e.tp e.tn e.tc, .int .i64 e.nu, .int .i64 e.tk, .slice e.cp e.cn e.cc, .string e.cd, .slice e.ap e.an e.ac]) : Calls Tryz.prog 95 #[.pointer (some ⟨b, 0, none⟩)] w fun r w' => r = .returned (.bool (ruB e 2)) ∧ Below w.heap.size w w' := by
  have c := h.cell
  clear h
  have hc := isWithin_any e.nu 0 2147483647 w
  go_enter Tryz.func95, Tryz.ntmps95
  go_wp2_with fail
  refine hc.mono ?_
  rintro _ w1 ⟨rfl, rfl⟩
  clear hc
  go_wp2_with fail
  go_ret
  exact ⟨ret_bool rfl, Below.refl _ _⟩
set_option maxHeartbeats 1000000 in
theorem ru3_any {e : Ent} {w : World} {b : Nat} (h : Box w b #[.string e.ct, .slice e.tp e.tn e.tc, .int .i64 e.nu, .int .i64 e.tk, .slice e.cp e.cn e.cc, .string e.cd, .slice e.ap e.an e.ac]) : Calls Tryz.prog 96 #[.pointer (some ⟨b, 0, none⟩)] w fun r w' => r = .returned (.bool (ruB e 3)) ∧ Below w.heap.size w w' := by
  have c := h.cell
  clear h
  have hc := isWithin_any e.tk 0 1099511627776 w
  go_enter Tryz.func96, Tryz.ntmps96
  go_wp2_with fail
  refine hc.mono ?_
  rintro _ w1 ⟨rfl, rfl⟩
  clear hc
  go_wp2_with fail
  go_ret
  exact ⟨ret_bool rfl, Below.refl _ _⟩
set_option maxHeartbeats 1000000 in
theorem ru4_any {e : Ent} {w : World} {b : Nat} (h : Box w b #[.string e.ct, .slice e.tp e.tn e.tc, .int .i64 e.nu, .int .i64 e.tk, .slice e.cp e.cn e.cc, .string e.cd, .slice e.ap e.an e.ac]) : Calls Tryz.prog 97 #[.pointer (some ⟨b, 0, none⟩)] w fun r w' => r = .returned (.bool (ruB e 4)) ∧ Below w.heap.size w w' := by
  have c := h.cell
  clear h
  go_enter Tryz.func97, Tryz.ntmps97
  go_wp2_with fail
  all_goals
    go_ret
    exact ⟨ret_bool (by unfold ruB; rw [Bool.eq_iff_iff]; simp; try omega), Below.refl _ _⟩
set_option maxHeartbeats 1000000 in
theorem ru5_any {e : Ent} {w : World} {b : Nat} (h : Box w b #[.string e.ct, .slice e.tp e.tn e.tc, .int .i64 e.nu, .int .i64 e.tk, .slice e.cp e.cn e.cc, .string e.cd, .slice e.ap e.an e.ac]) : Calls Tryz.prog 98 #[.pointer (some ⟨b, 0, none⟩)] w fun r w' => r = .returned (.bool (ruB e 5)) ∧ Below w.heap.size w w' := by
  have c := h.cell
  clear h
  go_enter Tryz.func98, Tryz.ntmps98
  go_wp2_with fail
  all_goals
    go_ret
    exact ⟨ret_bool (by unfold ruB; rw [Bool.eq_iff_iff]; simp; try omega), Below.refl _ _⟩
set_option maxHeartbeats 1000000 in
theorem ru6_any {e : Ent} {w : World} {b : Nat} (h : Box w b #[.string e.ct, .slice e.tp e.tn e.tc, .int .i64 e.nu, .int .i64 e.tk, .slice e.cp e.cn e.cc, .string e.cd, .slice e.ap e.an e.ac]) : Calls Tryz.prog 99 #[.pointer (some ⟨b, 0, none⟩)] w fun r w' => r = .returned (.bool (ruB e 6)) ∧ Below w.heap.size w w' := by
  have c := h.cell
  clear h
  have hc := isVerdict_any e.cd w
  cases h1 : e.cd.toList.isEmpty
  · go_enter Tryz.func99, Tryz.ntmps99
    go_wp2_with fail
    refine hc.mono ?_
    rintro _ w1 ⟨rfl, rfl⟩
    clear hc
    go_wp2_with fail
    go_ret
    exact ⟨ret_bool (by simp [ruB, h1]), Below.refl _ _⟩
  · clear hc
    go_enter Tryz.func99, Tryz.ntmps99
    go_wp2_with fail
    go_ret
    exact ⟨ret_bool (by simp [ruB, h1]), Below.refl _ _⟩
set_option maxHeartbeats 1000000 in
theorem ru7_any {e : Ent} {w : World} {b : Nat} (h : Box w b #[.string e.ct, .slice e.tp e.tn e.tc, .int .i64 e.nu, .int .i64 e.tk, .slice e.cp e.cn e.cc, .string e.cd, .slice e.ap e.an e.ac]) : Calls Tryz.prog 100 #[.pointer (some ⟨b, 0, none⟩)] w fun r w' => r = .returned (.bool (ruB e 7)) ∧ Below w.heap.size w w' := by
  have c := h.cell
  clear h
  cases h1 : e.cd.toList.isEmpty
  all_goals
    go_enter Tryz.func100, Tryz.ntmps100
    go_wp2_with fail
    all_goals
      go_ret
      exact ⟨ret_bool (by first | (simp [ruB, h1]; done) | (rw [Bool.eq_iff_iff]; simp [ruB, h1]; done)), Below.refl _ _⟩
set_option maxRecDepth 100000 in
set_option maxHeartbeats 4000000 in
theorem mayBe_any (e : Ent) (w : World) : Calls Tryz.prog 72 #[.agg #[.string e.ct, .slice e.tp e.tn e.tc, .int .i64 e.nu, .int .i64 e.tk, .slice e.cp e.cn e.cc, .string e.cd, .slice e.ap e.an e.ac]] w fun r w' => r = .returned (.bool (mayB e)) ∧ Below w.heap.size w w' := by
  have bv : Below w.heap.size w (w.alloc (.cells #[.string e.ct, .slice e.tp e.tn e.tc, .int .i64 e.nu, .int .i64 e.tk, .slice e.cp e.cn e.cc, .string e.cd, .slice e.ap e.an e.ac] 30)) := (Below.refl _ _).alloc (Nat.le_refl _) _
  have bx := Box.new w #[.string e.ct, .slice e.tp e.tn e.tc, .int .i64 e.nu, .int .i64 e.tk, .slice e.cp e.cn e.cc, .string e.cd, .slice e.ap e.an e.ac] 30
  have hru := rules_any e (w.alloc (.cells #[.string e.ct, .slice e.tp e.tn e.tc, .int .i64 e.nu, .int .i64 e.tk, .slice e.cp e.cn e.cc, .string e.cd, .slice e.ap e.an e.ac] 30))
  obtain ⟨V, hV⟩ : ∃ V, w.alloc (.cells #[.string e.ct, .slice e.tp e.tn e.tc, .int .i64 e.nu, .int .i64 e.tk, .slice e.cp e.cn e.cc, .string e.cd, .slice e.ap e.an e.ac] 30) = V := ⟨_, rfl⟩
  have HB0 : Hid (Below w.heap.size w V) := by unfold Hid; rw [← hV]; exact bv
  have c := bx.cell
  rw [hV] at hru c
  clear bv bx
  go_enter Tryz.func72, Tryz.ntmps72
  go_wp2_with fail
  go_step3
  go_wp2_with fail
  go_step3
  go_wp2_with fail
  clear hV
  refine hru.mono ?_
  rintro _ w1 ⟨rfl, hx, hf, hb⟩
  have HX : Hid (Box w1 V.heap.size #[.string e.ct, .slice e.tp e.tn e.tc, .int .i64 e.nu, .int .i64 e.tk, .slice e.cp e.cn e.cc, .string e.cd, .slice e.ap e.an e.ac] ∧ Box w1 (V.heap.size + 1) (ruF V.heap.size)) := ⟨hx, hf⟩
  have HB1 : Hid (Below w.heap.size w w1) := below_then HB0.out hb
  obtain ⟨vb, hvb⟩ : ∃ vb, V.heap.size = vb := ⟨_, rfl⟩
  rw [hvb] at HX ⊢
  clear hru hx hf hb c hvb HB0
  go_wp2_with fail
  go_loopw [3, 9] (fun t3 t9 wx => t3 = .bool true ∧ ∃ i : Nat, i ≤ 8 ∧ t9 = .int .i64 i ∧ Hid (Below w1.heap.size w1 wx ∧ ∀ j, j < i → ruB e j = true)) (fun _ t9 _ => 8 - (intOf t9).toNat)
  case atStart => exact ⟨rfl, 0, Nat.zero_le _, rfl, Below.refl _ _, fun j hj => by omega⟩
  case round =>
    obtain ⟨rfl, i, hi, rfl, HR⟩ := hrel
    have hx1 := HX.out.1.below HR.out.1
    have hf1 := (HX.out.2.below HR.out.1).cell i
    rcases (by omega : i = 0 ∨ i = 1 ∨ i = 2 ∨ i = 3 ∨ i = 4 ∨ i = 5 ∨ i = 6 ∨ i = 7 ∨ i = 8) with rfl | rfl | rfl | rfl | rfl | rfl | rfl | rfl | rfl
    · have hc := ru0_any hx1
      simp [ruF] at hf1
      cases hr : ruB e 0 with
      | true =>
        rw [hr] at hc
        have HH : Hid (ruB e 0 = true) := hr
        clear hr hx1
        go_wp2_with fail
        refine hc.mono ?_
        rintro _ w2 ⟨rfl, hb2⟩
        have HB2 : Hid (Below w1.heap.size w1 w2) := below_then HR.out.1 hb2
        clear hb2 hc hf1
        go_wp2_with fail
        go_roundw
        case rel => exact ⟨rfl, 1, by omega, by go_num, HB2.out, fun j hj => if g : j < 0 then HR.out.2 j g else by obtain rfl : j = 0 := (by omega); exact HH.out⟩
        case measure => simp [intOf]
      | false =>
        rw [hr] at hc
        have HH : Hid (mayB e = false) := mayB_no (by decide) hr
        clear hr hx1
        go_wp2_with fail
        refine hc.mono ?_
        rintro _ w2 ⟨rfl, hb2⟩
        have HB2 : Hid (Below w1.heap.size w1 w2) := below_then HR.out.1 hb2
        clear hb2 hc hf1
        go_wp2_with fail
        rw [Exit.noGoto_ret]
        go_ret
        exact ⟨ret_bool HH.out.symm, below_then HB1.out HB2.out⟩
    · have hc := ru1_any hx1
      simp [ruF] at hf1
      cases hr : ruB e 1 with
      | true =>
        rw [hr] at hc
        have HH : Hid (ruB e 1 = true) := hr
        clear hr hx1
        go_wp2_with fail
        refine hc.mono ?_
        rintro _ w2 ⟨rfl, hb2⟩
        have HB2 : Hid (Below w1.heap.size w1 w2) := below_then HR.out.1 hb2
        clear hb2 hc hf1
        go_wp2_with fail
        go_roundw
        case rel => exact ⟨rfl, 2, by omega, by go_num, HB2.out, fun j hj => if g : j < 1 then HR.out.2 j g else by obtain rfl : j = 1 := (by omega); exact HH.out⟩
        case measure => simp [intOf]
      | false =>
        rw [hr] at hc
        have HH : Hid (mayB e = false) := mayB_no (by decide) hr
        clear hr hx1
        go_wp2_with fail
        refine hc.mono ?_
        rintro _ w2 ⟨rfl, hb2⟩
        have HB2 : Hid (Below w1.heap.size w1 w2) := below_then HR.out.1 hb2
        clear hb2 hc hf1
        go_wp2_with fail
        rw [Exit.noGoto_ret]
        go_ret
        exact ⟨ret_bool HH.out.symm, below_then HB1.out HB2.out⟩
    · have hc := ru2_any hx1
      simp [ruF] at hf1
      cases hr : ruB e 2 with
      | true =>
        rw [hr] at hc
        have HH : Hid (ruB e 2 = true) := hr
        clear hr hx1
        go_wp2_with fail
        refine hc.mono ?_
        rintro _ w2 ⟨rfl, hb2⟩
        have HB2 : Hid (Below w1.heap.size w1 w2) := below_then HR.out.1 hb2
        clear hb2 hc hf1
        go_wp2_with fail
        go_roundw
        case rel => exact ⟨rfl, 3, by omega, by go_num, HB2.out, fun j hj => if g : j < 2 then HR.out.2 j g else by obtain rfl : j = 2 := (by omega); exact HH.out⟩
        case measure => simp [intOf]
      | false =>
        rw [hr] at hc
        have HH : Hid (mayB e = false) := mayB_no (by decide) hr
        clear hr hx1
        go_wp2_with fail
        refine hc.mono ?_
        rintro _ w2 ⟨rfl, hb2⟩
        have HB2 : Hid (Below w1.heap.size w1 w2) := below_then HR.out.1 hb2
        clear hb2 hc hf1
        go_wp2_with fail
        rw [Exit.noGoto_ret]
        go_ret
        exact ⟨ret_bool HH.out.symm, below_then HB1.out HB2.out⟩
    · have hc := ru3_any hx1
      simp [ruF] at hf1
      cases hr : ruB e 3 with
      | true =>
        rw [hr] at hc
        have HH : Hid (ruB e 3 = true) := hr
        clear hr hx1
        go_wp2_with fail
        refine hc.mono ?_
        rintro _ w2 ⟨rfl, hb2⟩
        have HB2 : Hid (Below w1.heap.size w1 w2) := below_then HR.out.1 hb2
        clear hb2 hc hf1
        go_wp2_with fail
        go_roundw
        case rel => exact ⟨rfl, 4, by omega, by go_num, HB2.out, fun j hj => if g : j < 3 then HR.out.2 j g else by obtain rfl : j = 3 := (by omega); exact HH.out⟩
        case measure => simp [intOf]
      | false =>
        rw [hr] at hc
        have HH : Hid (mayB e = false) := mayB_no (by decide) hr
        clear hr hx1
        go_wp2_with fail
        refine hc.mono ?_
        rintro _ w2 ⟨rfl, hb2⟩
        have HB2 : Hid (Below w1.heap.size w1 w2) := below_then HR.out.1 hb2
        clear hb2 hc hf1
        go_wp2_with fail
        rw [Exit.noGoto_ret]
        go_ret
        exact ⟨ret_bool HH.out.symm, below_then HB1.out HB2.out⟩
    · have hc := ru4_any hx1
      simp [ruF] at hf1
      cases hr : ruB e 4 with
      | true =>
        rw [hr] at hc
        have HH : Hid (ruB e 4 = true) := hr
        clear hr hx1
        go_wp2_with fail
        refine hc.mono ?_
        rintro _ w2 ⟨rfl, hb2⟩
        have HB2 : Hid (Below w1.heap.size w1 w2) := below_then HR.out.1 hb2
        clear hb2 hc hf1
        go_wp2_with fail
        go_roundw
        case rel => exact ⟨rfl, 5, by omega, by go_num, HB2.out, fun j hj => if g : j < 4 then HR.out.2 j g else by obtain rfl : j = 4 := (by omega); exact HH.out⟩
        case measure => simp [intOf]
      | false =>
        rw [hr] at hc
        have HH : Hid (mayB e = false) := mayB_no (by decide) hr
        clear hr hx1
        go_wp2_with fail
        refine hc.mono ?_
        rintro _ w2 ⟨rfl, hb2⟩
        have HB2 : Hid (Below w1.heap.size w1 w2) := below_then HR.out.1 hb2
        clear hb2 hc hf1
        go_wp2_with fail
        rw [Exit.noGoto_ret]
        go_ret
        exact ⟨ret_bool HH.out.symm, below_then HB1.out HB2.out⟩
    · have hc := ru5_any hx1
      simp [ruF] at hf1
      cases hr : ruB e 5 with
      | true =>
        rw [hr] at hc
        have HH : Hid (ruB e 5 = true) := hr
        clear hr hx1
        go_wp2_with fail
        refine hc.mono ?_
        rintro _ w2 ⟨rfl, hb2⟩
        have HB2 : Hid (Below w1.heap.size w1 w2) := below_then HR.out.1 hb2
        clear hb2 hc hf1
        go_wp2_with fail
        go_roundw
        case rel => exact ⟨rfl, 6, by omega, by go_num, HB2.out, fun j hj => if g : j < 5 then HR.out.2 j g else by obtain rfl : j = 5 := (by omega); exact HH.out⟩
        case measure => simp [intOf]
      | false =>
        rw [hr] at hc
        have HH : Hid (mayB e = false) := mayB_no (by decide) hr
        clear hr hx1
        go_wp2_with fail
        refine hc.mono ?_
        rintro _ w2 ⟨rfl, hb2⟩
        have HB2 : Hid (Below w1.heap.size w1 w2) := below_then HR.out.1 hb2
        clear hb2 hc hf1
        go_wp2_with fail
        rw [Exit.noGoto_ret]
        go_ret
        exact ⟨ret_bool HH.out.symm, below_then HB1.out HB2.out⟩
    · have hc := ru6_any hx1
      simp [ruF] at hf1
      cases hr : ruB e 6 with
      | true =>
        rw [hr] at hc
        have HH : Hid (ruB e 6 = true) := hr
        clear hr hx1
        go_wp2_with fail
        refine hc.mono ?_
        rintro _ w2 ⟨rfl, hb2⟩
        have HB2 : Hid (Below w1.heap.size w1 w2) := below_then HR.out.1 hb2
        clear hb2 hc hf1
        go_wp2_with fail
        go_roundw
        case rel => exact ⟨rfl, 7, by omega, by go_num, HB2.out, fun j hj => if g : j < 6 then HR.out.2 j g else by obtain rfl : j = 6 := (by omega); exact HH.out⟩
        case measure => simp [intOf]
      | false =>
        rw [hr] at hc
        have HH : Hid (mayB e = false) := mayB_no (by decide) hr
        clear hr hx1
        go_wp2_with fail
        refine hc.mono ?_
        rintro _ w2 ⟨rfl, hb2⟩
        have HB2 : Hid (Below w1.heap.size w1 w2) := below_then HR.out.1 hb2
        clear hb2 hc hf1
        go_wp2_with fail
        rw [Exit.noGoto_ret]
        go_ret
        exact ⟨ret_bool HH.out.symm, below_then HB1.out HB2.out⟩
    · have hc := ru7_any hx1
      simp [ruF] at hf1
      cases hr : ruB e 7 with
      | true =>
        rw [hr] at hc
        have HH : Hid (ruB e 7 = true) := hr
        clear hr hx1
        go_wp2_with fail
        refine hc.mono ?_
        rintro _ w2 ⟨rfl, hb2⟩
        have HB2 : Hid (Below w1.heap.size w1 w2) := below_then HR.out.1 hb2
        clear hb2 hc hf1
        go_wp2_with fail
        go_roundw
        case rel => exact ⟨rfl, 8, by omega, by go_num, HB2.out, fun j hj => if g : j < 7 then HR.out.2 j g else by obtain rfl : j = 7 := (by omega); exact HH.out⟩
        case measure => simp [intOf]
      | false =>
        rw [hr] at hc
        have HH : Hid (mayB e = false) := mayB_no (by decide) hr
        clear hr hx1
        go_wp2_with fail
        refine hc.mono ?_
        rintro _ w2 ⟨rfl, hb2⟩
        have HB2 : Hid (Below w1.heap.size w1 w2) := below_then HR.out.1 hb2
        clear hb2 hc hf1
        go_wp2_with fail
        rw [Exit.noGoto_ret]
        go_ret
        exact ⟨ret_bool HH.out.symm, below_then HB1.out HB2.out⟩
    · have HH : Hid (mayB e = true) := mayB_all HR.out.2
      clear hx1 hf1
      go_wp2_with fail
      rw [Exit.noGoto_ret]
      go_ret
      exact ⟨ret_bool HH.out.symm, below_then HB1.out HR.out.1⟩
end Go.Proofs.YtjbkfppibnlmoaaGreatDoor

/-
  The shelf in memory: last, refuse, hasTooMany, firstDecided.
-/
namespace Go.Proofs.YtjbkfppibnlmoaaGreatDoor
open Go.RowKit

/-- A shelf: its block sb, its map's M, its list's slice v. -/
structure Shf (w : World) (B sb M : Nat) (v : Value) (K R : Int) (es : List Ent) : Prop where
  blk : w.heap[sb]? = some (.cells #[.int .i64 K, .int .i64 R, v, .map (some M), .int .i64 (nOp es : Int)] 89 (0, 0))
  row : NRow w B v es
  map : MapF w M (fun s => fi s es) es.length
  dis : Dis es
  len : es.length ≤ 1000000
  ok : ∀ e ∈ es, mayB e = true
/-- Its blocks. -/
def Ft (sb M : Nat) (v : Value) (q : Nat) : Prop := q = sb ∨ q = M ∨ v.ownBlock = some q
section
variable {w w' : World} {B sb M : Nat} {v : Value} {K R : Int} {es : List Ent}
theorem Shf.lt (h : Shf w B sb M v K R es) : sb < w.heap.size := blk_lt h.blk
theorem Shf.below (h : Shf w B sb M v K R es) (hb : Below w.heap.size w w') : Shf w' B sb M v K R es := ⟨(hb.block sb h.lt).trans h.blk, h.row.below hb, h.map.below hb, h.dis, h.len, h.ok⟩
theorem Shf.off {P : Nat → Prop} (h : Shf w B sb M v K R es) (ho : Off P w w') (hP : ∀ q, Ft sb M v q → ¬ P q) : Shf w' B sb M v K R es := ⟨(ho.block sb h.lt (hP sb (Or.inl rfl))).trans h.blk, h.row.off ho (fun g hg => hP g (Or.inr (Or.inr hg))), h.map.off ho (hP M (Or.inr (Or.inl rfl))), h.dis, h.len, h.ok⟩
theorem row_type {g : Nat} (h : NRow w B v es) (hg : v.ownBlock = some g) : ∃ cs, w.heap[g]? = some (.cells cs 30 (0, 0)) := by
  rcases h.2 with ⟨rfl, _⟩ | ⟨g1, c1, u1, rfl, _, b1, _⟩
  · cases hg
  · simp only [Value.ownBlock, Option.some.injEq] at hg
    subst hg
    exact ⟨_, b1⟩
theorem Shf.neL (h : Shf w B sb M v K R es) {g : Nat} (hg : v.ownBlock = some g) : g ≠ sb ∧ g ≠ M := by
  obtain ⟨cs, b1⟩ := row_type h.row hg
  refine ⟨fun e => ?_, fun e => ?_⟩
  · subst e
    rw [h.blk] at b1
    simp at b1
  · obtain ⟨es', clock, hm⟩ := h.map.isMap
    subst e
    rw [hm] at b1
    simp at b1
theorem Shf.neM (h : Shf w B sb M v K R es) : sb ≠ M := fun e => by
  obtain ⟨es', clock, hm⟩ := h.map.isMap
  have b1 := h.blk
  rw [e, hm] at b1
  simp at b1
/-- None of its blocks holds bytes. -/
theorem Shf.notBytes (h : Shf w B sb M v K R es) (q : Nat) (cs : Array Value) (hq : w.heap[q]? = some (.cells cs 5 (0, 0))) : ¬ Ft sb M v q := by
  rintro (rfl | rfl | hg)
  · rw [h.blk] at hq
    simp at hq
  · obtain ⟨es', clock, hm⟩ := h.map.isMap
    rw [hm] at hq
    simp at hq
  · obtain ⟨cs', b1⟩ := row_type h.row hg
    rw [b1] at hq
    simp at hq
theorem Shf.cells (h : Shf w B sb M v K R es) : w.cell? ⟨sb, 0, none⟩ = some (.int .i64 K) ∧ w.cell? ⟨sb, 1, none⟩ = some (.int .i64 R) ∧ w.cell? ⟨sb, 2, none⟩ = some v ∧ w.cell? ⟨sb, 3, none⟩ = some (.map (some M)) ∧ w.cell? ⟨sb, 4, none⟩ = some (.int .i64 (nOp es : Int)) :=
  ⟨hcell h.blk 0, hcell h.blk 1, hcell h.blk 2, hcell h.blk 3, hcell h.blk 4⟩
theorem nOp_le (es : List Ent) : nOp es ≤ es.length := List.countP_le_length
/-- The last one; the zero entry where there is none. -/
def lasE (es : List Ent) : Ent := es.getLast?.getD zE
theorem lastT_eq (es : List Ent) : lastT es = (lasE es).tk := by
  unfold lastT lasE
  cases es.getLast? <;> rfl
theorem lasE_at {es : List Ent} {n : Nat} (h : es.length = n + 1) : es[n]? = some (lasE es) := by
  unfold lasE
  rw [List.getLast?_eq_getElem?, h, Nat.add_sub_cancel, List.getElem?_eq_getElem (by omega)]
  rfl
set_option maxRecDepth 100000 in
set_option maxHeartbeats 2000000 in
theorem last_any (h : Shf w B sb M v K R es) {l : Ent} (hl : lasE es = l) : Calls Tryz.prog 61 #[.pointer (some ⟨sb, 0, none⟩)] w fun r w' => r = .returned (.tuple #[.agg #[.string l.ct, .slice l.tp l.tn l.tc, .int .i64 l.nu, .int .i64 l.tk, .slice l.cp l.cn l.cc, .string l.cd, .slice l.ap l.an l.ac], .bool (decide (0 < es.length))]) ∧ Below w.heap.size w w' := by
  have bv : Below w.heap.size w (w.alloc (.cells #[.string ⟨#[]⟩, .slice none 0 0, .int .i64 0, .int .i64 0, .slice none 0 0, .string ⟨#[]⟩, .slice none 0 0] 30)) := (Below.refl _ _).alloc (Nat.le_refl _) _
  have bx := Box.new w #[.string ⟨#[]⟩, .slice none 0 0, .int .i64 0, .int .i64 0, .slice none 0 0, .string ⟨#[]⟩, .slice none 0 0] 30
  obtain ⟨V, hV⟩ : ∃ V, w.alloc (.cells #[.string ⟨#[]⟩, .slice none 0 0, .int .i64 0, .int .i64 0, .slice none 0 0, .string ⟨#[]⟩, .slice none 0 0] 30) = V := ⟨_, rfl⟩
  rw [hV] at bv bx
  have h1 := h.below bv
  obtain ⟨a, c, rfl, _⟩ := h1.row.isSlice
  obtain ⟨k0, k1, k2, k3, k4⟩ := h1.cells
  have cx := bx.cell
  have fx := bx.free
  have HB : Hid (Below w.heap.size w V) := bv
  have ls := h1.lt
  rcases Nat.eq_zero_or_pos es.length with h0 | h0
  · obtain rfl : es = [] := List.eq_nil_of_length_eq_zero h0
    obtain rfl : zE = l := by rw [← hl]; rfl
    clear bv h h1 hl h0 bx k0 k1 k3 k4
    simp only [List.length_nil] at k2
    go_enter Tryz.func61, Tryz.ntmps61
    go_wp2_with fail
    clear hV
    refine bodyPost_ret ?_ rfl ⟨rfl, ?_⟩
    · simp [results, Tryz.results61, go_sem, cx, zE]
    · repeat' (first | (with_reducible exact HB.out) | (with_reducible refine Below.setCell ?_ (by exact Nat.le_refl _) _) | (with_reducible refine Below.alloc ?_ (by simp; omega) _))
  · obtain ⟨n, hn⟩ : ∃ n, es.length = n + 1 := ⟨es.length - 1, by omega⟩
    have hat := lasE_at hn
    rw [hl] at hat
    obtain ⟨g, rfl, hg, hc⟩ := nrow_cells h1.row hat
    obtain ⟨d0, d1, d2, d3, d4, d5, d6⟩ := hc
    have hn6 : n + 1 ≤ 1000000 := by rw [← hn]; exact h.len
    rw [decide_eq_true h0]
    rw [hn] at k2
    have q1 : (((n + 1 : Nat) : Int) == 0) = false := by rw [beq_eq_false_iff_ne]; omega
    have q2 : IntKind.i64.wrap (((n + 1 : Nat) : Int) - 1) = (n : Int) := by rw [IntKind.wrap_i64]; omega
    have q3 : (n : Int) < ((n + 1 : Nat) : Int) := by omega
    clear bv h h1 hl h0 bx k0 k1 k3 k4 hat hn hg
    obtain ⟨m, hm⟩ : ∃ m, n + 1 = m := ⟨_, rfl⟩
    rw [hm] at k2 q1 q2 q3 hn6
    clear hm
    go_enter Tryz.func61, Tryz.ntmps61
    go_wp2_with fail
    clear hV
    go_region_law (fail)
    all_goals
      go_wp2_with fail
      refine bodyPost_ret ?_ rfl ⟨rfl, ?_⟩
      · simp [results, Tryz.results61, go_sem, cx]
      · repeat' (first | (with_reducible exact HB.out) | (with_reducible refine Below.setCell ?_ (by exact Nat.le_refl _) _) | (with_reducible refine Below.drew ?_))
set_option maxRecDepth 100000 in
set_option maxHeartbeats 1000000 in
theorem many_any (h : Shf w B sb M v K R es) (hK : 0 ≤ K ∧ K ≤ 64) : Calls Tryz.prog 43 #[.pointer (some ⟨sb, 0, none⟩)] w fun r w' => r = .returned (.bool (manyB K es)) ∧ ∃ m, w' = w.drewN m := by
  obtain ⟨a, c, rfl, _⟩ := h.row.isSlice
  obtain ⟨k0, k1, k2, k3, k4⟩ := h.cells
  have ha := nOp_add es
  have hl := h.len
  obtain ⟨n, hn⟩ : ∃ n, es.length = n := ⟨_, rfl⟩
  obtain ⟨o, ho⟩ : ∃ o, nOp es = o := ⟨_, rfl⟩
  have HM : Hid (manyB K es = decide ((n : Int) - o > K + 1)) := by
    unfold Hid manyB
    rw [Bool.eq_iff_iff]
    simp
    omega
  rw [hn, ho] at ha
  rw [hn] at k2 hl
  rw [ho] at k4
  have q1 : IntKind.i64.wrap ((n : Int) - (o : Int)) = (n : Int) - o := by rw [IntKind.wrap_i64]; omega
  have q2 : IntKind.i64.wrap (K + 1) = K + 1 := by rw [IntKind.wrap_i64]; omega
  clear h ha hl hn ho k1 k3
  go_enter Tryz.func43, Tryz.ntmps43
  go_wp2_with fail
  go_quiet (fail)
  go_wp2_with fail
  go_ret
  exact ⟨ret_bool (by rw [HM.out]), _, rfl⟩
def fdI (es : List Ent) : Int := match fdS es with | some i => (i : Int) | none => -1
theorem fd_some {es : List Ent} {i : Nat} (h : fdS es = some i) : ∃ m, es[i]? = some m ∧ dcB m = true ∧ ∀ j m', j < i → es[j]? = some m' → dcB m' = false := by
  obtain ⟨hi, h1, h2⟩ := List.findIdx?_eq_some_iff_getElem.1 h
  refine ⟨es[i], List.getElem?_eq_getElem hi, h1, fun j m' hj hm => ?_⟩
  obtain ⟨hj', rfl⟩ := List.getElem?_eq_some_iff.1 hm
  simpa using h2 j hj
theorem fd_none {es : List Ent} (h : fdS es = none) : ∀ (j : Nat) (m' : Ent), es[j]? = some m' → dcB m' = false := fun j m' hm => by
  have := List.findIdx?_eq_none_iff.1 h m' (List.mem_of_getElem? hm)
  simpa using this
set_option maxRecDepth 100000 in
set_option maxHeartbeats 2000000 in
theorem index_any {a : Option Addr} {n c : Nat} (hr : NRow w B (.slice a n c) es) (hl : es.length ≤ 1000000) :
    Calls Tryz.prog 73 #[.slice a n c, .func (.func 65) #[] #[]] w fun e w' => e = .returned (.int .i64 (fdI es)) ∧ Below w.heap.size w w' := by
  have HR : Hid (NRow w B (.slice a n c) es) := hr
  have HN : Hid (n = es.length) := hr.len
  have hn : n ≤ 1000000 := by rw [hr.len]; exact hl
  obtain ⟨J, hJ⟩ : ∃ J : Nat, J = (match fdS es with | some i => i | none => n) := ⟨_, rfl⟩
  have HJ : Hid (∀ j m', j < J → es[j]? = some m' → dcB m' = false) := fun j m' hj hm => by
    rw [hJ] at hj
    cases hf : fdS es with
    | some i => rw [hf] at hj; obtain ⟨_, _, _, hx⟩ := fd_some hf; exact hx j m' hj hm
    | none => exact fd_none hf j m' hm
  have HJ2 : Hid (J < n → fdI es = J ∧ ∀ m', es[J]? = some m' → dcB m' = true) := fun hlt => by
    cases hf : fdS es with
    | some i =>
      rw [hf] at hJ
      simp only at hJ
      subst hJ
      obtain ⟨m, hm, he, _⟩ := fd_some hf
      exact ⟨by unfold fdI; rw [hf], fun m' hm' => by rw [hm] at hm'; cases hm'; exact he⟩
    | none => rw [hf] at hJ; simp only at hJ; omega
  have HJ3 : Hid (¬ J < n → fdI es = -1) := fun hlt => by
    cases hf : fdS es with
    | some i =>
      rw [hf] at hJ
      simp only at hJ
      obtain ⟨m, hm, _⟩ := fd_some hf
      have := (List.getElem?_eq_some_iff.1 hm).1
      have := HN.out
      omega
    | none => unfold fdI; rw [hf]
  have hJn : J ≤ n := by
    rw [hJ]
    cases hf : fdS es with
    | some i => obtain ⟨m, hm, _⟩ := fd_some hf; have := (List.getElem?_eq_some_iff.1 hm).1; have := HN.out; simp only; omega
    | none => exact Nat.le_refl _
  clear hr hl hJ
  go_enter Tryz.func73, Tryz.ntmps73
  go_wp2_with fail
  go_loopw [8] (fun t8 wx => ∃ i : Nat, i ≤ J ∧ t8 = .int .i64 i ∧ Hid (Below w.heap.size w wx)) (fun t8 _ => n - (intOf t8).toNat)
  case atStart => exact ⟨0, Nat.zero_le _, rfl, Below.refl _ _⟩
  case round =>
    obtain ⟨i, hi, rfl, HB⟩ := hrel
    by_cases hlt : i < n
    · have hlt1 : (i : Int) < n := by omega
      obtain ⟨m, hm⟩ : ∃ m, es[i]? = some m := ⟨_, List.getElem?_eq_getElem (by have := HN.out; omega)⟩
      obtain ⟨g, rfl, hg, hc⟩ := nrow_cells (HR.out.below HB.out) hm
      obtain ⟨c0, c1, c2, c3, c4, c5, c6⟩ := hc
      have HM : Hid (es[i]? = some m) := hm
      have hs := isDecided_any m wr
      clear hm
      by_cases hJi : i < J
      · rw [HJ.out i m hJi HM.out] at hs
        go_wp2_with fail
        refine hs.mono ?_
        rintro _ w1 ⟨rfl, hb1⟩
        have HB1 : Hid (Below w.heap.size w w1) := below_then HB.out hb1
        clear hb1 hs c0 c1 c2 c3 c4 c5 c6
        go_wp2_with fail
        go_roundw
        case rel => exact ⟨i + 1, hJi, by go_num, HB1⟩
        case measure => simp [intOf]; omega
      · have hiJ : i = J := by omega
        subst hiJ
        rw [(HJ2.out hlt).2 m HM.out] at hs
        go_wp2_with fail
        refine hs.mono ?_
        rintro _ w1 ⟨rfl, hb1⟩
        have HB1 : Hid (Below w.heap.size w w1) := below_then HB.out hb1
        clear hb1 hs c0 c1 c2 c3 c4 c5 c6
        go_wp2_with fail
        go_ret
        exact ⟨ret_int (HJ2.out hlt).1.symm, HB1.out⟩
    · have hlt1 : ¬ (i : Int) < n := by omega
      go_wp2_with fail
      go_ret
      exact ⟨ret_int (HJ3.out (by omega)).symm, HB.out⟩
set_option maxRecDepth 100000 in
set_option maxHeartbeats 1000000 in
theorem first_any (h : Shf w B sb M v K R es) : Calls Tryz.prog 44 #[.pointer (some ⟨sb, 0, none⟩)] w fun r w' => r = .returned (.int .i64 (fdI es)) ∧ Below w.heap.size w w' := by
  obtain ⟨a, c, rfl, _⟩ := h.row.isSlice
  obtain ⟨k0, k1, k2, k3, k4⟩ := h.cells
  have hi := index_any h.row h.len
  clear h
  go_enter Tryz.func44, Tryz.ntmps44
  go_wp2_with fail
  refine hi.mono ?_
  rintro _ w1 ⟨rfl, hb1⟩
  have HB1 : Hid (Below w.heap.size w w1) := hb1
  clear hb1 hi k0 k1 k2 k3 k4
  go_wp2_with fail
  go_ret
  exact ⟨rfl, HB1.out⟩
end
end Go.Proofs.YtjbkfppibnlmoaaGreatDoor
