/-
  The law's walk.
-/
import Derived.Test.YtgcdddkebehajaaDoorSuDef
import Derived.DeepKeys
namespace Go.Proofs.YtgcdddkebehajaaDoor.Su
open Go.RowKit Go.Proofs.YtgcdddkebehajaaDoor.Td

set_option maxRecDepth 100000 in
set_option maxHeartbeats 2000000 in
theorem defaults_some (a f : ByteArray) (w : World) (hV : dfV a f = sdV a f) (hC : Com w) (hE : ErrType w) : Calls Tryd.prog 3 #[.string a, .string f] w fun r w' => r = .returned (.bool true) ∧ Below w.heap.size w w' := by
  have AP := default_any a f w hC
  have AR := fun w => rDefault_any a f w
  unfold DfQ at AP
  unfold RfQ at AR
  rw [hV] at AP
  simp only [hV] at AR
  obtain ⟨cA, hcA⟩ : ∃ x, dfA a f = x := ⟨_, rfl⟩
  obtain ⟨cC, hcC⟩ : ∃ x, dfC a f = x := ⟨_, rfl⟩
  rw [hcA, hcC] at AP
  simp only [hcA, hcC] at AR
  have H1 : Hid (type_of% AP) := AP
  have H2 : Hid (type_of% AR) := AR
  have HE : Hid (ErrType w) := hE
  clear hC hE AP AR hV hcA hcC
  go_enter Tryd.func3, Tryd.ntmps3
  go_wp2_with fail
  refine H1.out.mono ?_
  rintro _ w1 ⟨ev, rfl, hev, hb⟩
  have HB1 : Hid (Below w.heap.size w w1 ∧ TEv w1 ev cA cC) := ⟨hb, hev⟩
  clear hev hb H1
  go_wp2_with fail
  refine (H2.out _).mono ?_
  rintro _ w2 ⟨no, rfl, hno, hb⟩
  have hx := ((Box.new w1 #[.string a, .string f, .int .u8 124, .int .u8 94, .int .u8 126, .int .u8 92, .int .u8 38, .string ⟨#[80]⟩, .bool false, .int .i64 10, .int .i64 3, .int .i64 16, .int .i64 64] 25).below hb)
  have hlt : w1.heap.size < w2.heap.size := hx.lt
  have kc := fun o => (World.cell?_alloc_lt w2 (.cells #[.string a, .string f, .int .u8 124, .int .u8 94, .int .u8 126, .int .u8 92, .int .u8 38, .string ⟨#[80]⟩, .bool false, .int .i64 10, .int .i64 3, .int .i64 16, .int .i64 64] 25) ⟨w1.heap.size, o, none⟩ hlt).trans (hx.cell o)
  have hb1 : Below w1.heap.size w1 w2 := below_then ((Below.refl _ _).alloc (Nat.le_refl _) _) hb
  have HB2 : Hid (Below w.heap.size w w2 ∧ TEv w2 ev cA cC ∧ TNo w2 no cA cC) := ⟨below_then HB1.out.1 hb1, HB1.out.2.below hb1, hno⟩
  clear H2 hno hx hb hb1
  go_wp2_with fail
  have HB3 : Hid (Below w.heap.size w (w2.alloc (.cells #[.string a, .string f, .int .u8 124, .int .u8 94, .int .u8 126, .int .u8 92, .int .u8 38, .string ⟨#[80]⟩, .bool false, .int .i64 10, .int .i64 3, .int .i64 16, .int .i64 64] 25)) ∧ TEv (w2.alloc (.cells #[.string a, .string f, .int .u8 124, .int .u8 94, .int .u8 126, .int .u8 92, .int .u8 38, .string ⟨#[80]⟩, .bool false, .int .i64 10, .int .i64 3, .int .i64 16, .int .i64 64] 25)) ev cA cC ∧ TNo (w2.alloc (.cells #[.string a, .string f, .int .u8 124, .int .u8 94, .int .u8 126, .int .u8 92, .int .u8 38, .string ⟨#[80]⟩, .bool false, .int .i64 10, .int .i64 3, .int .i64 16, .int .i64 64] 25)) no cA cC) := by
    have hb2 : Below w2.heap.size w2 (w2.alloc (.cells #[.string a, .string f, .int .u8 124, .int .u8 94, .int .u8 126, .int .u8 92, .int .u8 38, .string ⟨#[80]⟩, .bool false, .int .i64 10, .int .i64 3, .int .i64 16, .int .i64 64] 25)) := (Below.refl _ _).alloc (Nat.le_refl _) _
    exact ⟨below_then HB2.out.1 hb2, HB2.out.2.1.below hb2, HB2.out.2.2.below hb2⟩
  refine (refused_any (errType_below HE.out HB3.out.1) HB3.out.2.1 HB3.out.2.2).mono ?_
  rintro _ w3 ⟨rfl, hb⟩
  have HB4 : Hid (Below w.heap.size w w3) := below_then HB3.out.1 hb
  clear hb kc
  go_wp2_with fail
  go_ret
  exact ⟨rfl, HB4.out⟩
set_option maxRecDepth 100000 in
set_option maxHeartbeats 2000000 in
theorem defaults_none (a f : ByteArray) (w : World) (hV : dfV a f = sdZ) (hC : Com w) (hE : ErrType w) : Calls Tryd.prog 3 #[.string a, .string f] w fun r w' => r = .returned (.bool true) ∧ Below w.heap.size w w' := by
  have AP := default_any a f w hC
  have AR := fun w => rDefault_any a f w
  unfold DfQ at AP
  unfold RfQ at AR
  rw [hV] at AP
  simp only [hV] at AR
  obtain ⟨cA, hcA⟩ : ∃ x, dfA a f = x := ⟨_, rfl⟩
  obtain ⟨cC, hcC⟩ : ∃ x, dfC a f = x := ⟨_, rfl⟩
  rw [hcA, hcC] at AP
  simp only [hcA, hcC] at AR
  have H1 : Hid (type_of% AP) := AP
  have H2 : Hid (type_of% AR) := AR
  have HE : Hid (ErrType w) := hE
  clear hC hE AP AR hV hcA hcC
  go_enter Tryd.func3, Tryd.ntmps3
  go_wp2_with fail
  refine H1.out.mono ?_
  rintro _ w1 ⟨ev, rfl, hev, hb⟩
  have HB1 : Hid (Below w.heap.size w w1 ∧ TEv w1 ev cA cC) := ⟨hb, hev⟩
  clear hev hb H1
  go_wp2_with fail
  refine (H2.out _).mono ?_
  rintro _ w2 ⟨no, rfl, hno, hb⟩
  have hx := ((Box.new w1 zsd 25).below hb)
  have hlt : w1.heap.size < w2.heap.size := hx.lt
  have kc := fun o => (World.cell?_alloc_lt w2 (.cells zsd 25) ⟨w1.heap.size, o, none⟩ hlt).trans (hx.cell o)
  have hb1 : Below w1.heap.size w1 w2 := below_then ((Below.refl _ _).alloc (Nat.le_refl _) _) hb
  have HB2 : Hid (Below w.heap.size w w2 ∧ TEv w2 ev cA cC ∧ TNo w2 no cA cC) := ⟨below_then HB1.out.1 hb1, HB1.out.2.below hb1, hno⟩
  clear H2 hno hx hb hb1
  go_wp2_with fail
  have HB3 : Hid (Below w.heap.size w (w2.alloc (.cells zsd 25)) ∧ TEv (w2.alloc (.cells zsd 25)) ev cA cC ∧ TNo (w2.alloc (.cells zsd 25)) no cA cC) := by
    have hb2 : Below w2.heap.size w2 (w2.alloc (.cells zsd 25)) := (Below.refl _ _).alloc (Nat.le_refl _) _
    exact ⟨below_then HB2.out.1 hb2, HB2.out.2.1.below hb2, HB2.out.2.2.below hb2⟩
  refine (refused_any (errType_below HE.out HB3.out.1) HB3.out.2.1 HB3.out.2.2).mono ?_
  rintro _ w3 ⟨rfl, hb⟩
  have HB4 : Hid (Below w.heap.size w w3) := below_then HB3.out.1 hb
  clear hb kc
  go_wp2_with fail
  go_ret
  exact ⟨rfl, HB4.out⟩
theorem defaults_law (a f : ByteArray) (w : World) (hC : Com w) (hE : ErrType w) : Calls Tryd.prog 3 #[.string a, .string f] w fun r w' => r = .returned (.bool true) ∧ Below w.heap.size w w' := by
  by_cases h1 : isCd (bl a) = true
  · by_cases h2 : facB f = true
    · exact defaults_some a f w (by unfold dfV; rw [if_pos h1, if_pos h2]) hC hE
    · exact defaults_none a f w (by unfold dfV; rw [if_pos h1, if_neg h2]) hC hE
  · exact defaults_none a f w (by unfold dfV; rw [if_neg h1]) hC hE
end Go.Proofs.YtgcdddkebehajaaDoor.Su
