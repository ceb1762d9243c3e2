import Derived.Test.YtdglnobapnohmaaDoorWhPlC
import Derived.Deep.RegionHeld3
/-
  The law's plays of both wheels: one kind.
-/
namespace Go.Proofs.YtdglnobapnohmaaDoor
open Go.RowKit

set_option maxRecDepth 100000 in
set_option maxHeartbeats 2000000 in
theorem pl_4 {w0 X : World} {W rb now : Nat} {S : List Tm} {F : Nat → Prop} (h : PI w0 X W rb now S F) (ky : Int) (s : ByteArray) (tk : Int) : Calls Tryd.prog 20 #[.pointer (some ⟨W, 0, none⟩), .pointer (some ⟨rb, 0, none⟩), .agg #[.int .i64 (4), .int .i64 ky, .string s, .int .i64 tk]] X fun e w' => e = .returned (.bool true) ∧ PQ w0 X F W rb w' := by
  have HI : Hid (type_of% (Jq.start (4) ky s tk h)) := Jq.start (4) ky s tk h
  have HL : Hid (S.length ≤ 4096 ∧ Uniq S) := ⟨h.wh.held.2, h.wh.held.1.uq⟩
  have co := HI.out.o
  have ck := HI.out.k
  clear h
  go_enter Tryd.func20, Tryd.ntmps20
  go_wp2_with fail
  generalize ((X.alloc (.cells #[.int .i64 (4), .int .i64 ky, .string s, .int .i64 tk] 44)).alloc (.cells #[.int .i64 ky, .string ⟨#[]⟩] 98)) = V at HI co ck ⊢
  obtain ⟨x, hx⟩ : ∃ x, x = nxI S := ⟨_, rfl⟩
  obtain ⟨b, hb⟩ : ∃ b, b = !S.isEmpty := ⟨_, rfl⟩
  refine (jnext HI.out hx hb).mono ?_
  rintro _ w1 ⟨rfl, H1⟩
  clear HI co ck
  have HR := jrnext H1.out hx hb
  clear hx hb
  go_wp2_with fail
  refine HR.mono ?_
  rintro _ w2 ⟨rfl, H2⟩
  clear H1 HR
  go_wp2_with fail
  go_ret
  exact ⟨by simp, H2.out.fin⟩
end Go.Proofs.YtdglnobapnohmaaDoor

/-
  The law's plays of both wheels: one kind.
-/
namespace Go.Proofs.YtdglnobapnohmaaDoor
open Go.RowKit

set_option maxRecDepth 100000 in
set_option maxHeartbeats 2000000 in
theorem pl_5 {w0 X : World} {W rb now : Nat} {S : List Tm} {F : Nat → Prop} (h : PI w0 X W rb now S F) (ky : Int) (s : ByteArray) (tk : Int) (hky : KeyI ky) : Calls Tryd.prog 20 #[.pointer (some ⟨W, 0, none⟩), .pointer (some ⟨rb, 0, none⟩), .agg #[.int .i64 (5), .int .i64 ky, .string s, .int .i64 tk]] X fun e w' => e = .returned (.bool true) ∧ PQ w0 X F W rb w' := by
  have HI : Hid (type_of% (Jq.start (5) ky s tk h)) := Jq.start (5) ky s tk h
  have HL : Hid (S.length ≤ 4096 ∧ Uniq S) := ⟨h.wh.held.2, h.wh.held.1.uq⟩
  have co := HI.out.o
  have ck := HI.out.k
  clear h
  go_enter Tryd.func20, Tryd.ntmps20
  go_wp2_with fail
  generalize ((X.alloc (.cells #[.int .i64 (5), .int .i64 ky, .string s, .int .i64 tk] 44)).alloc (.cells #[.int .i64 ky, .string ⟨#[]⟩] 98)) = V at HI co ck ⊢
  obtain ⟨x, hx⟩ : ∃ x, x = atI ky S := ⟨_, rfl⟩
  obtain ⟨b, hb⟩ : ∃ b, b = decide (0 ≤ plI ky S) := ⟨_, rfl⟩
  refine (jat HI.out hky hx hb).mono ?_
  rintro _ w1 ⟨rfl, H1, s1, s2⟩
  clear HI co ck
  have HR := jrat H1.out HL.out.1 HL.out.2 hx hb
  clear hx hb hky
  go_wp2_with fail
  refine HR.mono ?_
  rintro _ w2 ⟨rfl, H2⟩
  clear H1 HR s1 s2
  go_wp2_with fail
  go_ret
  exact ⟨by simp, H2.out.fin⟩
end Go.Proofs.YtdglnobapnohmaaDoor
