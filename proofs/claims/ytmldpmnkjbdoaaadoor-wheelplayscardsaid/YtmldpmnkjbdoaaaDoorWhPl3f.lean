/-
  The law's plays of both wheels: one kind.
-/
import Derived.Test.YtmldpmnkjbdoaaaDoorWhPlC
import Derived.Deep.RegionHeld3
namespace Go.Proofs.YtmldpmnkjbdoaaaDoor
open Go.RowKit

set_option maxRecDepth 100000 in
set_option maxHeartbeats 2000000 in
theorem pl_3f {w0 X : World} {W rb now : Nat} {S : List Tm} {F : Nat → Prop} (h : PI w0 X W rb now S F) (ky : Int) (s : ByteArray) (tk : Int) (hE : ErrType w0) (ht : tk < (now : Int) ∨ 1099511627776 < tk) : Calls Tryd.prog 8 #[.pointer (some ⟨W, 0, none⟩), .pointer (some ⟨rb, 0, none⟩), .agg #[.int .i64 (3), .int .i64 ky, .string s, .int .i64 tk]] X fun e w' => e = .returned (.bool true) ∧ PQ w0 W rb w' := by
  have HI : Hid (type_of% (Jq.start (3) ky s tk h)) := Jq.start (3) ky s tk h
  have HL : Hid (S.length ≤ 4096 ∧ Uniq S) := ⟨h.wh.held.2, h.wh.held.1.uq⟩
  have co := HI.out.o
  have ck := HI.out.k
  have HC : Hid ((tk < (now : Int) ∨ 1099511627776 < tk) ∧ ErrType w0) := ⟨ht, hE⟩
  clear ht hE
  clear h
  go_enter Tryd.func8, Tryd.ntmps8
  go_wp2_with fail
  generalize ((X.alloc (.cells #[.int .i64 (3), .int .i64 ky, .string s, .int .i64 tk] 39)).alloc (.cells #[.int .i64 ky, .string ⟨#[]⟩] 69)) = V at HI co ck ⊢
  refine (jadv_f HI.out HC.out.1).mono ?_
  rintro _ w1 ⟨b, rfl, H1, s1⟩
  clear HI co ck
  go_wp2_with fail
  refine (jradv_f H1.out.2 HC.out.1 H1.out.1).mono ?_
  rintro _ w2 ⟨rfl, H2⟩
  clear H1 s1
  go_wp2_with fail
  refine (jis_f HC.out.2 rfl H2.out.2 H2.out.1).mono ?_
  rintro _ w3 ⟨rfl, H3, _, _⟩
  clear H2
  go_wp2_with fail
  refine (jnum (jnum0 H3.out)).mono ?_
  rintro _ w4 ⟨a1, n1, c1, rfl, H4⟩
  clear H3
  go_wp2_with fail
  refine (jlike H4.out.1).mono ?_
  rintro _ w5 ⟨rfl, H5⟩
  clear H4
  go_wp2_with fail
  go_ret
  exact ⟨rfl, H5.out.1⟩
end Go.Proofs.YtmldpmnkjbdoaaaDoor
