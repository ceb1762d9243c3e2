/-
  The law's plays of both wheels: one kind.
-/
import Derived.Test.YtmldpmnkjbdoaaaDoorWhPlC
import Derived.Deep.RegionHeld3
namespace Go.Proofs.YtmldpmnkjbdoaaaDoor
open Go.RowKit

set_option maxRecDepth 100000 in
set_option maxHeartbeats 2000000 in
theorem pl_3 {w0 X : World} {W rb now : Nat} {S : List Tm} {F : Nat → Prop} (h : PI w0 X W rb now S F) (ky : Int) (s : ByteArray) (tk : Int) (t : Nat) (htk : tk = t) (h1 : now ≤ t) (h2 : t ≤ MaxT) : Calls Tryd.prog 8 #[.pointer (some ⟨W, 0, none⟩), .pointer (some ⟨rb, 0, none⟩), .agg #[.int .i64 (3), .int .i64 ky, .string s, .int .i64 tk]] X fun e w' => e = .returned (.bool true) ∧ PQ w0 W rb w' := by
  subst htk
  have HI : Hid (type_of% (Jq.start (3) ky s (t : Int) h)) := Jq.start (3) ky s (t : Int) h
  have HL : Hid (S.length ≤ 4096 ∧ Uniq S) := ⟨h.wh.held.2, h.wh.held.1.uq⟩
  have co := HI.out.o
  have ck := HI.out.k
  have HC : Hid (now ≤ t ∧ t ≤ MaxT) := ⟨h1, h2⟩
  clear h1 h2
  clear h
  go_enter Tryd.func8, Tryd.ntmps8
  go_wp2_with fail
  generalize ((X.alloc (.cells #[.int .i64 (3), .int .i64 ky, .string s, .int .i64 (t : Int)] 39)).alloc (.cells #[.int .i64 ky, .string ⟨#[]⟩] 69)) = V at HI co ck ⊢
  refine (jadv_ok HI.out HC.out.1 HC.out.2).mono ?_
  rintro _ w1 ⟨a1, n1, c1, rfl, H1, s1⟩
  clear HI co ck
  go_wp2_with fail
  refine (jradv_ok H1.out HC.out.1 HC.out.2 HL.out.1).mono ?_
  rintro _ w2 ⟨a2, n2, c2, rfl, H2⟩
  clear H1 s1
  go_wp2_with fail
  refine (jis_t H2.out).mono ?_
  rintro _ w3 ⟨rfl, H3⟩
  clear H2
  go_wp2_with fail
  refine (jnum H3.out).mono ?_
  rintro _ w4 ⟨a3, n3, c3, rfl, H4⟩
  clear H3
  go_wp2_with fail
  refine (jlike H4.out.1).mono ?_
  rintro _ w5 ⟨rfl, H5⟩
  clear H4
  go_wp2_with fail
  go_ret
  exact ⟨rfl, H5.out.1⟩
end Go.Proofs.YtmldpmnkjbdoaaaDoor
