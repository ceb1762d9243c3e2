import Derived.Test.YtdglnobapnohmaaDoorWhPlC
import Derived.Deep.RegionHeld3
/-
  The law's plays of both wheels: one kind.
-/
namespace Go.Proofs.YtdglnobapnohmaaDoor
open Go.RowKit

set_option maxRecDepth 100000 in
set_option maxHeartbeats 2000000 in
theorem pl_2 {w0 X : World} {W rb now : Nat} {S : List Tm} {F : Nat → Prop} (h : PI w0 X W rb now S F) (ky : Int) (s : ByteArray) (tk : Int) (hky : KeyI ky) : Calls Tryd.prog 20 #[.pointer (some ⟨W, 0, none⟩), .pointer (some ⟨rb, 0, none⟩), .agg #[.int .i64 (2), .int .i64 ky, .string s, .int .i64 tk]] X fun e w' => e = .returned (.bool true) ∧ PQ w0 X F W rb w' := by
  have HI : Hid (type_of% (Jq.start (2) ky s tk h)) := Jq.start (2) ky s tk h
  have HL : Hid (S.length ≤ 4096 ∧ Uniq S) := ⟨h.wh.held.2, h.wh.held.1.uq⟩
  have co := HI.out.o
  have ck := HI.out.k
  clear h
  go_enter Tryd.func20, Tryd.ntmps20
  go_wp2_with fail
  generalize ((X.alloc (.cells #[.int .i64 (2), .int .i64 ky, .string s, .int .i64 tk] 44)).alloc (.cells #[.int .i64 ky, .string ⟨#[]⟩] 98)) = V at HI co ck ⊢
  obtain ⟨S', hS'⟩ : ∃ S', S.filter (keyNe ky) = S' := ⟨_, rfl⟩
  obtain ⟨b, hb⟩ : ∃ b, b = decide (0 ≤ plI ky S) := ⟨_, rfl⟩
  have HS : Hid (∀ z, Jq w0 X F W rb (2) ky s tk now S now S z → Calls Tryd.prog 38 #[.pointer (some ⟨W, 0, none⟩), .int .i64 ky] z fun e w' => e = .returned (.bool b) ∧ Hid (Jq w0 X F W rb (2) ky s tk now S' now S w') ∧ (∀ j, w'.cell? ⟨X.heap.size, j, none⟩ = (#[.int .i64 (2), .int .i64 ky, .string s, .int .i64 tk] : Array Value)[j]?) ∧ (∀ j, w'.cell? ⟨X.heap.size + 1, j, none⟩ = (#[.int .i64 ky, .string ⟨#[]⟩] : Array Value)[j]?)) := fun z hz => hS' ▸ jstop hz hky hb
  have HR : Hid (∀ z, Jq w0 X F W rb (2) ky s tk now S' now S z → Calls Tryd.prog 39 #[.pointer (some ⟨rb, 0, none⟩), .agg #[.int .i64 ky, .string ⟨#[]⟩]] z fun e w' => e = .returned (.bool b) ∧ Hid (Jq w0 X F W rb (2) ky s tk now S' now S' w') ∧ (∀ j, w'.cell? ⟨X.heap.size, j, none⟩ = (#[.int .i64 (2), .int .i64 ky, .string s, .int .i64 tk] : Array Value)[j]?) ∧ (∀ j, w'.cell? ⟨X.heap.size + 1, j, none⟩ = (#[.int .i64 ky, .string ⟨#[]⟩] : Array Value)[j]?)) := fun z hz => hS' ▸ jrstop hz HL.out.1 HL.out.2 hb
  clear HL hS' hb hky
  go_region_held3 (fun z => (∀ j, z.cell? ⟨X.heap.size, j, none⟩ = (#[.int .i64 (2), .int .i64 ky, .string s, .int .i64 tk] : Array Value)[j]?) ∧ (∀ j, z.cell? ⟨X.heap.size + 1, j, none⟩ = (#[.int .i64 ky, .string ⟨#[]⟩] : Array Value)[j]?)) (simp [*]) (first | (go_at_call 38; refine (HS.out _ ?_).mono ?_; (first | (with_reducible exact HI.out) | (with_reducible exact HI.out.drew) | exact HI.out.drewN _); clear HS; rintro _ w1 ⟨rfl, H1, s1, s2⟩) | (go_at_call 39; refine (HR.out _ ?_).mono ?_; (first | (with_reducible exact H1.out) | (with_reducible exact H1.out.drew) | exact H1.out.drewN _); clear HR; rintro _ w2 ⟨rfl, H2, s4, s5⟩))
  go_wp2_with fail
  go_ret
  exact ⟨by simp, H2.out.fin⟩
end Go.Proofs.YtdglnobapnohmaaDoor

/-
  The law's plays of both wheels: one kind.
-/
namespace Go.Proofs.YtdglnobapnohmaaDoor
open Go.RowKit

set_option maxRecDepth 100000 in
set_option maxHeartbeats 2000000 in
theorem pl_3f {w0 X : World} {W rb now : Nat} {S : List Tm} {F : Nat → Prop} (h : PI w0 X W rb now S F) (ky : Int) (s : ByteArray) (tk : Int) (hE : ErrType w0) (ht : tk < (now : Int) ∨ 1099511627776 < tk) : Calls Tryd.prog 20 #[.pointer (some ⟨W, 0, none⟩), .pointer (some ⟨rb, 0, none⟩), .agg #[.int .i64 (3), .int .i64 ky, .string s, .int .i64 tk]] X fun e w' => e = .returned (.bool true) ∧ PQ w0 X F W rb w' := by
  have HI : Hid (type_of% (Jq.start (3) ky s tk h)) := Jq.start (3) ky s tk h
  have HL : Hid (S.length ≤ 4096 ∧ Uniq S) := ⟨h.wh.held.2, h.wh.held.1.uq⟩
  have co := HI.out.o
  have ck := HI.out.k
  have HC : Hid ((tk < (now : Int) ∨ 1099511627776 < tk) ∧ ErrType w0) := ⟨ht, hE⟩
  clear ht hE
  clear h
  go_enter Tryd.func20, Tryd.ntmps20
  go_wp2_with fail
  generalize ((X.alloc (.cells #[.int .i64 (3), .int .i64 ky, .string s, .int .i64 tk] 44)).alloc (.cells #[.int .i64 ky, .string ⟨#[]⟩] 98)) = V at HI co ck ⊢
  refine (jadv_f HI.out HC.out.1).mono ?_
  rintro _ w1 ⟨b, rfl, H1, s1⟩
  clear HI co ck
  go_wp2_with fail
  refine (jradv_f H1.out.2 HC.out.1 H1.out.1).mono ?_
  rintro _ w2 ⟨rfl, H2⟩
  clear H1 s1
  go_wp2_with fail
  refine (jis_f HC.out.2 rfl H2.out.2 H2.out.1).mono ?_
  rintro _ w3 ⟨rfl, H3, _, _⟩
  clear H2
  go_wp2_with fail
  refine (jnum (jnum0 H3.out)).mono ?_
  rintro _ w4 ⟨a1, n1, c1, rfl, H4⟩
  clear H3
  go_wp2_with fail
  refine (jlike H4.out.1).mono ?_
  rintro _ w5 ⟨rfl, H5⟩
  clear H4
  go_wp2_with fail
  go_ret
  exact ⟨rfl, H5.out.1⟩
end Go.Proofs.YtdglnobapnohmaaDoor

/-
  The law's plays of both wheels: one kind.
-/
namespace Go.Proofs.YtdglnobapnohmaaDoor
open Go.RowKit

set_option maxRecDepth 100000 in
set_option maxHeartbeats 2000000 in
theorem pl_3 {w0 X : World} {W rb now : Nat} {S : List Tm} {F : Nat → Prop} (h : PI w0 X W rb now S F) (ky : Int) (s : ByteArray) (tk : Int) (t : Nat) (htk : tk = t) (h1 : now ≤ t) (h2 : t ≤ MaxT) : Calls Tryd.prog 20 #[.pointer (some ⟨W, 0, none⟩), .pointer (some ⟨rb, 0, none⟩), .agg #[.int .i64 (3), .int .i64 ky, .string s, .int .i64 tk]] X fun e w' => e = .returned (.bool true) ∧ PQ w0 X F W rb w' := by
  subst htk
  have HI : Hid (type_of% (Jq.start (3) ky s (t : Int) h)) := Jq.start (3) ky s (t : Int) h
  have HL : Hid (S.length ≤ 4096 ∧ Uniq S) := ⟨h.wh.held.2, h.wh.held.1.uq⟩
  have co := HI.out.o
  have ck := HI.out.k
  have HC : Hid (now ≤ t ∧ t ≤ MaxT) := ⟨h1, h2⟩
  clear h1 h2
  clear h
  go_enter Tryd.func20, Tryd.ntmps20
  go_wp2_with fail
  generalize ((X.alloc (.cells #[.int .i64 (3), .int .i64 ky, .string s, .int .i64 (t : Int)] 44)).alloc (.cells #[.int .i64 ky, .string ⟨#[]⟩] 98)) = V at HI co ck ⊢
  refine (jadv_ok HI.out HC.out.1 HC.out.2).mono ?_
  rintro _ w1 ⟨a1, n1, c1, rfl, H1, s1⟩
  clear HI co ck
  go_wp2_with fail
  refine (jradv_ok H1.out HC.out.1 HC.out.2 HL.out.1).mono ?_
  rintro _ w2 ⟨a2, n2, c2, rfl, H2⟩
  clear H1 s1
  go_wp2_with fail
  refine (jis_t H2.out).mono ?_
  rintro _ w3 ⟨rfl, H3⟩
  clear H2
  go_wp2_with fail
  refine (jnum H3.out).mono ?_
  rintro _ w4 ⟨a3, n3, c3, rfl, H4⟩
  clear H3
  go_wp2_with fail
  refine (jlike H4.out.1).mono ?_
  rintro _ w5 ⟨rfl, H5⟩
  clear H4
  go_wp2_with fail
  go_ret
  exact ⟨rfl, H5.out.1⟩
end Go.Proofs.YtdglnobapnohmaaDoor
