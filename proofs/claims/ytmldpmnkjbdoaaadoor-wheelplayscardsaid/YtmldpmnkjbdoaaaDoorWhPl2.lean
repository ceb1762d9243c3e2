/-
  The law's plays of both wheels: one kind.
-/
import Derived.Test.YtmldpmnkjbdoaaaDoorWhPlC
import Derived.Deep.RegionHeld3
namespace Go.Proofs.YtmldpmnkjbdoaaaDoor
open Go.RowKit

set_option maxRecDepth 100000 in
set_option maxHeartbeats 2000000 in
theorem pl_2 {w0 X : World} {W rb now : Nat} {S : List Tm} {F : Nat → Prop} (h : PI w0 X W rb now S F) (ky : Int) (s : ByteArray) (tk : Int) (hky : KeyI ky) : Calls Tryd.prog 8 #[.pointer (some ⟨W, 0, none⟩), .pointer (some ⟨rb, 0, none⟩), .agg #[.int .i64 (2), .int .i64 ky, .string s, .int .i64 tk]] X fun e w' => e = .returned (.bool true) ∧ PQ w0 W rb w' := by
  have HI : Hid (type_of% (Jq.start (2) ky s tk h)) := Jq.start (2) ky s tk h
  have HL : Hid (S.length ≤ 4096 ∧ Uniq S) := ⟨h.wh.held.2, h.wh.held.1.uq⟩
  have co := HI.out.o
  have ck := HI.out.k
  clear h
  go_enter Tryd.func8, Tryd.ntmps8
  go_wp2_with fail
  generalize ((X.alloc (.cells #[.int .i64 (2), .int .i64 ky, .string s, .int .i64 tk] 39)).alloc (.cells #[.int .i64 ky, .string ⟨#[]⟩] 69)) = V at HI co ck ⊢
  obtain ⟨S', hS'⟩ : ∃ S', S.filter (keyNe ky) = S' := ⟨_, rfl⟩
  obtain ⟨b, hb⟩ : ∃ b, b = decide (0 ≤ plI ky S) := ⟨_, rfl⟩
  have HS : Hid (∀ z, Jq w0 X.heap.size W rb (2) ky s tk now S now S z → Calls Tryd.prog 20 #[.pointer (some ⟨W, 0, none⟩), .int .i64 ky] z fun e w' => e = .returned (.bool b) ∧ Hid (Jq w0 X.heap.size W rb (2) ky s tk now S' now S w') ∧ (∀ j, w'.cell? ⟨X.heap.size, j, none⟩ = (#[.int .i64 (2), .int .i64 ky, .string s, .int .i64 tk] : Array Value)[j]?) ∧ (∀ j, w'.cell? ⟨X.heap.size + 1, j, none⟩ = (#[.int .i64 ky, .string ⟨#[]⟩] : Array Value)[j]?)) := fun z hz => hS' ▸ jstop hz hky hb
  have HR : Hid (∀ z, Jq w0 X.heap.size W rb (2) ky s tk now S' now S z → Calls Tryd.prog 21 #[.pointer (some ⟨rb, 0, none⟩), .agg #[.int .i64 ky, .string ⟨#[]⟩]] z fun e w' => e = .returned (.bool b) ∧ Hid (Jq w0 X.heap.size W rb (2) ky s tk now S' now S' w') ∧ (∀ j, w'.cell? ⟨X.heap.size, j, none⟩ = (#[.int .i64 (2), .int .i64 ky, .string s, .int .i64 tk] : Array Value)[j]?) ∧ (∀ j, w'.cell? ⟨X.heap.size + 1, j, none⟩ = (#[.int .i64 ky, .string ⟨#[]⟩] : Array Value)[j]?)) := fun z hz => hS' ▸ jrstop hz HL.out.1 HL.out.2 hb
  clear HL hS' hb hky
  go_region_held3 (fun z => (∀ j, z.cell? ⟨X.heap.size, j, none⟩ = (#[.int .i64 (2), .int .i64 ky, .string s, .int .i64 tk] : Array Value)[j]?) ∧ (∀ j, z.cell? ⟨X.heap.size + 1, j, none⟩ = (#[.int .i64 ky, .string ⟨#[]⟩] : Array Value)[j]?)) (simp [*]) (first | (go_at_call 20; refine (HS.out _ ?_).mono ?_; (first | (with_reducible exact HI.out) | (with_reducible exact HI.out.drew) | exact HI.out.drewN _); clear HS; rintro _ w1 ⟨rfl, H1, s1, s2⟩) | (go_at_call 21; refine (HR.out _ ?_).mono ?_; (first | (with_reducible exact H1.out) | (with_reducible exact H1.out.drew) | exact H1.out.drewN _); clear HR; rintro _ w2 ⟨rfl, H2, s4, s5⟩))
  go_wp2_with fail
  go_ret
  exact ⟨by simp, H2.out.fin⟩
end Go.Proofs.YtmldpmnkjbdoaaaDoor
