/-
  The law's plays of both wheels: one kind.
-/
import Derived.Test.YtdglnobapnohmaaDoorWhPlC
import Derived.Deep.RegionHeld3
namespace Go.Proofs.YtdglnobapnohmaaDoor
open Go.RowKit

set_option maxRecDepth 100000 in
set_option maxHeartbeats 2000000 in
theorem pl_1 {w0 X : World} {W rb now : Nat} {S : List Tm} {F : Nat → Prop} (h : PI w0 X W rb now S F) (ky : Int) (s : ByteArray) (tk : Int) (hky : KeyI ky) (hc : setE now S ky tk = 0) : Calls Tryd.prog 20 #[.pointer (some ⟨W, 0, none⟩), .pointer (some ⟨rb, 0, none⟩), .agg #[.int .i64 (1), .int .i64 ky, .string s, .int .i64 tk]] X fun e w' => e = .returned (.bool true) ∧ PQ w0 X F W rb w' := by
  have HI : Hid (type_of% (Jq.start (1) ky s tk h)) := Jq.start (1) ky s tk h
  have HL : Hid (S.length ≤ 4096 ∧ Uniq S) := ⟨h.wh.held.2, h.wh.held.1.uq⟩
  have co := HI.out.o
  have ck := HI.out.k
  have HC : Hid (setE now S ky tk = 0 ∧ KeyI ky) := ⟨hc, hky⟩
  clear hc hky
  clear h
  go_enter Tryd.func20, Tryd.ntmps20
  go_wp2_with fail
  generalize ((X.alloc (.cells #[.int .i64 (1), .int .i64 ky, .string s, .int .i64 tk] 44)).alloc (.cells #[.int .i64 ky, .string ⟨#[]⟩] 98)) = V at HI co ck ⊢
  obtain ⟨S', hS'⟩ : ∃ S', setS ky tk.toNat S = S' := ⟨_, rfl⟩
  have HS : Hid (∀ z, Jq w0 X F W rb (1) ky s tk now S now S z → Calls Tryd.prog 13 #[.pointer (some ⟨W, 0, none⟩), .int .i64 ky, .int .i64 tk] z fun e w' => e = .returned .nilIface ∧ Hid (Jq w0 X F W rb (1) ky s tk now S' now S w') ∧ (∀ j, w'.cell? ⟨X.heap.size, j, none⟩ = (#[.int .i64 (1), .int .i64 ky, .string s, .int .i64 tk] : Array Value)[j]?) ∧ (∀ j, w'.cell? ⟨X.heap.size + 1, j, none⟩ = (#[.int .i64 ky, .string ⟨#[]⟩] : Array Value)[j]?)) := fun z hz => hS' ▸ jset_ok hz HC.out.2 HC.out.1
  have HR : Hid (∀ z, Jq w0 X F W rb (1) ky s tk now S' now S z → Calls Tryd.prog 37 #[.pointer (some ⟨rb, 0, none⟩), .agg #[.int .i64 ky, .string ⟨#[]⟩], .int .i64 tk] z fun e w' => e = .returned (.int .i64 0) ∧ Hid (Jq w0 X F W rb (1) ky s tk now S' now S' w') ∧ (∀ j, w'.cell? ⟨X.heap.size, j, none⟩ = (#[.int .i64 (1), .int .i64 ky, .string s, .int .i64 tk] : Array Value)[j]?) ∧ (∀ j, w'.cell? ⟨X.heap.size + 1, j, none⟩ = (#[.int .i64 ky, .string ⟨#[]⟩] : Array Value)[j]?)) := fun z hz => by
    have := jrset_ok hz HL.out.1 HL.out.2 HC.out.1
    rw [hS'] at this
    exact this
  have HF : Hid (∀ z, Jq w0 X F W rb (1) ky s tk now S' now S' z → Calls Tryd.prog 6 #[.nilIface, .int .i64 0] z fun e w' => e = .returned (.bool true) ∧ Hid (Jq w0 X F W rb (1) ky s tk now S' now S' w') ∧ (∀ j, w'.cell? ⟨X.heap.size, j, none⟩ = (#[.int .i64 (1), .int .i64 ky, .string s, .int .i64 tk] : Array Value)[j]?) ∧ (∀ j, w'.cell? ⟨X.heap.size + 1, j, none⟩ = (#[.int .i64 ky, .string ⟨#[]⟩] : Array Value)[j]?)) := fun z hz => jis_ok hz
  clear HC HL hS'
  go_region_held3 (fun z => (∀ j, z.cell? ⟨X.heap.size, j, none⟩ = (#[.int .i64 (1), .int .i64 ky, .string s, .int .i64 tk] : Array Value)[j]?) ∧ (∀ j, z.cell? ⟨X.heap.size + 1, j, none⟩ = (#[.int .i64 ky, .string ⟨#[]⟩] : Array Value)[j]?)) (simp [*]) (first | (go_at_call 13; refine (HS.out _ ?_).mono ?_; (first | (with_reducible exact HI.out) | (with_reducible exact HI.out.drew) | exact HI.out.drewN _); clear HS; rintro _ w1 ⟨rfl, H1, s1, s2⟩) | (go_at_call 37; refine (HR.out _ ?_).mono ?_; (first | (with_reducible exact H1.out) | (with_reducible exact H1.out.drew) | exact H1.out.drewN _); clear HR; rintro _ w2 ⟨rfl, H2, s4, s5⟩) | (go_at_call 6; refine (HF.out _ ?_).mono ?_; (first | (with_reducible exact H2.out) | (with_reducible exact H2.out.drew) | exact H2.out.drewN _); clear HF; rintro _ w3 ⟨rfl, H3, s7, s8⟩))
  go_wp2_with fail
  go_ret
  exact ⟨rfl, H3.out.fin⟩
end Go.Proofs.YtdglnobapnohmaaDoor
