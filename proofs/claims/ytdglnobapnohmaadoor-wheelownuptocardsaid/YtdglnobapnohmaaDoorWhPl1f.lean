/-
  The law's plays of both wheels: one kind.
-/
import Derived.Test.YtdglnobapnohmaaDoorWhPlC
import Derived.Deep.RegionHeld3
namespace Go.Proofs.YtdglnobapnohmaaDoor
open Go.RowKit

set_option maxRecDepth 100000 in
set_option maxHeartbeats 2000000 in
theorem pl_1f {w0 X : World} {W rb now : Nat} {S : List Tm} {F : Nat → Prop} (h : PI w0 X W rb now S F) (ky : Int) (s : ByteArray) (tk : Int) (hE : ErrType w0) (hky : KeyI ky) {c : Int} (hc : setE now S ky tk = c) (hc0 : (c == 0) = false) : Calls Tryd.prog 20 #[.pointer (some ⟨W, 0, none⟩), .pointer (some ⟨rb, 0, none⟩), .agg #[.int .i64 (1), .int .i64 ky, .string s, .int .i64 tk]] X fun e w' => e = .returned (.bool true) ∧ PQ w0 X F W rb w' := by
  have HI : Hid (type_of% (Jq.start (1) ky s tk h)) := Jq.start (1) ky s tk h
  have HL : Hid (S.length ≤ 4096 ∧ Uniq S) := ⟨h.wh.held.2, h.wh.held.1.uq⟩
  have co := HI.out.o
  have ck := HI.out.k
  have HC : Hid (setE now S ky tk = c ∧ c ≠ 0 ∧ ErrType w0 ∧ KeyI ky) := ⟨hc, by simpa using hc0, hE, hky⟩
  clear hc hE hky
  clear h
  go_enter Tryd.func20, Tryd.ntmps20
  go_wp2_with fail
  generalize ((X.alloc (.cells #[.int .i64 (1), .int .i64 ky, .string s, .int .i64 tk] 44)).alloc (.cells #[.int .i64 ky, .string ⟨#[]⟩] 98)) = V at HI co ck ⊢
  have HS : Hid (∀ z, Jq w0 X F W rb (1) ky s tk now S now S z → Calls Tryd.prog 13 #[.pointer (some ⟨W, 0, none⟩), .int .i64 ky, .int .i64 tk] z fun e w' => ∃ b, e = .returned (.iface 56 (.pointer (some ⟨b, 0, none⟩))) ∧ Hid (FaultAt w' b c ∧ Jq w0 X F W rb (1) ky s tk now S now S w') ∧ (∀ j, w'.cell? ⟨X.heap.size, j, none⟩ = (#[.int .i64 (1), .int .i64 ky, .string s, .int .i64 tk] : Array Value)[j]?) ∧ (∀ j, w'.cell? ⟨X.heap.size + 1, j, none⟩ = (#[.int .i64 ky, .string ⟨#[]⟩] : Array Value)[j]?)) := fun z hz => jset_f hz HC.out.2.2.2 HC.out.1 HC.out.2.1
  have HR : Hid (∀ z b, Jq w0 X F W rb (1) ky s tk now S now S z → FaultAt z b c → Calls Tryd.prog 37 #[.pointer (some ⟨rb, 0, none⟩), .agg #[.int .i64 ky, .string ⟨#[]⟩], .int .i64 tk] z fun e w' => e = .returned (.int .i64 c) ∧ Hid (FaultAt w' b c ∧ Jq w0 X F W rb (1) ky s tk now S now S w') ∧ (∀ j, w'.cell? ⟨X.heap.size, j, none⟩ = (#[.int .i64 (1), .int .i64 ky, .string s, .int .i64 tk] : Array Value)[j]?) ∧ (∀ j, w'.cell? ⟨X.heap.size + 1, j, none⟩ = (#[.int .i64 ky, .string ⟨#[]⟩] : Array Value)[j]?)) := fun z b hz hf => jrset_f hz HL.out.1 HC.out.1 HC.out.2.1 hf
  have HF : Hid (∀ z b, Jq w0 X F W rb (1) ky s tk now S now S z → FaultAt z b c → Calls Tryd.prog 6 #[.iface 56 (.pointer (some ⟨b, 0, none⟩)), .int .i64 c] z fun e w' => e = .returned (.bool true) ∧ Hid (Jq w0 X F W rb (1) ky s tk now S now S w') ∧ (∀ j, w'.cell? ⟨X.heap.size, j, none⟩ = (#[.int .i64 (1), .int .i64 ky, .string s, .int .i64 tk] : Array Value)[j]?) ∧ (∀ j, w'.cell? ⟨X.heap.size + 1, j, none⟩ = (#[.int .i64 ky, .string ⟨#[]⟩] : Array Value)[j]?)) := fun z b hz hf => jis_f HC.out.2.2.1 hc0 hz hf
  clear HC HL hc0
  go_region_held3 (fun z => (∀ j, z.cell? ⟨X.heap.size, j, none⟩ = (#[.int .i64 (1), .int .i64 ky, .string s, .int .i64 tk] : Array Value)[j]?) ∧ (∀ j, z.cell? ⟨X.heap.size + 1, j, none⟩ = (#[.int .i64 ky, .string ⟨#[]⟩] : Array Value)[j]?)) (simp [*]) (first | (go_at_call 13; refine (HS.out _ ?_).mono ?_; (first | (with_reducible exact HI.out) | (with_reducible exact HI.out.drew) | exact HI.out.drewN _); clear HS; rintro _ w1 ⟨b, rfl, H1, s1, s2⟩) | (go_at_call 37; refine (HR.out _ b ?_ ?_).mono ?_; (first | (with_reducible exact H1.out.2) | (with_reducible exact H1.out.2.drew) | exact H1.out.2.drewN _); (first | exact H1.out.1 | exact H1.out.1.drew); clear HR; rintro _ w2 ⟨rfl, H2, s4, s5⟩) | (go_at_call 6; refine (HF.out _ b ?_ ?_).mono ?_; (first | (with_reducible exact H2.out.2) | (with_reducible exact H2.out.2.drew) | exact H2.out.2.drewN _); (first | exact H2.out.1 | exact H2.out.1.drew); clear HF; rintro _ w3 ⟨rfl, H3, s7, s8⟩))
  go_wp2_with fail
  go_ret
  exact ⟨rfl, H3.out.fin⟩
end Go.Proofs.YtdglnobapnohmaaDoor
