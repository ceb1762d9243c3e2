/-
  The law's plays of both wheels: one kind.
-/
import Derived.Test.YtdglnobapnohmaaDoorWhPlC
import Derived.Deep.RegionHeld3
namespace Go.Proofs.YtdglnobapnohmaaDoor
open Go.RowKit

set_option maxRecDepth 100000 in
set_option maxHeartbeats 2000000 in
theorem pl_6 {w0 X : World} {W rb now : Nat} {S : List Tm} {F : Nat → Prop} (h : PI w0 X W rb now S F) (ky : Int) (s : ByteArray) (tk : Int) : Calls Tryd.prog 20 #[.pointer (some ⟨W, 0, none⟩), .pointer (some ⟨rb, 0, none⟩), .agg #[.int .i64 (6), .int .i64 ky, .string s, .int .i64 tk]] X fun e w' => e = .returned (.bool true) ∧ PQ w0 X F W rb w' := by
  have HI : Hid (type_of% (Jq.start (6) ky s tk h)) := Jq.start (6) ky s tk h
  have HL : Hid (S.length ≤ 4096 ∧ Uniq S) := ⟨h.wh.held.2, h.wh.held.1.uq⟩
  have co := HI.out.o
  have ck := HI.out.k
  clear h
  go_enter Tryd.func20, Tryd.ntmps20
  go_wp2_with fail
  generalize ((X.alloc (.cells #[.int .i64 (6), .int .i64 ky, .string s, .int .i64 tk] 44)).alloc (.cells #[.int .i64 ky, .string ⟨#[]⟩] 98)) = V at HI co ck ⊢
  obtain ⟨a, n, c, HRW⟩ : ∃ a n c, Hid (RWl V rb now S a n c) := by obtain ⟨F', g⟩ := HI.out; obtain ⟨a, n, c, r⟩ := g.rw; exact ⟨a, n, c, r⟩
  have cr := HRW.out.cell
  obtain ⟨N, hN⟩ : ∃ N : Int, N = (now : Int) := ⟨_, rfl⟩
  rw [← hN] at cr
  have hn : ((n : Nat) : Int) = (S.length : Int) := by rw [HRW.out.row.len]
  have HS : Hid (∀ z, Jq w0 X F W rb (6) ky s tk now S now S z → (∀ o, z.cell? ⟨rb, o, none⟩ = (#[.bool true, .int .i64 N, .slice a n c] : Array Value)[o]?) → Calls Tryd.prog 43 #[.pointer (some ⟨W, 0, none⟩)] z fun e w' => e = .returned (.int .i64 N) ∧ Hid (Jq w0 X F W rb (6) ky s tk now S now S w') ∧ (∀ o, w'.cell? ⟨rb, o, none⟩ = (#[.bool true, .int .i64 N, .slice a n c] : Array Value)[o]?)) := fun z hz hc => jnow hz hN hc
  have HR : Hid (∀ z, Jq w0 X F W rb (6) ky s tk now S now S z → (∀ o, z.cell? ⟨rb, o, none⟩ = (#[.bool true, .int .i64 N, .slice a n c] : Array Value)[o]?) → Calls Tryd.prog 44 #[.pointer (some ⟨W, 0, none⟩)] z fun e w' => e = .returned (.int .i64 (n : Int)) ∧ Hid (Jq w0 X F W rb (6) ky s tk now S now S w') ∧ (∀ o, w'.cell? ⟨rb, o, none⟩ = (#[.bool true, .int .i64 N, .slice a n c] : Array Value)[o]?)) := fun z hz hc => jlen hz hn hc
  clear hN hn HL HRW
  go_region_held3 (fun z => (∀ o, z.cell? ⟨rb, o, none⟩ = (#[.bool true, .int .i64 N, .slice a n c] : Array Value)[o]?)) (simp [*]) (first | (go_at_call 43; refine (HS.out _ ?_ ?_).mono ?_; (first | (with_reducible exact HI.out) | (with_reducible exact HI.out.drew) | exact HI.out.drewN _); (first | exact cr | assumption | (simpa using cr)); clear HS; rintro _ w1 ⟨rfl, H1, s1⟩) | (go_at_call 44; refine (HR.out _ ?_ ?_).mono ?_; (first | (with_reducible exact H1.out) | (with_reducible exact H1.out.drew) | exact H1.out.drewN _); (first | exact s1 | assumption | (simpa using s1)); clear HR; rintro _ w2 ⟨rfl, H2, s2⟩))
  go_wp2_with fail
  go_ret
  exact ⟨by simp, H2.out.fin⟩
end Go.Proofs.YtdglnobapnohmaaDoor
