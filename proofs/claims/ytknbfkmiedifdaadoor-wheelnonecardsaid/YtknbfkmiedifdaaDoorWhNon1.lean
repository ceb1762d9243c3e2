/-
  The law's plays, of a wheel that nobody made: one kind.
-/
import Derived.Test.YtknbfkmiedifdaaDoorWhNonP
namespace Go.Proofs.YtknbfkmiedifdaaDoor
open Go.RowKit

set_option maxRecDepth 100000 in
set_option maxHeartbeats 1000000 in
theorem plays_1 {w : World} {v : Value} {rb : Nat} (ky : Int) (s : ByteArray) (tk : Int) (hu : UnW w v) (hr : RPl w rb) (hE : ErrType w) : Calls Tryd.prog 4 #[v, .pointer (some ⟨rb, 0, none⟩), .agg #[.int .i64 (1), .int .i64 ky, .string s, .int .i64 tk]] w fun e w' => e = .returned (.bool true) ∧ Below w.heap.size w w' := by
  have HI : Hid (type_of% (PlI.start (1) ky s tk hu hr hE)) := PlI.start (1) ky s tk hu hr hE
  have co := HI.out.o
  have ck := HI.out.k
  clear hu hr hE
  go_enter Tryd.func4, Tryd.ntmps4
  go_wp2_with fail
  generalize ((w.alloc (.cells #[.int .i64 (1), .int .i64 ky, .string s, .int .i64 tk] 23)).alloc (.cells #[.int .i64 ky, .string ⟨#[]⟩] 36)) = V at HI co ck ⊢
  have cr : ∀ j, V.cell? ⟨rb, j, none⟩ = (#[.bool false, .int .i64 0, .slice none 0 0] : Array Value)[j]? := HI.out.rp
  have HS : Hid (∀ z, Below V.heap.size V z → Calls Tryd.prog 7 #[v, .int .i64 ky, .int .i64 tk] z fun e w' => ∃ b, e = .returned (.iface 62 (.pointer (some ⟨b, 0, none⟩))) ∧ Hid (FaultAt w' b 3 ∧ Below V.heap.size V w') ∧ (∀ j, w'.cell? ⟨w.heap.size, j, none⟩ = (#[.int .i64 (1), .int .i64 ky, .string s, .int .i64 tk] : Array Value)[j]?) ∧ (∀ j, w'.cell? ⟨w.heap.size + 1, j, none⟩ = (#[.int .i64 ky, .string ⟨#[]⟩] : Array Value)[j]?) ∧ RPl w' rb) := fun z hz => (un_set (HI.out.below hz).un ky tk).mono fun e w' ⟨ev, he, b, h1, h2, h3⟩ => ⟨b, by rw [he, h1], ⟨h2, below_then hz h3⟩, ((HI.out.below hz).below h3).o, ((HI.out.below hz).below h3).k, ((HI.out.below hz).below h3).rp⟩
  have HR : Hid (∀ z b, Below V.heap.size V z → FaultAt z b 3 → Calls Tryd.prog 8 #[.pointer (some ⟨rb, 0, none⟩), .agg #[.int .i64 ky, .string ⟨#[]⟩], .int .i64 tk] z fun e w' => e = .returned (.int .i64 3) ∧ Hid (FaultAt w' b 3 ∧ Below V.heap.size V w') ∧ (∀ j, w'.cell? ⟨w.heap.size, j, none⟩ = (#[.int .i64 (1), .int .i64 ky, .string s, .int .i64 tk] : Array Value)[j]?) ∧ (∀ j, w'.cell? ⟨w.heap.size + 1, j, none⟩ = (#[.int .i64 ky, .string ⟨#[]⟩] : Array Value)[j]?) ∧ RPl w' rb) := fun z b hz hf => (rpl_set (HI.out.below hz).rp ky ⟨#[]⟩ tk).mono fun e w' ⟨he, h3⟩ => ⟨he, ⟨hf.below h3, below_then hz h3⟩, ((HI.out.below hz).below h3).o, ((HI.out.below hz).below h3).k, ((HI.out.below hz).below h3).rp⟩
  have HF : Hid (∀ z b, Below V.heap.size V z → FaultAt z b 3 → Calls Tryd.prog 6 #[.iface 62 (.pointer (some ⟨b, 0, none⟩)), .int .i64 3] z fun e w' => e = .returned (.bool true) ∧ Hid (Below w.heap.size w w') ∧ (∀ j, w'.cell? ⟨w.heap.size, j, none⟩ = (#[.int .i64 (1), .int .i64 ky, .string s, .int .i64 tk] : Array Value)[j]?) ∧ (∀ j, w'.cell? ⟨w.heap.size + 1, j, none⟩ = (#[.int .i64 ky, .string ⟨#[]⟩] : Array Value)[j]?) ∧ RPl w' rb) := fun z b hz hf => (isFault b 3 z rfl (HI.out.below hz).err hf).mono fun e w' ⟨he, h3⟩ => ⟨he, ((HI.out.below hz).below h3).b, ((HI.out.below hz).below h3).o, ((HI.out.below hz).below h3).k, ((HI.out.below hz).below h3).rp⟩
  clear HI
  unfold RPl at HS HR HF
  go_region_held3 (fun z => (∀ j, z.cell? ⟨w.heap.size, j, none⟩ = (#[.int .i64 (1), .int .i64 ky, .string s, .int .i64 tk] : Array Value)[j]?) ∧ (∀ j, z.cell? ⟨w.heap.size + 1, j, none⟩ = (#[.int .i64 ky, .string ⟨#[]⟩] : Array Value)[j]?) ∧ (∀ j, z.cell? ⟨rb, j, none⟩ = (#[.bool false, .int .i64 0, .slice none 0 0] : Array Value)[j]?)) (simp [*]) (first | (go_at_call 7; refine (HS.out _ ?_).mono ?_; (first | (with_reducible exact Below.refl _ _) | (with_reducible exact Below.refl _ _) | (with_reducible exact Below.drew Below.refl _ _) | exact Below.drew (Below.refl _ _) | exact below_drewN (Below.refl _ _) _ | exact below_drewN Below.refl _ _ _); clear HS; rintro _ w1 ⟨b, rfl, H1, s1, s2, s3⟩) | (go_at_call 8; refine (HR.out _ b ?_ ?_).mono ?_; (first | (with_reducible exact Below.refl _ _) | (with_reducible exact H1.out.2) | (with_reducible exact Below.drew H1.out.2) | exact Below.drew (Below.refl _ _) | exact below_drewN (Below.refl _ _) _ | exact below_drewN H1.out.2 _); (first | exact H1.out.1 | exact H1.out.1.drew); clear HR; rintro _ w2 ⟨rfl, H2, s4, s5, s6⟩) | (go_at_call 6; refine (HF.out _ b ?_ ?_).mono ?_; (first | (with_reducible exact Below.refl _ _) | (with_reducible exact H2.out.2) | (with_reducible exact Below.drew H2.out.2) | exact Below.drew (Below.refl _ _) | exact below_drewN (Below.refl _ _) _ | exact below_drewN H2.out.2 _); (first | exact H2.out.1 | exact H2.out.1.drew); clear HF; rintro _ w3 ⟨rfl, H3, s7, s8, s9⟩))
  go_wp2_with fail
  go_ret
  exact ⟨rfl, H3.out⟩
end Go.Proofs.YtknbfkmiedifdaaDoor
