/-
  The law's plays, of a wheel that nobody made: one kind.
-/
import Derived.Test.YtknbfkmiedifdaaDoorWhNonP
namespace Go.Proofs.YtknbfkmiedifdaaDoor
open Go.RowKit

set_option maxRecDepth 100000 in
set_option maxHeartbeats 1000000 in
theorem plays_2 {w : World} {v : Value} {rb : Nat} (ky : Int) (s : ByteArray) (tk : Int) (hu : UnW w v) (hr : RPl w rb) (hE : ErrType w) : Calls Tryd.prog 4 #[v, .pointer (some ⟨rb, 0, none⟩), .agg #[.int .i64 (2), .int .i64 ky, .string s, .int .i64 tk]] w fun e w' => e = .returned (.bool true) ∧ Below w.heap.size w w' := by
  have HI : Hid (type_of% (PlI.start (2) ky s tk hu hr hE)) := PlI.start (2) ky s tk hu hr hE
  have co := HI.out.o
  have ck := HI.out.k
  clear hu hr hE
  go_enter Tryd.func4, Tryd.ntmps4
  go_wp2_with fail
  generalize ((w.alloc (.cells #[.int .i64 (2), .int .i64 ky, .string s, .int .i64 tk] 23)).alloc (.cells #[.int .i64 ky, .string ⟨#[]⟩] 36)) = V at HI co ck ⊢
  have cr : ∀ j, V.cell? ⟨rb, j, none⟩ = (#[.bool false, .int .i64 0, .slice none 0 0] : Array Value)[j]? := HI.out.rp
  have HB0 : Hid (Below w.heap.size w V) := HI.out.b
  have HS : Hid (∀ z, Below V.heap.size V z → Calls Tryd.prog 9 #[v, .int .i64 ky] z fun e w' => e = .returned (.bool false) ∧ Hid (Below V.heap.size V w') ∧ (∀ j, w'.cell? ⟨w.heap.size, j, none⟩ = (#[.int .i64 (2), .int .i64 ky, .string s, .int .i64 tk] : Array Value)[j]?) ∧ (∀ j, w'.cell? ⟨w.heap.size + 1, j, none⟩ = (#[.int .i64 ky, .string ⟨#[]⟩] : Array Value)[j]?) ∧ RPl w' rb) := fun z hz => (un_stop (HI.out.below hz).un ky).mono fun e w' hq => by
    have h3 : Below z.heap.size z w' := by first | exact hq.2 | (rw [hq.2]; exact Below.refl _ _)
    exact ⟨hq.1, below_then hz h3, ((HI.out.below hz).below h3).o, ((HI.out.below hz).below h3).k, ((HI.out.below hz).below h3).rp⟩
  have HR : Hid (∀ z, Below V.heap.size V z → Calls Tryd.prog 10 #[.pointer (some ⟨rb, 0, none⟩), .agg #[.int .i64 ky, .string ⟨#[]⟩]] z fun e w' => e = .returned (.bool false) ∧ Hid (Below V.heap.size V w') ∧ (∀ j, w'.cell? ⟨w.heap.size, j, none⟩ = (#[.int .i64 (2), .int .i64 ky, .string s, .int .i64 tk] : Array Value)[j]?) ∧ (∀ j, w'.cell? ⟨w.heap.size + 1, j, none⟩ = (#[.int .i64 ky, .string ⟨#[]⟩] : Array Value)[j]?) ∧ RPl w' rb) := fun z hz => (rpl_stop (HI.out.below hz).rp ky ⟨#[]⟩).mono fun e w' hq => by
    have h3 : Below z.heap.size z w' := by first | exact hq.2 | (rw [hq.2]; exact Below.refl _ _)
    exact ⟨hq.1, below_then hz h3, ((HI.out.below hz).below h3).o, ((HI.out.below hz).below h3).k, ((HI.out.below hz).below h3).rp⟩
  clear HI
  unfold RPl at HS HR
  go_region_held3 (fun z => (∀ j, z.cell? ⟨w.heap.size, j, none⟩ = (#[.int .i64 (2), .int .i64 ky, .string s, .int .i64 tk] : Array Value)[j]?) ∧ (∀ j, z.cell? ⟨w.heap.size + 1, j, none⟩ = (#[.int .i64 ky, .string ⟨#[]⟩] : Array Value)[j]?) ∧ (∀ j, z.cell? ⟨rb, j, none⟩ = (#[.bool false, .int .i64 0, .slice none 0 0] : Array Value)[j]?)) (simp [*]) (first | (go_at_call 9; refine (HS.out _ ?_).mono ?_; (first | (with_reducible exact Below.refl _ _) | (with_reducible exact Below.refl _ _) | (with_reducible exact Below.drew Below.refl _ _) | exact Below.drew (Below.refl _ _) | exact below_drewN (Below.refl _ _) _ | exact below_drewN Below.refl _ _ _); clear HS; rintro _ w1 ⟨rfl, H1, s1a, s1b, s1c⟩) | (go_at_call 10; refine (HR.out _ ?_).mono ?_; (first | (with_reducible exact Below.refl _ _) | (with_reducible exact H1.out) | (with_reducible exact Below.drew H1.out) | exact Below.drew (Below.refl _ _) | exact below_drewN (Below.refl _ _) _ | exact below_drewN H1.out _); clear HR; rintro _ w2 ⟨rfl, H2, s2a, s2b, s2c⟩))
  go_wp2_with fail
  go_ret
  exact ⟨rfl, below_then HB0.out H2.out⟩
end Go.Proofs.YtknbfkmiedifdaaDoor
