/-
  The law's plays, of a wheel that nobody made: one kind.
-/
import Derived.Test.YtknbfkmiedifdaaDoorWhNonP
namespace Go.Proofs.YtknbfkmiedifdaaDoor
open Go.RowKit

set_option maxRecDepth 100000 in
set_option maxHeartbeats 1000000 in
theorem plays_3 {w : World} {v : Value} {rb : Nat} (ky : Int) (s : ByteArray) (tk : Int) (hu : UnW w v) (hr : RPl w rb) (hE : ErrType w) : Calls Tryd.prog 4 #[v, .pointer (some ⟨rb, 0, none⟩), .agg #[.int .i64 (3), .int .i64 ky, .string s, .int .i64 tk]] w fun e w' => e = .returned (.bool true) ∧ Below w.heap.size w w' := by
  have HI : Hid (type_of% (PlI.start (3) ky s tk hu hr hE)) := PlI.start (3) ky s tk hu hr hE
  have co := HI.out.o
  have ck := HI.out.k
  clear hu hr hE
  go_enter Tryd.func4, Tryd.ntmps4
  go_wp2_with fail
  generalize ((w.alloc (.cells #[.int .i64 (3), .int .i64 ky, .string s, .int .i64 tk] 23)).alloc (.cells #[.int .i64 ky, .string ⟨#[]⟩] 36)) = V at HI co ck ⊢
  have cr : ∀ j, V.cell? ⟨rb, j, none⟩ = (#[.bool false, .int .i64 0, .slice none 0 0] : Array Value)[j]? := HI.out.rp
  have HB0 : Hid (Below w.heap.size w V) := HI.out.b
  have HS : Hid (∀ z, Below V.heap.size V z → Calls Tryd.prog 11 #[v, .int .i64 tk] z fun e w' => ∃ b, e = .returned (.tuple #[.slice none 0 0, .iface 62 (.pointer (some ⟨b, 0, none⟩))]) ∧ Hid (FaultAt w' b 3 ∧ Below V.heap.size V w') ∧ (∀ j, w'.cell? ⟨w.heap.size, j, none⟩ = (#[.int .i64 (3), .int .i64 ky, .string s, .int .i64 tk] : Array Value)[j]?) ∧ (∀ j, w'.cell? ⟨w.heap.size + 1, j, none⟩ = (#[.int .i64 ky, .string ⟨#[]⟩] : Array Value)[j]?) ∧ RPl w' rb) := fun z hz => (un_adv (HI.out.below hz).un tk).mono fun e w' ⟨ev, he, b, h1, h2, h3⟩ => ⟨b, by rw [he, h1], ⟨h2, below_then hz h3⟩, ((HI.out.below hz).below h3).o, ((HI.out.below hz).below h3).k, ((HI.out.below hz).below h3).rp⟩
  have HR : Hid (∀ z b, Below V.heap.size V z → FaultAt z b 3 → Calls Tryd.prog 12 #[.pointer (some ⟨rb, 0, none⟩), .int .i64 tk] z fun e w' => e = .returned (.tuple #[.slice none 0 0, .int .i64 3]) ∧ Hid (FaultAt w' b 3 ∧ Below V.heap.size V w') ∧ (∀ j, w'.cell? ⟨w.heap.size, j, none⟩ = (#[.int .i64 (3), .int .i64 ky, .string s, .int .i64 tk] : Array Value)[j]?) ∧ (∀ j, w'.cell? ⟨w.heap.size + 1, j, none⟩ = (#[.int .i64 ky, .string ⟨#[]⟩] : Array Value)[j]?) ∧ RPl w' rb) := fun z b hz hf => (rpl_adv (HI.out.below hz).rp tk).mono fun e w' ⟨he, h3⟩ => by
    subst h3
    exact ⟨he, ⟨hf, hz⟩, (HI.out.below hz).o, (HI.out.below hz).k, (HI.out.below hz).rp⟩
  have HF : Hid (∀ z b, Below V.heap.size V z → FaultAt z b 3 → Calls Tryd.prog 6 #[.iface 62 (.pointer (some ⟨b, 0, none⟩)), .int .i64 3] z fun e w' => e = .returned (.bool true) ∧ Hid (Below V.heap.size V w') ∧ (∀ j, w'.cell? ⟨w.heap.size, j, none⟩ = (#[.int .i64 (3), .int .i64 ky, .string s, .int .i64 tk] : Array Value)[j]?) ∧ (∀ j, w'.cell? ⟨w.heap.size + 1, j, none⟩ = (#[.int .i64 ky, .string ⟨#[]⟩] : Array Value)[j]?) ∧ RPl w' rb) := fun z b hz hf => (isFault b 3 z rfl (HI.out.below hz).err hf).mono fun e w' ⟨he, h3⟩ => ⟨he, below_then hz h3, ((HI.out.below hz).below h3).o, ((HI.out.below hz).below h3).k, ((HI.out.below hz).below h3).rp⟩
  have HN : Hid (∀ z, Below V.heap.size V z → Calls Tryd.prog 14 #[.slice none 0 0] z fun e w' => e = .returned (.slice none 0 0) ∧ Hid (Below V.heap.size V w') ∧ (∀ j, w'.cell? ⟨w.heap.size, j, none⟩ = (#[.int .i64 (3), .int .i64 ky, .string s, .int .i64 tk] : Array Value)[j]?) ∧ (∀ j, w'.cell? ⟨w.heap.size + 1, j, none⟩ = (#[.int .i64 ky, .string ⟨#[]⟩] : Array Value)[j]?) ∧ RPl w' rb) := fun z hz => (numbers_nil z).mono fun e w' hq => by
    have h3 : Below z.heap.size z w' := by first | exact hq.2 | (rw [hq.2]; exact Below.refl _ _)
    exact ⟨hq.1, below_then hz h3, ((HI.out.below hz).below h3).o, ((HI.out.below hz).below h3).k, ((HI.out.below hz).below h3).rp⟩
  have HT : Hid (∀ z, Below V.heap.size V z → Calls Tryd.prog 13 #[.slice none 0 0, .slice none 0 0] z fun e w' => e = .returned (.bool true) ∧ Hid (Below V.heap.size V w') ∧ (∀ j, w'.cell? ⟨w.heap.size, j, none⟩ = (#[.int .i64 (3), .int .i64 ky, .string s, .int .i64 tk] : Array Value)[j]?) ∧ (∀ j, w'.cell? ⟨w.heap.size + 1, j, none⟩ = (#[.int .i64 ky, .string ⟨#[]⟩] : Array Value)[j]?) ∧ RPl w' rb) := fun z hz => (like_nil z).mono fun e w' hq => by
    have h3 : Below z.heap.size z w' := by first | exact hq.2 | (rw [hq.2]; exact Below.refl _ _)
    exact ⟨hq.1, below_then hz h3, ((HI.out.below hz).below h3).o, ((HI.out.below hz).below h3).k, ((HI.out.below hz).below h3).rp⟩
  clear HI
  unfold RPl at HS HR HF HN HT
  refine (HS.out _ (Below.refl _ _)).mono ?_
  rintro _ w1 ⟨b, rfl, H1, s1a, s1b, s1c⟩
  clear HS
  go_wp2_with fail
  refine (HR.out _ b H1.out.2 H1.out.1).mono ?_
  rintro _ w2 ⟨rfl, H2, s2a, s2b, s2c⟩
  clear HR
  go_wp2_with fail
  refine (HF.out _ b H2.out.2 H2.out.1).mono ?_
  rintro _ w3 ⟨rfl, H3, s3a, s3b, s3c⟩
  clear HF
  go_wp2_with fail
  refine (HN.out _ H3.out).mono ?_
  rintro _ w4 ⟨rfl, H4, s4a, s4b, s4c⟩
  clear HN
  go_wp2_with fail
  refine (HT.out _ H4.out).mono ?_
  rintro _ w5 ⟨rfl, H5, s5a, s5b, s5c⟩
  clear HT
  go_wp2_with fail
  go_ret
  exact ⟨rfl, below_then HB0.out H5.out⟩
end Go.Proofs.YtknbfkmiedifdaaDoor
