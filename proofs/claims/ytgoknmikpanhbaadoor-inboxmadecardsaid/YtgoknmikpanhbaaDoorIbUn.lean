/-
  A box that nobody made: every call.
-/
import Derived.Test.YtgoknmikpanhbaaDoorIbRead
import Derived.Test.YtgoknmikpanhbaaDoorIbOpn
namespace Go.Proofs.YtgoknmikpanhbaaDoor
open Go.RowKit

section
variable {w : World} {x : Value}
set_option maxRecDepth 100000 in
set_option maxHeartbeats 2000000 in
theorem find_un (h : Un w x) (s : ByteArray) : Calls Tryd.prog 6 #[x, .string s] w (EnQ w zE false) := by
  have bv : Below w.heap.size w (w.alloc (.cells #[.string ⟨#[]⟩, .slice none 0 0, .int .i64 0, .int .i64 0, .slice none 0 0, .string ⟨#[]⟩, .slice none 0 0] 24)) := (Below.refl _ _).alloc (Nat.le_refl _) _
  have bx := Box.new w #[.string ⟨#[]⟩, .slice none 0 0, .int .i64 0, .int .i64 0, .slice none 0 0, .string ⟨#[]⟩, .slice none 0 0] 24
  obtain ⟨V, hV⟩ : ∃ V, w.alloc (.cells #[.string ⟨#[]⟩, .slice none 0 0, .int .i64 0, .int .i64 0, .slice none 0 0, .string ⟨#[]⟩, .slice none 0 0] 24) = V := ⟨_, rfl⟩
  rw [hV] at bv bx
  have hmk := made_no (h.below bv)
  have cx := bx.cell
  have fx := bx.free
  have HB : Hid (Below w.heap.size w V) := bv
  clear bv h bx
  go_enter Tryd.func6, Tryd.ntmps6
  go_wp2_with (go_at_call 21; refine hmk.mono ?_; rintro _ w9 ⟨rfl, h9⟩; subst w9)
  clear hV
  refine bodyPost_ret ?_ rfl ⟨none, 0, none, 0, none, 0, rfl, zE_own _ _, ?_⟩
  · simp [results, Tryd.results6, go_sem, cx, zE]
  · repeat' (first | (with_reducible exact HB.out) | (with_reducible refine Below.setCell ?_ (by exact Nat.le_refl _) _) | (with_reducible refine Below.alloc ?_ (by simp; omega) _))
set_option maxRecDepth 100000 in
set_option maxHeartbeats 2000000 in
theorem last_un (h : Un w x) : Calls Tryd.prog 7 #[x] w (EnQ w zE false) := by
  have bv : Below w.heap.size w (w.alloc (.cells #[.string ⟨#[]⟩, .slice none 0 0, .int .i64 0, .int .i64 0, .slice none 0 0, .string ⟨#[]⟩, .slice none 0 0] 24)) := (Below.refl _ _).alloc (Nat.le_refl _) _
  have bx := Box.new w #[.string ⟨#[]⟩, .slice none 0 0, .int .i64 0, .int .i64 0, .slice none 0 0, .string ⟨#[]⟩, .slice none 0 0] 24
  obtain ⟨V, hV⟩ : ∃ V, w.alloc (.cells #[.string ⟨#[]⟩, .slice none 0 0, .int .i64 0, .int .i64 0, .slice none 0 0, .string ⟨#[]⟩, .slice none 0 0] 24) = V := ⟨_, rfl⟩
  rw [hV] at bv bx
  have hmk := made_no (h.below bv)
  have cx := bx.cell
  have fx := bx.free
  have HB : Hid (Below w.heap.size w V) := bv
  clear bv h bx
  go_enter Tryd.func7, Tryd.ntmps7
  go_wp2_with (go_at_call 21; refine hmk.mono ?_; rintro _ w9 ⟨rfl, h9⟩; subst w9)
  clear hV
  refine bodyPost_ret ?_ rfl ⟨none, 0, none, 0, none, 0, rfl, zE_own _ _, ?_⟩
  · simp [results, Tryd.results7, go_sem, cx, zE]
  · repeat' (first | (with_reducible exact HB.out) | (with_reducible refine Below.setCell ?_ (by exact Nat.le_refl _) _) | (with_reducible refine Below.alloc ?_ (by simp; omega) _))
set_option maxRecDepth 100000 in
set_option maxHeartbeats 2000000 in
theorem open_un (h : Un w x) : Calls Tryd.prog 14 #[x] w fun r w' => r = .returned (.slice none 0 0) ∧ w' = w := by
  have hmk := made_no h
  clear h
  go_enter Tryd.func14, Tryd.ntmps14
  go_wp2_with (go_at_call 21; refine hmk.mono ?_; rintro _ w9 ⟨rfl, h9⟩; subst w9)
  go_ret
  exact ⟨rfl, rfl⟩
set_option maxRecDepth 100000 in
set_option maxHeartbeats 2000000 in
theorem list_un (h : Un w x) : Calls Tryd.prog 15 #[x] w fun r w' => r = .returned (.slice none 0 0) ∧ w' = w := by
  have hmk := made_no h
  clear h
  go_enter Tryd.func15, Tryd.ntmps15
  go_wp2_with (go_at_call 21; refine hmk.mono ?_; rintro _ w9 ⟨rfl, h9⟩; subst w9)
  go_ret
  exact ⟨rfl, rfl⟩
set_option maxRecDepth 100000 in
set_option maxHeartbeats 2000000 in
theorem count_un (h : Un w x) : Calls Tryd.prog 9 #[x] w fun r w' => r = .returned (.tuple #[.int .i64 0, .int .i64 0]) ∧ w' = w := by
  have hmk := made_no h
  clear h
  go_enter Tryd.func9, Tryd.ntmps9
  go_wp2_with (go_at_call 21; refine hmk.mono ?_; rintro _ w9 ⟨rfl, h9⟩; subst w9)
  go_ret2
  exact ⟨rfl, rfl⟩
set_option maxRecDepth 100000 in
set_option maxHeartbeats 2000000 in
theorem decide_un (h : Un w x) (s cd : ByteArray) (p : Option Addr) (n c : Nat) : Calls Tryd.prog 8 #[x, .string s, .string cd, .slice p n c] w fun r w' => r = .returned (.tuple #[.slice none 0 0, .iface 90 (.pointer (some ⟨w.heap.size, 0, none⟩))]) ∧ Hid (IFault w' w.heap.size 0 3 ∧ Below w.heap.size w w') := by
  have hmk := made_no h
  have hft := fault_any 0 3 w
  clear h
  go_enter Tryd.func8, Tryd.ntmps8
  go_wp2_with (go_at_call 21; refine hmk.mono ?_; rintro _ w9 ⟨rfl, h9⟩; subst w9)
  refine hft.mono ?_
  rintro _ w2 ⟨rfl, hf2, hb2⟩
  have HF : Hid (IFault w2 w.heap.size 0 3 ∧ Below w.heap.size w w2) := ⟨hf2, hb2⟩
  clear hft hb2 hf2 hmk
  go_wp2_with fail
  go_ret2
  exact ⟨rfl, HF.out⟩
set_option maxRecDepth 100000 in
set_option maxHeartbeats 2000000 in
theorem accept_un (h : Un w x) (e : Ent) : Calls Tryd.prog 12 #[x, .agg #[.string e.ct, .slice e.tp e.tn e.tc, .int .i64 e.nu, .int .i64 e.tk, .slice e.cp e.cn e.cc, .string e.cd, .slice e.ap e.an e.ac]] w fun r w' => ∃ b, r = .returned (.iface 90 (.pointer (some ⟨b, 0, none⟩))) ∧ Hid (IFault w' b 0 3 ∧ w.heap.size ≤ b ∧ Below w.heap.size w w') := by
  have bv : Below w.heap.size w (w.alloc (.cells #[.string e.ct, .slice e.tp e.tn e.tc, .int .i64 e.nu, .int .i64 e.tk, .slice e.cp e.cn e.cc, .string e.cd, .slice e.ap e.an e.ac] 24)) := (Below.refl _ _).alloc (Nat.le_refl _) _
  obtain ⟨V, hV⟩ : ∃ V, w.alloc (.cells #[.string e.ct, .slice e.tp e.tn e.tc, .int .i64 e.nu, .int .i64 e.tk, .slice e.cp e.cn e.cc, .string e.cd, .slice e.ap e.an e.ac] 24) = V := ⟨_, rfl⟩
  rw [hV] at bv
  have hmk := made_no (h.below bv)
  have hft := fault_any 0 3 V
  have hsz : w.heap.size ≤ V.heap.size := bv.size
  clear h
  go_enter Tryd.func12, Tryd.ntmps12
  go_wp2_with (go_at_call 21; refine hmk.mono ?_; rintro _ w9 ⟨rfl, h9⟩; subst w9)
  refine hft.mono ?_
  rintro _ w2 ⟨rfl, hf2, hb2⟩
  have HF : Hid (IFault w2 V.heap.size 0 3 ∧ w.heap.size ≤ V.heap.size ∧ Below w.heap.size w w2) := ⟨hf2, hsz, bv.trans (hb2.mono hsz)⟩
  clear hft hb2 hf2 hmk hsz bv
  go_wp2_with fail
  go_ret
  exact ⟨_, rfl, HF.out⟩
end
end Go.Proofs.YtgoknmikpanhbaaDoor
