import Derived.Test.YtplhdgijjckjcaaGreatDoorIbRead
import Derived.Test.YtplhdgijjckjcaaGreatDoorIbOpn
import Derived.Deep.RegionHeld3
/-
  A box that nobody made: every call.
-/
namespace Go.Proofs.YtplhdgijjckjcaaGreatDoor
open Go.RowKit

section
variable {w : World} {x : Value}
set_option maxRecDepth 100000 in
set_option maxHeartbeats 2000000 in
theorem find_un (h : Un w x) (s : ByteArray) : Calls Tryz.prog 32 #[x, .string s] w (EnQ w zE false) := by
  have bv : Below w.heap.size w (w.alloc (.cells #[.string ⟨#[]⟩, .slice none 0 0, .int .i64 0, .int .i64 0, .slice none 0 0, .string ⟨#[]⟩, .slice none 0 0] 29)) := (Below.refl _ _).alloc (Nat.le_refl _) _
  have bx := Box.new w #[.string ⟨#[]⟩, .slice none 0 0, .int .i64 0, .int .i64 0, .slice none 0 0, .string ⟨#[]⟩, .slice none 0 0] 29
  obtain ⟨V, hV⟩ : ∃ V, w.alloc (.cells #[.string ⟨#[]⟩, .slice none 0 0, .int .i64 0, .int .i64 0, .slice none 0 0, .string ⟨#[]⟩, .slice none 0 0] 29) = V := ⟨_, rfl⟩
  rw [hV] at bv bx
  have hmk := made_no (h.below bv)
  have cx := bx.cell
  have fx := bx.free
  have HB : Hid (Below w.heap.size w V) := bv
  clear bv h bx
  go_enter Tryz.func32, Tryz.ntmps32
  go_wp2_with (go_at_call 51; refine hmk.mono ?_; rintro _ w9 ⟨rfl, h9⟩; subst w9)
  clear hV
  refine bodyPost_ret ?_ rfl ⟨none, 0, none, 0, none, 0, rfl, zE_own _ _, ?_⟩
  · simp [results, Tryz.results32, go_sem, cx, zE]
  · repeat' (first | (with_reducible exact HB.out) | (with_reducible refine Below.setCell ?_ (by exact Nat.le_refl _) _) | (with_reducible refine Below.alloc ?_ (by simp; omega) _))
set_option maxRecDepth 100000 in
set_option maxHeartbeats 2000000 in
theorem last_un (h : Un w x) : Calls Tryz.prog 36 #[x] w (EnQ w zE false) := by
  have bv : Below w.heap.size w (w.alloc (.cells #[.string ⟨#[]⟩, .slice none 0 0, .int .i64 0, .int .i64 0, .slice none 0 0, .string ⟨#[]⟩, .slice none 0 0] 29)) := (Below.refl _ _).alloc (Nat.le_refl _) _
  have bx := Box.new w #[.string ⟨#[]⟩, .slice none 0 0, .int .i64 0, .int .i64 0, .slice none 0 0, .string ⟨#[]⟩, .slice none 0 0] 29
  obtain ⟨V, hV⟩ : ∃ V, w.alloc (.cells #[.string ⟨#[]⟩, .slice none 0 0, .int .i64 0, .int .i64 0, .slice none 0 0, .string ⟨#[]⟩, .slice none 0 0] 29) = V := ⟨_, rfl⟩
  rw [hV] at bv bx
  have hmk := made_no (h.below bv)
  have cx := bx.cell
  have fx := bx.free
  have HB : Hid (Below w.heap.size w V) := bv
  clear bv h bx
  go_enter Tryz.func36, Tryz.ntmps36
  go_wp2_with (go_at_call 51; refine hmk.mono ?_; rintro _ w9 ⟨rfl, h9⟩; subst w9)
  clear hV
  refine bodyPost_ret ?_ rfl ⟨none, 0, none, 0, none, 0, rfl, zE_own _ _, ?_⟩
  · simp [results, Tryz.results36, go_sem, cx, zE]
  · repeat' (first | (with_reducible exact HB.out) | (with_reducible refine Below.setCell ?_ (by exact Nat.le_refl _) _) | (with_reducible refine Below.alloc ?_ (by simp; omega) _))
set_option maxRecDepth 100000 in
set_option maxHeartbeats 2000000 in
theorem open_un (h : Un w x) : Calls Tryz.prog 37 #[x] w fun r w' => r = .returned (.slice none 0 0) ∧ w' = w := by
  have hmk := made_no h
  clear h
  go_enter Tryz.func37, Tryz.ntmps37
  go_wp2_with (go_at_call 51; refine hmk.mono ?_; rintro _ w9 ⟨rfl, h9⟩; subst w9)
  go_ret
  exact ⟨rfl, rfl⟩
set_option maxRecDepth 100000 in
set_option maxHeartbeats 2000000 in
theorem list_un (h : Un w x) : Calls Tryz.prog 38 #[x] w fun r w' => r = .returned (.slice none 0 0) ∧ w' = w := by
  have hmk := made_no h
  clear h
  go_enter Tryz.func38, Tryz.ntmps38
  go_wp2_with (go_at_call 51; refine hmk.mono ?_; rintro _ w9 ⟨rfl, h9⟩; subst w9)
  go_ret
  exact ⟨rfl, rfl⟩
set_option maxRecDepth 100000 in
set_option maxHeartbeats 2000000 in
theorem count_un (h : Un w x) : Calls Tryz.prog 41 #[x] w fun r w' => r = .returned (.tuple #[.int .i64 0, .int .i64 0]) ∧ w' = w := by
  have hmk := made_no h
  clear h
  go_enter Tryz.func41, Tryz.ntmps41
  go_wp2_with (go_at_call 51; refine hmk.mono ?_; rintro _ w9 ⟨rfl, h9⟩; subst w9)
  go_ret2
  exact ⟨rfl, rfl⟩
set_option maxRecDepth 100000 in
set_option maxHeartbeats 2000000 in
theorem decide_un (h : Un w x) (s cd : ByteArray) (p : Option Addr) (n c : Nat) : Calls Tryz.prog 26 #[x, .string s, .string cd, .slice p n c] w fun r w' => r = .returned (.tuple #[.slice none 0 0, .iface 98 (.pointer (some ⟨w.heap.size, 0, none⟩))]) ∧ Hid (IFault w' w.heap.size 0 3 ∧ Below w.heap.size w w') := by
  have hmk := made_no h
  have hft := fault_any 0 3 w
  clear h
  go_enter Tryz.func26, Tryz.ntmps26
  go_wp2_with (go_at_call 51; refine hmk.mono ?_; rintro _ w9 ⟨rfl, h9⟩; subst w9)
  refine hft.mono ?_
  rintro _ w2 ⟨rfl, hf2, hb2⟩
  have HF : Hid (IFault w2 w.heap.size 0 3 ∧ Below w.heap.size w w2) := ⟨hf2, hb2⟩
  clear hft hb2 hf2 hmk
  go_wp2_with fail
  go_ret2
  exact ⟨rfl, HF.out⟩
set_option maxRecDepth 100000 in
set_option maxHeartbeats 2000000 in
theorem accept_un (h : Un w x) (e : Ent) : Calls Tryz.prog 20 #[x, .agg #[.string e.ct, .slice e.tp e.tn e.tc, .int .i64 e.nu, .int .i64 e.tk, .slice e.cp e.cn e.cc, .string e.cd, .slice e.ap e.an e.ac]] w fun r w' => ∃ b, r = .returned (.iface 98 (.pointer (some ⟨b, 0, none⟩))) ∧ Hid (IFault w' b 0 3 ∧ w.heap.size ≤ b ∧ Below w.heap.size w w') := by
  have bv : Below w.heap.size w (w.alloc (.cells #[.string e.ct, .slice e.tp e.tn e.tc, .int .i64 e.nu, .int .i64 e.tk, .slice e.cp e.cn e.cc, .string e.cd, .slice e.ap e.an e.ac] 29)) := (Below.refl _ _).alloc (Nat.le_refl _) _
  obtain ⟨V, hV⟩ : ∃ V, w.alloc (.cells #[.string e.ct, .slice e.tp e.tn e.tc, .int .i64 e.nu, .int .i64 e.tk, .slice e.cp e.cn e.cc, .string e.cd, .slice e.ap e.an e.ac] 29) = V := ⟨_, rfl⟩
  rw [hV] at bv
  have hmk := made_no (h.below bv)
  have hft := fault_any 0 3 V
  have hsz : w.heap.size ≤ V.heap.size := bv.size
  clear h
  go_enter Tryz.func20, Tryz.ntmps20
  go_wp2_with (go_at_call 51; refine hmk.mono ?_; rintro _ w9 ⟨rfl, h9⟩; subst w9)
  refine hft.mono ?_
  rintro _ w2 ⟨rfl, hf2, hb2⟩
  have HF : Hid (IFault w2 V.heap.size 0 3 ∧ w.heap.size ≤ V.heap.size ∧ Below w.heap.size w w2) := ⟨hf2, hsz, bv.trans (hb2.mono hsz)⟩
  clear hft hb2 hf2 hmk hsz bv
  go_wp2_with fail
  go_ret
  exact ⟨_, rfl, HF.out⟩
end
end Go.Proofs.YtplhdgijjckjcaaGreatDoor

/-
  The document's box with nothing in it: Open, open, Count, Last, Find; New.
-/
namespace Go.Proofs.YtplhdgijjckjcaaGreatDoor
open Go.RowKit

section
variable {w : World} {b : Nat}
set_option maxRecDepth 100000 in
set_option maxHeartbeats 2000000 in
theorem ropen0 (cL : w.cell? ⟨b, 4, none⟩ = some (.slice none 0 0)) : Calls Tryz.prog 10 #[.pointer (some ⟨b, 1, none⟩)] w fun r w' => r = .returned (.slice none 0 0) ∧ w' = w := by
  go_enter Tryz.func10, Tryz.ntmps10
  go_wp2_with fail
  refine wp_loop_rounds 1 ?_
  rw [rounds_succ]
  go_wp2_with fail
  go_ret
  exact ⟨rfl, rfl⟩
set_option maxRecDepth 100000 in
set_option maxHeartbeats 2000000 in
theorem rop0 (cL : w.cell? ⟨b, 4, none⟩ = some (.slice none 0 0)) : Calls Tryz.prog 57 #[.pointer (some ⟨b, 1, none⟩)] w fun r w' => r = .returned (.int .i64 0) ∧ w' = w := by
  go_enter Tryz.func57, Tryz.ntmps57
  go_wp2_with fail
  refine wp_loop_rounds 1 ?_
  rw [rounds_succ]
  go_wp2_with fail
  go_ret
  exact ⟨rfl, rfl⟩
set_option maxRecDepth 100000 in
set_option maxHeartbeats 2000000 in
theorem rcount0 (cL : w.cell? ⟨b, 4, none⟩ = some (.slice none 0 0)) : Calls Tryz.prog 42 #[.pointer (some ⟨b, 1, none⟩)] w fun r w' => r = .returned (.tuple #[.int .i64 0, .int .i64 0]) ∧ Hid (Below w.heap.size w w') := by
  have HO : Hid (∀ z, Below w.heap.size w z → Calls Tryz.prog 57 #[.pointer (some ⟨b, 1, none⟩)] z fun r w' => r = .returned (.int .i64 0) ∧ Hid (Below w.heap.size w w') ∧ w'.cell? ⟨b, 4, none⟩ = some (.slice none 0 0)) := fun z hz => by
    have cz : z.cell? ⟨b, 4, none⟩ = some (.slice none 0 0) := by rw [hz.cell (p := ⟨b, 4, none⟩) (cell_lt cL)]; exact cL
    exact (rop0 cz).mono fun e w' ⟨e1, e2⟩ => ⟨e1, by subst e2; exact hz, by subst e2; exact cz⟩
  have HI : Hid (Below w.heap.size w w) := Below.refl _ _
  go_enter Tryz.func42, Tryz.ntmps42
  go_wp2_with fail
  go_region_held3 (fun z => z.cell? ⟨b, 4, none⟩ = some (.slice none 0 0)) (simp [*]) (first | (go_at_call 57; refine (HO.out _ ?_).mono ?_; (first | (with_reducible exact HI.out) | (with_reducible exact HI.out.drew) | exact below_drewN HI.out _); clear HO; rintro _ w1 ⟨rfl, H1, s1⟩))
  go_wp2_with fail
  refine bodyPost_ret (v := .tuple #[.int .i64 0, .int .i64 0]) ?_ rfl ⟨rfl, ?_⟩
  · simp [results, Tryz.results42, go_sem]
  · first | exact H1 | exact H1.out.drew
set_option maxRecDepth 100000 in
set_option maxHeartbeats 2000000 in
theorem rlast0 (cL : w.cell? ⟨b, 4, none⟩ = some (.slice none 0 0)) : Calls Tryz.prog 12 #[.pointer (some ⟨b, 1, none⟩)] w fun r w' => r = .returned (.tuple #[.agg #[.string ⟨#[]⟩, .slice none 0 0, .int .i64 0, .int .i64 0, .slice none 0 0, .string ⟨#[]⟩, .slice none 0 0], .bool false]) ∧ Below w.heap.size w w' := by
  have bv : Below w.heap.size w (w.alloc (.cells #[.string ⟨#[]⟩, .slice none 0 0, .int .i64 0, .int .i64 0, .slice none 0 0, .string ⟨#[]⟩, .slice none 0 0] 29)) := (Below.refl _ _).alloc (Nat.le_refl _) _
  have bx := Box.new w #[.string ⟨#[]⟩, .slice none 0 0, .int .i64 0, .int .i64 0, .slice none 0 0, .string ⟨#[]⟩, .slice none 0 0] 29
  obtain ⟨V, hV⟩ : ∃ V, w.alloc (.cells #[.string ⟨#[]⟩, .slice none 0 0, .int .i64 0, .int .i64 0, .slice none 0 0, .string ⟨#[]⟩, .slice none 0 0] 29) = V := ⟨_, rfl⟩
  rw [hV] at bv bx
  have cV : V.cell? ⟨b, 4, none⟩ = some (.slice none 0 0) := by rw [bv.cell (p := ⟨b, 4, none⟩) (cell_lt cL)]; exact cL
  have cx := bx.cell
  have fx := bx.free
  have HB : Hid (Below w.heap.size w V) := bv
  clear bv bx cL
  go_enter Tryz.func12, Tryz.ntmps12
  go_wp2_with fail
  clear hV
  refine bodyPost_ret (v := .tuple #[.agg #[.string ⟨#[]⟩, .slice none 0 0, .int .i64 0, .int .i64 0, .slice none 0 0, .string ⟨#[]⟩, .slice none 0 0], .bool false]) ?_ rfl ⟨rfl, ?_⟩
  · simp [results, Tryz.results12, go_sem, cx]
  · repeat' (first | (with_reducible exact HB.out) | (with_reducible refine Below.setCell ?_ (by exact Nat.le_refl _) _) | (with_reducible refine Below.alloc ?_ (by simp; omega) _))
set_option maxRecDepth 100000 in
set_option maxHeartbeats 2000000 in
theorem rnew_ok (K R : Int) (h : 1 ≤ K ∧ K ≤ 64 ∧ 1 ≤ R ∧ R ≤ 32) : Calls Tryz.prog 7 #[.int .i64 K, .int .i64 R] w fun r w' => r = .returned (.tuple #[.agg #[.bool true, .int .i64 K, .int .i64 R, .slice none 0 0], .int .i64 0]) ∧ Below w.heap.size w w' := by
  obtain ⟨h1, h2, h3, h4⟩ := h
  have a1 : ¬ K < 1 := by omega
  have a2 : ¬ 64 < K := by omega
  have a3 : ¬ R < 1 := by omega
  have a4 : ¬ 32 < R := by omega
  have bv : Below w.heap.size w (w.alloc (.cells #[.bool false, .int .i64 0, .int .i64 0, .slice none 0 0] 41)) := (Below.refl _ _).alloc (Nat.le_refl _) _
  have bx := Box.new w #[.bool false, .int .i64 0, .int .i64 0, .slice none 0 0] 41
  obtain ⟨V, hV⟩ : ∃ V, w.alloc (.cells #[.bool false, .int .i64 0, .int .i64 0, .slice none 0 0] 41) = V := ⟨_, rfl⟩
  rw [hV] at bv bx
  have cx := bx.cell
  have fx := bx.free
  have HB : Hid (Below w.heap.size w V) := bv
  clear bv bx
  go_enter Tryz.func7, Tryz.ntmps7
  go_wp2_with fail
  clear hV
  refine bodyPost_ret (v := .tuple #[.agg #[.bool true, .int .i64 K, .int .i64 R, .slice none 0 0], .int .i64 0]) ?_ rfl ⟨rfl, ?_⟩
  · simp [results, Tryz.results7, go_sem, cx]
  · repeat' (first | (with_reducible exact HB.out) | (with_reducible refine Below.setCell ?_ (by exact Nat.le_refl _) _) | (with_reducible refine Below.alloc ?_ (by simp; omega) _))
set_option maxRecDepth 100000 in
set_option maxHeartbeats 2000000 in
theorem rnew_no (K R : Int) (h : ¬ (1 ≤ K ∧ K ≤ 64 ∧ 1 ≤ R ∧ R ≤ 32)) : Calls Tryz.prog 7 #[.int .i64 K, .int .i64 R] w fun r w' => r = .returned (.tuple #[.agg #[.bool false, .int .i64 0, .int .i64 0, .slice none 0 0], .int .i64 1]) ∧ Below w.heap.size w w' := by
  have bv : Below w.heap.size w (w.alloc (.cells #[.bool false, .int .i64 0, .int .i64 0, .slice none 0 0] 41)) := (Below.refl _ _).alloc (Nat.le_refl _) _
  have bx := Box.new w #[.bool false, .int .i64 0, .int .i64 0, .slice none 0 0] 41
  obtain ⟨V, hV⟩ : ∃ V, w.alloc (.cells #[.bool false, .int .i64 0, .int .i64 0, .slice none 0 0] 41) = V := ⟨_, rfl⟩
  rw [hV] at bv bx
  have cx := bx.cell
  have fx := bx.free
  have HB : Hid (Below w.heap.size w V) := bv
  clear bv bx
  rcases (by omega : K < 1 ∨ (¬ K < 1 ∧ 64 < K) ∨ (¬ K < 1 ∧ ¬ 64 < K ∧ R < 1) ∨ (¬ K < 1 ∧ ¬ 64 < K ∧ ¬ R < 1 ∧ 32 < R)) with a1 | ⟨a1, a2⟩ | ⟨a1, a2, a3⟩ | ⟨a1, a2, a3, a4⟩ <;> clear h
  all_goals
    go_enter Tryz.func7, Tryz.ntmps7
    go_wp2_with fail
    clear hV
    refine bodyPost_ret (v := .tuple #[.agg #[.bool false, .int .i64 0, .int .i64 0, .slice none 0 0], .int .i64 1]) ?_ rfl ⟨rfl, ?_⟩
    · simp [results, Tryz.results7, go_sem, cx]
    · repeat' (first | (with_reducible exact HB.out) | (with_reducible refine Below.setCell ?_ (by exact Nat.le_refl _) _) | (with_reducible refine Below.alloc ?_ (by simp; omega) _))
end
end Go.Proofs.YtplhdgijjckjcaaGreatDoor

/-
  The document's box that nobody made: Accept, Decide, Find.
-/
namespace Go.Proofs.YtplhdgijjckjcaaGreatDoor
open Go.RowKit

section
variable {w : World} {X : Nat}
set_option maxRecDepth 100000 in
set_option maxHeartbeats 2000000 in
theorem racc0 (c1 : w.cell? ⟨X, 1, none⟩ = some (.bool false)) (e : Ent) : Calls Tryz.prog 21 #[.pointer (some ⟨X, 1, none⟩), .agg #[.string e.ct, .slice e.tp e.tn e.tc, .int .i64 e.nu, .int .i64 e.tk, .slice e.cp e.cn e.cc, .string e.cd, .slice e.ap e.an e.ac]] w fun r w' => r = .returned (.int .i64 3) ∧ Below w.heap.size w w' := by
  have bv : Below w.heap.size w (w.alloc (.cells #[.string e.ct, .slice e.tp e.tn e.tc, .int .i64 e.nu, .int .i64 e.tk, .slice e.cp e.cn e.cc, .string e.cd, .slice e.ap e.an e.ac] 29)) := (Below.refl _ _).alloc (Nat.le_refl _) _
  obtain ⟨V, hV⟩ : ∃ V, w.alloc (.cells #[.string e.ct, .slice e.tp e.tn e.tc, .int .i64 e.nu, .int .i64 e.tk, .slice e.cp e.cn e.cc, .string e.cd, .slice e.ap e.an e.ac] 29) = V := ⟨_, rfl⟩
  rw [hV] at bv
  have k1 : V.cell? ⟨X, 1, none⟩ = some (.bool false) := by rw [bv.cell (p := ⟨X, 1, none⟩) (cell_lt c1)]; exact c1
  have HB : Hid (Below w.heap.size w V) := bv
  clear bv c1
  go_enter Tryz.func21, Tryz.ntmps21
  go_wp2_with fail
  go_ret
  exact ⟨rfl, HB.out⟩
set_option maxRecDepth 100000 in
set_option maxHeartbeats 2000000 in
theorem rdec0 (c1 : w.cell? ⟨X, 1, none⟩ = some (.bool false)) (s cd : ByteArray) (p : Option Addr) (n c : Nat) : Calls Tryz.prog 27 #[.pointer (some ⟨X, 1, none⟩), .string s, .string cd, .slice p n c] w fun r w' => r = .returned (.tuple #[.slice none 0 0, .int .i64 3]) ∧ w' = w := by
  go_enter Tryz.func27, Tryz.ntmps27
  go_wp2_with fail
  go_ret2
  exact ⟨rfl, rfl⟩
set_option maxRecDepth 100000 in
set_option maxHeartbeats 2000000 in
theorem rat0 (cL : w.cell? ⟨X, 4, none⟩ = some (.slice none 0 0)) (s : ByteArray) : Calls Tryz.prog 56 #[.pointer (some ⟨X, 1, none⟩), .string s] w fun r w' => r = .returned (.int .i64 (-1)) ∧ w' = w := by
  go_enter Tryz.func56, Tryz.ntmps56
  go_wp2_with fail
  refine wp_loop_rounds 1 ?_
  rw [rounds_succ]
  go_wp2_with fail
  go_ret
  exact ⟨rfl, rfl⟩
set_option maxRecDepth 100000 in
set_option maxHeartbeats 2000000 in
theorem rfind0 (cL : w.cell? ⟨X, 4, none⟩ = some (.slice none 0 0)) (s : ByteArray) : Calls Tryz.prog 33 #[.pointer (some ⟨X, 1, none⟩), .string s] w (EnQ w zE false) := by
  have bv : Below w.heap.size w (w.alloc (.cells #[.string ⟨#[]⟩, .slice none 0 0, .int .i64 0, .int .i64 0, .slice none 0 0, .string ⟨#[]⟩, .slice none 0 0] 29)) := (Below.refl _ _).alloc (Nat.le_refl _) _
  have bx := Box.new w #[.string ⟨#[]⟩, .slice none 0 0, .int .i64 0, .int .i64 0, .slice none 0 0, .string ⟨#[]⟩, .slice none 0 0] 29
  obtain ⟨V, hV⟩ : ∃ V, w.alloc (.cells #[.string ⟨#[]⟩, .slice none 0 0, .int .i64 0, .int .i64 0, .slice none 0 0, .string ⟨#[]⟩, .slice none 0 0] 29) = V := ⟨_, rfl⟩
  rw [hV] at bv bx
  have hat := rat0 (w := V) (by rw [bv.cell (p := ⟨X, 4, none⟩) (cell_lt cL)]; exact cL) s
  obtain ⟨xb, hxb⟩ : ∃ xb, w.heap.size = xb := ⟨_, rfl⟩
  have HB : Hid (Below w.heap.size w V) := bv
  rw [hxb] at bx
  have cx := bx.cell
  have fx := bx.free
  clear bv bx cL
  go_enter Tryz.func33, Tryz.ntmps33
  go_wp2_with fail
  clear hV
  refine hat.mono ?_
  rintro _ w9 ⟨rfl, h9⟩
  subst w9
  go_wp2_with fail
  refine bodyPost_ret (v := .tuple #[.agg #[.string ⟨#[]⟩, .slice none 0 0, .int .i64 0, .int .i64 0, .slice none 0 0, .string ⟨#[]⟩, .slice none 0 0], .bool false]) ?_ rfl ⟨none, 0, none, 0, none, 0, rfl, zE_own _ _, ?_⟩
  · simp [results, Tryz.results33, go_sem, cx]
  · have hle := HB.out
    refine hle.trans (Off.below (P := fun q => q = xb) ?_ hle.size fun k hk => by omega)
    iterate 7 (refine Off.setCell (P := fun q => q = xb) ?_ (by exact rfl) _)
    exact Off.refl _ _
set_option maxRecDepth 100000 in
set_option maxHeartbeats 2000000 in
theorem rlastN {b : Nat} {a : Option Addr} {c : Nat} (cL : w.cell? ⟨b, 4, none⟩ = some (.slice a 0 c)) : Calls Tryz.prog 12 #[.pointer (some ⟨b, 1, none⟩)] w fun r w' => r = .returned (.tuple #[.agg #[.string ⟨#[]⟩, .slice none 0 0, .int .i64 0, .int .i64 0, .slice none 0 0, .string ⟨#[]⟩, .slice none 0 0], .bool false]) ∧ Below w.heap.size w w' := by
  have bv : Below w.heap.size w (w.alloc (.cells #[.string ⟨#[]⟩, .slice none 0 0, .int .i64 0, .int .i64 0, .slice none 0 0, .string ⟨#[]⟩, .slice none 0 0] 29)) := (Below.refl _ _).alloc (Nat.le_refl _) _
  have bx := Box.new w #[.string ⟨#[]⟩, .slice none 0 0, .int .i64 0, .int .i64 0, .slice none 0 0, .string ⟨#[]⟩, .slice none 0 0] 29
  obtain ⟨V, hV⟩ : ∃ V, w.alloc (.cells #[.string ⟨#[]⟩, .slice none 0 0, .int .i64 0, .int .i64 0, .slice none 0 0, .string ⟨#[]⟩, .slice none 0 0] 29) = V := ⟨_, rfl⟩
  rw [hV] at bv bx
  have cV : V.cell? ⟨b, 4, none⟩ = some (.slice a 0 c) := by rw [bv.cell (p := ⟨b, 4, none⟩) (cell_lt cL)]; exact cL
  have cx := bx.cell
  have fx := bx.free
  have HB : Hid (Below w.heap.size w V) := bv
  clear bv bx cL
  go_enter Tryz.func12, Tryz.ntmps12
  go_wp2_with fail
  clear hV
  refine bodyPost_ret (v := .tuple #[.agg #[.string ⟨#[]⟩, .slice none 0 0, .int .i64 0, .int .i64 0, .slice none 0 0, .string ⟨#[]⟩, .slice none 0 0], .bool false]) ?_ rfl ⟨rfl, ?_⟩
  · simp [results, Tryz.results12, go_sem, cx]
  · repeat' (first | (with_reducible exact HB.out) | (with_reducible refine Below.setCell ?_ (by exact Nat.le_refl _) _) | (with_reducible refine Below.alloc ?_ (by simp; omega) _))
end
end Go.Proofs.YtplhdgijjckjcaaGreatDoor
