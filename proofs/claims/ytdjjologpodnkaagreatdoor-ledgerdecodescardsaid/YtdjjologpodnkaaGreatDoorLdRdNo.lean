/-
  A number read into its place: it gives up.
-/
import Derived.Test.YtdjjologpodnkaaGreatDoorLdRd
import Derived.Deep.RegionHeld
namespace Go.Proofs.YtdjjologpodnkaaGreatDoor
open Go.RowKit

set_option maxRecDepth 100000 in
set_option maxHeartbeats 4000000 in
theorem num_read_no {w : World} {fb rb o : Nat} {po : Option Addr} {c : Nat} {bs : List Int} {p : Nat} (h : Rdr w fb po c bs p) (sz : Nat) (hs : sz ≤ 8) (lo hi : Int) (hlo : 0 ≤ lo) (hhi : 0 ≤ hi) (hlo2 : lo ≤ 9223372036854775807) (hhi2 : hi ≤ 9223372036854775807) {e : Nat} (hrn : rNum bs p sz lo hi = .error e) :
    Calls Tryz.prog 115 #[.agg #[.pointer (some ⟨rb, o, none⟩), .int .i64 sz, .int .i64 lo, .int .i64 hi], .pointer (some ⟨fb, 0, none⟩)] w fun r w' => r = gaveUp e ∧ Off (fun q => q = fb) w w' := by
  have bv := (Below.refl w.heap.size w).alloc (Nat.le_refl _) (.cells #[.pointer (some ⟨rb, o, none⟩), .int .i64 sz, .int .i64 lo, .int .i64 hi] 128)
  have bx := Box.new w #[.pointer (some ⟨rb, o, none⟩), .int .i64 sz, .int .i64 lo, .int .i64 hi] 128
  have HT : Hid (∀ z, Below (w.alloc (.cells #[.pointer (some ⟨rb, o, none⟩), .int .i64 sz, .int .i64 lo, .int .i64 hi] 128)).heap.size (w.alloc (.cells #[.pointer (some ⟨rb, o, none⟩), .int .i64 sz, .int .i64 lo, .int .i64 hi] 128)) z → Calls Tryz.prog 117 #[.pointer (some ⟨fb, 0, none⟩), .int .i64 sz, .int .i64 lo, .int .i64 hi] z (NumQ z fb po c bs p sz lo hi)) := fun z hz => takeNumber_any ((h.below bv).below hz) sz hs lo hi hlo hhi hlo2 hhi2
  go_enter Tryz.func115, Tryz.ntmps115
  go_wp2_with fail
  generalize (w.alloc (.cells #[.pointer (some ⟨rb, o, none⟩), .int .i64 sz, .int .i64 lo, .int .i64 hi] 128)) = V at bv bx HT ⊢
  have HT2 : Hid (∀ z, Below V.heap.size V z → Calls Tryz.prog 117 #[.pointer (some ⟨fb, 0, none⟩), .int .i64 sz, .int .i64 lo, .int .i64 hi] z fun r w' => r = gaveUp e ∧ Hid (Off (fun q => q = fb) w w')) := fun z hz => (HT.out z hz).mono fun r w' hq => by
    rcases hq with ⟨e', h1, h2, h3⟩ | ⟨v, h1, _⟩
    · rw [hrn] at h1; cases h1; exact ⟨h2, ((Off.of_below bv).join (Off.of_below hz) fun _ _ g => g).join h3.out fun _ _ g => g⟩
    · rw [hrn] at h1; cases h1
  obtain ⟨xb, hxb⟩ : ∃ xb, w.heap.size = xb := ⟨_, rfl⟩
  have k0 : V.cell? ⟨xb, 0, none⟩ = some (.pointer (some ⟨rb, o, none⟩)) := by rw [← hxb]; exact bx.cell 0
  have k1 : V.cell? ⟨xb, 1, none⟩ = some (.int .i64 sz) := by rw [← hxb]; exact bx.cell 1
  have k2 : V.cell? ⟨xb, 2, none⟩ = some (.int .i64 lo) := by rw [← hxb]; exact bx.cell 2
  have k3 : V.cell? ⟨xb, 3, none⟩ = some (.int .i64 hi) := by rw [← hxb]; exact bx.cell 3
  rw [hxb]
  clear bv bx HT hrn hxb h
  refine wp_region_held_drew (S := (fun y => y.cell? ⟨xb, 0, none⟩ = some (.pointer (some ⟨rb, o, none⟩)) ∧ y.cell? ⟨xb, 1, none⟩ = some (.int .i64 sz) ∧ y.cell? ⟨xb, 2, none⟩ = some (.int .i64 lo) ∧ y.cell? ⟨xb, 3, none⟩ = some (.int .i64 hi))) (by kernel_rfl) ?_ (fun hHeld => ?_)
  · simp [*]
  refine wpAnyH_take (i := 0) (oi := { dst := some 4, op := Op.fieldAddr 128 (Operand.tmp 2) 0, type := 0, pos := "parts.go:87", after := #[], guard := none }) (v := ?_) rfl (by kernel_rfl) (by kernel_rfl) (by kernel_rfl) (fun _ _ _ h => h) (Or.inl ⟨by rfl, ?_⟩) (by assumption) ?_
  rotate_left
  · intro w hSw
    try dsimp only at hSw
    go_simp
    try with_reducible rfl
  try simp only [Act.put, List.setIfInBounds_toArray, List.set_cons_zero, List.set_cons_succ]
  refine wpAnyH_take (i := 1) (oi := { dst := some 5, op := Op.load 126 (Operand.tmp 4), type := 126, pos := "parts.go:87", after := #[{ on := 0, ground := Ground.data }], guard := none }) (v := ?_) rfl (by kernel_rfl) (by kernel_rfl) (by kernel_rfl) (fun _ _ _ h => h) (Or.inl ⟨by rfl, ?_⟩) (by assumption) ?_
  rotate_left
  · intro w hSw
    try dsimp only at hSw
    go_simp
    try with_reducible rfl
  try simp only [Act.put, List.setIfInBounds_toArray, List.set_cons_zero, List.set_cons_succ]
  refine wpAnyH_take (i := 2) (oi := { dst := some 6, op := Op.move (Operand.tmp 1), type := 57, pos := "parts.go:87", after := #[], guard := none }) (v := ?_) rfl (by kernel_rfl) (by kernel_rfl) (by kernel_rfl) (fun _ _ _ h => h) (Or.inl ⟨by rfl, ?_⟩) (by assumption) ?_
  rotate_left
  · intro w hSw
    try dsimp only at hSw
    go_simp
    try with_reducible rfl
  try simp only [Act.put, List.setIfInBounds_toArray, List.set_cons_zero, List.set_cons_succ]
  refine wpAnyH_take (i := 3) (oi := { dst := some 7, op := Op.fieldAddr 128 (Operand.tmp 2) 1, type := 0, pos := "parts.go:87", after := #[], guard := none }) (v := ?_) rfl (by kernel_rfl) (by kernel_rfl) (by kernel_rfl) (fun _ _ _ h => h) (Or.inl ⟨by rfl, ?_⟩) (by assumption) ?_
  rotate_left
  · intro w hSw
    try dsimp only at hSw
    go_simp
    try with_reducible rfl
  try simp only [Act.put, List.setIfInBounds_toArray, List.set_cons_zero, List.set_cons_succ]
  refine wpAnyH_take (i := 4) (oi := { dst := some 8, op := Op.load 3 (Operand.tmp 7), type := 3, pos := "parts.go:87", after := #[{ on := 3, ground := Ground.data }], guard := none }) (v := ?_) rfl (by kernel_rfl) (by kernel_rfl) (by kernel_rfl) (fun _ _ _ h => h) (Or.inl ⟨by rfl, ?_⟩) (by assumption) ?_
  rotate_left
  · intro w hSw
    try dsimp only at hSw
    go_simp
    try with_reducible rfl
  try simp only [Act.put, List.setIfInBounds_toArray, List.set_cons_zero, List.set_cons_succ]
  refine wpAnyH_take (i := 5) (oi := { dst := some 9, op := Op.fieldAddr 128 (Operand.tmp 2) 2, type := 0, pos := "parts.go:87", after := #[], guard := none }) (v := ?_) rfl (by kernel_rfl) (by kernel_rfl) (by kernel_rfl) (fun _ _ _ h => h) (Or.inl ⟨by rfl, ?_⟩) (by assumption) ?_
  rotate_left
  · intro w hSw
    try dsimp only at hSw
    go_simp
    try with_reducible rfl
  try simp only [Act.put, List.setIfInBounds_toArray, List.set_cons_zero, List.set_cons_succ]
  refine wpAnyH_take (i := 6) (oi := { dst := some 10, op := Op.load 3 (Operand.tmp 9), type := 3, pos := "parts.go:87", after := #[{ on := 5, ground := Ground.data }], guard := none }) (v := ?_) rfl (by kernel_rfl) (by kernel_rfl) (by kernel_rfl) (fun _ _ _ h => h) (Or.inl ⟨by rfl, ?_⟩) (by assumption) ?_
  rotate_left
  · intro w hSw
    try dsimp only at hSw
    go_simp
    try with_reducible rfl
  try simp only [Act.put, List.setIfInBounds_toArray, List.set_cons_zero, List.set_cons_succ]
  refine wpAnyH_take (i := 7) (oi := { dst := some 11, op := Op.fieldAddr 128 (Operand.tmp 2) 3, type := 0, pos := "parts.go:87", after := #[], guard := none }) (v := ?_) rfl (by kernel_rfl) (by kernel_rfl) (by kernel_rfl) (fun _ _ _ h => h) (Or.inl ⟨by rfl, ?_⟩) (by assumption) ?_
  rotate_left
  · intro w hSw
    try dsimp only at hSw
    go_simp
    try with_reducible rfl
  try simp only [Act.put, List.setIfInBounds_toArray, List.set_cons_zero, List.set_cons_succ]
  refine wpAnyH_take (i := 8) (oi := { dst := some 12, op := Op.load 3 (Operand.tmp 11), type := 3, pos := "parts.go:87", after := #[{ on := 7, ground := Ground.data }], guard := none }) (v := ?_) rfl (by kernel_rfl) (by kernel_rfl) (by kernel_rfl) (fun _ _ _ h => h) (Or.inl ⟨by rfl, ?_⟩) (by assumption) ?_
  rotate_left
  · intro w hSw
    try dsimp only at hSw
    go_simp
    try with_reducible rfl
  try simp only [Act.put, List.setIfInBounds_toArray, List.set_cons_zero, List.set_cons_succ]
  refine wpAnyH_ready (rs := [9]) (by kernel_rfl) (by simp) ?_
  refine AllReadyH.cons (o := { dst := some 13, op := Op.call { callee := Callee.value (Operand.func 117), args := #[Operand.tmp 6, Operand.tmp 8, Operand.tmp 10, Operand.tmp 12], argTypes := #[57, 3, 3, 3] }, type := 3, pos := "parts.go:87", after := #[{ on := 2, ground := Ground.data }, { on := 4, ground := Ground.data }, { on := 6, ground := Ground.data }, { on := 8, ground := Ground.data }], guard := none }) rfl (fun K hK => ?_) ?_
  · go_simp
    go_at_call 117
    refine (HT2.out _ ?_).mono ?_
    · exact Below.drew (Below.refl _ _)
    rintro _ z1 ⟨rfl, H1⟩
    exact ⟨rfl, rfl, H1.out⟩
  exact AllReadyH.nil
end Go.Proofs.YtdjjologpodnkaaGreatDoor
