import Derived.Test.YtfkcnnjkflomkaaDoorWCm12
/-
  WalCommits: act, the kind 1.
-/
namespace Go.Proofs.YtfkcnnjkflomkaaDoor
open Go.RowKit Go.BigFrame

set_option maxRecDepth 100000 in
set_option maxHeartbeats 16000000 in
theorem act_sync {w x wt : World} {T : Nat → Prop} {r K L g p : Nat} {base rs : List (List Int)} {v : Value} {vs : List Value} {kd nn tk0 tz0 tk1 tz1 : Int} {po : Option Addr} {pl pc : Nat} (h : CmI w T wt r K L g base rs p v vs (base ++ rs) ((base.length + p : Nat) : Int) x) (hH : Halves w) (hg : g + 1 < 4611686018427387904) (hkd : kd = 1) :
    Calls Tryd.prog 22 #[.pointer (some ⟨r, 0, none⟩), .agg #[.int .i64 kd, .int .i64 nn, .slice po pl pc, .int .i64 tk0, .int .i64 tz0, .int .i64 tk1, .int .i64 tz1]] x (AcQ w T wt r K g (base ++ rs) (pl + 2)) := by
  subst hkd
  obtain ⟨P0, hm0⟩ := h.mem
  obtain ⟨av, cv, hve, _⟩ := hm0.vr.isSlice
  subst hve
  obtain ⟨W0, hW0⟩ : ∃ W, x.alloc (.cells #[.int .i64 1, .int .i64 nn, .slice po pl pc, .int .i64 tk0, .int .i64 tz0, .int .i64 tk1, .int .i64 tz1] 63) = W := ⟨_, rfl⟩
  have HW0 : Hid (x.alloc (.cells #[.int .i64 1, .int .i64 nn, .slice po pl pc, .int .i64 tk0, .int .i64 tz0, .int .i64 tk1, .int .i64 tz1] 63) = W0) := hW0
  have b0 : Below x.heap.size x W0 := by rw [← hW0]; exact (Below.refl _ _).alloc (Nat.le_refl _) _
  have HT : Hid (∀ q u, (#[Value.int .i64 1, .int .i64 nn, .slice po pl pc, .int .i64 tk0, .int .i64 tz0, .int .i64 tk1, .int .i64 tz1] : Array Value)[q]? = some u → W0.cell? ⟨x.heap.size, q, none⟩ = some u) := fun q u hu => by rw [← hW0, ← hu]; exact World.cell?_alloc_new _ _ _ _
  have HI : Hid (CmI w (fun b => T b ∨ b = x.heap.size) W0 r K L g base rs p (.slice av vs.length cv) vs (base ++ rs) ((base.length + p : Nat) : Int) W0) := by rw [← hW0]; exact h.box _
  have HTk : Hid (∀ b, T b → (T b ∨ b = x.heap.size) ∧ W0.heap[b]? = wt.heap[b]?) := fun b hb => ⟨Or.inl hb, (b0.block b (hm0.kt b hb).1).trans (hm0.kt b hb).2.1⟩
  have HLy : Hid (lays (base ++ rs) ≤ 1048576) := h.1.ly
  have HA : Hid (Halves w ∧ g + 1 < 4611686018427387904 ∧ p ≤ rs.length) := ⟨hH, hg, h.2.1⟩
  have HVl : Hid (vs.length = base.length + rs.length) := by have := hm0.pc.1; rw [List.length_append] at this; exact this
  have al0 : ∀ o, (x.alloc o).cell? ⟨r, 0, none⟩ = some (.pointer (some ⟨K, 0, none⟩)) := fun o => (World.cell?_alloc_lt _ _ ⟨r, 0, none⟩ (cell_lt hm0.r0)).trans hm0.r0
  have al1 : ∀ o, (x.alloc o).cell? ⟨r, 1, none⟩ = some (.pointer (some ⟨L, 0, none⟩)) := fun o => (World.cell?_alloc_lt _ _ ⟨r, 1, none⟩ (cell_lt hm0.r1)).trans hm0.r1
  have al2 : ∀ o, (x.alloc o).cell? ⟨r, 2, none⟩ = some (.slice av vs.length cv) := fun o => (World.cell?_alloc_lt _ _ ⟨r, 2, none⟩ (cell_lt hm0.r2)).trans hm0.r2
  have HCx : Hid (∀ (z : World) (q : Nat) (one : Bool) (ql : List (List Int)) (v : Value) (vs : List Value), CmX w (fun b => T b ∨ b = x.heap.size) W0 r K g base rs q (.pointer (some ⟨L, 0, none⟩)) v vs ql ((base.length + p : Nat) : Int) true one z → base ++ rs = ql.take (base ++ rs).length → lays ql ≤ 1048576 → p ≤ q → Calls Tryd.prog 23 #[.pointer (some ⟨r, 0, none⟩), .agg #[.int .i64 tk0, .int .i64 tz0, .int .i64 tk1, .int .i64 tz1], .bool false] z (AcQ w T wt r K g (base ++ rs) (pl + 2))) := fun z q one ql v vs hx hq hly hpq => (crash_any hx hq (by omega) hly hH hg (fun e => by cases e)).mono fun e w' ⟨he, hf⟩ => by rw [he]; exact hf.act HTk.out
  have HTx : Hid (∀ (z : World) (P : Nat → Prop) (lv v : Value) (vs : List Value) (ql : List (List Int)) (sf : Int), CmM w (fun b => T b ∨ b = x.heap.size) W0 r K lv v vs ql sf P z → ∀ q u, (#[Value.int .i64 1, .int .i64 nn, .slice po pl pc, .int .i64 tk0, .int .i64 tz0, .int .i64 tk1, .int .i64 tz1] : Array Value)[q]? = some u → z.cell? ⟨x.heap.size, q, none⟩ = some u) := fun z P lv v vs ql sf hm q u hu => (cell_block (hm.kt x.heap.size (Or.inr rfl)).2.1 q).trans (HT.out q u hu)
  clear h hH hg hm0 b0 hW0
  go_enter Tryd.func22, Tryd.ntmps22
  have HSy : Hid (Calls Tryd.prog 11 #[.pointer (some ⟨L, 0, none⟩)] W0 (CmE w (fun b => T b ∨ b = x.heap.size) W0 r K L g base rs p g base rs rs.length (.slice av vs.length cv) vs (base ++ rs) ((base.length + p : Nat) : Int) true #[.int .i64 ((rs.length - p : Nat) : Int)] true)) := cm_sync HI.out
  go_wp2_with fail
  rw [HW0.out]
  refine HSy.out.mono ?_
  rintro e w2 (⟨rfl, hI2⟩ | ⟨b, q, hpq, rfl, hX⟩)
  · obtain ⟨P1, hm1⟩ := hI2.mem
    have c2 := hm1.r2
    have c3 := hm1.r3
    have z3 := hm1.rf 3
    have HF : Hid (AcQ w T wt r K g (base ++ rs) (pl + 2) (.returned (.bool true)) (w2.setCell ⟨r, 3, none⟩ (.int .i64 vs.length))) := by
      refine ⟨rfl, g, base, rs, rs.length, L, .slice av vs.length cv, vs, Nat.le_refl _, by omega, by omega, ?_⟩
      have e : ((base.length + rs.length : Nat) : Int) = (vs.length : Int) := by rw [HVl.out]
      rw [e]
      exact (hI2.safe _).kept HTk.out
    clear hI2 hm1
    go_wp2_with fail
    go_ret
    exact HF.out
  · obtain ⟨P1, hm1⟩ := hX.mem
    have c0 := hm1.r0
    have k3 := HTx.out _ _ _ _ _ _ _ hm1 3 _ rfl
    have k4 := HTx.out _ _ _ _ _ _ _ hm1 4 _ rfl
    have k5 := HTx.out _ _ _ _ _ _ _ hm1 5 _ rfl
    have k6 := HTx.out _ _ _ _ _ _ _ hm1 6 _ rfl
    have HAv : Hid (Calls Tryd.prog 19 #[.pointer (some ⟨K, 0, none⟩)] w2 fun e w' => e = .returned (.bool false) ∧ w' = w2) := hX.alive
    have HCr := HCx.out _ _ _ _ _ _ hX (by rw [List.take_length]) HLy.out hpq
    have HC : Hid (Calls Tryd.prog 23 #[.pointer (some ⟨r, 0, none⟩), .agg #[.int .i64 tk0, .int .i64 tz0, .int .i64 tk1, .int .i64 tz1], .bool false] w2 (AcQ w T wt r K g (base ++ rs) (pl + 2))) := HCr
    clear hX hm1 HCr
    go_wp2_with fail
    refine HAv.out.mono ?_
    rintro e w3 ⟨rfl, rfl⟩
    go_wp2_with fail
    refine HC.out.mono ?_
    rintro e w4 ⟨rfl, hq⟩
    go_wp2_with fail
    go_ret
    exact ⟨rfl, hq⟩
end Go.Proofs.YtfkcnnjkflomkaaDoor

/-
  WalCommits: act, the kind 5.
-/
namespace Go.Proofs.YtfkcnnjkflomkaaDoor
open Go.RowKit Go.BigFrame

set_option maxRecDepth 100000 in
set_option maxHeartbeats 16000000 in
theorem act_fuse {w x wt : World} {T : Nat → Prop} {r K L g p : Nat} {base rs : List (List Int)} {v : Value} {vs : List Value} {kd nn tk0 tz0 tk1 tz1 : Int} {po : Option Addr} {pl pc : Nat} (h : CmI w T wt r K L g base rs p v vs (base ++ rs) ((base.length + p : Nat) : Int) x) (hH : Halves w) (hg : g + 1 < 4611686018427387904) (hkd : kd = 5) (hnn : nn ≤ 9223372036854775807) :
    Calls Tryd.prog 22 #[.pointer (some ⟨r, 0, none⟩), .agg #[.int .i64 kd, .int .i64 nn, .slice po pl pc, .int .i64 tk0, .int .i64 tz0, .int .i64 tk1, .int .i64 tz1]] x (AcQ w T wt r K g (base ++ rs) (pl + 2)) := by
  subst hkd
  obtain ⟨P0, hm0⟩ := h.mem
  obtain ⟨av, cv, hve, _⟩ := hm0.vr.isSlice
  subst hve
  obtain ⟨W0, hW0⟩ : ∃ W, x.alloc (.cells #[.int .i64 5, .int .i64 nn, .slice po pl pc, .int .i64 tk0, .int .i64 tz0, .int .i64 tk1, .int .i64 tz1] 63) = W := ⟨_, rfl⟩
  have HW0 : Hid (x.alloc (.cells #[.int .i64 5, .int .i64 nn, .slice po pl pc, .int .i64 tk0, .int .i64 tz0, .int .i64 tk1, .int .i64 tz1] 63) = W0) := hW0
  have b0 : Below x.heap.size x W0 := by rw [← hW0]; exact (Below.refl _ _).alloc (Nat.le_refl _) _
  have HT : Hid (∀ q u, (#[Value.int .i64 5, .int .i64 nn, .slice po pl pc, .int .i64 tk0, .int .i64 tz0, .int .i64 tk1, .int .i64 tz1] : Array Value)[q]? = some u → W0.cell? ⟨x.heap.size, q, none⟩ = some u) := fun q u hu => by rw [← hW0, ← hu]; exact World.cell?_alloc_new _ _ _ _
  have HI : Hid (CmI w (fun b => T b ∨ b = x.heap.size) W0 r K L g base rs p (.slice av vs.length cv) vs (base ++ rs) ((base.length + p : Nat) : Int) W0) := by rw [← hW0]; exact h.box _
  have HTk : Hid (∀ b, T b → (T b ∨ b = x.heap.size) ∧ W0.heap[b]? = wt.heap[b]?) := fun b hb => ⟨Or.inl hb, (b0.block b (hm0.kt b hb).1).trans (hm0.kt b hb).2.1⟩
  have HLy : Hid (lays (base ++ rs) ≤ 1048576) := h.1.ly
  have HA : Hid (Halves w ∧ g + 1 < 4611686018427387904 ∧ p ≤ rs.length) := ⟨hH, hg, h.2.1⟩
  have HVl : Hid (vs.length = base.length + rs.length) := by have := hm0.pc.1; rw [List.length_append] at this; exact this
  have al0 : ∀ o, (x.alloc o).cell? ⟨r, 0, none⟩ = some (.pointer (some ⟨K, 0, none⟩)) := fun o => (World.cell?_alloc_lt _ _ ⟨r, 0, none⟩ (cell_lt hm0.r0)).trans hm0.r0
  have al1 : ∀ o, (x.alloc o).cell? ⟨r, 1, none⟩ = some (.pointer (some ⟨L, 0, none⟩)) := fun o => (World.cell?_alloc_lt _ _ ⟨r, 1, none⟩ (cell_lt hm0.r1)).trans hm0.r1
  have al2 : ∀ o, (x.alloc o).cell? ⟨r, 2, none⟩ = some (.slice av vs.length cv) := fun o => (World.cell?_alloc_lt _ _ ⟨r, 2, none⟩ (cell_lt hm0.r2)).trans hm0.r2
  have HCx : Hid (∀ (z : World) (q : Nat) (one : Bool) (ql : List (List Int)) (v : Value) (vs : List Value), CmX w (fun b => T b ∨ b = x.heap.size) W0 r K g base rs q (.pointer (some ⟨L, 0, none⟩)) v vs ql ((base.length + p : Nat) : Int) true one z → base ++ rs = ql.take (base ++ rs).length → lays ql ≤ 1048576 → p ≤ q → Calls Tryd.prog 23 #[.pointer (some ⟨r, 0, none⟩), .agg #[.int .i64 tk0, .int .i64 tz0, .int .i64 tk1, .int .i64 tz1], .bool false] z (AcQ w T wt r K g (base ++ rs) (pl + 2))) := fun z q one ql v vs hx hq hly hpq => (crash_any hx hq (by omega) hly hH hg (fun e => by cases e)).mono fun e w' ⟨he, hf⟩ => by rw [he]; exact hf.act HTk.out
  have HTx : Hid (∀ (z : World) (P : Nat → Prop) (lv v : Value) (vs : List Value) (ql : List (List Int)) (sf : Int), CmM w (fun b => T b ∨ b = x.heap.size) W0 r K lv v vs ql sf P z → ∀ q u, (#[Value.int .i64 5, .int .i64 nn, .slice po pl pc, .int .i64 tk0, .int .i64 tz0, .int .i64 tk1, .int .i64 tz1] : Array Value)[q]? = some u → z.cell? ⟨x.heap.size, q, none⟩ = some u) := fun z P lv v vs ql sf hm q u hu => (cell_block (hm.kt x.heap.size (Or.inr rfl)).2.1 q).trans (HT.out q u hu)
  clear h hH hg hm0 b0 hW0
  go_enter Tryd.func22, Tryd.ntmps22
  have HFu : Hid (∀ zw, Below W0.heap.size W0 zw → Calls Tryd.prog 18 #[.pointer (some ⟨K, 0, none⟩), .int .i64 nn] zw fun e w' => e = .returned (.tuple #[]) ∧ Hid (CmI w (fun b => T b ∨ b = x.heap.size) W0 r K L g base rs p (.slice av vs.length cv) vs (base ++ rs) ((base.length + p : Nat) : Int) w') ∧ w'.cell? ⟨r, 0, none⟩ = some (.pointer (some ⟨K, 0, none⟩)) ∧ w'.cell? ⟨x.heap.size, 1, none⟩ = some (.int .i64 nn)) := fun zw hz => by
    refine (cm_fuse (HI.out.below hz) hnn).mono ?_
    rintro e w' ⟨he, hi⟩
    obtain ⟨P1, hm1⟩ := hi.mem
    exact ⟨he, hi, hm1.r0, HTx.out _ _ _ _ _ _ _ hm1 1 _ rfl⟩
  obtain ⟨P2, hm2⟩ := HI.out.mem
  have c0 := hm2.r0
  have k1 := HT.out 1 _ rfl
  have hBv : Below W0.heap.size W0 W0 := Below.refl _ _
  clear hm2
  go_wp2_with fail
  rw [HW0.out]
  go_region_held3 (fun zw => zw.cell? ⟨r, 0, none⟩ = some (.pointer (some ⟨K, 0, none⟩)) ∧ zw.cell? ⟨x.heap.size, 1, none⟩ = some (.int .i64 nn)) (simp [*]) (first | (go_at_call 18; refine (HFu.out _ ?_).mono ?_; (first | assumption | exact Below.drew (by assumption)); rintro e w6 ⟨rfl, HC6, q0, q1⟩))
  all_goals
    have HF : Hid (AcQ w T wt r K g (base ++ rs) (pl + 2) (.returned (.bool true)) w6) := ⟨rfl, g, base, rs, p, L, _, vs, Nat.le_refl _, by omega, by omega, HC6.out.kept HTk.out⟩
    go_wp2_with fail
    go_ret
    exact HF.out
end Go.Proofs.YtfkcnnjkflomkaaDoor

/-
  WalCommits: act, the kind 4.
-/
namespace Go.Proofs.YtfkcnnjkflomkaaDoor
open Go.RowKit Go.BigFrame

set_option maxRecDepth 100000 in
set_option maxHeartbeats 16000000 in
theorem act_open {w x wt : World} {T : Nat → Prop} {r K L g p : Nat} {base rs : List (List Int)} {v : Value} {vs : List Value} {kd nn tk0 tz0 tk1 tz1 : Int} {po : Option Addr} {pl pc : Nat} (h : CmI w T wt r K L g base rs p v vs (base ++ rs) ((base.length + p : Nat) : Int) x) (hH : Halves w) (hg : g + 1 < 4611686018427387904) (hkd : kd = 4) :
    Calls Tryd.prog 22 #[.pointer (some ⟨r, 0, none⟩), .agg #[.int .i64 kd, .int .i64 nn, .slice po pl pc, .int .i64 tk0, .int .i64 tz0, .int .i64 tk1, .int .i64 tz1]] x (AcQ w T wt r K g (base ++ rs) (pl + 2)) := by
  subst hkd
  obtain ⟨P0, hm0⟩ := h.mem
  obtain ⟨av, cv, hve, _⟩ := hm0.vr.isSlice
  subst hve
  obtain ⟨W0, hW0⟩ : ∃ W, x.alloc (.cells #[.int .i64 4, .int .i64 nn, .slice po pl pc, .int .i64 tk0, .int .i64 tz0, .int .i64 tk1, .int .i64 tz1] 63) = W := ⟨_, rfl⟩
  have HW0 : Hid (x.alloc (.cells #[.int .i64 4, .int .i64 nn, .slice po pl pc, .int .i64 tk0, .int .i64 tz0, .int .i64 tk1, .int .i64 tz1] 63) = W0) := hW0
  have b0 : Below x.heap.size x W0 := by rw [← hW0]; exact (Below.refl _ _).alloc (Nat.le_refl _) _
  have HT : Hid (∀ q u, (#[Value.int .i64 4, .int .i64 nn, .slice po pl pc, .int .i64 tk0, .int .i64 tz0, .int .i64 tk1, .int .i64 tz1] : Array Value)[q]? = some u → W0.cell? ⟨x.heap.size, q, none⟩ = some u) := fun q u hu => by rw [← hW0, ← hu]; exact World.cell?_alloc_new _ _ _ _
  have HI : Hid (CmI w (fun b => T b ∨ b = x.heap.size) W0 r K L g base rs p (.slice av vs.length cv) vs (base ++ rs) ((base.length + p : Nat) : Int) W0) := by rw [← hW0]; exact h.box _
  have HTk : Hid (∀ b, T b → (T b ∨ b = x.heap.size) ∧ W0.heap[b]? = wt.heap[b]?) := fun b hb => ⟨Or.inl hb, (b0.block b (hm0.kt b hb).1).trans (hm0.kt b hb).2.1⟩
  have HLy : Hid (lays (base ++ rs) ≤ 1048576) := h.1.ly
  have HA : Hid (Halves w ∧ g + 1 < 4611686018427387904 ∧ p ≤ rs.length) := ⟨hH, hg, h.2.1⟩
  have HVl : Hid (vs.length = base.length + rs.length) := by have := hm0.pc.1; rw [List.length_append] at this; exact this
  have al0 : ∀ o, (x.alloc o).cell? ⟨r, 0, none⟩ = some (.pointer (some ⟨K, 0, none⟩)) := fun o => (World.cell?_alloc_lt _ _ ⟨r, 0, none⟩ (cell_lt hm0.r0)).trans hm0.r0
  have al1 : ∀ o, (x.alloc o).cell? ⟨r, 1, none⟩ = some (.pointer (some ⟨L, 0, none⟩)) := fun o => (World.cell?_alloc_lt _ _ ⟨r, 1, none⟩ (cell_lt hm0.r1)).trans hm0.r1
  have al2 : ∀ o, (x.alloc o).cell? ⟨r, 2, none⟩ = some (.slice av vs.length cv) := fun o => (World.cell?_alloc_lt _ _ ⟨r, 2, none⟩ (cell_lt hm0.r2)).trans hm0.r2
  have HCx : Hid (∀ (z : World) (q : Nat) (one : Bool) (ql : List (List Int)) (v : Value) (vs : List Value), CmX w (fun b => T b ∨ b = x.heap.size) W0 r K g base rs q (.pointer (some ⟨L, 0, none⟩)) v vs ql ((base.length + p : Nat) : Int) true one z → base ++ rs = ql.take (base ++ rs).length → lays ql ≤ 1048576 → p ≤ q → Calls Tryd.prog 23 #[.pointer (some ⟨r, 0, none⟩), .agg #[.int .i64 tk0, .int .i64 tz0, .int .i64 tk1, .int .i64 tz1], .bool false] z (AcQ w T wt r K g (base ++ rs) (pl + 2))) := fun z q one ql v vs hx hq hly hpq => (crash_any hx hq (by omega) hly hH hg (fun e => by cases e)).mono fun e w' ⟨he, hf⟩ => by rw [he]; exact hf.act HTk.out
  have HTx : Hid (∀ (z : World) (P : Nat → Prop) (lv v : Value) (vs : List Value) (ql : List (List Int)) (sf : Int), CmM w (fun b => T b ∨ b = x.heap.size) W0 r K lv v vs ql sf P z → ∀ q u, (#[Value.int .i64 4, .int .i64 nn, .slice po pl pc, .int .i64 tk0, .int .i64 tz0, .int .i64 tk1, .int .i64 tz1] : Array Value)[q]? = some u → z.cell? ⟨x.heap.size, q, none⟩ = some u) := fun z P lv v vs ql sf hm q u hu => (cell_block (hm.kt x.heap.size (Or.inr rfl)).2.1 q).trans (HT.out q u hu)
  clear h hH hg hm0 b0 hW0
  go_enter Tryd.func22, Tryd.ntmps22
  have HAv : Hid (Calls Tryd.prog 19 #[.pointer (some ⟨K, 0, none⟩)] W0 fun e w' => e = .returned (.bool true) ∧ w' = W0) := HI.out.x.alive
  obtain ⟨P2, hm2⟩ := HI.out.mem
  have c0 := hm2.r0
  have HFo : Hid (Calls Tryd.prog 43 #[.pointer (some ⟨r, 0, none⟩)] W0 (FoE w (fun b => T b ∨ b = x.heap.size) W0 r K g (base ++ rs) (base.length + p) (fun M => M = (base ++ rs).length) (CmX w (fun b => T b ∨ b = x.heap.size) W0 r K g base rs p (.pointer (some ⟨L, 0, none⟩)) (.slice av vs.length cv) vs (base ++ rs) ((base.length + p : Nat) : Int) true true))) := found_any (lv := .pointer (some ⟨L, 0, none⟩)) (v := .slice av vs.length cv) (vs := vs) (ql := base ++ rs) (sf := ((base.length + p : Nat) : Int)) c0 ((cm_reup HI.out HA.out.1).mono fun e w' h => h) (fun _ _ h hb => h.below hb) (by rw [List.take_length]) (Int.le_refl _) HLy.out
  clear hm2
  go_wp2_with fail
  rw [HW0.out]
  refine HAv.out.mono ?_
  rintro e w1 ⟨rfl, rfl⟩
  clear HAv
  go_wp2_with fail
  refine HFo.out.mono ?_
  rintro e w2 (⟨rfl, hf⟩ | ⟨rfl, hX⟩)
  · have HF : Hid (AcQ w T wt r K g (base ++ rs) (pl + 2) (.returned (.bool true)) w2) := hf.act HTk.out
    clear hf
    go_wp2_with fail
    go_ret
    exact HF.out
  · have hpq : p ≤ p := Nat.le_refl _
    obtain ⟨P1, hm1⟩ := hX.mem
    have c0 := hm1.r0
    have k3 := HTx.out _ _ _ _ _ _ _ hm1 3 _ rfl
    have k4 := HTx.out _ _ _ _ _ _ _ hm1 4 _ rfl
    have k5 := HTx.out _ _ _ _ _ _ _ hm1 5 _ rfl
    have k6 := HTx.out _ _ _ _ _ _ _ hm1 6 _ rfl
    have HAv : Hid (Calls Tryd.prog 19 #[.pointer (some ⟨K, 0, none⟩)] w2 fun e w' => e = .returned (.bool false) ∧ w' = w2) := hX.alive
    have HCr := HCx.out _ _ _ _ _ _ hX (by rw [List.take_length]) HLy.out hpq
    have HC : Hid (Calls Tryd.prog 23 #[.pointer (some ⟨r, 0, none⟩), .agg #[.int .i64 tk0, .int .i64 tz0, .int .i64 tk1, .int .i64 tz1], .bool false] w2 (AcQ w T wt r K g (base ++ rs) (pl + 2))) := HCr
    clear hX hm1 HCr
    go_wp2_with fail
    refine HAv.out.mono ?_
    rintro e w3 ⟨rfl, rfl⟩
    go_wp2_with fail
    refine HC.out.mono ?_
    rintro e w4 ⟨rfl, hq⟩
    go_wp2_with fail
    go_ret
    exact ⟨rfl, hq⟩
end Go.Proofs.YtfkcnnjkflomkaaDoor

/-
  WalCommits: act, the kind 6.
-/
namespace Go.Proofs.YtfkcnnjkflomkaaDoor
open Go.RowKit Go.BigFrame

set_option maxRecDepth 100000 in
set_option maxHeartbeats 16000000 in
theorem act_crash {w x wt : World} {T : Nat → Prop} {r K L g p : Nat} {base rs : List (List Int)} {v : Value} {vs : List Value} {kd nn tk0 tz0 tk1 tz1 : Int} {po : Option Addr} {pl pc : Nat} (h : CmI w T wt r K L g base rs p v vs (base ++ rs) ((base.length + p : Nat) : Int) x) (hH : Halves w) (hg : g + 1 < 4611686018427387904) (hkd : kd = 6) :
    Calls Tryd.prog 22 #[.pointer (some ⟨r, 0, none⟩), .agg #[.int .i64 kd, .int .i64 nn, .slice po pl pc, .int .i64 tk0, .int .i64 tz0, .int .i64 tk1, .int .i64 tz1]] x (AcQ w T wt r K g (base ++ rs) (pl + 2)) := by
  subst hkd
  obtain ⟨P0, hm0⟩ := h.mem
  obtain ⟨av, cv, hve, _⟩ := hm0.vr.isSlice
  subst hve
  obtain ⟨W0, hW0⟩ : ∃ W, x.alloc (.cells #[.int .i64 6, .int .i64 nn, .slice po pl pc, .int .i64 tk0, .int .i64 tz0, .int .i64 tk1, .int .i64 tz1] 63) = W := ⟨_, rfl⟩
  have HW0 : Hid (x.alloc (.cells #[.int .i64 6, .int .i64 nn, .slice po pl pc, .int .i64 tk0, .int .i64 tz0, .int .i64 tk1, .int .i64 tz1] 63) = W0) := hW0
  have b0 : Below x.heap.size x W0 := by rw [← hW0]; exact (Below.refl _ _).alloc (Nat.le_refl _) _
  have HT : Hid (∀ q u, (#[Value.int .i64 6, .int .i64 nn, .slice po pl pc, .int .i64 tk0, .int .i64 tz0, .int .i64 tk1, .int .i64 tz1] : Array Value)[q]? = some u → W0.cell? ⟨x.heap.size, q, none⟩ = some u) := fun q u hu => by rw [← hW0, ← hu]; exact World.cell?_alloc_new _ _ _ _
  have HI : Hid (CmI w (fun b => T b ∨ b = x.heap.size) W0 r K L g base rs p (.slice av vs.length cv) vs (base ++ rs) ((base.length + p : Nat) : Int) W0) := by rw [← hW0]; exact h.box _
  have HTk : Hid (∀ b, T b → (T b ∨ b = x.heap.size) ∧ W0.heap[b]? = wt.heap[b]?) := fun b hb => ⟨Or.inl hb, (b0.block b (hm0.kt b hb).1).trans (hm0.kt b hb).2.1⟩
  have HLy : Hid (lays (base ++ rs) ≤ 1048576) := h.1.ly
  have HA : Hid (Halves w ∧ g + 1 < 4611686018427387904 ∧ p ≤ rs.length) := ⟨hH, hg, h.2.1⟩
  have HVl : Hid (vs.length = base.length + rs.length) := by have := hm0.pc.1; rw [List.length_append] at this; exact this
  have al0 : ∀ o, (x.alloc o).cell? ⟨r, 0, none⟩ = some (.pointer (some ⟨K, 0, none⟩)) := fun o => (World.cell?_alloc_lt _ _ ⟨r, 0, none⟩ (cell_lt hm0.r0)).trans hm0.r0
  have al1 : ∀ o, (x.alloc o).cell? ⟨r, 1, none⟩ = some (.pointer (some ⟨L, 0, none⟩)) := fun o => (World.cell?_alloc_lt _ _ ⟨r, 1, none⟩ (cell_lt hm0.r1)).trans hm0.r1
  have al2 : ∀ o, (x.alloc o).cell? ⟨r, 2, none⟩ = some (.slice av vs.length cv) := fun o => (World.cell?_alloc_lt _ _ ⟨r, 2, none⟩ (cell_lt hm0.r2)).trans hm0.r2
  have HCx : Hid (∀ (z : World) (q : Nat) (one : Bool) (ql : List (List Int)) (v : Value) (vs : List Value), CmX w (fun b => T b ∨ b = x.heap.size) W0 r K g base rs q (.pointer (some ⟨L, 0, none⟩)) v vs ql ((base.length + p : Nat) : Int) true one z → base ++ rs = ql.take (base ++ rs).length → lays ql ≤ 1048576 → p ≤ q → Calls Tryd.prog 23 #[.pointer (some ⟨r, 0, none⟩), .agg #[.int .i64 tk0, .int .i64 tz0, .int .i64 tk1, .int .i64 tz1], .bool false] z (AcQ w T wt r K g (base ++ rs) (pl + 2))) := fun z q one ql v vs hx hq hly hpq => (crash_any hx hq (by omega) hly hH hg (fun e => by cases e)).mono fun e w' ⟨he, hf⟩ => by rw [he]; exact hf.act HTk.out
  have HTx : Hid (∀ (z : World) (P : Nat → Prop) (lv v : Value) (vs : List Value) (ql : List (List Int)) (sf : Int), CmM w (fun b => T b ∨ b = x.heap.size) W0 r K lv v vs ql sf P z → ∀ q u, (#[Value.int .i64 6, .int .i64 nn, .slice po pl pc, .int .i64 tk0, .int .i64 tz0, .int .i64 tk1, .int .i64 tz1] : Array Value)[q]? = some u → z.cell? ⟨x.heap.size, q, none⟩ = some u) := fun z P lv v vs ql sf hm q u hu => (cell_block (hm.kt x.heap.size (Or.inr rfl)).2.1 q).trans (HT.out q u hu)
  clear h hH hg hm0 b0 hW0
  go_enter Tryd.func22, Tryd.ntmps22
  have HCr : Hid (∀ zw, Below W0.heap.size W0 zw → Calls Tryd.prog 23 #[.pointer (some ⟨r, 0, none⟩), .agg #[.int .i64 tk0, .int .i64 tz0, .int .i64 tk1, .int .i64 tz1], .bool true] zw fun e w' => e = .returned (.bool true) ∧ Hid (AcQ w T wt r K g (base ++ rs) (pl + 2) (.returned (.bool true)) w')) := fun zw hz => by
    refine (crash_any (HI.out.below hz).x (by rw [List.take_length]) (Int.le_refl _) HLy.out HA.out.1 HA.out.2.1 (fun _ => ⟨rfl, rfl, rfl⟩)).mono ?_
    rintro e w' ⟨rfl, hf⟩
    exact ⟨rfl, hf.act HTk.out⟩
  have HAv : Hid (∀ zw, Below W0.heap.size W0 zw → Calls Tryd.prog 19 #[.pointer (some ⟨K, 0, none⟩)] zw fun e w' => e = .returned (.bool true) ∧ w' = zw) := fun zw hz => (HI.out.below hz).x.alive
  obtain ⟨P2, hm2⟩ := HI.out.mem
  have c0 := hm2.r0
  have k3 := HT.out 3 _ rfl
  have k4 := HT.out 4 _ rfl
  have k5 := HT.out 5 _ rfl
  have k6 := HT.out 6 _ rfl
  have hBv : Below W0.heap.size W0 W0 := Below.refl _ _
  clear hm2
  go_wp2_with fail
  rw [HW0.out]
  go_region_with (first | (go_at_call 19; refine (HAv.out _ ?_).mono ?_; (first | assumption | exact Below.drew (by assumption) | exact Below.drew (Below.drew (by assumption))); rintro e w6 ⟨rfl, rfl⟩) | (go_at_call 23; refine (HCr.out _ ?_).mono ?_; (first | assumption | exact Below.drew (by assumption) | exact Below.drew (Below.drew (by assumption))); rintro e w8 ⟨rfl, HF⟩))
  all_goals
    go_wp2_with fail
    go_ret
    exact HF.out
end Go.Proofs.YtfkcnnjkflomkaaDoor

/-
  WalCommits: act, the kind 2.
-/
namespace Go.Proofs.YtfkcnnjkflomkaaDoor
open Go.RowKit Go.BigFrame

set_option maxRecDepth 100000 in
set_option maxHeartbeats 16000000 in
theorem act_compact {w x wt : World} {T : Nat → Prop} {r K L g p : Nat} {base rs : List (List Int)} {v : Value} {vs : List Value} {kd nn tk0 tz0 tk1 tz1 : Int} {po : Option Addr} {pl pc : Nat} (h : CmI w T wt r K L g base rs p v vs (base ++ rs) ((base.length + p : Nat) : Int) x) (hH : Halves w) (hg : g + 1 < 4611686018427387904) (hkd : kd = 2) :
    Calls Tryd.prog 22 #[.pointer (some ⟨r, 0, none⟩), .agg #[.int .i64 kd, .int .i64 nn, .slice po pl pc, .int .i64 tk0, .int .i64 tz0, .int .i64 tk1, .int .i64 tz1]] x (AcQ w T wt r K g (base ++ rs) (pl + 2)) := by
  subst hkd
  obtain ⟨P0, hm0⟩ := h.mem
  obtain ⟨av, cv, hve, _⟩ := hm0.vr.isSlice
  subst hve
  obtain ⟨W0, hW0⟩ : ∃ W, x.alloc (.cells #[.int .i64 2, .int .i64 nn, .slice po pl pc, .int .i64 tk0, .int .i64 tz0, .int .i64 tk1, .int .i64 tz1] 63) = W := ⟨_, rfl⟩
  have HW0 : Hid (x.alloc (.cells #[.int .i64 2, .int .i64 nn, .slice po pl pc, .int .i64 tk0, .int .i64 tz0, .int .i64 tk1, .int .i64 tz1] 63) = W0) := hW0
  have b0 : Below x.heap.size x W0 := by rw [← hW0]; exact (Below.refl _ _).alloc (Nat.le_refl _) _
  have HT : Hid (∀ q u, (#[Value.int .i64 2, .int .i64 nn, .slice po pl pc, .int .i64 tk0, .int .i64 tz0, .int .i64 tk1, .int .i64 tz1] : Array Value)[q]? = some u → W0.cell? ⟨x.heap.size, q, none⟩ = some u) := fun q u hu => by rw [← hW0, ← hu]; exact World.cell?_alloc_new _ _ _ _
  have HI : Hid (CmI w (fun b => T b ∨ b = x.heap.size) W0 r K L g base rs p (.slice av vs.length cv) vs (base ++ rs) ((base.length + p : Nat) : Int) W0) := by rw [← hW0]; exact h.box _
  have HTk : Hid (∀ b, T b → (T b ∨ b = x.heap.size) ∧ W0.heap[b]? = wt.heap[b]?) := fun b hb => ⟨Or.inl hb, (b0.block b (hm0.kt b hb).1).trans (hm0.kt b hb).2.1⟩
  have HLy : Hid (lays (base ++ rs) ≤ 1048576) := h.1.ly
  have HA : Hid (Halves w ∧ g + 1 < 4611686018427387904 ∧ p ≤ rs.length) := ⟨hH, hg, h.2.1⟩
  have HVl : Hid (vs.length = base.length + rs.length) := by have := hm0.pc.1; rw [List.length_append] at this; exact this
  have al0 : ∀ o, (x.alloc o).cell? ⟨r, 0, none⟩ = some (.pointer (some ⟨K, 0, none⟩)) := fun o => (World.cell?_alloc_lt _ _ ⟨r, 0, none⟩ (cell_lt hm0.r0)).trans hm0.r0
  have al1 : ∀ o, (x.alloc o).cell? ⟨r, 1, none⟩ = some (.pointer (some ⟨L, 0, none⟩)) := fun o => (World.cell?_alloc_lt _ _ ⟨r, 1, none⟩ (cell_lt hm0.r1)).trans hm0.r1
  have al2 : ∀ o, (x.alloc o).cell? ⟨r, 2, none⟩ = some (.slice av vs.length cv) := fun o => (World.cell?_alloc_lt _ _ ⟨r, 2, none⟩ (cell_lt hm0.r2)).trans hm0.r2
  have HCx : Hid (∀ (z : World) (q : Nat) (one : Bool) (ql : List (List Int)) (v : Value) (vs : List Value), CmX w (fun b => T b ∨ b = x.heap.size) W0 r K g base rs q (.pointer (some ⟨L, 0, none⟩)) v vs ql ((base.length + p : Nat) : Int) true one z → base ++ rs = ql.take (base ++ rs).length → lays ql ≤ 1048576 → p ≤ q → Calls Tryd.prog 23 #[.pointer (some ⟨r, 0, none⟩), .agg #[.int .i64 tk0, .int .i64 tz0, .int .i64 tk1, .int .i64 tz1], .bool false] z (AcQ w T wt r K g (base ++ rs) (pl + 2))) := fun z q one ql v vs hx hq hly hpq => (crash_any hx hq (by omega) hly hH hg (fun e => by cases e)).mono fun e w' ⟨he, hf⟩ => by rw [he]; exact hf.act HTk.out
  have HTx : Hid (∀ (z : World) (P : Nat → Prop) (lv v : Value) (vs : List Value) (ql : List (List Int)) (sf : Int), CmM w (fun b => T b ∨ b = x.heap.size) W0 r K lv v vs ql sf P z → ∀ q u, (#[Value.int .i64 2, .int .i64 nn, .slice po pl pc, .int .i64 tk0, .int .i64 tz0, .int .i64 tk1, .int .i64 tz1] : Array Value)[q]? = some u → z.cell? ⟨x.heap.size, q, none⟩ = some u) := fun z P lv v vs ql sf hm q u hu => (cell_block (hm.kt x.heap.size (Or.inr rfl)).2.1 q).trans (HT.out q u hu)
  clear h hH hg hm0 b0 hW0
  go_enter Tryd.func22, Tryd.ntmps22
  have HLa : Hid (∀ zw, Below W0.heap.size W0 zw → Calls Tryd.prog 42 #[.slice av vs.length cv] zw fun e w' => ∃ a n c, e = .returned (.slice a n c) ∧ Hid (LaQ W0 (base ++ rs) a n c w') ∧ w'.cell? ⟨r, 1, none⟩ = some (.pointer (some ⟨L, 0, none⟩)) ∧ w'.cell? ⟨r, 2, none⟩ = some (.slice av vs.length cv)) := fun zw hz => by
    obtain ⟨P1, hm1⟩ := (HI.out.below hz).mem
    have hly := HLy.out
    have hll := len_lays (base ++ rs)
    have hln := hm1.pc.1
    refine (laidOut_any hm1.vr hm1.pc (by omega) (by omega) (fun d hd => (HI.out.1.ln d hd).2.1)).mono ?_
    rintro e w' ⟨a, n, c, he, hrow, hb⟩
    obtain ⟨e1, e2, e3, e4⟩ := hrow.byts'
    refine ⟨a, n, c, he, ⟨below_then hz hb, e2, e3, fun b o h0 h => ⟨Nat.le_trans hz.size (e4 b o h), ?_⟩⟩, below_cell hb hm1.r1, below_cell hb hm1.r2⟩
    exact byts_blk e2 b o h0 h
  have HCo : Hid (∀ (zw w' : World) (a : Option Addr) (n c : Nat), LaQ W0 (base ++ rs) a n c w' → Below w'.heap.size w' zw → Calls Tryd.prog 13 #[.pointer (some ⟨L, 0, none⟩), .slice a n c] zw fun e w'' => Hid (CmE w (fun b => T b ∨ b = x.heap.size) W0 r K L g base rs p (g + 1) (base ++ rs) [] 0 (.slice av vs.length cv) vs (base ++ rs) ((base.length + p : Nat) : Int) false #[] false e w'') ∧ w''.cell? ⟨r, 1, none⟩ = some (.pointer (some ⟨L, 0, none⟩)) ∧ w''.cell? ⟨r, 2, none⟩ = some (.slice av vs.length cv) ∧ ∃ ev, e = .returned ev ∧ (ev = .nilIface ∨ ∃ b, ev = .iface 98 (.pointer (some ⟨b, 0, none⟩)))) := fun zw w' a n c hq hz => by
    obtain ⟨h1, h2, h3, h4⟩ := hq
    refine (cm_compact HI.out (below_then h1 hz) (h2.below hz) (fun b o h0 e => ⟨(h4 b o h0 e).1, Nat.lt_of_lt_of_le (h4 b o h0 e).2 hz.size⟩) h3 HA.out.1 HA.out.2.1).mono ?_
    intro e w'' hE
    have hE' := hE
    rcases hE with ⟨he, hi⟩ | ⟨b, q, _, he, hx⟩
    · obtain ⟨P1, hm1⟩ := hi.mem
      exact ⟨hE', hm1.r1, hm1.r2, _, he, Or.inl rfl⟩
    · obtain ⟨P1, hm1⟩ := hx.mem
      exact ⟨hE', hm1.r1, hm1.r2, _, he, Or.inr ⟨b, rfl⟩⟩
  obtain ⟨P2, hm2⟩ := HI.out.mem
  have c1 := hm2.r1
  have c2 := hm2.r2
  have hBv : Below W0.heap.size W0 W0 := Below.refl _ _
  clear hm2
  go_wp2_with fail
  rw [HW0.out]
  go_region_held3 (fun zw => zw.cell? ⟨r, 1, none⟩ = some (.pointer (some ⟨L, 0, none⟩)) ∧ zw.cell? ⟨r, 2, none⟩ = some (.slice av vs.length cv)) (simp [*]) (first | (go_at_call 42; refine (HLa.out _ ?_).mono ?_; (first | assumption | exact Below.drew (by assumption)); rintro e w5 ⟨a5, n5, c5, rfl, HL5, q1, q2⟩) | (go_at_call 13; refine (HCo.out _ w5 a5 n5 c5 HL5.out ?_).mono ?_; (first | exact Below.refl _ _ | exact (Below.refl _ _).drew); rintro e w2 ⟨HE, q3, q4, ev, rfl, hev⟩))
  all_goals
    rcases HE.out with ⟨he, hI2⟩ | ⟨b, q, hpq, he, hX⟩
    · cases he
      obtain ⟨P1, hm1⟩ := hI2.mem
      have c3 := hm1.r3
      have z3 := hm1.rf 3
      have HF : Hid (AcQ w T wt r K g (base ++ rs) (pl + 2) (.returned (.bool true)) (w2.setCell ⟨r, 3, none⟩ (.int .i64 vs.length))) := by
        refine ⟨rfl, g + 1, base ++ rs, [], 0, L, .slice av vs.length cv, vs, by omega, Nat.le_refl _, by rw [List.append_nil]; omega, ?_⟩
        have e : (((base ++ rs).length + 0 : Nat) : Int) = (vs.length : Int) := by rw [HVl.out, List.length_append, Nat.add_zero]
        rw [e, List.append_nil]
        exact (hI2.safe _).kept HTk.out
      clear hI2 hm1 HE hev
      go_wp2_with fail
      go_ret
      exact HF.out
    · cases he
      clear HE hev q3 q4
      obtain ⟨P1, hm1⟩ := hX.mem
      have c0 := hm1.r0
      have k3 := HTx.out _ _ _ _ _ _ _ hm1 3 _ rfl
      have k4 := HTx.out _ _ _ _ _ _ _ hm1 4 _ rfl
      have k5 := HTx.out _ _ _ _ _ _ _ hm1 5 _ rfl
      have k6 := HTx.out _ _ _ _ _ _ _ hm1 6 _ rfl
      have HAv : Hid (Calls Tryd.prog 19 #[.pointer (some ⟨K, 0, none⟩)] w2 fun e w' => e = .returned (.bool false) ∧ w' = w2) := hX.alive
      have HCr := HCx.out _ _ _ _ _ _ hX (by rw [List.take_length]) HLy.out hpq
      have HC : Hid (Calls Tryd.prog 23 #[.pointer (some ⟨r, 0, none⟩), .agg #[.int .i64 tk0, .int .i64 tz0, .int .i64 tk1, .int .i64 tz1], .bool false] w2 (AcQ w T wt r K g (base ++ rs) (pl + 2))) := HCr
      clear hX hm1 HCr
      go_wp2_with fail
      refine HAv.out.mono ?_
      rintro e w3 ⟨rfl, rfl⟩
      go_wp2_with fail
      refine HC.out.mono ?_
      rintro e w4 ⟨rfl, hq⟩
      go_wp2_with fail
      go_ret
      exact ⟨rfl, hq⟩
end Go.Proofs.YtfkcnnjkflomkaaDoor

/-
  WalCommits: act, the kind kq.
-/
namespace Go.Proofs.YtfkcnnjkflomkaaDoor
open Go.RowKit Go.BigFrame

set_option maxRecDepth 100000 in
set_option maxHeartbeats 16000000 in
theorem act_other {w x wt : World} {T : Nat → Prop} {r K L g p : Nat} {base rs : List (List Int)} {v : Value} {vs : List Value} {kd kq nn tk0 tz0 tk1 tz1 : Int} {po : Option Addr} {pl pc : Nat} (h : CmI w T wt r K L g base rs p v vs (base ++ rs) ((base.length + p : Nat) : Int) x) (hH : Halves w) (hg : g + 1 < 4611686018427387904) (hkd : kd = kq) (hk0 : ¬ kq = 0) (hk1 : ¬ kq = 1) (hk2 : ¬ kq = 2) (hk4 : ¬ kq = 4) (hk5 : ¬ kq = 5) (hk6 : ¬ kq = 6) (hk9 : ¬ kq = 9) :
    Calls Tryd.prog 22 #[.pointer (some ⟨r, 0, none⟩), .agg #[.int .i64 kd, .int .i64 nn, .slice po pl pc, .int .i64 tk0, .int .i64 tz0, .int .i64 tk1, .int .i64 tz1]] x (AcQ w T wt r K g (base ++ rs) (pl + 2)) := by
  subst hkd
  obtain ⟨P0, hm0⟩ := h.mem
  obtain ⟨av, cv, hve, _⟩ := hm0.vr.isSlice
  subst hve
  obtain ⟨W0, hW0⟩ : ∃ W, x.alloc (.cells #[.int .i64 kd, .int .i64 nn, .slice po pl pc, .int .i64 tk0, .int .i64 tz0, .int .i64 tk1, .int .i64 tz1] 63) = W := ⟨_, rfl⟩
  have HW0 : Hid (x.alloc (.cells #[.int .i64 kd, .int .i64 nn, .slice po pl pc, .int .i64 tk0, .int .i64 tz0, .int .i64 tk1, .int .i64 tz1] 63) = W0) := hW0
  have b0 : Below x.heap.size x W0 := by rw [← hW0]; exact (Below.refl _ _).alloc (Nat.le_refl _) _
  have HT : Hid (∀ q u, (#[Value.int .i64 kd, .int .i64 nn, .slice po pl pc, .int .i64 tk0, .int .i64 tz0, .int .i64 tk1, .int .i64 tz1] : Array Value)[q]? = some u → W0.cell? ⟨x.heap.size, q, none⟩ = some u) := fun q u hu => by rw [← hW0, ← hu]; exact World.cell?_alloc_new _ _ _ _
  have HI : Hid (CmI w (fun b => T b ∨ b = x.heap.size) W0 r K L g base rs p (.slice av vs.length cv) vs (base ++ rs) ((base.length + p : Nat) : Int) W0) := by rw [← hW0]; exact h.box _
  have HTk : Hid (∀ b, T b → (T b ∨ b = x.heap.size) ∧ W0.heap[b]? = wt.heap[b]?) := fun b hb => ⟨Or.inl hb, (b0.block b (hm0.kt b hb).1).trans (hm0.kt b hb).2.1⟩
  have HLy : Hid (lays (base ++ rs) ≤ 1048576) := h.1.ly
  have HA : Hid (Halves w ∧ g + 1 < 4611686018427387904 ∧ p ≤ rs.length) := ⟨hH, hg, h.2.1⟩
  have HVl : Hid (vs.length = base.length + rs.length) := by have := hm0.pc.1; rw [List.length_append] at this; exact this
  have al0 : ∀ o, (x.alloc o).cell? ⟨r, 0, none⟩ = some (.pointer (some ⟨K, 0, none⟩)) := fun o => (World.cell?_alloc_lt _ _ ⟨r, 0, none⟩ (cell_lt hm0.r0)).trans hm0.r0
  have al1 : ∀ o, (x.alloc o).cell? ⟨r, 1, none⟩ = some (.pointer (some ⟨L, 0, none⟩)) := fun o => (World.cell?_alloc_lt _ _ ⟨r, 1, none⟩ (cell_lt hm0.r1)).trans hm0.r1
  have al2 : ∀ o, (x.alloc o).cell? ⟨r, 2, none⟩ = some (.slice av vs.length cv) := fun o => (World.cell?_alloc_lt _ _ ⟨r, 2, none⟩ (cell_lt hm0.r2)).trans hm0.r2
  have HCx : Hid (∀ (z : World) (q : Nat) (one : Bool) (ql : List (List Int)) (v : Value) (vs : List Value), CmX w (fun b => T b ∨ b = x.heap.size) W0 r K g base rs q (.pointer (some ⟨L, 0, none⟩)) v vs ql ((base.length + p : Nat) : Int) true one z → base ++ rs = ql.take (base ++ rs).length → lays ql ≤ 1048576 → p ≤ q → Calls Tryd.prog 23 #[.pointer (some ⟨r, 0, none⟩), .agg #[.int .i64 tk0, .int .i64 tz0, .int .i64 tk1, .int .i64 tz1], .bool false] z (AcQ w T wt r K g (base ++ rs) (pl + 2))) := fun z q one ql v vs hx hq hly hpq => (crash_any hx hq (by omega) hly hH hg (fun e => by cases e)).mono fun e w' ⟨he, hf⟩ => by rw [he]; exact hf.act HTk.out
  have HTx : Hid (∀ (z : World) (P : Nat → Prop) (lv v : Value) (vs : List Value) (ql : List (List Int)) (sf : Int), CmM w (fun b => T b ∨ b = x.heap.size) W0 r K lv v vs ql sf P z → ∀ q u, (#[Value.int .i64 kd, .int .i64 nn, .slice po pl pc, .int .i64 tk0, .int .i64 tz0, .int .i64 tk1, .int .i64 tz1] : Array Value)[q]? = some u → z.cell? ⟨x.heap.size, q, none⟩ = some u) := fun z P lv v vs ql sf hm q u hu => (cell_block (hm.kt x.heap.size (Or.inr rfl)).2.1 q).trans (HT.out q u hu)
  clear h hH hg hm0 b0 hW0
  go_enter Tryd.func22, Tryd.ntmps22
  have e0 : (kd == 0) = false := by simp [hk0]
  have e1 : (kd == 1) = false := by simp [hk1]
  have e2 : (kd == 2) = false := by simp [hk2]
  have e4 : (kd == 4) = false := by simp [hk4]
  have e5 : (kd == 5) = false := by simp [hk5]
  have e6 : (kd == 6) = false := by simp [hk6]
  have e9 : (kd == 9) = false := by simp [hk9]
  have HF : Hid (AcQ w T wt r K g (base ++ rs) (pl + 2) (.returned (.bool true)) W0) := ⟨rfl, g, base, rs, p, L, .slice av vs.length cv, vs, Nat.le_refl _, by omega, by omega, HI.out.kept HTk.out⟩
  go_wp2_with fail
  rw [HW0.out]
  go_ret
  exact HF.out
set_option maxRecDepth 100000 in
set_option maxHeartbeats 16000000 in
theorem act_skip0 {w x wt : World} {T : Nat → Prop} {r K L g p : Nat} {base rs : List (List Int)} {v : Value} {vs : List Value} {kd nn tk0 tz0 tk1 tz1 : Int} {po : Option Addr} {pl pc : Nat} (h : CmI w T wt r K L g base rs p v vs (base ++ rs) ((base.length + p : Nat) : Int) x) (hH : Halves w) (hg : g + 1 < 4611686018427387904) (hkd : kd = 0) (hsk : pl = 0 ∨ 20000 < pl) :
    Calls Tryd.prog 22 #[.pointer (some ⟨r, 0, none⟩), .agg #[.int .i64 kd, .int .i64 nn, .slice po pl pc, .int .i64 tk0, .int .i64 tz0, .int .i64 tk1, .int .i64 tz1]] x (AcQ w T wt r K g (base ++ rs) (pl + 2)) := by
  subst hkd
  obtain ⟨P0, hm0⟩ := h.mem
  obtain ⟨av, cv, hve, _⟩ := hm0.vr.isSlice
  subst hve
  obtain ⟨W0, hW0⟩ : ∃ W, x.alloc (.cells #[.int .i64 0, .int .i64 nn, .slice po pl pc, .int .i64 tk0, .int .i64 tz0, .int .i64 tk1, .int .i64 tz1] 63) = W := ⟨_, rfl⟩
  have HW0 : Hid (x.alloc (.cells #[.int .i64 0, .int .i64 nn, .slice po pl pc, .int .i64 tk0, .int .i64 tz0, .int .i64 tk1, .int .i64 tz1] 63) = W0) := hW0
  have b0 : Below x.heap.size x W0 := by rw [← hW0]; exact (Below.refl _ _).alloc (Nat.le_refl _) _
  have HT : Hid (∀ q u, (#[Value.int .i64 0, .int .i64 nn, .slice po pl pc, .int .i64 tk0, .int .i64 tz0, .int .i64 tk1, .int .i64 tz1] : Array Value)[q]? = some u → W0.cell? ⟨x.heap.size, q, none⟩ = some u) := fun q u hu => by rw [← hW0, ← hu]; exact World.cell?_alloc_new _ _ _ _
  have HI : Hid (CmI w (fun b => T b ∨ b = x.heap.size) W0 r K L g base rs p (.slice av vs.length cv) vs (base ++ rs) ((base.length + p : Nat) : Int) W0) := by rw [← hW0]; exact h.box _
  have HTk : Hid (∀ b, T b → (T b ∨ b = x.heap.size) ∧ W0.heap[b]? = wt.heap[b]?) := fun b hb => ⟨Or.inl hb, (b0.block b (hm0.kt b hb).1).trans (hm0.kt b hb).2.1⟩
  have HLy : Hid (lays (base ++ rs) ≤ 1048576) := h.1.ly
  have HA : Hid (Halves w ∧ g + 1 < 4611686018427387904 ∧ p ≤ rs.length) := ⟨hH, hg, h.2.1⟩
  have HVl : Hid (vs.length = base.length + rs.length) := by have := hm0.pc.1; rw [List.length_append] at this; exact this
  have al0 : ∀ o, (x.alloc o).cell? ⟨r, 0, none⟩ = some (.pointer (some ⟨K, 0, none⟩)) := fun o => (World.cell?_alloc_lt _ _ ⟨r, 0, none⟩ (cell_lt hm0.r0)).trans hm0.r0
  have al1 : ∀ o, (x.alloc o).cell? ⟨r, 1, none⟩ = some (.pointer (some ⟨L, 0, none⟩)) := fun o => (World.cell?_alloc_lt _ _ ⟨r, 1, none⟩ (cell_lt hm0.r1)).trans hm0.r1
  have al2 : ∀ o, (x.alloc o).cell? ⟨r, 2, none⟩ = some (.slice av vs.length cv) := fun o => (World.cell?_alloc_lt _ _ ⟨r, 2, none⟩ (cell_lt hm0.r2)).trans hm0.r2
  have HCx : Hid (∀ (z : World) (q : Nat) (one : Bool) (ql : List (List Int)) (v : Value) (vs : List Value), CmX w (fun b => T b ∨ b = x.heap.size) W0 r K g base rs q (.pointer (some ⟨L, 0, none⟩)) v vs ql ((base.length + p : Nat) : Int) true one z → base ++ rs = ql.take (base ++ rs).length → lays ql ≤ 1048576 → p ≤ q → Calls Tryd.prog 23 #[.pointer (some ⟨r, 0, none⟩), .agg #[.int .i64 tk0, .int .i64 tz0, .int .i64 tk1, .int .i64 tz1], .bool false] z (AcQ w T wt r K g (base ++ rs) (pl + 2))) := fun z q one ql v vs hx hq hly hpq => (crash_any hx hq (by omega) hly hH hg (fun e => by cases e)).mono fun e w' ⟨he, hf⟩ => by rw [he]; exact hf.act HTk.out
  have HTx : Hid (∀ (z : World) (P : Nat → Prop) (lv v : Value) (vs : List Value) (ql : List (List Int)) (sf : Int), CmM w (fun b => T b ∨ b = x.heap.size) W0 r K lv v vs ql sf P z → ∀ q u, (#[Value.int .i64 0, .int .i64 nn, .slice po pl pc, .int .i64 tk0, .int .i64 tz0, .int .i64 tk1, .int .i64 tz1] : Array Value)[q]? = some u → z.cell? ⟨x.heap.size, q, none⟩ = some u) := fun z P lv v vs ql sf hm q u hu => (cell_block (hm.kt x.heap.size (Or.inr rfl)).2.1 q).trans (HT.out q u hu)
  clear h hH hg hm0 b0 hW0
  go_enter Tryd.func22, Tryd.ntmps22
  have HF : Hid (AcQ w T wt r K g (base ++ rs) (pl + 2) (.returned (.bool true)) W0) := ⟨rfl, g, base, rs, p, L, .slice av vs.length cv, vs, Nat.le_refl _, by omega, by omega, HI.out.kept HTk.out⟩
  rcases hsk with rfl | hsk
  · go_wp2_with fail
    rw [HW0.out]
    go_ret
    exact HF.out
  · have g0 : ¬ pl = 0 := by omega
    have g0' : ((pl : Int) == 0) = false := by simp; omega
    have g1i : (20000 : Int) < pl := by omega
    have g1' : decide ((20000 : Int) < pl) = true := decide_eq_true g1i
    go_wp2_with fail
    rw [HW0.out]
    go_ret
    exact HF.out
set_option maxRecDepth 100000 in
set_option maxHeartbeats 16000000 in
theorem act_skip9 {w x wt : World} {T : Nat → Prop} {r K L g p : Nat} {base rs : List (List Int)} {v : Value} {vs : List Value} {kd nn tk0 tz0 tk1 tz1 : Int} {po : Option Addr} {pl pc : Nat} (h : CmI w T wt r K L g base rs p v vs (base ++ rs) ((base.length + p : Nat) : Int) x) (hH : Halves w) (hg : g + 1 < 4611686018427387904) (hkd : kd = 9) (hsk : pl = 0 ∨ 20000 < pl) :
    Calls Tryd.prog 22 #[.pointer (some ⟨r, 0, none⟩), .agg #[.int .i64 kd, .int .i64 nn, .slice po pl pc, .int .i64 tk0, .int .i64 tz0, .int .i64 tk1, .int .i64 tz1]] x (AcQ w T wt r K g (base ++ rs) (pl + 2)) := by
  subst hkd
  obtain ⟨P0, hm0⟩ := h.mem
  obtain ⟨av, cv, hve, _⟩ := hm0.vr.isSlice
  subst hve
  obtain ⟨W0, hW0⟩ : ∃ W, x.alloc (.cells #[.int .i64 9, .int .i64 nn, .slice po pl pc, .int .i64 tk0, .int .i64 tz0, .int .i64 tk1, .int .i64 tz1] 63) = W := ⟨_, rfl⟩
  have HW0 : Hid (x.alloc (.cells #[.int .i64 9, .int .i64 nn, .slice po pl pc, .int .i64 tk0, .int .i64 tz0, .int .i64 tk1, .int .i64 tz1] 63) = W0) := hW0
  have b0 : Below x.heap.size x W0 := by rw [← hW0]; exact (Below.refl _ _).alloc (Nat.le_refl _) _
  have HT : Hid (∀ q u, (#[Value.int .i64 9, .int .i64 nn, .slice po pl pc, .int .i64 tk0, .int .i64 tz0, .int .i64 tk1, .int .i64 tz1] : Array Value)[q]? = some u → W0.cell? ⟨x.heap.size, q, none⟩ = some u) := fun q u hu => by rw [← hW0, ← hu]; exact World.cell?_alloc_new _ _ _ _
  have HI : Hid (CmI w (fun b => T b ∨ b = x.heap.size) W0 r K L g base rs p (.slice av vs.length cv) vs (base ++ rs) ((base.length + p : Nat) : Int) W0) := by rw [← hW0]; exact h.box _
  have HTk : Hid (∀ b, T b → (T b ∨ b = x.heap.size) ∧ W0.heap[b]? = wt.heap[b]?) := fun b hb => ⟨Or.inl hb, (b0.block b (hm0.kt b hb).1).trans (hm0.kt b hb).2.1⟩
  have HLy : Hid (lays (base ++ rs) ≤ 1048576) := h.1.ly
  have HA : Hid (Halves w ∧ g + 1 < 4611686018427387904 ∧ p ≤ rs.length) := ⟨hH, hg, h.2.1⟩
  have HVl : Hid (vs.length = base.length + rs.length) := by have := hm0.pc.1; rw [List.length_append] at this; exact this
  have al0 : ∀ o, (x.alloc o).cell? ⟨r, 0, none⟩ = some (.pointer (some ⟨K, 0, none⟩)) := fun o => (World.cell?_alloc_lt _ _ ⟨r, 0, none⟩ (cell_lt hm0.r0)).trans hm0.r0
  have al1 : ∀ o, (x.alloc o).cell? ⟨r, 1, none⟩ = some (.pointer (some ⟨L, 0, none⟩)) := fun o => (World.cell?_alloc_lt _ _ ⟨r, 1, none⟩ (cell_lt hm0.r1)).trans hm0.r1
  have al2 : ∀ o, (x.alloc o).cell? ⟨r, 2, none⟩ = some (.slice av vs.length cv) := fun o => (World.cell?_alloc_lt _ _ ⟨r, 2, none⟩ (cell_lt hm0.r2)).trans hm0.r2
  have HCx : Hid (∀ (z : World) (q : Nat) (one : Bool) (ql : List (List Int)) (v : Value) (vs : List Value), CmX w (fun b => T b ∨ b = x.heap.size) W0 r K g base rs q (.pointer (some ⟨L, 0, none⟩)) v vs ql ((base.length + p : Nat) : Int) true one z → base ++ rs = ql.take (base ++ rs).length → lays ql ≤ 1048576 → p ≤ q → Calls Tryd.prog 23 #[.pointer (some ⟨r, 0, none⟩), .agg #[.int .i64 tk0, .int .i64 tz0, .int .i64 tk1, .int .i64 tz1], .bool false] z (AcQ w T wt r K g (base ++ rs) (pl + 2))) := fun z q one ql v vs hx hq hly hpq => (crash_any hx hq (by omega) hly hH hg (fun e => by cases e)).mono fun e w' ⟨he, hf⟩ => by rw [he]; exact hf.act HTk.out
  have HTx : Hid (∀ (z : World) (P : Nat → Prop) (lv v : Value) (vs : List Value) (ql : List (List Int)) (sf : Int), CmM w (fun b => T b ∨ b = x.heap.size) W0 r K lv v vs ql sf P z → ∀ q u, (#[Value.int .i64 9, .int .i64 nn, .slice po pl pc, .int .i64 tk0, .int .i64 tz0, .int .i64 tk1, .int .i64 tz1] : Array Value)[q]? = some u → z.cell? ⟨x.heap.size, q, none⟩ = some u) := fun z P lv v vs ql sf hm q u hu => (cell_block (hm.kt x.heap.size (Or.inr rfl)).2.1 q).trans (HT.out q u hu)
  clear h hH hg hm0 b0 hW0
  go_enter Tryd.func22, Tryd.ntmps22
  have HF : Hid (AcQ w T wt r K g (base ++ rs) (pl + 2) (.returned (.bool true)) W0) := ⟨rfl, g, base, rs, p, L, .slice av vs.length cv, vs, Nat.le_refl _, by omega, by omega, HI.out.kept HTk.out⟩
  rcases hsk with rfl | hsk
  · go_wp2_with fail
    rw [HW0.out]
    go_ret
    exact HF.out
  · have g0 : ¬ pl = 0 := by omega
    have g0' : ((pl : Int) == 0) = false := by simp; omega
    have g1i : (20000 : Int) < pl := by omega
    have g1' : decide ((20000 : Int) < pl) = true := decide_eq_true g1i
    go_wp2_with fail
    rw [HW0.out]
    go_ret
    exact HF.out
end Go.Proofs.YtfkcnnjkflomkaaDoor
