import Derived.Test.YtfkcnnjkflomkaaDoorWCm12
/-
  WalCommits: act, the kind 0.
-/
namespace Go.Proofs.YtfkcnnjkflomkaaDoor
open Go.RowKit Go.BigFrame

set_option maxRecDepth 100000 in
set_option maxHeartbeats 16000000 in
theorem act_append0 {w x wt : World} {T : Nat → Prop} {r K L g p : Nat} {base rs : List (List Int)} {v : Value} {vs : List Value} {kd nn tk0 tz0 tk1 tz1 : Int} {po : Option Addr} {pl pc : Nat} (h : CmI w T wt r K L g base rs p v vs (base ++ rs) ((base.length + p : Nat) : Int) x) (hH : Halves w) (hg : g + 1 < 4611686018427387904) (hkd : kd = 0) {d : List Int} (hb : Byts w po pl d) (hr : Rng d) (hpo : po = none → pc = 0) (hp0 : 0 < pl) (hp1 : pl ≤ 20000) (hs : lays (base ++ rs) + (pl + 2) ≤ 1048576) :
    Calls Tryd.prog 22 #[.pointer (some ⟨r, 0, none⟩), .agg #[.int .i64 kd, .int .i64 nn, .slice po pl pc, .int .i64 tk0, .int .i64 tz0, .int .i64 tk1, .int .i64 tz1]] x (AcQ w T wt r K g (base ++ rs) (pl + 2)) := by
  subst hkd
  obtain ⟨P0, hm0⟩ := h.mem
  obtain ⟨av, cv, hve, _⟩ := hm0.vr.isSlice
  subst hve
  obtain ⟨W0, hW0⟩ : ∃ W, x.alloc (.cells #[.int .i64 0, .int .i64 nn, .slice po pl pc, .int .i64 tk0, .int .i64 tz0, .int .i64 tk1, .int .i64 tz1] 63) = W := ⟨_, rfl⟩
  have HW0 : Hid (x.alloc (.cells #[.int .i64 0, .int .i64 nn, .slice po pl pc, .int .i64 tk0, .int .i64 tz0, .int .i64 tk1, .int .i64 tz1] 63) = W0) := hW0
  have b0 : Below x.heap.size x W0 := by rw [← hW0]; exact (Below.refl _ _).alloc (Nat.le_refl _) _
  have HT : Hid (∀ q u, (#[Value.int .i64 0, .int .i64 nn, .slice po pl pc, .int .i64 tk0, .int .i64 tz0, .int .i64 tk1, .int .i64 tz1] : Array Value)[q]? = some u → W0.cell? ⟨x.heap.size, q, none⟩ = some u) := fun q u hu => by rw [← hW0, ← hu]; exact World.cell?_alloc_new _ _ _ _
  have HI : Hid (CmI w (fun b => T b ∨ b = x.heap.size) W0 r K L g base rs p (.slice av vs.length cv) vs (base ++ rs) ((base.length + p : Nat) : Int) W0) := by rw [← hW0]; exact h.box _
  have HTk : Hid (∀ b, T b → (T b ∨ b = x.heap.size) ∧ W0.heap[b]? = wt.heap[b]?) := fun b hb => ⟨Or.inl hb, (b0.block b (hm0.kt b hb).1).trans (hm0.kt b hb).2.1⟩
  have HLy : Hid (lays (base ++ rs) ≤ 1048576) := h.1.ly
  have HA : Hid (Halves w ∧ g + 1 < 4611686018427387904 ∧ p ≤ rs.length) := ⟨hH, hg, h.2.1⟩
  have HVl : Hid (vs.length = base.length + rs.length) := by have := hm0.pc.1; rw [List.length_append] at this; exact this
  have al0 : ∀ o, (x.alloc o).cell? ⟨r, 0, none⟩ = some (.pointer (some ⟨K, 0, none⟩)) := fun o => (World.cell?_alloc_lt _ _ ⟨r, 0, none⟩ (cell_lt hm0.r0)).trans hm0.r0
  have al1 : ∀ o, (x.alloc o).cell? ⟨r, 1, none⟩ = some (.pointer (some ⟨L, 0, none⟩)) := fun o => (World.cell?_alloc_lt _ _ ⟨r, 1, none⟩ (cell_lt hm0.r1)).trans hm0.r1
  have al2 : ∀ o, (x.alloc o).cell? ⟨r, 2, none⟩ = some (.slice av vs.length cv) := fun o => (World.cell?_alloc_lt _ _ ⟨r, 2, none⟩ (cell_lt hm0.r2)).trans hm0.r2
  have HCx : Hid (∀ (z : World) (q : Nat) (one : Bool) (ql : List (List Int)) (v : Value) (vs : List Value), CmX w (fun b => T b ∨ b = x.heap.size) W0 r K g base rs q (.pointer (some ⟨L, 0, none⟩)) v vs ql ((base.length + p : Nat) : Int) true one z → base ++ rs = ql.take (base ++ rs).length → lays ql ≤ 1048576 → p ≤ q → Calls Tryd.prog 23 #[.pointer (some ⟨r, 0, none⟩), .agg #[.int .i64 tk0, .int .i64 tz0, .int .i64 tk1, .int .i64 tz1], .bool false] z (AcQ w T wt r K g (base ++ rs) (pl + 2))) := fun z q one ql v vs hx hq hly hpq => (crash_any hx hq (by omega) hly hH hg (fun e => by cases e)).mono fun e w' ⟨he, hf⟩ => by rw [he]; exact hf.act HTk.out
  have HTx : Hid (∀ (z : World) (P : Nat → Prop) (lv v : Value) (vs : List Value) (ql : List (List Int)) (sf : Int), CmM w (fun b => T b ∨ b = x.heap.size) W0 r K lv v vs ql sf P z → ∀ q u, (#[Value.int .i64 0, .int .i64 nn, .slice po pl pc, .int .i64 tk0, .int .i64 tz0, .int .i64 tk1, .int .i64 tz1] : Array Value)[q]? = some u → z.cell? ⟨x.heap.size, q, none⟩ = some u) := fun z P lv v vs ql sf hm q u hu => (cell_block (hm.kt x.heap.size (Or.inr rfl)).2.1 q).trans (HT.out q u hu)
  have HB : Hid (Byts w po pl d ∧ Rng d ∧ (po = none → pc = 0) ∧ lays (base ++ rs) + (pl + 2) ≤ 1048576 ∧ Byts W0 po pl d ∧ d.length = pl) := ⟨hb, hr, hpo, hs, hb.below (below_then hm0.bl b0), hb.len⟩
  have HQl : Hid ((base ++ rs).length ≤ 1048576) := by have := len_lays (base ++ rs); have := h.1.ly; unfold Hid; omega
  have g0 : ¬ pl = 0 := by omega
  have g0' : ((pl : Int) == 0) = false := by simp; omega
  have g1i : ¬ (20000 : Int) < pl := by omega
  have g1' : decide ((20000 : Int) < pl) = false := decide_eq_false g1i
  have hpl5 : pl ≤ 20000 := hp1
  clear h hH hg hm0 b0 hW0 hb hr hpo hp0 hp1 hs
  go_enter Tryd.func22, Tryd.ntmps22
  obtain ⟨P2, hm2⟩ := HI.out.mem
  have c2 := hm2.r2
  have k2 := HT.out 2 _ rfl
  have z2 := hm2.rf 2
  have al2' : ∀ o, (W0.alloc o).cell? ⟨r, 2, none⟩ = some (.slice av vs.length cv) := fun o => (World.cell?_alloc_lt _ _ ⟨r, 2, none⟩ (cell_lt c2)).trans c2
  have ak2' : ∀ o, (W0.alloc o).cell? ⟨x.heap.size, 2, none⟩ = some (.slice po pl pc) := fun o => (World.cell?_alloc_lt _ _ ⟨x.heap.size, 2, none⟩ (cell_lt k2)).trans k2
  clear hm2 al0 al1 al2
  go_wp2_with fail
  rw [HW0.out]
  go_region_law (first | ((first | (refine step_clone (W0 := W0) (zw := W0) ?_ (.tmp 28) (.tmp 30) ?_ ?_ ?_ ?_ ?_ (Below.refl _ _) HB.out.2.2.2.2.1 HB.out.2.2.1 hpl5 ?_; rfl; rfl; rfl; rfl; rfl; rfl) | (refine step_clone (W0 := W0) (zw := W0.drew) ?_ (.tmp 28) (.tmp 30) ?_ ?_ ?_ ?_ ?_ ((Below.refl _ _).drew) HB.out.2.2.2.2.1 HB.out.2.2.1 hpl5 ?_; rfl; rfl; rfl; rfl; rfl; rfl)); intro a5 n5 c5 w5 HC5; have f2 : w5.cell? ⟨r, 2, none⟩ = some (.slice av vs.length cv) := below_cell HC5.out.2.1 c2; have f3 : ∀ o, (w5.alloc o).cell? ⟨r, 2, none⟩ = some (.slice av vs.length cv) := (fun o => (World.cell?_alloc_lt _ _ ⟨r, 2, none⟩ (cell_lt f2)).trans f2)) | ((first | (refine step_push (wy := w5) ?_ (.tmp 27) (.tmp 32) ?_ ?_ ?_ ?_ ?_ HI.out HC5.out.2.1 HC5.out.1 HC5.out.2.2.1 HC5.out.2.2.2.1 HC5.out.2.2.2.2 HQl.out ?_; rfl; rfl; rfl; rfl; rfl; rfl) | (refine step_push (wy := w5.drew) ?_ (.tmp 27) (.tmp 32) ?_ ?_ ?_ ?_ ?_ HI.out (HC5.out.2.1.drew) HC5.out.1 (HC5.out.2.2.1.below ((Below.refl _ _).drew)) HC5.out.2.2.2.1 HC5.out.2.2.2.2 HQl.out ?_; rfl; rfl; rfl; rfl; rfl; rfl)); intro a2 n2 k2' w9 e2 zz2 HF))
  all_goals
    obtain ⟨W9, hW9⟩ : ∃ W, w9.setCell ⟨r, 2, none⟩ (.slice a2 n2 k2') = W := ⟨_, rfl⟩
    have HI9 : Hid (CmI w (fun b => T b ∨ b = x.heap.size) W0 r K L g base rs p (.slice a2 n2 k2') (vs ++ [.slice a5 n5 c5]) (base ++ rs ++ [d]) ((base.length + p : Nat) : Int) W9) := by rw [← hW9]; exact HF.out
    rw [hW9]
    clear HF hW9 e2 zz2 HC5 f2 f3 al2' ak2' c2 k2 z2
    obtain ⟨P3, hm3⟩ := HI9.out.mem
    have c1 := hm3.r1
    have k2 := HTx.out _ _ _ _ _ _ _ hm3 2 _ rfl
    have hBv : Below W9.heap.size W9 W9 := Below.refl _ _
    have HTk2 : Hid (base ++ rs = (base ++ rs ++ [d]).take (base ++ rs).length ∧ lays (base ++ rs ++ [d]) ≤ 1048576) := by
      refine ⟨by rw [List.take_left], ?_⟩
      have h1 : lays [d] = d.length + 2 := by simp [lays]
      have h2 := HB.out.2.2.2.2.2
      have h3 := HB.out.2.2.2.1
      rw [lays_app, h1]
      omega
    clear hm3
    rcases cm_append_ways (c := pc) HI9.out HB.out.1 HB.out.2.1 HB.out.2.2.1 HA.out.1 (by omega) (by omega) HB.out.2.2.2.1 with hway | hway
    · have HAp : Hid (∀ zw, Below W9.heap.size W9 zw → Calls Tryd.prog 10 #[.pointer (some ⟨L, 0, none⟩), .slice po pl pc] zw fun e w'' => e = .returned .nilIface ∧ Hid (CmI w (fun b => T b ∨ b = x.heap.size) W0 r K L g base (rs ++ [d]) p (.slice a2 n2 k2') (vs ++ [.slice a5 n5 c5]) (base ++ rs ++ [d]) ((base.length + p : Nat) : Int) w'') ∧ w''.cell? ⟨r, 1, none⟩ = some (.pointer (some ⟨L, 0, none⟩)) ∧ w''.cell? ⟨x.heap.size, 2, none⟩ = some (.slice po pl pc)) := fun zw hz => (hway zw hz).mono fun e w'' ⟨he, hi⟩ => by
        obtain ⟨P1, hm1⟩ := hi.mem
        exact ⟨he, hi, hm1.r1, HTx.out _ _ _ _ _ _ _ hm1 2 _ rfl⟩
      clear hway
      go_wp2_with fail
      go_region_held3 (fun zw => zw.cell? ⟨r, 1, none⟩ = some (.pointer (some ⟨L, 0, none⟩)) ∧ zw.cell? ⟨x.heap.size, 2, none⟩ = some (.slice po pl pc)) (simp [*]) (first | (go_at_call 10; refine (HAp.out _ ?_).mono ?_; (first | assumption | exact Below.drew (by assumption)); rintro e w2 ⟨rfl, HI2, q3, q4⟩))
      all_goals
        have HF : Hid (AcQ w T wt r K g (base ++ rs) (pl + 2) (.returned (.bool true)) w2) := by
          refine ⟨rfl, g, base, rs ++ [d], p, L, .slice a2 n2 k2', vs ++ [.slice a5 n5 c5], Nat.le_refl _, by omega, ?_, ?_⟩
          · have h1 : lays [d] = d.length + 2 := by simp [lays]
            have h2 := HB.out.2.2.2.2.2
            rw [← List.append_assoc, lays_app, h1]
            omega
          · rw [← List.append_assoc]
            exact HI2.out.kept HTk.out
        clear HI2
        go_wp2_with fail
        go_ret
        exact HF.out
    · have HAp : Hid (∀ zw, Below W9.heap.size W9 zw → Calls Tryd.prog 10 #[.pointer (some ⟨L, 0, none⟩), .slice po pl pc] zw fun e w'' => ∃ b, e = .returned (.iface 98 (.pointer (some ⟨b, 0, none⟩))) ∧ Hid (CmX w (fun b => T b ∨ b = x.heap.size) W0 r K g base rs p (.pointer (some ⟨L, 0, none⟩)) (.slice a2 n2 k2') (vs ++ [.slice a5 n5 c5]) (base ++ rs ++ [d]) ((base.length + p : Nat) : Int) true true w'') ∧ w''.cell? ⟨r, 1, none⟩ = some (.pointer (some ⟨L, 0, none⟩)) ∧ w''.cell? ⟨x.heap.size, 2, none⟩ = some (.slice po pl pc)) := fun zw hz => (hway zw hz).mono fun e w'' ⟨b, he, hx⟩ => by
        obtain ⟨P1, hm1⟩ := hx.mem
        exact ⟨b, he, hx, hm1.r1, HTx.out _ _ _ _ _ _ _ hm1 2 _ rfl⟩
      clear hway
      go_wp2_with fail
      go_region_held3 (fun zw => zw.cell? ⟨r, 1, none⟩ = some (.pointer (some ⟨L, 0, none⟩)) ∧ zw.cell? ⟨x.heap.size, 2, none⟩ = some (.slice po pl pc)) (simp [*]) (first | (go_at_call 10; refine (HAp.out _ ?_).mono ?_; (first | assumption | exact Below.drew (by assumption)); rintro e w2 ⟨b, rfl, HX2, q3, q4⟩))
      all_goals
        have hX := HX2.out
        have hpq : p ≤ p := Nat.le_refl _
        clear q3 q4 HX2
        obtain ⟨P1, hm1⟩ := hX.mem
        have c0 := hm1.r0
        have k3 := HTx.out _ _ _ _ _ _ _ hm1 3 _ rfl
        have k4 := HTx.out _ _ _ _ _ _ _ hm1 4 _ rfl
        have k5 := HTx.out _ _ _ _ _ _ _ hm1 5 _ rfl
        have k6 := HTx.out _ _ _ _ _ _ _ hm1 6 _ rfl
        have HAv : Hid (Calls Tryd.prog 19 #[.pointer (some ⟨K, 0, none⟩)] w2 fun e w' => e = .returned (.bool false) ∧ w' = w2) := hX.alive
        have HCr := HCx.out _ _ _ _ _ _ hX HTk2.out.1 HTk2.out.2 hpq
        have HC : Hid (Calls Tryd.prog 23 #[.pointer (some ⟨r, 0, none⟩), .agg #[.int .i64 tk0, .int .i64 tz0, .int .i64 tk1, .int .i64 tz1], .bool false] w2 (AcQ w T wt r K g (base ++ rs) (pl + 2))) := HCr
        clear hX hm1 HCr
        go_wp2_with fail
        refine HAv.out.mono ?_
        rintro e w3 ⟨rfl, rfl⟩
        go_wp2_with fail
        refine HC.out.mono ?_
        rintro e w4 ⟨rfl, hq⟩
        go_wp2_with fail
        go_ret
        exact ⟨rfl, hq⟩
end Go.Proofs.YtfkcnnjkflomkaaDoor
