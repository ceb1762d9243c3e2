/-
  put of a new message.
-/
import Derived.Test.YtkngafnfenmfeaaDoorOxPut
namespace Go.Proofs.YtkngafnfenmfeaaDoor
open Go.RowKit

theorem set_heap {w : World} {b : Nat} {cs : Array Value} {t : TypeId} (h : w.heap[b]? = some (.cells cs t (0, 0))) (o : Nat) (v : Value) : (w.setCell ⟨b, o, none⟩ v).heap[b]? = some (.cells (cs.set! o v) t (0, 0)) := by
  unfold World.setCell
  simp only [Array.getElem?_modify, h, Option.map_some, if_true, Array.set!_eq_setIfInBounds]
  rfl
set_option maxRecDepth 100000 in
set_option maxHeartbeats 2000000 in
theorem put_new {w : World} {kb : Nat} {v : Value} {ms : List Msg} (h : Kd w kb v ms) (m : Msg) (hf : fi m.ct ms = none) (h32 : ms.length < 32) : Calls Tryd.prog 45 #[.pointer (some ⟨kb, 0, none⟩), .agg #[.string m.ct, .slice m.tp m.tn m.tc, .bool m.e, .int .i64 m.a, .int .i64 m.p, .int .i64 m.nu, .bool m.nt, .int .i64 m.st, .int .i64 m.lf, .bool m.un]] w fun e w' => e = .returned (.tuple #[]) ∧ KdQ w kb v (putS m ms) w' := by
  have hput : putS m ms = ms ++ [m] := by unfold putS; rw [hf]
  have hfI : fiI m.ct ms = -1 := by unfold fiI; rw [hf]
  rw [hput]
  obtain ⟨a, c, rfl, _⟩ := h.2.1.isSlice
  have bv : Below w.heap.size w (w.alloc (.cells #[.string m.ct, .slice m.tp m.tn m.tc, .bool m.e, .int .i64 m.a, .int .i64 m.p, .int .i64 m.nu, .bool m.nt, .int .i64 m.st, .int .i64 m.lf, .bool m.un] 50)) := (Below.refl _ _).alloc (Nat.le_refl _) _
  have bx := Box.new w #[.string m.ct, .slice m.tp m.tn m.tc, .bool m.e, .int .i64 m.a, .int .i64 m.p, .int .i64 m.nu, .bool m.nt, .int .i64 m.st, .int .i64 m.lf, .bool m.un] 50
  have hkb := blk_lt h.1
  obtain ⟨n, hn⟩ : ∃ n, ms.length = n := ⟨_, rfl⟩
  have HN : Hid (ms.length = n) := hn
  have hn32 : n < 32 := by rw [← hn]; exact h32
  rw [hn] at h ⊢
  have HK : Hid (Kd w kb (.slice a n c) ms) := h
  clear h hput hf hn h32
  go_enter Tryd.func45, Tryd.ntmps45
  go_wp2_with fail
  obtain ⟨V, hV⟩ : ∃ V, w.alloc (.cells #[.string m.ct, .slice m.tp m.tn m.tc, .bool m.e, .int .i64 m.a, .int .i64 m.p, .int .i64 m.nu, .bool m.nt, .int .i64 m.st, .int .i64 m.lf, .bool m.un] 50) = V := ⟨_, rfl⟩
  rw [hV] at bx bv ⊢
  clear hV
  have HKV : Hid (Kd V kb (.slice a n c) ms) := HK.out.below bv
  have l0 := sub_box bx
  have l1 : ∀ x : Sub V, x.1.cell? ⟨kb, 0, none⟩ = some (.func (.func 31) #[] #[]) := fun x => hcell (HKV.out.below x.2).1 0
  have c1 := sub_of (V := V) (key_any m)
  have c2 : ∀ x : Sub V, Calls Tryd.prog 71 #[.pointer (some ⟨kb, 0, none⟩), .string m.ct] x.1 fun r x' => r = .returned (.int .i64 (-1)) ∧ ∃ y : Sub V, x' = y.1 := fun x => (place_any (HKV.out.below x.2) m.ct).mono fun _ x' ⟨h1, h2⟩ => ⟨by rw [h1, hfI], ⟨x', below_then x.2 h2⟩, rfl⟩
  have HV : Hid (Below w.heap.size w V) := bv
  have HX : Hid (Box V w.heap.size #[.string m.ct, .slice m.tp m.tn m.tc, .bool m.e, .int .i64 m.a, .int .i64 m.p, .int .i64 m.nu, .bool m.nt, .int .i64 m.st, .int .i64 m.lf, .bool m.un]) := bx
  haveI hne' : Nonempty (Sub V) := ⟨⟨V, Below.refl _ _⟩⟩
  clear bx bv hfI
  refine wp_region_class (V := V) (Below.refl _ _) (by kernel_rfl) (by kernel_rfl) ?_
  repeat (go_big_quiet_step ((first | (go_at_call 71; exact c2 _) | exact c1 _)))
  refine wpQuiet_nil ?_
  rintro wc ⟨xwc, rfl⟩
  obtain ⟨W1, hW1⟩ : ∃ W, xwc.1 = W := ⟨_, rfl⟩
  have HB1 : Hid (Below w.heap.size w W1) := by have := below_then HV.out xwc.2; rw [hW1] at this; exact this
  have HK1 : Hid (Kd W1 kb (.slice a n c) ms) := by have := HKV.out.below xwc.2; rw [hW1] at this; exact this
  have hx1 : Box W1 w.heap.size #[.string m.ct, .slice m.tp m.tn m.tc, .bool m.e, .int .i64 m.a, .int .i64 m.p, .int .i64 m.nu, .bool m.nt, .int .i64 m.st, .int .i64 m.lf, .bool m.un] := by have := HX.out.below xwc.2; rw [hW1] at this; exact this
  rw [hW1]
  clear l0 l1 c1 c2 hne' hW1 xwc HX HV HKV HK
  have k1 := hcell HK1.out.1 1
  have kx := hx1.cell
  obtain ⟨a2, c2, W2, hap, r2, o2, b2⟩ := run_epush (P := Tryd.prog) (t := 29) Tryd.underlying29 celS encM_len encM_one (w := W1.drew) (HK1.out.2.1.off (P := fun _ => False) (Off.refl _ _).drew (fun _ _ => id)) m #[.string m.ct, .slice m.tp m.tn m.tc, .bool m.e, .int .i64 m.a, .int .i64 m.p, .int .i64 m.nu, .bool m.nt, .int .i64 m.st, .int .i64 m.lf, .bool m.un] rfl (by rw [HN.out]; omega) (by omega) (Nat.zero_le _)
  rw [HN.out] at hap r2 b2
  have hap' : (Builtin.append_ #[29, 29] 29 #[.slice a n c, .slice (some ⟨W1.heap.size, 0, none⟩) 1 1]).run Tryd.prog (W1.alloc (.cells #[.string m.ct, .slice m.tp m.tn m.tc, .bool m.e, .int .i64 m.a, .int .i64 m.p, .int .i64 m.nu, .bool m.nt, .int .i64 m.st, .int .i64 m.lf, .bool m.un] 50)).drew = .ok (.slice a2 (n + 1) c2) W2 := hap
  have o3 : Off (fun q => (Value.slice a n c).ownBlock = some q) W1 W2 := ((Off.refl _ _).drew).trans o2
  have hkn : ¬ (Value.slice a n c).ownBlock = some kb := fun e => HK1.out.ne e rfl
  have hk2 : W2.heap[kb]? = some (.cells #[.func (.func 31) #[] #[], .slice a n c] 101 (0, 0)) := (o3.block kb (blk_lt HK1.out.1) hkn).trans HK1.out.1
  have e1 := hcell hk2 1
  have f1 := hfroz hk2 1
  have HZ : Hid (KdQ w kb (.slice a n c) (ms ++ [m]) (W2.setCell ⟨kb, 1, none⟩ (.slice a2 (n + 1) c2))) := by
    have o4 : Off (fun q => q = kb ∨ (Value.slice a n c).ownBlock = some q) W1 (W2.setCell ⟨kb, 1, none⟩ (.slice a2 (n + 1) c2)) := Off.setCell (P := fun q => q = kb ∨ (Value.slice a n c).ownBlock = some q) (o3.mono fun q e => Or.inr e) (p := ⟨kb, 1, none⟩) (Or.inl rfl) _
    have hkk : (W2.setCell ⟨kb, 1, none⟩ (.slice a2 (n + 1) c2)).heap[kb]? = some (.cells #[.func (.func 31) #[] #[], .slice a2 (n + 1) c2] 101 (0, 0)) := set_heap hk2 1 _
    have hg2 : ∀ q, (Value.slice a2 (n + 1) c2).ownBlock = some q → q ≠ kb := fun q e => by
      rcases b2 with b2 | b2
      · rw [b2] at e; exact HK1.out.ne e
      · rw [b2] at e
        have : W1.heap.size + 1 = q := by simpa using e
        have := blk_lt HK1.out.1
        omega
    refine KdQ.of_below HB1.out ⟨.slice a2 (n + 1) c2, ⟨hkk, ?_, by simp [HN.out]; omega⟩, o4, fun q e => ?_⟩
    · exact ERow.keep r2 fun q e => Below.heap_setCell _ _ _ q fun e' => hg2 q e e'
    · rcases b2 with b2 | b2
      · rw [b2] at e; exact Or.inl e
      · rw [b2] at e
        have : W1.heap.size + 1 = q := by simpa using e
        exact Or.inr (by omega)
  have k1' : ∀ o, (W1.alloc o).cell? ⟨kb, 1, none⟩ = some (.slice a n c) := fun o => by rw [World.cell?_alloc_lt _ _ ⟨kb, 1, none⟩ (blk_lt HK1.out.1)]; exact k1
  have kx' : ∀ o q, (W1.alloc o).cell? ⟨w.heap.size, q, none⟩ = (#[.string m.ct, .slice m.tp m.tn m.tc, .bool m.e, .int .i64 m.a, .int .i64 m.p, .int .i64 m.nu, .bool m.nt, .int .i64 m.st, .int .i64 m.lf, .bool m.un] : Array Value)[q]? := fun o q => by rw [World.cell?_alloc_lt _ _ ⟨w.heap.size, q, none⟩ hx1.lt]; exact kx q
  clear hap r2 o2 b2 o3 hk2 hkn
  go_wp2_with fail
  go_region_law (first | (refine step_app_run rfl (.tmp 26) (.tmp 28) 29 rfl rfl rfl hap' ?_))
  all_goals
    go_wp2_with fail
    go_end0
    exact ⟨rfl, HZ.out⟩
end Go.Proofs.YtkngafnfenmfeaaDoor
