import Derived.Test.YtoijhecphgdfnaaDoorOxPut
import Derived.ArgAppend
import Derived.Lib.SliceRun
/-
  put of a new message.
-/
namespace Go.Proofs.YtoijhecphgdfnaaDoor
open Go.RowKit

theorem set_heap {w : World} {b : Nat} {cs : Array Value} {t : TypeId} (h : w.heap[b]? = some (.cells cs t (0, 0))) (o : Nat) (v : Value) : (w.setCell ⟨b, o, none⟩ v).heap[b]? = some (.cells (cs.set! o v) t (0, 0)) := by
  unfold World.setCell
  simp only [Array.getElem?_modify, h, Option.map_some, if_true, Array.set!_eq_setIfInBounds]
  rfl
set_option maxRecDepth 100000 in
set_option maxHeartbeats 2000000 in
theorem put_new {w : World} {kb : Nat} {v : Value} {ms : List Msg} (h : Kd w kb v ms) (m : Msg) (hf : fi m.ct ms = none) (h32 : ms.length < 32) : Calls Tryd.prog 48 #[.pointer (some ⟨kb, 0, none⟩), .agg #[.string m.ct, .slice m.tp m.tn m.tc, .bool m.e, .int .i64 m.a, .int .i64 m.p, .int .i64 m.nu, .bool m.nt, .int .i64 m.st, .int .i64 m.lf, .bool m.un]] w fun e w' => e = .returned (.tuple #[]) ∧ KdQ w kb v (putS m ms) w' := by
  have hput : putS m ms = ms ++ [m] := by unfold putS; rw [hf]
  have hfI : fiI m.ct ms = -1 := by unfold fiI; rw [hf]
  rw [hput]
  obtain ⟨a, c, rfl, _⟩ := h.2.1.isSlice
  have bv : Below w.heap.size w (w.alloc (.cells #[.string m.ct, .slice m.tp m.tn m.tc, .bool m.e, .int .i64 m.a, .int .i64 m.p, .int .i64 m.nu, .bool m.nt, .int .i64 m.st, .int .i64 m.lf, .bool m.un] 74)) := (Below.refl _ _).alloc (Nat.le_refl _) _
  have bx := Box.new w #[.string m.ct, .slice m.tp m.tn m.tc, .bool m.e, .int .i64 m.a, .int .i64 m.p, .int .i64 m.nu, .bool m.nt, .int .i64 m.st, .int .i64 m.lf, .bool m.un] 74
  have hkb := blk_lt h.1
  obtain ⟨n, hn⟩ : ∃ n, ms.length = n := ⟨_, rfl⟩
  have HN : Hid (ms.length = n) := hn
  have hn32 : n < 32 := by rw [← hn]; exact h32
  rw [hn] at h ⊢
  have HK : Hid (Kd w kb (.slice a n c) ms) := h
  clear h hput hf hn h32
  go_enter Tryd.func48, Tryd.ntmps48
  go_wp2_with fail
  obtain ⟨V, hV⟩ : ∃ V, w.alloc (.cells #[.string m.ct, .slice m.tp m.tn m.tc, .bool m.e, .int .i64 m.a, .int .i64 m.p, .int .i64 m.nu, .bool m.nt, .int .i64 m.st, .int .i64 m.lf, .bool m.un] 74) = V := ⟨_, rfl⟩
  rw [hV] at bx bv ⊢
  clear hV
  have HKV : Hid (Kd V kb (.slice a n c) ms) := HK.out.below bv
  have l0 := sub_box bx
  have l1 : ∀ x : Sub V, x.1.cell? ⟨kb, 0, none⟩ = some (.func (.func 23) #[] #[]) := fun x => hcell (HKV.out.below x.2).1 0
  have c1 := sub_of (V := V) (key_any m)
  have c2 : ∀ x : Sub V, Calls Tryd.prog 53 #[.pointer (some ⟨kb, 0, none⟩), .string m.ct] x.1 fun r x' => r = .returned (.int .i64 (-1)) ∧ ∃ y : Sub V, x' = y.1 := fun x => (place_any (HKV.out.below x.2) m.ct).mono fun _ x' ⟨h1, h2⟩ => ⟨by rw [h1, hfI], ⟨x', below_then x.2 h2⟩, rfl⟩
  have HV : Hid (Below w.heap.size w V) := bv
  have HX : Hid (Box V w.heap.size #[.string m.ct, .slice m.tp m.tn m.tc, .bool m.e, .int .i64 m.a, .int .i64 m.p, .int .i64 m.nu, .bool m.nt, .int .i64 m.st, .int .i64 m.lf, .bool m.un]) := bx
  haveI hne' : Nonempty (Sub V) := ⟨⟨V, Below.refl _ _⟩⟩
  clear bx bv hfI
  refine wp_region_class (V := V) (Below.refl _ _) (by kernel_rfl) (by kernel_rfl) ?_
  repeat (go_big_quiet_step ((first | (go_at_call 53; exact c2 _) | exact c1 _)))
  refine wpQuiet_nil ?_
  rintro wc ⟨xwc, rfl⟩
  obtain ⟨W1, hW1⟩ : ∃ W, xwc.1 = W := ⟨_, rfl⟩
  have HB1 : Hid (Below w.heap.size w W1) := by have := below_then HV.out xwc.2; rw [hW1] at this; exact this
  have HK1 : Hid (Kd W1 kb (.slice a n c) ms) := by have := HKV.out.below xwc.2; rw [hW1] at this; exact this
  have hx1 : Box W1 w.heap.size #[.string m.ct, .slice m.tp m.tn m.tc, .bool m.e, .int .i64 m.a, .int .i64 m.p, .int .i64 m.nu, .bool m.nt, .int .i64 m.st, .int .i64 m.lf, .bool m.un] := by have := HX.out.below xwc.2; rw [hW1] at this; exact this
  rw [hW1]
  clear l0 l1 c1 c2 hne' hW1 xwc HX HV HKV HK
  have k1 := hcell HK1.out.1 1
  have kx := hx1.cell
  obtain ⟨a2, c2, W2, hap, r2, o2, b2⟩ := run_epush (P := Tryd.prog) (t := 60) Tryd.underlying60 celS encM_len encM_one (w := W1.drew) (HK1.out.2.1.off (P := fun _ => False) (Off.refl _ _).drew (fun _ _ => id)) m #[.string m.ct, .slice m.tp m.tn m.tc, .bool m.e, .int .i64 m.a, .int .i64 m.p, .int .i64 m.nu, .bool m.nt, .int .i64 m.st, .int .i64 m.lf, .bool m.un] rfl (by rw [HN.out]; omega) (by omega) (Nat.zero_le _)
  rw [HN.out] at hap r2 b2
  have hap' : (Builtin.append_ #[60, 60] 60 #[.slice a n c, .slice (some ⟨W1.heap.size, 0, none⟩) 1 1]).run Tryd.prog (W1.alloc (.cells #[.string m.ct, .slice m.tp m.tn m.tc, .bool m.e, .int .i64 m.a, .int .i64 m.p, .int .i64 m.nu, .bool m.nt, .int .i64 m.st, .int .i64 m.lf, .bool m.un] 74)).drew = .ok (.slice a2 (n + 1) c2) W2 := hap
  have o3 : Off (fun q => (Value.slice a n c).ownBlock = some q) W1 W2 := ((Off.refl _ _).drew).trans o2
  have hkn : ¬ (Value.slice a n c).ownBlock = some kb := fun e => HK1.out.ne e rfl
  have hk2 : W2.heap[kb]? = some (.cells #[.func (.func 23) #[] #[], .slice a n c] 80 (0, 0)) := (o3.block kb (blk_lt HK1.out.1) hkn).trans HK1.out.1
  have e1 := hcell hk2 1
  have f1 := hfroz hk2 1
  have HZ : Hid (KdQ w kb (.slice a n c) (ms ++ [m]) (W2.setCell ⟨kb, 1, none⟩ (.slice a2 (n + 1) c2))) := by
    have o4 : Off (fun q => q = kb ∨ (Value.slice a n c).ownBlock = some q) W1 (W2.setCell ⟨kb, 1, none⟩ (.slice a2 (n + 1) c2)) := Off.setCell (P := fun q => q = kb ∨ (Value.slice a n c).ownBlock = some q) (o3.mono fun q e => Or.inr e) (p := ⟨kb, 1, none⟩) (Or.inl rfl) _
    have hkk : (W2.setCell ⟨kb, 1, none⟩ (.slice a2 (n + 1) c2)).heap[kb]? = some (.cells #[.func (.func 23) #[] #[], .slice a2 (n + 1) c2] 80 (0, 0)) := set_heap hk2 1 _
    have hg2 : ∀ q, (Value.slice a2 (n + 1) c2).ownBlock = some q → q ≠ kb := fun q e => by
      rcases b2 with b2 | b2
      · rw [b2] at e; exact HK1.out.ne e
      · rw [b2] at e
        have : W1.heap.size + 1 = q := by simpa using e
        have := blk_lt HK1.out.1
        omega
    refine KdQ.of_below HB1.out ⟨.slice a2 (n + 1) c2, ⟨hkk, ?_, by simp [HN.out]; omega⟩, o4, fun q e => ?_⟩
    · exact ERow.keep r2 fun q e => Below.heap_setCell _ _ _ q fun e' => hg2 q e e'
    · rcases b2 with b2 | b2
      · rw [b2] at e; exact Or.inl e
      · rw [b2] at e
        have : W1.heap.size + 1 = q := by simpa using e
        exact Or.inr (by omega)
  have k1' : ∀ o, (W1.alloc o).cell? ⟨kb, 1, none⟩ = some (.slice a n c) := fun o => by rw [World.cell?_alloc_lt _ _ ⟨kb, 1, none⟩ (blk_lt HK1.out.1)]; exact k1
  have kx' : ∀ o q, (W1.alloc o).cell? ⟨w.heap.size, q, none⟩ = (#[.string m.ct, .slice m.tp m.tn m.tc, .bool m.e, .int .i64 m.a, .int .i64 m.p, .int .i64 m.nu, .bool m.nt, .int .i64 m.st, .int .i64 m.lf, .bool m.un] : Array Value)[q]? := fun o q => by rw [World.cell?_alloc_lt _ _ ⟨w.heap.size, q, none⟩ hx1.lt]; exact kx q
  clear hap r2 o2 b2 o3 hk2 hkn
  go_wp2_with fail
  go_region_law (first | (refine step_app_run rfl (.tmp 26) (.tmp 28) 60 rfl rfl rfl hap' ?_))
  all_goals
    go_wp2_with fail
    go_end0
    exact ⟨rfl, HZ.out⟩
end Go.Proofs.YtoijhecphgdfnaaDoor

/-
  remove: slices.Delete of one message.
-/
namespace Go.Proofs.YtoijhecphgdfnaaDoor
open Go.RowKit

theorem wpList_clear_run {P : Program} {w w' : World} {ops : Array Oper} {rest : List Oper} {o : Oper} {a : Act} {Q : Exit → Act → World → Prop} (hgd : o.guard = none) (s : Operand) (t : TypeId) (v' : Value)
    (ho : o.op = .call { callee := .builtin .clear, args := #[s], argTypes := #[t] }) (hr : (Builtin.clear_ #[t] o.type #[a.eval s]).run P w = .ok v' w') (h : wpList P ops Q rest (a.put o.dst v') w') : wpList P ops Q (o :: rest) a w :=
  wpList_plain hgd fun _ hK => by
    unfold Oper.wp execOp
    simp only [ho, resolve, invoke, builtin, Sem.run_bind, Sem.run_pure, Result.andThen_ok, List.map_toArray, List.map_cons, List.map_nil, hr]
    exact hK _ _ h
theorem run_clear_one {P : Program} (w : World) (t e ty : TypeId) (z : Value) (ht : P.underlying t = some (.slice e)) (hv : ∀ w, (zeroValue e).run P w = .ok z w) (zs : List Value) (hz : (Builtin.zeroCells z.cells 1).toList = zs) (h1 : ∀ v ∈ zs, v.oneCell' = true) (b o c : Nat) (hc : w.there b o zs.length) :
    (Builtin.clear_ #[t] ty #[.slice (some ⟨b, o, none⟩) 1 c]).run P w = .ok (.tuple #[]) (w.setCells b o zs) := by
  have hst := run_storeCells_cells (P := P) b o zs 0 w (fun j hj => by simpa using (hc j hj).1) (fun j hj => by simpa using (hc j hj).2) h1
  simp only [Nat.add_zero] at hst
  simp [Builtin.clear_, run_underlying ht, hv, hz, hst]
theorem setAll_take : ∀ (vs xs : List Value) (o k : Nat), k ≤ o → (setAll xs o vs).take k = xs.take k
  | [], _, _, _, _ => rfl
  | v :: r, xs, o, k, h => by
    rw [setAll, setAll_take r _ (o + 1) k (by omega), List.take_set, List.set_eq_of_length_le (by simp; omega)]
theorem erase_flat {ms : List Msg} {i : Nat} (hi : i < ms.length) : (setAll (ms.flatMap encM) (i * 10) ((ms.drop (i + 1)).flatMap encM)).take ((ms.length - 1) * 10) = (ms.eraseIdx i).flatMap encM := by
  have e1 : ms.flatMap encM = (ms.take i).flatMap encM ++ (encM ms[i] ++ (ms.drop (i + 1)).flatMap encM) := by
    rw [← List.flatMap_cons, ← List.flatMap_append]
    congr 1
    rw [List.getElem_cons_drop, List.take_append_drop]
  have l1 : ((ms.take i).flatMap encM).length = i * 10 := by rw [flat_len encM_len]; simp; omega
  have l2 : ((ms.drop (i + 1)).flatMap encM).length = (ms.length - (i + 1)) * 10 := by rw [flat_len encM_len]; simp
  generalize hr : encM ms[i] ++ (ms.drop (i + 1)).flatMap encM = R at e1
  have lR : R.length = 10 + (ms.length - (i + 1)) * 10 := by rw [← hr, List.length_append, l2, encM_len]
  have e2 : R = R.take ((ms.length - (i + 1)) * 10) ++ R.drop ((ms.length - (i + 1)) * 10) := (List.take_append_drop _ _).symm
  rw [e1, e2, ← l1, setAll_pre _ _ _ _ (by rw [l2, List.length_take, lR]; omega), List.eraseIdx_eq_take_drop_succ, List.flatMap_append, ← List.append_assoc]
  refine List.take_left' ?_
  rw [List.length_append, l1, l2]
  omega
theorem own_prefix {w : World} {B n m cap g : Nat} {e : TypeId} {sz : Nat} {xs : List Value} (h : w.ownsRow B e sz (.slice (some ⟨g, 0, none⟩) n cap) n xs) (hm : m ≤ n) : w.ownsRow B e sz (.slice (some ⟨g, 0, none⟩) m cap) m (xs.take (m * sz)) := by
  rcases h.2 with ⟨h0, _⟩ | ⟨g', cap', cur, e1, hB, hg, hc, hM, hs, ht⟩
  · cases h0
  · simp only [Value.slice.injEq, Option.some.injEq, Addr.mk.injEq, and_true] at e1
    obtain ⟨rfl, _, rfl⟩ := e1
    have hms : m * sz ≤ n * sz := Nat.mul_le_mul_right _ hm
    refine ⟨by rw [List.length_take, h.1]; omega, Or.inr ⟨g, cap, cur, rfl, hB, hg, by omega, hM, hs, ?_⟩⟩
    rw [← ht, List.take_take]
    congr 1
    omega
def zS : List Value := [.string ⟨#[]⟩, .slice none 0 0, .bool false, .int .i64 0, .int .i64 0, .int .i64 0, .bool false, .int .i64 0, .int .i64 0, .bool false]
theorem zS_one : ∀ v ∈ zS, v.oneCell' = true := fun u hu => by
  simp only [zS, List.mem_cons, List.not_mem_nil, or_false] at hu
  rcases hu with rfl | rfl | rfl | rfl | rfl | rfl | rfl | rfl | rfl | rfl <;> rfl
theorem zeroS : (Builtin.zeroCells (Value.agg zS.toArray).cells 1).toList = zS := by kernel_rfl
theorem own_there {w : World} {B n cap g : Nat} {e : TypeId} {sz : Nat} {xs : List Value} (h : w.ownsRow B e sz (.slice (some ⟨g, 0, none⟩) n cap) n xs) {o k : Nat} (hk : o + k ≤ n * sz) : w.there g o k := fun j hj => by
  refine ⟨?_, ?_⟩
  · have hcl := World.ownsRow.cells h (g := g) rfl
    have hl := h.1
    have := hcl (o + j) _ (List.getElem?_eq_getElem (by rw [hl]; omega))
    rw [Addr.add_lit, Nat.zero_add] at this
    rw [this]; rfl
  · rcases h.2 with ⟨h0, _⟩ | ⟨g', cap', cur, e1, hB, hg, _⟩
    · cases h0
    · simp only [Value.slice.injEq, Option.some.injEq, Addr.mk.injEq, and_true] at e1
      obtain ⟨rfl, _, _⟩ := e1
      simp [World.frozen?, hg]
/-- What the append and the clear of Delete do. -/
theorem del_runs {w : World} {g k c i : Nat} {ms : List Msg} (h : ERow w 0 74 10 encM (.slice (some ⟨g, 0, none⟩) (k + 1) c) ms) (hi : i ≤ k) (a' : Addr) (ha : i < k → a' = ⟨g, (i + 1) * 10, none⟩) :
    ∃ w1 w2, (∀ cc, (Builtin.append_ #[60, 60] 60 #[.slice (some ⟨g, 0, none⟩) i c, .slice (some a') (k - i) cc]).run Tryd.prog w.drew = .ok (.slice (some ⟨g, 0, none⟩) k c) w1) ∧
      (∀ cc, (Builtin.clear_ #[60] 0 #[.slice (some ⟨g, k * 10, none⟩) 1 cc]).run Tryd.prog w1 = .ok (.tuple #[]) w2) ∧ ERow w2 0 74 10 encM (.slice (some ⟨g, 0, none⟩) k c) (ms.eraseIdx i) ∧ Off (fun q => q = g) w w2 := by
  obtain ⟨inf, z, hinf, hz, hzs, hs, hby⟩ := celS
  have hlen : ms.length = k + 1 := h.len.symm
  have hd : w.drew.ownsRow 0 74 10 (.slice (some ⟨g, 0, none⟩) (k + 1) c) (k + 1) (ms.flatMap encM) := by
    have := h.off (P := fun _ => False) (Off.refl _ _).drew (fun _ _ => id)
    unfold ERow at this; rw [hlen] at this; exact this
  have hc : k + 1 ≤ c := by
    rcases h.form with ⟨e, _⟩ | ⟨g', cap, e, _, _, h1, _⟩
    · cases e
    · simp only [Value.slice.injEq] at e; omega
  have hl : ((ms.drop (i + 1)).flatMap encM).length = (k - i) * 10 := by rw [flat_len encM_len, List.length_drop, hlen, show k + 1 - (i + 1) = k - i by omega]
  have o1 := own_setCells (g := g) ((ms.drop (i + 1)).flatMap encM) (i * 10) w.drew _ hd
  have o2 := own_setCells (g := g) zS (k * 10) _ _ o1
  refine ⟨w.drew.setCells g (i * 10) ((ms.drop (i + 1)).flatMap encM), (w.drew.setCells g (i * 10) ((ms.drop (i + 1)).flatMap encM)).setCells g (k * 10) zS, fun cc => ?_, fun cc => ?_, ?_, ?_⟩
  · have hr := run_append_room_cells (P := Tryd.prog) w.drew 60 60 74 inf Tryd.underlying60 hinf g 0 i c a' (k - i) cc ((ms.drop (i + 1)).flatMap encM) (by rw [hs]; exact hl) (fun j u hu => by
      have hj := (List.getElem?_eq_some_iff.1 hu).1
      rw [hl] at hj
      have hik : i < k := by omega
      rw [ha hik, Addr.add_lit]
      have e1 : ms.flatMap encM = (ms.take (i + 1)).flatMap encM ++ (ms.drop (i + 1)).flatMap encM := by rw [← List.flatMap_append, List.take_append_drop]
      have l1 : ((ms.take (i + 1)).flatMap encM).length = (i + 1) * 10 := by rw [flat_len encM_len, List.length_take, hlen, show min (i + 1) (k + 1) = i + 1 by omega]
      have hcl := World.ownsRow.cells hd (g := g) rfl ((i + 1) * 10 + j) u (by rw [e1, List.getElem?_append_right (by omega), l1, Nat.add_sub_cancel_left]; exact hu)
      rwa [Addr.add_lit, Nat.zero_add] at hcl) (fun u hu => by
      obtain ⟨x, _, hx⟩ := List.mem_flatMap.1 hu
      exact encM_one x u hx) (by omega) (fun j hj => by
      rw [hl] at hj
      rw [hs, Nat.zero_add]
      exact (own_there hd (o := i * 10) (k := (k - i) * 10) (by omega) j hj).1) (fun j hj => by
      rw [hl] at hj
      rw [hs, Nat.zero_add]
      exact (own_there hd (o := i * 10) (k := (k - i) * 10) (by omega) j hj).2)
    rw [hs, Nat.zero_add, show i + (k - i) = k by omega] at hr
    exact hr
  · exact run_clear_one _ _ _ _ (.agg zS.toArray) Tryd.underlying60 Tryd.zeroValue74 zS zeroS zS_one g (k * 10) cc (own_there o1 (by show k * 10 + 10 ≤ (k + 1) * 10; omega))
  · have o3 := own_prefix o2 (m := k) (by omega)
    rw [setAll_take _ _ _ _ (Nat.le_refl _)] at o3
    have he := erase_flat (ms := ms) (i := i) (by omega)
    rw [hlen, Nat.add_sub_cancel] at he
    rw [he] at o3
    unfold ERow
    rw [List.length_eraseIdx, hlen, if_pos (by omega), Nat.add_sub_cancel]
    exact o3
  · exact Off.setCells (P := fun q => q = g) rfl _ _ _ (Off.setCells (P := fun q => q = g) rfl _ _ _ ((Off.refl _ _).drew))
end Go.Proofs.YtoijhecphgdfnaaDoor
