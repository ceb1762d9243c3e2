/-
  put of the box's list.
-/
import Derived.Test.YtoijhecphgdfnaaDoorOxPlace
import Derived.Deep.RegionLaw
namespace Go.Proofs.YtoijhecphgdfnaaDoor
open Go.RowKit

section
variable {P : Program} {w w' : World} {ops : Array Oper} {o : Oper} {a : Act} {K : Act → World → Prop} {Q : Exit → Act → World → Prop} {E : Prop}
theorem step_app_run (hgd : o.guard = none) (s x : Operand) (t : TypeId) (ho : o.op = Op.call { callee := Callee.builtin Builtin.append, args := #[s, x], argTypes := #[t, t] }) {sv xv r : Value} (hs : a.eval s = sv) (hx : a.eval x = xv) (hr : (Builtin.append_ #[t, t] o.type #[sv, xv]).run P w = .ok r w') (h : K (a.put o.dst r) w') :
    if Region.wanted o (yielded ops a.tmps) = true then Oper.wp P o a w K Q else E := by
  have hw : Region.wanted o (yielded ops a.tmps) = true := by simp [Region.wanted, hgd]
  rw [if_pos hw]
  unfold Oper.wp execOp
  simp only [ho, resolve, invoke, builtin, Sem.run_bind, Sem.run_pure, Result.andThen_ok, List.map_toArray, List.map_cons, List.map_nil, hs, hx, hr]
  exact h
theorem step_store_mid (hgd : o.guard = none) (ty : TypeId) (x y : Operand) (ho : o.op = .store ty x y) {b of : Nat} {cells : Array Value} (hx : a.eval x = .pointer (some ⟨b, of, none⟩)) (hy : a.eval y = .agg cells)
    (ht : w.there b of cells.size) (hi : (P.info? ty).map (·.size) = some cells.size) (h1 : cells.all (·.oneCell') = true) (h : K (a.put o.dst undef) (w.setCells b of cells.toList)) :
    if Region.wanted o (yielded ops a.tmps) = true then Oper.wp P o a w K Q else E := by
  have hw : Region.wanted o (yielded ops a.tmps) = true := by simp [Region.wanted, hgd]
  rw [if_pos hw]
  exact wp_store_mid ty x y ho b of cells hx hy ht hi h1 h
end
def setAll (xs : List Value) (o : Nat) : List Value → List Value
  | [] => xs
  | v :: r => setAll (xs.set o v) (o + 1) r
theorem setAll_len : ∀ (vs xs : List Value) (o : Nat), (setAll xs o vs).length = xs.length
  | [], _, _ => rfl
  | v :: r, xs, o => by rw [setAll, setAll_len r]; simp
theorem setAll_app : ∀ (vs ys xs : List Value) (o : Nat), setAll (ys ++ xs) (ys.length + o) vs = ys ++ setAll xs o vs
  | [], _, _, _ => rfl
  | v :: r, ys, xs, o => by
    rw [setAll, setAll, List.set_append_right _ _ (by omega), show ys.length + o - ys.length = o by omega, Nat.add_assoc]
    exact setAll_app r ys (xs.set o v) (o + 1)
theorem setAll_pre : ∀ (vs ys xs pre : List Value), ys.length = vs.length → setAll (pre ++ (ys ++ xs)) pre.length vs = pre ++ (vs ++ xs)
  | [], ys, xs, pre, h => by rw [List.eq_nil_of_length_eq_zero h]; rfl
  | v :: r, y :: ys, xs, pre, h => by
    rw [setAll, List.set_append_right _ _ (Nat.le_refl _), Nat.sub_self, List.cons_append, List.set_cons_zero]
    have := setAll_pre r ys xs (pre ++ [v]) (by simpa using h)
    simpa using this
theorem flat_set : ∀ (ms : List Msg) (i : Nat) (m : Msg), i < ms.length → setAll (ms.flatMap encM) (i * 10) (encM m) = (ms.set i m).flatMap encM
  | [], i, m, h => by simp at h
  | y :: r, 0, m, _ => by
    rw [List.flatMap_cons, List.set_cons_zero, List.flatMap_cons, Nat.zero_mul]
    have := setAll_pre (encM m) (encM y) (r.flatMap encM) [] rfl
    simpa using this
  | y :: r, i + 1, m, h => by
    rw [List.flatMap_cons, List.set_cons_succ, List.flatMap_cons, show (i + 1) * 10 = (encM y).length + i * 10 by rw [encM_len]; omega, setAll_app, flat_set r i m (by simpa using h)]
theorem own_setCells {B n cap g : Nat} {e : TypeId} {sz : Nat} : ∀ (vs : List Value) (o : Nat) (w : World) (xs : List Value), w.ownsRow B e sz (.slice (some ⟨g, 0, none⟩) n cap) n xs → (w.setCells g o vs).ownsRow B e sz (.slice (some ⟨g, 0, none⟩) n cap) n (setAll xs o vs)
  | [], _, _, _, h => h
  | v :: r, o, _, _, h => own_setCells r (o + 1) _ _ (World.ownsRow.stored h o v).1
theorem Off.setCells {P : Nat → Prop} {a : World} {g : Nat} (hp : P g) : ∀ (vs : List Value) (o : Nat) (b : World), Off P a b → Off P a (b.setCells g o vs)
  | [], _, _, h => h
  | v :: r, o, _, h => Off.setCells hp r (o + 1) _ (h.setCell (p := ⟨g, o, none⟩) hp v)
theorem erow_set {w : World} {B n cap g i : Nat} {ms : List Msg} (h : ERow w B 74 10 encM (.slice (some ⟨g, 0, none⟩) n cap) ms) (m : Msg) (hi : i < ms.length) : ERow (w.setCells g (i * 10) (encM m)) B 74 10 encM (.slice (some ⟨g, 0, none⟩) n cap) (ms.set i m) := by
  have hn : n = ms.length := h.len
  subst hn
  have := own_setCells (encM m) (i * 10) w _ h
  unfold ERow
  rw [← flat_set ms i m hi, List.length_set]
  exact this
theorem celS : Cel Tryd.prog 74 10 104 := cel_of (by kernel_rfl)
/-- What put and remove leave of the list. -/
def KdQ (w : World) (kb : Nat) (v : Value) (ms' : List Msg) (w' : World) : Prop :=
  ∃ v', Kd w' kb v' ms' ∧ Off (fun q => q = kb ∨ v.ownBlock = some q) w w' ∧ ∀ q, v'.ownBlock = some q → v.ownBlock = some q ∨ w.heap.size ≤ q
theorem Kd.ne {w : World} {kb : Nat} {v : Value} {ms : List Msg} (h : Kd w kb v ms) {g : Nat} (hg : v.ownBlock = some g) : g ≠ kb := fun e => by
  rcases h.2.1.2 with ⟨rfl, _⟩ | ⟨g', cap, cur, rfl, _, hb, _⟩
  · cases hg
  · simp only [Value.ownBlock, Option.some.injEq] at hg
    subst hg; subst e
    rw [h.1] at hb
    simp at hb
theorem KdQ.of_below {w w1 w' : World} {kb : Nat} {v : Value} {ms' : List Msg} (hb : Below w.heap.size w w1) (h : KdQ w1 kb v ms' w') : KdQ w kb v ms' w' := by
  obtain ⟨v', h1, h2, h3⟩ := h
  exact ⟨v', h1, (Off.of_below hb).trans h2, fun q e => (h3 q e).imp id fun g => Nat.le_trans hb.size g⟩
set_option maxRecDepth 100000 in
set_option maxHeartbeats 2000000 in
theorem put_at {w : World} {kb i : Nat} {v : Value} {ms : List Msg} (h : Kd w kb v ms) (m : Msg) (hf : fi m.ct ms = some i) : Calls Tryd.prog 48 #[.pointer (some ⟨kb, 0, none⟩), .agg #[.string m.ct, .slice m.tp m.tn m.tc, .bool m.e, .int .i64 m.a, .int .i64 m.p, .int .i64 m.nu, .bool m.nt, .int .i64 m.st, .int .i64 m.lf, .bool m.un]] w fun e w' => e = .returned (.tuple #[]) ∧ KdQ w kb v (putS m ms) w' := by
  have hput : putS m ms = ms.set i m := by unfold putS; rw [hf]
  have hfI : fiI m.ct ms = i := by unfold fiI; rw [hf]
  rw [hput]
  obtain ⟨m0, hm0, _⟩ := fi_some hf
  have hil := (List.getElem?_eq_some_iff.1 hm0).1
  obtain ⟨a, c, rfl, _⟩ := h.2.1.isSlice
  obtain ⟨g, rfl, hg, _⟩ := erow_cells h.2.1 hm0
  have hne := h.ne (g := g) rfl
  have bv : Below w.heap.size w (w.alloc (.cells #[.string m.ct, .slice m.tp m.tn m.tc, .bool m.e, .int .i64 m.a, .int .i64 m.p, .int .i64 m.nu, .bool m.nt, .int .i64 m.st, .int .i64 m.lf, .bool m.un] 74)) := (Below.refl _ _).alloc (Nat.le_refl _) _
  have bx := Box.new w #[.string m.ct, .slice m.tp m.tn m.tc, .bool m.e, .int .i64 m.a, .int .i64 m.p, .int .i64 m.nu, .bool m.nt, .int .i64 m.st, .int .i64 m.lf, .bool m.un] 74
  have hkb := blk_lt h.1
  obtain ⟨n, hn⟩ : ∃ n, ms.length = n := ⟨_, rfl⟩
  have HN : Hid (ms.length = n) := hn
  have hn32 : n ≤ 32 := by rw [← hn]; exact h.2.2
  rw [hn] at h hil ⊢
  have HK : Hid (Kd w kb (.slice (some ⟨g, 0, none⟩) n c) ms) := h
  clear h hput hf hm0 hn
  go_enter Tryd.func48, Tryd.ntmps48
  go_wp2_with fail
  obtain ⟨V, hV⟩ : ∃ V, w.alloc (.cells #[.string m.ct, .slice m.tp m.tn m.tc, .bool m.e, .int .i64 m.a, .int .i64 m.p, .int .i64 m.nu, .bool m.nt, .int .i64 m.st, .int .i64 m.lf, .bool m.un] 74) = V := ⟨_, rfl⟩
  rw [hV] at bx bv ⊢
  clear hV
  have HKV : Hid (Kd V kb (.slice (some ⟨g, 0, none⟩) n c) ms) := HK.out.below bv
  have l0 := sub_box bx
  have l1 : ∀ x : Sub V, x.1.cell? ⟨kb, 0, none⟩ = some (.func (.func 23) #[] #[]) := fun x => hcell (HKV.out.below x.2).1 0
  have c1 := sub_of (V := V) (key_any m)
  have c2 : ∀ x : Sub V, Calls Tryd.prog 53 #[.pointer (some ⟨kb, 0, none⟩), .string m.ct] x.1 fun r x' => r = .returned (.int .i64 (i : Int)) ∧ ∃ y : Sub V, x' = y.1 := fun x => (place_any (HKV.out.below x.2) m.ct).mono fun _ x' ⟨h1, h2⟩ => ⟨by rw [h1, hfI], ⟨x', below_then x.2 h2⟩, rfl⟩
  have HV : Hid (Below w.heap.size w V) := bv
  have HX : Hid (Box V w.heap.size #[.string m.ct, .slice m.tp m.tn m.tc, .bool m.e, .int .i64 m.a, .int .i64 m.p, .int .i64 m.nu, .bool m.nt, .int .i64 m.st, .int .i64 m.lf, .bool m.un]) := bx
  haveI hne' : Nonempty (Sub V) := ⟨⟨V, Below.refl _ _⟩⟩
  clear bx bv hfI
  refine wp_region_class (V := V) (Below.refl _ _) (by kernel_rfl) (by kernel_rfl) ?_
  repeat (go_big_quiet_step ((first | (go_at_call 53; exact c2 _) | exact c1 _)))
  refine wpQuiet_nil ?_
  rintro wc ⟨xwc, rfl⟩
  obtain ⟨W1, hW1⟩ : ∃ W, xwc.1 = W := ⟨_, rfl⟩
  have HB1 : Hid (Below w.heap.size w W1) := by have := below_then HV.out xwc.2; rw [hW1] at this; exact this
  have HK1 : Hid (Kd W1 kb (.slice (some ⟨g, 0, none⟩) n c) ms) := by have := HKV.out.below xwc.2; rw [hW1] at this; exact this
  have hx1 : Box W1 w.heap.size #[.string m.ct, .slice m.tp m.tn m.tc, .bool m.e, .int .i64 m.a, .int .i64 m.p, .int .i64 m.nu, .bool m.nt, .int .i64 m.st, .int .i64 m.lf, .bool m.un] := by have := HX.out.below xwc.2; rw [hW1] at this; exact this
  rw [hW1]
  clear l0 l1 c1 c2 hne' hW1 xwc HX HV HKV HK
  have k1 := hcell HK1.out.1 1
  have kx := hx1.cell
  have hlt1 : (i : Int) < n := by omega
  have hlt2 : ¬ (i : Int) < 0 := by omega
  obtain ⟨m1, hm1⟩ : ∃ m1, ms[i]? = some m1 := ⟨_, List.getElem?_eq_getElem (by have := HN.out; omega)⟩
  obtain ⟨g', eg, _, hc⟩ := erow_cells HK1.out.2.1 hm1
  obtain rfl : g = g' := by simpa using eg
  obtain ⟨q0, q1, q2, q3, q4, q5, q6, q7, q8, q9⟩ := hc
  have hfz := HK1.out.2.1.thaw
  have HZ : Hid (KdQ w kb (.slice (some ⟨g, 0, none⟩) n c) (ms.set i m) (W1.setCells g (i * 10) (encM m)).drew) := by
    have o1 : Off (fun q => q = kb ∨ some g = some q) W1 (W1.setCells g (i * 10) (encM m)).drew := (Off.setCells (Or.inr rfl) _ _ _ (Off.refl _ _)).drew
    have o2 : Off (fun q => g = q) W1 (W1.setCells g (i * 10) (encM m)).drew := (Off.setCells rfl _ _ _ (Off.refl _ _)).drew
    refine KdQ.of_below HB1.out ⟨.slice (some ⟨g, 0, none⟩) n c, ⟨(o2.block kb (blk_lt HK1.out.1) hne).trans HK1.out.1, ?_, by rw [List.length_set, HN.out]; exact hn32⟩, o1, fun q e => Or.inl e⟩
    exact (erow_set HK1.out.2.1 m (by rw [HN.out]; exact hil)).off (P := fun _ => False) (Off.refl _ _).drew (fun _ _ => id)
  clear hne hm1 eg
  go_wp2_with fail
  go_region_law (fail)
  all_goals
    go_wp2_with fail
    go_end0
    exact ⟨rfl, HZ.out⟩
end Go.Proofs.YtoijhecphgdfnaaDoor
