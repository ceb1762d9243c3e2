/-
  timers: advance.
-/
import Derived.Test.YtdglnobapnohmaaDoorWhOk
namespace Go.Proofs.YtdglnobapnohmaaDoor
open Go.RowKit

section
variable {P : Program} {ops : Array Oper} {o : Oper} {a : Act} {w w' : World} {K : Act → World → Prop} {Q : Exit → Act → World → Prop} {E : Prop}
theorem step_del_run (hgd : o.guard = none) (m x : Operand) (t k : TypeId) (ho : o.op = Op.call { callee := Callee.builtin Builtin.delete, args := #[m, x], argTypes := #[t, k] }) {mv xv r : Value} (hm : a.eval m = mv) (hx : a.eval x = xv) (hr : (Builtin.delete_ #[t, k] o.type #[mv, xv]).run P w = .ok r w') (h : K (a.put o.dst r) w') :
    if Region.wanted o (yielded ops a.tmps) = true then Oper.wp P o a w K Q else E := by
  have hw : Region.wanted o (yielded ops a.tmps) = true := by simp [Region.wanted, hgd]
  rw [if_pos hw]
  unfold Oper.wp execOp
  simp only [ho, resolve, invoke, builtin, Sem.run_bind, Sem.run_pure, Result.andThen_ok, List.map_toArray, List.map_cons, List.map_nil, hm, hx, hr]
  exact h
end
/-- While what was met is gone through (i: so many are done); A: all timers; F: the blocks at the start. -/
structure AvI (w : World) (B T M to_ : Nat) (F : Nat → Prop) (A acc : List Tm) (mv : Value) (i : Nat) (dv : Value) (v : Nat → Value) (L : Nat → List Tm) (f : Int → Option (Nat × Nat)) (n : Nat) (D : List Tm) (wx : World) : Prop where
  t : Tms wx B T M to_ v L f n
  k : Ok to_ L f n (acc.drop i)
  p : (allL L ++ acc.drop i ++ D).Perm A
  g : ∀ x ∈ allL L, to_ < x.2
  u : ∀ x ∈ D, x.2 ≤ to_
  b : ∀ x ∈ acc, x.2 ≤ MaxT
  m : TRow wx B mv acc
  d : TRow wx B dv D
  o : Off F w wx
  nf : ∀ q, Ft T M v q → F q ∨ w.heap.size ≤ q
  nm : ∀ q, mv.ownBlock = some q → w.heap.size ≤ q ∧ ¬ Ft T M v q ∧ dv.ownBlock ≠ some q
  nd : ∀ q, dv.ownBlock = some q → w.heap.size ≤ q ∧ ¬ Ft T M v q
/-- Behind the delete of the i-th one's key. -/
structure AvS (w : World) (B T M to_ : Nat) (F : Nat → Prop) (A acc : List Tm) (mv : Value) (i : Nat) (dv : Value) (v : Nat → Value) (L : Nat → List Tm) (f : Int → Option (Nat × Nat)) (n : Nat) (D : List Tm) (kk : Int) (tt : Nat) (wx : World) : Prop where
  t : Tms wx B T M to_ v L f n
  k : Ok to_ L f n (acc.drop (i + 1))
  p : (allL L ++ (kk, tt) :: acc.drop (i + 1) ++ D).Perm A
  g : ∀ x ∈ allL L, to_ < x.2
  u : ∀ x ∈ D, x.2 ≤ to_
  b : ∀ x ∈ acc, x.2 ≤ MaxT
  m : TRow wx B mv acc
  d : TRow wx B dv D
  o : Off F w wx
  nf : ∀ q, Ft T M v q → F q ∨ w.heap.size ≤ q
  nm : ∀ q, mv.ownBlock = some q → w.heap.size ≤ q ∧ ¬ Ft T M v q ∧ dv.ownBlock ≠ some q
  nd : ∀ q, dv.ownBlock = some q → w.heap.size ≤ q ∧ ¬ Ft T M v q
  hk : KeyI kk
  ht : tt ≤ MaxT
  fr : ∀ x ∈ allL L ++ acc.drop (i + 1), kk ≠ x.1
  fn : f kk = none
theorem drop_at {α : Type} {l : List α} {i : Nat} {x : α} (h : l[i]? = some x) : l.drop i = x :: l.drop (i + 1) := by
  have hi := (List.getElem?_eq_some_iff.1 h).1
  rw [List.drop_eq_getElem_cons hi]
  rw [List.getElem?_eq_getElem hi] at h
  injection h with h
  rw [h]
section
variable {w wx w' : World} {B T M to_ i n : Nat} {F : Nat → Prop} {A acc D : List Tm} {mv dv : Value} {v : Nat → Value} {L : Nat → List Tm} {f : Int → Option (Nat × Nat)}
theorem AvI.under (h : AvI w B T M to_ F A acc mv i dv v L f n D wx) (hb : Below wx.heap.size wx w') : AvI w B T M to_ F A acc mv i dv v L f n D w' :=
  ⟨h.t.below hb, h.k, h.p, h.g, h.u, h.b, h.m.below hb, h.d.below hb, h.o.trans (Off.of_below hb), h.nf, h.nm, h.nd⟩
/-- The key's entry is struck. -/
theorem AvI.struck {k : Int} {t : Nat} (h : AvI w B T M to_ F A acc mv i dv v L f n D wx) (hM : F M) (hx : acc[i]? = some (k, t)) (o : Off (fun q => q = M) wx w') (hm : MapF w' M (updF f k none) (n - (if (f k).isSome then 1 else 0))) :
    AvS w B T M to_ F A acc mv i dv v L (updF f k none) (n - 1) D k t w' := by
  have hk := h.k
  have hp := h.p
  rw [drop_at hx] at hk hp
  have hs := hk.ps (k, t) (List.mem_cons_self ..)
  simp only at hs
  rw [hs] at hm
  have hu := List.pairwise_cons.1 (hk.uq.perm List.perm_middle)
  exact ⟨h.t.setMap o hm, ok_drop hk, hp, h.g, h.u, h.b, h.m.off o (fun q e e' => (h.nm q e).2.1 (Or.inr (Or.inl e'))), h.d.off o (fun q e e' => (h.nd q e).2 (Or.inr (Or.inl e'))), h.o.trans (o.mono fun q e => by rw [e]; exact hM), h.nf, h.nm, h.nd, hk.ky (k, t) (List.mem_append_right _ (List.mem_cons_self ..)), h.b _ (List.mem_of_getElem? hx), hu.1, if_pos rfl⟩
theorem AvS.under {k : Int} {t : Nat} (h : AvS w B T M to_ F A acc mv i dv v L f n D k t wx) (hb : Below wx.heap.size wx w') : AvS w B T M to_ F A acc mv i dv v L f n D k t w' :=
  ⟨h.t.below hb, h.k, h.p, h.g, h.u, h.b, h.m.below hb, h.d.below hb, h.o.trans (Off.of_below hb), h.nf, h.nm, h.nd, h.hk, h.ht, h.fr, h.fn⟩
theorem AvS.sub {k : Int} {t : Nat} (h : AvS w B T M to_ F A acc mv i dv v L f n D k t wx) : n ≤ A.length := by
  have h1 := h.p.length_eq
  rw [h.k.nn, ← h1]
  simp only [List.length_append, List.length_cons]
  omega
/-- It is laid anew. -/
theorem AvS.put {k : Int} {t : Nat} (h : AvS w B T M to_ F A acc mv i dv v L f n D k t wx) (hgt : to_ < t) (hQ : PutQ wx B T M to_ v L f n k t (idx to_ t) w') :
    ∃ v' L' f' n', AvI w B T M to_ F A acc mv (i + 1) dv v' L' f' n' D w' := by
  obtain ⟨u, hT, o, hu⟩ := hQ
  rw [h.fn] at hT
  obtain ⟨hok, hpm⟩ := ok_put h.k h.hk h.fr hgt h.ht
  have hsz := h.o.size
  have hft : ∀ q, Ft T M (upd v (idx to_ t) u) q → Ft T M v q ∨ wx.heap.size ≤ q := fun q hq => by
    rcases hq with hq | hq | ⟨j, hj, e⟩
    · exact Or.inl (Or.inl hq)
    · exact Or.inl (Or.inr (Or.inl hq))
    · by_cases e1 : j = idx to_ t
      · subst e1; rw [upd_same] at e; exact hu q e
      · rw [upd_other _ _ e1] at e; exact Or.inl (Or.inr (Or.inr ⟨j, hj, e⟩))
  refine ⟨_, _, _, _, ⟨hT, hok, ?_, fun x hx => ?_, h.u, h.b, h.m.off o (fun q e => (h.nm q e).2.1), h.d.off o (fun q e => (h.nd q e).2), h.o.join o (fun q hq e => ?_), fun q hq => ?_, fun q e => ⟨(h.nm q e).1, fun hq => ?_, (h.nm q e).2.2⟩, fun q e => ⟨(h.nd q e).1, fun hq => ?_⟩⟩⟩
  · refine List.Perm.trans ?_ h.p
    refine (List.perm_append_right_iff D).2 ?_
    exact ((List.perm_append_right_iff _).2 hpm).trans (List.perm_middle.symm)
  · rcases List.mem_cons.1 (hpm.subset hx) with rfl | hx
    · exact hgt
    · exact h.g x hx
  · rcases h.nf q e with h1 | h1
    · exact h1
    · omega
  · rcases hft q hq with h1 | h1
    · exact h.nf q h1
    · exact Or.inr (by omega)
  · rcases hft q hq with h1 | h1
    · exact (h.nm q e).2.1 h1
    · have := (h.m.lt e).2; omega
  · rcases hft q hq with h1 | h1
    · exact (h.nd q e).2 h1
    · have := (h.d.lt e).2; omega
/-- It is due. -/
theorem AvS.due {k : Int} {t : Nat} {dv' : Value} (h : AvS w B T M to_ F A acc mv i dv v L f n D k t wx) (hle : t ≤ to_) (o : Off (fun q => dv.ownBlock = some q) wx w') (r : TRow w' B dv' (D ++ [(k, t)])) (hb : dv'.ownBlock = dv.ownBlock ∨ ∃ g, dv'.ownBlock = some g ∧ wx.heap.size ≤ g) :
    AvI w B T M to_ F A acc mv (i + 1) dv' v L f n (D ++ [(k, t)]) w' := by
  have hsz := h.o.size
  have hd : ∀ q, dv'.ownBlock = some q → dv.ownBlock = some q ∨ wx.heap.size ≤ q := fun q e => by
    rcases hb with hb | ⟨g, hb, hg⟩
    · exact Or.inl (by rw [← hb]; exact e)
    · rw [hb] at e; injection e with e; exact Or.inr (by omega)
  refine ⟨h.t.off o (fun q hq e => (h.nd q e).2 hq), h.k, ?_, h.g, fun x hx => ?_, h.b, h.m.off o (fun q e => (h.nm q e).2.2), r, h.o.join o (fun q hq e => ?_), h.nf, fun q e => ⟨(h.nm q e).1, (h.nm q e).2.1, fun e' => ?_⟩, fun q e => ?_⟩
  · refine List.Perm.trans ?_ h.p
    rw [← List.append_assoc]
    refine (List.perm_append_comm (l₂ := [(k, t)])).trans ?_
    rw [List.append_assoc, List.append_assoc]
    show ((k, t) :: (allL L ++ (acc.drop (i + 1) ++ D))).Perm (allL L ++ (k, t) :: (acc.drop (i + 1) ++ D))
    exact List.perm_middle.symm
  · rcases List.mem_append.1 hx with hx | hx
    · exact h.u x hx
    · obtain rfl := List.mem_singleton.1 hx
      exact hle
  · have := (h.nd q e).1; omega
  · rcases hd q e' with h1 | h1
    · exact (h.nm q e).2.2 h1
    · have := (h.m.lt e).2; omega
  · rcases hd q e with h1 | h1
    · exact h.nd q h1
    · refine ⟨by omega, fun hq => ?_⟩
      have := (h.t.lt hq).2
      omega
end
/-- How advance leaves the timers. -/
def AdvQ (w : World) (B T M to_ : Nat) (F : Nat → Prop) (A : List Tm) (dv : Value) (w' : World) : Prop :=
  ∃ v L f n D, Tms w' B T M to_ v L f n ∧ Ok to_ L f n [] ∧ (allL L ++ D).Perm A ∧ (∀ x ∈ allL L, to_ < x.2) ∧ (∀ x ∈ D, x.2 ≤ to_) ∧ TRow w' B dv D ∧ Off F w w' ∧ (∀ q, Ft T M v q → F q ∨ w.heap.size ≤ q) ∧ ∀ q, dv.ownBlock = some q → w.heap.size ≤ q ∧ ¬ Ft T M v q
section
variable {w : World} {B T M now n : Nat} {v : Nat → Value} {L : Nat → List Tm} {f : Int → Option (Nat × Nat)}
set_option maxRecDepth 100000 in
set_option maxHeartbeats 4000000 in
theorem advance_any (h : Tms w B T M now v L f n) (hk : Ok now L f n []) (hB : B ≤ w.heap.size) (hn : n ≤ 100000) {to_ : Nat} (hnow : now ≤ to_) (hto : to_ ≤ MaxT) :
    Calls Tryd.prog 33 #[.pointer (some ⟨T, 0, none⟩), .int .i64 (to_ : Int)] w fun e w' => ∃ a1 n1 c1, e = .returned (.slice a1 n1 c1) ∧ AdvQ w B T M to_ (Ft T M v) (allL L) (.slice a1 n1 c1) w' := by
  have hlen : (allL L).length = n := by have := hk.nn; rw [List.append_nil] at this; exact this.symm
  have HM : Hid (Calls Tryd.prog 51 #[.pointer (some ⟨T, 0, none⟩), .int .i64 (to_ : Int)] w fun e w' => ∃ a1 n1 c1, e = .returned (.slice a1 n1 c1) ∧ MtI w B T M now v L f n (met now to_) (.slice a1 n1 c1) w') := meet_any h hB (by show (allL L).length ≤ _; omega) hnow hto
  have HA : Hid (Tms w B T M now v L f n ∧ Ok now L f n [] ∧ B ≤ w.heap.size ∧ n ≤ 100000 ∧ now ≤ to_ ∧ to_ ≤ MaxT ∧ (allL L).length = n) := ⟨h, hk, hB, hn, hnow, hto, hlen⟩
  clear h hk hB hn hnow hto hlen
  go_enter Tryd.func33, Tryd.ntmps33
  go_wp2_with fail
  refine HM.out.mono ?_
  rintro _ w1 ⟨a0, n0, c0, rfl, hm1⟩
  have c0' := hm1.t.tb.c0
  have f0' := hm1.t.tb.fr 0
  obtain ⟨acc, hacc, hpm⟩ := hm1.r
  have hacl := hacc.len
  have HI : Hid (AvI w B T M to_ (Ft T M v) (allL L) acc (.slice a0 n0 c0) 0 (.slice none 0 0) (clrV (met now to_) v) (clrL (met now to_) L) f n [] (w1.setCell ⟨T, 0, none⟩ (.int .i64 (to_ : Int))) ∧ n0 = acc.length ∧ acc.length ≤ 100000) := by
    obtain ⟨h, hk, hB, hn, hnow, hto, hlen⟩ := HA.out
    obtain ⟨k1, k2, k3⟩ := ok_met hk hnow hto hpm
    have hft : ∀ q, Ft T M (clrV (met now to_) v) q → Ft T M v q := fun q hq => clr_ft hq
    refine ⟨⟨hm1.t.setNow to_, by rw [List.drop_zero]; exact k1, by rw [List.drop_zero, List.append_nil]; exact k2.symm, k3, fun x hx => (by cases hx), fun x hx => ?_, hacc.keep fun g e => heap_set_ne ?_, ERow.nil _ _ _ _ _, (hm1.o.mono fun q e => Or.inl e).setCell (p := ⟨T, 0, none⟩) (Or.inl rfl) _, fun q hq => Or.inl (hft q hq), fun q e => ⟨hm1.e q e, fun hq => ?_, fun e' => by cases e'⟩, fun q e => by cases e⟩, hacl, ?_⟩
    · obtain ⟨i, hi, hx⟩ := mem_allL.1 (k2.symm.subset (List.mem_append_right _ hx))
      exact (hk.pl i hi x hx).2.2
    · have := hm1.e g e
      have := h.tb.lt
      omega
    · have h1 := hm1.e q e
      have := (h.lt (hft q hq)).2
      omega
    · have := k2.length_eq
      rw [List.length_append] at this
      omega
  clear hm1 hacc hpm HM hacl
  go_wp2_with fail
  have hn0 : (n0 : Int) ≤ 100000 := by have := HI.out.2; omega
  go_loopw [6, 18, 8] (fun t6 t18 _ wx => ∃ (i : Nat) (a1 : Option Addr) (n1 c1 : Nat), i ≤ n0 ∧ t18 = .int .i64 (i : Int) ∧ t6 = .slice a1 n1 c1 ∧ Hid (∃ v' L' f' n' D, AvI w B T M to_ (Ft T M v) (allL L) acc (.slice a0 n0 c0) i (.slice a1 n1 c1) v' L' f' n' D wx)) (fun _ t18 _ _ => n0 - (intOf t18).toNat)
  case atStart => exact ⟨0, none, 0, 0, Nat.zero_le _, rfl, rfl, _, _, _, _, _, HI.out.1⟩
  case round =>
    obtain ⟨i, a1, n1, c1, hi, rfl, rfl, HJ⟩ := hrel
    have HC : Hid (n0 = acc.length ∧ acc.length ≤ 100000) := HI.out.2
    clear c0' f0'
    by_cases hlt : i < n0
    · have hlt1 : (i : Int) < n0 := by omega
      obtain ⟨v', L', f', n', D, hI⟩ := HJ.out
      obtain ⟨x, hx⟩ : ∃ x, acc[i]? = some x := ⟨_, List.getElem?_eq_getElem (by have := HC.out; omega)⟩
      obtain ⟨k, t⟩ := x
      obtain ⟨g, rfl, hg, hcg⟩ := hI.m.at_ encT_len hx
      have cg0 : wr.cell? ⟨g, i * 2, none⟩ = some (.int .i64 k) := hcg 0 (by omega)
      have cg1 : wr.cell? ⟨g, i * 2 + 1, none⟩ = some (.int .i64 (t : Int)) := hcg 1 (by omega)
      have HX : Hid (acc[i]? = some (k, t)) := hx
      have HI1 : Hid (AvI w B T M to_ (Ft T M v) (allL L) acc (.slice (some ⟨g, 0, none⟩) n0 c0) i (.slice a1 n1 c1) v' L' f' n' D wr) := hI
      clear hcg hx HJ hI HI
      go_wp2_with fail
      have H1 : Hid (AvI w B T M to_ (Ft T M v) (allL L) acc (.slice (some ⟨g, 0, none⟩) n0 c0) i (.slice a1 n1 c1) v' L' f' n' D (wr.alloc (.cells #[.int .i64 k, .int .i64 (t : Int)] 68)) ∧ (∀ o, (wr.alloc (.cells #[.int .i64 k, .int .i64 (t : Int)] 68)).cell? ⟨wr.heap.size, o, none⟩ = (#[.int .i64 k, .int .i64 (t : Int)] : Array Value)[o]?) ∧ wr.heap.size < (wr.alloc (.cells #[.int .i64 k, .int .i64 (t : Int)] 68)).heap.size ∧ M < wr.heap.size) := ⟨HI1.out.under ((Below.refl _ _).alloc (Nat.le_refl _) _), fun o => cell_new _ _ _ o, by simp, HI1.out.t.mp.lt⟩
      obtain ⟨N1, hN1⟩ : ∃ q, wr.heap.size = q := ⟨_, rfl⟩
      rw [hN1] at H1
      generalize wr.alloc (.cells #[.int .i64 k, .int .i64 (t : Int)] 68) = W1 at H1 ⊢
      rw [hN1]
      clear cg0 cg1 HI1 hN1 hg
      have hky : KeyI k := H1.out.1.k.ky (k, t) (List.mem_append_right _ (by rw [drop_at HX.out]; exact List.mem_cons_self ..))
      obtain ⟨W2, hdr, hm2, o2⟩ := (H1.out.1.t.drewN 1).mp.drop hky 0
      rw [← World.drew_is_drewN] at hdr
      have H2 : Hid (AvS w B T M to_ (Ft T M v) (allL L) acc (.slice (some ⟨g, 0, none⟩) n0 c0) i (.slice a1 n1 c1) v' L' (updF f' k none) (n' - 1) D k t W2 ∧ ∀ o, W2.cell? ⟨N1, o, none⟩ = (#[.int .i64 k, .int .i64 (t : Int)] : Array Value)[o]?) := by
        refine ⟨AvI.struck (H1.out.1.under (Below.drew (Below.refl _ _))) (Or.inr (Or.inl rfl)) HX.out o2 hm2, fun o => ?_⟩
        rw [o2.cell (p := ⟨N1, o, none⟩) H1.out.2.2.1 (by show ¬ N1 = M; have := H1.out.2.2.2; omega)]
        exact H1.out.2.1 o
      have cm1 := H1.out.1.t.tb.cm
      have b0 : W1.cell? ⟨N1, 0, none⟩ = some (.int .i64 k) := H1.out.2.1 0
      have cm2 := H2.out.1.t.tb.cm
      have d0 : W2.cell? ⟨N1, 0, none⟩ = some (.int .i64 k) := H2.out.2 0
      have d1 : W2.cell? ⟨N1, 1, none⟩ = some (.int .i64 (t : Int)) := H2.out.2 1
      clear hm2 o2 hky HX
      go_region_held3 (fun z => z.cell? ⟨T, 449, none⟩ = some (.map (some M)) ∧ z.cell? ⟨N1, 0, none⟩ = some (.int .i64 k)) (simp [*]) (first | (refine step_del_run rfl (.tmp 25) (.tmp 27) 48 3 rfl rfl rfl hdr ?_))
      clear hdr cm1 b0 H1
      obtain ⟨_, _, hB, hn, _, hto, hlen⟩ := HA.out
      have hsub := H2.out.1.sub
      have hwB : B ≤ W2.heap.size := Nat.le_trans hB H2.out.1.o.size
      by_cases hgt : to_ < t
      · have hgt1 : (t : Int) > to_ := by omega
        have HP : Hid (Calls Tryd.prog 32 #[.pointer (some ⟨T, 0, none⟩), .agg #[.int .i64 k, .int .i64 (t : Int)]] W2 fun e w' => e = .returned (.tuple #[]) ∧ Hid (∃ v' L' f' n' D, AvI w B T M to_ (Ft T M v) (allL L) acc (.slice (some ⟨g, 0, none⟩) n0 c0) (i + 1) (.slice a1 n1 c1) v' L' f' n' D w')) := by
          refine (put_any H2.out.1.t hwB H2.out.1.hk hto H2.out.1.ht (by omega) (fun j hj => ?_)).mono ?_
          · have := H2.out.1.k.len hj; omega
          · rintro e w' ⟨he, hQ⟩
            obtain ⟨v9, L9, f9, n9, h9⟩ := H2.out.1.put hgt hQ
            exact ⟨he, v9, L9, f9, n9, D, h9⟩
        clear hB hn hto hlen hsub hwB
        go_wp2_with fail
        refine HP.out.mono ?_
        rintro _ w5 ⟨rfl, H5⟩
        go_wp2_with fail
        go_roundw
        case rel => exact ⟨i + 1, a1, n1, c1, hlt, by go_num, rfl, H5.out⟩
        case measure => simp [intOf]; omega
      · have hgt1 : ¬ (t : Int) > to_ := by omega
        have hDl : D.length ≤ 100000 := by
          have h1 := H2.out.1.p.length_eq
          simp only [List.length_append] at h1
          omega
        obtain ⟨a2, c2, W3, hap, r3, o3, b3⟩ := run_epush (P := Tryd.prog) (t := 49) Tryd.underlying49 celT encT_len encT_one (w := W2) H2.out.1.d (k, t) #[.int .i64 k, .int .i64 (t : Int)] rfl (by omega) (by omega) hwB
        have H3 : Hid (∃ v' L' f' n' D, AvI w B T M to_ (Ft T M v) (allL L) acc (.slice (some ⟨g, 0, none⟩) n0 c0) (i + 1) (.slice a2 (n1 + 1) c2) v' L' f' n' D W3) := by
          have hd := H2.out.1.d.len
          rw [hd] at *
          exact ⟨v', L', _, _, _, H2.out.1.due (by omega) o3 r3 (b3.imp id fun e => ⟨_, e, by omega⟩)⟩
        rw [← H2.out.1.d.len] at hap
        clear hB hn hto hlen hsub hwB r3 o3 b3 hDl
        go_wp2_with (at_builtin; refine wpList_append_run rfl (.tmp 35) (.tmp 37) 49 _ rfl hap ?_)
        go_roundw
        case rel => exact ⟨i + 1, a2, n1 + 1, c2, hlt, by go_num, rfl, H3.out⟩
        case measure => simp [intOf]; omega
    · have hlt1 : ¬ (i : Int) < n0 := by omega
      obtain rfl : i = n0 := by omega
      clear HI
      go_wp2_with fail
      go_ret
      obtain ⟨v', L', f', n', D, hI⟩ := HJ.out
      have hk := hI.k
      have hp := hI.p
      rw [List.drop_eq_nil_of_le (by have := HC.out; omega)] at hk hp
      rw [List.append_nil] at hp
      exact ⟨a1, n1, c1, rfl, v', L', f', n', D, hI.t, hk, hp, hI.g, hI.u, hI.d, hI.o, hI.nf, hI.nd⟩
end
end Go.Proofs.YtdglnobapnohmaaDoor
