import Derived.Test.YtoijhecphgdfnaaGreatDoorDcRefHa
import Derived.Test.YtoijhecphgdfnaaGreatDoorOrGo
import Derived.Test.YtoijhecphgdfnaaGreatDoorOxGive
/-
  The document's Control and may.
-/
namespace Go.Proofs.YtoijhecphgdfnaaGreatDoor
open Go.RowKit

theorem take_snoc {α : Type} {l : List α} {i : Nat} {x : α} (hx : l[i]? = some x) : l.take (i + 1) = l.take i ++ [x] := by
  rw [List.take_add_one, hx]; rfl
set_option maxRecDepth 100000 in
set_option maxHeartbeats 4000000 in
theorem rControl_any (s : ByteArray) (w : World) : Calls Tryz.prog 46 #[.string s] w fun e w' => e = .returned (.bool (ctB s)) ∧ w' = w := by
  by_cases h0 : s.size < 1
  · have e0 : ctB s = false := by unfold ctB; rw [decide_eq_false (by omega)]; rfl
    rw [e0]
    have h2 : (s.size : Int) < 1 := by omega
    go_enter Tryz.func46, Tryz.ntmps46
    go_wp2
    go_ret
    exact ⟨rfl, rfl⟩
  by_cases h18 : 18 < s.size
  · have e0 : ctB s = false := by unfold ctB; rw [decide_eq_false (show ¬ s.size ≤ 18 by omega)]; simp
    rw [e0]
    have h2 : ¬ (s.size : Int) < 1 := by omega
    have h3 : (s.size : Int) > 18 := by omega
    go_enter Tryz.func46, Tryz.ntmps46
    go_wp2
    go_ret
    exact ⟨rfl, rfl⟩
  have h2 : ¬ (s.size : Int) < 1 := by omega
  have h3 : ¬ (s.size : Int) > 18 := by omega
  have HE : Hid (ctB s = s.data.toList.all (fun c => cbB (c.toNat : Int))) := by
    unfold ctB; rw [decide_eq_true (show 1 ≤ s.size by omega), decide_eq_true (show s.size ≤ 18 by omega)]; rfl
  have HL : Hid (s.data.toList.length = s.size) := rfl
  go_enter Tryz.func46, Tryz.ntmps46
  go_wp2_with fail
  go_loopw [3] (fun t wx => ∃ i : Nat, i ≤ s.size ∧ t = .int .i64 i ∧ wx = w ∧ Hid ((s.data.toList.take i).all (fun c => cbB (c.toNat : Int)) = true)) (fun t _ => s.size - (intOf t).toNat)
  case atStart => exact ⟨0, Nat.zero_le _, rfl, rfl, rfl⟩
  case round =>
    obtain ⟨i, hi, rfl, rfl, HA⟩ := hrel
    by_cases hlt : i < s.size
    · have hlt1 : (i : Int) < s.size := by omega
      have hx : s.data.toList[i]? = some s[i] := by rw [Array.getElem?_toList]; exact Array.getElem?_eq_getElem hlt
      have HT : Hid (cbB (s[i].toNat : Int) = true → (s.data.toList.take (i + 1)).all (fun c => cbB (c.toNat : Int)) = true) := fun h => by
        rw [take_snoc hx, List.all_append, HA.out]
        simp [h]
      have HF : Hid (cbB (s[i].toNat : Int) = false → ctB s = false) := fun h => by
        rw [HE.out, List.all_eq_false]
        exact ⟨s[i], List.mem_of_getElem? hx, by rw [h]; decide⟩
      obtain ⟨c, hc⟩ : ∃ c : Int, (s[i].toNat : Int) = c := ⟨_, rfl⟩
      rw [hc] at HT HF
      clear hx
      go_wp2_with fail
      all_goals (try simp only [Bool.not_eq_false', Bool.not_eq_true', decide_eq_true_eq, decide_eq_false_iff_not, beq_eq_false_iff_ne, ne_eq] at *)
      all_goals first
        | (go_ret; refine ⟨ret_bool (HF.out ?_).symm, rfl⟩; unfold cbB; rw [Bool.eq_iff_iff]; simp; try (first | omega | (intros; omega) | (simp only [beq_iff_eq, not_and_or, Classical.not_not] at *; omega) | (rename_i hz; simp at hz; omega)))
        | (go_roundw
           case rel =>
             refine ⟨i + 1, hlt, by go_num, by trivial, HT.out ?_⟩
             unfold cbB
             rw [Bool.eq_iff_iff]
             simp
             try (first | omega | (intros; omega) | (simp only [beq_iff_eq, not_and_or, Classical.not_not] at *; omega) | (rename_i hz; simp at hz; omega))
           case measure => (simp [intOf]; try omega))
    · have hlt1 : ¬ (i : Int) < s.size := by omega
      have HH : Hid (ctB s = true) := by
        unfold Hid
        rw [HE.out, ← HA.out, List.take_of_length_le (by rw [HL.out]; omega)]
      go_wp2_with fail
      go_ret
      exact ⟨ret_bool HH.out.symm, rfl⟩
set_option maxRecDepth 100000 in
set_option maxHeartbeats 2000000 in
theorem rmay_any (e : Bool) (a p : Int) (w : World) (h : okB e a p = true) : Calls Tryz.prog 49 #[.agg #[.bool e, .int .i64 a, .int .i64 p]] w fun r w' => r = .returned (.bool (caB e a)) ∧ Below w.heap.size w w' := by
  have bv : Below w.heap.size w (w.alloc (.cells #[.bool e, .int .i64 a, .int .i64 p] 45)) := (Below.refl _ _).alloc (Nat.le_refl _) _
  have bx := Box.new w #[.bool e, .int .i64 a, .int .i64 p] 45
  have hm := rMay_any e a p ⟨#[67, 65]⟩ (w.alloc (.cells #[.bool e, .int .i64 a, .int .i64 p] 45))
  rw [h, sent_1, show errN e a p = 0 by unfold errN; rw [h]; rfl] at hm
  have HB : Hid (Below w.heap.size w (w.alloc (.cells #[.bool e, .int .i64 a, .int .i64 p] 45))) := bv
  obtain ⟨q, hq⟩ : ∃ q, caB e a = q := ⟨_, rfl⟩
  rw [hq] at hm ⊢
  have cx := bx.cell
  clear bv h hq
  cases q
  all_goals
    go_enter Tryz.func49, Tryz.ntmps49
    go_wp2_with fail
    refine hm.mono ?_
    rintro _ w1 ⟨rfl, b1⟩
    have HB1 : Hid (Below w.heap.size w w1) := below_then HB.out b1
    clear b1
    go_wp2_with fail
    go_ret
    exact ⟨rfl, HB1.out⟩
end Go.Proofs.YtoijhecphgdfnaaGreatDoor

/-
  The document's box: Add.
-/
namespace Go.Proofs.YtoijhecphgdfnaaGreatDoor
open Go.RowKit

section
variable {w w' z : World} {B r : Nat} {L : Value} {sq : Bool} {tr : Int} {ms : List Msg} {m : Msg}
/-- One message more. -/
theorem RB.push (h : RB z B r L sq tr ms) (hl : ms.length < 32) {a : Option Addr} {c : Nat} {C : Nat} (hC : B ≤ C) (hrC : BRow z C (.slice a m.tn c) m.tx) (hm : m.tn ≤ 8192) :
    ∃ a2 n2 c2 W2, (Builtin.append_ #[97, 97] 97 #[L, .slice (some ⟨z.heap.size, 0, none⟩) 1 1]).run Tryz.prog (z.alloc (.cells #[.string m.ct, .slice a m.tn c, .bool m.e, .int .i64 m.a, .int .i64 m.p, .int .i64 m.nu, .bool m.nt, .int .i64 m.st, .int .i64 m.lf, .bool m.un] 91)) = .ok (.slice a2 n2 c2) W2 ∧ W2.cell? ⟨r, 0, none⟩ = some L ∧ W2.frozen? ⟨r, 0, none⟩ = false ∧ Hid (BRow (W2.setCell ⟨r, 0, none⟩ (.slice a2 n2 c2)) C (.slice a m.tn c) m.tx ∧ RBQ z B r L sq tr (ms ++ [m.wi a c]) (W2.setCell ⟨r, 0, none⟩ (.slice a2 n2 c2))) := by
  have hB : B ≤ z.heap.size := Nat.le_trans h.lB (Nat.le_of_lt h.lt)
  have hr : BRow z B (.slice a m.tn c) m.tx := ERow.base hrC hC
  obtain ⟨a2, c2, W2, hr2, r2, o2, s2⟩ := run_epush (P := Tryz.prog) (t := 97) Tryz.underlying97 celS encM_len encM_one (w := z) h.row (m.wi a c) #[.string m.ct, .slice a m.tn c, .bool m.e, .int .i64 m.a, .int .i64 m.p, .int .i64 m.nu, .bool m.nt, .int .i64 m.st, .int .i64 m.lf, .bool m.un] rfl (by have := h.len; omega) (by decide) hB
  have nv : ∀ {q : Nat} {cs : Array Value} {t : TypeId}, t ≠ 91 → z.heap[q]? = some (.cells cs t (0, 0)) → L.ownBlock ≠ some q := fun {q cs t} ht hc hq => by
    obtain ⟨cs', hc'⟩ := msrow_type h.row hq
    rw [hc] at hc'
    simp only [Option.some.injEq, Obj.cells.injEq] at hc'
    exact ht hc'.2.1
  have b2 : W2.heap[r]? = some (.cells #[L, .bool sq, .int .i64 tr] 117 (0, 0)) := (o2.block r h.lt (nv (by decide) h.blk)).trans h.blk
  have key : ∀ {C' : Nat} u bs, BRow z C' u bs → BRow W2 C' u bs := fun u bs hu => ERow.off hu o2 fun q hq => by
    obtain ⟨cs, hc⟩ := brow_type hu hq
    exact nv (by decide) hc
  have own2 : ∀ y ∈ ms ++ [m.wi a c], BRow W2 B (.slice y.tp y.tn y.tc) y.tx ∧ y.tn ≤ 8192 := fun y hy => by
    rcases List.mem_append.1 hy with g | g
    · exact ⟨key _ _ (h.own y g).1, (h.own y g).2⟩
    · obtain rfl : y = m.wi a c := by simpa using g
      exact ⟨key _ _ hr, hm⟩
  have oo : Off (fun q => q = r) W2 (W2.setCell ⟨r, 0, none⟩ (.slice a2 (ms.length + 1) c2)) := Off.setCell (P := fun q => q = r) (Off.refl _ _) (p := ⟨r, 0, none⟩) rfl _
  have nr : ∀ {q : Nat} {cs : Array Value} {t : TypeId}, t ≠ 117 → W2.heap[q]? = some (.cells cs t (0, 0)) → q ≠ r := fun {q cs t} ht hc e => by
    rw [e, b2] at hc
    simp only [Option.some.injEq, Obj.cells.injEq] at hc
    exact ht hc.2.1.symm
  refine ⟨a2, _, c2, W2, hr2, hcell b2 0, hfroz b2 0, ERow.off (key _ _ hrC) oo fun q hq e => ?_, .slice a2 (ms.length + 1) c2, ⟨set_heap b2 0 _, ERow.off r2 oo fun q hq e => ?_, fun y hy => ?_, ?_, h.lB⟩, ?_, fun q hq => ?_⟩
  · obtain ⟨cs, hc⟩ := brow_type (key _ _ hrC) hq
    exact nr (by decide) hc e
  · obtain ⟨cs, hc⟩ := msrow_type r2 hq
    exact nr (by decide) hc e
  · refine ⟨ERow.off (own2 y hy).1 oo fun q hq e => ?_, (own2 y hy).2⟩
    obtain ⟨cs, hc⟩ := brow_type (own2 y hy).1 hq
    exact nr (by decide) hc e
  · simp; omega
  · exact (o2.mono fun q hq => Or.inr hq).trans (oo.mono fun q hq => Or.inl hq)
  · rcases s2 with e | e
    · exact Or.inl (by rw [← e]; exact hq)
    · rw [hq] at e
      simp only [Option.some.injEq] at e
      right; omega
set_option maxRecDepth 100000 in
set_option maxHeartbeats 8000000 in
theorem rAdd_yes (h : RB w B r L sq tr ms) (hnu : m.nu = 0) (hnt : m.nt = false) (hst : m.st = 0) (hlf : m.lf = 0) (hun : m.un = false) (hb : Byts w m.tp m.tn m.tx) (hc : addC sq ms m = 0) :
    Calls Tryz.prog 17 #[.pointer (some ⟨r, 0, none⟩), .string m.ct, .slice m.tp m.tn m.tc, .agg #[.bool m.e, .int .i64 m.a, .int .i64 m.p]] w fun e w' => e = .returned (.int .i64 0) ∧ ∃ a c, BRow w' w.heap.size (.slice a m.tn c) m.tx ∧ RBQ w B r L sq tr (ms ++ [m.wi a c]) w' := by
  have h32 : ms.length < 32 := by
    have := h.len
    unfold addC at hc
    split at hc
    · omega
    · omega
  have hr0 : refS sq ms m = 0 := by unfold addC at hc; rwa [if_neg (by omega)] at hc
  have hct : ctB m.ct = true := by
    unfold refS at hr0
    split at hr0
    · omega
    · rename_i q; cases hq : ctB m.ct with | true => rfl | false => exact absurd hq q
  have hfn : fi m.ct ms = none := (refS_zero hr0).1
  have htn : m.tn ≤ 8192 := (refS_zero hr0).2
  have ht1 : ¬ m.tn = 0 := by
    unfold refS at hr0
    split at hr0
    · omega
    split at hr0
    · omega
    split at hr0
    · omega
    rename_i q
    simp only [Bool.or_eq_true, decide_eq_true_eq, not_or] at q
    exact q.1
  have hok : okB m.e m.a m.p = true := by
    unfold refS at hr0
    split at hr0
    · omega
    split at hr0
    · omega
    split at hr0
    · omega
    split at hr0
    · omega
    rename_i q
    cases hq : okB m.e m.a m.p with
    | true => rfl
    | false => rw [hq] at q; simp at q
  have hb1 : Below w.heap.size w (w.alloc (.cells #[.bool m.e, .int .i64 m.a, .int .i64 m.p] 45)) := (Below.refl _ _).alloc (Nat.le_refl _) _
  have bx := Box.new w #[.bool m.e, .int .i64 m.a, .int .i64 m.p] 45
  obtain ⟨V, hV⟩ : ∃ V, w.alloc (.cells #[.bool m.e, .int .i64 m.a, .int .i64 m.p] 45) = V := ⟨_, rfl⟩
  rw [hV] at hb1 bx
  have hv := h.below hb1
  have hC := rControl_any m.ct V
  have hF := rfind_any hv m.ct
  have hR := rRight_any m.e m.a m.p V
  rw [hct] at hC
  rw [hok] at hR
  rw [show fiI m.ct ms = -1 by unfold fiI; rw [hfn]] at hF
  have hO : Hid (∀ y, Below w.heap.size w y → Calls Tryz.prog 50 #[.agg #[.string m.ct, .slice m.tp m.tn m.tc, .bool m.e, .int .i64 m.a, .int .i64 m.p, .int .i64 0, .bool false]] y fun e z => ∃ a c, e = .returned (.agg #[.string m.ct, .slice a m.tn c, .bool m.e, .int .i64 m.a, .int .i64 m.p, .int .i64 0, .bool false]) ∧ z.cell? ⟨r, 0, none⟩ = some L ∧ (z.alloc (.cells #[.string m.ct, .slice a m.tn c, .bool m.e, .int .i64 m.a, .int .i64 m.p, .int .i64 0, .bool false, .int .i64 0, .int .i64 0, .bool false] 91)).cell? ⟨r, 0, none⟩ = some L ∧ Hid (Below w.heap.size w z) ∧ ∃ a2 n2 c2 W2, (Builtin.append_ #[97, 97] 97 #[L, .slice (some ⟨z.heap.size, 0, none⟩) 1 1]).run Tryz.prog (z.alloc (.cells #[.string m.ct, .slice a m.tn c, .bool m.e, .int .i64 m.a, .int .i64 m.p, .int .i64 0, .bool false, .int .i64 0, .int .i64 0, .bool false] 91)) = .ok (.slice a2 n2 c2) W2 ∧ W2.cell? ⟨r, 0, none⟩ = some L ∧ W2.frozen? ⟨r, 0, none⟩ = false ∧ Hid (BRow (W2.setCell ⟨r, 0, none⟩ (.slice a2 n2 c2)) w.heap.size (.slice a m.tn c) m.tx ∧ RBQ w B r L sq tr (ms ++ [m.wi a c]) (W2.setCell ⟨r, 0, none⟩ (.slice a2 n2 c2)))) := fun y hy => by
    have := rown_any m y (hb.below hy) (by omega)
    rw [hnu, hnt] at this
    refine this.mono fun e z ⟨a, c, e1, hr, hbz⟩ => ?_
    have hwz := below_then hy hbz
    have hz := h.below hwz
    obtain ⟨a2, n2, c2, W2, k1, k2, k3, k4⟩ := hz.push h32 (m := m) (a := a) (c := c) (Nat.le_trans h.lB (Nat.le_of_lt h.lt)) (ERow.base hr hy.size) htn
    rw [hnu, hnt, hst, hlf, hun] at k1
    exact ⟨a, c, e1, hcell hz.blk 0, (((Below.refl _ _).alloc (Nat.le_refl _) _).cell (p := ⟨r, 0, none⟩) hz.lt).trans (hcell hz.blk 0), hwz, a2, n2, c2, W2, k1, k2, k3, k4.out.1, RBQ.back hwz k4.out.2⟩
  obtain ⟨la, lc, e1, _⟩ := ERow.isSlice h.row
  obtain ⟨n, hn⟩ : ∃ n, ms.length = n := ⟨_, rfl⟩
  have c0 := hcell hv.blk 0
  have hx := bx.cell
  have HB : Hid (Below w.heap.size w V) := hb1
  obtain ⟨xb, hxb⟩ : ∃ xb, w.heap.size = xb := ⟨_, rfl⟩
  have x0 : V.cell? ⟨xb, 0, none⟩ = some (.bool m.e) := by rw [← hxb]; exact bx.cell 0
  have x1 : V.cell? ⟨xb, 1, none⟩ = some (.int .i64 m.a) := by rw [← hxb]; exact bx.cell 1
  have x2 : V.cell? ⟨xb, 2, none⟩ = some (.int .i64 m.p) := by rw [← hxb]; exact bx.cell 2
  have xl : xb < V.heap.size := by rw [← hxb]; exact bx.lt
  have lr : r < V.heap.size := hv.lt
  have n32 : ¬ ((n : Int) ≥ 32) := by omega
  have t1 : ¬ ((m.tn : Int) < 1) := by omega
  have t2 : ¬ ((m.tn : Int) > 8192) := by omega
  rw [hn] at e1
  subst e1
  clear h hb hc h32 hr0 hct hfn htn ht1 hok hb1 bx hv hn hx hnu hnt hst hlf hun
  go_enter Tryz.func17, Tryz.ntmps17
  go_upto_region 13 with (first | (go_at_call 46; refine hC.mono ?_; rintro _ w9 ⟨rfl, h9⟩; subst w9) | (go_at_call 47; refine hF.mono ?_; rintro _ w9 ⟨rfl, h9⟩; subst w9) | (go_at_call 48; refine hR.mono ?_; rintro _ w2 ⟨rfl, hb2⟩; have HB2 : Hid (Below w.heap.size w w2) := below_then HB.out hb2; have y0 := (hb2.cell (p := ⟨xb, 0, none⟩) xl).trans x0; have y1 := (hb2.cell (p := ⟨xb, 1, none⟩) xl).trans x1; have y2 := (hb2.cell (p := ⟨xb, 2, none⟩) xl).trans x2; have d0 := (hb2.cell (p := ⟨r, 0, none⟩) lr).trans c0; have xl2 := Nat.lt_of_lt_of_le xl hb2.size; clear hb2))
  clear hC hF hR x0 x1 x2 c0 n32 t1 t2
  go_region_law (first | (go_simp; go_at_call 50; refine (hO.out _ (Below.drew HB2.out)).mono ?_; rintro _ w3 ⟨a3, c3, rfl, k0, k1, HB3, a4, n4, c4, W4, hap, g0, g1, HZ⟩; go_wp2_with fail) | (refine step_app_run rfl (.tmp 45) (.tmp 52) 97 rfl rfl rfl hap ?_))
  all_goals
    go_wp2_with fail
    go_ret
    exact ⟨rfl, a3, c3, HZ.out.1, HZ.out.2⟩
end
end Go.Proofs.YtoijhecphgdfnaaGreatDoor

/-
  The document's box: Add refuses.
-/
namespace Go.Proofs.YtoijhecphgdfnaaGreatDoor
open Go.RowKit

/-- Why Add refuses, case by case. -/
theorem addC_cases {sq : Bool} {ms : List Msg} {m : Msg} (hnu : m.nu = 0) (hnt : m.nt = false) (hc : addC sq ms m ≠ 0) :
    (ms.length = 32 ∧ addC sq ms m = 7) ∨ (ms.length ≠ 32 ∧ ((ctB m.ct = false ∧ addC sq ms m = 280) ∨ (ctB m.ct = true ∧ (((∃ i, fi m.ct ms = some i) ∧ addC sq ms m = 6) ∨ (fi m.ct ms = none ∧ (((m.tn = 0 ∨ 8192 < m.tn) ∧ addC sq ms m = 4) ∨ (m.tn ≠ 0 ∧ m.tn ≤ 8192 ∧ okB m.e m.a m.p = false ∧ addC sq ms m = 220))))))) := by
  unfold addC refS at *
  rw [hnt, hnu] at *
  by_cases h1 : ms.length = 32
  · exact Or.inl ⟨h1, by rw [if_pos h1]⟩
  right
  refine ⟨h1, ?_⟩
  rw [if_neg h1] at hc ⊢
  cases h2 : ctB m.ct with
  | false => exact Or.inl ⟨rfl, by simp⟩
  | true =>
    right
    refine ⟨rfl, ?_⟩
    rw [h2] at hc
    simp only [Bool.true_eq_false, if_false] at hc ⊢
    cases h3 : fi m.ct ms with
    | some i => exact Or.inl ⟨⟨i, rfl⟩, by simp⟩
    | none =>
      right
      refine ⟨rfl, ?_⟩
      rw [h3] at hc
      simp only [Option.isSome_none, Bool.false_eq_true, if_false] at hc ⊢
      by_cases h4 : m.tn = 0 ∨ 8192 < m.tn
      · exact Or.inl ⟨h4, by rw [if_pos (by simpa using h4)]⟩
      · right
        rw [not_or] at h4
        refine ⟨h4.1, by omega, ?_⟩
        rw [if_neg (by simpa using h4)] at hc ⊢
        cases h5 : okB m.e m.a m.p with
        | false => exact ⟨rfl, by simp⟩
        | true => rw [h5] at hc; simp at hc
section
variable {w w' z : World} {B r : Nat} {L : Value} {sq : Bool} {tr : Int} {ms : List Msg} {m : Msg}
set_option maxRecDepth 100000 in
set_option maxHeartbeats 8000000 in
theorem rAdd_no (h : RB w B r L sq tr ms) (hnu : m.nu = 0) (hnt : m.nt = false) (hc : addC sq ms m ≠ 0) :
    Calls Tryz.prog 17 #[.pointer (some ⟨r, 0, none⟩), .string m.ct, .slice m.tp m.tn m.tc, .agg #[.bool m.e, .int .i64 m.a, .int .i64 m.p]] w fun e w' => e = .returned (.int .i64 (addC sq ms m)) ∧ Below w.heap.size w w' := by
  have hb1 : Below w.heap.size w (w.alloc (.cells #[.bool m.e, .int .i64 m.a, .int .i64 m.p] 45)) := (Below.refl _ _).alloc (Nat.le_refl _) _
  have bx := Box.new w #[.bool m.e, .int .i64 m.a, .int .i64 m.p] 45
  obtain ⟨V, hV⟩ : ∃ V, w.alloc (.cells #[.bool m.e, .int .i64 m.a, .int .i64 m.p] 45) = V := ⟨_, rfl⟩
  rw [hV] at hb1 bx
  have hv := h.below hb1
  have hC := rControl_any m.ct V
  have hF := rfind_any hv m.ct
  have hR := rRight_any m.e m.a m.p V
  obtain ⟨la, lc, e1, _⟩ := ERow.isSlice h.row
  have hlen := h.len
  obtain ⟨n, hn⟩ : ∃ n, ms.length = n := ⟨_, rfl⟩
  have c0 := hcell hv.blk 0
  have HB : Hid (Below w.heap.size w V) := hb1
  obtain ⟨xb, hxb⟩ : ∃ xb, w.heap.size = xb := ⟨_, rfl⟩
  have x0 : V.cell? ⟨xb, 0, none⟩ = some (.bool m.e) := by rw [← hxb]; exact bx.cell 0
  have x1 : V.cell? ⟨xb, 1, none⟩ = some (.int .i64 m.a) := by rw [← hxb]; exact bx.cell 1
  have x2 : V.cell? ⟨xb, 2, none⟩ = some (.int .i64 m.p) := by rw [← hxb]; exact bx.cell 2
  have hcs := addC_cases hnu hnt hc
  rw [hn] at e1 hcs hlen
  subst e1
  clear h hc hb1 bx hv hn hnu hnt
  rcases hcs with ⟨h1, e⟩ | ⟨h1, ⟨h2, e⟩ | ⟨h2, ⟨⟨i, h3⟩, e⟩ | ⟨h3, ⟨h4, e⟩ | ⟨h4, h5, h6, e⟩⟩⟩⟩
  · rw [e]
    have n32 : (n : Int) ≥ 32 := by omega
    clear e hC hF hR h1 hlen
    go_enter Tryz.func17, Tryz.ntmps17
    go_wp2_with fail
    go_ret
    exact ⟨rfl, HB.out⟩
  · rw [e]
    rw [h2] at hC
    have n32 : ¬ (n : Int) ≥ 32 := by omega
    clear e hF hR h1 hlen h2
    go_enter Tryz.func17, Tryz.ntmps17
    go_wp2_with (first | (go_at_call 46; refine hC.mono ?_; rintro _ w9 ⟨rfl, h9⟩; subst w9))
    go_ret
    exact ⟨rfl, HB.out⟩
  · rw [e]
    rw [h2] at hC
    rw [show fiI m.ct ms = (i : Int) by unfold fiI; rw [h3]] at hF
    have n32 : ¬ (n : Int) ≥ 32 := by omega
    have i0 : (i : Int) ≥ 0 := by omega
    clear e hR h1 hlen h2 h3
    go_enter Tryz.func17, Tryz.ntmps17
    go_wp2_with (first | (go_at_call 46; refine hC.mono ?_; rintro _ w9 ⟨rfl, h9⟩; subst w9) | (go_at_call 47; refine hF.mono ?_; rintro _ w9 ⟨rfl, h9⟩; subst w9))
    go_ret
    exact ⟨rfl, HB.out⟩
  · rw [e]
    rw [h2] at hC
    rw [show fiI m.ct ms = -1 by unfold fiI; rw [h3]] at hF
    have n32 : ¬ (n : Int) ≥ 32 := by omega
    rcases Nat.lt_or_ge 8192 m.tn with h7 | h7
    · have t1 : ¬ ((m.tn : Int) < 1) := by omega
      have t2 : (m.tn : Int) > 8192 := by omega
      clear e hR h1 hlen h2 h3 h4 h7
      go_enter Tryz.func17, Tryz.ntmps17
      go_wp2_with (first | (go_at_call 46; refine hC.mono ?_; rintro _ w9 ⟨rfl, h9⟩; subst w9) | (go_at_call 47; refine hF.mono ?_; rintro _ w9 ⟨rfl, h9⟩; subst w9))
      go_ret
      exact ⟨rfl, HB.out⟩
    · have t1 : (m.tn : Int) < 1 := by omega
      clear e hR h1 hlen h2 h3 h4 h7
      go_enter Tryz.func17, Tryz.ntmps17
      go_wp2_with (first | (go_at_call 46; refine hC.mono ?_; rintro _ w9 ⟨rfl, h9⟩; subst w9) | (go_at_call 47; refine hF.mono ?_; rintro _ w9 ⟨rfl, h9⟩; subst w9))
      go_ret
      exact ⟨rfl, HB.out⟩
  · rw [e]
    rw [h2] at hC
    rw [h6] at hR
    rw [show fiI m.ct ms = -1 by unfold fiI; rw [h3]] at hF
    have n32 : ¬ (n : Int) ≥ 32 := by omega
    have t1 : ¬ ((m.tn : Int) < 1) := by omega
    have t2 : ¬ ((m.tn : Int) > 8192) := by omega
    clear e h1 hlen h2 h3 h4 h5 h6
    go_enter Tryz.func17, Tryz.ntmps17
    go_wp2_with (first | (go_at_call 46; refine hC.mono ?_; rintro _ w9 ⟨rfl, h9⟩; subst w9) | (go_at_call 47; refine hF.mono ?_; rintro _ w9 ⟨rfl, h9⟩; subst w9) | (go_at_call 48; refine hR.mono ?_; rintro _ w2 ⟨rfl, hb2⟩; have HB2 : Hid (Below w.heap.size w w2) := below_then HB.out hb2; clear hb2))
    go_ret
    exact ⟨rfl, HB2.out⟩
end
end Go.Proofs.YtoijhecphgdfnaaGreatDoor

/-
  What Load answers: the place and the code of a list that can't stand. Of no program but for what a state of the loop is.
-/
namespace Go.Proofs.YtoijhecphgdfnaaGreatDoor
open Go.RowKit

theorem refS_cases (sq : Bool) (ms : List Msg) (m : Msg) :
    (ctB m.ct = false ∧ refS sq ms m = 280) ∨ (ctB m.ct = true ∧ (((∃ i, fi m.ct ms = some i) ∧ refS sq ms m = 6) ∨ (fi m.ct ms = none ∧ (((m.tn = 0 ∨ 8192 < m.tn) ∧ refS sq ms m = 4) ∨ (m.tn ≠ 0 ∧ m.tn ≤ 8192 ∧ (((okB m.e m.a m.p = false ∨ (okB m.e m.a m.p = true ∧ m.nt = true ∧ caB m.e m.a = false)) ∧ refS sq ms m = 220) ∨ (okB m.e m.a m.p = true ∧ (m.nt = true → caB m.e m.a = true) ∧ (((m.nu < 0 ∨ 2147483647 < m.nu ∨ (m.nu ≠ 0 ∧ (sq = false ∨ ms.length ≠ 0))) ∧ refS sq ms m = 282) ∨ ((m.nu = 0 ∨ (0 < m.nu ∧ m.nu ≤ 2147483647 ∧ sq = true ∧ ms.length = 0)) ∧ refS sq ms m = 0))))))))) := by
  unfold refS
  cases h2 : ctB m.ct with
  | false => exact Or.inl ⟨rfl, by simp⟩
  | true =>
    refine Or.inr ⟨rfl, ?_⟩
    simp only [Bool.true_eq_false, if_false]
    cases h3 : fi m.ct ms with
    | some i => exact Or.inl ⟨⟨i, rfl⟩, by simp⟩
    | none =>
      refine Or.inr ⟨rfl, ?_⟩
      simp only [Option.isSome_none, Bool.false_eq_true, if_false]
      by_cases h4 : m.tn = 0 ∨ 8192 < m.tn
      · exact Or.inl ⟨h4, by rw [if_pos (by simpa using h4)]⟩
      · right
        rw [if_neg (by simpa using h4)]
        rw [not_or] at h4
        refine ⟨h4.1, by omega, ?_⟩
        by_cases h5 : (okB m.e m.a m.p && (caB m.e m.a || !m.nt)) = false
        · rw [if_pos h5]
          refine Or.inl ⟨?_, rfl⟩
          revert h5
          cases okB m.e m.a m.p <;> cases caB m.e m.a <;> cases m.nt <;> simp
        · rw [if_neg h5]
          right
          have h6 : okB m.e m.a m.p = true ∧ (m.nt = true → caB m.e m.a = true) := by
            revert h5
            cases okB m.e m.a m.p <;> cases caB m.e m.a <;> cases m.nt <;> simp
          refine ⟨h6.1, h6.2, ?_⟩
          by_cases h7 : m.nu = 0
          · exact Or.inr ⟨Or.inl h7, by rw [if_neg (by simp [h7])]⟩
          · by_cases h8 : sq = true ∧ ms.length = 0 ∧ 1 ≤ m.nu ∧ m.nu ≤ 2147483647
            · obtain ⟨e1, e2, e3, e4⟩ := h8
              exact Or.inr ⟨Or.inr ⟨by omega, e4, e1, e2⟩, by rw [if_neg (by unfold nmB; simp [e1, e2, e3, e4])]⟩
            · refine Or.inl ⟨?_, ?_⟩
              · by_cases a1 : m.nu < 0
                · exact Or.inl a1
                · by_cases a2 : 2147483647 < m.nu
                  · exact Or.inr (Or.inl a2)
                  · refine Or.inr (Or.inr ⟨h7, ?_⟩)
                    cases sq with
                    | false => exact Or.inl rfl
                    | true => exact Or.inr fun e => h8 ⟨rfl, e, by omega, by omega⟩
              · rw [if_pos]
                unfold nmB
                cases hsq : sq with
                | false => simp [h7]
                | true =>
                  by_cases b1 : ms.length = 0
                  · by_cases b2 : 1 ≤ m.nu
                    · by_cases b3 : m.nu ≤ 2147483647
                      · exact absurd ⟨hsq, b1, b2, b3⟩ h8
                      · simp [h7, b3]
                    · simp [h7, b2]
                  · simp [h7, b1]
/-- Why Load refuses: the place and the code. -/
def LdNo (sq : Bool) (tr : Int) (xs : List Msg) (at_ cd : Int) : Prop :=
  ((tr < 0 ∨ 16 < tr) ∧ at_ = 0 ∧ cd = 224) ∨ (0 ≤ tr ∧ tr ≤ 16 ∧ 32 < xs.length ∧ at_ = 0 ∧ cd = 7) ∨
  (0 ≤ tr ∧ tr ≤ 16 ∧ xs.length ≤ 32 ∧ ∃ (i : Nat) (x : Msg), xs[i]? = some x ∧ (∀ (j : Nat) (y : Msg), j < i → xs[j]? = some y → refS sq (xs.take j) y = 0) ∧ refS sq (xs.take i) x ≠ 0 ∧ at_ = (i : Int) ∧ cd = refS sq (xs.take i) x)
theorem LdNo.uniq {sq : Bool} {tr : Int} {xs : List Msg} {a c a' c' : Int} (h : LdNo sq tr xs a c) (h' : LdNo sq tr xs a' c') : a = a' ∧ c = c' := by
  rcases h with ⟨h1, rfl, rfl⟩ | ⟨h1, h2, h3, rfl, rfl⟩ | ⟨h1, h2, h3, i, x, k1, k2, k3, rfl, rfl⟩ <;> rcases h' with ⟨g1, rfl, rfl⟩ | ⟨g1, g2, g3, rfl, rfl⟩ | ⟨g1, g2, g3, j, y, l1, l2, l3, rfl, rfl⟩ <;> first | exact ⟨rfl, rfl⟩ | (exfalso; omega) | skip
  rcases Nat.lt_trichotomy i j with e | e | e
  · exact absurd (l2 i x e k1) k3
  · subst e
    rw [k1] at l1
    obtain rfl := Option.some.inj l1
    exact ⟨rfl, rfl⟩
  · exact absurd (k2 j y e l1) l3
theorem LdNo.bad {sq : Bool} {tr : Int} {xs : List Msg} {a c : Int} (h : LdNo sq tr xs a c) : ¬ Good sq tr xs := fun g => by
  have g0 := g.t0
  have g1 := g.t1
  have g2 := g.len
  rcases h with ⟨h1, _⟩ | ⟨h1, h2, h3, _⟩ | ⟨h1, h2, h3, i, x, k1, _, k3, _⟩
  · omega
  · omega
  · exact k3 (g.ref i x k1)
theorem LdNo.here {sq : Bool} {tr : Int} {xs : List Msg} {i : Nat} {x : Msg} {cd : Int} (h0 : 0 ≤ tr) (h1 : tr ≤ 16) (h2 : xs.length ≤ 32) (hx : xs[i]? = some x) (hb : ∀ (j : Nat) (y : Msg), j < i → xs[j]? = some y → refS sq (xs.take j) y = 0) (hr : refS sq (xs.take i) x = cd) (hc : cd ≠ 0) : LdNo sq tr xs i cd :=
  Or.inr (Or.inr ⟨h0, h1, h2, i, x, hx, hb, by rw [hr]; exact hc, rfl, hr.symm⟩)
theorem LdNo.ne {sq : Bool} {tr : Int} {xs : List Msg} {a c : Int} (h : LdNo sq tr xs a c) : c ≠ 0 := by
  rcases h with ⟨_, _, rfl⟩ | ⟨_, _, _, _, rfl⟩ | ⟨_, _, _, i, x, _, _, k3, _, rfl⟩
  · decide
  · decide
  · exact k3
/-- In the midst of the document's Load. -/
structure RLdI (w : World) (r : Nat) (sq : Bool) (tr : Int) (xs : List Msg) (i : Nat) (wx : World) : Prop where
  ex : ∃ L ms, RB wx w.heap.size r L sq tr ms ∧ Wis ms (xs.take i)
  ref : ∀ (j : Nat) (x : Msg), j < i → xs[j]? = some x → refS sq (xs.take j) x = 0
  bel : Below w.heap.size w wx
theorem rld_start (w : World) (sq : Bool) (tr : Int) (xs : List Msg) : RLdI w w.heap.size sq tr xs 0 (w.alloc (.cells #[.slice none 0 0, .bool sq, .int .i64 tr] 117)) := by
  refine ⟨⟨.slice none 0 0, [], ⟨heap_alloc_new _ _, ERow.nil _ _ _ _ _, fun m hm => (by cases hm), by simp, Nat.le_refl _⟩, Wis.nil⟩, fun j x hj _ => by omega, (Below.refl _ _).alloc (Nat.le_refl _) _⟩
/-- What the document's Load leaves. -/
def RLdQ (w : World) (sq : Bool) (tr : Int) (xs : List Msg) (e : Ending) (w' : World) : Prop :=
  (∃ a c, e = .returned (.tuple #[.pointer none, .int .i64 a, .int .i64 c]) ∧ LdNo sq tr xs a c ∧ Below w.heap.size w w') ∨
  (∃ r L ms, e = .returned (.tuple #[.pointer (some ⟨r, 0, none⟩), .int .i64 0, .int .i64 0]) ∧ RB w' w.heap.size r L sq tr ms ∧ Below w.heap.size w w' ∧ Wis ms xs ∧ Good sq tr xs)
theorem RLdI.next {w wx w' : World} {r : Nat} {L : Value} {sq : Bool} {tr : Int} {xs ms : List Msg} {i : Nat} {x : Msg} {a : Option Addr} {c : Nat} (h : ∀ (j : Nat) (x : Msg), j < i → xs[j]? = some x → refS sq (xs.take j) x = 0) (hb : Below w.heap.size w wx) (hR : RB wx w.heap.size r L sq tr ms) (hW : Wis ms (xs.take i)) (hx : xs[i]? = some x) (hr : refS sq (xs.take i) x = 0) (hq : RBQ wx w.heap.size r L sq tr (ms ++ [x.wi a c]) w') : RLdI w r sq tr xs (i + 1) w' := by
  obtain ⟨L', k1, k2, k3⟩ := hq
  refine ⟨⟨L', _, k1, ?_⟩, fun j y hj hy => ?_, hb.trans (k2.below hb.size fun q hq => ?_)⟩
  · rw [List.take_add_one, hx]
    exact hW.snoc ⟨a, c, rfl⟩
  · by_cases e : j < i
    · exact h j y e hy
    · obtain rfl : j = i := by omega
      rw [hx] at hy
      obtain rfl := Option.some.inj hy
      exact hr
  · rcases hq with e | e
    · rw [e]; exact hR.lB
    · exact (ERow.lt hR.row e).1
end Go.Proofs.YtoijhecphgdfnaaGreatDoor
