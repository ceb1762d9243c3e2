/-
  timers: empty, all.
-/
import Derived.Test.YtdglnobapnohmaaDoorWhRem
namespace Go.Proofs.YtdglnobapnohmaaDoor
open Go.RowKit

def cutV (v : Nat → Value) (a b : Nat) : Nat → Value := fun i => if a ≤ i ∧ i < b then .slice none 0 0 else v i
def cutL (L : Nat → List Tm) (a b : Nat) : Nat → List Tm := fun i => if a ≤ i ∧ i < b then [] else L i
/-- What lies in the lists from a to b (b not among them). -/
def btw (L : Nat → List Tm) (a b : Nat) : List Tm := (List.range (b - a)).flatMap fun d => L (a + d)
theorem btw_self (L : Nat → List Tm) (a : Nat) : btw L a a = [] := by unfold btw; rw [Nat.sub_self]; rfl
theorem btw_step (L : Nat → List Tm) {a b : Nat} (h : a ≤ b) : btw L a (b + 1) = btw L a b ++ L b := by
  unfold btw
  rw [show b + 1 - a = (b - a) + 1 by omega, List.range_succ, List.flatMap_append]
  simp only [List.flatMap_cons, List.flatMap_nil, List.append_nil]
  rw [show a + (b - a) = b by omega]
theorem btw_len (L : Nat → List Tm) {a b c : Nat} (h : a ≤ b) (hc : b ≤ c) : (btw L a b).length ≤ (btw L a c).length := by
  induction c with
  | zero => obtain rfl : b = 0 := by omega
            exact Nat.le_refl _
  | succ c ih =>
    rcases Nat.lt_or_ge b (c + 1) with p | p
    · rw [btw_step L (by omega), List.length_append]
      have := ih (by omega)
      omega
    · obtain rfl : b = c + 1 := by omega
      exact Nat.le_refl _
theorem cutV_step (v : Nat → Value) {a b : Nat} (h : a ≤ b) : upd (cutV v a b) b (.slice none 0 0) = cutV v a (b + 1) := by
  funext i
  unfold upd cutV
  by_cases e : i = b
  · subst e; rw [if_pos rfl, if_pos (by omega)]
  · rw [if_neg e]
    by_cases e1 : a ≤ i ∧ i < b
    · rw [if_pos e1, if_pos (by omega)]
    · rw [if_neg e1, if_neg (by omega)]
theorem cutL_step (L : Nat → List Tm) {a b : Nat} (h : a ≤ b) : upd (cutL L a b) b [] = cutL L a (b + 1) := by
  funext i
  unfold upd cutL
  by_cases e : i = b
  · subst e; rw [if_pos rfl, if_pos (by omega)]
  · rw [if_neg e]
    by_cases e1 : a ≤ i ∧ i < b
    · rw [if_pos e1, if_pos (by omega)]
    · rw [if_neg e1, if_neg (by omega)]
theorem cutV_self (v : Nat → Value) (a : Nat) : cutV v a a = v := by funext i; unfold cutV; rw [if_neg (by omega)]
theorem cutL_self (L : Nat → List Tm) (a : Nat) : cutL L a a = L := by funext i; unfold cutL; rw [if_neg (by omega)]
theorem cutV_at (v : Nat → Value) (a b : Nat) : cutV v a b b = v b := by unfold cutV; rw [if_neg (by omega)]
theorem cutL_at (L : Nat → List Tm) (a b : Nat) : cutL L a b b = L b := by unfold cutL; rw [if_neg (by omega)]
theorem cutV_ft {T M a b q : Nat} {v : Nat → Value} (h : Ft T M (cutV v a b) q) : Ft T M v q := by
  rcases h with h | h | ⟨i, hi, e⟩
  · exact Or.inl h
  · exact Or.inr (Or.inl h)
  · unfold cutV at e
    split at e
    · cases e
    · exact Or.inr (Or.inr ⟨i, hi, e⟩)
/-- append, in the walk, by an equation of its run. -/
theorem wpList_append_run {P : Program} {w w' : World} {ops : Array Oper} {rest : List Oper} {o : Oper} {a : Act} {Q : Exit → Act → World → Prop} (hgd : o.guard = none) (s x : Operand) (t : TypeId) (v' : Value)
    (ho : o.op = .call { callee := .builtin .append, args := #[s, x], argTypes := #[t, t] }) (hr : (Builtin.append_ #[t, t] o.type #[a.eval s, a.eval x]).run P w = .ok v' w') (h : wpList P ops Q rest (a.put o.dst v') w') : wpList P ops Q (o :: rest) a w :=
  wpList_plain hgd fun _ hK => by
    unfold Oper.wp execOp
    simp only [ho, resolve, invoke, builtin, Sem.run_bind, Sem.run_pure, Result.andThen_ok, List.map_toArray, List.map_cons, List.map_nil, hr]
    exact hK _ _ h
/-- append of a timers' list. -/
theorem run_tapp {w : World} {B B' : Nat} {v u : Value} {xs ys : List Tm} {a : Option Addr} {n c : Nat} (h : TRow w B v xs) (hy : TRow w B' u ys) (hu : u = .slice a n c) (hl : xs.length + ys.length ≤ 1000000000) (hB : B ≤ w.heap.size) :
    ∃ a' c' w', (Builtin.append_ #[49, 49] 49 #[v, .slice a n c]).run Tryd.prog w = .ok (.slice a' (xs.length + ys.length) c') w' ∧ TRow w' B (.slice a' (xs.length + ys.length) c') (xs ++ ys) ∧ Off (fun q => v.ownBlock = some q) w w' ∧ ((Value.slice a' (xs.length + ys.length) c').ownBlock = v.ownBlock ∨ (Value.slice a' (xs.length + ys.length) c').ownBlock = some w.heap.size) := by
  subst hu
  have hn := hy.len
  refine run_eapp (P := Tryd.prog) Tryd.underlying49 celT encT_len encT_one h hn (fun e => ?_) (fun a' ea j x hx => ?_) hl (by omega) hB
  · obtain ⟨_, _, e1, _, e2⟩ := hy.isSlice
    simp only [Value.slice.injEq] at e1
    rw [hn]
    exact e2 (by rw [← e1.1]; exact e)
  · subst ea
    rcases hy.form with ⟨e1, _⟩ | ⟨g, cap, e1, _⟩
    · cases e1
    · simp only [Value.slice.injEq, Option.some.injEq] at e1
      rw [e1.1]
      exact World.ownsRow.cells hy (g := g) (by rw [e1.1]; rfl) j x hx
section
variable {w : World} {B T M now n : Nat} {v : Nat → Value} {L : Nat → List Tm} {f : Int → Option (Nat × Nat)}
/-- While lists are emptied. -/
structure EmI (w : World) (B T M now : Nat) (v : Nat → Value) (L : Nat → List Tm) (f : Int → Option (Nat × Nat)) (n : Nat) (lv0 : Value) (xs : List Tm) (a b : Nat) (lv : Value) (wx : World) : Prop where
  t : Tms wx B T M now (cutV v a b) (cutL L a b) f n
  r : TRow wx B lv (xs ++ btw L a b)
  o : Off (fun q => q = T ∨ lv0.ownBlock = some q) w wx
  d : ∀ q, lv.ownBlock = some q → ¬ Ft T M v q
  e : ∀ q, lv.ownBlock = some q → lv0.ownBlock = some q ∨ w.heap.size ≤ q
set_option maxRecDepth 100000 in
set_option maxHeartbeats 4000000 in
theorem empty_any (h : Tms w B T M now v L f n) (hB : B ≤ w.heap.size) {a0 : Option Addr} {n0 c0 : Nat} {xs : List Tm} (hx : TRow w B (.slice a0 n0 c0) xs) (hd : ∀ q, (Value.slice a0 n0 c0).ownBlock = some q → ¬ Ft T M v q) {l s0 s1 : Nat} (hl : l < 7) (hs : s0 ≤ s1 + 1) (hs1 : s1 < 64) (hb : (xs ++ btw L (64 * l + s0) (64 * l + s1 + 1)).length ≤ 1000000) :
    Calls Tryd.prog 60 #[.pointer (some ⟨T, 0, none⟩), .slice a0 n0 c0, .int .i64 (l : Int), .int .i64 (s0 : Int), .int .i64 (s1 : Int)] w fun e w' => ∃ a1 n1 c1, e = .returned (.slice a1 n1 c1) ∧ EmI w B T M now v L f n (.slice a0 n0 c0) xs (64 * l + s0) (64 * l + s1 + 1) (.slice a1 n1 c1) w' := by
  have HI : Hid (EmI w B T M now v L f n (.slice a0 n0 c0) xs (64 * l + s0) (64 * l + s0) (.slice a0 n0 c0) w) := ⟨by rw [cutV_self, cutL_self]; exact h, by rw [btw_self, List.append_nil]; exact hx, Off.refl _ _, hd, fun q e => Or.inl e⟩
  have hl7 : (l : Int) < 7 := by omega
  have HOLD : Hid (∀ i q, i < 448 → (v i).ownBlock = some q → q < w.heap.size) := fun i q hi e => ((h.row i hi).lt e).2
  clear h hx hd
  go_enter Tryd.func60, Tryd.ntmps60
  go_wp2_with fail
  go_loopw [1, 11] (fun t1 t11 wx => ∃ (p : Nat) (a1 : Option Addr) (n1 c1 : Nat), s0 ≤ p ∧ p ≤ s1 + 1 ∧ t11 = .int .i64 (p : Int) ∧ t1 = .slice a1 n1 c1 ∧ Hid (EmI w B T M now v L f n (.slice a0 n0 c0) xs (64 * l + s0) (64 * l + p) (.slice a1 n1 c1) wx)) (fun _ t11 _ => s1 + 1 - (intOf t11).toNat)
  case atStart => exact ⟨s0, a0, n0, c0, Nat.le_refl _, hs, rfl, rfl, HI.out⟩
  case round =>
    obtain ⟨p, a1, n1, c1, hp0, hp1, rfl, rfl, HJ⟩ := hrel
    by_cases hlt : p ≤ s1
    · have hlt1 : (p : Int) ≤ s1 := by omega
      have hp64 : (p : Int) < 64 := by omega
      have hi : 64 * l + p < 448 := by omega
      have hrow := HJ.out.t.row _ hi
      rw [cutV_at, cutL_at] at hrow
      obtain ⟨ga, gc, hv, _⟩ := hrow.isSlice
      have cl : wr.cell? ⟨T, 1 + l * 64 + p, none⟩ = some (v (64 * l + p)) := by
        rw [show 1 + l * 64 + p = 1 + (64 * l + p) by omega, ← cutV_at v (64 * l + s0) (64 * l + p)]; exact HJ.out.t.tb.cl hi
      rw [hv] at cl
      have hwB : B ≤ wr.heap.size := Nat.le_trans hB HJ.out.o.size
      have hlen : (xs ++ btw L (64 * l + s0) (64 * l + p)).length + (L (64 * l + p)).length ≤ 1000000 := by
        have h1 := btw_len L (a := 64 * l + s0) (b := 64 * l + p + 1) (c := 64 * l + s1 + 1) (by omega) (by omega)
        rw [btw_step L (by omega)] at h1
        simp only [List.length_append] at h1 hb ⊢
        omega
      obtain ⟨a2, c2, W1, hap, r1, o1, b1⟩ := run_tapp HJ.out.r hrow hv (by omega) hwB
      obtain ⟨n2, hn2⟩ : ∃ q, (xs ++ btw L (64 * l + s0) (64 * l + p)).length + (L (64 * l + p)).length = q := ⟨_, rfl⟩
      obtain ⟨m, hm⟩ : ∃ q, (L (64 * l + p)).length = q := ⟨_, rfl⟩
      rw [hn2] at hap r1 b1
      rw [hm] at hap cl
      have ht1 : Tms W1 B T M now (cutV v (64 * l + s0) (64 * l + p)) (cutL L (64 * l + s0) (64 * l + p)) f n := HJ.out.t.off o1 (fun q hq e => HJ.out.d q e (cutV_ft hq))
      have cl1 : W1.cell? ⟨T, 1 + l * 64 + p, none⟩ = some (.slice ga m gc) := by
        rw [show 1 + l * 64 + p = 1 + (64 * l + p) by omega, ← hm, ← hv, ← cutV_at v (64 * l + s0) (64 * l + p)]; exact ht1.tb.cl hi
      have fl1 : W1.frozen? ⟨T, 1 + l * 64 + p, none⟩ = false := ht1.tb.fr _
      have HN : Hid (EmI w B T M now v L f n (.slice a0 n0 c0) xs (64 * l + s0) (64 * l + (p + 1)) (.slice a2 n2 c2) (W1.setCell ⟨T, 1 + l * 64 + p, none⟩ (.slice none 0 0))) := by
        rw [show 1 + l * 64 + p = 1 + (64 * l + p) by omega, show 64 * l + (p + 1) = 64 * l + p + 1 by omega]
        have hTl := HJ.out.t.tb.lt
        have hne : ∀ q, (Value.slice a2 n2 c2).ownBlock = some q → q ≠ T ∧ ¬ Ft T M v q := fun q e => by
          rcases b1 with b1 | b1
          · rw [b1] at e
            have := HJ.out.d q e
            exact ⟨fun e' => this (Or.inl e'), this⟩
          · rw [b1] at e
            injection e with e
            subst e
            refine ⟨by omega, fun hq => ?_⟩
            rcases hq with hq | hq | ⟨i, hi', hq⟩
            · omega
            · have := HJ.out.t.mp.lt; omega
            · by_cases hc : 64 * l + s0 ≤ i ∧ i < 64 * l + p
              · have := HOLD.out i _ hi' hq; have := HJ.out.o.size; omega
              · have := HJ.out.t.row i hi'
                unfold cutV at this
                rw [if_neg hc] at this
                have := (this.lt hq).2
                omega
        refine ⟨?_, ?_, ?_, fun q e => (hne q e).2, fun q e => ?_⟩
        · rw [← cutV_step v (by omega), ← cutL_step L (by omega)]
          exact ht1.setList hi (Off.refl _ _) (ERow.nil _ _ _ _ _) (Or.inl rfl)
        · rw [btw_step L (by omega), ← List.append_assoc]
          exact r1.keep fun g e => heap_set_ne (hne g e).1
        · refine (HJ.out.o.join (Q := fun q => (Value.slice a1 n1 c1).ownBlock = some q) o1 (fun q hq e => ?_)).setCell (p := ⟨T, 1 + (64 * l + p), none⟩) (Or.inl rfl) _
          rcases HJ.out.e q e with h | h
          · exact Or.inr h
          · omega
        · rcases b1 with b1 | b1
          · rw [b1] at e; exact HJ.out.e q e
          · rw [b1] at e
            injection e with e
            have := HJ.out.o.size
            exact Or.inr (by omega)
      clear hrow hn2 hm r1 o1 b1 ht1 hv HI
      go_wp2_with (at_builtin; refine wpList_append_run rfl (.tmp 18) (.tmp 26) 49 _ rfl hap ?_)
      go_roundw
      case rel => exact ⟨p + 1, a2, n2, c2, by omega, by omega, by go_num, rfl, HN.out⟩
      case measure => simp [intOf]; omega
    · have hlt1 : ¬ (p : Int) ≤ s1 := by omega
      obtain rfl : p = s1 + 1 := by omega
      clear HI
      go_wp2_with fail
      go_ret
      exact ⟨a1, n1, c1, rfl, by rw [show 64 * l + s1 + 1 = 64 * l + (s1 + 1) by omega]; exact HJ.out⟩
end
end Go.Proofs.YtdglnobapnohmaaDoor
