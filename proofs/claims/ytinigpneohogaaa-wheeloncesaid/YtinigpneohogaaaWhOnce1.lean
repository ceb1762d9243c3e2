/-
  WheelOnce: the list of what is due beside the wheel.
-/
import Derived.Test.YtinigpneohogaaaWhOnce0
namespace Go.Proofs.Ytinigpneohogaaa
open Go.RowKit

theorem dk_at {D : List Opv} (h : DK D) {i j : Nat} {x y : Opv} (hi : D[i]? = some x) (hj : D[j]? = some y) (e : x.key = y.key) : i = j := by
  obtain ⟨hi1, hi2⟩ := List.getElem?_eq_some_iff.1 hi
  obtain ⟨hj1, hj2⟩ := List.getElem?_eq_some_iff.1 hj
  rcases Nat.lt_trichotomy i j with g | g | g
  · exact absurd e (by have := List.pairwise_iff_getElem.1 h i j hi1 hj1 g; rw [hi2, hj2] at this; exact this)
  · exact g
  · exact absurd e.symm (by have := List.pairwise_iff_getElem.1 h j i hj1 hi1 g; rw [hi2, hj2] at this; exact this)
/-- What is due, as the list has it. -/
structure Due (now : Nat) (D : List Opv) (S : List Tm) : Prop where
  dk : DK D
  pm : (D.map tmO).Perm S
  tk : ∀ y ∈ D, 0 ≤ y.tick
  ky : OpsI D
theorem Due.push {now : Nat} {D : List Opv} {S : List Tm} (h : Due now D S) {y : Opv} (hy : ∀ x ∈ D, x.key ≠ y.key) (ht : 0 ≤ y.tick) (hk : KeyI y.key ∧ KeyI y.tick) : Due now (D ++ [y]) (setS y.key y.tick.toNat S) := by
  have hn : ∀ x ∈ S, x.1 ≠ y.key := fun x hx => by
    obtain ⟨z, hz, rfl⟩ := List.mem_map.1 (h.pm.symm.subset hx)
    exact hy z hz
  have hf : S.filter (keyNe y.key) = S := List.filter_eq_self.2 fun x hx => decide_eq_true (hn x hx)
  refine ⟨List.pairwise_append.2 ⟨h.dk, List.pairwise_singleton _ _, fun a ha b hb => ?_⟩, ?_, fun z hz => ?_, fun z hz => ?_⟩
  · rw [List.mem_singleton] at hb; subst hb; exact hy a ha
  · rw [List.map_append]
    have h1 := setS_perm y.key y.tick.toNat S
    rw [hf] at h1
    exact (List.perm_append_comm.trans ((h.pm).cons (tmO y))).trans h1.symm
  · rcases List.mem_append.1 hz with hz | hz
    · exact h.tk z hz
    · rw [List.mem_singleton] at hz; subst hz; exact ht
  · rcases List.mem_append.1 hz with hz | hz
    · exact h.ky z hz
    · rw [List.mem_singleton] at hz; subst hz; exact hk
theorem perm_set {k : Int} {t t0 : Nat} : ∀ {l : List Tm} {m : Nat}, Uniq l → l[m]? = some (k, t0) → (l.set m (k, t)).Perm ((k, t) :: l.filter (keyNe k))
  | [], _, _, h => by simp at h
  | x :: r, 0, hu, h => by
    simp only [List.getElem?_cons_zero, Option.some.injEq] at h
    subst h
    have h1 := (List.pairwise_cons.1 hu).1
    rw [List.set_cons_zero, List.filter_cons_of_neg (by simp [keyNe]), show r.filter (keyNe k) = r from List.filter_eq_self.2 fun y hy => decide_eq_true (fun e => h1 y hy e.symm)]
  | x :: r, m + 1, hu, h => by
    rw [List.getElem?_cons_succ] at h
    have h1 := List.pairwise_cons.1 hu
    have hx : keyNe k x = true := decide_eq_true (h1.1 _ (List.mem_of_getElem? h))
    rw [List.set_cons_succ, List.filter_cons_of_pos hx]
    exact ((perm_set h1.2 h).cons x).trans (List.Perm.swap _ _ _)
theorem Due.uq {now : Nat} {D : List Opv} {S : List Tm} (h : Due now D S) : Uniq (D.map tmO) := by
  unfold Uniq
  rw [List.pairwise_map]
  exact h.dk
theorem Due.put {now m : Nat} {D : List Opv} {S : List Tm} (h : Due now D S) {x y : Opv} (hx : D[m]? = some x) (e : x.key = y.key) (ht : 0 ≤ y.tick) (hk : KeyI y.key ∧ KeyI y.tick) : Due now (D.set m { x with tick := y.tick }) (setS y.key y.tick.toNat S) := by
  have hm : (D.map tmO)[m]? = some (y.key, x.tick.toNat) := by rw [List.getElem?_map, hx]; simp [tmO, e]
  have hp : ((D.set m { x with tick := y.tick }).map tmO).Perm (setS y.key y.tick.toNat S) := by
    rw [List.map_set]
    have e1 : tmO { x with tick := y.tick } = (y.key, y.tick.toNat) := by simp [tmO, e]
    rw [e1]
    refine (perm_set h.uq hm).trans ?_
    exact ((h.pm.filter _).cons _).trans (setS_perm _ _ _).symm
  have hmem : ∀ z ∈ D.set m { x with tick := y.tick }, z ∈ D ∨ z = { x with tick := y.tick } := fun z hz => List.mem_or_eq_of_mem_set hz
  refine ⟨?_, hp, fun z hz => ?_, fun z hz => ?_⟩
  · have h1 : Uniq ((D.set m { x with tick := y.tick }).map tmO) := by
      have e1 : tmO { x with tick := y.tick } = (y.key, y.tick.toNat) := by simp [tmO, e]
      rw [List.map_set, e1]
      refine Uniq.perm (List.pairwise_cons.2 ⟨fun z hz => ?_, h.uq.filter (keyNe y.key)⟩) (perm_set h.uq hm).symm
      have := (List.mem_filter.1 hz).2
      unfold keyNe at this
      simp at this
      exact fun g => this g.symm
    unfold Uniq at h1
    rw [List.pairwise_map] at h1
    exact h1
  · rcases hmem z hz with hz | rfl
    · exact h.tk z hz
    · exact ht
  · rcases hmem z hz with hz | rfl
    · exact h.ky z hz
    · exact ⟨e ▸ hk.1, hk.2⟩
/-- Where a key lies, if it does. -/
def AtK (D : List Opv) (k : Int) (j : Nat) (at_ : Int) : Prop := (at_ = -1 ∧ ∀ x ∈ D.take j, x.key ≠ k) ∨ ∃ (m : Nat) (x : Opv), at_ = (m : Int) ∧ m < j ∧ D[m]? = some x ∧ x.key = k
theorem AtK.yes {D : List Opv} {k : Int} {j : Nat} {x : Opv} (hx : D[j]? = some x) (e : x.key = k) : AtK D k (j + 1) (j : Int) := Or.inr ⟨j, x, rfl, Nat.lt_succ_self _, hx, e⟩
theorem AtK.no {D : List Opv} {k at_ : Int} {j : Nat} {x : Opv} (h : AtK D k j at_) (hx : D[j]? = some x) (e : x.key ≠ k) : AtK D k (j + 1) at_ := by
  rcases h with ⟨h1, h2⟩ | ⟨m, y, h1, h2, h3, h4⟩
  · refine Or.inl ⟨h1, fun z hz => ?_⟩
    rw [List.take_add_one, hx, Option.toList_some] at hz
    rcases List.mem_append.1 hz with hz | hz
    · exact h2 z hz
    · rw [List.mem_singleton] at hz; subst hz; exact e
  · exact Or.inr ⟨m, y, h1, by omega, h3, h4⟩
/-! ### the list beside the wheel -/
def On (w : World) (W now : Nat) (S : List Tm) (dv : Value) (D : List Opv) (wx : World) : Prop := ∃ F, Whl wx w.heap.size W now S F ∧ ORow wx w.heap.size dv D ∧ (∀ q, dv.ownBlock = some q → ¬ F q) ∧ Below w.heap.size w wx
section
variable {w wx wy : World} {W now : Nat} {S : List Tm} {dv : Value} {D : List Opv}
theorem On.below (h : On w W now S dv D wx) (hb : Below wx.heap.size wx wy) : On w W now S dv D wy := by
  obtain ⟨F, h1, h2, h3, h4⟩ := h
  exact ⟨F, h1.below hb, h2.below hb, h3, h4.trans (hb.mono h4.size)⟩
theorem On.set (h : On w W now S dv D wx) {k : Int} {t : Nat} (hk : KeyI k) (h1 : now < t) (h2 : t ≤ MaxT) (hl : (S.filter (keyNe k)).length < 4096) :
    Calls Try.prog 8 #[.pointer (some ⟨W, 0, none⟩), .int .i64 k, .int .i64 (t : Int)] wx fun e w' => e = .returned .nilIface ∧ On w W now (setS k t S) dv D w' := by
  obtain ⟨F, hW, hr, hd, hb⟩ := h
  refine (set_ok hW hb.size hk h1 h2 hl).mono ?_
  rintro e w' ⟨he, F', hW', o, hf⟩
  refine ⟨he, F', hW', hr.off o (fun q e => hd q e), fun q e g => ?_, hb.trans (o.below hb.size fun q hq => (hW.foot hq).1)⟩
  rcases hf q g with g | g
  · exact hd q e g
  · have := (hr.lt e).2; omega
theorem On.adv (h : On w W now S dv D wx) {t : Nat} (h1 : now ≤ t) (h2 : t ≤ MaxT) :
    Calls Try.prog 9 #[.pointer (some ⟨W, 0, none⟩), .int .i64 (t : Int)] wx fun e w' => ∃ a n c, e = .returned (.tuple #[.slice a n c, .nilIface]) ∧ TRow w' w.heap.size (.slice a n c) (S.filter (upto t)) ∧ On w W t (S.filter (past t)) dv D w' := by
  obtain ⟨F, hW, hr, hd, hb⟩ := h
  refine (adv_ok hW hb.size h1 h2).mono ?_
  rintro e w' ⟨a, n, c, he, F', hW', hr', o, hf, _⟩
  refine ⟨a, n, c, he, hr', F', hW', hr.off o (fun q e => hd q e), fun q e g => ?_, hb.trans (o.below hb.size fun q hq => (hW.foot hq).1)⟩
  rcases hf q g with g | g
  · exact hd q e g
  · have := (hr.lt e).2; omega
theorem On.push (h : On w W now S dv D wx) (y : Opv) (hl : D.length + 1 ≤ 1000000000) :
    ∃ a' c' w', (Builtin.append_ #[22, 22] 22 #[dv, .slice (some ⟨wx.heap.size, 0, none⟩) 1 1]).run Try.prog (wx.alloc (.cells #[.int .i64 y.kind, .int .i64 y.key, .string y.text, .int .i64 y.tick] 32)) = .ok (.slice a' (D.length + 1) c') w' ∧ On w W now S (.slice a' (D.length + 1) c') (D ++ [y]) w' := by
  obtain ⟨F, hW, hr, hd, hb⟩ := h
  obtain ⟨a', c', w', hap, r, o, l⟩ := run_epush (P := Try.prog) (t := 22) Try.underlying22 celO encO_len encO_one (w := wx) hr y #[.int .i64 y.kind, .int .i64 y.key, .string y.text, .int .i64 y.tick] rfl hl (by omega) hb.size
  refine ⟨a', c', w', hap, F, hW.off o (fun q hq e => hd q e hq), r, fun q e g => ?_, hb.trans (o.below hb.size fun q e => (hr.lt e).1)⟩
  rcases l with l | l
  · exact hd q (l ▸ e) g
  · rw [l] at e
    have := (hW.foot g).2
    simp only [Option.some.injEq] at e
    omega
theorem flat_set {x x' : Opv} (hx : encO x' = (encO x).set 3 (.int .i64 x'.tick)) : ∀ (D : List Opv) (m : Nat), D[m]? = some x → (D.set m x').flatMap encO = (D.flatMap encO).set (m * 4 + 3) (.int .i64 x'.tick)
  | [], m, h => by simp at h
  | y :: r, 0, h => by
    simp only [List.getElem?_cons_zero, Option.some.injEq] at h
    subst h
    rw [List.set_cons_zero, List.flatMap_cons, List.flatMap_cons, hx, List.set_append_left _ _ (by rw [encO_len]; omega)]
  | y :: r, m + 1, h => by
    rw [List.getElem?_cons_succ] at h
    rw [List.set_cons_succ, List.flatMap_cons, List.flatMap_cons, flat_set hx r m h, List.set_append_right _ _ (by rw [encO_len]; omega), encO_len]
    congr 2
    omega
theorem On.put {g n c m : Nat} {x : Opv} (h : On w W now S (.slice (some ⟨g, 0, none⟩) n c) D wx) (hx : D[m]? = some x) (t : Int) : On w W now S (.slice (some ⟨g, 0, none⟩) n c) (D.set m { x with tick := t }) (wx.setCell ⟨g, m * 4 + 3, none⟩ (.int .i64 t)) := by
  obtain ⟨F, hW, hr, hd, hb⟩ := h
  have hn := hr.len
  subst hn
  have hs := World.ownsRow.stored hr (m * 4 + 3) (.int .i64 t)
  have o : Off (fun q => q = g) wx (wx.setCell ⟨g, m * 4 + 3, none⟩ (.int .i64 t)) := Off.setCell (P := fun q => q = g) (p := ⟨g, m * 4 + 3, none⟩) (Off.refl _ _) rfl _
  refine ⟨F, hW.off o (fun q hq e => hd q (by rw [e]; rfl) hq), ?_, hd, hb.trans (o.below hb.size fun q e => by have := (hr.lt (g := g) rfl).1; omega)⟩
  unfold ORow ERow
  rw [List.length_set, flat_set (x := x) (x' := { x with tick := t }) rfl D m hx]
  exact hs.1
end
end Go.Proofs.Ytinigpneohogaaa
