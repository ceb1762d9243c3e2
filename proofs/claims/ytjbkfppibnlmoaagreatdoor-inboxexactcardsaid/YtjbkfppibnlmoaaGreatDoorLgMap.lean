import Derived.Test.YtjbkfppibnlmoaaGreatDoorIbRb4
import Derived.Test.YtjbkfppibnlmoaaGreatDoorIbDcd
import Derived.Test.YtjbkfppibnlmoaaGreatDoorIbOff
import Derived.Test.YtjbkfppibnlmoaaGreatDoorIbPut
/-
  The document's box: Accept.
-/
namespace Go.Proofs.YtjbkfppibnlmoaaGreatDoor
open Go.RowKit

theorem bf_eq {es : List Ent} {e : Ent} (h : mayB e = true) : (decide (0 < es.length) && decide (e.tk < lastT es)) = decide (e.tk < lastT es) := by
  cases es with
  | nil =>
    have := (mayB_is h).2.2.2.2.2.1
    have e1 : lastT [] = 0 := rfl
    rw [e1, decide_eq_false (by omega : ¬ e.tk < 0)]
    simp
  | cons x r => simp
/-- The block X keeps its cells but the one at 4. -/
def XK (X : Nat) (w w' : World) : Prop := ∀ cs t, w.heap[X]? = some (.cells cs t (0, 0)) → ∃ u, w'.heap[X]? = some (.cells (cs.set! 4 u) t (0, 0))
theorem set_self (cs : Array Value) : ∃ u, cs.set! 4 u = cs := by
  refine ⟨cs.getD 4 undef, ?_⟩
  rw [Array.set!_eq_setIfInBounds]
  apply Array.ext_getElem?
  intro i
  rw [Array.getElem?_setIfInBounds]
  split
  · rename_i h
    subst h
    split
    · rename_i h2
      simp [h2]
    · rename_i h2
      rw [Array.getElem?_eq_none (by omega)]
  · rfl
theorem XK.of_off {P : Nat → Prop} {X : Nat} {w w' : World} (o : Off P w w') (hX : ¬ P X) : XK X w w' := fun cs t h => by
  obtain ⟨u, hu⟩ := set_self cs
  exact ⟨u, by rw [hu]; exact (o.block X (blk_lt h) hX).trans h⟩
theorem XK.trans {X : Nat} {a b c : World} (h : XK X a b) (k : XK X b c) : XK X a c := fun cs t hx => by
  obtain ⟨u, h1⟩ := h cs t hx
  obtain ⟨u', h2⟩ := k _ _ h1
  refine ⟨u', ?_⟩
  rw [h2]
  simp [Array.set!_eq_setIfInBounds]
theorem XK.set {X : Nat} (w : World) (u : Value) : XK X w (w.setCell ⟨X, 4, none⟩ u) := fun _ _ hx => ⟨u, set_heap hx 4 u⟩
/-- What a call leaves of the document's box. -/
def RBQ (w : World) (B X : Nat) (v : Value) (K R : Int) (es' : List Ent) (w' : World) : Prop :=
  ∃ v', RBx w' B X v' K R es' ∧ Off (fun q => q = X ∨ v.ownBlock = some q) w w' ∧ (∀ q, v'.ownBlock = some q → v.ownBlock = some q ∨ w.heap.size ≤ q) ∧ XK X w w'
section
variable {w w' : World} {B X : Nat} {v : Value} {K R : Int} {es : List Ent}
theorem RBx.off {P : Nat → Prop} (h : RBx w B X v K R es) (o : Off P w w') (hX : ¬ P X) (hv : ∀ q, v.ownBlock = some q → ¬ P q) (hy : ∀ q cs, w.heap[q]? = some (.cells cs 5 (0, 0)) → ¬ P q) : RBx w' B X v K R es := by
  have e : ∀ i, w'.cell? ⟨X, i, none⟩ = w.cell? ⟨X, i, none⟩ := fun i => o.cell (p := ⟨X, i, none⟩) h.lt hX
  exact ⟨Nat.lt_of_lt_of_le h.lt o.size, by rw [e]; exact h.c1, by rw [e]; exact h.c2, by rw [e]; exact h.c3, by rw [e]; exact h.c4, by rw [o.frozen (p := ⟨X, 4, none⟩) h.lt hX]; exact h.fz, ERow.off h.row o hv, fun x hx => (h.own x hx).byType o hy, h.inv⟩
/-- The append behind a copy: what it comes to, and what it leaves with the store. -/
theorem racc_step {z : World} (h : RBx w B X v K R es) (hXt : ∃ cs t cur, w.heap[X]? = some (.cells cs t cur) ∧ t ≠ 5 ∧ t ≠ 30) (hB : B ≤ w.heap.size) {e : Ent} (ho : Own z w.heap.size e) (hb : Below w.heap.size w z) (hi : Inv K R (es ++ [e])) :
    ∃ a2 n2 c2 W2, (Builtin.append_ #[22, 22] 22 #[v, .slice (some ⟨z.heap.size, 0, none⟩) 1 1]).run Tryz.prog (z.alloc (.cells #[.string e.ct, .slice e.tp e.tn e.tc, .int .i64 e.nu, .int .i64 e.tk, .slice e.cp e.cn e.cc, .string e.cd, .slice e.ap e.an e.ac] 30)) = .ok (.slice a2 n2 c2) W2 ∧ z.cell? ⟨X, 4, none⟩ = some v ∧ (z.alloc (.cells #[.string e.ct, .slice e.tp e.tn e.tc, .int .i64 e.nu, .int .i64 e.tk, .slice e.cp e.cn e.cc, .string e.cd, .slice e.ap e.an e.ac] 30)).cell? ⟨X, 4, none⟩ = some v ∧ W2.cell? ⟨X, 4, none⟩ = some v ∧ W2.frozen? ⟨X, 4, none⟩ = false ∧ Hid (RBQ w B X v K R (es ++ [e]) (W2.setCell ⟨X, 4, none⟩ (.slice a2 n2 c2)) ∧ Own (W2.setCell ⟨X, 4, none⟩ (.slice a2 n2 c2)) w.heap.size e) := by
  have hz := h.below hb
  have hlen := h.inv.len
  obtain ⟨a2, c2, W2, hr, r2, o2, s2⟩ := run_epush (P := Tryz.prog) (t := 22) Tryz.underlying22 celE encE_len encE_one (w := z) hz.row e #[.string e.ct, .slice e.tp e.tn e.tc, .int .i64 e.nu, .int .i64 e.tk, .slice e.cp e.cn e.cc, .string e.cd, .slice e.ap e.an e.ac] rfl (by omega) (by decide) (Nat.le_trans hB hb.size)
  obtain ⟨xcs, xt, xcur, hX0, hX1, hX2⟩ := hXt
  have hXz : z.heap[X]? = some (.cells xcs xt xcur) := (hb.block X h.lt).trans hX0
  have nv : v.ownBlock ≠ some X := fun hq => by
    obtain ⟨cs', hc⟩ := row_type hz.row hq
    rw [hXz] at hc
    simp only [Option.some.injEq, Obj.cells.injEq] at hc
    exact hX2 hc.2.1
  have byt : ∀ q cs, z.heap[q]? = some (.cells cs 5 (0, 0)) → ¬ v.ownBlock = some q := fun q cs hc hq => by
    obtain ⟨cs', hc'⟩ := row_type hz.row hq
    rw [hc] at hc'
    simp at hc'
  have e4 : W2.cell? ⟨X, 4, none⟩ = some v := by rw [o2.cell (p := ⟨X, 4, none⟩) hz.lt nv]; exact hz.c4
  have f4 : W2.frozen? ⟨X, 4, none⟩ = false := by rw [o2.frozen (p := ⟨X, 4, none⟩) hz.lt nv]; exact hz.fz
  have hX2z : W2.heap[X]? = some (.cells xcs xt xcur) := (o2.block X hz.lt nv).trans hXz
  refine ⟨a2, _, c2, W2, hr, hz.c4, (hz.below ((Below.refl _ _).alloc (Nat.le_refl _) _)).c4, e4, f4, ?_⟩
  have o3 : Off (fun q => q = X) W2 (W2.setCell ⟨X, 4, none⟩ (.slice a2 (es.length + 1) c2)) := Off.setCell (P := fun q => q = X) (Off.refl _ _) (p := ⟨X, 4, none⟩) rfl _
  have rowX : ∀ {g : Nat}, (Value.slice a2 (es.length + 1) c2).ownBlock = some g → ¬ g = X := fun {g} hg e1 => by
    obtain ⟨cs', hc⟩ := row_type r2 hg
    rw [e1, hX2z] at hc
    simp only [Option.some.injEq, Obj.cells.injEq] at hc
    exact hX2 hc.2.1
  have bytX : ∀ q cs, W2.heap[q]? = some (.cells cs 5 (0, 0)) → ¬ q = X := fun q cs hc e1 => by
    rw [e1, hX2z] at hc
    simp only [Option.some.injEq, Obj.cells.injEq] at hc
    exact hX1 hc.2.1
  have key : ∀ (C : Nat) (x : Ent), Own z C x → Own (W2.setCell ⟨X, 4, none⟩ (.slice a2 (es.length + 1) c2)) C x := fun C x hx => (hx.byType o2 byt).byType o3 bytX
  have cO : ∀ i, ¬ i = 4 → (W2.setCell ⟨X, 4, none⟩ (.slice a2 (es.length + 1) c2)).cell? ⟨X, i, none⟩ = z.cell? ⟨X, i, none⟩ := fun i hi => by
    rw [World.cell?_setCell_other _ _ _ _ (by simp; try omega), o2.cell (p := ⟨X, i, none⟩) hz.lt nv]
  refine ⟨⟨.slice a2 (es.length + 1) c2, ⟨?_, ?_, ?_, ?_, ?_, ?_, ERow.off r2 o3 fun g hg => rowX hg, fun x hx => ?_, hi⟩, ?_, fun q hq => ?_, ?_⟩, key _ e ho⟩
  · exact Nat.lt_of_lt_of_le hz.lt (Nat.le_trans o2.size o3.size)
  · rw [cO 1 (by decide)]; exact hz.c1
  · rw [cO 2 (by decide)]; exact hz.c2
  · rw [cO 3 (by decide)]; exact hz.c3
  · exact World.cell?_setCell_same _ _ _ e4
  · rw [World.frozen?_setCell]; exact f4
  · rcases List.mem_append.1 hx with g | g
    · exact key B x (hz.own x g)
    · obtain rfl : x = e := by simpa using g
      exact key B x (ho.base hB)
  · refine Off.trans (Off.of_below hb) (Off.trans (o2.mono fun q hq => Or.inr hq) (o3.mono fun q hq => Or.inl hq))
  · rcases s2 with g | g
    · exact Or.inl (g ▸ hq)
    · rw [g] at hq
      simp only [Option.some.injEq] at hq
      have := hb.size
      exact Or.inr (by omega)
  · exact (XK.of_off (Off.trans (Off.of_below (P := fun q => v.ownBlock = some q) hb) o2) nv).trans (XK.set W2 _)
end
end Go.Proofs.YtjbkfppibnlmoaaGreatDoor

/-
  The document's box in a block of its own: open, at, before.
-/
namespace Go.Proofs.YtjbkfppibnlmoaaGreatDoor.Lg
open Go.RowKit

section
variable {w w' : World} {B X : Nat} {v : Value} {K R : Int} {es : List Ent}
set_option maxRecDepth 100000 in
set_option maxHeartbeats 2000000 in
theorem lopen_row (hc4 : w.cell? ⟨X, 3, none⟩ = some v) (hrow : NRow w B v es) (hn6 : es.length ≤ 1200000000000) : Calls Tryz.prog 49 #[.pointer (some ⟨X, 0, none⟩)] w fun r w' => r = .returned (.int .i64 (nOp es : Int)) ∧ w' = w := by
  obtain ⟨a, c, e1, _⟩ := ERow.isSlice hrow
  subst e1
  obtain ⟨n, hn⟩ : ∃ n, es.length = n := ⟨_, rfl⟩
  have c4 := hc4
  rw [hn] at c4 hn6
  have HH : Hid (NRow w B (.slice a n c) es ∧ es.length = n) := ⟨by have := hrow; rw [hn] at this; exact this, hn⟩
  clear hc4 hrow hn
  go_enter Tryz.func49, Tryz.ntmps49
  go_wp2_with fail
  go_loopw [3, 4] (fun t3 t4 wx => ∃ i : Nat, i ≤ n ∧ t3 = .int .i64 (nOp (es.take i) : Int) ∧ t4 = .int .i64 i ∧ wx = w) (fun _ t4 _ => n - (intOf t4).toNat)
  case atStart => exact ⟨0, Nat.zero_le _, by simp [nOp], rfl, rfl⟩
  case round =>
    obtain ⟨i, hi, rfl, rfl, hw⟩ := hrel
    subst hw
    by_cases hlt : i < n
    · have hlt1 : (i : Int) < n := by omega
      obtain ⟨e, he⟩ : ∃ e, es[i]? = some e := ⟨_, List.getElem?_eq_getElem (by rw [HH.out.2]; exact hlt)⟩
      obtain ⟨g, rfl, hg, d0, d1, d2, d3, d4, d5, d6⟩ := nrow_cells HH.out.1 he
      have HT : Hid (nOp (es.take (i + 1)) = nOp (es.take i) + (if opB e = true then 1 else 0) ∧ nOp (es.take i) ≤ i) := ⟨nOp_tk he, Nat.le_trans List.countP_le_length (by rw [List.length_take]; omega)⟩
      obtain ⟨m, hm⟩ : ∃ m, nOp (es.take i) = m := ⟨_, rfl⟩
      rw [hm] at HT ⊢
      have hm6 : m ≤ 1200000000000 := by have := HT.out.2; omega
      clear he hg d0 d1 d2 d3 d4 d6 hm
      cases hd : e.cd.toList.isEmpty with
      | true =>
        have HT2 : Hid (nOp (es.take (i + 1)) = m + 1) := by unfold Hid; rw [HT.out.1, if_pos (show opB e = true from hd)]
        clear HT
        go_wp2_with fail
        go_roundw
        case rel => exact ⟨i + 1, hlt, by rw [HT2.out]; go_num, by go_num, by first | rfl | trivial⟩
        case measure => simp [intOf]; omega
      | false =>
        have HT2 : Hid (nOp (es.take (i + 1)) = m) := by unfold Hid; rw [HT.out.1, if_neg (by show ¬ e.cd.toList.isEmpty = true; rw [hd]; decide)]; rfl
        clear HT
        go_wp2_with fail
        go_roundw
        case rel => exact ⟨i + 1, hlt, by rw [HT2.out], by go_num, by first | rfl | trivial⟩
        case measure => simp [intOf]; omega
    · have hlt1 : ¬ (i : Int) < n := by omega
      have HF : Hid (nOp (es.take i) = nOp es) := by unfold Hid; rw [List.take_of_length_le (by rw [HH.out.2]; omega)]
      rw [HF.out]
      go_wp2_with fail
      go_ret
      exact ⟨rfl, rfl⟩
set_option maxRecDepth 100000 in
set_option maxHeartbeats 2000000 in
theorem lat_any (hc4 : w.cell? ⟨X, 3, none⟩ = some v) (hrow : NRow w B v es) (s : ByteArray) (hn6 : es.length ≤ 1200000000000) : Calls Tryz.prog 48 #[.pointer (some ⟨X, 0, none⟩), .string s] w fun r w' => r = .returned (.int .i64 (fiI s es)) ∧ w' = w := by
  obtain ⟨a, c, e1, _⟩ := ERow.isSlice hrow
  subst e1
  obtain ⟨n, hn⟩ : ∃ n, es.length = n := ⟨_, rfl⟩
  have c4 := hc4
  rw [hn] at c4 hn6
  have HH : Hid (NRow w B (.slice a n c) es ∧ es.length = n) := ⟨by have := hrow; rw [hn] at this; exact this, hn⟩
  clear hc4 hrow hn
  go_enter Tryz.func48, Tryz.ntmps48
  go_wp2_with fail
  go_loopw [5] (fun t5 wx => ∃ i : Nat, i ≤ n ∧ t5 = .int .i64 i ∧ wx = w ∧ Hid (∀ (j : Nat) (m : Ent), j < i → es[j]? = some m → (m.ct.toList == s.toList) = false)) (fun t5 _ => n - (intOf t5).toNat)
  case atStart => exact ⟨0, Nat.zero_le _, rfl, rfl, fun j m hj => by omega⟩
  case round =>
    obtain ⟨i, hi, rfl, hw, HI⟩ := hrel
    subst hw
    by_cases hlt : i < n
    · have hlt1 : (i : Int) < n := by omega
      obtain ⟨e, he⟩ : ∃ e, es[i]? = some e := ⟨_, List.getElem?_eq_getElem (by rw [HH.out.2]; exact hlt)⟩
      obtain ⟨g, rfl, hg, d0, d1, d2, d3, d4, d5, d6⟩ := nrow_cells HH.out.1 he
      have HE : Hid (es[i]? = some e) := he
      clear he hg d1 d2 d3 d4 d5 d6
      cases hq : (e.ct.toList == s.toList) with
      | true =>
        have HF : Hid ((i : Int) = fiI s es) := by unfold Hid fiI; rw [fi_here HE.out hq HI.out]
        clear HI HE
        go_wp2_with fail
        go_ret
        exact ⟨by rw [← HF.out]; rfl, rfl⟩
      | false =>
        have HI2 : Hid (∀ (j : Nat) (m : Ent), j < i + 1 → es[j]? = some m → (m.ct.toList == s.toList) = false) := fun j m hj hm => by
          by_cases e2 : j < i
          · exact HI.out j m e2 hm
          · obtain rfl : j = i := by omega
            have := HE.out
            rw [hm] at this
            obtain rfl := Option.some.inj this
            exact hq
        clear HI HE
        go_wp2_with fail
        go_roundw
        case rel => exact ⟨i + 1, hlt, by go_num, by first | rfl | trivial, HI2⟩
        case measure => simp [intOf]; omega
    · have hlt1 : ¬ (i : Int) < n := by omega
      have HF : Hid ((-1 : Int) = fiI s es) := by
        unfold Hid fiI
        rw [fi_nowhere fun j m hm => HI.out j m (by have := (List.getElem?_eq_some_iff.1 hm).1; have := HH.out.2; omega) hm]
      clear HI
      go_wp2_with fail
      go_ret
      exact ⟨by rw [← HF.out]; rfl, rfl⟩
set_option maxRecDepth 100000 in
set_option maxHeartbeats 2000000 in
theorem lbefore_any (hc4 : w.cell? ⟨X, 3, none⟩ = some v) (hrow : NRow w B v es) (t : Int) (hn6 : es.length ≤ 1200000000000) : Calls Tryz.prog 47 #[.pointer (some ⟨X, 0, none⟩), .int .i64 t] w fun r w' => r = .returned (.bool (decide (0 < es.length) && decide (t < lastT es))) ∧ Below w.heap.size w w' := by
  obtain ⟨a, c, e1, _⟩ := ERow.isSlice hrow
  subst e1
  have c4 := hc4
  rcases Nat.eq_zero_or_pos es.length with h0 | h0
  · rw [h0] at c4 ⊢
    clear hc4 hrow h0
    have hd : decide ((0 : Int) > 0) = false := by decide
    go_enter Tryz.func47, Tryz.ntmps47
    go_wp2_with fail
    go_quiet (fail)
    go_wp2_with fail
    go_ret
    exact ⟨rfl, below_drewN (Below.refl _ _) _⟩
  · obtain ⟨n, hn⟩ : ∃ n, es.length = n + 1 := ⟨es.length - 1, by omega⟩
    have hat := lasE_at hn
    obtain ⟨g, rfl, hg, d0, d1, d2, d3, d4, d5, d6⟩ := nrow_cells hrow hat
    have hlt : lastT es = (lasE es).tk := lastT_eq es
    rw [hlt, decide_eq_true h0, Bool.true_and]
    have q2 : IntKind.i64.wrap (((n + 1 : Nat) : Int) - 1) = (n : Int) := by rw [IntKind.wrap_i64]; omega
    have q3 : (n : Int) < ((n + 1 : Nat) : Int) := by omega
    have q4 : decide (0 < n + 1) = true := decide_eq_true (by omega)
    have q5 : 0 < n + 1 := by omega
    rw [hn] at c4
    obtain ⟨m, hm⟩ : ∃ m, n + 1 = m := ⟨_, rfl⟩
    rw [hm] at c4 q2 q3 q4 q5
    obtain ⟨tk, htk⟩ : ∃ q, (lasE es).tk = q := ⟨_, rfl⟩
    rw [htk] at d3 ⊢
    clear hc4 hrow h0 hat hg d0 d1 d2 d4 d5 d6 hlt hn hm hn6 htk
    go_enter Tryz.func47, Tryz.ntmps47
    go_wp2_with fail
    go_quiet (fail)
    go_wp2_with fail
    go_ret
    exact ⟨rfl, below_drewN (Below.refl _ _) _⟩
end
end Go.Proofs.YtjbkfppibnlmoaaGreatDoor.Lg

/-
  A map and a row that may be greater.
-/
namespace Go.Proofs.YtjbkfppibnlmoaaGreatDoor
open Go.RowKit

theorem MapF.storeB {w : World} {M : Nat} {f : ByteArray → Option Nat} {n : Nat} (h : MapF w M f n) (hn : n < 1300000000000) {k : ByteArray} (hk : KeyS k) (p : Nat) :
    ∃ w', (Instr.mapUpdate 87 (.map (some M)) (.string k) (.int .i64 (p : Int))).run Tryz.prog w = .ok () w' ∧ MapF w' M (updF f k (some p)) (n + (if (f k).isSome then 0 else 1)) ∧ Off (fun q => q = M) w w' := by
  obtain ⟨D, h1, h2, h3, h4⟩ := h
  obtain ⟨w', hr, h5, h6⟩ := h1.store mapKeyed Tryz.underlying87 (by unfold maxLen; omega) (keyOfS hk) (show plEl (.int .i64 (p : Int)) = some (.lit (.int .i64 (p : Int)), []) from rfl)
  have hs := Maps.size_put (h1.tidy mapKeyed) (k := .string k.data.toList) (.lit (.int .i64 (p : Int)))
  have hhas : Maps.has D (.string k.data.toList) = (f k).isSome := by
    cases hf : f k with
    | none => rw [h3 k hk hf]; rfl
    | some p => rw [(h4 k p hk hf).1]; rfl
  rw [hhas, h2] at hs
  have hs' : Maps.size (D.put (.string k.data.toList) (.lit (.int .i64 (p : Int)))) = n + (if (f k).isSome then 0 else 1) := by rw [hs]; split <;> simp
  refine ⟨w', hr, ⟨D.put (.string k.data.toList) (.lit (.int .i64 (p : Int))), by rw [← hs']; exact owns_tight h5, hs', fun k' hk' hf' => ?_, fun k' p' hk' hf' => ?_⟩, turned_off h6⟩
  · by_cases e : k' = k
    · simp [updF, e] at hf'
    · rw [Maps.has_put_other (ne_lit e)]
      exact h3 k' hk' (by simpa [updF, e] using hf')
  · by_cases e : k' = k
    · subst e
      simp only [updF, if_pos, Option.some.injEq] at hf'
      subst hf'
      exact ⟨Maps.has_put_same h1.isMap (isKey hk) _, fun z => Maps.atKey_put_same h1.isMap (isKey hk) _ z⟩
    · have := h4 k' p' hk' (by simpa [updF, e] using hf')
      exact ⟨by rw [Maps.has_put_other (ne_lit e)]; exact this.1, fun z => by rw [Maps.atKey_put_other (ne_lit e)]; exact this.2 z⟩
section
variable {α : Type}
variable {w w' : World} {B B' k : Nat} {e : TypeId} {enc : α → List Value} {v : Value} {xs : List α} {a : Option Addr} {n c g : Nat}
/-- append of so many. -/
theorem run_eappB {P : Program} {t : TypeId} {bytes : Nat} (ht : P.underlying t = some (.slice e)) (ho : Cel P e k bytes) (hk : ∀ x, (enc x).length = k) (hone : ∀ x, ∀ u ∈ enc x, u.oneCell' = true) (h : ERow w B e k enc v xs) {ys : List α} (hn : n = ys.length) (ha : a = none → n = 0)
    (hy : ∀ a', a = some a' → ∀ j u, (ys.flatMap enc)[j]? = some u → w.cell? (a'.add j) = some u) (hl : xs.length + ys.length ≤ 1300000000000) (hb : bytes ≤ 120) (hB : B ≤ w.heap.size) :
    ∃ a' c' w', (Builtin.append_ #[t, t] t #[v, .slice a n c]).run P w = .ok (.slice a' (xs.length + ys.length) c') w' ∧ ERow w' B e k enc (.slice a' (xs.length + ys.length) c') (xs ++ ys) ∧ Off (fun q => v.ownBlock = some q) w w' ∧ ((Value.slice a' (xs.length + ys.length) c').ownBlock = v.ownBlock ∨ (Value.slice a' (xs.length + ys.length) c').ownBlock = some w.heap.size) := by
  subst hn
  obtain ⟨i, z, hi, hz, hzs, hs, hby⟩ := ho
  have hbn : ((xs.length + ys.length) + (xs.length + ys.length) / 4 + 192) * bytes ≤ 281474976710656 := Nat.le_trans (Nat.mul_le_mul (show _ ≤ 1700000000000 by omega) hb) (by decide)
  obtain ⟨v', w', hr, r, o, l⟩ := run_append_k (P := P) w B t t e i z k bytes ht hi hz hs hby hzs v xs.length (xs.flatMap enc) h a ys.length c (ys.flatMap enc) (flat_len hk ys) ha hy (fun u hu => by
    obtain ⟨x, _, hx⟩ := List.mem_flatMap.1 hu
    exact hone x u hx) (by unfold maxLen; omega) hbn hB
  have hR : ERow w' B e k enc v' (xs ++ ys) := by
    unfold ERow
    rw [List.length_append, List.flatMap_append]
    exact r
  obtain ⟨a', c', e1, _⟩ := hR.isSlice
  rw [List.length_append] at e1
  subst e1
  exact ⟨a', c', w', hr, hR, o, l⟩
/-- append of one. -/
theorem run_epushB {P : Program} {t : TypeId} {bytes : Nat} (ht : P.underlying t = some (.slice e)) (ho : Cel P e k bytes) (hk : ∀ x, (enc x).length = k) (hone : ∀ x, ∀ u ∈ enc x, u.oneCell' = true) (h : ERow w B e k enc v xs) (x : α) (cs : Array Value) (hcs : cs = (enc x).toArray) (hl : xs.length + 1 ≤ 1300000000000) (hb : bytes ≤ 120) (hB : B ≤ w.heap.size) :
    ∃ a' c' w', (Builtin.append_ #[t, t] t #[v, .slice (some ⟨w.heap.size, 0, none⟩) 1 1]).run P (w.alloc (.cells cs e)) = .ok (.slice a' (xs.length + 1) c') w' ∧ ERow w' B e k enc (.slice a' (xs.length + 1) c') (xs ++ [x]) ∧ Off (fun q => v.ownBlock = some q) w w' ∧ ((Value.slice a' (xs.length + 1) c').ownBlock = v.ownBlock ∨ (Value.slice a' (xs.length + 1) c').ownBlock = some (w.heap.size + 1)) := by
  subst hcs
  have hrow : ERow (w.alloc (.cells (enc x).toArray e)) B e k enc v xs := h.below ((Below.refl w.heap.size w).alloc (Nat.le_refl _) _)
  obtain ⟨a', c', w', hr, r, o, l⟩ := run_eappB (P := P) ht ho hk hone hrow (ys := [x]) (n := 1) (a := some ⟨w.heap.size, 0, none⟩) (c := 1) rfl (fun e => by cases e) (fun a' ea j u hu => by
    cases ea
    rw [show (⟨w.heap.size, 0, none⟩ : Addr).add j = ⟨w.heap.size, j, none⟩ by rw [Addr.add_lit, Nat.zero_add], cell_new]
    simpa using hu) hl hb (by simp; omega)
  refine ⟨a', c', w', hr, r, (Off.alloc (Off.refl _ w) _).trans o, ?_⟩
  rw [World.size_alloc] at l
  exact l
end
end Go.Proofs.YtjbkfppibnlmoaaGreatDoor
