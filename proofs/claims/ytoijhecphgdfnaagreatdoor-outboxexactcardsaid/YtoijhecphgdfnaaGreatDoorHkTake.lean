/-
  Book.Take.
-/
import Derived.Test.YtoijhecphgdfnaaGreatDoorHkBook
namespace Go.Proofs.YtoijhecphgdfnaaGreatDoor.Bo
open Go.RowKit

theorem Row.asByts {w : World} {B n c : Nat} {a : Option Addr} {xs : List Int} (h : Row w B (.slice a n c) xs) : Byts w a n xs := by
  rcases h.form with ⟨e, rfl⟩ | ⟨g, cap, e, _⟩
  · cases e; exact ⟨rfl, fun j hj => by omega⟩
  · cases e; exact h.bytes
theorem Row.len {w : World} {B n c : Nat} {a : Option Addr} {xs : List Int} (h : Row w B (.slice a n c) xs) : xs.length = n := h.asByts.len
theorem slice_one (a : Option Addr) (n c : Nat) : (Value.slice a n c).oneCell' = true := rfl
/-- The roles behind a Take. -/
def roleT (ρ : Nat → Nat) (N g b v : Nat) (l : Option Nat) (n : Nat) (k : Nat) : Nat := if l = some k then 6 + 2 * n else if k < N then ρ k else if k = g then 4 else if k = b then 2 else if k = v then 3 else 0
theorem take_done {w wr w2 w3 w4 : World} {B K : Nat} {ux : Nat → Value} {ρ : Nat → Nat} {vb vw : Value} {es : List Ent} {a ab aw : Option Addr} {n c nb cb nw cw : Nat} {bs : List Int} (h : Bk w B K ux ρ vb vw es) (hl : Row w B (.slice a n c) bs) (hz : ∀ g, (Value.slice a n c).ownBlock = some g → ρ g = 0)
    (hrow : Row wr w.heap.size (.slice (some ⟨w.heap.size, 0, none⟩) n n) bs) (hbel : Below w.heap.size w wr) (hb1 : Bk wr B K ux ρ vb vw es) (r2 : VRow w2 B 43 (.slice ab nb cb) (es.map Ent.val ++ [.slice a n c])) (o2 : Off (fun k => vb.ownBlock = some k) wr w2) (s2 : (Value.slice ab nb cb).ownBlock = vb.ownBlock ∨ ∃ g, (Value.slice ab nb cb).ownBlock = some g ∧ wr.heap.size ≤ g)
    (hw3 : w2.setCell ⟨K, 4, none⟩ (.slice ab nb cb) = w3) (r4 : VRow w4 B 43 (.slice aw nw cw) (es.map Ent.was ++ [.slice (some ⟨w.heap.size, 0, none⟩) n n])) (o4 : Off (fun k => vw.ownBlock = some k) w3 w4) (s4 : (Value.slice aw nw cw).ownBlock = vw.ownBlock ∨ ∃ g, (Value.slice aw nw cw).ownBlock = some g ∧ w3.heap.size ≤ g) :
    ∃ ρ' vb' vw' was, Bk (w4.setCell ⟨K, 5, none⟩ (.slice aw nw cw)) B K ux ρ' vb' vw' (es ++ [⟨.slice a n c, was, bs, bs⟩]) ∧ Off (fun k => ρ k = 1 ∨ ρ k = 2 ∨ ρ k = 3) w (w4.setCell ⟨K, 5, none⟩ (.slice aw nw cw)) ∧ (∀ k, k < w.heap.size → (Value.slice a n c).ownBlock ≠ some k → ρ' k = ρ k) := by
  have hK := h.lt
  have hg1 : w.heap.size < wr.heap.size := (hrow.lt (g := w.heap.size) rfl).2
  have hs12 : wr.heap.size ≤ w2.heap.size := o2.size
  have hs23 : w2.heap.size = w3.heap.size := by rw [← hw3]; simp
  have hs34 : w3.heap.size ≤ w4.heap.size := o4.size
  obtain ⟨w5, hw5⟩ : ∃ x, w4.setCell ⟨K, 5, none⟩ (.slice aw nw cw) = x := ⟨_, rfl⟩
  have hs45 : w4.heap.size = w5.heap.size := by rw [← hw5]; simp
  have o23 : Off (fun k => k = K) w2 w3 := by rw [← hw3]; exact Off.setCell (P := fun k => k = K) (Off.refl _ _) (p := ⟨K, 4, none⟩) rfl _
  have o45 : Off (fun k => k = K) w4 w5 := by rw [← hw5]; exact Off.setCell (P := fun k => k = K) (Off.refl _ _) (p := ⟨K, 5, none⟩) rfl _
  have or5 : Off (fun k => ρ k = 1 ∨ ρ k = 2 ∨ ρ k = 3) wr w5 := by
    refine ((o2.mono (fun k e => Or.inr (Or.inl (hb1.pb k e)))).trans (o23.mono (fun k e => Or.inl (by rw [e]; exact h.pK)))).trans ((o4.mono (fun k e => Or.inr (Or.inr (hb1.pw k e)))).trans (o45.mono (fun k e => Or.inl (by rw [e]; exact h.pK))))
  have o05 : Off (fun k => ρ k = 1 ∨ ρ k = 2 ∨ ρ k = 3) w w5 := (Off.of_below hbel).trans or5
  have nK2 : vb.ownBlock ≠ some K := fun e => by have h1 := hb1.pb K e; have h2 := hb1.pK; omega
  have nK3 : vw.ownBlock ≠ some K := fun e => by have h1 := hb1.pw K e; have h2 := hb1.pK; omega
  -- the numbers of the new blocks
  obtain ⟨gb, hgb⟩ : ∃ g, ∀ k, (Value.slice ab nb cb).ownBlock = some k → (k < w.heap.size ∧ ρ k = 2) ∨ (k = g ∧ wr.heap.size ≤ k ∧ k < w3.heap.size) := by
    rcases s2 with e | ⟨g, e, hg⟩
    · refine ⟨0, fun k hk => Or.inl ?_⟩
      rw [e] at hk
      exact ⟨(h.rb.lt hk).2, h.pb k hk⟩
    · refine ⟨g, fun k hk => Or.inr ?_⟩
      have h1 := (r2.lt hk).2
      rw [e] at hk
      simp only [Option.some.injEq] at hk
      omega
  obtain ⟨gw, hgw⟩ : ∃ g, ∀ k, (Value.slice aw nw cw).ownBlock = some k → (k < w.heap.size ∧ ρ k = 3) ∨ (k = g ∧ w3.heap.size ≤ k ∧ k < w4.heap.size) := by
    rcases s4 with e | ⟨g, e, hg⟩
    · refine ⟨0, fun k hk => Or.inl ?_⟩
      rw [e] at hk
      exact ⟨(h.rws.lt hk).2, h.pw k hk⟩
    · refine ⟨g, fun k hk => Or.inr ?_⟩
      have h1 := (r4.lt hk).2
      rw [e] at hk
      simp only [Option.some.injEq] at hk
      omega
  have hlb : ∀ k, (Value.slice a n c).ownBlock = some k → k < w.heap.size ∧ ρ k = 0 := fun k e => ⟨(hl.lt e).2, hz k e⟩
  refine ⟨roleT ρ w.heap.size w.heap.size (if wr.heap.size ≤ gb ∧ gb < w3.heap.size then gb else 0) (if w3.heap.size ≤ gw ∧ gw < w4.heap.size then gw else 0) (Value.slice a n c).ownBlock es.length, .slice ab nb cb, .slice aw nw cw, .slice (some ⟨w.heap.size, 0, none⟩) n n, ?_, by rw [hw5]; exact o05, fun k hk hn => by simp only [roleT, if_neg hn, if_pos hk]⟩
  rw [hw5]
  have hold : ∀ k, k < w.heap.size → ρ k ≠ 0 → roleT ρ w.heap.size w.heap.size (if wr.heap.size ≤ gb ∧ gb < w3.heap.size then gb else 0) (if w3.heap.size ≤ gw ∧ gw < w4.heap.size then gw else 0) (Value.slice a n c).ownBlock es.length k = ρ k := fun k hk hr => by
    have hn : (Value.slice a n c).ownBlock ≠ some k := fun e => hr (hlb k e).2
    simp only [roleT, if_neg hn, if_pos hk]
  have hat : ∀ (j : Nat) (x : Ent), (es ++ [⟨.slice a n c, .slice (some ⟨w.heap.size, 0, none⟩) n n, bs, bs⟩])[j]? = some x → (j < es.length ∧ es[j]? = some x) ∨ (j = es.length ∧ x = ⟨.slice a n c, .slice (some ⟨w.heap.size, 0, none⟩) n n, bs, bs⟩) := fun j x hx => by
    rcases Nat.lt_or_ge j es.length with g | g
    · rw [List.getElem?_append_left g] at hx; exact Or.inl ⟨g, hx⟩
    · rw [List.getElem?_append_right g] at hx
      rcases Nat.eq_or_lt_of_le g with e | e
      · subst e; simp at hx; exact Or.inr ⟨rfl, hx.symm⟩
      · rw [List.getElem?_eq_none (by simp; omega)] at hx; cases hx
  have cK : ∀ q, q ≠ 4 → q ≠ 5 → w5.cell? ⟨K, q, none⟩ = w.cell? ⟨K, q, none⟩ := fun q h0 h1 => by
    rw [← hw5, World.cell?_setCell_other _ _ _ _ (by simp only [ne_eq, Addr.mk.injEq, not_and]; intro _ e; omega), o4.cell (p := ⟨K, q, none⟩) (by show K < _; omega) nK3, ← hw3, World.cell?_setCell_other _ _ _ _ (by simp only [ne_eq, Addr.mk.injEq, not_and]; intro _ e; omega), o2.cell (p := ⟨K, q, none⟩) (by show K < _; omega) nK2, hbel.cell (p := ⟨K, q, none⟩) hK]
  have fK : ∀ q, w5.frozen? ⟨K, q, none⟩ = w.frozen? ⟨K, q, none⟩ := fun q => by
    rw [← hw5, World.frozen?_setCell, o4.frozen (p := ⟨K, q, none⟩) (by show K < _; omega) nK3, ← hw3, World.frozen?_setCell, o2.frozen (p := ⟨K, q, none⟩) (by show K < _; omega) nK2, hbel.frozen (p := ⟨K, q, none⟩) hK]
  have c03 : w3.cell? ⟨K, 4, none⟩ = some (.slice ab nb cb) := by
    rw [← hw3]
    exact World.cell?_setCell_same _ _ _ (show _ = some vb by rw [o2.cell (p := ⟨K, 4, none⟩) (by show K < _; omega) nK2]; exact hb1.c0)
  have c05 : w5.cell? ⟨K, 4, none⟩ = some (.slice ab nb cb) := by
    rw [← hw5, World.cell?_setCell_other _ _ _ _ (by simp), o4.cell (p := ⟨K, 4, none⟩) (by show K < _; omega) nK3]; exact c03
  have c15 : w5.cell? ⟨K, 5, none⟩ = some (.slice aw nw cw) := by
    rw [← hw5]
    refine World.cell?_setCell_same _ _ _ (?_ : _ = some vw)
    rw [o4.cell (p := ⟨K, 5, none⟩) (by show K < _; omega) nK3, ← hw3, World.cell?_setCell_other _ _ _ _ (by simp), o2.cell (p := ⟨K, 5, none⟩) (by show K < _; omega) nK2]; exact hb1.c1
  have row5 : ∀ {v : Value} {xs : List Int}, Row w B v xs → (∀ g, v.ownBlock = some g → ρ g ≠ 1 ∧ ρ g ≠ 2 ∧ ρ g ≠ 3) → Row w5 B v xs := fun {v xs} hr hn => hr.off o05 (fun g e p => by have := hn g e; omega)
  refine ⟨c05, c15, by rw [cK 6 (by decide) (by decide)]; exact h.c2, by rw [cK 7 (by decide) (by decide)]; exact h.c3, by rw [cK 8 (by decide) (by decide)]; exact h.c4, by rw [cK 9 (by decide) (by decide)]; exact h.c5, fun q hq => by rw [cK q (by omega) (by omega)]; exact h.cu q hq, fun q => by rw [fK]; exact h.fz q, by have := h.hB; omega,
    ?_, ?_, fun j x hx => ?_, fun j x hx => ?_, by rw [hold K hK (by rw [h.pK]; decide)]; exact h.pK, fun g e => ?_, fun g e => ?_, fun j x hx g e => ?_, fun j x hx g e => ?_, fun g hg => ?_⟩
  · rw [List.map_append]
    refine ((r2.off o23 (fun g e p => ?_)).off o4 (fun g e p => ?_)).off o45 (fun g e p => ?_)
    · subst p; rcases hgb _ e with q | q
      · have := h.pK; omega
      · omega
    · have hp := hb1.pw g p
      rcases hgb _ e with q | q
      · omega
      · have := h.new g (by omega); omega
    · subst p; rcases hgb _ e with q | q
      · have := h.pK; omega
      · omega
  · rw [List.map_append]
    refine r4.off o45 (fun g e p => ?_)
    subst p; rcases hgw _ e with q | q
    · have := h.pK; omega
    · omega
  · rcases hat j x hx with ⟨_, hx'⟩ | ⟨rfl, rfl⟩
    · exact row5 (h.val j x hx') (fun g e => by have := h.pval j x hx' g e; omega)
    · exact row5 hl (fun g e => by have := (hlb g e).2; omega)
  · rcases hat j x hx with ⟨_, hx'⟩ | ⟨rfl, rfl⟩
    · exact row5 (h.was j x hx') (fun g e => by have := h.pwas j x hx' g e; omega)
    · have r5 := hrow.off or5 (fun g e p => by
        simp only [Value.ownBlock, Option.some.injEq] at e; subst e
        have := h.new w.heap.size (Nat.le_refl _); omega)
      exact ⟨r5.1, by
        rcases r5.2 with q | ⟨g', c', u', e1, hb, rest⟩
        · exact Or.inl q
        · exact Or.inr ⟨g', c', u', e1, Nat.le_trans h.hB hb, rest⟩⟩
  · rcases hgb g e with ⟨q1, q2⟩ | ⟨q1, q2, q3⟩
    · rw [hold g q1 (by omega)]; exact q2
    · have hn : (Value.slice a n c).ownBlock ≠ some g := fun e' => by have := (hlb g e').1; omega
      subst q1
      simp only [roleT, if_neg hn, if_pos (And.intro q2 q3)]
      rw [if_neg (by omega), if_neg (by omega), if_pos trivial]
  · rcases hgw g e with ⟨q1, q2⟩ | ⟨q1, q2, q3⟩
    · rw [hold g q1 (by omega)]; exact q2
    · have hn : (Value.slice a n c).ownBlock ≠ some g := fun e' => by have := (hlb g e').1; omega
      subst q1
      simp only [roleT, if_neg hn, if_pos (And.intro q2 q3)]
      rw [if_neg (by omega), if_neg (by omega), if_neg (by split <;> omega), if_pos trivial]
  · rcases hat j x hx with ⟨_, hx'⟩ | ⟨rfl, rfl⟩
    · have hp := h.pwas j x hx' g e
      rw [hold g ((h.was j x hx').lt e).2 (by omega)]; exact hp
    · simp only [Value.ownBlock, Option.some.injEq] at e; subst e
      have hn : (Value.slice a n c).ownBlock ≠ some w.heap.size := fun e' => by have := (hlb _ e').1; omega
      simp only [roleT, if_neg hn]
      rw [if_neg (by omega), if_pos trivial]
  · rcases hat j x hx with ⟨_, hx'⟩ | ⟨rfl, rfl⟩
    · have hp := h.pval j x hx' g e
      rw [hold g ((h.val j x hx').lt e).2 (by omega)]; exact hp
    · simp only [roleT, if_pos e]
  · have hn : (Value.slice a n c).ownBlock ≠ some g := fun e' => by have := (hlb g e').1; omega
    simp only [roleT, if_neg hn]
    rw [if_neg (by omega), if_neg (by omega), if_neg (by split <;> omega), if_neg (by split <;> omega)]
set_option maxRecDepth 100000 in
set_option maxHeartbeats 2000000 in
theorem Take_any {w : World} {B K : Nat} {ux : Nat → Value} {ρ : Nat → Nat} {vb vw : Value} {es : List Ent} {a : Option Addr} {n c : Nat} {bs : List Int} (h : Bk w B K ux ρ vb vw es) (hl : Row w B (.slice a n c) bs) (hz : ∀ g, (Value.slice a n c).ownBlock = some g → ρ g = 0) (hn : n ≤ 70368744177664) (hm : es.length + 1 ≤ 1099511627776) :
    Calls Tryz.prog 20 #[.pointer (some ⟨K, 4, none⟩), .slice a n c] w fun e w' => e = .returned (.tuple #[]) ∧ ∃ ρ' vb' vw' was, Bk w' B K ux ρ' vb' vw' (es ++ [⟨.slice a n c, was, bs, bs⟩]) ∧ Off (fun k => ρ k = 1 ∨ ρ k = 2 ∨ ρ k = 3) w w' ∧ (∀ k, k < w.heap.size → (Value.slice a n c).ownBlock ≠ some k → ρ' k = ρ k) := by
  have HH : Hid (Bk w B K ux ρ vb vw es) := h
  have HL : Hid (Row w B (.slice a n c) bs) := hl
  have HN : Hid (bs.length = n) := hl.len
  have HK : Hid (K < w.heap.size) := h.lt
  have HZ : Hid (∀ g, (Value.slice a n c).ownBlock = some g → ρ g = 0) := hz
  clear h hl hz
  obtain ⟨w1, hmk, hR, hB1⟩ := run_make_bytes (w := w) n (by omega)
  have HR : Hid (Row w1 w.heap.size (.slice (some ⟨w.heap.size, 0, none⟩) n n) (List.replicate n 0) ∧ Below w.heap.size w w1) := ⟨hR, hB1⟩
  clear hR hB1
  go_enter Tryz.func20, Tryz.ntmps20
  go_wp2_with fail
  clear hmk
  go_loopw [5] (fun ti wx => ∃ i : Nat, i ≤ n ∧ ti = .int .i64 i ∧ Hid (Row wx w.heap.size (.slice (some ⟨w.heap.size, 0, none⟩) n n) (bs.take i ++ List.replicate (n - i) 0) ∧ Below w.heap.size w wx)) (fun ti _ => n - (intOf ti).toNat)
  case atStart => exact ⟨0, Nat.zero_le _, rfl, HR⟩
  case round =>
    obtain ⟨i, hi, rfl, HI⟩ := hrel
    by_cases hlt : i < n
    · have hlt1 : (i : Int) < n := by omega
      obtain ⟨b, o, hpo, _, hcell⟩ := (HL.out.asByts.below HI.out.2).cell i (by omega)
      subst hpo
      have k1 : wr.cell? ⟨w.heap.size, i, none⟩ = some (.int .u8 ((bs.take i ++ List.replicate (n - i) 0).getD i 0)) := HI.out.1.slot (by simp; have := HN.out; omega)
      have k2 := HI.out.1.thaw i
      go_wp2_with fail
      go_roundw
      case rel =>
        refine ⟨i + 1, hlt, by go_num, ?_, HI.out.2.setCell (Nat.le_refl _) _⟩
        have hs := HI.out.1.stored i (bs.getD i 0)
        have e := set_next (bs.take i) (n - i) (bs.getD i 0) (by omega)
        rw [show (bs.take i).length = i by rw [List.length_take]; have := HN.out; omega, take_next (by have := HN.out; omega)] at e
        rw [e, show n - i - 1 = n - (i + 1) by omega] at hs
        exact hs
      case measure => simp [intOf]; omega
    · have hlt1 : ¬ (i : Int) < n := by omega
      obtain rfl : i = n := by omega
      obtain ⟨hrow, hbel⟩ := HI.out
      rw [List.take_of_length_le (by have := HN.out; omega), Nat.sub_self, List.replicate_zero, List.append_nil] at hrow
      have hb1 : Bk wr B K ux ρ vb vw es := HH.out.off (Off.of_below (P := fun _ => False) hbel) (fun _ p => p.elim)
      obtain ⟨ab, nb, cb, w2, e2, r2, o2, s2⟩ := run_vpush hb1.rb hb1.hB (by simpa using hm) (.slice a i c) (slice_one _ _ _)
      have q0 : wr.cell? ⟨K, 4, none⟩ = some vb := hb1.c0
      have hKl : K < wr.heap.size := hb1.lt
      have hK2 : vb.ownBlock ≠ some K := fun e => by have h1 := hb1.pb K e; have h2 := hb1.pK; omega
      have q1 : w2.cell? ⟨K, 4, none⟩ = some vb := by rw [o2.cell (p := ⟨K, 4, none⟩) hKl hK2]; exact q0
      have q2 : w2.frozen? ⟨K, 4, none⟩ = false := by rw [o2.frozen (p := ⟨K, 4, none⟩) hKl hK2]; exact hb1.fz 4
      have q3 : w2.cell? ⟨K, 5, none⟩ = some vw := by rw [o2.cell (p := ⟨K, 5, none⟩) hKl hK2]; exact hb1.c1
      -- the second list, in the world behind the first store
      have o3 : Off (fun k => vb.ownBlock = some k ∨ k = K) wr (w2.setCell ⟨K, 4, none⟩ (.slice ab nb cb)) := Off.setCell (P := fun k => vb.ownBlock = some k ∨ k = K) (o2.mono (fun _ e => Or.inl e)) (p := ⟨K, 4, none⟩) (Or.inr rfl) _
      have rw3 : VRow (w2.setCell ⟨K, 4, none⟩ (.slice ab nb cb)) B 43 vw (es.map Ent.was) := hb1.rws.off o3 (fun g e p => by
        have h1 := hb1.pw g e
        rcases p with p | p
        · have := hb1.pb g p; omega
        · subst p; have := hb1.pK; omega)
      have hs3 : wr.heap.size ≤ (w2.setCell ⟨K, 4, none⟩ (.slice ab nb cb)).heap.size := o3.size
      obtain ⟨aw, nw, cw, w4, e4, r4, o4, s4⟩ := run_vpush rw3 (Nat.le_trans hb1.hB hs3) (by simpa using hm) (.slice (some ⟨w.heap.size, 0, none⟩) i i) (slice_one _ _ _)
      obtain ⟨w3, hw3⟩ : ∃ x, w2.setCell ⟨K, 4, none⟩ (.slice ab nb cb) = x := ⟨_, rfl⟩
      have hK3 : vw.ownBlock ≠ some K := fun e => by have h1 := hb1.pw K e; have h2 := hb1.pK; omega
      have p1 : w3.cell? ⟨K, 5, none⟩ = some vw := by
        rw [← hw3, World.cell?_setCell_other _ _ _ _ (by simp), o2.cell (p := ⟨K, 5, none⟩) hKl hK2]; exact hb1.c1
      rw [hw3] at e4 o4 s4 rw3 hs3 o3
      have hK4 : K < w3.heap.size := Nat.lt_of_lt_of_le hKl hs3
      have p2 : w4.cell? ⟨K, 5, none⟩ = some vw := by rw [o4.cell (p := ⟨K, 5, none⟩) hK4 hK3]; exact p1
      have p3 : w4.frozen? ⟨K, 5, none⟩ = false := by
        rw [o4.frozen (p := ⟨K, 5, none⟩) hK4 hK3, ← hw3, World.frozen?_setCell, o2.frozen (p := ⟨K, 5, none⟩) hKl hK2]; exact hb1.fz 5
      rw [show w3.heap.size = w2.heap.size by rw [← hw3]; simp] at e4
      have HE : Hid (w2.setCell ⟨K, 4, none⟩ (.slice ab nb cb) = w3) := hw3
      have HQ : Hid (Row wr w.heap.size (.slice (some ⟨w.heap.size, 0, none⟩) i i) bs ∧ Below w.heap.size w wr ∧ Bk wr B K ux ρ vb vw es ∧ VRow w2 B 43 (.slice ab nb cb) (es.map Ent.val ++ [.slice a i c]) ∧ Off (fun k => vb.ownBlock = some k) wr w2 ∧ ((Value.slice ab nb cb).ownBlock = vb.ownBlock ∨ ∃ g, (Value.slice ab nb cb).ownBlock = some g ∧ wr.heap.size ≤ g) ∧ VRow w4 B 43 (.slice aw nw cw) (es.map Ent.was ++ [.slice (some ⟨w.heap.size, 0, none⟩) i i]) ∧ Off (fun k => vw.ownBlock = some k) w3 w4 ∧ ((Value.slice aw nw cw).ownBlock = vw.ownBlock ∨ ∃ g, (Value.slice aw nw cw).ownBlock = some g ∧ w3.heap.size ≤ g)) := ⟨hrow, hbel, hb1, r2, o2, s2, r4, o4, s4⟩
      clear hrow hbel hb1 r2 o2 s2 r4 o4 s4 rw3 hs3 o3 hK2 hK3 hK4 hw3 HI
      go_wp2_with (at_builtin; first | refine wpList_append_run rfl (.tmp 26) (.tmp 28) 35 _ rfl e2 ?_ | (rw [HE.out]; refine wpList_append_run rfl (.tmp 36) (.tmp 38) 35 _ rfl e4 ?_))
      go_end0
      refine ⟨rfl, ?_⟩
      obtain ⟨hrow, hbel, hb1, r2, o2, s2, r4, o4, s4⟩ := HQ.out
      have hw3 := HE.out
      obtain ⟨ρ', a1, a2, a3, h1, h2, h3⟩ := take_done HH.out HL.out HZ.out hrow hbel hb1 r2 o2 s2 hw3 r4 o4 s4
      exact ⟨ρ', ⟨a1, a2, a3, h1⟩, h2, h3⟩
end Go.Proofs.YtoijhecphgdfnaaGreatDoor.Bo
