import Derived.Test.YthnpckmgnompiaaGreatDoorLsBare
import Derived.Test.YthnpckmgnompiaaGreatDoorBookAlone2
import Derived.Deep.MidRow
import Derived.Test.YthnpckmgnompiaaGreatDoorLsRec3
/-
  couriermem.Lists.Alone: a book and two lists of records.
-/
namespace Go.Proofs.YthnpckmgnompiaaGreatDoor
open Go.RowKit Go.BigFrame

theorem Rc.far {W wx wy : World} {B : Nat} {rv P Q : Value} {usP usQ : List Value} {R : Nat → Prop} (h : Rc W wx B rv P Q usP usQ 0 0) (o : Off R wx wy) (hR : ∀ z, rv.ownBlock = some z ∨ P.ownBlock = some z ∨ Q.ownBlock = some z → ¬ R z) : Rc wy wy B rv P Q usP usQ 0 0 :=
  ⟨h.rr.off o (fun z e => hR z (Or.inl e)), h.rp.off o (fun z e => hR z (Or.inr (Or.inl e))), h.rq.off o (fun z e => hR z (Or.inr (Or.inr e))), fun _ _ ht => absurd ht (Nat.not_lt_zero _), fun _ _ ht => absurd ht (Nat.not_lt_zero _), Off.refl _ _, h.ne, Nat.le_trans h.hB o.size⟩
theorem Off.setCells {P : Nat → Prop} {b : Nat} (hb : P b) : ∀ (vs : List Value) (o : Nat) (w : World), Off P w (w.setCells b o vs)
  | [], _, w => Off.refl _ w
  | v :: r, o, w => by
    rw [World.setCells]
    exact ((Off.refl P w).setCell (p := ⟨b, o, none⟩) hb v).trans (Off.setCells hb r (o + 1) _)
set_option maxRecDepth 100000 in
set_option maxHeartbeats 16000000 in
theorem lsAlone {w : World} {B X n m h ch cp cq : Nat} {ρ : Nat → Nat} {vb vw : Value} {es : List Ent} {ap aq : Option Addr} {usP usQ : List Value} (hb : Bk w B X ρ vb vw es) (hs : ∀ (i : Nat) (e : Ent), es[i]? = some e → e.old = e.bs ∧ e.bs.length ≤ 70368744177664) (hm : es.length + 1 ≤ 1099511627776)
    (hbare : Bare w X) (h22 : w.cell? ⟨X, 22, none⟩ = some (.slice (some ⟨h, 0, none⟩) 2 ch)) (hc : Rc w w B (.slice (some ⟨h, 0, none⟩) 2 ch) (.slice ap n cp) (.slice aq m cq) usP usQ 0 0) (hn : n ≤ 16777216) (hmm : m ≤ 16777216)
    (hz : ∀ z, z = h ∨ (Value.slice ap n cp).ownBlock = some z ∨ (Value.slice aq m cq).ownBlock = some z → ρ z = 0) :
    Calls Tryz.prog 12 #[.pointer (some ⟨X, 0, none⟩)] w fun e w' => e = .returned (.bool true) ∧ Off (fun z => ρ z = 1 ∨ (∃ j, ρ z = 6 + 2 * j) ∨ (Value.slice ap n cp).ownBlock = some z ∨ (Value.slice aq m cq).ownBlock = some z) w w' := by
  have HAl : Hid (type_of% (Alone_true2 hb hs hm)) := Alone_true2 hb hs hm
  have HS : Hid (type_of% (ls_still hbare)) := ls_still hbare
  have HX : Hid (ρ X = 1) := hb.pK
  have HF : Hid (∀ y, Bk y B X (fun k => if k = X then 1 else 0) (.slice none 0 0) (.slice none 0 0) [] → Off (fun k => ρ k = 1 ∨ ∃ j, ρ k = 6 + 2 * j) w y → (∀ q, 6 ≤ q → y.cell? ⟨X, q, none⟩ = w.cell? ⟨X, q, none⟩) → (Bare y X ∧ y.cell? ⟨X, 22, none⟩ = some (.slice (some ⟨h, 0, none⟩) 2 ch) ∧ Rc y y B (.slice (some ⟨h, 0, none⟩) 2 ch) (.slice ap n cp) (.slice aq m cq) usP usQ 0 0 ∧ (∀ g, (Value.slice ap n cp).ownBlock = some g ∨ (Value.slice aq m cq).ownBlock = some g → g ≠ X) ∧ (∀ q, q < 6 → y.cell? ⟨X, q, none⟩ = some (.slice none 0 0)) ∧ (∀ q, y.frozen? ⟨X, q, none⟩ = false))) := fun y hy oy cy => by
    refine ⟨fun q h1 h2 => by rw [cy q h1]; exact hbare q h1 h2, by rw [cy 22 (by omega)]; exact h22, hc.far oy (fun z e => ?_), fun g e e' => ?_, fun q hq => ?_, fun q => hy.fz q⟩
    · have : ρ z = 0 := hz z (by
        rcases e with e | e
        · simp only [Value.ownBlock, Option.some.injEq] at e; exact Or.inl e.symm
        · exact Or.inr e)
      rintro (q | ⟨j, q⟩) <;> omega
    · have := hz g (Or.inr e); rw [e', HX.out] at this; omega
    · match q, hq with
      | 0, _ => exact hy.c0
      | 1, _ => exact hy.c1
      | 2, _ => exact hy.c2
      | 3, _ => exact hy.c3
      | 4, _ => exact hy.c4
      | 5, _ => exact hy.c5
  clear hb hs hm hbare h22 hc hz
  go_enter Tryz.func12, Tryz.ntmps12
  go_wp2_with fail
  refine HS.out.mono ?_
  rintro _ w1 ⟨rfl, hw1⟩
  subst hw1
  go_wp2_with fail
  refine HAl.out.mono ?_
  rintro _ y ⟨rfl, hy, oy, cy⟩
  have HY := HF.out y hy oy cy
  have HYY : Hid (type_of% HY) := HY
  have HO : Hid (Off (fun k => ρ k = 1 ∨ ∃ j, ρ k = 6 + 2 * j) w1 y) := oy
  clear HF HY hy oy cy HAl HS
  go_wp2_with fail
  refine (ls_comp HYY.out.1).mono ?_
  rintro _ w2 ⟨rfl, hw2⟩
  subst hw2
  go_wp2_with fail
  refine (ls_rep HYY.out.1).mono ?_
  rintro _ w2 ⟨rfl, hw2⟩
  subst hw2
  go_wp2_with fail
  refine (ls_field HYY.out.1).mono ?_
  rintro _ w2 ⟨rfl, hw2⟩
  subst hw2
  go_wp2_with fail
  refine (ls_seg HYY.out.1).mono ?_
  rintro _ w2 ⟨rfl, hw2⟩
  subst hw2
  go_wp2_with fail
  refine (ls_finding HYY.out.1).mono ?_
  rintro _ w2 ⟨rfl, hw2⟩
  subst hw2
  go_wp2_with fail
  refine (ls_thing HYY.out.1).mono ?_
  rintro _ w2 ⟨rfl, hw2⟩
  subst hw2
  go_wp2_with fail
  refine (ls_list HYY.out.1).mono ?_
  rintro _ w2 ⟨rfl, hw2⟩
  subst hw2
  go_wp2_with fail
  refine (ls_out HYY.out.1).mono ?_
  rintro _ w2 ⟨rfl, hw2⟩
  subst hw2
  go_wp2_with fail
  refine (ls_in HYY.out.1).mono ?_
  rintro _ w2 ⟨rfl, hw2⟩
  subst hw2
  go_wp2_with fail
  refine (ls_sent HYY.out.1).mono ?_
  rintro _ w2 ⟨rfl, hw2⟩
  subst hw2
  go_wp2_with fail
  refine (ls_held HYY.out.1).mono ?_
  rintro _ w2 ⟨rfl, hw2⟩
  subst hw2
  go_wp2_with fail
  refine (ls_event HYY.out.1).mono ?_
  rintro _ w2 ⟨rfl, hw2⟩
  subst hw2
  go_wp2_with fail
  refine (ls_part HYY.out.1).mono ?_
  rintro _ w2 ⟨rfl, hw2⟩
  subst hw2
  go_wp2_with fail
  refine (ls_name HYY.out.1).mono ?_
  rintro _ w2 ⟨rfl, hw2⟩
  subst hw2
  go_wp2_with fail
  refine (record_true HYY.out.2.1 HYY.out.2.2.1 hn hmm HYY.out.2.2.2.1).mono ?_
  rintro _ w3 ⟨rfl, o3⟩
  have hX3 : ¬ ((Value.slice ap n cp).ownBlock = some X ∨ (Value.slice aq m cq).ownBlock = some X) := fun p => HYY.out.2.2.2.1 X p rfl
  have hlt := HYY.out.1.lt
  have k3 : ∀ q, w3.cell? ⟨X, q, none⟩ = w2.cell? ⟨X, q, none⟩ := fun q => o3.cell (p := ⟨X, q, none⟩) hlt hX3
  have g3 : ∀ q, w3.frozen? ⟨X, q, none⟩ = false := fun q => by rw [o3.frozen (p := ⟨X, q, none⟩) hlt hX3]; exact HYY.out.2.2.2.2.2 q
  have ht : w3.there X 0 23 := fun j hj => by
    rw [Nat.zero_add]
    refine ⟨?_, g3 j⟩
    rw [k3 j]
    rcases (by omega : j < 6 ∨ (6 ≤ j ∧ j ≤ 21) ∨ j = 22) with q | q | rfl
    · rw [HYY.out.2.2.2.2.1 j q]; rfl
    · rw [HYY.out.1 j q.1 q.2]; rfl
    · rw [HYY.out.2.1]; rfl
  have HO3 : Hid (Off (fun z => ρ z = 1 ∨ (∃ j, ρ z = 6 + 2 * j) ∨ (Value.slice ap n cp).ownBlock = some z ∨ (Value.slice aq m cq).ownBlock = some z) w1 w3) := (HO.out.mono (fun z e => by rcases e with e | e; exact Or.inl e; exact Or.inr (Or.inl e))).trans (o3.mono (fun z e => Or.inr (Or.inr e)))
  clear HO o3 hX3 k3 g3 HYY hlt
  go_wp2_with (refine wpList_store_mid rfl _ (.tmp 77) (.tmp 76) rfl X 0 _ rfl rfl ht (by kernel_rfl) (by kernel_rfl) ?_)
  go_ret
  exact ⟨rfl, HO3.out.trans (Off.setCells (Or.inl HX.out) _ _ _)⟩
end Go.Proofs.YthnpckmgnompiaaGreatDoor

/-
  couriermem.Book.Take again: what lies behind the book in its block stays; a list put behind the others.
-/
namespace Go.Proofs.YthnpckmgnompiaaGreatDoor
open Go.RowKit Go.BigFrame

set_option maxRecDepth 100000 in
set_option maxHeartbeats 2000000 in
theorem Take_any2 {w : World} {B K : Nat} {ρ : Nat → Nat} {vb vw : Value} {es : List Ent} {a : Option Addr} {n c : Nat} {bs : List Int} (h : Bk w B K ρ vb vw es) (hl : Row w B (.slice a n c) bs) (hz : ∀ g, (Value.slice a n c).ownBlock = some g → ρ g = 0) (hn : n ≤ 70368744177664) (hm : es.length + 1 ≤ 1099511627776) :
    Calls Tryz.prog 10 #[.pointer (some ⟨K, 0, none⟩), .slice a n c] w fun e w' => e = .returned (.tuple #[]) ∧ ∃ ρ' vb' vw' was, Bk w' B K ρ' vb' vw' (es ++ [⟨.slice a n c, was, bs, bs⟩]) ∧ Off (fun k => ρ k = 1 ∨ ρ k = 2 ∨ ρ k = 3) w w' ∧ (∀ k, k < w.heap.size → (Value.slice a n c).ownBlock ≠ some k → ρ' k = ρ k) ∧ (∀ q, 6 ≤ q → w'.cell? ⟨K, q, none⟩ = w.cell? ⟨K, q, none⟩) := by
  have HH : Hid (Bk w B K ρ vb vw es) := h
  have HL : Hid (Row w B (.slice a n c) bs) := hl
  have HN : Hid (bs.length = n) := hl.len
  have HK : Hid (K < w.heap.size) := h.lt
  have HZ : Hid (∀ g, (Value.slice a n c).ownBlock = some g → ρ g = 0) := hz
  clear h hl hz
  obtain ⟨w1, hmk, hR, hB1⟩ := run_make_bytes (w := w) n (by omega)
  have HR : Hid (Row w1 w.heap.size (.slice (some ⟨w.heap.size, 0, none⟩) n n) (List.replicate n 0) ∧ Below w.heap.size w w1) := ⟨hR, hB1⟩
  clear hR hB1
  go_enter Tryz.func10, Tryz.ntmps10
  go_wp2_with fail
  clear hmk
  go_loopw [5] (fun ti wx => ∃ i : Nat, i ≤ n ∧ ti = .int .i64 i ∧ Hid (Row wx w.heap.size (.slice (some ⟨w.heap.size, 0, none⟩) n n) (bs.take i ++ List.replicate (n - i) 0) ∧ Below w.heap.size w wx)) (fun ti _ => n - (intOf ti).toNat)
  case atStart => exact ⟨0, Nat.zero_le _, rfl, HR⟩
  case round =>
    obtain ⟨i, hi, rfl, HI⟩ := hrel
    by_cases hlt : i < n
    · have hlt1 : (i : Int) < n := by omega
      obtain ⟨b, o, hpo, _, hcell⟩ := (HL.out.asByts.below HI.out.2).cell i (by omega)
      subst hpo
      have k1 : wr.cell? ⟨w.heap.size, i, none⟩ = some (.int .u8 ((bs.take i ++ List.replicate (n - i) 0).getD i 0)) := HI.out.1.slot (by simp; have := HN.out; omega)
      have k2 := HI.out.1.thaw i
      go_wp2_with fail
      go_roundw
      case rel =>
        refine ⟨i + 1, hlt, by go_num, ?_, HI.out.2.setCell (Nat.le_refl _) _⟩
        have hs := HI.out.1.stored i (bs.getD i 0)
        have e := set_next (bs.take i) (n - i) (bs.getD i 0) (by omega)
        rw [show (bs.take i).length = i by rw [List.length_take]; have := HN.out; omega, take_next (by have := HN.out; omega)] at e
        rw [e, show n - i - 1 = n - (i + 1) by omega] at hs
        exact hs
      case measure => simp [intOf]; omega
    · have hlt1 : ¬ (i : Int) < n := by omega
      obtain rfl : i = n := by omega
      obtain ⟨hrow, hbel⟩ := HI.out
      rw [List.take_of_length_le (by have := HN.out; omega), Nat.sub_self, List.replicate_zero, List.append_nil] at hrow
      have hb1 : Bk wr B K ρ vb vw es := HH.out.off (Off.of_below (P := fun _ => False) hbel) (fun _ p => p.elim)
      obtain ⟨ab, nb, cb, w2, e2, r2, o2, s2⟩ := run_vpush hb1.rb hb1.hB (by simpa using hm) (.slice a i c) (slice_one _ _ _)
      have q0 : wr.cell? ⟨K, 0, none⟩ = some vb := hb1.c0
      have hKl : K < wr.heap.size := hb1.lt
      have hK2 : vb.ownBlock ≠ some K := fun e => by have h1 := hb1.pb K e; have h2 := hb1.pK; omega
      have q1 : w2.cell? ⟨K, 0, none⟩ = some vb := by rw [o2.cell (p := ⟨K, 0, none⟩) hKl hK2]; exact q0
      have q2 : w2.frozen? ⟨K, 0, none⟩ = false := by rw [o2.frozen (p := ⟨K, 0, none⟩) hKl hK2]; exact hb1.fz 0
      have q3 : w2.cell? ⟨K, 1, none⟩ = some vw := by rw [o2.cell (p := ⟨K, 1, none⟩) hKl hK2]; exact hb1.c1
      -- the second list, in the world behind the first store
      have o3 : Off (fun k => vb.ownBlock = some k ∨ k = K) wr (w2.setCell ⟨K, 0, none⟩ (.slice ab nb cb)) := Off.setCell (P := fun k => vb.ownBlock = some k ∨ k = K) (o2.mono (fun _ e => Or.inl e)) (p := ⟨K, 0, none⟩) (Or.inr rfl) _
      have rw3 : VRow (w2.setCell ⟨K, 0, none⟩ (.slice ab nb cb)) B 22 vw (es.map Ent.was) := hb1.rws.off o3 (fun g e p => by
        have h1 := hb1.pw g e
        rcases p with p | p
        · have := hb1.pb g p; omega
        · subst p; have := hb1.pK; omega)
      have hs3 : wr.heap.size ≤ (w2.setCell ⟨K, 0, none⟩ (.slice ab nb cb)).heap.size := o3.size
      obtain ⟨aw, nw, cw, w4, e4, r4, o4, s4⟩ := run_vpush rw3 (Nat.le_trans hb1.hB hs3) (by simpa using hm) (.slice (some ⟨w.heap.size, 0, none⟩) i i) (slice_one _ _ _)
      obtain ⟨w3, hw3⟩ : ∃ x, w2.setCell ⟨K, 0, none⟩ (.slice ab nb cb) = x := ⟨_, rfl⟩
      have hK3 : vw.ownBlock ≠ some K := fun e => by have h1 := hb1.pw K e; have h2 := hb1.pK; omega
      have p1 : w3.cell? ⟨K, 1, none⟩ = some vw := by
        rw [← hw3, World.cell?_setCell_other _ _ _ _ (by simp), o2.cell (p := ⟨K, 1, none⟩) hKl hK2]; exact hb1.c1
      rw [hw3] at e4 o4 s4 rw3 hs3 o3
      have hK4 : K < w3.heap.size := Nat.lt_of_lt_of_le hKl hs3
      have p2 : w4.cell? ⟨K, 1, none⟩ = some vw := by rw [o4.cell (p := ⟨K, 1, none⟩) hK4 hK3]; exact p1
      have p3 : w4.frozen? ⟨K, 1, none⟩ = false := by
        rw [o4.frozen (p := ⟨K, 1, none⟩) hK4 hK3, ← hw3, World.frozen?_setCell, o2.frozen (p := ⟨K, 1, none⟩) hKl hK2]; exact hb1.fz 1
      rw [show w3.heap.size = w2.heap.size by rw [← hw3]; simp] at e4
      have HE : Hid (w2.setCell ⟨K, 0, none⟩ (.slice ab nb cb) = w3) := hw3
      have HQ : Hid (Row wr w.heap.size (.slice (some ⟨w.heap.size, 0, none⟩) i i) bs ∧ Below w.heap.size w wr ∧ Bk wr B K ρ vb vw es ∧ VRow w2 B 22 (.slice ab nb cb) (es.map Ent.val ++ [.slice a i c]) ∧ Off (fun k => vb.ownBlock = some k) wr w2 ∧ ((Value.slice ab nb cb).ownBlock = vb.ownBlock ∨ ∃ g, (Value.slice ab nb cb).ownBlock = some g ∧ wr.heap.size ≤ g) ∧ VRow w4 B 22 (.slice aw nw cw) (es.map Ent.was ++ [.slice (some ⟨w.heap.size, 0, none⟩) i i]) ∧ Off (fun k => vw.ownBlock = some k) w3 w4 ∧ ((Value.slice aw nw cw).ownBlock = vw.ownBlock ∨ ∃ g, (Value.slice aw nw cw).ownBlock = some g ∧ w3.heap.size ≤ g)) := ⟨hrow, hbel, hb1, r2, o2, s2, r4, o4, s4⟩
      clear hrow hbel hb1 r2 o2 s2 r4 o4 s4 rw3 hs3 o3 hK2 hK3 hK4 hw3 HI
      go_wp2_with (at_builtin; first | refine wpList_append_run rfl (.tmp 26) (.tmp 28) 23 _ rfl e2 ?_ | (rw [HE.out]; refine wpList_append_run rfl (.tmp 36) (.tmp 38) 23 _ rfl e4 ?_))
      go_end0
      refine ⟨rfl, ?_⟩
      obtain ⟨hrow, hbel, hb1, r2, o2, s2, r4, o4, s4⟩ := HQ.out
      have hw3 := HE.out
      obtain ⟨ρ', a1, a2, a3, h1, h2, h3⟩ := take_done HH.out HL.out HZ.out hrow hbel hb1 r2 o2 s2 hw3 r4 o4 s4
      have hK2 : vb.ownBlock ≠ some K := fun e => by have h1 := hb1.pb K e; have h2 := hb1.pK; omega
      have hK3 : vw.ownBlock ≠ some K := fun e => by have h1 := hb1.pw K e; have h2 := hb1.pK; omega
      have hK4 : K < w3.heap.size := by rw [← hw3]; have := o2.size; simp; omega
      have h4 : ∀ q, 6 ≤ q → (w4.setCell ⟨K, 1, none⟩ (.slice aw nw cw)).cell? ⟨K, q, none⟩ = w.cell? ⟨K, q, none⟩ := fun q hq => by
        rw [World.cell?_setCell_other _ _ _ _ (by simp only [ne_eq, Addr.mk.injEq, not_and]; intro _ e; omega), o4.cell (p := ⟨K, q, none⟩) hK4 hK3, ← hw3, World.cell?_setCell_other _ _ _ _ (by simp only [ne_eq, Addr.mk.injEq, not_and]; intro _ e; omega), o2.cell (p := ⟨K, q, none⟩) hKl hK2, hbel.cell (p := ⟨K, q, none⟩) HK.out]
      exact ⟨ρ', ⟨a1, a2, a3, h1⟩, h2, h3, h4⟩
/-- A cell behind the book is written. -/
theorem Bk.behind {w : World} {B K : Nat} {ρ : Nat → Nat} {vb vw : Value} {es : List Ent} (h : Bk w B K ρ vb vw es) (q : Nat) (hq : 6 ≤ q) (v : Value) : Bk (w.setCell ⟨K, q, none⟩ v) B K ρ vb vw es := by
  have o : Off (fun z => z = K) w (w.setCell ⟨K, q, none⟩ v) := Off.setCell (P := fun z => z = K) (Off.refl _ _) (p := ⟨K, q, none⟩) rfl _
  have hc : ∀ j, j < 6 → (w.setCell ⟨K, q, none⟩ v).cell? ⟨K, j, none⟩ = w.cell? ⟨K, j, none⟩ := fun j hj => World.cell?_setCell_other _ _ _ _ (by simp only [ne_eq, Addr.mk.injEq, not_and]; intro _ e; omega)
  have hk := h.pK
  have nK : ∀ {z r : Nat}, ρ z = r → r ≠ 1 → ¬ z = K := fun {z r} e h1 e' => by subst e'; omega
  exact ⟨by rw [hc 0 (by decide)]; exact h.c0, by rw [hc 1 (by decide)]; exact h.c1, by rw [hc 2 (by decide)]; exact h.c2, by rw [hc 3 (by decide)]; exact h.c3, by rw [hc 4 (by decide)]; exact h.c4, by rw [hc 5 (by decide)]; exact h.c5, fun j => by rw [World.frozen?_setCell]; exact h.fz j, by simpa using h.hB,
    h.rb.off o (fun g e => nK (h.pb g e) (by decide)), h.rws.off o (fun g e => nK (h.pw g e) (by decide)), fun i e he => (h.val i e he).off o (fun g eg => nK (h.pval i e he g eg) (by omega)), fun i e he => (h.was i e he).off o (fun g eg => nK (h.pwas i e he g eg) (by decide)),
    h.pK, h.pb, h.pw, h.pwas, h.pval, fun g hg => h.new g (by simpa using hg)⟩
/-- append of one list of lists. -/
theorem run_one {w : World} {B : Nat} {v : Value} {xs : List Value} (h : VRow w B 23 v xs) (hB : B ≤ w.heap.size) (hl : xs.length ≤ 100) (p : Value) (hp : p.oneCell' = true) :
    ∃ a c w', (Builtin.append_ #[55, 55] 55 #[v, .slice (some ⟨w.heap.size, 0, none⟩) 1 1]).run Tryz.prog (w.alloc (.cells #[p] 23)) = .ok (.slice a (xs.length + 1) c) w' ∧ VRow w' B 23 (.slice a (xs.length + 1) c) (xs ++ [p]) ∧ Off (fun k => v.ownBlock = some k) w w' ∧ (∀ g, (Value.slice a (xs.length + 1) c).ownBlock = some g → v.ownBlock = some g ∨ w.heap.size ≤ g) := by
  obtain ⟨i, z, hi, hz, hzs, hs, hby⟩ := sl3info
  have hb : Below w.heap.size w (w.alloc (.cells #[p] 23)) := (Below.refl _ _).alloc (Nat.le_refl _) _
  obtain ⟨v', w', hr, r, pp⟩ := run_append_two (P := Tryz.prog) (w.alloc (.cells #[p] 23)) B 55 55 23 i z 24 Tryz.underlying55 hi hz hs hby hzs v xs (h.under hb) ⟨w.heap.size, 0, none⟩ 1 1 [p] rfl (fun j u hu => by
    rw [show (⟨w.heap.size, 0, none⟩ : Addr).add j = ⟨w.heap.size, j, none⟩ by rw [Addr.add_lit, Nat.zero_add], World.cell?_alloc_new]
    simpa using hu) (fun u hu => by rw [List.mem_singleton] at hu; rw [hu]; exact hp) (by unfold maxLen; omega) (by omega) (by simp; omega)
  obtain ⟨a, c, e1, _⟩ := r.isSlice
  rw [List.length_append] at e1
  simp only [List.length_cons, List.length_nil, Nat.zero_add] at e1
  subst e1
  refine ⟨a, c, w', hr, r, ((Off.refl _ w).alloc (.cells #[p] 23)).trans ?_, fun g hg => ?_⟩
  · cases pp with
    | same g cap hv hv' hg => rw [hv]; exact Off.of_grown hg
    | idle hv hm hw => omega
    | fresh cap hv' hg hs => exact (Off.of_grown hg).mono (fun k e => by cases e)
  · cases pp with
    | same g' cap hv hv' hg' => rw [hv'] at hg; rw [hv]; exact Or.inl hg
    | idle hv hm hw => omega
    | fresh cap hv' hg' hs =>
      rw [hv'] at hg
      simp [Value.ownBlock] at hg
      exact Or.inr (by omega)
end Go.Proofs.YthnpckmgnompiaaGreatDoor
