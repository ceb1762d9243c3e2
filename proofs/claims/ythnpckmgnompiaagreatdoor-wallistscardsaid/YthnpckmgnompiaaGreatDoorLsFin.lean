import Derived.Test.YthnpckmgnompiaaGreatDoorBookTake2
import Derived.Deep.RegionHeld3
import Derived.Test.YthnpckmgnompiaaGreatDoorLsPush
/-
  couriermem.Lists.TakeRecords.
-/
namespace Go.Proofs.YthnpckmgnompiaaGreatDoor
open Go.RowKit Go.BigFrame

/-- So many of the records are taken. -/
structure TrQ (W1 : World) (B X : Nat) (ρ : Nat → Nat) (es : List Ent) (vs : List Value) (rs : List (List Int)) (i : Nat) (wx : World) (ρ' : Nat → Nat) (es2 : List Ent) : Prop where
  bk : ∃ vb vw, Bk wx B X ρ' vb vw (es ++ es2)
  len : es2.length = i
  ent : ∀ (j : Nat) (e : Ent), es2[j]? = some e → e.old = e.bs ∧ rs[j]? = some e.bs ∧ vs[j]? = some e.val
  ce : ∀ q, 6 ≤ q → wx.cell? ⟨X, q, none⟩ = W1.cell? ⟨X, q, none⟩
  of : Off (fun k => ρ k = 1 ∨ ρ k = 2 ∨ ρ k = 3) W1 wx
  ro : ∀ k, k < W1.heap.size → (∀ (j : Nat) (u : Value), j < i → vs[j]? = some u → u.ownBlock ≠ some k) → ρ' k = ρ k
theorem TrQ.drew {W1 wx : World} {B X i : Nat} {ρ ρ' : Nat → Nat} {es es2 : List Ent} {vs : List Value} {rs : List (List Int)} (h : TrQ W1 B X ρ es vs rs i wx ρ' es2) : TrQ W1 B X ρ es vs rs i wx.drew ρ' es2 := by
  obtain ⟨vb, vw, hb⟩ := h.bk
  exact ⟨⟨vb, vw, hb.off (Off.of_below (P := fun _ => False) (Below.refl _ _).drew) (fun _ p => p.elim)⟩, h.len, h.ent, fun q hq => by rw [(Below.drew (Below.refl _ wx)).cell (p := ⟨X, q, none⟩) hb.lt]; exact h.ce q hq, h.of.trans (Off.of_below (Below.refl _ _).drew), h.ro⟩
theorem tr_step {W1 wx : World} {B X i C : Nat} {ρ ρ' : Nat → Nat} {es es2 : List Ent} {vs : List Value} {rs : List (List Int)} {u : Value} (h : TrQ W1 B X ρ es vs rs i wx ρ' es2) (hrs : Rws W1 C vs rs) (hC : B ≤ C)
    (hz : ∀ (j : Nat) (u : Value), vs[j]? = some u → ∀ g, u.ownBlock = some g → ρ g = 0) (hl : ∀ (j : Nat) (d : List Int), rs[j]? = some d → d.length ≤ 70368744177664) (hm : es.length + i + 1 ≤ 1099511627776) (hu : vs[i]? = some u) :
    Calls Tryz.prog 10 #[.pointer (some ⟨X, 0, none⟩), u] wx fun e w' => e = .returned (.tuple #[]) ∧ ∃ ρ'' es3, TrQ W1 B X ρ es vs rs (i + 1) w' ρ'' es3 := by
  obtain ⟨vb, vw, hb⟩ := h.bk
  obtain ⟨d, hd, hr⟩ := hrs.at_ hu
  have hrx : Row wx B u d := (hr.off h.of (fun g e p => by have := hz i u hu g e; omega)).base hC
  have hlt : ∀ g, u.ownBlock = some g → g < W1.heap.size := fun g e => (hr.lt e).2
  obtain ⟨a, c, e1, _⟩ := hrx.isSlice
  subst e1
  refine (Take_any2 hb hrx (fun g e => ?_) (hl i d hd) (by rw [List.length_append, h.len]; exact hm)).mono ?_
  · rw [h.ro g (hlt g e) (fun j v hj hv e' => hrs.inj j i v _ hj hv hu g e' e)]; exact hz i _ hu g e
  rintro e w' ⟨rfl, ρ'', vb', vw', was, b', o', r', c'⟩
  have hs := h.of.size
  refine ⟨rfl, ρ'', es2 ++ [⟨.slice a d.length c, was, d, d⟩], ⟨⟨vb', vw', by rw [← List.append_assoc]; exact b'⟩, by simp [h.len], fun j e he => ?_, fun q hq => by rw [c' q hq]; exact h.ce q hq, h.of.join o' (fun z hz1 p => ?_), fun k hk hn => ?_⟩⟩
  · rcases Nat.lt_or_ge j es2.length with q | q
    · rw [List.getElem?_append_left q] at he; exact h.ent j e he
    · rw [List.getElem?_append_right q] at he
      rcases Nat.eq_or_lt_of_le q with e' | e'
      · have hji : j = i := by have := h.len; omega
        subst hji
        rw [e', Nat.sub_self] at he
        simp at he
        subst he
        exact ⟨rfl, hd, hu⟩
      · rw [List.getElem?_eq_none (by simp; omega)] at he; cases he
  · by_cases hex : ∃ (j : Nat) (v : Value), j < i ∧ vs[j]? = some v ∧ v.ownBlock = some z
    · obtain ⟨j, v, hj, hv, hvz⟩ := hex
      obtain ⟨e, he⟩ : ∃ e, es2[j]? = some e := ⟨_, List.getElem?_eq_getElem (by rw [h.len]; exact hj)⟩
      have h1 := (h.ent j e he).2.2
      rw [hv, Option.some.injEq] at h1
      have h2 := hb.pval (es.length + j) e (by rw [List.getElem?_append_right (Nat.le_add_right _ _), Nat.add_sub_cancel_left]; exact he) z (by rw [← h1]; exact hvz)
      omega
    · rw [h.ro z hz1 (fun j v hj hv e => hex ⟨j, v, hj, hv, e⟩)] at p; exact p
  · rw [r' k (by omega) (hn i _ (by omega) hu)]
    exact h.ro k hk (fun j v hj hv => hn j v (by omega) hv)
set_option maxRecDepth 100000 in
set_option maxHeartbeats 8000000 in
theorem takeRecs {w : World} {B X n c C : Nat} {ρ : Nat → Nat} {vb vw rv : Value} {es : List Ent} {al : Option Addr} {ls vs : List Value} {rs : List (List Int)} (hb : Bk w B X ρ vb vw es) (h22 : w.cell? ⟨X, 22, none⟩ = some rv) (hr : VRow w B 23 rv ls) (hls : ls.length ≤ 90) (hl : VRow w B 22 (.slice al n c) vs) (hrs : Rws w C vs rs) (hC : B ≤ C)
    (hz : ∀ z, rv.ownBlock = some z ∨ (Value.slice al n c).ownBlock = some z ∨ (∃ (j : Nat) (u : Value), vs[j]? = some u ∧ u.ownBlock = some z) → ρ z = 0) (hv : ∀ z, rv.ownBlock = some z → ∀ (j : Nat) (u : Value), vs[j]? = some u → u.ownBlock ≠ some z)
    (hlen : ∀ (j : Nat) (d : List Int), rs[j]? = some d → d.length ≤ 70368744177664) (hn : n ≤ 16777216) (hm : es.length ≤ 33554432) :
    Calls Tryz.prog 11 #[.pointer (some ⟨X, 0, none⟩), .slice al n c] w fun e w' => e = .returned (.tuple #[]) ∧ ∃ W1 a1 c1 ρ' es2, TrQ W1 B X ρ es vs rs n w' ρ' es2 ∧ W1.cell? ⟨X, 22, none⟩ = some (.slice a1 (ls.length + 1) c1) ∧ VRow W1 B 23 (.slice a1 (ls.length + 1) c1) (ls ++ [.slice al n c]) ∧ (∀ g, (Value.slice a1 (ls.length + 1) c1).ownBlock = some g → rv.ownBlock = some g ∨ w.heap.size ≤ g) ∧ Off (fun k => rv.ownBlock = some k ∨ k = X) w W1 ∧ (∀ q, q ≠ 22 → W1.cell? ⟨X, q, none⟩ = w.cell? ⟨X, q, none⟩) := by
  obtain ⟨a1, c1, w1, e1, r1, o1, s1⟩ := run_one hr hb.hB (by omega) (.slice al n c) rfl
  have hX0 := hb.pK
  have hlt := hb.lt
  have nX : rv.ownBlock ≠ some X := fun e => by have := hz X (Or.inl e); omega
  have k1 : w1.cell? ⟨X, 22, none⟩ = some rv := by rw [o1.cell (p := ⟨X, 22, none⟩) hlt nX]; exact h22
  have k2 : w1.frozen? ⟨X, 22, none⟩ = false := by rw [o1.frozen (p := ⟨X, 22, none⟩) hlt nX]; exact hb.fz 22
  obtain ⟨W1, hW1⟩ : ∃ W1, w1.setCell ⟨X, 22, none⟩ (.slice a1 (ls.length + 1) c1) = W1 := ⟨_, rfl⟩
  have oX : Off (fun z => z = X) w1 W1 := by rw [← hW1]; exact Off.setCell (P := fun z => z = X) (Off.refl _ _) (p := ⟨X, 22, none⟩) rfl _
  have oW : Off (fun k => rv.ownBlock = some k ∨ k = X) w W1 := (o1.mono (fun k e => Or.inl e)).trans (oX.mono (fun k e => Or.inr e))
  have nlX : ∀ g, (Value.slice al n c).ownBlock = some g → ¬ (rv.ownBlock = some g ∨ g = X) := fun g e p => by
    rcases p with p | p
    · exact lists_ne hr hl (by decide) g p e
    · subst p; have := hz g (Or.inr (Or.inl e)); omega
  have hl1 : VRow W1 B 22 (.slice al n c) vs := hl.off oW nlX
  have hrs1 : Rws W1 C vs rs := hrs.off oW (fun j u hu g e p => by
    rcases p with p | p
    · exact hv g p j u hu e
    · subst p; have := hz g (Or.inr (Or.inr ⟨j, u, hu, e⟩)); omega)
  have hbW : Bk W1 B X ρ vb vw es := by rw [← hW1]; exact (hb.off o1 (fun k e => hz k (Or.inl e))).behind 22 (by decide) _
  have hc22 : W1.cell? ⟨X, 22, none⟩ = some (.slice a1 (ls.length + 1) c1) := by rw [← hW1]; exact World.cell?_setCell_same _ _ _ k1
  have s1X : ∀ g, (Value.slice a1 (ls.length + 1) c1).ownBlock = some g → ¬ g = X := fun g e e' => by
    subst e'
    rcases s1 g e with q | q
    · exact nX q
    · omega
  have HT : Hid (TrQ W1 B X ρ es vs rs 0 W1 ρ []) := ⟨⟨vb, vw, by rw [List.append_nil]; exact hbW⟩, rfl, fun j e he => by simp at he, fun _ _ => rfl, Off.refl _ _, fun _ _ _ => rfl⟩
  have HR : Hid (VRow W1 B 22 (.slice al n c) vs ∧ Rws W1 C vs rs ∧ (∀ (j : Nat) (u : Value), vs[j]? = some u → ∀ g, u.ownBlock = some g → ρ g = 0) ∧ (∀ g, (Value.slice al n c).ownBlock = some g → ρ g = 0)) := ⟨hl1, hrs1, fun j u hu g e => hz g (Or.inr (Or.inr ⟨j, u, hu, e⟩)), fun g e => hz g (Or.inr (Or.inl e))⟩
  have HE : Hid (W1.cell? ⟨X, 22, none⟩ = some (.slice a1 (ls.length + 1) c1) ∧ VRow W1 B 23 (.slice a1 (ls.length + 1) c1) (ls ++ [.slice al n c]) ∧ (∀ g, (Value.slice a1 (ls.length + 1) c1).ownBlock = some g → rv.ownBlock = some g ∨ w.heap.size ≤ g) ∧ Off (fun k => rv.ownBlock = some k ∨ k = X) w W1 ∧ (∀ q, q ≠ 22 → W1.cell? ⟨X, q, none⟩ = w.cell? ⟨X, q, none⟩)) := ⟨hc22, r1.off oX s1X, s1, oW, fun q hq => by rw [← hW1, World.cell?_setCell_other _ _ _ _ (by simp only [ne_eq, Addr.mk.injEq, not_and]; intro _ e; omega), o1.cell (p := ⟨X, q, none⟩) hlt nX]⟩
  have HL : Hid (∀ (j : Nat) (d : List Int), rs[j]? = some d → d.length ≤ 70368744177664) := hlen
  clear hb hr hl hrs hz hv hlen hl1 hrs1 hbW hc22 s1X oX oW nlX r1 o1 s1 nX hX0 hlt
  go_enter Tryz.func11, Tryz.ntmps11
  go_wp2_with (at_builtin; refine wpList_append_run rfl (.tmp 9) (.tmp 11) 55 _ rfl e1 ?_)
  clear h22 k1 k2 e1 hW1
  go_loopw [4] (fun t4 wx => ∃ i : Nat, i ≤ n ∧ t4 = .int .i64 i ∧ Hid (∃ ρ' es2, TrQ W1 B X ρ es vs rs i wx ρ' es2)) (fun t4 _ => n - (intOf t4).toNat)
  case atStart => exact ⟨0, Nat.zero_le _, rfl, ρ, [], HT.out⟩
  case round =>
    obtain ⟨i, hi, rfl, HI⟩ := hrel
    by_cases hlt : i < n
    · have hlt1 : (i : Int) < n := by omega
      have hlen := HR.out.1.len
      obtain ⟨u, hu⟩ : ∃ u, vs[i]? = some u := ⟨_, List.getElem?_eq_getElem (by omega)⟩
      obtain ⟨ρ1, es1, ht1⟩ := HI.out
      obtain ⟨g, rfl, q1⟩ := (HR.out.1.off ht1.of (fun z e p => by have := HR.out.2.2.2 z e; omega)).at_ hu
      have HCe : Hid (∀ (y : World) (ρ'' : Nat → Nat) (es3 : List Ent) (k : Nat), TrQ W1 B X ρ es vs rs k y ρ'' es3 → y.cell? ⟨g, i, none⟩ = some u) := fun y ρ'' es3 k hk => by
        obtain ⟨g', e', q'⟩ := (HR.out.1.off hk.of (fun z e p => by have := HR.out.2.2.2 z e; omega)).at_ hu
        simp only [Option.some.injEq, Addr.mk.injEq, and_true] at e'
        rw [e']; exact q'
      have T1 : Hid (Calls Tryz.prog 10 #[.pointer (some ⟨X, 0, none⟩), u] wr fun e w' => e = .returned (.tuple #[]) ∧ Hid (∃ ρ'' es3, TrQ W1 B X ρ es vs rs (i + 1) w' ρ'' es3) ∧ w'.cell? ⟨g, i, none⟩ = some u) := (tr_step ht1 HR.out.2.1 hC HR.out.2.2.1 HL.out (by omega) hu).mono fun e w' ⟨he, ρ'', es3, h3⟩ => ⟨he, ⟨ρ'', es3, h3⟩, HCe.out _ _ _ _ h3⟩
      have T2 : Hid (Calls Tryz.prog 10 #[.pointer (some ⟨X, 0, none⟩), u] wr.drew fun e w' => e = .returned (.tuple #[]) ∧ Hid (∃ ρ'' es3, TrQ W1 B X ρ es vs rs (i + 1) w' ρ'' es3) ∧ w'.cell? ⟨g, i, none⟩ = some u) := (tr_step ht1.drew HR.out.2.1 hC HR.out.2.2.1 HL.out (by omega) hu).mono fun e w' ⟨he, ρ'', es3, h3⟩ => ⟨he, ⟨ρ'', es3, h3⟩, HCe.out _ _ _ _ h3⟩
      clear HI ht1 hu hlen HCe
      go_wp2_with fail
      go_region_held3 (fun z => z.cell? ⟨g, i, none⟩ = some u) (simp [*]) (first | (go_at_call 10; (first | refine T1.out.mono ?_ | refine T2.out.mono ?_); rintro _ w3 ⟨rfl, H3, c3⟩))
      all_goals
        go_wp2_with fail
        go_roundw
        case rel => exact ⟨i + 1, hlt, by go_num, H3⟩
        case measure => simp [intOf]; omega
    · have hlt1 : ¬ (i : Int) < n := by omega
      obtain rfl : i = n := by omega
      go_wp2_with fail
      go_end0
      obtain ⟨ρ1, es1, ht1⟩ := HI.out
      exact ⟨rfl, W1, ⟨ρ1, es1, ht1⟩, a1, c1, HE.out⟩
end Go.Proofs.YthnpckmgnompiaaGreatDoor

/-
  The law's sameRecords, sameReplay of the same.
-/
namespace Go.Proofs.YthnpckmgnompiaaGreatDoor
open Go.RowKit Go.BigFrame

theorem Rws.pcs {w : World} {C : Nat} {vs : List Value} {rs : List (List Int)} (h : Rws w C vs rs) : Pcs w vs rs := by
  refine ⟨h.len, fun j u d hu hd => ?_⟩
  have hr := h.row j u d hu hd
  obtain ⟨a, c, e, _⟩ := hr.isSlice
  subst e
  refine ⟨a, c, rfl, hr.asByts, fun ha => ?_⟩
  rcases hr.form with ⟨e, _⟩ | ⟨g, cap, e, _⟩
  · simp only [Value.slice.injEq] at e; exact e.2.2
  · subst ha; simp only [Value.slice.injEq] at e; cases e.1
set_option maxRecDepth 100000 in
set_option maxHeartbeats 4000000 in
theorem sameRecs {w : World} {B B' n c c' : Nat} {a b : Option Addr} {vs us : List Value} {rs : List (List Int)} (h1 : VRow w B 22 (.slice a n c) vs) (p1 : Pcs w vs rs) (h2 : VRow w B' 22 (.slice b n c') us) (p2 : Pcs w us rs) (hn : n ≤ 16777216) (hd : ∀ (j : Nat) (d : List Int), rs[j]? = some d → d.length ≤ 20000) :
    Calls Tryz.prog 31 #[.slice a n c, .slice b n c'] w fun e w' => e = .returned (.bool true) ∧ Below w.heap.size w w' := by
  have HH : Hid (VRow w B 22 (.slice a n c) vs ∧ Pcs w vs rs ∧ VRow w B' 22 (.slice b n c') us ∧ Pcs w us rs ∧ (∀ (j : Nat) (d : List Int), rs[j]? = some d → d.length ≤ 20000)) := ⟨h1, p1, h2, p2, hd⟩
  clear h1 p1 h2 p2 hd
  go_enter Tryz.func31, Tryz.ntmps31
  go_wp2_with fail
  go_loopw [5] (fun t3 wx => ∃ i : Nat, i ≤ n ∧ t3 = .int .i64 i ∧ Hid (Below w.heap.size w wx)) (fun t3 _ => n - (intOf t3).toNat)
  case atStart => exact ⟨0, Nat.zero_le _, rfl, Below.refl _ _⟩
  case round =>
    obtain ⟨i, hi, rfl, HI⟩ := hrel
    by_cases hlt : i < n
    · have hlt1 : (i : Int) < n := by omega
      have l1 := HH.out.1.len
      have l2 := HH.out.2.2.1.len
      have l3 := HH.out.2.1.1
      obtain ⟨u, hu⟩ : ∃ u, vs[i]? = some u := ⟨_, List.getElem?_eq_getElem (by omega)⟩
      obtain ⟨v, hv⟩ : ∃ v, us[i]? = some v := ⟨_, List.getElem?_eq_getElem (by omega)⟩
      obtain ⟨d, hd⟩ : ∃ d, rs[i]? = some d := ⟨_, List.getElem?_eq_getElem (by omega)⟩
      obtain ⟨g, ea, q1⟩ := HH.out.1.at_ hu
      obtain ⟨g', eb, q2⟩ := HH.out.2.2.1.at_ hv
      obtain ⟨a1, c1, e1, y1, _⟩ := HH.out.2.1.2 i u d hu hd
      obtain ⟨a2, c2, e2, y2, _⟩ := HH.out.2.2.2.1.2 i v d hv hd
      have hdl := HH.out.2.2.2.2 i d hd
      subst e1 e2
      have hk : ∀ y, Below w.heap.size w y → y.cell? ⟨g, i, none⟩ = some (.slice a1 d.length c1) ∧ y.cell? ⟨g', i, none⟩ = some (.slice a2 d.length c2) := fun y hy => ⟨by rw [hy.cell (p := ⟨g, i, none⟩) (cell_lt q1)]; exact q1, by rw [hy.cell (p := ⟨g', i, none⟩) (cell_lt q2)]; exact q2⟩
      have HS : Hid (∀ y, Below w.heap.size w y → Calls Tryz.prog 30 #[.slice a1 d.length c1, .slice a2 d.length c2] y fun e w' => e = .returned (.bool true) ∧ Hid (Below w.heap.size w w') ∧ w'.cell? ⟨g, i, none⟩ = some (.slice a1 d.length c1) ∧ w'.cell? ⟨g', i, none⟩ = some (.slice a2 d.length c2)) := fun y hy => (same_true (y1.below hy) (y2.below hy) (by omega)).mono fun e w' ⟨he, m, hw⟩ => by
        subst hw
        have hb := below_drewN hy m
        exact ⟨he, hb, hk _ hb⟩
      have k1 := (hk _ HI.out).1
      have k2 := (hk _ HI.out).2
      subst ea eb
      clear q1 q2 y1 y2 hu hv hd l1 l2 l3 hk
      go_wp2_with fail
      go_region_held3 (fun z => z.cell? ⟨g, i, none⟩ = some (.slice a1 d.length c1) ∧ z.cell? ⟨g', i, none⟩ = some (.slice a2 d.length c2)) (simp [*]) (first | (go_at_call 30; refine (HS.out _ (by first | exact HI.out | exact HI.out.drew)).mono ?_; rintro _ w3 ⟨rfl, H3, m1, m2⟩))
      all_goals
        go_wp2_with fail
        go_roundw
        case rel => exact ⟨i + 1, hlt, by go_num, H3⟩
        case measure => simp [intOf]; omega
    · have hlt1 : ¬ (i : Int) < n := by omega
      go_wp2_with fail
      go_ret
      exact ⟨rfl, HI.out⟩
set_option maxRecDepth 100000 in
set_option maxHeartbeats 4000000 in
theorem sameReplay_true {w : World} {B B' n c c' m k k' : Nat} {a b ao bo : Option Addr} {sn : List Int} {vs us : List Value} {rs : List (List Int)} (s1 : Byts w ao m sn) (s2 : Byts w bo m sn) (hm : m ≤ 2097152) (h1 : VRow w B 22 (.slice a n c) vs) (p1 : Pcs w vs rs) (h2 : VRow w B' 22 (.slice b n c') us) (p2 : Pcs w us rs) (hn : n ≤ 16777216) (hd : ∀ (j : Nat) (d : List Int), rs[j]? = some d → d.length ≤ 20000) :
    Calls Tryz.prog 9 #[.agg #[.int .u64 1, .slice ao m k, .slice a n c, .int .i64 0], .agg #[.int .u64 1, .slice bo m k', .slice b n c', .int .i64 0]] w fun e w' => e = .returned (.bool true) ∧ Below w.heap.size w w' := by
  have HS : Hid (∀ y, Below w.heap.size w y → Calls Tryz.prog 30 #[.slice ao m k, .slice bo m k'] y fun e w' => e = .returned (.bool true) ∧ ∃ j, w' = y.drewN j) := fun y hy => same_true (s1.below hy) (s2.below hy) (by omega)
  have HR : Hid (∀ y, Below w.heap.size w y → Calls Tryz.prog 31 #[.slice a n c, .slice b n c'] y fun e w' => e = .returned (.bool true) ∧ Below y.heap.size y w') := fun y hy => sameRecs (h1.keep fun g hg => hy.block g (h1.lt hg).2) (p1.below hy) (h2.keep fun g hg => hy.block g (h2.lt hg).2) (p2.below hy) hn hd
  have HB : Hid (Below w.heap.size w ((w.alloc (.cells #[.int .u64 1, .slice ao m k, .slice a n c, .int .i64 0] 33)).alloc (.cells #[.int .u64 1, .slice bo m k', .slice b n c', .int .i64 0] 33))) := ((Below.refl _ _).alloc (Nat.le_refl _) _).alloc (by simp) _
  clear s1 s2 h1 p1 h2 p2 hd
  go_enter Tryz.func9, Tryz.ntmps9
  go_wp2_with fail
  refine (HS.out _ HB.out).mono ?_
  rintro e w2 ⟨rfl, j, rfl⟩
  go_wp2_with fail
  refine (HR.out _ (below_drewN HB.out j)).mono ?_
  rintro e w2 ⟨rfl, hb⟩
  have HF : Hid (Below w.heap.size w w2) := below_then (below_drewN HB.out j) hb
  clear hb
  go_wp2_with fail
  go_ret
  exact ⟨rfl, HF.out⟩
end Go.Proofs.YthnpckmgnompiaaGreatDoor

/-
  The law WalLists, walked.
-/
namespace Go.Proofs.YthnpckmgnompiaaGreatDoor
open Go.RowKit Go.BigFrame

/-- Behind Format: the disk. -/
def FmQ (w : World) (sn : List Int) (e : Ending) (w' : World) : Prop := ∃ u0 u1, e = .returned .nilIface ∧ DskS w' w.heap.size w.heap.size u0 u1 (sgL sn [] (30 + sn.length) 1 1 2) ∧ Below w.heap.size w w'
theorem fm_ok {w y : World} {a : Option Addr} {m k : Nat} {sn : List Int} (hb : Below (w.alloc (.cells #[.slice none 0 0, .int .i64 0, .slice none 0 0, .int .i64 0, .int .i64 1, .int .i64 (-1), .int .i64 0, .int .i64 0, .int .i64 0] 72)).heap.size (w.alloc (.cells #[.slice none 0 0, .int .i64 0, .slice none 0 0, .int .i64 0, .int .i64 1, .int .i64 (-1), .int .i64 0, .int .i64 0, .int .i64 0] 72)) y) (hr : Row y (w.alloc (.cells #[.slice none 0 0, .int .i64 0, .slice none 0 0, .int .i64 0, .int .i64 1, .int .i64 (-1), .int .i64 0, .int .i64 0, .int .i64 0] 72)).heap.size (.slice a m k) sn) (hm : m ≤ 2097152) (hH : Halves w) :
    Calls Tryz.prog 5 #[.pointer (some ⟨w.heap.size, 0, none⟩), .slice a m k] y (FmQ w sn) := by
  have hg : 1 < w.heap.size := cell_lt (hH 0 (by decide))
  have b1 : Below w.heap.size w (w.alloc (.cells #[.slice none 0 0, .int .i64 0, .slice none 0 0, .int .i64 0, .int .i64 1, .int .i64 (-1), .int .i64 0, .int .i64 0, .int .i64 0] 72)) := (Below.refl _ _).alloc (Nat.le_refl _) _
  have hD : DskS (w.alloc (.cells #[.slice none 0 0, .int .i64 0, .slice none 0 0, .int .i64 0, .int .i64 1, .int .i64 (-1), .int .i64 0, .int .i64 0, .int .i64 0] 72)) w.heap.size w.heap.size (.slice none 0 0) (.slice none 0 0) sgN := dsk_new w
  have b2 : Below w.heap.size w y := below_then b1 hb
  have foot : ∀ q, Foot w.heap.size (.slice none 0 0) (.slice none 0 0) q → q = w.heap.size := fun q h => by
    rcases h with h | h | h
    · exact h
    · cases h
    · cases h
  have hlen := hr.len
  refine (lFormat (hD.under hb) hr.asByts (fun b o hm0 e hf => ?_) (fun e => ?_) hm (hH.under b2) (fun h => by have := foot _ h; omega)).mono ?_
  · subst e
    have h1 := foot b hf
    rcases hr.form with ⟨e, _⟩ | ⟨g, cap, e, hg, _⟩
    · cases e
    · simp only [Value.slice.injEq, Option.some.injEq, Addr.mk.injEq] at e
      rw [World.size_alloc] at hg
      omega
  · rcases hr.form with ⟨e', _⟩ | ⟨g, cap, e', hg, _⟩
    · simp only [Value.slice.injEq] at e'; exact e'.2.2
    · subst e; simp only [Value.slice.injEq] at e'; cases e'.1
  rintro e w' ⟨ev, u0, u1, he, hd, hst, hrr⟩
  rw [run_fmt (by omega)] at hd hrr
  rcases hrr with ⟨_, rfl⟩ | ⟨h0, _⟩
  · exact ⟨u0, u1, he, hd, b2.trans (hst.off.below b2.size (fun q hq => by rw [foot q hq]; exact Nat.le_refl _))⟩
  · exact absurd rfl h0
end Go.Proofs.YthnpckmgnompiaaGreatDoor

/-
  The law WalLists: what was put, the book and the disk side by side.
-/
namespace Go.Proofs.YthnpckmgnompiaaGreatDoor
open Go.RowKit Go.BigFrame

/-- What stands beside the book: nothing of it is the book's, nothing of it is at q. -/
def Apt (Wb : Nat) (v : Value) (vs : List Value) (rv : Value) (ls : List Value) (q : Nat) : Prop := q ≠ Wb ∧ v.ownBlock ≠ some q ∧ (∀ (j : Nat) (u : Value), vs[j]? = some u → u.ownBlock ≠ some q) ∧ rv.ownBlock ≠ some q ∧ ∀ l ∈ ls, l.ownBlock ≠ some q
structure WaI (w : World) (K Wb X : Nat) (cs : Nat → Option Value) (sn : List Int) (rs : List (List Int)) (v : Value) (vs : List Value) (ρ : Nat → Nat) (es : List Ent) (rv : Value) (ls : List Value) (wx : World) : Prop where
  dk : ∃ v0 v1 s na ns nc, DskS wx w.heap.size K v0 v1 (sgL sn rs s na ns nc) ∧ s ≤ 30 + sn.length + sizes rs ∧ ∀ q, Foot K v0 v1 q → ρ q = 0 ∧ Apt Wb v vs rv ls q
  bl : Below w.heap.size w wx
  wl : w.heap.size ≤ Wb ∧ Wb < wx.heap.size ∧ ρ Wb = 0
  wc : ∀ j, wx.cell? ⟨Wb, j, none⟩ = cs j
  vr : VRow wx w.heap.size 22 v vs
  vz : ∀ q, v.ownBlock = some q → ρ q = 0
  rw : Rws wx w.heap.size vs rs
  rz : ∀ (j : Nat) (u : Value), vs[j]? = some u → ∀ q, u.ownBlock = some q → ρ q = 0
  bk : ∃ vb vw, Bk wx w.heap.size X ρ vb vw es
  en : ∀ (i : Nat) (e : Ent), es[i]? = some e → e.old = e.bs ∧ e.bs.length ≤ 2097152
  ba : Bare wx X
  c22 : wx.cell? ⟨X, 22, none⟩ = some rv
  rr : VRow wx w.heap.size 23 rv ls
  rvz : ∀ q, rv.ownBlock = some q → ρ q = 0 ∧ q ≠ Wb
  lz : ∀ l ∈ ls, ∀ q, l.ownBlock = some q → ρ q = 0 ∧ q ≠ Wb ∧ v.ownBlock ≠ some q
  lr : ∀ l ∈ ls, ∃ us, VRow wx w.heap.size 22 l us
  gd : LlG sn rs
  lo : ∀ q, ρ q ≠ 0 → w.heap.size ≤ q
section
variable {w wx w' : World} {K Wb X : Nat} {cs : Nat → Option Value} {sn : List Int} {rs : List (List Int)} {v : Value} {vs : List Value} {ρ : Nat → Nat} {es : List Ent} {rv : Value} {ls : List Value}
theorem WaI.apt (h : WaI w K Wb X cs sn rs v vs ρ es rv ls wx) {q : Nat} (hq : wx.heap.size ≤ q) : ρ q = 0 ∧ Apt Wb v vs rv ls q := by
  obtain ⟨vb, vw, hb⟩ := h.bk
  refine ⟨hb.new q hq, by have := h.wl.2.1; omega, fun e => ?_, fun j u hu e => ?_, fun e => ?_, fun l hl e => ?_⟩
  · have := (h.vr.lt e).2; omega
  · have := (h.rw.lt hu e).2; omega
  · have := (h.rr.lt e).2; omega
  · obtain ⟨us, hus⟩ := h.lr l hl
    have := (hus.lt e).2; omega
/-- Whatever touches nothing of all this. -/
theorem WaI.far {P : Nat → Prop} (h : WaI w K Wb X cs sn rs v vs ρ es rv ls wx) (o : Off P wx w') (hP : ∀ q, P q → ρ q = 0 ∧ Apt Wb v vs rv ls q ∧ w.heap.size ≤ q) {u0 u1 : Value} {s : Nat} {na ns nc : Int} (hd : DskS w' w.heap.size K u0 u1 (sgL sn rs s na ns nc)) (hs : s ≤ 30 + sn.length + sizes rs) (hf : ∀ q, Foot K u0 u1 q → ρ q = 0 ∧ Apt Wb v vs rv ls q) : WaI w K Wb X cs sn rs v vs ρ es rv ls w' := by
  obtain ⟨vb, vw, hb⟩ := h.bk
  have hX : ¬ P X := fun p => by have := (hP X p).1; have := hb.pK; omega
  have hXl := hb.lt
  have hW : ¬ P Wb := fun p => (hP Wb p).2.1.1 rfl
  exact ⟨⟨u0, u1, s, na, ns, nc, hd, hs, hf⟩, h.bl.trans (o.below h.bl.size (fun q p => (hP q p).2.2)), ⟨h.wl.1, Nat.lt_of_lt_of_le h.wl.2.1 o.size, h.wl.2.2⟩, fun j => (o.cell (p := ⟨Wb, j, none⟩) h.wl.2.1 hW).trans (h.wc j), h.vr.off o (fun q e p => (hP q p).2.1.2.1 e), h.vz, h.rw.off o (fun j u hu q e p => (hP q p).2.1.2.2.1 j u hu e), h.rz, ⟨vb, vw, hb.off o (fun q p => (hP q p).1)⟩, h.en, h.ba.off o hX, (o.cell (p := ⟨X, 22, none⟩) hXl hX).trans h.c22, h.rr.off o (fun q e p => (hP q p).2.1.2.2.2.1 e), h.rvz, h.lz, fun l hl => by
    obtain ⟨us, hus⟩ := h.lr l hl
    exact ⟨us, hus.off o (fun q e p => (hP q p).2.1.2.2.2.2 l hl e)⟩, h.gd, h.lo⟩
theorem WaI.under (h : WaI w K Wb X cs sn rs v vs ρ es rv ls wx) (hb : Below wx.heap.size wx w') : WaI w K Wb X cs sn rs v vs ρ es rv ls w' := by
  obtain ⟨v0, v1, s, na, ns, nc, hd, hs, hf⟩ := h.dk
  exact h.far (Off.of_below (P := fun _ => False) hb) (fun _ p => p.elim) (hd.under hb) hs hf
/-- Open: the same beside it, and its replay's lists apart from all. -/
theorem wa_open (h : WaI w K Wb X cs sn rs v vs ρ es rv ls wx) (hH : Halves w) :
    Calls Tryz.prog 7 #[.pointer (some ⟨K, 0, none⟩)] wx fun e w' => ∃ (L : Nat) (a : Option Addr) (n k : Nat) (v2 : Value) (us : List Value) (D : Nat), e = .returned (.tuple #[.pointer (some ⟨L, 0, none⟩), .agg #[.int .u64 1, .slice a n k, v2, .int .i64 0], .nilIface]) ∧ WaI w K Wb X cs sn rs v vs ρ es rv ls w' ∧ Row w' wx.heap.size (.slice a n k) sn ∧ Pcs w' us rs ∧ OwnQ w' D (.slice a n k) v2 sn us rs ∧ wx.heap.size ≤ D ∧ ∃ v0 v1 s na ns nc, DskS w' w.heap.size K v0 v1 (sgL sn rs s na ns nc) ∧ s ≤ 30 + sn.length + sizes rs ∧ (∀ q, Foot K v0 v1 q → ρ q = 0 ∧ Apt Wb v vs rv ls q) ∧ ∀ q, Foot K v0 v1 q → q < D := by
  obtain ⟨v0, v1, s, na, ns, nc, hd, hs, hf⟩ := h.dk
  refine (ll_open hd h.bl.size (hH.under h.bl) h.gd hs).mono ?_
  rintro e w' ⟨u0, u1, na', ns', nc', L, a, n, k, v2, us, hst, he, hlg, hrow, _, hpc, hL, D, hD, hDf, hown⟩
  have hfn : ∀ q, Foot K u0 u1 q → ρ q = 0 ∧ Apt Wb v vs rv ls q := fun q hq => by
    rcases Nat.lt_or_ge q wx.heap.size with p | p
    · exact hf q (hst.foot q p hq)
    · exact h.apt p
  exact ⟨L, a, n, k, v2, us, D, he, h.far hst.off (fun q p => ⟨(hf q p).1, (hf q p).2, (hd.foot_lt p).1⟩) hlg.d (Nat.le_refl _) hfn, hrow, hpc, hown, by omega, u0, u1, _, na', ns', nc', hlg.d, Nat.le_refl _, hfn, hDf⟩
end
end Go.Proofs.YthnpckmgnompiaaGreatDoor
