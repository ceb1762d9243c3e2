import Derived.Test.YthnpckmgnompiaaGreatDoorLsFin
/-
  The law WalLists: a replay's lists are taken into the book.
-/
namespace Go.Proofs.YthnpckmgnompiaaGreatDoor
open Go.RowKit Go.BigFrame

/-- A replay's records beside all that. -/
structure WaJ (w : World) (K Wb X : Nat) (cs : Nat → Option Value) (sn : List Int) (rs : List (List Int)) (v : Value) (vs : List Value) (ρ : Nat → Nat) (es : List Ent) (rv : Value) (ls : List Value) (sv lv : Value) (us : List Value) (wx : World) : Prop where
  i : WaI w K Wb X cs sn rs v vs ρ es rv ls wx
  dj : ∃ v0 v1 s na ns nc, DskS wx w.heap.size K v0 v1 (sgL sn rs s na ns nc) ∧ s ≤ 30 + sn.length + sizes rs ∧ ∀ q, Foot K v0 v1 q → ρ q = 0 ∧ Apt Wb v vs rv ls q ∧ lv.ownBlock ≠ some q ∧ (∀ (j : Nat) (u : Value), us[j]? = some u → u.ownBlock ≠ some q) ∧ sv.ownBlock ≠ some q
  lr : VRow wx w.heap.size 22 lv us
  ur : Rws wx w.heap.size us rs
  z : ∀ q, lv.ownBlock = some q ∨ (∃ (j : Nat) (u : Value), us[j]? = some u ∧ u.ownBlock = some q) → ρ q = 0 ∧ Apt Wb v vs rv ls q
section
variable {w wx w' : World} {K Wb X : Nat} {cs : Nat → Option Value} {sn : List Int} {rs : List (List Int)} {v : Value} {vs : List Value} {ρ : Nat → Nat} {es : List Ent} {rv : Value} {ls : List Value} {sv lv : Value} {us : List Value}
theorem WaJ.under (h : WaJ w K Wb X cs sn rs v vs ρ es rv ls sv lv us wx) (hb : Below wx.heap.size wx w') : WaJ w K Wb X cs sn rs v vs ρ es rv ls sv lv us w' := by
  obtain ⟨v0, v1, s, na, ns, nc, hd, hs, hf⟩ := h.dj
  exact ⟨h.i.under hb, ⟨v0, v1, s, na, ns, nc, hd.under hb, hs, hf⟩, h.lr.keep fun g hg => hb.block g (h.lr.lt hg).2, h.ur.off (Off.of_below (P := fun _ => False) hb) (fun _ _ _ _ _ => id), h.z⟩
/-- The snapshot is taken. -/
theorem wa_take {a : Option Addr} {n k : Nat} (h : WaJ w K Wb X cs sn rs v vs ρ es rv ls (.slice a n k) lv us wx) (hr : Row wx w.heap.size (.slice a n k) sn) (hz : ∀ q, (Value.slice a n k).ownBlock = some q → ρ q = 0 ∧ Apt Wb v vs rv ls q) (hu : ∀ (j : Nat) (u : Value), us[j]? = some u → ∀ q, u.ownBlock = some q → (Value.slice a n k).ownBlock ≠ some q) (hm : es.length ≤ 33554432) :
    Calls Tryz.prog 10 #[.pointer (some ⟨X, 0, none⟩), .slice a n k] wx fun e w' => e = .returned (.tuple #[]) ∧ ∃ ρ' was, WaJ w K Wb X cs sn rs v vs ρ' (es ++ [⟨.slice a n k, was, sn, sn⟩]) rv ls (.slice none 0 0) lv us w' ∧ Off (fun q => ρ q = 1 ∨ ρ q = 2 ∨ ρ q = 3) wx w' := by
  obtain ⟨v0, v1, s, na, ns, nc, hd, hs, hfj⟩ := h.dj
  obtain ⟨vb, vw, hb⟩ := h.i.bk
  have hn := hr.len
  have hsl := h.i.gd.sl
  refine (Take_any2 hb hr (fun q e => (hz q e).1) (by omega) (by omega)).mono ?_
  rintro e w' ⟨he, ρ', vb', vw', was, b', o', r', c'⟩
  have hXl := hb.lt
  have ro : ∀ q, q < wx.heap.size → ρ q = 0 → (Value.slice a n k).ownBlock ≠ some q → ρ' q = 0 := fun q hq h0 hne => by rw [r' q hq hne]; exact h0
  have np : ∀ q, ρ q = 0 → ¬ (ρ q = 1 ∨ ρ q = 2 ∨ ρ q = 3) := fun q h0 => by omega
  have bw : Below w.heap.size w w' := h.i.bl.trans (o'.below h.i.bl.size (fun q p => ?_))
  · have hW : ρ' Wb = 0 := ro Wb h.i.wl.2.1 h.i.wl.2.2 (fun e => (hz Wb e).2.1 rfl)
    have hvz : ∀ q, v.ownBlock = some q → ρ' q = 0 := fun q e => ro q (h.i.vr.lt e).2 (h.i.vz q e) (fun e' => (hz q e').2.2.1 e)
    have hrz : ∀ (j : Nat) (u : Value), vs[j]? = some u → ∀ q, u.ownBlock = some q → ρ' q = 0 := fun j u hj q e => ro q (h.i.rw.lt hj e).2 (h.i.rz j u hj q e) (fun e' => (hz q e').2.2.2.1 j u hj e)
    have hrv : ∀ q, rv.ownBlock = some q → ρ' q = 0 := fun q e => ro q (h.i.rr.lt e).2 (h.i.rvz q e).1 (fun e' => (hz q e').2.2.2.2.1 e)
    have hlz : ∀ l ∈ ls, ∀ q, l.ownBlock = some q → ρ' q = 0 := fun l hl q e => by
      obtain ⟨us', hus⟩ := h.i.lr l hl
      exact ro q (hus.lt e).2 (h.i.lz l hl q e).1 (fun e' => (hz q e').2.2.2.2.2 l hl e)
    have hft : ∀ q, Foot K v0 v1 q → ρ' q = 0 := fun q hq => ro q (hd.foot_lt hq).2 (hfj q hq).1 (hfj q hq).2.2.2.2
    have hd' : DskS w' w.heap.size K v0 v1 (sgL sn rs s na ns nc) := hd.off o' (fun q hq => np q (hfj q hq).1)
    refine ⟨he, ρ', was, ⟨⟨⟨v0, v1, s, na, ns, nc, hd', hs, fun q hq => ⟨hft q hq, (hfj q hq).2.1⟩⟩, bw, ⟨h.i.wl.1, Nat.lt_of_lt_of_le h.i.wl.2.1 o'.size, hW⟩, fun j => (o'.cell (p := ⟨Wb, j, none⟩) h.i.wl.2.1 (np Wb h.i.wl.2.2)).trans (h.i.wc j), h.i.vr.off o' (fun q e => np q (h.i.vz q e)), hvz, h.i.rw.off o' (fun j u hj q e => np q (h.i.rz j u hj q e)), hrz, ⟨vb', vw', b'⟩, ?_, fun q h1 h2 => by rw [c' q h1]; exact h.i.ba q h1 h2, by rw [c' 22 (by omega)]; exact h.i.c22, h.i.rr.off o' (fun q e => np q (h.i.rvz q e).1), fun q e => ⟨hrv q e, (h.i.rvz q e).2⟩, fun l hl q e => ⟨hlz l hl q e, (h.i.lz l hl q e).2⟩, fun l hl => ?_, h.i.gd, fun q hq => ?_⟩, ⟨v0, v1, s, na, ns, nc, hd', hs, fun q hq => ⟨hft q hq, (hfj q hq).2.1, (hfj q hq).2.2.1, (hfj q hq).2.2.2.1, (fun e => by cases e)⟩⟩, h.lr.off o' (fun q e => np q (h.z q (Or.inl e)).1), h.ur.off o' (fun j u hj q e => np q (h.z q (Or.inr ⟨j, u, hj, e⟩)).1), fun q e => ⟨?_, (h.z q e).2⟩⟩, o'⟩
    · intro i e he'
      rcases Nat.lt_or_ge i es.length with p | p
      · rw [List.getElem?_append_left p] at he'; exact h.i.en i e he'
      · rw [List.getElem?_append_right p] at he'
        have := List.mem_of_getElem? he'
        rw [List.mem_singleton] at this
        subst this
        exact ⟨rfl, hsl⟩
    · obtain ⟨us', hus⟩ := h.i.lr l hl
      exact ⟨us', hus.off o' (fun q e => np q (h.i.lz l hl q e).1)⟩
    · rcases Nat.lt_or_ge q wx.heap.size with p | p
      · by_cases e : (Value.slice a n k).ownBlock = some q
        · exact (hr.lt e).1
        · rw [r' q p e] at hq; exact h.i.lo q hq
      · exact Nat.le_trans h.i.bl.size p
    · rcases e with e | ⟨j, u, hj, e⟩
      · exact ro q (h.lr.lt e).2 (h.z q (Or.inl e)).1 (fun e' => row_ne hr h.lr q e' e)
      · exact ro q (h.ur.lt hj e).2 (h.z q (Or.inr ⟨j, u, hj, e⟩)).1 (hu j u hj q e)
  · exact h.i.lo q (by omega)
end
end Go.Proofs.YthnpckmgnompiaaGreatDoor

/-
  The law WalLists: a replay's records are taken into the book.
-/
namespace Go.Proofs.YthnpckmgnompiaaGreatDoor
open Go.RowKit Go.BigFrame

theorem row_ne3 {w : World} {B B' : Nat} {v v' : Value} {xs : List Int} {ys : List Value} (h : Row w B v xs) (h' : VRow w B' 23 v' ys) : ∀ g, v.ownBlock = some g → v'.ownBlock ≠ some g := fun g hg hg' => by
  rcases h.2 with ⟨rfl, _⟩ | ⟨g1, c1, u1, rfl, _, b1, _⟩
  · cases hg
  rcases h'.2 with ⟨rfl, _⟩ | ⟨g2, c2, u2, rfl, _, b2, _⟩
  · cases hg'
  simp only [Value.ownBlock, Option.some.injEq] at hg hg'
  subst hg; subst hg'
  rw [b1] at b2
  simp only [Option.some.injEq, Obj.cells.injEq] at b2
  exact absurd b2.2.1 (by decide)
section
variable {w wx : World} {K Wb X : Nat} {cs : Nat → Option Value} {sn : List Int} {rs : List (List Int)} {v : Value} {vs : List Value} {ρ : Nat → Nat} {es : List Ent} {rv : Value} {ls : List Value} {sv : Value} {us : List Value}
theorem wa_recs {al : Option Addr} {n c : Nat} (h : WaJ w K Wb X cs sn rs v vs ρ es rv ls sv (.slice al n c) us wx) (hls : ls.length ≤ 90) (hm : es.length ≤ 33554432) :
    Calls Tryz.prog 11 #[.pointer (some ⟨X, 0, none⟩), .slice al n c] wx fun e w' => e = .returned (.tuple #[]) ∧ ∃ ρ' es2 rv', WaI w K Wb X cs sn rs v vs ρ' (es ++ es2) rv' (ls ++ [.slice al n c]) w' ∧ es2.length = n := by
  obtain ⟨v0, v1, s, na, ns, nc, hd, hs, hfj⟩ := h.dj
  obtain ⟨vb, vw, hb⟩ := h.i.bk
  have hn := h.lr.len
  have hrl := h.ur.len
  have hsz := len_sizes rs
  have hgs := h.i.gd.sz
  have hX1 := hb.pK
  have hXl := hb.lt
  have hdl : ∀ (j : Nat) (d : List Int), rs[j]? = some d → d.length ≤ 20000 := fun j d hd => (h.i.gd.gd d (List.mem_of_getElem? hd)).2.1
  refine (takeRecs hb h.i.c22 h.i.rr hls h.lr h.ur (Nat.le_refl _) (fun q e => ?_) (fun q e j u hu e' => (h.z q (Or.inr ⟨j, u, hu, e'⟩)).2.2.2.2.1 e) (fun j d hd => by have := hdl j d hd; omega) (by omega) hm).mono ?_
  · rcases e with e | e | e
    · exact (h.i.rvz q e).1
    · exact (h.z q (Or.inl e)).1
    · exact (h.z q (Or.inr e)).1
  rintro e w' ⟨he, W1, a1, c1, ρ', es2, ht, k22, r1, s1, o1, ce1⟩
  have hW1 := o1.size
  have oA : Off (fun q => rv.ownBlock = some q ∨ ρ q = 1 ∨ ρ q = 2 ∨ ρ q = 3) wx w' := (o1.mono (fun q e => by
    rcases e with e | e
    · exact Or.inl e
    · rw [e]; exact Or.inr (Or.inl hX1))).trans (ht.of.mono (fun q e => Or.inr e))
  have ro : ∀ q, q < W1.heap.size → ρ q = 0 → (∀ (j : Nat) (u : Value), us[j]? = some u → u.ownBlock ≠ some q) → ρ' q = 0 := fun q hq h0 hne => by
    rw [ht.ro q hq (fun j u _ hu => hne j u hu)]; exact h0
  have np : ∀ q, ρ q = 0 → rv.ownBlock ≠ some q → ¬ (rv.ownBlock = some q ∨ ρ q = 1 ∨ ρ q = 2 ∨ ρ q = 3) := fun q h0 h1 p => by
    rcases p with p | p
    · exact h1 p
    · omega
  have ua : ∀ (j : Nat) (u : Value), us[j]? = some u → ∀ q, u.ownBlock = some q → Apt Wb v vs rv ls q := fun j u hu q e => (h.z q (Or.inr ⟨j, u, hu, e⟩)).2
  have rvne : ∀ q, (Value.slice a1 (ls.length + 1) c1).ownBlock = some q → rv.ownBlock = some q ∨ (wx.heap.size ≤ q ∧ q < W1.heap.size) := fun q e => (s1 q e).imp id (fun p => ⟨p, (r1.lt e).2⟩)
  have rvv : ∀ q, v.ownBlock = some q → rv.ownBlock ≠ some q := fun q e e' => lists_ne h.i.rr h.i.vr (by decide) q e' e
  have rvu : ∀ (j : Nat) (u : Value), vs[j]? = some u → ∀ q, u.ownBlock = some q → rv.ownBlock ≠ some q := fun j u hu q e e' => by
    obtain ⟨d, _, hr⟩ := h.i.rw.at_ hu
    exact row_ne3 hr h.i.rr q e e'
  have hd' : DskS w' w.heap.size K v0 v1 (sgL sn rs s na ns nc) := hd.off oA (fun q hq => np q (hfj q hq).1 (hfj q hq).2.1.2.2.2.1)
  have hft : ∀ q, Foot K v0 v1 q → ρ' q = 0 := fun q hq => ro q (by have := (hd.foot_lt hq).2; omega) (hfj q hq).1 (hfj q hq).2.2.2.1
  have hfa : ∀ q, Foot K v0 v1 q → Apt Wb v vs (.slice a1 (ls.length + 1) c1) (ls ++ [.slice al n c]) q := fun q hq => by
    obtain ⟨_, ⟨p1, p2, p3, p4, p5⟩, p6, _⟩ := hfj q hq
    refine ⟨p1, p2, p3, fun e => ?_, fun l hl e => ?_⟩
    · rcases rvne q e with g | g
      · exact p4 g
      · have := (hd.foot_lt hq).2; omega
    · rcases List.mem_append.1 hl with g | g
      · exact p5 l g e
      · rw [List.mem_singleton] at g; subst g; exact p6 e
  have hlv : ∀ q, (Value.slice al n c).ownBlock = some q → ρ' q = 0 := fun q e => ro q (by have := (h.lr.lt e).2; omega) (h.z q (Or.inl e)).1 (fun j u hu e' => by
    obtain ⟨d, _, hr⟩ := h.ur.at_ hu
    exact row_ne hr h.lr q e' e)
  refine ⟨he, ρ', es2, .slice a1 (ls.length + 1) c1, ⟨⟨v0, v1, s, na, ns, nc, hd', hs, fun q hq => ⟨hft q hq, hfa q hq⟩⟩, h.i.bl.trans (oA.below h.i.bl.size (fun q p => ?_)), ⟨h.i.wl.1, Nat.lt_of_lt_of_le h.i.wl.2.1 oA.size, ro Wb (by have := h.i.wl.2.1; omega) h.i.wl.2.2 (fun j u hu e => (ua j u hu Wb e).1 rfl)⟩, fun j => (oA.cell (p := ⟨Wb, j, none⟩) h.i.wl.2.1 (np Wb h.i.wl.2.2 (fun e => (h.i.rvz Wb e).2 rfl))).trans (h.i.wc j), h.i.vr.off oA (fun q e => np q (h.i.vz q e) (rvv q e)), fun q e => ro q (by have := (h.i.vr.lt e).2; omega) (h.i.vz q e) (fun j u hu e' => (ua j u hu q e').2.1 e), h.i.rw.off oA (fun j u hj q e => np q (h.i.rz j u hj q e) (rvu j u hj q e)), fun j u hj q e => ro q (by have := (h.i.rw.lt hj e).2; omega) (h.i.rz j u hj q e) (fun j' u' hu e' => (ua j' u' hu q e').2.2.1 j u hj e), ht.bk, ?_, fun q h1 h2 => by rw [ht.ce q h1, ce1 q (by omega)]; exact h.i.ba q h1 h2, by rw [ht.ce 22 (by omega)]; exact k22, r1.off ht.of (fun q e => ?_), fun q e => ⟨?_, ?_⟩, fun l hl q e => ?_, fun l hl => ?_, h.i.gd, fun q hq => ?_⟩, ht.len⟩
  · rcases p with p | p
    · exact (h.i.rr.lt p).1
    · exact h.i.lo q (by omega)
  · intro i e he'
    rcases Nat.lt_or_ge i es.length with p | p
    · rw [List.getElem?_append_left p] at he'; exact h.i.en i e he'
    · rw [List.getElem?_append_right p] at he'
      obtain ⟨g1, g2, _⟩ := ht.ent _ e he'
      have := hdl _ _ g2
      exact ⟨g1, by omega⟩
  · rcases rvne q e with g | g
    · have := (h.i.rvz q g).1; omega
    · have := hb.new q g.1; omega
  · rcases rvne q e with g | g
    · exact ro q (r1.lt e).2 (h.i.rvz q g).1 (fun j u hu e' => (ua j u hu q e').2.2.2.1 g)
    · exact ro q g.2 (hb.new q g.1) (fun j u hu e' => by have := (h.ur.lt hu e').2; omega)
  · rcases rvne q e with g | g
    · exact (h.i.rvz q g).2
    · have := h.i.wl.2.1; omega
  · rcases List.mem_append.1 hl with g | g
    · obtain ⟨us', hus⟩ := h.i.lr l g
      exact ⟨ro q (by have := (hus.lt e).2; omega) (h.i.lz l g q e).1 (fun j u hu e' => (ua j u hu q e').2.2.2.2 l g e), (h.i.lz l g q e).2⟩
    · rw [List.mem_singleton] at g
      subst g
      exact ⟨hlv q e, (h.z q (Or.inl e)).2.1, (h.z q (Or.inl e)).2.2.1⟩
  · rcases List.mem_append.1 hl with g | g
    · obtain ⟨us', hus⟩ := h.i.lr l g
      exact ⟨us', hus.off oA (fun q e => np q (h.i.lz l g q e).1 (fun e' => lists_ne h.i.rr hus (by decide) q e' e))⟩
    · rw [List.mem_singleton] at g
      subst g
      exact ⟨us, h.lr.off oA (fun q e => np q (h.z q (Or.inl e)).1 (fun e' => lists_ne h.i.rr h.lr (by decide) q e' e))⟩
  · rcases Nat.lt_or_ge q W1.heap.size with p | p
    · by_cases hex : ∃ (j : Nat) (u : Value), us[j]? = some u ∧ u.ownBlock = some q
      · obtain ⟨j, u, hu, e⟩ := hex
        exact (h.ur.lt hu e).1
      · rw [ht.ro q p (fun j u _ hu e => hex ⟨j, u, hu, e⟩)] at hq
        exact h.i.lo q hq
    · have := h.i.bl.size; omega
end
end Go.Proofs.YthnpckmgnompiaaGreatDoor
