import Derived.Test.YtjbkfppibnlmoaaGreatDoorBookTake
import Derived.Test.YtjbkfppibnlmoaaGreatDoorBtTake
import Derived.Test.YtjbkfppibnlmoaaGreatDoorDkOff
/-
  couriermem.Book of lists of bytes and lists of texts.
-/
namespace Go.Proofs.YtjbkfppibnlmoaaGreatDoor.Bt
open Go.RowKit

theorem off_bt {P : Nat → Prop} {w w' : World} (o : Bo.Off P w w') : Off P w w' := ⟨o.os, o.tape, o.output, o.size, o.block⟩
theorem off_bo {P : Nat → Prop} {w w' : World} (o : Off P w w') : Bo.Off P w w' := ⟨o.os, o.tape, o.output, o.size, o.block⟩
section
variable {w w' : World} {B K : Nat} {ρ ρ' σ σ' : Nat → Nat} {vb vw vt vu vb' vw' vt' vu' : Value} {es es' : List Bo.Ent} {ts ts' : List Ent}
/-- Texts stay while bytes are taken. -/
theorem Bk.carry (h : Bk w B K σ vt vu vb vw ts) (hb : Bo.Bk w' B K ρ' vb' vw' vt vu es') (o : Bo.Off (fun k => ρ k = 1 ∨ ρ k = 2 ∨ ρ k = 3) w w') (ha : ∀ k, k ≠ K → ρ k = 0 ∨ σ k = 0) : Bk w' B K σ vt vu vb' vw' ts := by
  have o' := off_bt o
  have hn : ∀ {k r : Nat}, σ k = r → r ≠ 0 → r ≠ 1 → ¬ (ρ k = 1 ∨ ρ k = 2 ∨ ρ k = 3) := fun {k r} e h0 h1 p => by
    rcases ha k (fun e' => h1 (by rw [← e, e']; exact h.pK)) with q | q <;> omega
  exact ⟨hb.c0, hb.c1, hb.c2, hb.c3, hb.c4, hb.c5, hb.fz, Nat.le_trans h.hB o.size,
    h.rb.off o' (fun g e => hn (h.pb g e) (by decide) (by decide)), h.rws.off o' (fun g e => hn (h.pw g e) (by decide) (by decide)),
    fun i e he => (h.val i e he).off o' (fun g eg => hn (h.pval i e he g eg) (by omega) (by omega)), fun i e he => (h.was i e he).off o' (fun g eg => hn (h.pwas i e he g eg) (by decide) (by decide)),
    h.pK, h.pb, h.pw, h.pwas, h.pval, fun g hg => h.new g (Nat.le_trans o.size hg)⟩
/-- Bytes stay while texts are taken. -/
theorem Bk.carryB (h : Bo.Bk w B K ρ vb vw vt vu es) (hb : Bk w' B K σ' vt' vu' vb vw ts') (o : Off (fun k => σ k = 1 ∨ σ k = 2 ∨ σ k = 3) w w') (ha : ∀ k, k ≠ K → ρ k = 0 ∨ σ k = 0) : Bo.Bk w' B K ρ vb vw vt' vu' es := by
  have o' := off_bo o
  have hn : ∀ {k r : Nat}, ρ k = r → r ≠ 0 → r ≠ 1 → ¬ (σ k = 1 ∨ σ k = 2 ∨ σ k = 3) := fun {k r} e h0 h1 p => by
    rcases ha k (fun e' => h1 (by rw [← e, e']; exact h.pK)) with q | q <;> omega
  exact ⟨hb.c0, hb.c1, hb.c2, hb.c3, hb.c4, hb.c5, hb.fz, Nat.le_trans h.hB o.size,
    h.rb.off o' (fun g e => hn (h.pb g e) (by decide) (by decide)), h.rws.off o' (fun g e => hn (h.pw g e) (by decide) (by decide)),
    fun i e he => (h.val i e he).off o' (fun g eg => hn (h.pval i e he g eg) (by omega) (by omega)), fun i e he => (h.was i e he).off o' (fun g eg => hn (h.pwas i e he g eg) (by decide) (by decide)),
    h.pK, h.pb, h.pw, h.pwas, h.pval, fun g hg => h.new g (Nat.le_trans o.size hg)⟩
/-- The whole book: lists of bytes and lists of texts, each with the roles of its blocks. -/
structure Bks (w : World) (B K : Nat) (ρ σ : Nat → Nat) (es : List Bo.Ent) (ts : List Ent) : Prop where
  ex : ∃ vb vw vt vu, Bo.Bk w B K ρ vb vw vt vu es ∧ Bk w B K σ vt vu vb vw ts
  ap : ∀ k, k ≠ K → ρ k = 0 ∨ σ k = 0
theorem Bks.lt (h : Bks w B K ρ σ es ts) : K < w.heap.size := by
  obtain ⟨_, _, _, _, h1, _⟩ := h.ex
  exact h1.lt
theorem Bks.off {P : Nat → Prop} (h : Bks w B K ρ σ es ts) (o : Off P w w') (hP : ∀ k, P k → ρ k = 0 ∧ σ k = 0) : Bks w' B K ρ σ es ts := by
  obtain ⟨vb, vw, vt, vu, h1, h2⟩ := h.ex
  exact ⟨⟨vb, vw, vt, vu, h1.off (off_bo o) fun k p => (hP k p).1, h2.off o fun k p => (hP k p).2⟩, h.ap⟩
theorem Bks.below (h : Bks w B K ρ σ es ts) (hb : Below w.heap.size w w') : Bks w' B K ρ σ es ts := h.off (Off.of_below (P := fun _ => False) hb) fun _ p => p.elim
/-- A list of bytes is taken. -/
theorem Bks.take {a : Option Addr} {n c : Nat} {bs : List Int} (h : Bks w B K ρ σ es ts) (hl : Bo.Row w B (.slice a n c) bs) (hz : ∀ g, (Value.slice a n c).ownBlock = some g → ρ g = 0 ∧ σ g = 0) (hn : n ≤ 70368744177664) (hm : es.length + 1 ≤ 1099511627776) :
    Calls Tryz.prog 63 #[.pointer (some ⟨K, 0, none⟩), .slice a n c] w fun e w' => e = .returned (.tuple #[]) ∧ ∃ ρ' was, Bks w' B K ρ' σ (es ++ [⟨.slice a n c, was, bs, bs⟩]) ts ∧ Off (fun k => ρ k = 1 ∨ ρ k = 2 ∨ ρ k = 3) w w' ∧ (∀ k, k < w.heap.size → (Value.slice a n c).ownBlock ≠ some k → ρ' k = ρ k) := by
  obtain ⟨vb, vw, vt, vu, h1, h2⟩ := h.ex
  refine (Bo.Take_any h1 hl (fun g e => (hz g e).1) hn hm).mono ?_
  rintro e w' ⟨he, ρ', vb', vw', was, k1, k2, k3⟩
  refine ⟨he, ρ', was, ⟨⟨vb', vw', vt, vu, k1, h2.carry k1 k2 h.ap⟩, fun k hk => ?_⟩, off_bt k2, k3⟩
  rcases Nat.lt_or_ge k w.heap.size with q | q
  · rcases Classical.em ((Value.slice a n c).ownBlock = some k) with e' | e'
    · exact Or.inr (hz k e').2
    · rw [k3 k q e']; exact h.ap k hk
  · exact Or.inr (h2.new k q)
/-- A list of texts is taken. -/
theorem Bks.texts {a : Option Addr} {n c : Nat} {bs : List Value} (h : Bks w B K ρ σ es ts) (hl : TRow w B (.slice a n c) bs) (hz : ∀ g, (Value.slice a n c).ownBlock = some g → ρ g = 0 ∧ σ g = 0) (hn : n ≤ 1000) (hm : ts.length + 1 ≤ 1000) (hT : ∀ u ∈ bs, ∃ s, u = .string s) :
    Calls Tryz.prog 30 #[.pointer (some ⟨K, 0, none⟩), .slice a n c] w fun e w' => e = .returned (.tuple #[]) ∧ ∃ σ' was, Bks w' B K ρ σ' es (ts ++ [⟨.slice a n c, was, bs, bs⟩]) ∧ Off (fun k => σ k = 1 ∨ σ k = 2 ∨ σ k = 3) w w' ∧ (∀ k, k < w.heap.size → (Value.slice a n c).ownBlock ≠ some k → σ' k = σ k) := by
  obtain ⟨vb, vw, vt, vu, h1, h2⟩ := h.ex
  refine (Take_any h2 hl (fun g e => (hz g e).2) hn hm hT).mono ?_
  rintro e w' ⟨he, σ', vt', vu', was, k1, k2, k3⟩
  refine ⟨he, σ', was, ⟨⟨vb, vw, vt', vu', Bk.carryB h1 k1 k2 h.ap, k1⟩, fun k hk => ?_⟩, k2, k3⟩
  rcases Nat.lt_or_ge k w.heap.size with q | q
  · rcases Classical.em ((Value.slice a n c).ownBlock = some k) with e' | e'
    · exact Or.inl (hz k e').1
    · rw [k3 k q e']; exact h.ap k hk
  · exact Or.inl (h1.new k q)
end
end Go.Proofs.YtjbkfppibnlmoaaGreatDoor.Bt

/-
  Book.Still of lists of bytes and lists of texts.
-/
namespace Go.Proofs.YtjbkfppibnlmoaaGreatDoor.Bo
open Go.RowKit
theorem Row.isSlice {w : World} {B : Nat} {v : Value} {xs : List Int} (h : Row w B v xs) : ∃ a c, v = .slice a xs.length c ∧ (0 < xs.length → ∃ g, a = some ⟨g, 0, none⟩) := by
  rcases h.form with ⟨rfl, rfl⟩ | ⟨g, cap, rfl, _⟩
  · exact ⟨_, _, rfl, fun h => by simp at h⟩
  · exact ⟨_, _, rfl, fun _ => ⟨g, rfl⟩⟩
theorem VRow.isSlice {w : World} {B : Nat} {e : TypeId} {v : Value} {xs : List Value} (h : VRow w B e v xs) : ∃ a c, v = .slice a xs.length c ∧ (0 < xs.length → ∃ g, a = some ⟨g, 0, none⟩) := by
  rcases h.form with ⟨rfl, rfl⟩ | ⟨g, cap, rfl, _⟩
  · exact ⟨_, _, rfl, fun h => by simp at h⟩
  · exact ⟨_, _, rfl, fun _ => ⟨g, rfl⟩⟩
end Go.Proofs.YtjbkfppibnlmoaaGreatDoor.Bo
namespace Go.Proofs.YtjbkfppibnlmoaaGreatDoor.Bt
open Go.RowKit
set_option maxRecDepth 100000 in
set_option maxHeartbeats 4000000 in
theorem Bks.still {w : World} {B K : Nat} {ρ σ : Nat → Nat} {es : List Bo.Ent} {ts : List Ent} (h : Bks w B K ρ σ es ts) (hs : ∀ (i : Nat) (e : Bo.Ent), es[i]? = some e → e.old = e.bs ∧ e.bs.length ≤ 70368744177664) (hm : es.length ≤ 1099511627776) (ht : ∀ (i : Nat) (e : Ent), ts[i]? = some e → e.old = e.bs ∧ e.bs.length ≤ 1000 ∧ (∀ u ∈ e.bs, ∃ s, u = .string s)) (hm2 : ts.length ≤ 1000) :
    Calls Tryz.prog 66 #[.pointer (some ⟨K, 0, none⟩)] w fun e w' => e = .returned (.bool true) ∧ ∃ k, w' = w.drewN k := by
  obtain ⟨vb, vw, vt, vu, h1, h2⟩ := h.ex
  have HB : Hid (Bo.Bk w B K ρ vb vw vt vu es) := h1
  have HT : Hid (Bk w B K σ vt vu vb vw ts) := h2
  have HSB : Hid (∀ (i : Nat) (e : Bo.Ent), es[i]? = some e → e.old = e.bs ∧ e.bs.length ≤ 70368744177664) := hs
  have HST : Hid (∀ (i : Nat) (e : Ent), ts[i]? = some e → e.old = e.bs ∧ e.bs.length ≤ 1000 ∧ (∀ u ∈ e.bs, ∃ s, u = .string s)) := ht
  obtain ⟨ab, cb, rfl, hab⟩ := h1.rb.isSlice
  obtain ⟨aw, cw, rfl, haw⟩ := h1.rws.isSlice
  obtain ⟨at', ct', rfl, hat⟩ := VRow.isSlice h2.rb
  obtain ⟨au, cu, rfl, hau⟩ := h2.rws.isSlice
  have HAB : Hid ((0 < es.length → ∃ g, ab = some ⟨g, 0, none⟩) ∧ (0 < es.length → ∃ g, aw = some ⟨g, 0, none⟩)) := by simp only [List.length_map] at hab haw; exact ⟨hab, haw⟩
  have HAT : Hid ((0 < ts.length → ∃ g, at' = some ⟨g, 0, none⟩) ∧ (0 < ts.length → ∃ g, au = some ⟨g, 0, none⟩)) := by simp only [List.length_map] at hat hau; exact ⟨hat, hau⟩
  obtain ⟨n, hn⟩ : ∃ n, es.length = n := ⟨_, rfl⟩
  obtain ⟨n2, hn2⟩ : ∃ n, ts.length = n := ⟨_, rfl⟩
  have HNB : Hid (es.length = n) := hn
  have HNT : Hid (ts.length = n2) := hn2
  have q0 := h1.c0
  have q1 := h1.c1
  have q2 := h1.c2
  have q4 := h1.c4
  have q5 := h1.c5
  rw [List.length_map, hn] at q0 q1
  rw [List.length_map, hn2] at q4 q5
  rw [hn] at hm
  rw [hn2] at hm2
  clear h h1 h2 hs ht hab haw hat hau hn hn2
  go_enter Tryz.func66, Tryz.ntmps66
  go_wp2_with fail
  go_loopw [3, 4] (fun t3 t4 wx => t3 = .bool true ∧ ∃ i k : Nat, i ≤ n ∧ t4 = .int .i64 i ∧ wx = w.drewN k) (fun _ t4 _ => n - (intOf t4).toNat)
  case atStart => exact ⟨rfl, 0, 0, Nat.zero_le _, rfl, rfl⟩
  case round =>
    obtain ⟨rfl, i, k, hi, rfl, rfl⟩ := hrel
    by_cases hlt : i < n
    · have hlt1 : (i : Int) < n := by omega
      obtain ⟨g, rfl⟩ := HAB.out.1 (by have := HNB.out; omega)
      obtain ⟨g2, rfl⟩ := HAB.out.2 (by have := HNB.out; omega)
      have hie : i < es.length := by have := HNB.out; omega
      obtain ⟨e, he⟩ : ∃ e, es[i]? = some e := ⟨_, List.getElem?_eq_getElem hie⟩
      have c1 : w.cell? ⟨g, i, none⟩ = some e.val := HB.out.rb.slot (by rw [List.getElem?_map, he]; rfl)
      have c2 : w.cell? ⟨g2, i, none⟩ = some e.was := HB.out.rws.slot (by rw [List.getElem?_map, he]; rfl)
      have r1 := HB.out.val i e he
      have r2 := HB.out.was i e he
      obtain ⟨hold, hlen⟩ := HSB.out i e he
      rw [hold] at r2
      obtain ⟨a1, d1, e1, _⟩ := Bo.Row.isSlice r1
      obtain ⟨a2, d2, e2, _⟩ := Bo.Row.isSlice r2
      rw [e1] at c1 r1
      rw [e2] at c2 r2
      have HC : Hid (∀ x, Calls Tryz.prog 64 #[.slice a1 e.bs.length d1, .slice a2 e.bs.length d2] (w.drewN (k + x)) fun ev w' => ev = .returned (.bool true) ∧ ∃ m, w' = w.drewN (k + m)) := fun x => (Bo.same_true ((Bo.Row.asByts r1).drew (k + x)) ((Bo.Row.asByts r2).drew (k + x)) (by omega)).mono (fun ev w' ⟨he, m, hm⟩ => ⟨he, x + m, by rw [hm]; simp [Nat.add_assoc]⟩)
      obtain ⟨lb, hlb⟩ : ∃ l, e.bs.length = l := ⟨_, rfl⟩
      rw [hlb] at c1 c2 HC
      clear r1 r2 e1 e2 hold hlen hlb he hie
      go_wp2_with fail
      go_quiet ((go_at_call 64; first | exact HC.out _ | (simp only [World.drewN_drewN]; exact HC.out _)))
      go_wp2_with fail
      go_roundw
      case rel => exact ⟨rfl, i + 1, _, hlt, by go_num, rfl⟩
      case measure => simp [intOf]; omega
    · have hlt1 : ¬ (i : Int) < n := by omega
      go_wp2_with fail
      refine wp_loop_rounds 1 ?_
      rw [rounds_succ]
      go_wp2_with fail
      go_loopw [3, 6] (fun t3 t4 wx => t3 = .bool true ∧ ∃ i k : Nat, i ≤ n2 ∧ t4 = .int .i64 i ∧ wx = w.drewN k) (fun _ t4 _ => n2 - (intOf t4).toNat)
      case atStart => exact ⟨rfl, 0, k, Nat.zero_le _, rfl, rfl⟩
      case round =>
        obtain ⟨rfl, i, k, hi, rfl, rfl⟩ := hrel
        by_cases hlt : i < n2
        · have hlt1 : (i : Int) < n2 := by omega
          obtain ⟨g, rfl⟩ := HAT.out.1 (by have := HNT.out; omega)
          obtain ⟨g2, rfl⟩ := HAT.out.2 (by have := HNT.out; omega)
          have hie : i < ts.length := by have := HNT.out; omega
          obtain ⟨e, he⟩ : ∃ e, ts[i]? = some e := ⟨_, List.getElem?_eq_getElem hie⟩
          have c1 : w.cell? ⟨g, i, none⟩ = some e.val := HT.out.rb.slot (by rw [List.getElem?_map, he]; rfl)
          have c2 : w.cell? ⟨g2, i, none⟩ = some e.was := HT.out.rws.slot (by rw [List.getElem?_map, he]; rfl)
          have r1 := HT.out.val i e he
          have r2 := HT.out.was i e he
          obtain ⟨hold, hlen, hstr⟩ := HST.out i e he
          rw [hold] at r2
          obtain ⟨a1, d1, e1, _⟩ := VRow.isSlice r1
          obtain ⟨a2, d2, e2, _⟩ := VRow.isSlice r2
          rw [e1] at c1 r1
          rw [e2] at c2 r2
          have HC : Hid (∀ x, Calls Tryz.prog 31 #[.slice a1 e.bs.length d1, .slice a2 e.bs.length d2] (w.drewN (k + x)) fun ev w' => ev = .returned (.bool true) ∧ ∃ m, w' = w.drewN (k + m)) := fun x => (sameT_true (VRow.below r1 (below_drewN (Below.refl _ _) (k + x))) (VRow.below r2 (below_drewN (Below.refl _ _) (k + x))) hstr (by omega)).mono (fun ev w' ⟨he, m, hm⟩ => ⟨he, x + m, by rw [hm]; simp [Nat.add_assoc]⟩)
          obtain ⟨lb, hlb⟩ : ∃ l, e.bs.length = l := ⟨_, rfl⟩
          rw [hlb] at c1 c2 HC
          clear r1 r2 e1 e2 hold hlen hlb he hie hstr
          go_wp2_with fail
          go_quiet ((go_at_call 31; first | exact HC.out _ | (simp only [World.drewN_drewN]; exact HC.out _)))
          go_wp2_with fail
          go_roundw
          case rel => exact ⟨rfl, i + 1, _, hlt, by go_num, rfl⟩
          case measure => simp [intOf]; omega
        · have hlt1 : ¬ (i : Int) < n2 := by omega
          go_wp2_with fail
          go_ret
          exact ⟨rfl, k, rfl⟩
end Go.Proofs.YtjbkfppibnlmoaaGreatDoor.Bt
