/-
  The strong pair: take of an entry.
-/
import Derived.Test.YtjbkfppibnlmoaaDoorSsList
import Derived.Deep.DeepCutAuto
namespace Go.Proofs.YtjbkfppibnlmoaaDoor
open Go.RowKit

/-- What is left of a taking, n and m more. -/
def SQ (W : World) (X K : Nat) (bv mk ke rm L : Value) (o : Option (Int × Int)) (A A' : List Ent) (τ : Nat → Nat) (n m : Nat) (w w' : World) (P : Nat → Prop) : Prop := ∃ τ', SS W X K bv mk ke rm L o A A' τ' n m w' ∧ TkQ τ τ' w w' P
section
variable {W w w' : World} {X K n m : Nat} {bv mk ke rm L : Value} {o : Option (Int × Int)} {A A' : List Ent} {τ τ' : Nat → Nat} {P : Nat → Prop}
theorem SQ.below {w'' : World} (h : SQ W X K bv mk ke rm L o A A' τ n m w w' P) (hb : Below w'.heap.size w' w'') : SQ W X K bv mk ke rm L o A A' τ n m w w'' P := by
  obtain ⟨τ', h1, h2⟩ := h
  exact ⟨τ', h1.below hb, h2.below hb⟩
theorem SQ.start (h : SS W X K bv mk ke rm L o A A' τ n m w) : SQ W X K bv mk ke rm L o A A' τ n m w w (fun _ => False) := ⟨τ, h, TkQ.refl _ _⟩
theorem SQ.cells (h : SQ W X K bv mk ke rm L o A A' τ n m w w' P) : w'.cell? ⟨X, 0, none⟩ = some bv ∧ w'.cell? ⟨X, 1, none⟩ = some mk ∧ w'.cell? ⟨X, 4, none⟩ = some L ∧ w'.cell? ⟨X, 5, none⟩ = some (.pointer (some ⟨K, 0, none⟩)) ∧ X < w'.heap.size := by
  obtain ⟨τ', h1, h2⟩ := h
  exact h1.cells
theorem SQ.row {α : Type} {B k : Nat} {e : TypeId} {enc : α → List Value} {v : Value} {xs : List α} (h : SQ W X K bv mk ke rm L o A A' τ n m w w' P) (hr : ERow w B e k enc v xs) (ht : ∀ q, v.ownBlock = some q → τ q = 0) : ERow w' B e k enc v xs := by
  obtain ⟨τ', h1, h2⟩ := h
  exact ERow.off hr h2.off fun q hq hp => by rw [ht q hq] at hp; omega
theorem SQ.own {B : Nat} {e : Ent} (h : SQ W X K bv mk ke rm L o A A' τ n m w w' P) (hr : Own w B e) (ht : ∀ q, Blk e q → τ q = 0) : Own w' B e := ⟨h.row hr.t fun q hq => ht q (Or.inl hq), h.row hr.c fun q hq => ht q (Or.inr (Or.inl hq)), h.row hr.a fun q hq => ht q (Or.inr (Or.inr hq))⟩
theorem SQ.then {n' m' : Nat} {w'' : World} {Q R : Nat → Prop} (h : SQ W X K bv mk ke rm L o A A' τ n m w w' P) (k : ∀ τ', SS W X K bv mk ke rm L o A A' τ' n m w' → TkQ τ τ' w w' P → SQ W X K bv mk ke rm L o A A' τ' n' m' w' w'' Q) (h1 : ∀ q, R q → P q ∨ Q q) (h2 : ∀ q, P q ∨ Q q → R q) : SQ W X K bv mk ke rm L o A A' τ n' m' w w'' R := by
  obtain ⟨τ', a1, a2⟩ := h
  obtain ⟨τ'', b1, b2⟩ := k τ' a1 a2
  exact ⟨τ'', b1, a2.trans b2 h1 h2⟩
/-- One more list of bytes. -/
theorem SQ.take (h : SQ W X K bv mk ke rm L o A A' τ n m w w' P) (hn : n + 1 ≤ 1000000) {a : Option Addr} {k c : Nat} {bs : List Int} (hr : BRow w W.heap.size (.slice a k c) bs) (hk : k ≤ 1000000) (hz : ∀ q, (Value.slice a k c).ownBlock = some q → τ q = 0 ∧ ¬ P q) :
    ∀ z, Below w'.heap.size w' z → Calls Tryd.prog 66 #[.pointer (some ⟨K, 0, none⟩), .slice a k c] z fun e w1 => e = .returned (.tuple #[]) ∧ Hid (SQ W X K bv mk ke rm L o A A' τ (n + 1) m w w1 (fun q => P q ∨ (Value.slice a k c).ownBlock = some q)) := fun z hz2 => by
  obtain ⟨τ', a1, a2⟩ := h.below hz2
  have hr2 : BRow z W.heap.size (.slice a k c) bs := ERow.off hr a2.off fun q hq hp => by rw [(hz q hq).1] at hp; omega
  refine (a1.take hn hr2 hk fun q hq => by rw [a2.keep q (ERow.lt hr hq).2 (hz q hq).2]; exact (hz q hq).1).mono ?_
  rintro e w1 ⟨e1, e2⟩
  obtain ⟨τ'', b1, b2⟩ := e2.out
  exact ⟨e1, τ'', b1, a2.trans b2 (fun q hq => hq) fun q hq => hq⟩
theorem SQ.texts (h : SQ W X K bv mk ke rm L o A A' τ n m w w' P) (hn : m + 1 ≤ 80) {a : Option Addr} {k c : Nat} {l : List ByteArray} (hr : TRow w W.heap.size (.slice a k c) l) (hk : k ≤ 1000) (hz : ∀ q, (Value.slice a k c).ownBlock = some q → τ q = 0 ∧ ¬ P q) :
    Calls Tryd.prog 40 #[.pointer (some ⟨K, 0, none⟩), .slice a k c] w' fun e w1 => e = .returned (.tuple #[]) ∧ Hid (SQ W X K bv mk ke rm L o A A' τ n (m + 1) w w1 (fun q => P q ∨ (Value.slice a k c).ownBlock = some q)) := by
  obtain ⟨τ', a1, a2⟩ := h
  have hr2 : TRow w' W.heap.size (.slice a k c) l := ERow.off hr a2.off fun q hq hp => by rw [(hz q hq).1] at hp; omega
  refine (a1.texts hn hr2 hk fun q hq => by rw [a2.keep q (ERow.lt hr hq).2 (hz q hq).2]; exact (hz q hq).1).mono ?_
  rintro e w1 ⟨e1, e2⟩
  obtain ⟨τ'', b1, b2⟩ := e2.out
  exact ⟨e1, τ'', b1, a2.trans b2 (fun q hq => hq) fun q hq => hq⟩
/-- An entry that may be taken. -/
structure TkE (w : World) (B : Nat) (τ : Nat → Nat) (e : Ent) : Prop where
  own : Own w B e
  sep : Sep e
  free : ∀ q, Blk e q → τ q = 0
  b1 : e.tn ≤ 8192
  b2 : e.cn ≤ 2048
  b3 : e.an ≤ 2048
theorem SQ.congr {Q : Nat → Prop} (h : SQ W X K bv mk ke rm L o A A' τ n m w w' P) (hq : ∀ q, P q ↔ Q q) : SQ W X K bv mk ke rm L o A A' τ n m w w' Q := by
  obtain ⟨τ', a1, a2⟩ := h
  exact ⟨τ', a1, a2.off, fun q hq' hp => a2.keep q hq' fun p => hp ((hq q).1 p), fun q hq' hp => a2.got q hq' ((hq q).2 hp)⟩
theorem SQ.blk {q : Nat} {x : Obj} (h : SQ W X K bv mk ke rm L o A A' τ n m w w' P) (hx : w.heap[q]? = some x) (ht : τ q = 0) : w'.heap[q]? = some x := by
  obtain ⟨τ', a1, a2⟩ := h
  exact (a2.off.block q (blk_lt hx) (by rw [ht]; decide)).trans hx
set_option maxRecDepth 100000 in
set_option maxHeartbeats 4000000 in
theorem tk_s0 (h : SS W X K bv mk ke rm L o A A' τ n m w) (hn : n + 3 ≤ 1000000) (e : Ent) (he : TkE w W.heap.size τ e) : Calls Tryd.prog 37 #[.pointer (some ⟨X, 0, none⟩), .agg #[.string e.ct, .slice e.tp e.tn e.tc, .int .i64 e.nu, .int .i64 e.tk, .slice e.cp e.cn e.cc, .string e.cd, .slice e.ap e.an e.ac]] w fun r w1 => r = .returned (.tuple #[]) ∧ Hid (SQ W X K bv mk ke rm L o A A' τ (n + 3) m w w1 (Blk e)) := by
  obtain ⟨V, hV⟩ : ∃ V, w.alloc (.cells #[.string e.ct, .slice e.tp e.tn e.tc, .int .i64 e.nu, .int .i64 e.tk, .slice e.cp e.cn e.cc, .string e.cd, .slice e.ap e.an e.ac] 30) = V := ⟨_, rfl⟩
  have hb : Below w.heap.size w V := by rw [← hV]; exact (Below.refl _ _).alloc (Nat.le_refl _) _
  have hy : V.heap[w.heap.size]? = some (.cells #[.string e.ct, .slice e.tp e.tn e.tc, .int .i64 e.nu, .int .i64 e.tk, .slice e.cp e.cn e.cc, .string e.cd, .slice e.ap e.an e.ac] 30 (0, 0)) := by rw [← hV]; exact heap_alloc_new _ _
  have hyt : τ w.heap.size = 0 := h.new _ (Nat.le_refl _)
  have hOwn := he.own.below hb
  have hlv : ∀ q, Blk e q → q < w.heap.size := fun q hq => (he.own.blk hq).2
  have S0 := SQ.start (h.below hb)
  have HY : Hid (∀ k P z, SQ W X K bv mk ke rm L o A A' τ k m V z P → z.cell? ⟨w.heap.size, 1, none⟩ = some (.slice e.tp e.tn e.tc) ∧ z.cell? ⟨w.heap.size, 4, none⟩ = some (.slice e.cp e.cn e.cc) ∧ z.cell? ⟨w.heap.size, 6, none⟩ = some (.slice e.ap e.an e.ac)) := fun k P z hz => by
    have := hz.blk hy hyt
    exact ⟨hcell this 1, hcell this 4, hcell this 6⟩
  have HT1 : Hid (∀ z, Below V.heap.size V z → Calls Tryd.prog 66 #[.pointer (some ⟨K, 0, none⟩), .slice e.tp e.tn e.tc] z fun r w1 => r = .returned (.tuple #[]) ∧ Hid (SQ W X K bv mk ke rm L o A A' τ (n + 1) m V w1 (fun q => False ∨ (Value.slice e.tp e.tn e.tc).ownBlock = some q))) := S0.take (by omega) hOwn.t (by have := he.b1; omega) fun q hq => ⟨he.free q (Or.inl hq), id⟩
  have HT2 : Hid (∀ v1, SQ W X K bv mk ke rm L o A A' τ (n + 1) m V v1 (fun q => False ∨ (Value.slice e.tp e.tn e.tc).ownBlock = some q) → ∀ z, Below v1.heap.size v1 z → Calls Tryd.prog 66 #[.pointer (some ⟨K, 0, none⟩), .slice e.cp e.cn e.cc] z fun r w1 => r = .returned (.tuple #[]) ∧ Hid (SQ W X K bv mk ke rm L o A A' τ (n + 2) m V w1 (fun q => (False ∨ (Value.slice e.tp e.tn e.tc).ownBlock = some q) ∨ (Value.slice e.cp e.cn e.cc).ownBlock = some q))) := fun v1 h1 => h1.take (by omega) hOwn.c (by have := he.b2; omega) fun q hq => ⟨he.free q (Or.inr (Or.inl hq)), fun p => p.elim id fun p => (he.sep.1 q p).1 hq⟩
  have HT3 : Hid (∀ v1, SQ W X K bv mk ke rm L o A A' τ (n + 2) m V v1 (fun q => (False ∨ (Value.slice e.tp e.tn e.tc).ownBlock = some q) ∨ (Value.slice e.cp e.cn e.cc).ownBlock = some q) → ∀ z, Below v1.heap.size v1 z → Calls Tryd.prog 66 #[.pointer (some ⟨K, 0, none⟩), .slice e.ap e.an e.ac] z fun r w1 => r = .returned (.tuple #[]) ∧ Hid (SQ W X K bv mk ke rm L o A A' τ (n + 3) m w w1 (Blk e))) := fun v1 h1 z hz => (h1.take (by omega) hOwn.a (by have := he.b3; omega) (fun q hq => ⟨he.free q (Or.inr (Or.inr hq)), fun p => p.elim (fun p => p.elim id fun p => (he.sep.1 q p).2 hq) fun p => he.sep.2 q p hq⟩) z hz).mono fun r w1 ⟨e1, e2⟩ => ⟨e1, by
      obtain ⟨τ', a1, a2⟩ := e2.out
      refine ⟨τ', a1, (Off.of_below hb).trans a2.off, fun q hq hp => a2.keep q (Nat.lt_of_lt_of_le hq hb.size) fun p => hp ?_, fun q hq hp => a2.got q (Nat.lt_of_lt_of_le hq hb.size) ?_⟩
      · rcases p with (p | p) | p
        · rcases p with p | p
          · exact p.elim
          · exact Or.inl p
        · exact Or.inr (Or.inl p)
        · exact Or.inr (Or.inr p)
      · rcases hp with p | p | p
        · exact Or.inl (Or.inl (Or.inr p))
        · exact Or.inl (Or.inr p)
        · exact Or.inr p⟩
  have HD : Hid (∀ k P z x, SQ W X K bv mk ke rm L o A A' τ k m V z P → SQ W X K bv mk ke rm L o A A' τ k m V (z.drewN x) P) := fun k P z x hq => hq.below (below_drewN (Below.refl _ _) x)
  have HD3 : Hid (∀ z x, SQ W X K bv mk ke rm L o A A' τ (n + 3) m w z (Blk e) → SQ W X K bv mk ke rm L o A A' τ (n + 3) m w (z.drewN x) (Blk e)) := fun z x hq => hq.below (below_drewN (Below.refl _ _) x)
  have hc0 := S0.cells
  have x5 := hc0.2.2.2.1
  have lx := hc0.2.2.2.2
  have y1 := (HY.out _ _ V S0).1
  have ly := cell_lt y1
  clear h hb hy hyt hc0 he hOwn hlv S0
  go_enter Tryd.func37, Tryd.ntmps37
  go_upto_region 1 with fail
  clear hV
  go_cut [] (fun wx => Hid (SQ W X K bv mk ke rm L o A A' τ (n + 1) m V wx (fun q => False ∨ (Value.slice e.tp e.tn e.tc).ownBlock = some q)))
  case first =>
    clear HY HT2 HT3 HD3
    go_region_law (go_simp; go_at_call 66; refine (HT1.out _ ?_).mono ?_; (first | exact Below.refl _ _ | exact Below.drew (Below.refl _ _)); rintro _ w1 ⟨rfl, H1⟩)
    all_goals
      go_wp2_with fail
      go_meet
      first | exact H1 | exact HD.out _ _ _ 1 H1.out
  case rest =>
    have H1 := hcut
    clear hcut x5 lx y1 ly HT1
    have hc1 := H1.out.cells
    have x5 := hc1.2.2.2.1
    have lx := hc1.2.2.2.2
    have y4 := (HY.out _ _ _ H1.out).2.1
    have ly := cell_lt y4
    clear hc1
    go_upto_region 2 with fail
    go_cut [] (fun wx => Hid (SQ W X K bv mk ke rm L o A A' τ (n + 2) m V wx (fun q => (False ∨ (Value.slice e.tp e.tn e.tc).ownBlock = some q) ∨ (Value.slice e.cp e.cn e.cc).ownBlock = some q)))
    case first =>
      clear HY HT3 HD3
      go_region_law (go_simp; go_at_call 66; refine (HT2.out _ H1.out _ ?_).mono ?_; (first | exact Below.refl _ _ | exact Below.drew (Below.refl _ _)); rintro _ w2 ⟨rfl, H2⟩)
      all_goals
        go_wp2_with fail
        go_meet
        first | exact H2 | exact HD.out _ _ _ 1 H2.out
    case rest =>
      have H2 := hcut
      clear hcut x5 lx y4 ly H1 HT2
      have hc2 := H2.out.cells
      have x5 := hc2.2.2.2.1
      have lx := hc2.2.2.2.2
      have y6 := (HY.out _ _ _ H2.out).2.2
      have ly := cell_lt y6
      clear hc2
      go_wp2_with fail
      go_region_law (go_simp; go_at_call 66; refine (HT3.out _ H2.out _ ?_).mono ?_; (first | exact Below.refl _ _ | exact Below.drew (Below.refl _ _)); rintro _ w3 ⟨rfl, H3⟩)
      all_goals
        have H9 : Hid (∀ k, SQ W X K bv mk ke rm L o A A' τ (n + 3) m w (w3.drewN k) (Blk e)) := fun k => HD3.out _ k H3.out
        go_wp2_with fail
        go_end0
        first | exact ⟨rfl, H3⟩ | exact ⟨rfl, H9.out 1⟩ | exact ⟨rfl, H9.out _⟩
theorem SQ.tk (h : SQ W X K bv mk ke rm L o A A' τ n m w w' P) (hn : n + 3 ≤ 1000000) (e : Ent) (he : TkE w W.heap.size τ e) (hP : ∀ q, Blk e q → ¬ P q) : Calls Tryd.prog 37 #[.pointer (some ⟨X, 0, none⟩), .agg #[.string e.ct, .slice e.tp e.tn e.tc, .int .i64 e.nu, .int .i64 e.tk, .slice e.cp e.cn e.cc, .string e.cd, .slice e.ap e.an e.ac]] w' fun r w1 => r = .returned (.tuple #[]) ∧ Hid (SQ W X K bv mk ke rm L o A A' τ (n + 3) m w w1 (fun q => P q ∨ Blk e q)) := by
  have ho := h.own he.own he.free
  obtain ⟨τ', a1, a2⟩ := h
  refine (tk_s0 a1 hn e ⟨ho, he.sep, fun q hq => by rw [a2.keep q (he.own.blk hq).2 (hP q hq)]; exact he.free q hq, he.b1, he.b2, he.b3⟩).mono ?_
  rintro r w1 ⟨e1, e2⟩
  obtain ⟨τ'', b1, b2⟩ := e2.out
  exact ⟨e1, τ'', b1, a2.trans b2 (fun q hq => hq) fun q hq => hq⟩
end
end Go.Proofs.YtjbkfppibnlmoaaDoor
