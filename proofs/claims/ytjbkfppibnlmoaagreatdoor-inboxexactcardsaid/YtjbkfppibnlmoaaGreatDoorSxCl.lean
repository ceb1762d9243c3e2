import Derived.Test.YtjbkfppibnlmoaaGreatDoorSsList
import Derived.Deep.DeepCutAuto
/-
  The strong pair: take of an entry.
-/
namespace Go.Proofs.YtjbkfppibnlmoaaGreatDoor
open Go.RowKit

/-- What is left of a taking, n and m more. -/
def SQ (W : World) (X K : Nat) (bv mk ke rm L : Value) (o : Option (Int × Int)) (A A' : List Ent) (τ : Nat → Nat) (n m : Nat) (w w' : World) (P : Nat → Prop) : Prop := ∃ τ', SS W X K bv mk ke rm L o A A' τ' n m w' ∧ TkQ τ τ' w w' P
section
variable {W w w' : World} {X K n m : Nat} {bv mk ke rm L : Value} {o : Option (Int × Int)} {A A' : List Ent} {τ τ' : Nat → Nat} {P : Nat → Prop}
theorem SQ.below {w'' : World} (h : SQ W X K bv mk ke rm L o A A' τ n m w w' P) (hb : Below w'.heap.size w' w'') : SQ W X K bv mk ke rm L o A A' τ n m w w'' P := by
  obtain ⟨τ', h1, h2⟩ := h
  exact ⟨τ', h1.below hb, h2.below hb⟩
theorem SQ.start (h : SS W X K bv mk ke rm L o A A' τ n m w) : SQ W X K bv mk ke rm L o A A' τ n m w w (fun _ => False) := ⟨τ, h, TkQ.refl _ _⟩
theorem SQ.cells (h : SQ W X K bv mk ke rm L o A A' τ n m w w' P) : w'.cell? ⟨X, 0, none⟩ = some bv ∧ w'.cell? ⟨X, 1, none⟩ = some mk ∧ w'.cell? ⟨X, 4, none⟩ = some L ∧ w'.cell? ⟨X, 5, none⟩ = some (.pointer (some ⟨K, 0, none⟩)) ∧ X < w'.heap.size := by
  obtain ⟨τ', h1, h2⟩ := h
  exact h1.cells
theorem SQ.row {α : Type} {B k : Nat} {e : TypeId} {enc : α → List Value} {v : Value} {xs : List α} (h : SQ W X K bv mk ke rm L o A A' τ n m w w' P) (hr : ERow w B e k enc v xs) (ht : ∀ q, v.ownBlock = some q → τ q = 0) : ERow w' B e k enc v xs := by
  obtain ⟨τ', h1, h2⟩ := h
  exact ERow.off hr h2.off fun q hq hp => by rw [ht q hq] at hp; omega
theorem SQ.own {B : Nat} {e : Ent} (h : SQ W X K bv mk ke rm L o A A' τ n m w w' P) (hr : Own w B e) (ht : ∀ q, Blk e q → τ q = 0) : Own w' B e := ⟨h.row hr.t fun q hq => ht q (Or.inl hq), h.row hr.c fun q hq => ht q (Or.inr (Or.inl hq)), h.row hr.a fun q hq => ht q (Or.inr (Or.inr hq))⟩
theorem SQ.then {n' m' : Nat} {w'' : World} {Q R : Nat → Prop} (h : SQ W X K bv mk ke rm L o A A' τ n m w w' P) (k : ∀ τ', SS W X K bv mk ke rm L o A A' τ' n m w' → TkQ τ τ' w w' P → SQ W X K bv mk ke rm L o A A' τ' n' m' w' w'' Q) (h1 : ∀ q, R q → P q ∨ Q q) (h2 : ∀ q, P q ∨ Q q → R q) : SQ W X K bv mk ke rm L o A A' τ n' m' w w'' R := by
  obtain ⟨τ', a1, a2⟩ := h
  obtain ⟨τ'', b1, b2⟩ := k τ' a1 a2
  exact ⟨τ'', b1, a2.trans b2 h1 h2⟩
/-- One more list of bytes. -/
theorem SQ.take (h : SQ W X K bv mk ke rm L o A A' τ n m w w' P) (hn : n + 1 ≤ 1000000) {a : Option Addr} {k c : Nat} {bs : List Int} (hr : BRow w W.heap.size (.slice a k c) bs) (hk : k ≤ 1000000) (hz : ∀ q, (Value.slice a k c).ownBlock = some q → τ q = 0 ∧ ¬ P q) :
    ∀ z, Below w'.heap.size w' z → Calls Tryz.prog 63 #[.pointer (some ⟨K, 0, none⟩), .slice a k c] z fun e w1 => e = .returned (.tuple #[]) ∧ Hid (SQ W X K bv mk ke rm L o A A' τ (n + 1) m w w1 (fun q => P q ∨ (Value.slice a k c).ownBlock = some q)) := fun z hz2 => by
  obtain ⟨τ', a1, a2⟩ := h.below hz2
  have hr2 : BRow z W.heap.size (.slice a k c) bs := ERow.off hr a2.off fun q hq hp => by rw [(hz q hq).1] at hp; omega
  refine (a1.take hn hr2 hk fun q hq => by rw [a2.keep q (ERow.lt hr hq).2 (hz q hq).2]; exact (hz q hq).1).mono ?_
  rintro e w1 ⟨e1, e2⟩
  obtain ⟨τ'', b1, b2⟩ := e2.out
  exact ⟨e1, τ'', b1, a2.trans b2 (fun q hq => hq) fun q hq => hq⟩
theorem SQ.texts (h : SQ W X K bv mk ke rm L o A A' τ n m w w' P) (hn : m + 1 ≤ 80) {a : Option Addr} {k c : Nat} {l : List ByteArray} (hr : TRow w W.heap.size (.slice a k c) l) (hk : k ≤ 1000) (hz : ∀ q, (Value.slice a k c).ownBlock = some q → τ q = 0 ∧ ¬ P q) :
    Calls Tryz.prog 30 #[.pointer (some ⟨K, 0, none⟩), .slice a k c] w' fun e w1 => e = .returned (.tuple #[]) ∧ Hid (SQ W X K bv mk ke rm L o A A' τ n (m + 1) w w1 (fun q => P q ∨ (Value.slice a k c).ownBlock = some q)) := by
  obtain ⟨τ', a1, a2⟩ := h
  have hr2 : TRow w' W.heap.size (.slice a k c) l := ERow.off hr a2.off fun q hq hp => by rw [(hz q hq).1] at hp; omega
  refine (a1.texts hn hr2 hk fun q hq => by rw [a2.keep q (ERow.lt hr hq).2 (hz q hq).2]; exact (hz q hq).1).mono ?_
  rintro e w1 ⟨e1, e2⟩
  obtain ⟨τ'', b1, b2⟩ := e2.out
  exact ⟨e1, τ'', b1, a2.trans b2 (fun q hq => hq) fun q hq => hq⟩
/-- An entry that may be taken. -/
structure TkE (w : World) (B : Nat) (τ : Nat → Nat) (e : Ent) : Prop where
  own : Own w B e
  sep : Sep e
  free : ∀ q, Blk e q → τ q = 0
  b1 : e.tn ≤ 8192
  b2 : e.cn ≤ 2048
  b3 : e.an ≤ 2048
theorem SQ.congr {Q : Nat → Prop} (h : SQ W X K bv mk ke rm L o A A' τ n m w w' P) (hq : ∀ q, P q ↔ Q q) : SQ W X K bv mk ke rm L o A A' τ n m w w' Q := by
  obtain ⟨τ', a1, a2⟩ := h
  exact ⟨τ', a1, a2.off, fun q hq' hp => a2.keep q hq' fun p => hp ((hq q).1 p), fun q hq' hp => a2.got q hq' ((hq q).2 hp)⟩
theorem SQ.blk {q : Nat} {x : Obj} (h : SQ W X K bv mk ke rm L o A A' τ n m w w' P) (hx : w.heap[q]? = some x) (ht : τ q = 0) : w'.heap[q]? = some x := by
  obtain ⟨τ', a1, a2⟩ := h
  exact (a2.off.block q (blk_lt hx) (by rw [ht]; decide)).trans hx
set_option maxRecDepth 100000 in
set_option maxHeartbeats 4000000 in
theorem tk_s0 (h : SS W X K bv mk ke rm L o A A' τ n m w) (hn : n + 3 ≤ 1000000) (e : Ent) (he : TkE w W.heap.size τ e) : Calls Tryz.prog 27 #[.pointer (some ⟨X, 0, none⟩), .agg #[.string e.ct, .slice e.tp e.tn e.tc, .int .i64 e.nu, .int .i64 e.tk, .slice e.cp e.cn e.cc, .string e.cd, .slice e.ap e.an e.ac]] w fun r w1 => r = .returned (.tuple #[]) ∧ Hid (SQ W X K bv mk ke rm L o A A' τ (n + 3) m w w1 (Blk e)) := by
  obtain ⟨V, hV⟩ : ∃ V, w.alloc (.cells #[.string e.ct, .slice e.tp e.tn e.tc, .int .i64 e.nu, .int .i64 e.tk, .slice e.cp e.cn e.cc, .string e.cd, .slice e.ap e.an e.ac] 30) = V := ⟨_, rfl⟩
  have hb : Below w.heap.size w V := by rw [← hV]; exact (Below.refl _ _).alloc (Nat.le_refl _) _
  have hy : V.heap[w.heap.size]? = some (.cells #[.string e.ct, .slice e.tp e.tn e.tc, .int .i64 e.nu, .int .i64 e.tk, .slice e.cp e.cn e.cc, .string e.cd, .slice e.ap e.an e.ac] 30 (0, 0)) := by rw [← hV]; exact heap_alloc_new _ _
  have hyt : τ w.heap.size = 0 := h.new _ (Nat.le_refl _)
  have hOwn := he.own.below hb
  have hlv : ∀ q, Blk e q → q < w.heap.size := fun q hq => (he.own.blk hq).2
  have S0 := SQ.start (h.below hb)
  have HY : Hid (∀ k P z, SQ W X K bv mk ke rm L o A A' τ k m V z P → z.cell? ⟨w.heap.size, 1, none⟩ = some (.slice e.tp e.tn e.tc) ∧ z.cell? ⟨w.heap.size, 4, none⟩ = some (.slice e.cp e.cn e.cc) ∧ z.cell? ⟨w.heap.size, 6, none⟩ = some (.slice e.ap e.an e.ac)) := fun k P z hz => by
    have := hz.blk hy hyt
    exact ⟨hcell this 1, hcell this 4, hcell this 6⟩
  have HT1 : Hid (∀ z, Below V.heap.size V z → Calls Tryz.prog 63 #[.pointer (some ⟨K, 0, none⟩), .slice e.tp e.tn e.tc] z fun r w1 => r = .returned (.tuple #[]) ∧ Hid (SQ W X K bv mk ke rm L o A A' τ (n + 1) m V w1 (fun q => False ∨ (Value.slice e.tp e.tn e.tc).ownBlock = some q))) := S0.take (by omega) hOwn.t (by have := he.b1; omega) fun q hq => ⟨he.free q (Or.inl hq), id⟩
  have HT2 : Hid (∀ v1, SQ W X K bv mk ke rm L o A A' τ (n + 1) m V v1 (fun q => False ∨ (Value.slice e.tp e.tn e.tc).ownBlock = some q) → ∀ z, Below v1.heap.size v1 z → Calls Tryz.prog 63 #[.pointer (some ⟨K, 0, none⟩), .slice e.cp e.cn e.cc] z fun r w1 => r = .returned (.tuple #[]) ∧ Hid (SQ W X K bv mk ke rm L o A A' τ (n + 2) m V w1 (fun q => (False ∨ (Value.slice e.tp e.tn e.tc).ownBlock = some q) ∨ (Value.slice e.cp e.cn e.cc).ownBlock = some q))) := fun v1 h1 => h1.take (by omega) hOwn.c (by have := he.b2; omega) fun q hq => ⟨he.free q (Or.inr (Or.inl hq)), fun p => p.elim id fun p => (he.sep.1 q p).1 hq⟩
  have HT3 : Hid (∀ v1, SQ W X K bv mk ke rm L o A A' τ (n + 2) m V v1 (fun q => (False ∨ (Value.slice e.tp e.tn e.tc).ownBlock = some q) ∨ (Value.slice e.cp e.cn e.cc).ownBlock = some q) → ∀ z, Below v1.heap.size v1 z → Calls Tryz.prog 63 #[.pointer (some ⟨K, 0, none⟩), .slice e.ap e.an e.ac] z fun r w1 => r = .returned (.tuple #[]) ∧ Hid (SQ W X K bv mk ke rm L o A A' τ (n + 3) m w w1 (Blk e))) := fun v1 h1 z hz => (h1.take (by omega) hOwn.a (by have := he.b3; omega) (fun q hq => ⟨he.free q (Or.inr (Or.inr hq)), fun p => p.elim (fun p => p.elim id fun p => (he.sep.1 q p).2 hq) fun p => he.sep.2 q p hq⟩) z hz).mono fun r w1 ⟨e1, e2⟩ => ⟨e1, by
      obtain ⟨τ', a1, a2⟩ := e2.out
      refine ⟨τ', a1, (Off.of_below hb).trans a2.off, fun q hq hp => a2.keep q (Nat.lt_of_lt_of_le hq hb.size) fun p => hp ?_, fun q hq hp => a2.got q (Nat.lt_of_lt_of_le hq hb.size) ?_⟩
      · rcases p with (p | p) | p
        · rcases p with p | p
          · exact p.elim
          · exact Or.inl p
        · exact Or.inr (Or.inl p)
        · exact Or.inr (Or.inr p)
      · rcases hp with p | p | p
        · exact Or.inl (Or.inl (Or.inr p))
        · exact Or.inl (Or.inr p)
        · exact Or.inr p⟩
  have HD : Hid (∀ k P z x, SQ W X K bv mk ke rm L o A A' τ k m V z P → SQ W X K bv mk ke rm L o A A' τ k m V (z.drewN x) P) := fun k P z x hq => hq.below (below_drewN (Below.refl _ _) x)
  have HD3 : Hid (∀ z x, SQ W X K bv mk ke rm L o A A' τ (n + 3) m w z (Blk e) → SQ W X K bv mk ke rm L o A A' τ (n + 3) m w (z.drewN x) (Blk e)) := fun z x hq => hq.below (below_drewN (Below.refl _ _) x)
  have hc0 := S0.cells
  have x5 := hc0.2.2.2.1
  have lx := hc0.2.2.2.2
  have y1 := (HY.out _ _ V S0).1
  have ly := cell_lt y1
  clear h hb hy hyt hc0 he hOwn hlv S0
  go_enter Tryz.func27, Tryz.ntmps27
  go_upto_region 1 with fail
  clear hV
  go_cut [] (fun wx => Hid (SQ W X K bv mk ke rm L o A A' τ (n + 1) m V wx (fun q => False ∨ (Value.slice e.tp e.tn e.tc).ownBlock = some q)))
  case first =>
    clear HY HT2 HT3 HD3
    go_region_law (go_simp; go_at_call 63; refine (HT1.out _ ?_).mono ?_; (first | exact Below.refl _ _ | exact Below.drew (Below.refl _ _)); rintro _ w1 ⟨rfl, H1⟩)
    all_goals
      go_wp2_with fail
      go_meet
      first | exact H1 | exact HD.out _ _ _ 1 H1.out
  case rest =>
    have H1 := hcut
    clear hcut x5 lx y1 ly HT1
    have hc1 := H1.out.cells
    have x5 := hc1.2.2.2.1
    have lx := hc1.2.2.2.2
    have y4 := (HY.out _ _ _ H1.out).2.1
    have ly := cell_lt y4
    clear hc1
    go_upto_region 2 with fail
    go_cut [] (fun wx => Hid (SQ W X K bv mk ke rm L o A A' τ (n + 2) m V wx (fun q => (False ∨ (Value.slice e.tp e.tn e.tc).ownBlock = some q) ∨ (Value.slice e.cp e.cn e.cc).ownBlock = some q)))
    case first =>
      clear HY HT3 HD3
      go_region_law (go_simp; go_at_call 63; refine (HT2.out _ H1.out _ ?_).mono ?_; (first | exact Below.refl _ _ | exact Below.drew (Below.refl _ _)); rintro _ w2 ⟨rfl, H2⟩)
      all_goals
        go_wp2_with fail
        go_meet
        first | exact H2 | exact HD.out _ _ _ 1 H2.out
    case rest =>
      have H2 := hcut
      clear hcut x5 lx y4 ly H1 HT2
      have hc2 := H2.out.cells
      have x5 := hc2.2.2.2.1
      have lx := hc2.2.2.2.2
      have y6 := (HY.out _ _ _ H2.out).2.2
      have ly := cell_lt y6
      clear hc2
      go_wp2_with fail
      go_region_law (go_simp; go_at_call 63; refine (HT3.out _ H2.out _ ?_).mono ?_; (first | exact Below.refl _ _ | exact Below.drew (Below.refl _ _)); rintro _ w3 ⟨rfl, H3⟩)
      all_goals
        have H9 : Hid (∀ k, SQ W X K bv mk ke rm L o A A' τ (n + 3) m w (w3.drewN k) (Blk e)) := fun k => HD3.out _ k H3.out
        go_wp2_with fail
        go_end0
        first | exact ⟨rfl, H3⟩ | exact ⟨rfl, H9.out 1⟩ | exact ⟨rfl, H9.out _⟩
theorem SQ.tk (h : SQ W X K bv mk ke rm L o A A' τ n m w w' P) (hn : n + 3 ≤ 1000000) (e : Ent) (he : TkE w W.heap.size τ e) (hP : ∀ q, Blk e q → ¬ P q) : Calls Tryz.prog 27 #[.pointer (some ⟨X, 0, none⟩), .agg #[.string e.ct, .slice e.tp e.tn e.tc, .int .i64 e.nu, .int .i64 e.tk, .slice e.cp e.cn e.cc, .string e.cd, .slice e.ap e.an e.ac]] w' fun r w1 => r = .returned (.tuple #[]) ∧ Hid (SQ W X K bv mk ke rm L o A A' τ (n + 3) m w w1 (fun q => P q ∨ Blk e q)) := by
  have ho := h.own he.own he.free
  obtain ⟨τ', a1, a2⟩ := h
  refine (tk_s0 a1 hn e ⟨ho, he.sep, fun q hq => by rw [a2.keep q (he.own.blk hq).2 (hP q hq)]; exact he.free q hq, he.b1, he.b2, he.b3⟩).mono ?_
  rintro r w1 ⟨e1, e2⟩
  obtain ⟨τ'', b1, b2⟩ := e2.out
  exact ⟨e1, τ'', b1, a2.trans b2 (fun q hq => hq) fun q hq => hq⟩
end
end Go.Proofs.YtjbkfppibnlmoaaGreatDoor

/-
  The strong pair: takeList of a list of entries.
-/
namespace Go.Proofs.YtjbkfppibnlmoaaGreatDoor
open Go.RowKit

section
variable {W w w' : World} {X K n m : Nat} {bv mk ke rm L : Value} {o : Option (Int × Int)} {A A' : List Ent} {τ τ' : Nat → Nat} {P : Nat → Prop}
set_option maxRecDepth 100000 in
set_option maxHeartbeats 4000000 in
theorem takeList_s (h : SS W X K bv mk ke rm L o A A' τ n m w) {a : Option Addr} {k : Nat} {ls : List Ent} (hr : NRow w W.heap.size (.slice a k k) ls) (hrz : ∀ q, (Value.slice a k k).ownBlock = some q → τ q = 0) (hl : ∀ l ∈ ls, TkE w W.heap.size τ l) (hs : SepL ls) (hk : k ≤ 1000) (hn : n ≤ 900000) (hm : m + 1 ≤ 80) : Calls Tryz.prog 33 #[.pointer (some ⟨X, 0, none⟩), .slice a k k] w fun e w1 => e = .returned (.tuple #[]) ∧ Hid (SQ W X K bv mk ke rm L o A A' τ (n + 3 * k) (m + 1) w w1 (fun q => (Value.slice a k k).ownBlock = some q ∨ ∃ l ∈ ls, Blk l q)) := by
  have HH : Hid (NRow w W.heap.size (.slice a k k) ls ∧ (∀ q, (Value.slice a k k).ownBlock = some q → τ q = 0) ∧ (∀ l ∈ ls, TkE w W.heap.size τ l) ∧ SepL ls ∧ ls.length = k) := ⟨hr, hrz, hl, hs, (ERow.len hr).symm⟩
  have HI0 : Hid (SQ W X K bv mk ke rm L o A A' τ (n + 3 * 0) m w w (fun q => ∃ l ∈ ls.take 0, Blk l q)) := (SQ.start h).congr fun q => ⟨fun p => p.elim, fun ⟨l, hl, _⟩ => by simp at hl⟩
  clear h hr hrz hl hs
  go_enter Tryz.func33, Tryz.ntmps33
  go_wp2_with fail
  go_loopw [4] (fun ti wx => ∃ i : Nat, i ≤ k ∧ ti = .int .i64 i ∧ Hid (SQ W X K bv mk ke rm L o A A' τ (n + 3 * i) m w wx (fun q => ∃ l ∈ ls.take i, Blk l q))) (fun ti _ => k - (intOf ti).toNat)
  case atStart => exact ⟨0, Nat.zero_le _, rfl, HI0⟩
  case round =>
    obtain ⟨i, hi, rfl, HI⟩ := hrel
    by_cases hlt : i < k
    · have hlt1 : (i : Int) < k := by omega
      obtain ⟨l, hl⟩ : ∃ l, ls[i]? = some l := ⟨_, List.getElem?_eq_getElem (by rw [HH.out.2.2.2.2]; exact hlt)⟩
      obtain ⟨g, rfl, hg, d0, d1, d2, d3, d4, d5, d6⟩ := nrow_cells (HI.out.row HH.out.1 HH.out.2.1) hl
      have htk := HI.out.tk (by omega) l (HH.out.2.2.1 l (List.mem_of_getElem? hl)) (fun q hq ⟨l', hl', hq'⟩ => by
        obtain ⟨j, hj, e⟩ := List.getElem_of_mem hl'
        rw [List.length_take] at hj
        rw [List.getElem_take] at e
        exact (HH.out.2.2.2.1 i l hl).2 j l' (by omega) (by rw [List.getElem?_eq_getElem (by omega), e]) q hq' hq)
      have HL : Hid (ls[i]? = some l) := hl
      clear hl hg
      go_wp2_with fail
      refine htk.mono ?_
      rintro _ w1 ⟨rfl, H1⟩
      have HJ : Hid (SQ W X K bv mk ke rm L o A A' τ (n + 3 * (i + 1)) m w w1 (fun q => ∃ l ∈ ls.take (i + 1), Blk l q)) := H1.out.congr fun q => by
        rw [take_one HL.out]
        constructor
        · rintro (⟨l', h1, h2⟩ | h1)
          · exact ⟨l', List.mem_append_left _ h1, h2⟩
          · exact ⟨l, List.mem_append_right _ List.mem_cons_self, h1⟩
        · rintro ⟨l', h1, h2⟩
          rcases List.mem_append.1 h1 with h1 | h1
          · exact Or.inl ⟨l', h1, h2⟩
          · simp only [List.mem_singleton] at h1
            subst h1
            exact Or.inr h2
      clear htk H1 HI d0 d1 d2 d3 d4 d5 d6
      go_wp2_with fail
      go_roundw
      case rel => exact ⟨i + 1, hlt, by go_num, HJ⟩
      case measure => simp [intOf]; omega
    · have hlt1 : ¬ (i : Int) < k := by omega
      obtain rfl : i = k := by omega
      obtain ⟨U, rfl⟩ : ∃ U, U = wr := ⟨_, rfl⟩
      have HQ : Hid (SQ W X K bv mk ke rm L o A A' τ (n + 3 * i) m w U (fun q => ∃ l ∈ ls, Blk l q)) := HI.out.congr fun q => by rw [List.take_of_length_le (by rw [HH.out.2.2.2.2]; exact Nat.le_refl _)]
      have HRU : Hid (NRow U W.heap.size (.slice a i i) ls ∧ (∀ l ∈ ls, Own U W.heap.size l) ∧ W.heap.size ≤ U.heap.size) := ⟨HQ.out.row HH.out.1 HH.out.2.1, fun l hl => HQ.out.own (HH.out.2.2.1 l hl).own (HH.out.2.2.1 l hl).free, by
        obtain ⟨_, a1, _⟩ := HQ.out
        exact a1.bel.size⟩
      clear HI
      go_wp2_with fail
      go_loopw [5, 6] (fun t5 t6 wx => ∃ j : Nat, j ≤ i ∧ t6 = .int .i64 j ∧ Hid (∃ xs, xs.length = j ∧ NRow wx U.heap.size t5 xs ∧ (∀ x ∈ xs, Own wx U.heap.size x) ∧ Tws (ls.take j) xs ∧ Below U.heap.size U wx)) (fun _ t6 _ => i - (intOf t6).toNat)
      case atStart => exact ⟨0, Nat.zero_le _, rfl, [], rfl, ERow.nil _ _ _ _ _, fun x hx => (by cases hx), by rw [List.take_zero]; exact Tws.refl _, Below.refl _ _⟩
      case round =>
        obtain ⟨j, hj, rfl, HJ⟩ := hrel
        obtain ⟨xs, hxl, hxr, hxo, hxt, hxb⟩ := HJ.out
        obtain ⟨a5, c5, e5, _⟩ := ERow.isSlice hxr
        rw [hxl] at e5
        subst e5
        by_cases hltj : j < i
        · have hltj1 : (j : Int) < i := by omega
          obtain ⟨l, hl⟩ : ∃ l, ls[j]? = some l := ⟨_, List.getElem?_eq_getElem (by rw [HH.out.2.2.2.2]; exact hltj)⟩
          obtain ⟨g, rfl, hg, d0, d1, d2, d3, d4, d5, d6⟩ := nrow_cells (ERow.below HRU.out.1 hxb) hl
          have hle := HH.out.2.2.1 l (List.mem_of_getElem? hl)
          have htw := rtwin_any l wr ((HRU.out.2.1 l (List.mem_of_getElem? hl)).below hxb).lies (by have := hle.b1; omega) (by have := hle.b2; omega) (by have := hle.b3; omega)
          have HX : Hid (xs.length = j ∧ NRow wr U.heap.size (.slice a5 j c5) xs ∧ Below U.heap.size U wr ∧ (∀ x ∈ xs, Own wr U.heap.size x) ∧ Tws (ls.take j) xs ∧ ls[j]? = some l) := ⟨hxl, hxr, hxb, hxo, hxt, hl⟩
          clear hl hg hle hxl hxr hxb hxo hxt HJ
          go_wp2_with fail
          refine htw.mono ?_
          rintro _ w3 ⟨a1, k1, a2, k2, a3, k3, rfl, ho3, hb3⟩
          have hb4 : Below wr.heap.size wr (w3.alloc (.cells #[.string l.ct, .slice a1 l.tn k1, .int .i64 l.nu, .int .i64 l.tk, .slice a2 l.cn k2, .string l.cd, .slice a3 l.an k3] 30)) := hb3.alloc hb3.size _
          obtain ⟨a6, c6, W2, hap, r2, o2, _⟩ := run_epush (P := Tryz.prog) (t := 22) Tryz.underlying22 celE encE_len encE_one (w := w3.alloc (.cells #[.string l.ct, .slice a1 l.tn k1, .int .i64 l.nu, .int .i64 l.tk, .slice a2 l.cn k2, .string l.cd, .slice a3 l.an k3] 30)) (ERow.below HX.out.2.1 hb4) (l.wi a1 k1 a2 k2 a3 k3) #[.string l.ct, .slice a1 l.tn k1, .int .i64 l.nu, .int .i64 l.tk, .slice a2 l.cn k2, .string l.cd, .slice a3 l.an k3] rfl (by have := HX.out.1; omega) (by decide) (Nat.le_trans HX.out.2.2.1.size hb4.size)
          have HX2 : Hid (∃ xs, xs.length = j + 1 ∧ NRow W2 U.heap.size (.slice a6 (j + 1) c6) xs ∧ (∀ x ∈ xs, Own W2 U.heap.size x) ∧ Tws (ls.take (j + 1)) xs ∧ Below U.heap.size U W2) := by
            rw [HX.out.1] at r2
            have nb : ∀ q cs, (w3.alloc (.cells #[.string l.ct, .slice a1 l.tn k1, .int .i64 l.nu, .int .i64 l.tk, .slice a2 l.cn k2, .string l.cd, .slice a3 l.an k3] 30)).heap[q]? = some (.cells cs 5 (0, 0)) → ¬ (Value.slice a5 j c5).ownBlock = some q := fun q cs hq hq' => by
              obtain ⟨cs', hc'⟩ := row_type (ERow.below HX.out.2.1 hb4) hq'
              rw [hq] at hc'
              simp at hc'
            refine ⟨_, ?_, r2, fun x hx => ?_, ?_, (below_then HX.out.2.2.1 hb4).trans (o2.below (Nat.le_trans HX.out.2.2.1.size hb4.size) fun q hq => (ERow.lt HX.out.2.1 hq).1)⟩
            · rw [List.length_append, HX.out.1]; rfl
            · rcases List.mem_append.1 hx with hx | hx
              · exact ((HX.out.2.2.2.1 x hx).below hb4).byType o2 nb
              · simp only [List.mem_singleton] at hx
                subst hx
                exact ((ho3.below ((Below.refl _ _).alloc (Nat.le_refl _) _)).base HX.out.2.2.1.size).byType o2 nb
            · rw [take_one HX.out.2.2.2.2.2]
              exact HX.out.2.2.2.2.1.snoc ⟨a1, k1, a2, k2, a3, k3, rfl⟩
          rw [HX.out.1, World.size_alloc] at hap
          clear htw hb3 ho3 hb4 r2 o2 HX d0 d1 d2 d3 d4 d5 d6
          go_wp2_with (at_builtin; refine wpList_append_run rfl (.tmp 31) (.tmp 33) 22 _ rfl hap ?_)
          go_roundw
          case rel => exact ⟨j + 1, hltj, by go_num, HX2⟩
          case measure => simp [intOf]; omega
        · have hltj1 : ¬ (j : Int) < i := by omega
          obtain rfl : j = i := by omega
          obtain ⟨τ1, a1, a2⟩ := HQ.out
          have b1 := a1.below hxb
          have hnew : ∀ q, U.heap.size ≤ q → τ1 q = 0 := a1.new
          have tkl : ∀ l ∈ ls, ∀ q, Blk l q → τ1 q = 2 ∨ τ1 q = 3 := fun l hl q hq => a2.got q ((HH.out.2.2.1 l hl).own.blk hq).2 ⟨l, hl, hq⟩
          have tkr : ∀ q, (Value.slice a j j).ownBlock = some q → τ1 q = 0 := fun q hq => by
            rw [a2.keep q (ERow.lt HH.out.1 hq).2 fun ⟨l, hl, hb⟩ => ?_]
            · exact HH.out.2.1 q hq
            · obtain ⟨cs, hc⟩ := row_type HH.out.1 hq
              have : ∃ cs, w.heap[q]? = some (.cells cs 5 (0, 0)) := by
                have ho := (HH.out.2.2.1 l hl).own
                rcases hb with g | g | g
                · exact erow_type ho.t g
                · exact erow_type ho.c g
                · exact erow_type ho.a g
              obtain ⟨cs', hc'⟩ := this
              rw [hc] at hc'
              simp at hc'
          rw [List.take_of_length_le (by rw [HH.out.2.2.2.2]; exact Nat.le_refl _)] at hxt
          obtain ⟨v0, v1, p0, n0, c0, w2, p1, n1, c1, w4, k0, r1, k1, k2, k3, r2, k4, k5, R⟩ := ss_list b1 hm (a, j, j) (a5, j, c5) rfl (ERow.below HRU.out.1 hxb) (fun l hl => (HRU.out.2.1 l hl).below hxb) (ERow.base hxr HRU.out.2.2) (fun x hx => (hxo x hx).base HRU.out.2.2) hxt (fun l hl => ⟨(HH.out.2.2.1 l hl).b1, (HH.out.2.2.1 l hl).b2, (HH.out.2.2.1 l hl).b3⟩) (by rw [HH.out.2.2.2.2]; exact hk) tkr (fun q hq => hnew q (ERow.lt hxr hq).1) tkl fun x hx q hq => hnew q ((hxo x hx).blk hq).1
          have HZ : Hid (SQ W X K bv mk ke rm L o A A' τ (n + 3 * j) (m + 1) w (w4.setCell ⟨X, 7, none⟩ (.slice p1 n1 c1)) (fun q => (Value.slice a j j).ownBlock = some q ∨ ∃ l ∈ ls, Blk l q)) := by
            obtain ⟨τ2, d1, d2⟩ := R.out
            refine ⟨τ2, d1, ?_⟩
            have a3 := a2.below hxb
            have hbx := hxb.size
            have hwU := a2.off.size
            refine ⟨a3.off.join d2.off fun q hq e => ?_, fun q hq hp => ?_, fun q hq hp => ?_⟩
            · rcases Classical.em (∃ l ∈ ls, Blk l q) with p | p
              · have := a2.got q hq p; omega
              · rw [← a2.keep q hq p]; exact e
            · rw [d2.keep q (by omega) fun p => ?_, a2.keep q hq fun p => hp (Or.inr p)]
              rcases p with p | p | ⟨x, hx, p⟩
              · exact hp (Or.inl p)
              · have := (ERow.lt hxr p).1; omega
              · have := ((hxo x hx).blk p).1; omega
            · rcases hp with p | p
              · exact d2.got q (by omega) (Or.inl p)
              · rcases Classical.em (ob (a, j, j) = some q ∨ ob (a5, j, c5) = some q ∨ ∃ l ∈ xs, Blk l q) with r | r
                · exact d2.got q (by omega) r
                · rw [d2.keep q (by omega) r]
                  exact a2.got q hq p
          clear R HH HQ HJ hxl hxr hxb hxo hxt a1 a2 b1 hnew tkl tkr HRU
          go_wp2_with (at_builtin; first | refine wpList_append_run rfl (.tmp 39) (.tmp 41) 53 _ rfl r1 ?_ | refine wpList_append_run rfl (.tmp 49) (.tmp 51) 53 _ rfl r2 ?_)
          go_end0
          exact ⟨rfl, HZ⟩
end
end Go.Proofs.YtjbkfppibnlmoaaGreatDoor

/-
  The calls that tell, of both boxes, by the pair's block and the boxes alone.
-/
namespace Go.Proofs.YtjbkfppibnlmoaaGreatDoor
open Go.RowKit

/-- The pair's block and the boxes. -/
structure SX (W : World) (X : Nat) (bv mk ke rm L : Value) (o : Option (Int × Int)) (A A' : List Ent) (w : World) : Prop where
  ex : ∃ v5 v6 v7, w.heap[X]? = some (.cells #[bv, mk, ke, rm, L, v5, v6, v7] 55 (0, 0))
  sd : Sd w W.heap.size 0 0 0 X bv mk ke rm L A A' o
section
variable {W w w' : World} {X K n m : Nat} {bv mk ke rm L : Value} {o : Option (Int × Int)} {A A' : List Ent} {τ : Nat → Nat}
theorem SS.sx (h : SS W X K bv mk ke rm L o A A' τ n m w) : SX W X bv mk ke rm L o A A' w := by
  obtain ⟨v6, v7, gs, ρ, σ, es, ts, hX, _⟩ := h.ex
  exact ⟨⟨_, v6, v7, hX⟩, h.s4.sd⟩
theorem SX.cells (h : SX W X bv mk ke rm L o A A' w) : w.cell? ⟨X, 0, none⟩ = some bv ∧ w.cell? ⟨X, 1, none⟩ = some mk ∧ w.cell? ⟨X, 4, none⟩ = some L ∧ X < w.heap.size := by
  obtain ⟨v5, v6, v7, hX⟩ := h.ex
  exact ⟨hcell hX 0, hcell hX 1, hcell hX 4, blk_lt hX⟩
theorem SX.below (h : SX W X bv mk ke rm L o A A' w) (hb : Below w.heap.size w w') : SX W X bv mk ke rm L o A A' w' := by
  obtain ⟨v5, v6, v7, hX⟩ := h.ex
  exact ⟨⟨v5, v6, v7, (hb.block X (blk_lt hX)).trans hX⟩, h.sd.below hb⟩
theorem SX.bnd (h : SX W X bv mk ke rm L o A A' w) : A.length ≤ 97 ∧ A'.length ≤ 97 ∧ (∀ e ∈ A, mayB e = true) := by
  rcases o with _ | ⟨K0, R⟩
  · obtain ⟨_, _, _, _, _, rfl, rfl⟩ := h.sd
    exact ⟨by decide, by decide, fun e he => by cases he⟩
  · obtain ⟨rfl, rfl, rfl, b, sb, M, v, es, es', hbv, hs⟩ := h.sd
    refine ⟨by rw [← hs.t.1]; exact hs.bx.inv.len, by rw [← hs.t'.1]; exact hs.inv.len, fun e he => ?_⟩
    obtain ⟨i, hi, rfl⟩ := List.getElem_of_mem he
    have hj : i < es.length := by rw [hs.t.1]; exact hi
    obtain ⟨a, c, a', c', a'', c'', e1⟩ := hs.t.2 i _ _ (List.getElem?_eq_getElem hj) (List.getElem?_eq_getElem hi)
    have := hs.bx.sh.ok es[i] (List.getElem_mem hj)
    rw [e1]
    exact this
theorem x_open (h : SX W X bv mk ke rm L o A A' w) : Calls Tryz.prog 29 #[bv] w fun r w' => ∃ a c, r = .returned (.slice a (opS A).length c) ∧ TRow w' w.heap.size (.slice a (opS A).length c) (opS A) ∧ Below w.heap.size w w' := by
  rcases o with _ | ⟨K0, R⟩
  · obtain ⟨rfl, _, _, _, _, rfl, _⟩ := h.sd
    refine (open_un (Or.inl rfl)).mono fun r w' ⟨hr, hw⟩ => ⟨none, 0, hr, ERow.nil _ _ _ _ _, by rw [hw]; exact Below.refl _ _⟩
  · obtain ⟨rfl, rfl, rfl, b, sb, M, v, es, es', hbv, hs⟩ := h.sd
    rw [hbv]
    refine (open_any hs.bx).mono fun r w' ⟨u, hr, ht, hb⟩ => ?_
    rw [hs.t.ops] at ht
    obtain ⟨a, c, e, _⟩ := ERow.isSlice ht
    subst e
    exact ⟨a, c, hr, ht, hb⟩
theorem xr_open (h : SX W X bv mk ke rm L o A A' w) : Calls Tryz.prog 20 #[.pointer (some ⟨X, 1, none⟩)] w fun r w' => ∃ a c, r = .returned (.slice a (opS A').length c) ∧ TRow w' w.heap.size (.slice a (opS A').length c) (opS A') ∧ Below w.heap.size w w' := by
  rcases o with _ | ⟨K0, R⟩
  · obtain ⟨_, _, _, _, rfl, _, rfl⟩ := h.sd
    refine (ropen0 h.cells.2.2.1).mono fun r w' ⟨hr, hw⟩ => ⟨none, 0, hr, ERow.nil _ _ _ _ _, by rw [hw]; exact Below.refl _ _⟩
  · obtain ⟨rfl, rfl, rfl, b, sb, M, v, es, es', hbv, hs⟩ := h.sd
    obtain ⟨v5, v6, v7, hX⟩ := h.ex
    refine (ropens_any (hs.rbx hX) (by have := hs.inv.len; omega)).mono fun r w' ⟨u, hr, ht, hb⟩ => ?_
    rw [hs.t'.ops] at ht
    obtain ⟨a, c, e, _⟩ := ERow.isSlice ht
    subst e
    exact ⟨a, c, hr, ht, hb⟩
theorem x_last (h : SX W X bv mk ke rm L o A A' w) : Calls Tryz.prog 26 #[bv] w (EnS w (lasE A) (decide (0 < A.length))) := by
  rcases o with _ | ⟨K0, R⟩
  · obtain ⟨rfl, _, _, _, _, rfl, _⟩ := h.sd
    exact last_uns (Or.inl rfl)
  · obtain ⟨rfl, rfl, rfl, b, sb, M, v, es, es', hbv, hs⟩ := h.sd
    rw [hbv]
    exact (blast_sep hs.bx rfl (t := decide (0 < A.length)) (by rw [hs.t.1])).mono fun r w' hq => EnS.tw hs.t.las hq
theorem SX.docrow (h : SX W X bv mk ke rm L o A A w) : ∃ a c ls, L = .slice a A.length c ∧ NRow w W.heap.size (.slice a A.length c) ls ∧ (∀ l ∈ ls, Own w W.heap.size l) ∧ Tws ls A ∧ ∀ l ∈ ls, l.tn ≤ 8192 ∧ l.cn ≤ 2048 ∧ l.an ≤ 2048 := by
  rcases o with _ | ⟨K0, R⟩
  · obtain ⟨_, _, _, _, rfl, rfl, _⟩ := h.sd
    exact ⟨none, 0, [], rfl, ERow.nil _ _ _ _ _, fun l hl => (by cases hl), Tws.refl _, fun l hl => (by cases hl)⟩
  · have hbn := h.bnd.2.2
    obtain ⟨rfl, rfl, rfl, b, sb, M, v, es, es', hbv, hs⟩ := h.sd
    have hr := hs.row
    obtain ⟨a, c, e, _⟩ := ERow.isSlice hr
    rw [e, hs.t'.1] at hr
    refine ⟨a, c, es', by rw [e, hs.t'.1], hr, hs.own, hs.t', fun l hl => ?_⟩
    obtain ⟨i, hi, rfl⟩ := List.getElem_of_mem hl
    have hj : i < A.length := by rw [← hs.t'.1]; exact hi
    have h1 := may_bnd (hbn A[i] (List.getElem_mem hj))
    obtain ⟨a, c, a', c', a'', c'', e1⟩ := hs.t'.2 i _ _ (List.getElem?_eq_getElem hi) (List.getElem?_eq_getElem hj)
    rw [e1] at h1
    exact h1
theorem xr_last (h : SX W X bv mk ke rm L o A A w) : Calls Tryz.prog 22 #[.pointer (some ⟨X, 1, none⟩)] w (EnQ w (lasE A) (decide (0 < A.length))) := by
  have hE : ∀ z z', Below z.heap.size z z' → EnQ z zE false (.returned (.tuple #[.agg #[.string ⟨#[]⟩, .slice none 0 0, .int .i64 0, .int .i64 0, .slice none 0 0, .string ⟨#[]⟩, .slice none 0 0], .bool false])) z' := fun z z' hb => ⟨none, 0, none, 0, none, 0, rfl, zE_own _ _, hb⟩
  obtain ⟨a0, c0, ls0, eL, hrow, hown, htw, hbn⟩ := h.docrow
  rcases Nat.eq_zero_or_pos A.length with h0 | h0
  · have h2 : A = [] := List.eq_nil_of_length_eq_zero h0
    have cL := h.cells.2.2.1
    rw [eL, h0] at cL
    rw [h2]
    refine (rlastN cL).mono fun r w' ⟨hr, hb⟩ => by rw [hr]; exact hE _ _ hb
  · rcases o with _ | ⟨K0, R⟩
    · obtain ⟨_, _, _, _, _, rfl, _⟩ := h.sd
      exact absurd h0 (by decide)
    · obtain ⟨rfl, rfl, rfl, b, sb, M, v, es, es', hbv, hs⟩ := h.sd
      obtain ⟨v5, v6, v7, hX⟩ := h.ex
      obtain ⟨k, hk⟩ : ∃ k, es'.length = k + 1 := ⟨es'.length - 1, by have := hs.t'.1; omega⟩
      have hl := lasE_at hk
      obtain ⟨q1, q2, q3⟩ : (lasE es').tn ≤ 8192 ∧ (lasE es').cn ≤ 2048 ∧ (lasE es').an ≤ 2048 := by
        obtain ⟨a, c, a', c', a'', c'', e1⟩ := hs.t'.las
        have h1 := las_bnd h.bnd.2.2
        rw [e1] at h1
        exact h1
      rw [show decide (0 < A.length) = true from decide_eq_true h0]
      exact (rlast_yes (hs.rbx hX) hk hl (by have := hs.inv.len; omega) ⟨by omega, by omega, by omega⟩).mono fun r w' hq => EnQ.tw hs.t'.las hq
theorem x_list (h : SX W X bv mk ke rm L o A A' w) : Calls Tryz.prog 32 #[bv] w (LtS w A) := by
  rcases o with _ | ⟨K0, R⟩
  · obtain ⟨rfl, _, _, _, _, rfl, _⟩ := h.sd
    exact (list_un (Or.inl rfl)).mono fun r w' ⟨hr, hw⟩ => ⟨[], none, hr, ERow.nil _ _ _ _ _, fun l hl => (by cases hl), Tws.refl _, by rw [hw]; exact Below.refl _ _, SepL.nil⟩
  · obtain ⟨rfl, rfl, rfl, b, sb, M, v, es, es', hbv, hs⟩ := h.sd
    rw [hbv]
    refine (list_sep hs.bx).mono fun r w' ⟨ls, a, hr, h1, h2, h3, h4⟩ => ?_
    rw [hs.t.1] at hr h1
    refine ⟨ls, a, hr, h1, fun l hl => ?_, h2.tws.trans hs.t, h3, h4⟩
    obtain ⟨i, hi, rfl⟩ := List.getElem_of_mem hl
    exact (h2.2 i _ _ (List.getElem?_eq_getElem hi) (List.getElem?_eq_getElem (by rw [← h2.1]; exact hi))).2
theorem x_count (h : SX W X bv mk ke rm L o A A' w) : Calls Tryz.prog 35 #[bv] w fun r w' => r = .returned (.tuple #[.int .i64 (A.length : Int), .int .i64 (nOp A : Int)]) ∧ Below w.heap.size w w' := by
  rcases o with _ | ⟨K0, R⟩
  · obtain ⟨rfl, _, _, _, _, rfl, _⟩ := h.sd
    exact (count_un (Or.inl rfl)).mono fun r w' ⟨hr, hw⟩ => ⟨hr, by rw [hw]; exact Below.refl _ _⟩
  · obtain ⟨rfl, rfl, rfl, b, sb, M, v, es, es', hbv, hs⟩ := h.sd
    rw [hbv, ← hs.t.1, ← hs.t.op_eq]
    exact (count_any hs.bx).mono fun r w' ⟨hr, m, hw⟩ => ⟨hr, by rw [hw]; exact below_drewN (Below.refl _ _) _⟩
theorem xr_count (h : SX W X bv mk ke rm L o A A' w) : Calls Tryz.prog 36 #[.pointer (some ⟨X, 1, none⟩)] w fun r w' => r = .returned (.tuple #[.int .i64 (A'.length : Int), .int .i64 (nOp A' : Int)]) ∧ Below w.heap.size w w' := by
  rcases o with _ | ⟨K0, R⟩
  · obtain ⟨_, _, _, _, rfl, _, rfl⟩ := h.sd
    exact (rcount0 h.cells.2.2.1).mono fun r w' ⟨hr, hw⟩ => ⟨hr, hw.out⟩
  · obtain ⟨rfl, rfl, rfl, b, sb, M, v, es, es', hbv, hs⟩ := h.sd
    obtain ⟨v5, v6, v7, hX⟩ := h.ex
    rw [← hs.t'.1, ← hs.t'.op_eq]
    exact rcount_any (hs.rbx hX) (by have := hs.inv.len; omega)
end
end Go.Proofs.YtjbkfppibnlmoaaGreatDoor
