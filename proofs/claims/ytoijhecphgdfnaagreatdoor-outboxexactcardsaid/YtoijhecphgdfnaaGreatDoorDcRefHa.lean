import Derived.Test.YtoijhecphgdfnaaGreatDoorOrBase
/-
  The document's box: find, next, Len, may.
-/
namespace Go.Proofs.YtoijhecphgdfnaaGreatDoor
open Go.RowKit

/-- The document's box at r. -/
structure RB (w : World) (B r : Nat) (L : Value) (sq : Bool) (tr : Int) (ms : List Msg) : Prop where
  blk : w.heap[r]? = some (.cells #[L, .bool sq, .int .i64 tr] 117 (0, 0))
  row : ERow w B 91 10 encM L ms
  own : ∀ m ∈ ms, BRow w B (.slice m.tp m.tn m.tc) m.tx ∧ m.tn ≤ 8192
  len : ms.length ≤ 32
  lB : B ≤ r
theorem fi_here {s : ByteArray} {ms : List Msg} {i : Nat} {e : Msg} (he : ms[i]? = some e) (hq : (e.ct.toList == s.toList) = true) (hb : ∀ (j : Nat) (m : Msg), j < i → ms[j]? = some m → (m.ct.toList == s.toList) = false) : fi s ms = some i := by
  obtain ⟨hi, e1⟩ := List.getElem?_eq_some_iff.1 he
  refine List.findIdx?_eq_some_iff_getElem.2 ⟨hi, by rw [e1]; exact hq, fun j hj => ?_⟩
  rw [hb j _ hj (List.getElem?_eq_getElem (by omega))]
  decide
theorem fi_nowhere {s : ByteArray} {ms : List Msg} (hb : ∀ (j : Nat) (m : Msg), ms[j]? = some m → (m.ct.toList == s.toList) = false) : fi s ms = none := by
  refine List.findIdx?_eq_none_iff.2 fun m hm => ?_
  obtain ⟨j, hj, e1⟩ := List.getElem_of_mem hm
  exact hb j m (by rw [List.getElem?_eq_getElem hj, e1])
/-- The place of the one that goes out next. -/
def nxI (sq : Bool) : List Msg → Option Nat
  | [] => none
  | m :: r => if m.un = true then (if sq = true then none else (nxI sq r).map (· + 1)) else some 0
def nxZ (sq : Bool) (ms : List Msg) : Int := match nxI sq ms with | some i => (i : Int) | none => -1
theorem nxI_none {sq : Bool} {ms : List Msg} : nxI sq ms = none ↔ nextS sq ms = none := by
  induction ms with
  | nil => exact ⟨fun _ => rfl, fun _ => rfl⟩
  | cons m r ih =>
    unfold nxI nextS
    cases m.un <;> cases sq <;> simp_all
theorem nxI_some {sq : Bool} {ms : List Msg} {i : Nat} (h : nxI sq ms = some i) : ∃ m, ms[i]? = some m ∧ nextS sq ms = some m ∧ m.un = false ∧ (sq = true → i = 0) ∧ ∀ (j : Nat) (m' : Msg), j < i → ms[j]? = some m' → m'.un = true := by
  induction ms generalizing i with
  | nil => cases h
  | cons m r ih =>
    unfold nxI at h
    unfold nextS
    cases hu : m.un with
    | false =>
      rw [hu] at h
      simp only [Bool.false_eq_true, if_false, Option.some.injEq] at h
      subst h
      exact ⟨m, rfl, by simp, hu, fun _ => rfl, fun j _ hj => by omega⟩
    | true =>
      rw [hu] at h
      cases sq with
      | true => simp at h
      | false =>
        simp only [Bool.false_eq_true, if_true, if_false, Option.map_eq_some_iff] at h
        obtain ⟨k, hk, rfl⟩ := h
        obtain ⟨x, h1, h2, h3, _, h5⟩ := ih hk
        refine ⟨x, by simpa using h1, by simpa using h2, h3, fun e => (by cases e), fun j m' hj hm => ?_⟩
        cases j with
        | zero => simp at hm; subst hm; exact hu
        | succ j => exact h5 j m' (by omega) (by simpa using hm)
theorem nxI_here {sq : Bool} : ∀ {ms : List Msg} {i : Nat} {m : Msg}, ms[i]? = some m → m.un = false → (sq = true → i = 0) → (∀ (j : Nat) (m' : Msg), j < i → ms[j]? = some m' → m'.un = true) → nxI sq ms = some i
  | [], i, m, h, _, _, _ => by simp at h
  | x :: r, 0, m, h, hu, _, _ => by
    simp at h
    subst h
    unfold nxI
    rw [hu]
    rfl
  | x :: r, i + 1, m, h, hu, hs, hb => by
    have hx := hb 0 x (by omega) rfl
    have hs' : sq = false := by
      cases sq with
      | false => rfl
      | true => exact absurd (hs rfl) (by omega)
    subst hs'
    unfold nxI
    rw [hx, if_pos rfl, if_neg (by decide), nxI_here (sq := false) (ms := r) (i := i) (m := m) (by simpa using h) hu (fun e => by cases e) fun j m' hj hm => hb (j + 1) m' (by omega) (by simpa using hm)]
    rfl
theorem nxI_nowhere {sq : Bool} : ∀ {ms : List Msg}, (∀ (j : Nat) (m' : Msg), ms[j]? = some m' → m'.un = true) → nxI sq ms = none
  | [], _ => rfl
  | x :: r, h => by
    unfold nxI
    rw [h 0 x rfl, if_pos rfl, nxI_nowhere (sq := sq) (ms := r) fun j m' hm => h (j + 1) m' (by simpa using hm)]
    cases sq <;> rfl
section
variable {w w' : World} {B r : Nat} {L : Value} {sq : Bool} {tr : Int} {ms : List Msg}
theorem RB.lt (h : RB w B r L sq tr ms) : r < w.heap.size := blk_lt h.blk
theorem RB.below (h : RB w B r L sq tr ms) (hb : Below w.heap.size w w') : RB w' B r L sq tr ms := ⟨(hb.block r (blk_lt h.blk)).trans h.blk, ERow.below h.row hb, fun m hm => ⟨ERow.below (h.own m hm).1 hb, (h.own m hm).2⟩, h.len, h.lB⟩
set_option maxRecDepth 100000 in
set_option maxHeartbeats 2000000 in
theorem rfind_any (h : RB w B r L sq tr ms) (s : ByteArray) : Calls Tryz.prog 47 #[.pointer (some ⟨r, 0, none⟩), .string s] w fun e w' => e = .returned (.int .i64 (fiI s ms)) ∧ w' = w := by
  obtain ⟨a, c, e1, _⟩ := ERow.isSlice h.row
  subst e1
  obtain ⟨n, hn⟩ : ∃ n, ms.length = n := ⟨_, rfl⟩
  have c0 := hcell h.blk 0
  have hn6 := h.len
  rw [hn] at c0 hn6
  have HH : Hid (ERow w B 91 10 encM (.slice a n c) ms ∧ ms.length = n) := ⟨by have := h.row; rw [hn] at this; exact this, hn⟩
  clear h hn
  go_enter Tryz.func47, Tryz.ntmps47
  go_wp2_with fail
  go_loopw [5] (fun t5 wx => ∃ i : Nat, i ≤ n ∧ t5 = .int .i64 i ∧ wx = w ∧ Hid (∀ (j : Nat) (m : Msg), j < i → ms[j]? = some m → (m.ct.toList == s.toList) = false)) (fun t5 _ => n - (intOf t5).toNat)
  case atStart => exact ⟨0, Nat.zero_le _, rfl, rfl, fun j m hj => by omega⟩
  case round =>
    obtain ⟨i, hi, rfl, hw, HI⟩ := hrel
    subst hw
    by_cases hlt : i < n
    · have hlt1 : (i : Int) < n := by omega
      obtain ⟨e, he⟩ : ∃ e, ms[i]? = some e := ⟨_, List.getElem?_eq_getElem (by rw [HH.out.2]; exact hlt)⟩
      obtain ⟨g, rfl, hg, hc⟩ := erow_cells HH.out.1 he
      have d0 := hc.c0
      have HE : Hid (ms[i]? = some e) := he
      clear he hg hc
      cases hq : (e.ct.toList == s.toList) with
      | true =>
        have HF : Hid ((i : Int) = fiI s ms) := by unfold Hid fiI; rw [fi_here HE.out hq HI.out]
        clear HI HE
        go_wp2_with fail
        go_ret
        exact ⟨by rw [← HF.out]; rfl, rfl⟩
      | false =>
        have HI2 : Hid (∀ (j : Nat) (m : Msg), j < i + 1 → ms[j]? = some m → (m.ct.toList == s.toList) = false) := fun j m hj hm => by
          by_cases e2 : j < i
          · exact HI.out j m e2 hm
          · obtain rfl : j = i := by omega
            have := HE.out
            rw [hm] at this
            obtain rfl := Option.some.inj this
            exact hq
        clear HI HE
        go_wp2_with fail
        go_roundw
        case rel => exact ⟨i + 1, hlt, by go_num, by first | rfl | trivial, HI2⟩
        case measure => simp [intOf]; omega
    · have hlt1 : ¬ (i : Int) < n := by omega
      have HF : Hid ((-1 : Int) = fiI s ms) := by
        unfold Hid fiI
        rw [fi_nowhere fun j m hm => HI.out j m (by have := (List.getElem?_eq_some_iff.1 hm).1; have := HH.out.2; omega) hm]
      clear HI
      go_wp2_with fail
      go_ret
      exact ⟨by rw [← HF.out]; rfl, rfl⟩
set_option maxRecDepth 100000 in
set_option maxHeartbeats 2000000 in
theorem rnext_any (h : RB w B r L sq tr ms) : Calls Tryz.prog 56 #[.pointer (some ⟨r, 0, none⟩)] w fun e w' => e = .returned (.int .i64 (nxZ sq ms)) ∧ w' = w := by
  obtain ⟨a, c, e1, _⟩ := ERow.isSlice h.row
  subst e1
  obtain ⟨n, hn⟩ : ∃ n, ms.length = n := ⟨_, rfl⟩
  have c0 := hcell h.blk 0
  have c1 := hcell h.blk 1
  have hn6 := h.len
  rw [hn] at c0 hn6
  have HH : Hid (ERow w B 91 10 encM (.slice a n c) ms ∧ ms.length = n) := ⟨by have := h.row; rw [hn] at this; exact this, hn⟩
  clear h hn
  go_enter Tryz.func56, Tryz.ntmps56
  go_wp2_with fail
  go_loopw [3] (fun t5 wx => ∃ i : Nat, i ≤ n ∧ t5 = .int .i64 i ∧ wx = w ∧ Hid ((sq = true → i = 0) ∧ ∀ (j : Nat) (m : Msg), j < i → ms[j]? = some m → m.un = true)) (fun t5 _ => n - (intOf t5).toNat)
  case atStart => exact ⟨0, Nat.zero_le _, rfl, rfl, fun _ => rfl, fun j m hj => by omega⟩
  case round =>
    obtain ⟨i, hi, rfl, hw, HI⟩ := hrel
    subst hw
    by_cases hlt : i < n
    · have hlt1 : (i : Int) < n := by omega
      obtain ⟨e, he⟩ : ∃ e, ms[i]? = some e := ⟨_, List.getElem?_eq_getElem (by rw [HH.out.2]; exact hlt)⟩
      obtain ⟨g, rfl, hg, hc⟩ := erow_cells HH.out.1 he
      have d9 := hc.c9
      have HE : Hid (ms[i]? = some e) := he
      clear he hg hc
      cases hq : e.un with
      | false =>
        have HF : Hid ((i : Int) = nxZ sq ms) := by unfold Hid nxZ; rw [nxI_here HE.out hq HI.out.1 HI.out.2]
        clear HI HE
        rw [hq] at d9
        go_wp2_with fail
        go_ret
        exact ⟨by rw [← HF.out]; rfl, rfl⟩
      | true =>
        have HI3 : Hid (∀ (j : Nat) (m : Msg), j < i + 1 → ms[j]? = some m → m.un = true) := fun j m hj hm => by
          by_cases e2 : j < i
          · exact HI.out.2 j m e2 hm
          · obtain rfl : j = i := by omega
            have := HE.out
            rw [hm] at this
            obtain rfl := Option.some.inj this
            exact hq
        rw [hq] at d9
        cases sq with
        | true =>
          have HF : Hid ((-1 : Int) = nxZ true ms) := by
            obtain rfl : i = 0 := HI.out.1 rfl
            have h0 := HE.out
            unfold Hid nxZ
            cases ms with
            | nil => simp at h0
            | cons x l =>
              simp at h0
              subst h0
              unfold nxI
              rw [hq]
              rfl
          clear HI HE HI3
          go_wp2_with fail
          go_ret
          exact ⟨by rw [← HF.out]; rfl, rfl⟩
        | false =>
          have HI2 : Hid ((false = true → i + 1 = 0) ∧ ∀ (j : Nat) (m : Msg), j < i + 1 → ms[j]? = some m → m.un = true) := ⟨fun e => (by cases e), HI3.out⟩
          clear HI HE HI3
          go_wp2_with fail
          go_roundw
          case rel => exact ⟨i + 1, hlt, by go_num, by first | rfl | trivial, HI2⟩
          case measure => simp [intOf]; omega
    · have hlt1 : ¬ (i : Int) < n := by omega
      have HF : Hid ((-1 : Int) = nxZ sq ms) := by
        unfold Hid nxZ
        rw [nxI_nowhere fun j m hm => HI.out.2 j m (by have := (List.getElem?_eq_some_iff.1 hm).1; have := HH.out.2; omega) hm]
      clear HI
      go_wp2_with fail
      go_ret
      exact ⟨by rw [← HF.out]; rfl, rfl⟩
set_option maxHeartbeats 1000000 in
theorem rlen_any (h : RB w B r L sq tr ms) : Calls Tryz.prog 39 #[.pointer (some ⟨r, 0, none⟩)] w fun e w' => e = .returned (.int .i64 (ms.length : Int)) ∧ w' = w := by
  obtain ⟨a, c, e1, _⟩ := ERow.isSlice h.row
  subst e1
  obtain ⟨n, hn⟩ : ∃ n, ms.length = n := ⟨_, rfl⟩
  have c0 := hcell h.blk 0
  rw [hn] at c0 ⊢
  clear h hn
  go_enter Tryz.func39, Tryz.ntmps39
  go_wp2_with fail
  go_ret
  exact ⟨rfl, rfl⟩
end
end Go.Proofs.YtoijhecphgdfnaaGreatDoor

/-
  The document's box: a message changed in its place; one more; what a call leaves.
-/
namespace Go.Proofs.YtoijhecphgdfnaaGreatDoor
open Go.RowKit

theorem setAll_one (l : List Value) (q : Nat) (u : Value) : setAll l q [u] = l.set q u := rfl
theorem flat_cell {α : Type} {enc : α → List Value} {k : Nat} (hk : ∀ x, (enc x).length = k) {q : Nat} {u : Value} (hq : q < k) : ∀ (xs : List α) (i : Nat) (x x' : α), xs[i]? = some x → enc x' = (enc x).set q u → setAll (xs.flatMap enc) (i * k + q) [u] = (xs.set i x').flatMap enc
  | [], i, x, _, h, _ => by simp at h
  | y :: r, 0, x, x', h, he => by
    simp only [List.getElem?_cons_zero, Option.some.injEq] at h
    subst h
    rw [List.flatMap_cons, List.set_cons_zero, List.flatMap_cons, setAll_one, Nat.zero_mul, Nat.zero_add, List.set_append_left _ _ (by rw [hk]; exact hq), he]
  | y :: r, i + 1, x, x', h, he => by
    rw [List.getElem?_cons_succ] at h
    rw [List.flatMap_cons, List.set_cons_succ, List.flatMap_cons, show (i + 1) * k + q = (enc y).length + (i * k + q) by rw [hk, Nat.succ_mul]; omega, setAll_app, flat_cell hk hq r i x x' h he]
theorem row_cell {α : Type} {enc : α → List Value} {k : Nat} (hk : ∀ x, (enc x).length = k) {w : World} {B n c g i q : Nat} {e : TypeId} {xs : List α} {x x' : α} {u : Value} (h : ERow w B e k enc (.slice (some ⟨g, 0, none⟩) n c) xs) (hx : xs[i]? = some x) (hq : q < k) (he : enc x' = (enc x).set q u) : ERow (w.setCell ⟨g, i * k + q, none⟩ u) B e k enc (.slice (some ⟨g, 0, none⟩) n c) (xs.set i x') := by
  have hn : n = xs.length := h.len
  subst hn
  have := own_setCells [u] (i * k + q) w _ h
  unfold ERow
  rw [← flat_cell hk hq xs i x x' hx he, List.length_set]
  exact this
/-- What a call leaves of the document's box. -/
def RBQ (w : World) (B r : Nat) (L : Value) (sq : Bool) (tr : Int) (ms' : List Msg) (w' : World) : Prop :=
  ∃ L', RB w' B r L' sq tr ms' ∧ Off (fun q => q = r ∨ L.ownBlock = some q) w w' ∧ ∀ q, L'.ownBlock = some q → L.ownBlock = some q ∨ w.heap.size ≤ q
section
variable {w w' : World} {B r : Nat} {L : Value} {sq : Bool} {tr : Int} {ms ms' : List Msg}
theorem msrow_type {v : Value} {xs : List Msg} (h : ERow w B 91 10 encM v xs) {g : Nat} (hg : v.ownBlock = some g) : ∃ cs, w.heap[g]? = some (.cells cs 91 (0, 0)) := by
  rcases h.2 with ⟨e, _⟩ | ⟨g', cap, cur, e, _, hb, _⟩
  · rw [e] at hg; cases hg
  · rw [e] at hg
    simp only [Value.ownBlock, Option.some.injEq] at hg
    subst hg
    exact ⟨_, hb⟩
theorem brow_type {v : Value} {xs : List Int} (h : BRow w B v xs) {g : Nat} (hg : v.ownBlock = some g) : ∃ cs, w.heap[g]? = some (.cells cs 5 (0, 0)) := by
  rcases h.2 with ⟨e, _⟩ | ⟨g', cap, cur, e, _, hb, _⟩
  · rw [e] at hg; cases hg
  · rw [e] at hg
    simp only [Value.ownBlock, Option.some.injEq] at hg
    subst hg
    exact ⟨_, hb⟩
theorem RB.nr (h : RB w B r L sq tr ms) : L.ownBlock ≠ some r := fun hq => by
  obtain ⟨cs, hc⟩ := msrow_type h.row hq
  rw [h.blk] at hc
  simp at hc
theorem RB.nb (h : RB w B r L sq tr ms) {v : Value} {xs : List Int} (hv : BRow w B v xs) {g : Nat} (hg : v.ownBlock = some g) : ¬ (g = r ∨ L.ownBlock = some g) := by
  obtain ⟨cs, hc⟩ := brow_type hv hg
  rintro (e | e)
  · rw [e, h.blk] at hc
    simp at hc
  · obtain ⟨cs', hc'⟩ := msrow_type h.row e
    rw [hc] at hc'
    simp at hc'
/-- What others do. -/
theorem RB.off {P : Nat → Prop} (h : RB w B r L sq tr ms) (o : Off P w w') (hr : ¬ P r) (hL : ∀ q, L.ownBlock = some q → ¬ P q) (hm : ∀ m ∈ ms, ∀ q, (Value.slice m.tp m.tn m.tc).ownBlock = some q → ¬ P q) : RB w' B r L sq tr ms :=
  ⟨(o.block r h.lt hr).trans h.blk, ERow.off h.row o hL, fun m hm' => ⟨ERow.off (h.own m hm').1 o (hm m hm'), (h.own m hm').2⟩, h.len, h.lB⟩
theorem RB.set {g n c i q : Nat} {m m' : Msg} {u : Value} (h : RB w B r (.slice (some ⟨g, 0, none⟩) n c) sq tr ms) (hm : ms[i]? = some m) (hq : q < 10) (he : encM m' = (encM m).set q u) (ht : m'.tp = m.tp ∧ m'.tn = m.tn ∧ m'.tc = m.tc ∧ m'.tx = m.tx) : RB (w.setCell ⟨g, i * 10 + q, none⟩ u) B r (.slice (some ⟨g, 0, none⟩) n c) sq tr (ms.set i m') := by
  have o : Off (fun k => k = g) w (w.setCell ⟨g, i * 10 + q, none⟩ u) := Off.setCell (P := fun k => k = g) (Off.refl _ _) (p := ⟨g, i * 10 + q, none⟩) rfl _
  refine ⟨(o.block r h.lt fun e => h.nr (by rw [e]; rfl)).trans h.blk, row_cell encM_len h.row hm hq he, fun x hx => ?_, by rw [List.length_set]; exact h.len, h.lB⟩
  have key : ∀ y ∈ ms, BRow (w.setCell ⟨g, i * 10 + q, none⟩ u) B (.slice y.tp y.tn y.tc) y.tx ∧ y.tn ≤ 8192 := fun y hy => ⟨ERow.off (h.own y hy).1 o fun k hk e => h.nb (h.own y hy).1 hk (Or.inr (by rw [e]; rfl)), (h.own y hy).2⟩
  rcases mem_set hx with hy | rfl
  · exact key x hy
  · obtain ⟨e1, e2, e3, e4⟩ := ht
    rw [e1, e2, e3, e4]
    exact key m (List.mem_of_getElem? hm)
theorem RBQ.refl (h : RB w B r L sq tr ms) : RBQ w B r L sq tr ms w := ⟨L, h, Off.refl _ _, fun _ e => Or.inl e⟩
theorem RBQ.trans {L' : Value} {w'' : World} (o : Off (fun q => q = r ∨ L.ownBlock = some q) w w') (hv : ∀ q, L'.ownBlock = some q → L.ownBlock = some q ∨ w.heap.size ≤ q) (h : RBQ w' B r L' sq tr ms' w'') : RBQ w B r L sq tr ms' w'' := by
  obtain ⟨L2, k1, k2, k3⟩ := h
  refine ⟨L2, k1, o.join k2 fun i hi hq => ?_, fun q hq => ?_⟩
  · rcases hq with e | e
    · exact Or.inl e
    · rcases hv i e with g | g
      · exact Or.inr g
      · omega
  · rcases k3 q hq with e | e
    · exact hv q e
    · exact Or.inr (Nat.le_trans o.size e)
theorem RBQ.below {w'' : World} (h : RBQ w B r L sq tr ms w') (hb : Below w'.heap.size w' w'') : RBQ w B r L sq tr ms w'' := by
  obtain ⟨L2, k1, k2, k3⟩ := h
  exact ⟨L2, k1.below hb, k2.trans (Off.of_below hb), k3⟩
theorem RBQ.back {w0 : World} (hb : Below w0.heap.size w0 w) (h : RBQ w B r L sq tr ms w') : RBQ w0 B r L sq tr ms w' := by
  obtain ⟨L2, k1, k2, k3⟩ := h
  exact ⟨L2, k1, (Off.of_below hb).trans k2, fun q hq => (k3 q hq).imp id fun g => Nat.le_trans hb.size g⟩
end
end Go.Proofs.YtoijhecphgdfnaaGreatDoor

/-
  The document's Heard, way by way.
-/
namespace Go.Proofs.YtoijhecphgdfnaaGreatDoor
open Go.RowKit

set_option maxRecDepth 100000 in
set_option maxHeartbeats 2000000 in
theorem rHeard_1 (e : Bool) (a p st lf : Int) (s : ByteArray) (number : Bool) (w : World) (q1 : okB e a p = false) : Calls Tryz.prog 65 #[.agg #[.bool e, .int .i64 a, .int .i64 p], .agg #[.int .i64 st, .int .i64 lf], .string s, .bool number] w (AnsQ ⟨0, 0, [], 0, 220⟩ w) := by
  have c1 : ∀ w, Calls Tryz.prog 48 #[.agg #[.bool e, .int .i64 a, .int .i64 p]] w fun r w' => r = .returned (.bool false) ∧ Below w.heap.size w w' := fun w => by have := rRight_any e a p w; rw [q1] at this; exact this
  go_enter Tryz.func65, Tryz.ntmps65
  go_wp2_with fail
  refine (c1 _).mono ?_
  rintro _ w1 ⟨rfl, b1⟩
  have HB1 : Hid (Below w.heap.size w w1) := below_then ((((Below.refl _ _).alloc (by first | omega | (simp; done) | (simp; omega)) _).alloc (by first | omega | (simp; done) | (simp; omega)) _).alloc (by first | omega | (simp; done) | (simp; omega)) _) b1
  have X1_0 : Hid (Box w1 w.heap.size #[.bool e, .int .i64 a, .int .i64 p]) := (((Box.new' _ #[.bool e, .int .i64 a, .int .i64 p] 45 w.heap.size (by simp)).alloc _).alloc _).below b1
  have X1_1 : Hid (Box w1 (w.heap.size + 1) #[.int .i64 st, .int .i64 lf]) := ((Box.new' _ #[.int .i64 st, .int .i64 lf] 89 (w.heap.size + 1) (by simp)).alloc _).below b1
  have X1_2 : Hid (Box w1 (w.heap.size + 1 + 1) #[.int .i64 0, .int .i64 0]) := (Box.new' _ #[.int .i64 0, .int .i64 0] 89 (w.heap.size + 1 + 1) (by simp)).below b1
  obtain ⟨l1_0, k1_0, f1_0⟩ := X1_0.out
  obtain ⟨l1_1, k1_1, f1_1⟩ := X1_1.out
  obtain ⟨l1_2, k1_2, f1_2⟩ := X1_2.out
  clear b1 c1
  go_wp2_with fail
  refine bodyPost_ret ?_ rfl ⟨.slice none 0 0, rfl, ActRow.nil _ _, ?_⟩
  · simp [results, Tryz.results65, go_sem, k1_2]
  · exact ((HB1.out).setCell (by first | omega | (simp; done) | (simp; omega)) _).setCell (by first | omega | (simp; done) | (simp; omega)) _
set_option maxRecDepth 100000 in
set_option maxHeartbeats 2000000 in
theorem rHeard_2 (e : Bool) (a p st lf : Int) (s : ByteArray) (number : Bool) (w : World) (q1 : okB e a p = true) (q2 : fitB e a p st lf = false) : Calls Tryz.prog 65 #[.agg #[.bool e, .int .i64 a, .int .i64 p], .agg #[.int .i64 st, .int .i64 lf], .string s, .bool number] w (AnsQ ⟨0, 0, [], 0, 222⟩ w) := by
  have c1 : ∀ w, Calls Tryz.prog 48 #[.agg #[.bool e, .int .i64 a, .int .i64 p]] w fun r w' => r = .returned (.bool true) ∧ Below w.heap.size w w' := fun w => by have := rRight_any e a p w; rw [q1] at this; exact this
  have c2 : ∀ w, Calls Tryz.prog 97 #[.agg #[.bool e, .int .i64 a, .int .i64 p], .agg #[.int .i64 st, .int .i64 lf]] w fun r w' => r = .returned (.bool false) ∧ Below w.heap.size w w' := fun w => by have := rFits_any e a p st lf w; rw [q2] at this; exact this
  go_enter Tryz.func65, Tryz.ntmps65
  go_wp2_with fail
  refine (c1 _).mono ?_
  rintro _ w1 ⟨rfl, b1⟩
  have HB1 : Hid (Below w.heap.size w w1) := below_then ((((Below.refl _ _).alloc (by first | omega | (simp; done) | (simp; omega)) _).alloc (by first | omega | (simp; done) | (simp; omega)) _).alloc (by first | omega | (simp; done) | (simp; omega)) _) b1
  have X1_0 : Hid (Box w1 w.heap.size #[.bool e, .int .i64 a, .int .i64 p]) := (((Box.new' _ #[.bool e, .int .i64 a, .int .i64 p] 45 w.heap.size (by simp)).alloc _).alloc _).below b1
  have X1_1 : Hid (Box w1 (w.heap.size + 1) #[.int .i64 st, .int .i64 lf]) := ((Box.new' _ #[.int .i64 st, .int .i64 lf] 89 (w.heap.size + 1) (by simp)).alloc _).below b1
  have X1_2 : Hid (Box w1 (w.heap.size + 1 + 1) #[.int .i64 0, .int .i64 0]) := (Box.new' _ #[.int .i64 0, .int .i64 0] 89 (w.heap.size + 1 + 1) (by simp)).below b1
  obtain ⟨l1_0, k1_0, f1_0⟩ := X1_0.out
  obtain ⟨l1_1, k1_1, f1_1⟩ := X1_1.out
  obtain ⟨l1_2, k1_2, f1_2⟩ := X1_2.out
  clear b1 c1
  go_wp2_with fail
  refine (c2 _).mono ?_
  rintro _ w2 ⟨rfl, b2⟩
  have HB2 : Hid (Below w.heap.size w w2) := below_then HB1.out b2
  have X2_0 : Hid (Box w2 w.heap.size #[.bool e, .int .i64 a, .int .i64 p]) := X1_0.out.below b2
  have X2_1 : Hid (Box w2 (w.heap.size + 1) #[.int .i64 st, .int .i64 lf]) := X1_1.out.below b2
  have X2_2 : Hid (Box w2 (w.heap.size + 1 + 1) #[.int .i64 0, .int .i64 0]) := X1_2.out.below b2
  clear k1_0 l1_0 f1_0 X1_0 k1_1 l1_1 f1_1 X1_1 k1_2 l1_2 f1_2 X1_2 HB1
  obtain ⟨l2_0, k2_0, f2_0⟩ := X2_0.out
  obtain ⟨l2_1, k2_1, f2_1⟩ := X2_1.out
  obtain ⟨l2_2, k2_2, f2_2⟩ := X2_2.out
  clear b2 c2
  go_wp2_with fail
  refine bodyPost_ret ?_ rfl ⟨.slice none 0 0, rfl, ActRow.nil _ _, ?_⟩
  · simp [results, Tryz.results65, go_sem, k2_2]
  · exact ((HB2.out).setCell (by first | omega | (simp; done) | (simp; omega)) _).setCell (by first | omega | (simp; done) | (simp; omega)) _
set_option maxRecDepth 100000 in
set_option maxHeartbeats 2000000 in
theorem rHeard_3 (e : Bool) (a p st lf : Int) (s : ByteArray) (number : Bool) (w : World) (q1 : okB e a p = true) (q2 : fitB e a p st lf = true) (h4 : 4 ≤ st) : Calls Tryz.prog 65 #[.agg #[.bool e, .int .i64 a, .int .i64 p], .agg #[.int .i64 st, .int .i64 lf], .string s, .bool number] w (AnsQ ⟨st, lf, [(6, nT)], 0, 0⟩ w) := by
  have c1 : ∀ w, Calls Tryz.prog 48 #[.agg #[.bool e, .int .i64 a, .int .i64 p]] w fun r w' => r = .returned (.bool true) ∧ Below w.heap.size w w' := fun w => by have := rRight_any e a p w; rw [q1] at this; exact this
  have c2 : ∀ w, Calls Tryz.prog 97 #[.agg #[.bool e, .int .i64 a, .int .i64 p], .agg #[.int .i64 st, .int .i64 lf]] w fun r w' => r = .returned (.bool true) ∧ Below w.heap.size w w' := fun w => by have := rFits_any e a p st lf w; rw [q2] at this; exact this
  go_enter Tryz.func65, Tryz.ntmps65
  go_wp2_with fail
  refine (c1 _).mono ?_
  rintro _ w1 ⟨rfl, b1⟩
  have HB1 : Hid (Below w.heap.size w w1) := below_then ((((Below.refl _ _).alloc (by first | omega | (simp; done) | (simp; omega)) _).alloc (by first | omega | (simp; done) | (simp; omega)) _).alloc (by first | omega | (simp; done) | (simp; omega)) _) b1
  have X1_0 : Hid (Box w1 w.heap.size #[.bool e, .int .i64 a, .int .i64 p]) := (((Box.new' _ #[.bool e, .int .i64 a, .int .i64 p] 45 w.heap.size (by simp)).alloc _).alloc _).below b1
  have X1_1 : Hid (Box w1 (w.heap.size + 1) #[.int .i64 st, .int .i64 lf]) := ((Box.new' _ #[.int .i64 st, .int .i64 lf] 89 (w.heap.size + 1) (by simp)).alloc _).below b1
  have X1_2 : Hid (Box w1 (w.heap.size + 1 + 1) #[.int .i64 0, .int .i64 0]) := (Box.new' _ #[.int .i64 0, .int .i64 0] 89 (w.heap.size + 1 + 1) (by simp)).below b1
  obtain ⟨l1_0, k1_0, f1_0⟩ := X1_0.out
  obtain ⟨l1_1, k1_1, f1_1⟩ := X1_1.out
  obtain ⟨l1_2, k1_2, f1_2⟩ := X1_2.out
  clear b1 c1
  go_wp2_with fail
  refine (c2 _).mono ?_
  rintro _ w2 ⟨rfl, b2⟩
  have HB2 : Hid (Below w.heap.size w w2) := below_then HB1.out b2
  have X2_0 : Hid (Box w2 w.heap.size #[.bool e, .int .i64 a, .int .i64 p]) := X1_0.out.below b2
  have X2_1 : Hid (Box w2 (w.heap.size + 1) #[.int .i64 st, .int .i64 lf]) := X1_1.out.below b2
  have X2_2 : Hid (Box w2 (w.heap.size + 1 + 1) #[.int .i64 0, .int .i64 0]) := X1_2.out.below b2
  clear k1_0 l1_0 f1_0 X1_0 k1_1 l1_1 f1_1 X1_1 k1_2 l1_2 f1_2 X1_2 HB1
  obtain ⟨l2_0, k2_0, f2_0⟩ := X2_0.out
  obtain ⟨l2_1, k2_1, f2_1⟩ := X2_1.out
  obtain ⟨l2_2, k2_2, f2_2⟩ := X2_2.out
  clear b2 c2
  go_wp2_with fail
  refine bodyPost_ret ?_ rfl ⟨.slice (some ⟨w2.heap.size, 0, none⟩) 1 1, rfl, ActRow.lit' _ _ [(6, nT)] w2.heap.size 1 _ (by simp) HB2.out.size rfl rfl (by simp) (by simp), ?_⟩
  · simp [results, Tryz.results65, go_sem, k2_2, l2_2]
  · exact (((HB2.out).setCell (by first | omega | (simp; done) | (simp; omega)) _).setCell (by first | omega | (simp; done) | (simp; omega)) _).alloc (by have := HB2.out.size; first | omega | (simp; done) | (simp; omega)) _
set_option maxRecDepth 100000 in
set_option maxHeartbeats 2000000 in
theorem rHeard_4 (e : Bool) (a p st lf : Int) (s : ByteArray) (number : Bool) (w : World) (q1 : okB e a p = true) (q2 : fitB e a p st lf = true) (h4 : ¬ 4 ≤ st) (q3 : sentB e a p s = false) : Calls Tryz.prog 65 #[.agg #[.bool e, .int .i64 a, .int .i64 p], .agg #[.int .i64 st, .int .i64 lf], .string s, .bool number] w (AnsQ ⟨st, lf, [(6, nT)], 0, 0⟩ w) := by
  have c1 : ∀ w, Calls Tryz.prog 48 #[.agg #[.bool e, .int .i64 a, .int .i64 p]] w fun r w' => r = .returned (.bool true) ∧ Below w.heap.size w w' := fun w => by have := rRight_any e a p w; rw [q1] at this; exact this
  have c2 : ∀ w, Calls Tryz.prog 97 #[.agg #[.bool e, .int .i64 a, .int .i64 p], .agg #[.int .i64 st, .int .i64 lf]] w fun r w' => r = .returned (.bool true) ∧ Below w.heap.size w w' := fun w => by have := rFits_any e a p st lf w; rw [q2] at this; exact this
  have c3 : ∀ w, Calls Tryz.prog 91 #[.agg #[.bool e, .int .i64 a, .int .i64 p], .string s] w fun r w' => r = .returned (.bool false) ∧ Below w.heap.size w w' := fun w => by have := rSent_any e a p s w; rw [q3] at this; exact this
  go_enter Tryz.func65, Tryz.ntmps65
  go_wp2_with fail
  refine (c1 _).mono ?_
  rintro _ w1 ⟨rfl, b1⟩
  have HB1 : Hid (Below w.heap.size w w1) := below_then ((((Below.refl _ _).alloc (by first | omega | (simp; done) | (simp; omega)) _).alloc (by first | omega | (simp; done) | (simp; omega)) _).alloc (by first | omega | (simp; done) | (simp; omega)) _) b1
  have X1_0 : Hid (Box w1 w.heap.size #[.bool e, .int .i64 a, .int .i64 p]) := (((Box.new' _ #[.bool e, .int .i64 a, .int .i64 p] 45 w.heap.size (by simp)).alloc _).alloc _).below b1
  have X1_1 : Hid (Box w1 (w.heap.size + 1) #[.int .i64 st, .int .i64 lf]) := ((Box.new' _ #[.int .i64 st, .int .i64 lf] 89 (w.heap.size + 1) (by simp)).alloc _).below b1
  have X1_2 : Hid (Box w1 (w.heap.size + 1 + 1) #[.int .i64 0, .int .i64 0]) := (Box.new' _ #[.int .i64 0, .int .i64 0] 89 (w.heap.size + 1 + 1) (by simp)).below b1
  obtain ⟨l1_0, k1_0, f1_0⟩ := X1_0.out
  obtain ⟨l1_1, k1_1, f1_1⟩ := X1_1.out
  obtain ⟨l1_2, k1_2, f1_2⟩ := X1_2.out
  clear b1 c1
  go_wp2_with fail
  refine (c2 _).mono ?_
  rintro _ w2 ⟨rfl, b2⟩
  have HB2 : Hid (Below w.heap.size w w2) := below_then HB1.out b2
  have X2_0 : Hid (Box w2 w.heap.size #[.bool e, .int .i64 a, .int .i64 p]) := X1_0.out.below b2
  have X2_1 : Hid (Box w2 (w.heap.size + 1) #[.int .i64 st, .int .i64 lf]) := X1_1.out.below b2
  have X2_2 : Hid (Box w2 (w.heap.size + 1 + 1) #[.int .i64 0, .int .i64 0]) := X1_2.out.below b2
  clear k1_0 l1_0 f1_0 X1_0 k1_1 l1_1 f1_1 X1_1 k1_2 l1_2 f1_2 X1_2 HB1
  obtain ⟨l2_0, k2_0, f2_0⟩ := X2_0.out
  obtain ⟨l2_1, k2_1, f2_1⟩ := X2_1.out
  obtain ⟨l2_2, k2_2, f2_2⟩ := X2_2.out
  clear b2 c2
  go_wp2_with fail
  refine (c3 _).mono ?_
  rintro _ w3 ⟨rfl, b3⟩
  have HB3 : Hid (Below w.heap.size w w3) := below_then HB2.out b3
  have X3_0 : Hid (Box w3 w.heap.size #[.bool e, .int .i64 a, .int .i64 p]) := X2_0.out.below b3
  have X3_1 : Hid (Box w3 (w.heap.size + 1) #[.int .i64 st, .int .i64 lf]) := X2_1.out.below b3
  have X3_2 : Hid (Box w3 (w.heap.size + 1 + 1) #[.int .i64 0, .int .i64 0]) := X2_2.out.below b3
  clear k2_0 l2_0 f2_0 X2_0 k2_1 l2_1 f2_1 X2_1 k2_2 l2_2 f2_2 X2_2 HB2
  obtain ⟨l3_0, k3_0, f3_0⟩ := X3_0.out
  obtain ⟨l3_1, k3_1, f3_1⟩ := X3_1.out
  obtain ⟨l3_2, k3_2, f3_2⟩ := X3_2.out
  clear b3 c3
  go_wp2_with fail
  refine bodyPost_ret ?_ rfl ⟨.slice (some ⟨w3.heap.size, 0, none⟩) 1 1, rfl, ActRow.lit' _ _ [(6, nT)] w3.heap.size 1 _ (by simp) HB3.out.size rfl rfl (by simp) (by simp), ?_⟩
  · simp [results, Tryz.results65, go_sem, k3_2, l3_2]
  · exact (((HB3.out).setCell (by first | omega | (simp; done) | (simp; omega)) _).setCell (by first | omega | (simp; done) | (simp; omega)) _).alloc (by have := HB3.out.size; first | omega | (simp; done) | (simp; omega)) _
set_option maxRecDepth 100000 in
set_option maxHeartbeats 2000000 in
theorem rHeard_5 (e : Bool) (a p st lf : Int) (s : ByteArray) (number : Bool) (w : World) (q1 : okB e a p = true) (q2 : fitB e a p st lf = true) (h4 : ¬ 4 ≤ st) (q3 : sentB e a p s = true) (g1 : (s.toList == [67, 65]) = true) (h1 : (st == 1) = false) : Calls Tryz.prog 65 #[.agg #[.bool e, .int .i64 a, .int .i64 p], .agg #[.int .i64 st, .int .i64 lf], .string s, .bool number] w (AnsQ ⟨st, lf, [], 0, 0⟩ w) := by
  have c1 : ∀ w, Calls Tryz.prog 48 #[.agg #[.bool e, .int .i64 a, .int .i64 p]] w fun r w' => r = .returned (.bool true) ∧ Below w.heap.size w w' := fun w => by have := rRight_any e a p w; rw [q1] at this; exact this
  have c2 : ∀ w, Calls Tryz.prog 97 #[.agg #[.bool e, .int .i64 a, .int .i64 p], .agg #[.int .i64 st, .int .i64 lf]] w fun r w' => r = .returned (.bool true) ∧ Below w.heap.size w w' := fun w => by have := rFits_any e a p st lf w; rw [q2] at this; exact this
  have c3 : ∀ w, Calls Tryz.prog 91 #[.agg #[.bool e, .int .i64 a, .int .i64 p], .string s] w fun r w' => r = .returned (.bool true) ∧ Below w.heap.size w w' := fun w => by have := rSent_any e a p s w; rw [q3] at this; exact this
  go_enter Tryz.func65, Tryz.ntmps65
  go_wp2_with fail
  refine (c1 _).mono ?_
  rintro _ w1 ⟨rfl, b1⟩
  have HB1 : Hid (Below w.heap.size w w1) := below_then ((((Below.refl _ _).alloc (by first | omega | (simp; done) | (simp; omega)) _).alloc (by first | omega | (simp; done) | (simp; omega)) _).alloc (by first | omega | (simp; done) | (simp; omega)) _) b1
  have X1_0 : Hid (Box w1 w.heap.size #[.bool e, .int .i64 a, .int .i64 p]) := (((Box.new' _ #[.bool e, .int .i64 a, .int .i64 p] 45 w.heap.size (by simp)).alloc _).alloc _).below b1
  have X1_1 : Hid (Box w1 (w.heap.size + 1) #[.int .i64 st, .int .i64 lf]) := ((Box.new' _ #[.int .i64 st, .int .i64 lf] 89 (w.heap.size + 1) (by simp)).alloc _).below b1
  have X1_2 : Hid (Box w1 (w.heap.size + 1 + 1) #[.int .i64 0, .int .i64 0]) := (Box.new' _ #[.int .i64 0, .int .i64 0] 89 (w.heap.size + 1 + 1) (by simp)).below b1
  obtain ⟨l1_0, k1_0, f1_0⟩ := X1_0.out
  obtain ⟨l1_1, k1_1, f1_1⟩ := X1_1.out
  obtain ⟨l1_2, k1_2, f1_2⟩ := X1_2.out
  clear b1 c1
  go_wp2_with fail
  refine (c2 _).mono ?_
  rintro _ w2 ⟨rfl, b2⟩
  have HB2 : Hid (Below w.heap.size w w2) := below_then HB1.out b2
  have X2_0 : Hid (Box w2 w.heap.size #[.bool e, .int .i64 a, .int .i64 p]) := X1_0.out.below b2
  have X2_1 : Hid (Box w2 (w.heap.size + 1) #[.int .i64 st, .int .i64 lf]) := X1_1.out.below b2
  have X2_2 : Hid (Box w2 (w.heap.size + 1 + 1) #[.int .i64 0, .int .i64 0]) := X1_2.out.below b2
  clear k1_0 l1_0 f1_0 X1_0 k1_1 l1_1 f1_1 X1_1 k1_2 l1_2 f1_2 X1_2 HB1
  obtain ⟨l2_0, k2_0, f2_0⟩ := X2_0.out
  obtain ⟨l2_1, k2_1, f2_1⟩ := X2_1.out
  obtain ⟨l2_2, k2_2, f2_2⟩ := X2_2.out
  clear b2 c2
  go_wp2_with fail
  refine (c3 _).mono ?_
  rintro _ w3 ⟨rfl, b3⟩
  have HB3 : Hid (Below w.heap.size w w3) := below_then HB2.out b3
  have X3_0 : Hid (Box w3 w.heap.size #[.bool e, .int .i64 a, .int .i64 p]) := X2_0.out.below b3
  have X3_1 : Hid (Box w3 (w.heap.size + 1) #[.int .i64 st, .int .i64 lf]) := X2_1.out.below b3
  have X3_2 : Hid (Box w3 (w.heap.size + 1 + 1) #[.int .i64 0, .int .i64 0]) := X2_2.out.below b3
  clear k2_0 l2_0 f2_0 X2_0 k2_1 l2_1 f2_1 X2_1 k2_2 l2_2 f2_2 X2_2 HB2
  obtain ⟨l3_0, k3_0, f3_0⟩ := X3_0.out
  obtain ⟨l3_1, k3_1, f3_1⟩ := X3_1.out
  obtain ⟨l3_2, k3_2, f3_2⟩ := X3_2.out
  clear b3 c3
  go_wp2_with fail
  refine bodyPost_ret ?_ rfl ⟨.slice none 0 0, rfl, ActRow.nil _ _, ?_⟩
  · simp [results, Tryz.results65, go_sem, k3_2]
  · exact ((HB3.out).setCell (by first | omega | (simp; done) | (simp; omega)) _).setCell (by first | omega | (simp; done) | (simp; omega)) _
end Go.Proofs.YtoijhecphgdfnaaGreatDoor
