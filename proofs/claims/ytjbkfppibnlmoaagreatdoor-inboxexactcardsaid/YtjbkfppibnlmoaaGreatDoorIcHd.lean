import Derived.Test.YtjbkfppibnlmoaaGreatDoorIcDec
import Derived.Test.YtjbkfppibnlmoaaGreatDoorIbHand
import Derived.Test.YtjbkfppibnlmoaaGreatDoorIbOpen
/-
  Both boxes: the calls that only tell.
-/
namespace Go.Proofs.YtjbkfppibnlmoaaGreatDoor
open Go.RowKit

/-- What Find tells. -/
def fdE (s : ByteArray) (A : List Ent) : Ent := match fi s A with | some i => A.getD i zE | none => zE
theorem EnQ.tw {w w' : World} {x y : Ent} {t : Bool} {r : Ending} (h : Tw x y) (hq : EnQ w x t r w') : EnQ w y t r w' := by
  obtain ⟨a, c, a', c', a'', c'', rfl⟩ := h
  obtain ⟨p, d, p', d', p'', d'', h1, h2, h3⟩ := hq
  exact ⟨p, d, p', d', p'', d'', h1, h2, h3⟩
theorem Tws.las {es A : List Ent} (h : Tws es A) : Tw (lasE es) (lasE A) := by
  rcases Nat.eq_zero_or_pos es.length with h0 | h0
  · have h1 : es = [] := List.eq_nil_of_length_eq_zero h0
    have h2 : A = [] := List.eq_nil_of_length_eq_zero (by rw [← h.1]; exact h0)
    rw [h1, h2]
    exact Tw.refl _
  · obtain ⟨n, hn⟩ : ∃ n, es.length = n + 1 := ⟨es.length - 1, by omega⟩
    exact h.2 n _ _ (lasE_at hn) (lasE_at (by rw [← h.1]; exact hn))
theorem Tws.gt {es A : List Ent} (h : Tws es A) (i : Nat) : Tw (es.getD i zE) (A.getD i zE) := by
  rw [List.getD_eq_getElem?_getD, List.getD_eq_getElem?_getD]
  rcases Nat.lt_or_ge i es.length with hi | hi
  · have h1 := List.getElem?_eq_getElem hi
    have h2 := List.getElem?_eq_getElem (show i < A.length by rw [← h.1]; exact hi)
    rw [h1, h2]
    exact h.2 i _ _ h1 h2
  · rw [List.getElem?_eq_none hi, List.getElem?_eq_none (by rw [← h.1]; exact hi)]
    exact Tw.refl _
theorem Tws.ops {es A : List Ent} (h : Tws es A) : opS es = opS A := by
  have key : ∀ l : List Ent, opS (l.map Ent.nf) = opS l := fun l => by
    unfold opS
    induction l with
    | nil => rfl
    | cons x r ih =>
      rw [List.map_cons, List.filter_cons, List.filter_cons]
      have : opB x.nf = opB x := rfl
      rw [this]
      split
      · rw [List.map_cons, List.map_cons, ih]; rfl
      · exact ih
  rw [← key, ← key A, h.nf]
/-- A list of copies. -/
def LtQ (w : World) (A : List Ent) (r : Ending) (w' : World) : Prop := ∃ ls a c, r = .returned (.slice a A.length c) ∧ NRow w' w.heap.size (.slice a A.length c) ls ∧ (∀ l ∈ ls, Own w' w.heap.size l) ∧ Tws ls A ∧ Below w.heap.size w w'
section
variable {W w w' : World} {X K n C D E : Nat} {bv mk ke rm L : Value} {o : Option (Int × Int)} {A A' : List Ent}
theorem LS.bnd (h : LS W X K bv mk ke rm L C D E o A A' n w) : A.length ≤ 97 ∧ A'.length ≤ 97 ∧ (∀ e ∈ A, mayB e = true) := by
  rcases o with _ | ⟨K0, R⟩
  · obtain ⟨_, _, _, _, _, rfl, rfl⟩ := h.sd
    exact ⟨by decide, by decide, fun e he => by cases he⟩
  · obtain ⟨rfl, rfl, rfl, b, sb, M, v, es, es', hbv, hs⟩ := h.sd
    refine ⟨by rw [← hs.t.1]; exact hs.bx.inv.len, by rw [← hs.t'.1]; exact hs.inv.len, fun e he => ?_⟩
    obtain ⟨i, hi, rfl⟩ := List.getElem_of_mem he
    have hj : i < es.length := by rw [hs.t.1]; exact hi
    obtain ⟨a, c, a', c', a'', c'', e1⟩ := hs.t.2 i _ _ (List.getElem?_eq_getElem hj) (List.getElem?_eq_getElem hi)
    have := hs.bx.sh.ok es[i] (List.getElem_mem hj)
    rw [e1]
    exact this
theorem zE_bnd : zE.tn ≤ 8192 ∧ zE.cn ≤ 2048 ∧ zE.an ≤ 2048 := by decide
theorem may_bnd {e : Ent} (h : mayB e = true) : e.tn ≤ 8192 ∧ e.cn ≤ 2048 ∧ e.an ≤ 2048 := by have := mayB_is h; exact ⟨this.2.2.1, this.2.2.2.2.2.2.2.1, this.2.2.2.2.2.2.2.2⟩
theorem get_bnd {A : List Ent} (h : ∀ e ∈ A, mayB e = true) (i : Nat) : (A.getD i zE).tn ≤ 8192 ∧ (A.getD i zE).cn ≤ 2048 ∧ (A.getD i zE).an ≤ 2048 := by
  rw [List.getD_eq_getElem?_getD]
  cases hi : A[i]? with
  | none => exact zE_bnd
  | some x => exact may_bnd (h x (List.mem_of_getElem? hi))
theorem fd_bnd {A : List Ent} (h : ∀ e ∈ A, mayB e = true) (s : ByteArray) : (fdE s A).tn ≤ 8192 ∧ (fdE s A).cn ≤ 2048 ∧ (fdE s A).an ≤ 2048 := by
  unfold fdE
  cases fi s A with
  | none => exact zE_bnd
  | some i => exact get_bnd h i
theorem las_bnd {A : List Ent} (h : ∀ e ∈ A, mayB e = true) : (lasE A).tn ≤ 8192 ∧ (lasE A).cn ≤ 2048 ∧ (lasE A).an ≤ 2048 := by
  unfold lasE
  cases hi : A.getLast? with
  | none => exact zE_bnd
  | some x => exact may_bnd (h x (List.mem_of_getLast? hi))
theorem u_open (h : LS W X K bv mk ke rm L C D E o A A' n w) : Calls Tryz.prog 29 #[bv] w fun r w' => ∃ a c, r = .returned (.slice a (opS A).length c) ∧ TRow w' w.heap.size (.slice a (opS A).length c) (opS A) ∧ Below w.heap.size w w' := by
  rcases o with _ | ⟨K0, R⟩
  · obtain ⟨rfl, _, _, _, _, rfl, _⟩ := h.sd
    refine (open_un (Or.inl rfl)).mono fun r w' ⟨hr, hw⟩ => ⟨none, 0, hr, ERow.nil _ _ _ _ _, by rw [hw]; exact Below.refl _ _⟩
  · obtain ⟨rfl, rfl, rfl, b, sb, M, v, es, es', hbv, hs⟩ := h.sd
    rw [hbv]
    refine (open_any hs.bx).mono fun r w' ⟨u, hr, ht, hb⟩ => ?_
    rw [hs.t.ops] at ht
    obtain ⟨a, c, e, _⟩ := ERow.isSlice ht
    subst e
    exact ⟨a, c, hr, ht, hb⟩
theorem r_open (h : LS W X K bv mk ke rm L C D E o A A' n w) : Calls Tryz.prog 20 #[.pointer (some ⟨X, 1, none⟩)] w fun r w' => ∃ a c, r = .returned (.slice a (opS A').length c) ∧ TRow w' w.heap.size (.slice a (opS A').length c) (opS A') ∧ Below w.heap.size w w' := by
  rcases o with _ | ⟨K0, R⟩
  · obtain ⟨_, _, _, _, rfl, _, rfl⟩ := h.sd
    refine (ropen0 h.cells.2.2.1).mono fun r w' ⟨hr, hw⟩ => ⟨none, 0, hr, ERow.nil _ _ _ _ _, by rw [hw]; exact Below.refl _ _⟩
  · obtain ⟨rfl, rfl, rfl, b, sb, M, v, es, es', hbv, hs⟩ := h.sd
    obtain ⟨v0, v1, v4, v5, v6, v7, x0, x1, x4, x5, x6, x7, hX, _⟩ := h.ex
    refine (ropens_any (hs.rbx hX) (by have := hs.inv.len; omega)).mono fun r w' ⟨u, hr, ht, hb⟩ => ?_
    rw [hs.t'.ops] at ht
    obtain ⟨a, c, e, _⟩ := ERow.isSlice ht
    subst e
    exact ⟨a, c, hr, ht, hb⟩
theorem u_last (h : LS W X K bv mk ke rm L C D E o A A' n w) : Calls Tryz.prog 26 #[bv] w (EnQ w (lasE A) (decide (0 < A.length))) := by
  rcases o with _ | ⟨K0, R⟩
  · obtain ⟨rfl, _, _, _, _, rfl, _⟩ := h.sd
    exact last_un (Or.inl rfl)
  · obtain ⟨rfl, rfl, rfl, b, sb, M, v, es, es', hbv, hs⟩ := h.sd
    rw [hbv]
    exact (blast_any hs.bx rfl (t := decide (0 < A.length)) (by rw [hs.t.1])).mono fun r w' hq => EnQ.tw hs.t.las hq
/-- The document's own list. -/
theorem LS.docrow (h : LS W X K bv mk ke rm L C D E o A A n w) : ∃ a c ls, L = .slice a A.length c ∧ NRow w W.heap.size (.slice a A.length c) ls ∧ (∀ l ∈ ls, Own w W.heap.size l) ∧ Tws ls A ∧ ∀ l ∈ ls, l.tn ≤ 8192 ∧ l.cn ≤ 2048 ∧ l.an ≤ 2048 := by
  rcases o with _ | ⟨K0, R⟩
  · obtain ⟨_, _, _, _, rfl, rfl, _⟩ := h.sd
    exact ⟨none, 0, [], rfl, ERow.nil _ _ _ _ _, fun l hl => (by cases hl), Tws.refl _, fun l hl => (by cases hl)⟩
  · have hbn := h.bnd.2.2
    obtain ⟨rfl, rfl, rfl, b, sb, M, v, es, es', hbv, hs⟩ := h.sd
    have hr := hs.row
    obtain ⟨a, c, e, _⟩ := ERow.isSlice hr
    rw [e, hs.t'.1] at hr
    refine ⟨a, c, es', by rw [e, hs.t'.1], hr, hs.own, hs.t', fun l hl => ?_⟩
    obtain ⟨i, hi, rfl⟩ := List.getElem_of_mem hl
    have hj : i < A.length := by rw [← hs.t'.1]; exact hi
    have h1 := may_bnd (hbn A[i] (List.getElem_mem hj))
    obtain ⟨a, c, a', c', a'', c'', e1⟩ := hs.t'.2 i _ _ (List.getElem?_eq_getElem hi) (List.getElem?_eq_getElem hj)
    rw [e1] at h1
    exact h1
theorem r_last (h : LS W X K bv mk ke rm L C D E o A A n w) : Calls Tryz.prog 22 #[.pointer (some ⟨X, 1, none⟩)] w (EnQ w (lasE A) (decide (0 < A.length))) := by
  have hE : ∀ z z', Below z.heap.size z z' → EnQ z zE false (.returned (.tuple #[.agg #[.string ⟨#[]⟩, .slice none 0 0, .int .i64 0, .int .i64 0, .slice none 0 0, .string ⟨#[]⟩, .slice none 0 0], .bool false])) z' := fun z z' hb => ⟨none, 0, none, 0, none, 0, rfl, zE_own _ _, hb⟩
  obtain ⟨a0, c0, ls0, eL, hrow, hown, htw, hbn⟩ := h.docrow
  rcases Nat.eq_zero_or_pos A.length with h0 | h0
  · have h2 : A = [] := List.eq_nil_of_length_eq_zero h0
    have cL := h.cells.2.2.1
    rw [eL, h0] at cL
    rw [h2]
    refine (rlastN cL).mono fun r w' ⟨hr, hb⟩ => by rw [hr]; exact hE _ _ hb
  · rcases o with _ | ⟨K0, R⟩
    · obtain ⟨_, _, _, _, _, rfl, _⟩ := h.sd
      exact absurd h0 (by decide)
    · obtain ⟨rfl, rfl, rfl, b, sb, M, v, es, es', hbv, hs⟩ := h.sd
      obtain ⟨v0, v1, v4, v5, v6, v7, x0, x1, x4, x5, x6, x7, hX, _⟩ := h.ex
      obtain ⟨k, hk⟩ : ∃ k, es'.length = k + 1 := ⟨es'.length - 1, by have := hs.t'.1; omega⟩
      have hl := lasE_at hk
      obtain ⟨q1, q2, q3⟩ : (lasE es').tn ≤ 8192 ∧ (lasE es').cn ≤ 2048 ∧ (lasE es').an ≤ 2048 := by
        obtain ⟨a, c, a', c', a'', c'', e1⟩ := hs.t'.las
        have h1 := las_bnd h.bnd.2.2
        rw [e1] at h1
        exact h1
      rw [show decide (0 < A.length) = true from decide_eq_true h0]
      exact (rlast_yes (hs.rbx hX) hk hl (by have := hs.inv.len; omega) ⟨by omega, by omega, by omega⟩).mono fun r w' hq => EnQ.tw hs.t'.las hq
theorem u_find (h : LS W X K bv mk ke rm L C D E o A A' n w) {s : ByteArray} (hk : KeyS s) : Calls Tryz.prog 58 #[bv, .string s] w (EnQ w (fdE s A) (fi s A).isSome) := by
  rcases o with _ | ⟨K0, R⟩
  · obtain ⟨rfl, _, _, _, _, rfl, _⟩ := h.sd
    exact find_un (Or.inl rfl) s
  · obtain ⟨rfl, rfl, rfl, b, sb, M, v, es, es', hbv, hs⟩ := h.sd
    rw [hbv]
    unfold fdE
    rw [← hs.t.fi_eq]
    cases hf : fi s es with
    | none => exact find_no hs.bx hk hf
    | some i =>
      obtain ⟨x, hx, _, _⟩ := fi_some hf
      have hg := hs.t.gt i
      rw [List.getD_eq_getElem?_getD, hx] at hg
      exact (find_yes hs.bx hk hf hx).mono fun r w' hq => EnQ.tw hg hq
theorem r_find (h : LS W X K bv mk ke rm L C D E o A A n w) (s : ByteArray) : Calls Tryz.prog 59 #[.pointer (some ⟨X, 1, none⟩), .string s] w (EnQ w (fdE s A) (fi s A).isSome) := by
  have hbn := h.bnd.2.2
  rcases o with _ | ⟨K0, R⟩
  · obtain ⟨_, _, _, _, rfl, rfl, _⟩ := h.sd
    exact rfind0 h.cells.2.2.1 s
  · obtain ⟨rfl, rfl, rfl, b, sb, M, v, es, es', hbv, hs⟩ := h.sd
    obtain ⟨v0, v1, v4, v5, v6, v7, x0, x1, x4, x5, x6, x7, hX, _⟩ := h.ex
    unfold fdE
    rw [← hs.t'.fi_eq]
    cases hf : fi s es' with
    | none => exact rfind_no (hs.rbx hX) s hf
    | some i =>
      obtain ⟨x, hx, _, _⟩ := fi_some hf
      have hg := hs.t'.gt i
      rw [List.getD_eq_getElem?_getD, hx] at hg
      obtain ⟨q1, q2, q3⟩ : x.tn ≤ 8192 ∧ x.cn ≤ 2048 ∧ x.an ≤ 2048 := by
        obtain ⟨a, c, a', c', a'', c'', e1⟩ := hg
        have h1 := get_bnd hbn i
        rw [e1] at h1
        exact h1
      exact (rfind_yes (hs.rbx hX) s hf hx ⟨by omega, by omega, by omega⟩).mono fun r w' hq => EnQ.tw hg hq
theorem u_list (h : LS W X K bv mk ke rm L C D E o A A' n w) : Calls Tryz.prog 32 #[bv] w (LtQ w A) := by
  rcases o with _ | ⟨K0, R⟩
  · obtain ⟨rfl, _, _, _, _, rfl, _⟩ := h.sd
    exact (list_un (Or.inl rfl)).mono fun r w' ⟨hr, hw⟩ => ⟨[], none, 0, hr, ERow.nil _ _ _ _ _, fun l hl => (by cases hl), Tws.refl _, by rw [hw]; exact Below.refl _ _⟩
  · obtain ⟨rfl, rfl, rfl, b, sb, M, v, es, es', hbv, hs⟩ := h.sd
    rw [hbv]
    refine (list_any hs.bx).mono fun r w' ⟨ls, a, c, hr, h1, h2, h3⟩ => ?_
    rw [hs.t.1] at hr h1
    refine ⟨ls, a, c, hr, h1, fun l hl => ?_, h2.tws.trans hs.t, h3⟩
    obtain ⟨i, hi, rfl⟩ := List.getElem_of_mem hl
    exact (h2.2 i _ _ (List.getElem?_eq_getElem hi) (List.getElem?_eq_getElem (by rw [← h2.1]; exact hi))).2
theorem u_count (h : LS W X K bv mk ke rm L C D E o A A' n w) : Calls Tryz.prog 35 #[bv] w fun r w' => r = .returned (.tuple #[.int .i64 (A.length : Int), .int .i64 (nOp A : Int)]) ∧ Below w.heap.size w w' := by
  rcases o with _ | ⟨K0, R⟩
  · obtain ⟨rfl, _, _, _, _, rfl, _⟩ := h.sd
    exact (count_un (Or.inl rfl)).mono fun r w' ⟨hr, hw⟩ => ⟨hr, by rw [hw]; exact Below.refl _ _⟩
  · obtain ⟨rfl, rfl, rfl, b, sb, M, v, es, es', hbv, hs⟩ := h.sd
    rw [hbv, ← hs.t.1, ← hs.t.op_eq]
    exact (count_any hs.bx).mono fun r w' ⟨hr, m, hw⟩ => ⟨hr, by rw [hw]; exact below_drewN (Below.refl _ _) _⟩
theorem r_count (h : LS W X K bv mk ke rm L C D E o A A' n w) : Calls Tryz.prog 36 #[.pointer (some ⟨X, 1, none⟩)] w fun r w' => r = .returned (.tuple #[.int .i64 (A'.length : Int), .int .i64 (nOp A' : Int)]) ∧ Below w.heap.size w w' := by
  rcases o with _ | ⟨K0, R⟩
  · obtain ⟨_, _, _, _, rfl, _, rfl⟩ := h.sd
    exact (rcount0 h.cells.2.2.1).mono fun r w' ⟨hr, hw⟩ => ⟨hr, hw.out⟩
  · obtain ⟨rfl, rfl, rfl, b, sb, M, v, es, es', hbv, hs⟩ := h.sd
    obtain ⟨v0, v1, v4, v5, v6, v7, x0, x1, x4, x5, x6, x7, hX, _⟩ := h.ex
    rw [← hs.t'.1, ← hs.t'.op_eq]
    exact rcount_any (hs.rbx hX) (by have := hs.inv.len; omega)
end
end Go.Proofs.YtjbkfppibnlmoaaGreatDoor

/-
  What is handed in, with its marks; kept; turned.
-/
namespace Go.Proofs.YtjbkfppibnlmoaaGreatDoor
open Go.RowKit

theorem marked_at {bs : List Int} {m j : Nat} (hm : bs.length = m) (hj : j < 90) : (bs ++ marks).getD (m + j) 0 = 100 + (j : Int) := by
  rw [List.getD_eq_getElem?_getD, List.getElem?_append_right (by omega), hm, Nat.add_sub_cancel_left, ← List.getD_eq_getElem?_getD, marks_at j hj]
/-- A list that was handed in: its block, its length, its bytes. -/
def Mkd (w : World) (B g n : Nat) (bs : List Int) : Prop := BRow w B (.slice (some ⟨g, 0, none⟩) (n + 90) (n + 90)) (bs ++ marks) ∧ bs.length = n
theorem Mkd.byts {w : World} {B g n : Nat} {bs : List Int} (h : Mkd w B g n bs) : Byts w (some ⟨g, 0, none⟩) n bs := by
  have hp := (BRow.prefix (m := n) h.1 (by omega)).byts
  rw [List.take_left' h.2] at hp
  exact hp
theorem Mkd.below {w w' : World} {B g n : Nat} {bs : List Int} (h : Mkd w B g n bs) (hb : Below w.heap.size w w') : Mkd w' B g n bs := ⟨ERow.below h.1 hb, h.2⟩
theorem Mkd.keep {w w' : World} {B g n : Nat} {bs : List Int} (h : Mkd w B g n bs) (hk : w'.heap[g]? = w.heap[g]?) : Mkd w' B g n bs := ⟨ERow.keep h.1 fun q hq => by
  simp only [Value.ownBlock, Option.some.injEq] at hq
  exact hq ▸ hk, h.2⟩
theorem Mkd.lt {w : World} {B g n : Nat} {bs : List Int} (h : Mkd w B g n bs) : B ≤ g ∧ g < w.heap.size := ERow.lt h.1 (g := g) rfl
section
variable {w w' : World}
set_option maxRecDepth 100000 in
set_option maxHeartbeats 2000000 in
theorem Kept_true {po : Option Addr} {B g m c : Nat} {bs : List Int} (w : World) (hR : Mkd w B g m bs) (hb : Byts w po m bs) (hm : m + 90 ≤ 140737488355328) : Calls Tryz.prog 52 #[.slice (some ⟨g, 0, none⟩) m (m + 90), .slice po m c] w fun e w' => e = .returned (.bool true) ∧ ∃ k, w' = w.drewN k := by
  have HR : Hid (Mkd w B g m bs) := hR
  have HB : Hid (Byts w po m bs) := hb
  have HL : Hid (bs.length = m) := hR.2
  clear hR hb
  go_enter Tryz.func52, Tryz.ntmps52
  go_wp2_with fail
  go_loopw [6] (fun ti wx => ∃ j : Nat, j ≤ 90 ∧ ti = .int .i64 j ∧ ∃ k, wx = w.drewN k) (fun ti _ => 90 - (intOf ti).toNat)
  case atStart => exact ⟨0, by omega, rfl, 0, rfl⟩
  case round =>
    obtain ⟨j, hj, rfl, k, rfl⟩ := hrel
    by_cases hlt : j < 90
    · have hlt1 : (j : Int) < 90 := by omega
      have k1 : w.cell? ⟨g, m + j, none⟩ = some (.int .u8 (100 + (j : Int))) := by
        have h := BRow.slot HR.out.1 (j := m + j) (by simp [marks]; have := HL.out; omega)
        rw [marked_at HL.out hlt] at h
        exact h
      go_wp2_with fail
      go_roundw
      case rel => exact ⟨j + 1, hlt, by go_num, _, by first | rfl | exact World.drewN_drew _ _⟩
      case measure => simp [intOf]; omega
    · have hlt1 : ¬ (j : Int) < 90 := by omega
      go_wp2_with fail
      refine (memSame_true (HR.out.byts.below (below_drewN (Below.refl _ _) k)) (HB.out.below (below_drewN (Below.refl _ _) k)) (by omega)).mono ?_
      rintro e w1 ⟨rfl, k2, rfl⟩
      go_wp2_with fail
      go_ret
      exact ⟨rfl, k + k2, by simp⟩
set_option maxRecDepth 100000 in
set_option maxHeartbeats 2000000 in
theorem turn_any {B g n c : Nat} {xs : List Int} (h : BRow w B (.slice (some ⟨g, 0, none⟩) n c) xs) : Calls Tryz.prog 53 #[.slice (some ⟨g, 0, none⟩) n c] w fun e w' => e = .returned (.tuple #[]) ∧ Hid (Off (fun q => q = g) w w') := by
  have HI0 : Hid (∃ ys, ys.length = n ∧ BRow w B (.slice (some ⟨g, 0, none⟩) n c) ys ∧ Off (fun q => q = g) w w) := ⟨xs, (ERow.len h).symm, h, Off.refl _ _⟩
  have hn : n ≤ 9223372036854775807 := by
    rcases ERow.form h with ⟨e1, _⟩ | ⟨g1, cap, e1, _, _, h3, h4⟩
    · simp at e1
    · have := ERow.len h
      unfold maxLen at h4
      omega
  clear h
  go_enter Tryz.func53, Tryz.ntmps53
  go_wp2_with fail
  go_loopw [2] (fun ti wx => ∃ i : Nat, i ≤ n ∧ ti = .int .i64 i ∧ Hid (∃ ys, ys.length = n ∧ BRow wx B (.slice (some ⟨g, 0, none⟩) n c) ys ∧ Off (fun q => q = g) w wx)) (fun ti _ => n - (intOf ti).toNat)
  case atStart => exact ⟨0, Nat.zero_le _, rfl, HI0⟩
  case round =>
    obtain ⟨i, hi, rfl, HI⟩ := hrel
    obtain ⟨ys, hyl, hyr, hyo⟩ := HI.out
    by_cases hlt : i < n
    · have hlt1 : (i : Int) < n := by omega
      have k1 : wr.cell? ⟨g, i, none⟩ = some (.int .u8 (ys.getD i 0)) := hyr.slot (by omega)
      have k2 := hyr.thaw i
      have HJ : Hid (∀ z : Int, ∃ ys, ys.length = n ∧ BRow (wr.setCell ⟨g, i, none⟩ (.int .u8 z)) B (.slice (some ⟨g, 0, none⟩) n c) ys ∧ Off (fun q => q = g) w (wr.setCell ⟨g, i, none⟩ (.int .u8 z))) := fun z => ⟨ys.set i z, by rw [List.length_set]; exact hyl, hyr.stored i _ (by omega), Off.setCell (P := fun q => q = g) hyo (p := ⟨g, i, none⟩) rfl _⟩
      clear hyl hyr hyo HI
      go_wp2_with fail
      go_roundw
      case rel => exact ⟨i + 1, hlt, by go_num, HJ.out _⟩
      case measure => simp [intOf]; omega
    · have hlt1 : ¬ (i : Int) < n := by omega
      have HZ : Hid (Off (fun q => q = g) w wr) := hyo
      clear hyl hyr hyo HI
      go_wp2_with fail
      go_end0
      exact ⟨rfl, HZ⟩
end
end Go.Proofs.YtjbkfppibnlmoaaGreatDoor
