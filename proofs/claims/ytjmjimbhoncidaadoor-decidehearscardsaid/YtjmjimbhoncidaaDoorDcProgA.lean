/-
  The program's calls answer as the document does.
-/
import Derived.Test.YtjmjimbhoncidaaDoorDcPp
import Derived.Test.YtjmjimbhoncidaaDoorDcPm
namespace Go.Proofs.YtjmjimbhoncidaaDoor
open Go.RowKit

theorem err_no {e : Bool} {a p : Int} (ok : okB e a p = false) : errN e a p = 220 := by unfold errN; rw [ok]; rfl
theorem err_ok {e : Bool} {a p : Int} (ok : okB e a p = true) : errN e a p = 0 := by unfold errN; rw [ok]; rfl
theorem wB_text (x : Nat) (hx : x < 4) : wB x = textB true x := by
  rcases (by omega : x = 0 ∨ x = 1 ∨ x = 2 ∨ x = 3) with rfl | rfl | rfl | rfl <;> rfl
theorem word_empty {s : ByteArray} (h : s.toList.isEmpty = true) : wordK s = true := by unfold wordK; rw [h]; rfl
theorem mode_ok (s t : ByteArray) (w : World) (hV : PVw w) : Calls Tryd.prog 12 #[.string s, .string t] w (PModeQ (modeS s t) w) := by
  unfold modeS
  cases h1 : wordK s with
  | false =>
    rw [if_pos rfl]
    have he : s.toList.isEmpty = false := by
      cases h : s.toList.isEmpty
      · rfl
      · rw [word_empty h] at h1; cases h1
    exact (Mode_1a s t w hV he h1).mono fun _ _ ⟨z, g1, g2, g3⟩ => ⟨_, g1, ev_no g2 (by decide), g3⟩
  | true =>
    rw [if_neg (by simp)]
    cases h2 : wordK t with
    | false =>
      rw [if_pos rfl]
      have ht : t.toList.isEmpty = false := by
        cases h : t.toList.isEmpty
        · rfl
        · rw [word_empty h] at h2; cases h2
      cases he : s.toList.isEmpty with
      | false => exact (Mode_2a s t w hV he h1 h2).mono fun _ _ ⟨z, g1, g2, g3⟩ => ⟨_, g1, ev_no g2 (by decide), g3⟩
      | true => exact (Mode_2b s t w hV he ht h1 h2).mono fun _ _ ⟨z, g1, g2, g3⟩ => ⟨_, g1, ev_no g2 (by decide), g3⟩
    | true =>
      rw [if_neg (by simp)]
      cases he : s.toList.isEmpty with
      | false =>
        rw [if_neg (by simp)]
        exact (Mode_3a s t w hV he h1 h2).mono fun _ _ ⟨g1, g3⟩ => ⟨_, g1, ev_ok _ _, g3⟩
      | true =>
        cases ht : t.toList.isEmpty with
        | false =>
          rw [if_neg (by simp)]
          exact (Mode_3b s t w hV he ht h1 h2).mono fun _ _ ⟨g1, g3⟩ => ⟨_, g1, ev_ok _ _, g3⟩
        | true =>
          rw [if_pos (by simp)]
          exact (Mode_0 s t w he ht).mono fun _ _ ⟨g1, g3⟩ => ⟨_, g1, ev_ok _ _, g3⟩
theorem texts_ok (e : Bool) (a p : Int) (w : World) (hV : PVw w) : Calls Tryd.prog 14 #[.agg #[.bool e, .int .i64 a, .int .i64 p]] w fun r w' => ∃ ev, r = .returned (.tuple #[.string (if okB e a p = true then textB e a else ⟨#[]⟩), .string (if okB e a p = true then textB e p else ⟨#[]⟩), ev]) ∧ Ev w' ev 0 (errN e a p) ∧ Below w.heap.size w w' := by
  cases ok : okB e a p with
  | false =>
    rw [err_no ok]
    exact (Texts_no e a p w ok).mono fun _ _ ⟨z, g1, g2, g3⟩ => ⟨_, by rw [g1]; rfl, ev_no g2 (by decide), g3⟩
  | true =>
    rw [err_ok ok]
    cases e with
    | false => exact (Texts_f a p w ok).mono fun _ _ ⟨g1, g3⟩ => ⟨_, by rw [g1]; rfl, ev_ok _ _, g3⟩
    | true =>
      obtain ⟨q1, q2, q3, q4, _⟩ := ok_of ok
      obtain ⟨x, rfl⟩ := Int.eq_ofNat_of_zero_le q1
      obtain ⟨y, rfl⟩ := Int.eq_ofNat_of_zero_le q3
      exact (Texts_t x y w hV (by omega) (by omega) ok).mono fun _ _ ⟨g1, g3⟩ => ⟨_, by rw [g1, wB_text x (by omega), wB_text y (by omega)]; rfl, ev_ok _ _, g3⟩
theorem decW : DecW := ⟨mode_ok, texts_ok⟩
theorem may_ok (e : Bool) (a p : Int) (s : ByteArray) (w : World) (hV : PVc w) : Calls Tryd.prog 21 #[.agg #[.bool e, .int .i64 a, .int .i64 p], .string s] w fun r w' => ∃ ev, r = .returned (.tuple #[.bool (okB e a p && sentB e a p s), ev]) ∧ Ev w' ev 0 (errN e a p) ∧ Below w.heap.size w w' := by
  cases ok : okB e a p with
  | false => rw [err_no ok]; exact (May_no e a p s w ok).mono fun _ _ ⟨z, g1, g2, g3⟩ => ⟨_, g1, ev_no g2 (by decide), g3⟩
  | true => rw [err_ok ok]; exact (May_ok e a p s w hV ok).mono fun _ _ ⟨g1, g3⟩ => ⟨_, g1, ev_ok _ _, g3⟩
theorem refuse_all (e : Bool) (a p : Int) (h : Bool) (w : World) (hV : PVc w) : Calls Tryd.prog 17 #[.agg #[.bool e, .int .i64 a, .int .i64 p], .bool h] w fun r w' => ∃ ev, r = .returned (.tuple #[.string (if okB e a p = true then refC e h else ⟨#[]⟩), .bool (okB e a p && sentB e a p (refC e h)), ev]) ∧ Ev w' ev 0 (errN e a p) ∧ Below w.heap.size w w' := by
  cases ok : okB e a p with
  | false => rw [err_no ok]; exact (Refuse_no e a p h w ok).mono fun _ _ ⟨z, g1, g2, g3⟩ => ⟨_, by rw [g1]; rfl, ev_no g2 (by decide), g3⟩
  | true => rw [err_ok ok]; exact (Refuse_ok e a p h w hV ok).mono fun _ _ ⟨g1, g3⟩ => ⟨_, by rw [g1]; rfl, ev_ok _ _, g3⟩
theorem owes_ok (e : Bool) (a p : Int) (w : World) (hV : PVc w) : Calls Tryd.prog 19 #[.agg #[.bool e, .int .i64 a, .int .i64 p]] w fun r w' => ∃ ev, r = .returned (.tuple #[.bool (okB e a p && caB e a), .bool (okB e a p && aaB e p), .bool (okB e a p && earB e a p (caB e a)), ev]) ∧ Ev w' ev 0 (errN e a p) ∧ Below w.heap.size w w' := by
  cases ok : okB e a p with
  | false => rw [err_no ok]; exact (Owes_no e a p w ok).mono fun _ _ ⟨z, g1, g2, g3⟩ => ⟨_, g1, ev_no g2 (by decide), g3⟩
  | true => rw [err_ok ok]; exact (Owes_ok e a p w hV ok).mono fun _ _ ⟨g1, g3⟩ => ⟨_, g1, ev_ok _ _, g3⟩
theorem pans2E {w : World} {r : Ending} {w' : World} {cd : Int} (hc : cd ≠ 0) (h : ∃ z, r = .returned (.tuple #[.agg #[.bool false, .string ⟨#[]⟩], .slice none 0 0, .iface 108 (.pointer (some ⟨z, 0, none⟩))]) ∧ DFault w' z 0 cd ∧ Below w.heap.size w w') : PAns2Q ⟨false, nT, [], cd⟩ w r w' := by
  obtain ⟨z, h1, h2, h3⟩ := h
  exact ⟨_, _, h1, ActRow.nil _ _, ev_no h2 hc, h3⟩
theorem pans2 {d : Bool} {c : ByteArray} {l : ActL} {w : World} {r : Ending} {w' : World} {n : Nat} (hn : l.length = n) (h : ∃ po cap, r = .returned (.tuple #[.agg #[.bool d, .string c], .slice po n cap, .nilIface]) ∧ ActRow w' w.heap.size (.slice po n cap) l ∧ Below w.heap.size w w') : PAns2Q ⟨d, c, l, 0⟩ w r w' := by
  subst hn
  obtain ⟨po, cap, h1, h2, h3⟩ := h
  exact ⟨_, _, h1, h2, ev_ok _ _, h3⟩
theorem take_ok (e : Bool) (a p : Int) (w : World) (hV : PVc w) : Calls Tryd.prog 26 #[.agg #[.bool e, .int .i64 a, .int .i64 p]] w (PAns2Q (takeS e a p) w) := by
  unfold takeS caL
  cases ok : okB e a p with
  | false => rw [if_pos rfl]; exact (Take_no e a p w ok).mono fun _ _ h => pans2E (by decide) h
  | true =>
    rw [if_neg (by simp)]
    cases hc : caB e a with
    | true => rw [if_pos rfl]; exact (Take_a e a p w hV ok hc).mono fun _ _ h => pans2 rfl h
    | false => rw [if_neg (by simp)]; exact (Take_b e a p w hV ok hc).mono fun _ _ h => pans2 rfl h
theorem judge_ok (e : Bool) (a p : Int) (d : Bool) (c s : ByteArray) (w : World) (hV : PVc w) : Calls Tryd.prog 28 #[.agg #[.bool e, .int .i64 a, .int .i64 p], .agg #[.bool d, .string c], .string s] w (PAns2Q (judgeS e a p d c s) w) := by
  unfold judgeS
  cases ok : okB e a p with
  | false => rw [if_pos rfl]; exact (Judge_no e a p d c s w ok).mono fun _ _ h => pans2E (by decide) h
  | true =>
    rw [if_neg (by simp)]
    cases hk : keptB d c with
    | false => rw [if_pos (by simp)]; exact (Judge_k e a p d c s w hV ok hk).mono fun _ _ h => pans2E (by decide) h
    | true =>
      cases d with
      | true => rw [if_pos (by simp)]; exact (Judge_d e a p true c s w hV ok hk rfl).mono fun _ _ h => pans2E (by decide) h
      | false =>
        rw [if_neg (by simp)]
        cases hv : verB s with
        | false => rw [if_pos rfl]; exact (Judge_c e a p false c s w hV ok hk rfl hv).mono fun _ _ h => pans2E (by decide) h
        | true =>
          rw [if_neg (by simp)]
          cases h : sentB e a p s with
          | true => rw [if_pos rfl]; exact (Judge_y e a p false c s w hV ok hk rfl hv h).mono fun _ _ h => pans2 rfl h
          | false => rw [if_neg (by simp)]; exact (Judge_n e a p false c s w hV ok hk rfl hv h).mono fun _ _ h => pans2 rfl h
end Go.Proofs.YtjmjimbhoncidaaDoor
