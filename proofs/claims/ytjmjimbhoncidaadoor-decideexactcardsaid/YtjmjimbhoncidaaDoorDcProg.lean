import Derived.Test.YtjmjimbhoncidaaDoorDcPp
import Derived.Test.YtjmjimbhoncidaaDoorDcPm
import Derived.Deep.RegionHeld3
/-
  The program's calls answer as the document does.
-/
namespace Go.Proofs.YtjmjimbhoncidaaDoor
open Go.RowKit

theorem err_no {e : Bool} {a p : Int} (ok : okB e a p = false) : errN e a p = 220 := by unfold errN; rw [ok]; rfl
theorem err_ok {e : Bool} {a p : Int} (ok : okB e a p = true) : errN e a p = 0 := by unfold errN; rw [ok]; rfl
theorem wB_text (x : Nat) (hx : x < 4) : wB x = textB true x := by
  rcases (by omega : x = 0 ∨ x = 1 ∨ x = 2 ∨ x = 3) with rfl | rfl | rfl | rfl <;> rfl
theorem word_empty {s : ByteArray} (h : s.toList.isEmpty = true) : wordK s = true := by unfold wordK; rw [h]; rfl
theorem mode_ok (s t : ByteArray) (w : World) (hV : PVw w) : Calls Tryd.prog 12 #[.string s, .string t] w (PModeQ (modeS s t) w) := by
  unfold modeS
  cases h1 : wordK s with
  | false =>
    rw [if_pos rfl]
    have he : s.toList.isEmpty = false := by
      cases h : s.toList.isEmpty
      · rfl
      · rw [word_empty h] at h1; cases h1
    exact (Mode_1a s t w hV he h1).mono fun _ _ ⟨z, g1, g2, g3⟩ => ⟨_, g1, ev_no g2 (by decide), g3⟩
  | true =>
    rw [if_neg (by simp)]
    cases h2 : wordK t with
    | false =>
      rw [if_pos rfl]
      have ht : t.toList.isEmpty = false := by
        cases h : t.toList.isEmpty
        · rfl
        · rw [word_empty h] at h2; cases h2
      cases he : s.toList.isEmpty with
      | false => exact (Mode_2a s t w hV he h1 h2).mono fun _ _ ⟨z, g1, g2, g3⟩ => ⟨_, g1, ev_no g2 (by decide), g3⟩
      | true => exact (Mode_2b s t w hV he ht h1 h2).mono fun _ _ ⟨z, g1, g2, g3⟩ => ⟨_, g1, ev_no g2 (by decide), g3⟩
    | true =>
      rw [if_neg (by simp)]
      cases he : s.toList.isEmpty with
      | false =>
        rw [if_neg (by simp)]
        exact (Mode_3a s t w hV he h1 h2).mono fun _ _ ⟨g1, g3⟩ => ⟨_, g1, ev_ok _ _, g3⟩
      | true =>
        cases ht : t.toList.isEmpty with
        | false =>
          rw [if_neg (by simp)]
          exact (Mode_3b s t w hV he ht h1 h2).mono fun _ _ ⟨g1, g3⟩ => ⟨_, g1, ev_ok _ _, g3⟩
        | true =>
          rw [if_pos (by simp)]
          exact (Mode_0 s t w he ht).mono fun _ _ ⟨g1, g3⟩ => ⟨_, g1, ev_ok _ _, g3⟩
theorem texts_ok (e : Bool) (a p : Int) (w : World) (hV : PVw w) : Calls Tryd.prog 14 #[.agg #[.bool e, .int .i64 a, .int .i64 p]] w fun r w' => ∃ ev, r = .returned (.tuple #[.string (if okB e a p = true then textB e a else ⟨#[]⟩), .string (if okB e a p = true then textB e p else ⟨#[]⟩), ev]) ∧ Ev w' ev 0 (errN e a p) ∧ Below w.heap.size w w' := by
  cases ok : okB e a p with
  | false =>
    rw [err_no ok]
    exact (Texts_no e a p w ok).mono fun _ _ ⟨z, g1, g2, g3⟩ => ⟨_, by rw [g1]; rfl, ev_no g2 (by decide), g3⟩
  | true =>
    rw [err_ok ok]
    cases e with
    | false => exact (Texts_f a p w ok).mono fun _ _ ⟨g1, g3⟩ => ⟨_, by rw [g1]; rfl, ev_ok _ _, g3⟩
    | true =>
      obtain ⟨q1, q2, q3, q4, _⟩ := ok_of ok
      obtain ⟨x, rfl⟩ := Int.eq_ofNat_of_zero_le q1
      obtain ⟨y, rfl⟩ := Int.eq_ofNat_of_zero_le q3
      exact (Texts_t x y w hV (by omega) (by omega) ok).mono fun _ _ ⟨g1, g3⟩ => ⟨_, by rw [g1, wB_text x (by omega), wB_text y (by omega)]; rfl, ev_ok _ _, g3⟩
theorem decW : DecW := ⟨mode_ok, texts_ok⟩
theorem may_ok (e : Bool) (a p : Int) (s : ByteArray) (w : World) (hV : PVc w) : Calls Tryd.prog 21 #[.agg #[.bool e, .int .i64 a, .int .i64 p], .string s] w fun r w' => ∃ ev, r = .returned (.tuple #[.bool (okB e a p && sentB e a p s), ev]) ∧ Ev w' ev 0 (errN e a p) ∧ Below w.heap.size w w' := by
  cases ok : okB e a p with
  | false => rw [err_no ok]; exact (May_no e a p s w ok).mono fun _ _ ⟨z, g1, g2, g3⟩ => ⟨_, g1, ev_no g2 (by decide), g3⟩
  | true => rw [err_ok ok]; exact (May_ok e a p s w hV ok).mono fun _ _ ⟨g1, g3⟩ => ⟨_, g1, ev_ok _ _, g3⟩
theorem refuse_all (e : Bool) (a p : Int) (h : Bool) (w : World) (hV : PVc w) : Calls Tryd.prog 17 #[.agg #[.bool e, .int .i64 a, .int .i64 p], .bool h] w fun r w' => ∃ ev, r = .returned (.tuple #[.string (if okB e a p = true then refC e h else ⟨#[]⟩), .bool (okB e a p && sentB e a p (refC e h)), ev]) ∧ Ev w' ev 0 (errN e a p) ∧ Below w.heap.size w w' := by
  cases ok : okB e a p with
  | false => rw [err_no ok]; exact (Refuse_no e a p h w ok).mono fun _ _ ⟨z, g1, g2, g3⟩ => ⟨_, by rw [g1]; rfl, ev_no g2 (by decide), g3⟩
  | true => rw [err_ok ok]; exact (Refuse_ok e a p h w hV ok).mono fun _ _ ⟨g1, g3⟩ => ⟨_, by rw [g1]; rfl, ev_ok _ _, g3⟩
theorem owes_ok (e : Bool) (a p : Int) (w : World) (hV : PVc w) : Calls Tryd.prog 19 #[.agg #[.bool e, .int .i64 a, .int .i64 p]] w fun r w' => ∃ ev, r = .returned (.tuple #[.bool (okB e a p && caB e a), .bool (okB e a p && aaB e p), .bool (okB e a p && earB e a p (caB e a)), ev]) ∧ Ev w' ev 0 (errN e a p) ∧ Below w.heap.size w w' := by
  cases ok : okB e a p with
  | false => rw [err_no ok]; exact (Owes_no e a p w ok).mono fun _ _ ⟨z, g1, g2, g3⟩ => ⟨_, g1, ev_no g2 (by decide), g3⟩
  | true => rw [err_ok ok]; exact (Owes_ok e a p w hV ok).mono fun _ _ ⟨g1, g3⟩ => ⟨_, g1, ev_ok _ _, g3⟩
theorem pans2E {w : World} {r : Ending} {w' : World} {cd : Int} (hc : cd ≠ 0) (h : ∃ z, r = .returned (.tuple #[.agg #[.bool false, .string ⟨#[]⟩], .slice none 0 0, .iface 108 (.pointer (some ⟨z, 0, none⟩))]) ∧ DFault w' z 0 cd ∧ Below w.heap.size w w') : PAns2Q ⟨false, nT, [], cd⟩ w r w' := by
  obtain ⟨z, h1, h2, h3⟩ := h
  exact ⟨_, _, h1, ActRow.nil _ _, ev_no h2 hc, h3⟩
theorem pans2 {d : Bool} {c : ByteArray} {l : ActL} {w : World} {r : Ending} {w' : World} {n : Nat} (hn : l.length = n) (h : ∃ po cap, r = .returned (.tuple #[.agg #[.bool d, .string c], .slice po n cap, .nilIface]) ∧ ActRow w' w.heap.size (.slice po n cap) l ∧ Below w.heap.size w w') : PAns2Q ⟨d, c, l, 0⟩ w r w' := by
  subst hn
  obtain ⟨po, cap, h1, h2, h3⟩ := h
  exact ⟨_, _, h1, h2, ev_ok _ _, h3⟩
theorem take_ok (e : Bool) (a p : Int) (w : World) (hV : PVc w) : Calls Tryd.prog 26 #[.agg #[.bool e, .int .i64 a, .int .i64 p]] w (PAns2Q (takeS e a p) w) := by
  unfold takeS caL
  cases ok : okB e a p with
  | false => rw [if_pos rfl]; exact (Take_no e a p w ok).mono fun _ _ h => pans2E (by decide) h
  | true =>
    rw [if_neg (by simp)]
    cases hc : caB e a with
    | true => rw [if_pos rfl]; exact (Take_a e a p w hV ok hc).mono fun _ _ h => pans2 rfl h
    | false => rw [if_neg (by simp)]; exact (Take_b e a p w hV ok hc).mono fun _ _ h => pans2 rfl h
theorem judge_ok (e : Bool) (a p : Int) (d : Bool) (c s : ByteArray) (w : World) (hV : PVc w) : Calls Tryd.prog 28 #[.agg #[.bool e, .int .i64 a, .int .i64 p], .agg #[.bool d, .string c], .string s] w (PAns2Q (judgeS e a p d c s) w) := by
  unfold judgeS
  cases ok : okB e a p with
  | false => rw [if_pos rfl]; exact (Judge_no e a p d c s w ok).mono fun _ _ h => pans2E (by decide) h
  | true =>
    rw [if_neg (by simp)]
    cases hk : keptB d c with
    | false => rw [if_pos (by simp)]; exact (Judge_k e a p d c s w hV ok hk).mono fun _ _ h => pans2E (by decide) h
    | true =>
      cases d with
      | true => rw [if_pos (by simp)]; exact (Judge_d e a p true c s w hV ok hk rfl).mono fun _ _ h => pans2E (by decide) h
      | false =>
        rw [if_neg (by simp)]
        cases hv : verB s with
        | false => rw [if_pos rfl]; exact (Judge_c e a p false c s w hV ok hk rfl hv).mono fun _ _ h => pans2E (by decide) h
        | true =>
          rw [if_neg (by simp)]
          cases h : sentB e a p s with
          | true => rw [if_pos rfl]; exact (Judge_y e a p false c s w hV ok hk rfl hv h).mono fun _ _ h => pans2 rfl h
          | false => rw [if_neg (by simp)]; exact (Judge_n e a p false c s w hV ok hk rfl hv h).mono fun _ _ h => pans2 rfl h
end Go.Proofs.YtjmjimbhoncidaaDoor

/-
  The program's Copy.
-/
namespace Go.Proofs.YtjmjimbhoncidaaDoor
open Go.RowKit

set_option maxRecDepth 100000 in
set_option maxHeartbeats 1000000 in
theorem Copy_y (e : Bool) (a p : Int) (d : Bool) (c : ByteArray) (L7 L9 : ActL) (w : World) (hV : PVc w) (ok : okB e a p = true) (hk : keptB d c = true) (hl : L7.length + L9.length ≤ 100) (h7 : ∀ x, PVc x → Calls Tryd.prog 55 #[.agg #[.bool e, .int .i64 a, .int .i64 p], .int .i64 7, .string ⟨#[67, 65]⟩] x fun r x' => ∃ po m, r = .returned (.slice po m m) ∧ Hid (ActRow x' x.heap.size (.slice po m m) L7 ∧ Below x.heap.size x x')) (h9 : ∀ x, PVc x → Calls Tryd.prog 55 #[.agg #[.bool e, .int .i64 a, .int .i64 p], .int .i64 9, .string c] x fun r x' => ∃ po m, r = .returned (.slice po m m) ∧ Hid (ActRow x' x.heap.size (.slice po m m) L9 ∧ Below x.heap.size x x')) : Calls Tryd.prog 30 #[.agg #[.bool e, .int .i64 a, .int .i64 p], .agg #[.bool d, .string c]] w (fun r w' => ∃ po cap, r = .returned (.tuple #[.slice po (L7.length + L9.length) cap, .nilIface]) ∧ ActRow w' w.heap.size (.slice po (L7.length + L9.length) cap) (L7 ++ L9) ∧ Below w.heap.size w w') := by
  have HV : Hid (PVc w) := hV
  clear hV
  have c1 := fun x => refuse_ok e a p x ok
  have ck : Hid (∀ x, PVc x → Calls Tryd.prog 56 #[.agg #[.bool d, .string c]] x fun r x' => r = .returned (.bool true) ∧ Below x.heap.size x x') := fun x hx => by have := isKept_any d c x hx; rw [hk] at this; exact this
  have Q7 : Hid (∀ x, PVc x → Calls Tryd.prog 55 #[.agg #[.bool e, .int .i64 a, .int .i64 p], .int .i64 7, .string ⟨#[67, 65]⟩] x fun r x' => ∃ po m, r = .returned (.slice po m m) ∧ Hid (ActRow x' x.heap.size (.slice po m m) L7 ∧ Below x.heap.size x x')) := h7
  have Q9 : Hid (∀ x, PVc x → Calls Tryd.prog 55 #[.agg #[.bool e, .int .i64 a, .int .i64 p], .int .i64 9, .string c] x fun r x' => ∃ po m, r = .returned (.slice po m m) ∧ Hid (ActRow x' x.heap.size (.slice po m m) L9 ∧ Below x.heap.size x x')) := h9
  have HL : Hid (L7.length + L9.length ≤ 100) := hl
  clear ok hk h7 h9 hl
  go_enter Tryd.func30, Tryd.ntmps30
  go_wp2_with fail
  refine (c1 _).mono ?_
  rintro _ w1 ⟨rfl, b1⟩
  have HB1 : Hid (Below w.heap.size w w1) := below_then (bl_alloc ((Below.refl _ _).alloc (Nat.le_refl _) _) _) b1
  have X1_0 : Hid (Box w1 (w.heap.size) #[.bool e, .int .i64 a, .int .i64 p]) := ((Box.new' _ #[.bool e, .int .i64 a, .int .i64 p] 23 (w.heap.size) (by simp)).alloc _).below b1
  have X1_1 : Hid (Box w1 (w.heap.size + 1) #[.bool d, .string c]) := (Box.new' _ #[.bool d, .string c] 59 (w.heap.size + 1) (by simp)).below b1
  obtain ⟨l1_0, k1_0, f1_0⟩ := X1_0.out
  obtain ⟨l1_1, k1_1, f1_1⟩ := X1_1.out
  clear b1
  go_wp2_with fail
  refine (ck.out _ (HV.out.below HB1.out)).mono ?_
  rintro _ w2 ⟨rfl, b2⟩
  have HB2 : Hid (Below w.heap.size w w2) := below_then HB1.out b2
  have X2_0 : Hid (Box w2 (w.heap.size) #[.bool e, .int .i64 a, .int .i64 p]) := X1_0.out.below b2
  have X2_1 : Hid (Box w2 (w.heap.size + 1) #[.bool d, .string c]) := X1_1.out.below b2
  clear k1_0 l1_0 f1_0 X1_0 k1_1 l1_1 f1_1 X1_1 HB1
  obtain ⟨l2_0, k2_0, f2_0⟩ := X2_0.out
  obtain ⟨l2_1, k2_1, f2_1⟩ := X2_1.out
  clear b2
  go_upto_region 6 with fail
  have V2 : Hid (PVc w2) := HV.out.below HB2.out
  have HQ : Hid (∀ k s x, Below w2.heap.size w2 x → (k = 7 ∧ s = ⟨#[67, 65]⟩) ∨ (k = 9 ∧ s = c) → Calls Tryd.prog 55 #[.agg #[.bool e, .int .i64 a, .int .i64 p], .int .i64 k, .string s] x fun r x' => ∃ po m, r = .returned (.slice po m m) ∧ Hid (ActRow x' x.heap.size (.slice po m m) (if k = 7 then L7 else L9) ∧ Below x.heap.size x x')) := fun k s x hx hh => by
    rcases hh with ⟨rfl, rfl⟩ | ⟨rfl, rfl⟩
    · exact Q7.out x (V2.out.below hx)
    · exact Q9.out x (V2.out.below hx)
  clear Q7 Q9 V2 HV
  go_region_held3 (fun x => x.cell? ⟨w.heap.size, 0, none⟩ = some (.bool e) ∧ x.cell? ⟨w.heap.size, 1, none⟩ = some (.int .i64 a) ∧ x.cell? ⟨w.heap.size, 2, none⟩ = some (.int .i64 p) ∧ x.cell? ⟨w.heap.size + 1, 1, none⟩ = some (.string c)) (simp [*]) (first | (refine step_aapp (B := w2.heap.size) (N := w7.heap.size) rfl (.tmp 17) (.tmp 21) rfl rfl rfl rfl R79.out.1 b9.out.size R79.out.2 HL.out ?_; intro a' c' w5 HR5 b5; have HRR : Hid (ActRow w5 w2.heap.size (.slice a' (L7.length + L9.length) c') (L7 ++ L9)) := HR5; have hb5 : Hid (Below w2.heap.size w2 w5) := b9.out.trans b5; clear HR5 b5; have ew50 : w5.cell? ⟨w.heap.size, 0, none⟩ = some (.bool e) := ((X2_0.out.below hb5.out).cell 0).trans rfl; have ew51 : w5.cell? ⟨w.heap.size, 1, none⟩ = some (.int .i64 a) := ((X2_0.out.below hb5.out).cell 1).trans rfl; have ew52 : w5.cell? ⟨w.heap.size, 2, none⟩ = some (.int .i64 p) := ((X2_0.out.below hb5.out).cell 2).trans rfl; have ew53 : w5.cell? ⟨w.heap.size + 1, 1, none⟩ = some (.string c) := ((X2_1.out.below hb5.out).cell 1).trans rfl) | (go_at_call 55; first | (have hh7 := h7.out; clear hh7; refine (HQ.out _ _ _ ?_ ?_).mono ?_; (first | exact b7.out | exact Below.drew b7.out); exact Or.inr ⟨rfl, rfl⟩; rintro _ w9 ⟨po9, m9, rfl, h9⟩; have b9 : Hid (Below w2.heap.size w2 w9) := (by first | exact below_then b7.out h9.out.2 | exact below_then (Below.drew b7.out) h9.out.2); have R79 : Hid (ActRow w9 w2.heap.size (.slice po7 m7 m7) L7 ∧ Acts w9 w7.heap.size (.slice po9 m9 m9) L9) := ⟨(by first | exact R7.out.below h9.out.2 | exact ActRow.below (ActRow.drew' R7.out) h9.out.2), h9.out.1.acts⟩; have ew90 : w9.cell? ⟨w.heap.size, 0, none⟩ = some (.bool e) := ((X2_0.out.below b9.out).cell 0).trans rfl; have ew91 : w9.cell? ⟨w.heap.size, 1, none⟩ = some (.int .i64 a) := ((X2_0.out.below b9.out).cell 1).trans rfl; have ew92 : w9.cell? ⟨w.heap.size, 2, none⟩ = some (.int .i64 p) := ((X2_0.out.below b9.out).cell 2).trans rfl; have ew93 : w9.cell? ⟨w.heap.size + 1, 1, none⟩ = some (.string c) := ((X2_1.out.below b9.out).cell 1).trans rfl) | (refine (HQ.out _ _ _ ?_ ?_).mono ?_; (first | exact Below.refl _ _ | exact Below.drew (Below.refl _ _)); exact Or.inl ⟨rfl, rfl⟩; rintro _ w7 ⟨po7, m7, rfl, h7⟩; have b7 : Hid (Below w2.heap.size w2 w7) := (by first | exact h7.out.2 | exact below_then (Below.drew (Below.refl _ _)) h7.out.2); have R7 : Hid (ActRow w7 w2.heap.size (.slice po7 m7 m7) L7) := h7.out.1; have ew70 : w7.cell? ⟨w.heap.size, 0, none⟩ = some (.bool e) := ((X2_0.out.below b7.out).cell 0).trans rfl; have ew71 : w7.cell? ⟨w.heap.size, 1, none⟩ = some (.int .i64 a) := ((X2_0.out.below b7.out).cell 1).trans rfl; have ew72 : w7.cell? ⟨w.heap.size, 2, none⟩ = some (.int .i64 p) := ((X2_0.out.below b7.out).cell 2).trans rfl; have ew73 : w7.cell? ⟨w.heap.size + 1, 1, none⟩ = some (.string c) := ((X2_1.out.below b7.out).cell 1).trans rfl)))
  all_goals
    go_wp2_with fail
    refine bodyPost_ret (v := .tuple #[.slice a' (L7.length + L9.length) c', .nilIface]) ?_ rfl ⟨_, _, rfl, HRR.out.mono HB2.out.size, below_then HB2.out hb5.out⟩
    simp [results, Tryd.results30, go_sem]
end Go.Proofs.YtjmjimbhoncidaaDoor

/-
  The program's Copy as the document says it; all calls together.
-/
namespace Go.Proofs.YtjmjimbhoncidaaDoor
open Go.RowKit

theorem pcopy {d : Bool} {c : ByteArray} {l : ActL} {w : World} {r : Ending} {w' : World} {n : Nat} (hn : l.length = n) (h : ∃ po cap, r = .returned (.tuple #[.slice po n cap, .nilIface]) ∧ ActRow w' w.heap.size (.slice po n cap) l ∧ Below w.heap.size w w') : PCopyQ ⟨d, c, l, 0⟩ w r w' := by
  subst hn
  obtain ⟨po, cap, h1, h2, h3⟩ := h
  exact ⟨_, _, h1, h2, ev_ok _ _, h3⟩
theorem pcopyE {w : World} {r : Ending} {w' : World} {cd : Int} (hc : cd ≠ 0) (h : ∃ z, r = .returned (.tuple #[.slice none 0 0, .iface 108 (.pointer (some ⟨z, 0, none⟩))]) ∧ DFault w' z 0 cd ∧ Below w.heap.size w w') : PCopyQ ⟨false, nT, [], cd⟩ w r w' := by
  obtain ⟨z, h1, h2, h3⟩ := h
  exact ⟨_, _, h1, ActRow.nil _ _, ev_no h2 hc, h3⟩
theorem none_sent {e : Bool} {a p : Int} {c : ByteArray} (h : c.toList.isEmpty = true) : sentB e a p c = false := by
  have h0 : c.toList = [] := by simpa using h
  rcases code_cases c with h | h | h | h | h | h | ⟨_, h⟩
  all_goals first | (subst h; simp [Lib.toList_data] at h0; done) | (unfold sentB; rw [h]; rfl)
theorem copy_ok (e : Bool) (a p : Int) (d : Bool) (c : ByteArray) (w : World) (hV : PVc w) : Calls Tryd.prog 30 #[.agg #[.bool e, .int .i64 a, .int .i64 p], .agg #[.bool d, .string c]] w (PCopyQ (copyS e a p d c) w) := by
  unfold copyS caL
  cases ok : okB e a p with
  | false => rw [if_pos rfl]; exact (Copy_no e a p d c w ok).mono fun _ _ h => pcopyE (by decide) h
  | true =>
    rw [if_neg (by simp)]
    cases hk : keptB d c with
    | false => rw [if_pos rfl]; exact (Copy_k e a p d c w hV ok hk).mono fun _ _ h => pcopyE (by decide) h
    | true =>
      rw [if_neg (by simp)]
      have hd : (d && sentB e a p c) = sentB e a p c := by
        cases d with
        | true => rfl
        | false => rw [none_sent (c := c) hk]; rfl
      rw [hd]
      have l7 : (if caB e a = true then [((7 : Int), kCA)] else ([] : ActL)).length ≤ 1 := by split <;> simp
      have l9 : (if sentB e a p c = true then [((9 : Int), c)] else ([] : ActL)).length ≤ 1 := by split <;> simp
      refine (Copy_y e a p d c _ _ w hV ok hk (by omega) (fun x hx => ?_) (fun x hx => ?_)).mono fun _ _ h => pcopy (List.length_append) h
      · cases h7 : caB e a with
        | true => exact (sent_yes e a p 7 ⟨#[67, 65]⟩ x hx (by rw [sent_1]; exact h7)).mono fun _ _ ⟨b, h1, h2, h3⟩ => ⟨_, _, h1, h2, h3⟩
        | false => exact (sent_no e a p 7 ⟨#[67, 65]⟩ x hx (by rw [sent_1]; exact h7)).mono fun _ _ ⟨h1, h3⟩ => ⟨none, 0, h1, ActRow.nil _ _, h3⟩
      · cases h9 : sentB e a p c with
        | true => exact (sent_yes e a p 9 c x hx h9).mono fun _ _ ⟨b, h1, h2, h3⟩ => ⟨_, _, h1, h2, h3⟩
        | false => exact (sent_no e a p 9 c x hx h9).mono fun _ _ ⟨h1, h3⟩ => ⟨none, 0, h1, ActRow.nil _ _, h3⟩
theorem decC : DecC := ⟨refuse_all, owes_ok, may_ok, start_ok, heard_ok, due_ok, take_ok, judge_ok, copy_ok⟩
theorem decOk : DecOk := decOk_of decW decC
end Go.Proofs.YtjmjimbhoncidaaDoor
