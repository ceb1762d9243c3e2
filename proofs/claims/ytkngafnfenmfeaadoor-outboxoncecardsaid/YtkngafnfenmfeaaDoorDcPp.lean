/-
  The program's Heard as the document says it.
-/
import Derived.Test.YtkngafnfenmfeaaDoorDcPo
namespace Go.Proofs.YtkngafnfenmfeaaDoor
open Go.RowKit

theorem h_two {e : Bool} {a p st lf : Int} {s : ByteArray} {n : Bool} {f h d : FuncId} {w : World} {x : Ans} (hV : PVc w) (hs : StOk e a p st lf f h d w) (hen : Enters Tryd.prog h)
    (hx : sentB e a p s = true → ∃ st' lf' l, x = ⟨st', lf', l, 0, 0⟩ ∧ ∀ y, Calls Tryd.prog h #[.agg #[.bool (caB e a), .bool (aaB e p), .bool (earB e a p (caB e a))], .agg #[.int .i64 st, .int .i64 lf], .agg #[.string s, .bool n]] y (WQ st' lf' l y))
    (hy : sentB e a p s = false → x = ⟨st, lf, [(6, nT)], 0, 0⟩) : Calls Tryd.prog 42 #[.agg #[.bool e, .int .i64 a, .int .i64 p], .agg #[.int .i64 st, .int .i64 lf], .string s, .bool n] w (PAnsQ x w) := by
  cases hm : sentB e a p s with
  | true =>
    obtain ⟨st', lf', l, rfl, hd⟩ := hx hm
    exact (Heard_ok e a p st lf s n _ _ _ _ _ _ st' lf' l w hV hs hen hd hm).mono fun _ _ h => pans rfl h
  | false =>
    rw [hy hm]
    exact (Heard_s e a p st lf s n _ _ _ _ _ _ w hV hs hm).mono fun _ _ h => pans rfl h
theorem heard_ok (e : Bool) (a p st lf : Int) (s : ByteArray) (n : Bool) (w : World) (hV : PVc w) : Calls Tryd.prog 42 #[.agg #[.bool e, .int .i64 a, .int .i64 p], .agg #[.int .i64 st, .int .i64 lf], .string s, .bool n] w (PAnsQ (heardS e a p st lf s n) w) := by
  cases ok : okB e a p with
  | false =>
    unfold heardS
    rw [ok, if_pos rfl]
    exact (Heard_e e a p st lf s n 220 w (fun x _ => standing_no e a p st lf x ok)).mono fun _ _ h => pansE (by decide) h
  | true =>
    cases hf : fitB e a p st lf with
    | false =>
      unfold heardS
      rw [ok, hf, if_neg (by simp), if_pos rfl]
      exact (Heard_e e a p st lf s n 222 w (st_bad hV ok hf)).mono fun _ _ h => pansE (by decide) h
    | true =>
      have hS : heardS e a p st lf s n = (if (decide (4 ≤ st) || !sentB e a p s) = true then ⟨st, lf, [(6, nT)], 0, 0⟩ else
        if (s.toList == [67, 65]) = true then (if st = 1 then (if aaB e p = true then ⟨2, lf, [(3, nT)], 0, 0⟩ else if p = 2 then ⟨3, lf, [(3, nT), (2, nT)], 0, 0⟩ else ⟨4, lf, [(4, kCA)], 0, 0⟩) else ⟨st, lf, [], 0, 0⟩)
        else if numB s n = true then (if (caB e a && !decide (st = 1)) = true then ⟨st, lf, [(6, nT)], 0, 0⟩ else if 0 < lf then ⟨st, lf - 1, [(5, nT), (1, nT), (2, nT)], 0, 0⟩ else ⟨4, lf, [(4, s)], 0, 0⟩)
        else ⟨4, lf, [(4, s)], 0, 0⟩) := by
        unfold heardS numB
        rw [ok, hf, if_neg (by simp), if_neg (by simp)]
      obtain ⟨⟨g1, g2, g3, g4⟩, hq⟩ := fit_of hf
      have lk : decide (0 ≤ lf ∧ lf ≤ 16) = true := decide_eq_true ⟨g3, g4⟩
      have hca : (s.toList == [67, 65]) = true → s = kCA := fun g => by
        rcases code_cases s with h | h | h | h | h | h | ⟨h, _⟩
        · exact h
        all_goals first | (subst h; simp [Lib.toList_data] at g; done) | (rw [h.h1] at g; cases g)
      rw [hS]
      clear hS hf
      rcases (by omega : st = 1 ∨ st = 2 ∨ st = 3 ∨ st = 4 ∨ st = 5 ∨ st = 6) with rfl | rfl | rfl | rfl | rfl | rfl
      · have hc : caB e a = true := by simpa using hq
        refine h_two hV (st_1 hV ok lk hc) en_ahead (fun hm => ?_) (fun hm => by rw [hm, if_pos (by simp)])
        rw [hm, if_neg (by simp)]
        cases g : (s.toList == [67, 65]) with
        | true =>
          rw [if_pos rfl, if_pos rfl]
          cases h1 : aaB e p with
          | true => rw [if_pos rfl]; exact ⟨_, _, _, rfl, fun y => ha_1 _ _ _ 1 lf s n y g rfl⟩
          | false =>
            rw [if_neg (by simp)]
            have he : earB e a p (caB e a) = decide (p = 2) := by unfold earB; rw [h1, hc]; simp
            by_cases h2 : p = 2
            · rw [if_pos h2]; exact ⟨_, _, _, rfl, fun y => ha_2 _ _ _ 1 lf s n y g rfl (by rw [he]; exact decide_eq_true h2)⟩
            · rw [if_neg h2, ← hca g]; exact ⟨_, _, _, rfl, fun y => ha_3 _ _ _ 1 lf s n y g rfl (by rw [he]; exact decide_eq_false h2)⟩
        | false =>
          rw [if_neg (by simp)]
          cases hn : numB s n with
          | false => rw [if_neg (by simp)]; exact ⟨_, _, _, rfl, fun y => ha_4x _ _ _ 1 lf s n y g hn⟩
          | true =>
            rw [if_pos rfl, if_neg (by simp)]
            by_cases h0 : 0 < lf
            · rw [if_pos h0]; exact ⟨_, _, _, rfl, fun y => ha_4z _ _ _ 1 lf s n y g hn h0 g4⟩
            · rw [if_neg h0]; exact ⟨_, _, _, rfl, fun y => ha_4y _ _ _ 1 lf s n y g hn (show lf = 0 by omega)⟩
      · refine h_two hV (st_2 hV ok lk (by simpa using hq)) en_behind (fun hm => ?_) (fun hm => by rw [hm, if_pos (by simp)])
        rw [hm, if_neg (by simp)]
        cases g : (s.toList == [67, 65]) with
        | true => rw [if_pos rfl, if_neg (by decide)]; exact ⟨_, _, _, rfl, fun y => hb_1 _ _ _ 2 lf s n y g⟩
        | false =>
          rw [if_neg (by simp)]
          cases hn : numB s n with
          | false => rw [if_neg (by simp)]; exact ⟨_, _, _, rfl, fun y => hb_3x _ _ _ 2 lf s n y g hn⟩
          | true =>
            rw [if_pos rfl]
            cases hc : caB e a with
            | true => rw [if_pos (by simp)]; exact ⟨_, _, _, rfl, fun y => hb_2 _ _ _ 2 lf s n y g hn rfl⟩
            | false =>
              rw [if_neg (by simp)]
              by_cases h0 : 0 < lf
              · rw [if_pos h0]; exact ⟨_, _, _, rfl, fun y => hb_3z _ _ _ 2 lf s n y g hn h0 g4 rfl⟩
              · rw [if_neg h0]; exact ⟨_, _, _, rfl, fun y => hb_3y _ _ _ 2 lf s n y g hn (show lf = 0 by omega) rfl⟩
      · refine h_two hV (st_3 hV ok lk (by simpa using hq)) en_behind (fun hm => ?_) (fun hm => by rw [hm, if_pos (by simp)])
        rw [hm, if_neg (by simp)]
        cases g : (s.toList == [67, 65]) with
        | true => rw [if_pos rfl, if_neg (by decide)]; exact ⟨_, _, _, rfl, fun y => hb_1 _ _ _ 3 lf s n y g⟩
        | false =>
          rw [if_neg (by simp)]
          cases hn : numB s n with
          | false => rw [if_neg (by simp)]; exact ⟨_, _, _, rfl, fun y => hb_3x _ _ _ 3 lf s n y g hn⟩
          | true =>
            rw [if_pos rfl]
            cases hc : caB e a with
            | true => rw [if_pos (by simp)]; exact ⟨_, _, _, rfl, fun y => hb_2 _ _ _ 3 lf s n y g hn rfl⟩
            | false =>
              rw [if_neg (by simp)]
              by_cases h0 : 0 < lf
              · rw [if_pos h0]; exact ⟨_, _, _, rfl, fun y => hb_3z _ _ _ 3 lf s n y g hn h0 g4 rfl⟩
              · rw [if_neg h0]; exact ⟨_, _, _, rfl, fun y => hb_3y _ _ _ 3 lf s n y g hn (show lf = 0 by omega) rfl⟩
      · rw [if_pos (by simp)]
        exact h_two hV (st_4 hV ok lk) en_strange (fun _ => ⟨_, _, _, rfl, fun y => strange_any _ _ _ 4 lf s n y⟩) (fun _ => rfl)
      · rw [if_pos (by simp)]
        exact h_two hV (st_5 hV ok lk) en_strange (fun _ => ⟨_, _, _, rfl, fun y => strange_any _ _ _ 5 lf s n y⟩) (fun _ => rfl)
      · rw [if_pos (by simp)]
        exact h_two hV (st_6 hV ok lk (by simpa using hq)) en_strange (fun _ => ⟨_, _, _, rfl, fun y => strange_any _ _ _ 6 lf s n y⟩) (fun _ => rfl)
theorem start_ok (e : Bool) (a p t : Int) (noted : Bool) (w : World) (hV : PVc w) : Calls Tryd.prog 38 #[.agg #[.bool e, .int .i64 a, .int .i64 p], .int .i64 t, .bool noted] w (PAnsQ (startS e a p t noted) w) := by
  unfold startS
  cases ok : okB e a p with
  | false =>
    rw [if_pos rfl]
    exact (Start_no e a p t noted w ok).mono fun _ _ h => pansE (by decide) h
  | true =>
    rw [if_neg (by simp)]
    by_cases ht : 0 ≤ t ∧ t ≤ 16
    · rw [if_neg (by simpa using ht)]
      have tr : decide (0 ≤ t ∧ t ≤ 16) = true := decide_eq_true ht
      cases hc : caB e a with
      | false =>
        cases noted with
        | true => rw [if_pos rfl]; exact (Start_nt e a p t true w hV ok tr rfl hc).mono fun _ _ h => pansE (by decide) h
        | false =>
          rw [if_neg (by simp), if_neg (by simp)]
          have he : earB e a p (caB e a) = earB e a p false := by rw [hc]
          cases h1 : aaB e p with
          | true => rw [if_pos rfl]; exact (Start_oka e a p t false 2 2 nT w hV ok tr rfl (fun x => by rw [hc]; exact begin_2a _ _ _ _ x rfl h1)).mono fun _ _ h => pans rfl h
          | false =>
            rw [if_neg (by simp)]
            cases h2 : earB e a p false with
            | true => rw [if_pos rfl]; exact (Start_oka e a p t false 3 2 nT w hV ok tr rfl (fun x => by rw [hc, h2]; exact begin_3a _ _ _ _ x rfl h1 rfl)).mono fun _ _ h => pans rfl h
            | false => rw [if_neg (by simp), if_neg (by simp)]; exact (Start_oka e a p t false 5 4 nT w hV ok tr rfl (fun x => by rw [hc, h2]; exact begin_5 _ _ _ _ x rfl rfl h1 rfl)).mono fun _ _ h => pans rfl h
      | true =>
        rw [if_neg (by simp)]
        cases noted with
        | false => rw [if_pos (by simp)]; exact (Start_oka e a p t false 1 2 nT w hV ok tr rfl (fun x => by rw [hc]; exact begin_1 _ _ _ _ x rfl rfl)).mono fun _ _ h => pans rfl h
        | true =>
          rw [if_neg (by simp)]
          cases h1 : aaB e p with
          | true => rw [if_pos rfl]; exact (Start_okb e a p t true 2 2 nT w hV ok tr rfl hc (fun x => by rw [hc]; exact begin_2b _ _ _ _ x rfl rfl h1)).mono fun _ _ h => pans rfl h
          | false =>
            rw [if_neg (by simp)]
            cases h2 : earB e a p true with
            | true => rw [if_pos rfl]; exact (Start_okb e a p t true 3 2 nT w hV ok tr rfl hc (fun x => by rw [hc, h2]; exact begin_3b _ _ _ _ x rfl rfl h1 rfl)).mono fun _ _ h => pans rfl h
            | false => rw [if_neg (by simp), if_pos rfl]; exact (Start_okb e a p t true 4 4 kCA w hV ok tr rfl hc (fun x => by rw [hc, h2]; exact begin_4b _ _ _ _ x rfl rfl h1 rfl)).mono fun _ _ h => pans rfl h
    · rw [if_pos ht]
      exact (Start_tr e a p t noted w ok (decide_eq_false ht)).mono fun _ _ h => pansE (by decide) h
end Go.Proofs.YtkngafnfenmfeaaDoor
