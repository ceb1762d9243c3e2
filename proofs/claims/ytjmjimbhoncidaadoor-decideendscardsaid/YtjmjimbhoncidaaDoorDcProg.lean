/-
  The program's Copy as the document says it; all calls together.
-/
import Derived.Test.YtjmjimbhoncidaaDoorDcProgA
import Derived.Test.YtjmjimbhoncidaaDoorDcPn
namespace Go.Proofs.YtjmjimbhoncidaaDoor
open Go.RowKit

theorem pcopy {d : Bool} {c : ByteArray} {l : ActL} {w : World} {r : Ending} {w' : World} {n : Nat} (hn : l.length = n) (h : ∃ po cap, r = .returned (.tuple #[.slice po n cap, .nilIface]) ∧ ActRow w' w.heap.size (.slice po n cap) l ∧ Below w.heap.size w w') : PCopyQ ⟨d, c, l, 0⟩ w r w' := by
  subst hn
  obtain ⟨po, cap, h1, h2, h3⟩ := h
  exact ⟨_, _, h1, h2, ev_ok _ _, h3⟩
theorem pcopyE {w : World} {r : Ending} {w' : World} {cd : Int} (hc : cd ≠ 0) (h : ∃ z, r = .returned (.tuple #[.slice none 0 0, .iface 108 (.pointer (some ⟨z, 0, none⟩))]) ∧ DFault w' z 0 cd ∧ Below w.heap.size w w') : PCopyQ ⟨false, nT, [], cd⟩ w r w' := by
  obtain ⟨z, h1, h2, h3⟩ := h
  exact ⟨_, _, h1, ActRow.nil _ _, ev_no h2 hc, h3⟩
theorem none_sent {e : Bool} {a p : Int} {c : ByteArray} (h : c.toList.isEmpty = true) : sentB e a p c = false := by
  have h0 : c.toList = [] := by simpa using h
  rcases code_cases c with h | h | h | h | h | h | ⟨_, h⟩
  all_goals first | (subst h; simp [Lib.toList_data] at h0; done) | (unfold sentB; rw [h]; rfl)
theorem copy_ok (e : Bool) (a p : Int) (d : Bool) (c : ByteArray) (w : World) (hV : PVc w) : Calls Tryd.prog 30 #[.agg #[.bool e, .int .i64 a, .int .i64 p], .agg #[.bool d, .string c]] w (PCopyQ (copyS e a p d c) w) := by
  unfold copyS caL
  cases ok : okB e a p with
  | false => rw [if_pos rfl]; exact (Copy_no e a p d c w ok).mono fun _ _ h => pcopyE (by decide) h
  | true =>
    rw [if_neg (by simp)]
    cases hk : keptB d c with
    | false => rw [if_pos rfl]; exact (Copy_k e a p d c w hV ok hk).mono fun _ _ h => pcopyE (by decide) h
    | true =>
      rw [if_neg (by simp)]
      have hd : (d && sentB e a p c) = sentB e a p c := by
        cases d with
        | true => rfl
        | false => rw [none_sent (c := c) hk]; rfl
      rw [hd]
      have l7 : (if caB e a = true then [((7 : Int), kCA)] else ([] : ActL)).length ≤ 1 := by split <;> simp
      have l9 : (if sentB e a p c = true then [((9 : Int), c)] else ([] : ActL)).length ≤ 1 := by split <;> simp
      refine (Copy_y e a p d c _ _ w hV ok hk (by omega) (fun x hx => ?_) (fun x hx => ?_)).mono fun _ _ h => pcopy (List.length_append) h
      · cases h7 : caB e a with
        | true => exact (sent_yes e a p 7 ⟨#[67, 65]⟩ x hx (by rw [sent_1]; exact h7)).mono fun _ _ ⟨b, h1, h2, h3⟩ => ⟨_, _, h1, h2, h3⟩
        | false => exact (sent_no e a p 7 ⟨#[67, 65]⟩ x hx (by rw [sent_1]; exact h7)).mono fun _ _ ⟨h1, h3⟩ => ⟨none, 0, h1, ActRow.nil _ _, h3⟩
      · cases h9 : sentB e a p c with
        | true => exact (sent_yes e a p 9 c x hx h9).mono fun _ _ ⟨b, h1, h2, h3⟩ => ⟨_, _, h1, h2, h3⟩
        | false => exact (sent_no e a p 9 c x hx h9).mono fun _ _ ⟨h1, h3⟩ => ⟨none, 0, h1, ActRow.nil _ _, h3⟩
theorem decC : DecC := ⟨refuse_all, owes_ok, may_ok, start_ok, heard_ok, due_ok, take_ok, judge_ok, copy_ok⟩
theorem decOk : DecOk := decOk_of decW decC
end Go.Proofs.YtjmjimbhoncidaaDoor
