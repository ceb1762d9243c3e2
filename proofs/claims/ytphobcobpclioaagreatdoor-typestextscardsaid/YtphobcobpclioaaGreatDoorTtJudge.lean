/-
  judge, by the rule that a kind has.
-/
import Derived.Test.YtphobcobpclioaaGreatDoorTtDate
import Derived.Test.YtphobcobpclioaaGreatDoorTtPrimT
namespace Go.Proofs.YtphobcobpclioaaGreatDoor.Td
open Go.RowKit

set_option maxHeartbeats 1000000 in
theorem judge_isShort (k : ByteArray) (a2 : Value) (s : ByteArray) (w : World) (q : Bool) (cN : ∀ w, Months w → Calls Tryz.prog 18 #[.string s] w fun e w' => e = .returned (.bool q) ∧ Below w.heap.size w w') (hM : Months w) :
    Calls Tryz.prog 11 #[.agg #[.string k, fv 18, a2, .slice none 0 0], .string s] w fun e w' => e = .returned (.int .i64 (if q then 0 else 162)) ∧ Below w.heap.size w w' := by
  have HU : Hid (Below w.heap.size w (w.alloc (.cells #[.string k, fv 18, a2, .slice none 0 0] 38))) := (Below.refl _ _).alloc (Nat.le_refl _) _
  have HC : Hid (type_of% (cN _ (months_below hM HU.out))) := cN _ (months_below hM HU.out)
  clear hM cN
  go_enter Tryz.func11, Tryz.ntmps11
  go_wp2_with fail
  refine HC.out.mono ?_
  rintro _ w1 ⟨rfl, hb⟩
  have H1 : Hid (Below w.heap.size w w1) := below_then HU.out hb
  have k3 : w1.cell? ⟨w.heap.size, 3, none⟩ = some (.slice none 0 0) := by rw [hb.cell (p := ⟨w.heap.size, 3, none⟩) (by simp)]; simp
  clear hb HC
  cases q with
  | true =>
    go_wp2_with fail
    go_ret
    exact ⟨rfl, H1.out⟩
  | false =>
    go_wp2_with fail
    go_ret
    exact ⟨rfl, H1.out⟩
set_option maxHeartbeats 1000000 in
theorem judge_isAny (k : ByteArray) (a2 : Value) (s : ByteArray) (w : World) (q : Bool) (cN : ∀ w, Months w → Calls Tryz.prog 20 #[.string s] w fun e w' => e = .returned (.bool q) ∧ Below w.heap.size w w') (hM : Months w) :
    Calls Tryz.prog 11 #[.agg #[.string k, fv 20, a2, .slice none 0 0], .string s] w fun e w' => e = .returned (.int .i64 (if q then 0 else 162)) ∧ Below w.heap.size w w' := by
  have HU : Hid (Below w.heap.size w (w.alloc (.cells #[.string k, fv 20, a2, .slice none 0 0] 38))) := (Below.refl _ _).alloc (Nat.le_refl _) _
  have HC : Hid (type_of% (cN _ (months_below hM HU.out))) := cN _ (months_below hM HU.out)
  clear hM cN
  go_enter Tryz.func11, Tryz.ntmps11
  go_wp2_with fail
  refine HC.out.mono ?_
  rintro _ w1 ⟨rfl, hb⟩
  have H1 : Hid (Below w.heap.size w w1) := below_then HU.out hb
  have k3 : w1.cell? ⟨w.heap.size, 3, none⟩ = some (.slice none 0 0) := by rw [hb.cell (p := ⟨w.heap.size, 3, none⟩) (by simp)]; simp
  clear hb HC
  cases q with
  | true =>
    go_wp2_with fail
    go_ret
    exact ⟨rfl, H1.out⟩
  | false =>
    go_wp2_with fail
    go_ret
    exact ⟨rfl, H1.out⟩
set_option maxHeartbeats 1000000 in
theorem judge_isNumber (k : ByteArray) (a2 : Value) (s : ByteArray) (w : World) (q : Bool) (cN : ∀ w, Months w → Calls Tryz.prog 22 #[.string s] w fun e w' => e = .returned (.bool q) ∧ Below w.heap.size w w') (hM : Months w) :
    Calls Tryz.prog 11 #[.agg #[.string k, fv 22, a2, .slice none 0 0], .string s] w fun e w' => e = .returned (.int .i64 (if q then 0 else 162)) ∧ Below w.heap.size w w' := by
  have HU : Hid (Below w.heap.size w (w.alloc (.cells #[.string k, fv 22, a2, .slice none 0 0] 38))) := (Below.refl _ _).alloc (Nat.le_refl _) _
  have HC : Hid (type_of% (cN _ (months_below hM HU.out))) := cN _ (months_below hM HU.out)
  clear hM cN
  go_enter Tryz.func11, Tryz.ntmps11
  go_wp2_with fail
  refine HC.out.mono ?_
  rintro _ w1 ⟨rfl, hb⟩
  have H1 : Hid (Below w.heap.size w w1) := below_then HU.out hb
  have k3 : w1.cell? ⟨w.heap.size, 3, none⟩ = some (.slice none 0 0) := by rw [hb.cell (p := ⟨w.heap.size, 3, none⟩) (by simp)]; simp
  clear hb HC
  cases q with
  | true =>
    go_wp2_with fail
    go_ret
    exact ⟨rfl, H1.out⟩
  | false =>
    go_wp2_with fail
    go_ret
    exact ⟨rfl, H1.out⟩
set_option maxHeartbeats 1000000 in
theorem judge_isCount (k : ByteArray) (a2 : Value) (s : ByteArray) (w : World) (q : Bool) (cN : ∀ w, Months w → Calls Tryz.prog 23 #[.string s] w fun e w' => e = .returned (.bool q) ∧ Below w.heap.size w w') (hM : Months w) :
    Calls Tryz.prog 11 #[.agg #[.string k, fv 23, a2, .slice none 0 0], .string s] w fun e w' => e = .returned (.int .i64 (if q then 0 else 162)) ∧ Below w.heap.size w w' := by
  have HU : Hid (Below w.heap.size w (w.alloc (.cells #[.string k, fv 23, a2, .slice none 0 0] 38))) := (Below.refl _ _).alloc (Nat.le_refl _) _
  have HC : Hid (type_of% (cN _ (months_below hM HU.out))) := cN _ (months_below hM HU.out)
  clear hM cN
  go_enter Tryz.func11, Tryz.ntmps11
  go_wp2_with fail
  refine HC.out.mono ?_
  rintro _ w1 ⟨rfl, hb⟩
  have H1 : Hid (Below w.heap.size w w1) := below_then HU.out hb
  have k3 : w1.cell? ⟨w.heap.size, 3, none⟩ = some (.slice none 0 0) := by rw [hb.cell (p := ⟨w.heap.size, 3, none⟩) (by simp)]; simp
  clear hb HC
  cases q with
  | true =>
    go_wp2_with fail
    go_ret
    exact ⟨rfl, H1.out⟩
  | false =>
    go_wp2_with fail
    go_ret
    exact ⟨rfl, H1.out⟩
set_option maxHeartbeats 1000000 in
theorem judge_isCode (k : ByteArray) (a2 : Value) (s : ByteArray) (w : World) (q : Bool) (cN : ∀ w, Months w → Calls Tryz.prog 24 #[.string s] w fun e w' => e = .returned (.bool q) ∧ Below w.heap.size w w') (hM : Months w) :
    Calls Tryz.prog 11 #[.agg #[.string k, fv 24, a2, .slice none 0 0], .string s] w fun e w' => e = .returned (.int .i64 (if q then 0 else 162)) ∧ Below w.heap.size w w' := by
  have HU : Hid (Below w.heap.size w (w.alloc (.cells #[.string k, fv 24, a2, .slice none 0 0] 38))) := (Below.refl _ _).alloc (Nat.le_refl _) _
  have HC : Hid (type_of% (cN _ (months_below hM HU.out))) := cN _ (months_below hM HU.out)
  clear hM cN
  go_enter Tryz.func11, Tryz.ntmps11
  go_wp2_with fail
  refine HC.out.mono ?_
  rintro _ w1 ⟨rfl, hb⟩
  have H1 : Hid (Below w.heap.size w w1) := below_then HU.out hb
  have k3 : w1.cell? ⟨w.heap.size, 3, none⟩ = some (.slice none 0 0) := by rw [hb.cell (p := ⟨w.heap.size, 3, none⟩) (by simp)]; simp
  clear hb HC
  cases q with
  | true =>
    go_wp2_with fail
    go_ret
    exact ⟨rfl, H1.out⟩
  | false =>
    go_wp2_with fail
    go_ret
    exact ⟨rfl, H1.out⟩
set_option maxHeartbeats 1000000 in
theorem judge_isDate (k : ByteArray) (a2 : Value) (s : ByteArray) (w : World) (q : Bool) (cN : ∀ w, Months w → Calls Tryz.prog 25 #[.string s] w fun e w' => e = .returned (.bool q) ∧ Below w.heap.size w w') (hM : Months w) :
    Calls Tryz.prog 11 #[.agg #[.string k, fv 25, a2, .slice none 0 0], .string s] w fun e w' => e = .returned (.int .i64 (if q then 0 else 162)) ∧ Below w.heap.size w w' := by
  have HU : Hid (Below w.heap.size w (w.alloc (.cells #[.string k, fv 25, a2, .slice none 0 0] 38))) := (Below.refl _ _).alloc (Nat.le_refl _) _
  have HC : Hid (type_of% (cN _ (months_below hM HU.out))) := cN _ (months_below hM HU.out)
  clear hM cN
  go_enter Tryz.func11, Tryz.ntmps11
  go_wp2_with fail
  refine HC.out.mono ?_
  rintro _ w1 ⟨rfl, hb⟩
  have H1 : Hid (Below w.heap.size w w1) := below_then HU.out hb
  have k3 : w1.cell? ⟨w.heap.size, 3, none⟩ = some (.slice none 0 0) := by rw [hb.cell (p := ⟨w.heap.size, 3, none⟩) (by simp)]; simp
  clear hb HC
  cases q with
  | true =>
    go_wp2_with fail
    go_ret
    exact ⟨rfl, H1.out⟩
  | false =>
    go_wp2_with fail
    go_ret
    exact ⟨rfl, H1.out⟩
set_option maxHeartbeats 1000000 in
theorem judge_isTime (k : ByteArray) (a2 : Value) (s : ByteArray) (w : World) (q : Bool) (cN : ∀ w, Months w → Calls Tryz.prog 26 #[.string s] w fun e w' => e = .returned (.bool q) ∧ Below w.heap.size w w') (hM : Months w) :
    Calls Tryz.prog 11 #[.agg #[.string k, fv 26, a2, .slice none 0 0], .string s] w fun e w' => e = .returned (.int .i64 (if q then 0 else 162)) ∧ Below w.heap.size w w' := by
  have HU : Hid (Below w.heap.size w (w.alloc (.cells #[.string k, fv 26, a2, .slice none 0 0] 38))) := (Below.refl _ _).alloc (Nat.le_refl _) _
  have HC : Hid (type_of% (cN _ (months_below hM HU.out))) := cN _ (months_below hM HU.out)
  clear hM cN
  go_enter Tryz.func11, Tryz.ntmps11
  go_wp2_with fail
  refine HC.out.mono ?_
  rintro _ w1 ⟨rfl, hb⟩
  have H1 : Hid (Below w.heap.size w w1) := below_then HU.out hb
  have k3 : w1.cell? ⟨w.heap.size, 3, none⟩ = some (.slice none 0 0) := by rw [hb.cell (p := ⟨w.heap.size, 3, none⟩) (by simp)]; simp
  clear hb HC
  cases q with
  | true =>
    go_wp2_with fail
    go_ret
    exact ⟨rfl, H1.out⟩
  | false =>
    go_wp2_with fail
    go_ret
    exact ⟨rfl, H1.out⟩
set_option maxHeartbeats 1000000 in
theorem judge_isStamp (k : ByteArray) (a2 : Value) (s : ByteArray) (w : World) (q : Bool) (cN : ∀ w, Months w → Calls Tryz.prog 27 #[.string s] w fun e w' => e = .returned (.bool q) ∧ Below w.heap.size w w') (hM : Months w) :
    Calls Tryz.prog 11 #[.agg #[.string k, fv 27, a2, .slice none 0 0], .string s] w fun e w' => e = .returned (.int .i64 (if q then 0 else 162)) ∧ Below w.heap.size w w' := by
  have HU : Hid (Below w.heap.size w (w.alloc (.cells #[.string k, fv 27, a2, .slice none 0 0] 38))) := (Below.refl _ _).alloc (Nat.le_refl _) _
  have HC : Hid (type_of% (cN _ (months_below hM HU.out))) := cN _ (months_below hM HU.out)
  clear hM cN
  go_enter Tryz.func11, Tryz.ntmps11
  go_wp2_with fail
  refine HC.out.mono ?_
  rintro _ w1 ⟨rfl, hb⟩
  have H1 : Hid (Below w.heap.size w w1) := below_then HU.out hb
  have k3 : w1.cell? ⟨w.heap.size, 3, none⟩ = some (.slice none 0 0) := by rw [hb.cell (p := ⟨w.heap.size, 3, none⟩) (by simp)]; simp
  clear hb HC
  cases q with
  | true =>
    go_wp2_with fail
    go_ret
    exact ⟨rfl, H1.out⟩
  | false =>
    go_wp2_with fail
    go_ret
    exact ⟨rfl, H1.out⟩
/-- The number that a text of a kind with a table gets. -/
def jT (l : List (List UInt8)) (s : ByteArray) : Int := if isCd (bl s) then (if bl s ∈ l then 0 else 163) else 162
theorem contains_mem (l : List (List UInt8)) (s : ByteArray) : Lib.containsS ((l.map fun x => (⟨x.toArray⟩ : ByteArray)).take l.length) s = decide (bl s ∈ l) := by
  rw [Bool.eq_iff_iff, Lib.containsS_iff, decide_eq_true_eq, List.take_of_length_le (by simp), List.mem_map]
  constructor
  · rintro ⟨x, hx, rfl⟩; exact hx
  · intro h; exact ⟨bl s, h, bl_inj rfl⟩
theorem contains_any {w : World} {b : Nat} {l : List (List UInt8)} (h : Strs w b l) (hl : l.length ≤ 9223372036854775807) (s : ByteArray) : Calls Tryz.prog 29 #[.slice (some ⟨b, 0, none⟩) l.length l.length, .string s] w fun e w' => e = .returned (.bool (decide (bl s ∈ l))) ∧ w' = w := by
  have c := Tryz.slices_Contains_string b 0 l.length l.length (l.map fun x => (⟨x.toArray⟩ : ByteArray)) s w (by simp) hl (fun j hj => by
    rw [List.length_map] at hj
    rw [Nat.zero_add, h j hj]
    simp [List.getD, hj])
  rw [contains_mem] at c
  exact c
set_option maxHeartbeats 1000000 in
theorem judge_tab (k : ByteArray) (a2 : Value) (s : ByteArray) (w : World) (b : Nat) (l : List (List UInt8)) (hl : Strs w b l) (h0 : 0 < l.length) (h9 : l.length ≤ 100) (hs : s.size ≤ 140737488355328) :
    Calls Tryz.prog 11 #[.agg #[.string k, fv 24, a2, .slice (some ⟨b, 0, none⟩) l.length l.length], .string s] w fun e w' => e = .returned (.int .i64 (jT l s)) ∧ Below w.heap.size w w' := by
  have HU : Hid (Below w.heap.size w (w.alloc (.cells #[.string k, fv 24, a2, .slice (some ⟨b, 0, none⟩) l.length l.length] 38))) := (Below.refl _ _).alloc (Nat.le_refl _) _
  have HL : Hid (Strs w b l) := hl
  obtain ⟨q, hq⟩ : ∃ q, isCd (bl s) = q := ⟨_, rfl⟩
  obtain ⟨m, hm⟩ : ∃ m, decide (bl s ∈ l) = m := ⟨_, rfl⟩
  have HJ : Hid (jT l s = if q then (if m then 0 else 163) else 162) := by unfold Hid jT; rw [← hq, ← hm]; simp
  have HI : Hid (∀ w, Calls Tryz.prog 24 #[.string s] w fun e w' => e = .returned (.bool q) ∧ Below w.heap.size w w') := fun w => hq ▸ isCode_any s w hs
  have HM : Hid (∀ w, Strs w b l → Calls Tryz.prog 29 #[.slice (some ⟨b, 0, none⟩) l.length l.length, .string s] w fun e w' => e = .returned (.bool m) ∧ w' = w) := fun w h => hm ▸ contains_any h (by omega) s
  have h0i : (0 : Int) < l.length := by omega
  obtain ⟨n, hn⟩ : ∃ n, l.length = n := ⟨_, rfl⟩
  rw [hn] at HU HM h0i ⊢
  clear hq hm hl h0 h9 hn
  go_enter Tryz.func11, Tryz.ntmps11
  go_wp2_with fail
  refine (HI.out _).mono ?_
  rintro _ w1 ⟨rfl, hb⟩
  have H1 : Hid (Below w.heap.size w w1) := below_then HU.out hb
  have k3 : w1.cell? ⟨w.heap.size, 3, none⟩ = some (.slice (some ⟨b, 0, none⟩) n n) := by rw [hb.cell (p := ⟨w.heap.size, 3, none⟩) (by simp)]; simp
  clear hb HI
  cases q with
  | false =>
    go_wp2_with fail
    go_ret
    exact ⟨by rw [HJ.out]; rfl, H1.out⟩
  | true =>
    go_wp2_with fail
    refine (HM.out _ (HL.out.below H1.out)).mono ?_
    rintro _ w2 ⟨rfl, hw⟩
    subst w2
    cases m with
    | true =>
      go_wp2_with fail
      go_ret
      exact ⟨by rw [HJ.out]; rfl, H1.out⟩
    | false =>
      go_wp2_with fail
      go_ret
      exact ⟨by rw [HJ.out]; rfl, H1.out⟩
end Go.Proofs.YtphobcobpclioaaGreatDoor.Td
