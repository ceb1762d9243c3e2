/-
  The document's wheel: which of two stands ahead; Set refused.
-/
import Derived.Test.YtmldpmnkjbdoaaaDoorWhRef5
namespace Go.Proofs.YtmldpmnkjbdoaaaDoor
open Go.RowKit

def ahB (a b : Tm) : Bool := decide (a.2 < b.2) || (decide (a.2 = b.2) && decide (a.1 < b.1))
theorem ahB_iff (a b : Tm) : ahB a b = true ↔ tlt a b := by unfold ahB tlt; simp
set_option maxRecDepth 100000 in
set_option maxHeartbeats 1000000 in
theorem rahead_any (k k' : Int) (t t' : Nat) (w : World) : Calls Tryd.prog 45 #[.agg #[.int .i64 k, .string ⟨#[]⟩, .int .i64 (t : Int)], .agg #[.int .i64 k', .string ⟨#[]⟩, .int .i64 (t' : Int)]] w fun e w' => e = .returned (.bool (ahB (k, t) (k', t'))) ∧ Below w.heap.size w w' := by
  have HB : Hid (Below w.heap.size w ((w.alloc (.cells #[.int .i64 k, .string ⟨#[]⟩, .int .i64 (t : Int)] 78)).alloc (.cells #[.int .i64 k', .string ⟨#[]⟩, .int .i64 (t' : Int)] 78))) := ((Below.refl w.heap.size w).alloc (Nat.le_refl _) _).alloc (by simp) _
  have ca := ((Box.new w #[.int .i64 k, .string ⟨#[]⟩, .int .i64 (t : Int)] 78).alloc (.cells #[.int .i64 k', .string ⟨#[]⟩, .int .i64 (t' : Int)] 78)).cell
  have cb := (Box.new (w.alloc (.cells #[.int .i64 k, .string ⟨#[]⟩, .int .i64 (t : Int)] 78)) #[.int .i64 k', .string ⟨#[]⟩, .int .i64 (t' : Int)] 78).cell
  rw [World.size_alloc] at cb
  obtain ⟨T, hT⟩ : ∃ N : Int, (t : Int) = N := ⟨_, rfl⟩
  obtain ⟨T', hT'⟩ : ∃ N : Int, (t' : Int) = N := ⟨_, rfl⟩
  have HE : Hid (ahB (k, t) (k', t') = (decide (T < T') || (decide (T = T') && decide (k < k')))) := by
    unfold Hid ahB
    have e1 : decide (t < t') = decide (T < T') := by rw [decide_eq_decide]; omega
    have e2 : decide (t = t') = decide (T = T') := by rw [decide_eq_decide]; omega
    simp only [e1, e2]
  rw [hT, hT'] at HB ca cb ⊢
  clear hT hT'
  by_cases h1 : T = T'
  · subst h1
    have n1 : (T != T) = false := by simp
    by_cases h2 : k = k'
    · subst h2
      have n2 : (k != k) = false := by simp
      have HR : Hid (ahB (k, t) (k, t') = false) := by unfold Hid; rw [HE.out]; simp
      go_enter Tryd.func45, Tryd.ntmps45
      go_wp2_with fail
      go_ret
      exact ⟨by rw [HR.out]; rfl, HB.out⟩
    · have n2 : (k != k') = true := by simpa using h2
      have n3 : (k == k') = false := by simpa using h2
      have HR : Hid (ahB (k, t) (k', t') = decide (k < k')) := by unfold Hid; rw [HE.out]; simp
      go_enter Tryd.func45, Tryd.ntmps45
      go_wp2_with fail
      go_ret
      exact ⟨by rw [HR.out]; rfl, HB.out⟩
  · have n1 : (T != T') = true := by simpa using h1
    have n3 : (T == T') = false := by simpa using h1
    have HR : Hid (ahB (k, t) (k', t') = decide (T < T')) := by unfold Hid; rw [HE.out]; simp [h1]
    go_enter Tryd.func45, Tryd.ntmps45
    go_wp2_with fail
    go_ret
    exact ⟨by rw [HR.out]; rfl, HB.out⟩
set_option maxRecDepth 100000 in
set_option maxHeartbeats 1000000 in
theorem rset_range {w : World} {rb now : Nat} {S : List Tm} {a : Option Addr} {n c : Nat} (h : RWl w rb now S a n c) (k t : Int) (ht : t ≤ now ∨ 1099511627776 < t) :
    Calls Tryd.prog 19 #[.pointer (some ⟨rb, 0, none⟩), .agg #[.int .i64 k, .string ⟨#[]⟩], .int .i64 t] w fun e w' => e = .returned (.int .i64 2) ∧ Below w.heap.size w w' := by
  have bv := (Below.refl w.heap.size w).alloc (Nat.le_refl _) (.cells #[.int .i64 k, .string ⟨#[]⟩] 69)
  have cr := (h.below bv).cell
  have ck := (Box.new w #[.int .i64 k, .string ⟨#[]⟩] 69).cell
  have HB : Hid (Below w.heap.size w (w.alloc (.cells #[.int .i64 k, .string ⟨#[]⟩] 69))) := bv
  obtain ⟨N, hN⟩ : ∃ N : Int, (now : Int) = N := ⟨_, rfl⟩
  rw [hN] at cr ht
  clear hN h bv
  by_cases h1 : t ≤ N
  · go_enter Tryd.func19, Tryd.ntmps19
    go_wp2_with fail
    go_ret
    exact ⟨rfl, HB.out⟩
  · have h2 : 1099511627776 < t := by omega
    go_enter Tryd.func19, Tryd.ntmps19
    go_wp2_with fail
    go_ret
    exact ⟨rfl, HB.out⟩
/-- A timer that no one of a list is behind goes to its end. -/
theorem ins_last {x : Tm} : ∀ {l : List Tm}, (∀ y ∈ l, ¬ tlt x y) → ins x l = l ++ [x]
  | [], _ => rfl
  | y :: l, h => by
    unfold ins
    rw [if_neg (h y (List.mem_cons_self ..)), ins_last fun z hz => h z (List.mem_cons_of_mem _ hz)]
    rfl
theorem ins_here {x z : Tm} : ∀ {l : List Tm}, (∀ y ∈ l, ¬ tlt x y) → tlt x z → ins x (l ++ [z]) = l ++ [x] ++ [z]
  | [], _, hz => by
    show ins x [z] = [x] ++ [z]
    unfold ins
    rw [if_pos hz]
    rfl
  | y :: l, h, hz => by
    show ins x (y :: (l ++ [z])) = _
    unfold ins
    rw [if_neg (h y (List.mem_cons_self ..)), ins_here (fun w hw => h w (List.mem_cons_of_mem _ hw)) hz]
    rfl
theorem ins_snoc {x z : Tm} : ∀ {l : List Tm}, (∃ y ∈ l, tlt x y) → ins x (l ++ [z]) = ins x l ++ [z]
  | [], h => by obtain ⟨y, hy, _⟩ := h; cases hy
  | y :: l, h => by
    show ins x (y :: (l ++ [z])) = ins x (y :: l) ++ [z]
    unfold ins
    by_cases hy : tlt x y
    · rw [if_pos hy, if_pos hy]; rfl
    · rw [if_neg hy, if_neg hy]
      obtain ⟨u, hu, hxu⟩ := h
      rcases List.mem_cons.1 hu with rfl | hu
      · exact absurd hxu hy
      · rw [ins_snoc ⟨u, hu, hxu⟩]; rfl
end Go.Proofs.YtmldpmnkjbdoaaaDoor
