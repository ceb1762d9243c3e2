/-
  Ops, each key once (of no program but for its rows); a list of Ops of the call's own.
-/
import Derived.Test.YtinigpneohogaaaWhTwo
namespace Go.Proofs.Ytinigpneohogaaa
open Go.RowKit

def hasK (k : Int) (xs : List Opv) : Bool := xs.any fun y => decide (y.key = k)
def onceStep (acc : List Opv) (y : Opv) : List Opv := if hasK y.key acc = true then acc else acc ++ [y]
def onceL (ys : List Opv) : List Opv := ys.foldl onceStep []
def DK (xs : List Opv) : Prop := xs.Pairwise fun a b => a.key ≠ b.key
theorem hasK_no {k : Int} {xs : List Opv} (h : hasK k xs = false) : ∀ y ∈ xs, y.key ≠ k := fun y hy e => by
  unfold hasK at h
  rw [List.any_eq_false] at h
  exact h y hy (decide_eq_true e)
theorem hasK_take {k : Int} {xs : List Opv} {j : Nat} {y : Opv} (h : xs[j]? = some y) : hasK k (xs.take (j + 1)) = (hasK k (xs.take j) || decide (y.key = k)) := by
  unfold hasK
  rw [List.take_add_one, h, Option.toList_some, List.any_append]
  simp
theorem onceL_step {i : Nat} {ys : List Opv} {y : Opv} (h : ys[i]? = some y) : onceL (ys.take (i + 1)) = onceStep (onceL (ys.take i)) y := by
  unfold onceL
  rw [List.take_add_one, h, Option.toList_some, List.foldl_append]
  rfl
theorem onceStep_dk {acc : List Opv} {y : Opv} (h : DK acc) : DK (onceStep acc y) := by
  unfold onceStep
  split
  · exact h
  · rename_i g
    refine List.pairwise_append.2 ⟨h, List.pairwise_singleton _ _, fun a ha b hb => ?_⟩
    rw [List.mem_singleton] at hb
    subst hb
    exact hasK_no (by simpa using g) a ha
theorem onceL_dk' : ∀ (ys acc : List Opv), DK acc → DK (ys.foldl onceStep acc)
  | [], _, h => h
  | y :: r, acc, h => onceL_dk' r (onceStep acc y) (onceStep_dk h)
theorem onceL_dk (ys : List Opv) : DK (onceL ys) := onceL_dk' ys [] List.Pairwise.nil
theorem onceL_len' : ∀ (ys acc : List Opv), (ys.foldl onceStep acc).length ≤ acc.length + ys.length
  | [], _ => by simp
  | y :: r, acc => by
    have h1 := onceL_len' r (onceStep acc y)
    have h2 : (onceStep acc y).length ≤ acc.length + 1 := by unfold onceStep; split <;> simp
    simp only [List.foldl_cons, List.length_cons]
    omega
theorem onceL_len (ys : List Opv) : (onceL ys).length ≤ ys.length := by have := onceL_len' ys []; unfold onceL; simpa using this
theorem onceL_mem' : ∀ (ys acc : List Opv), ∀ y ∈ ys.foldl onceStep acc, y ∈ acc ∨ y ∈ ys
  | [], _, y, h => Or.inl h
  | z :: r, acc, y, h => by
    rcases onceL_mem' r (onceStep acc z) y h with h | h
    · unfold onceStep at h
      split at h
      · exact Or.inl h
      · rcases List.mem_append.1 h with h | h
        · exact Or.inl h
        · rw [List.mem_singleton] at h; subst h; exact Or.inr (List.mem_cons_self ..)
    · exact Or.inr (List.mem_cons_of_mem _ h)
theorem onceL_mem {ys : List Opv} {y : Opv} (h : y ∈ onceL ys) : y ∈ ys := (onceL_mem' ys [] y h).resolve_left (by simp)
def okO (now : Nat) (y : Opv) : Bool := okT now y.tick
def tmO (y : Opv) : Tm := (y.key, y.tick.toNat)
theorem setsS_perm (now : Nat) : ∀ (ys : List Opv) (S : List Tm), DK ys → (∀ y ∈ ys, ∀ x ∈ S, x.1 ≠ y.key) → (setsS now S ys).Perm ((ys.filter (okO now)).map tmO ++ S)
  | [], S, _, _ => List.Perm.refl _
  | y :: r, S, hd, hs => by
    have h1 := List.pairwise_cons.1 hd
    show (setsS now (setOp now S y) r).Perm _
    by_cases hok : okO now y = true
    · have e1 : setOp now S y = setS y.key y.tick.toNat S := by unfold setOp; rw [if_pos (show okT now y.tick = true from hok)]
      have hf : S.filter (keyNe y.key) = S := List.filter_eq_self.2 fun x hx => decide_eq_true (hs y (List.mem_cons_self ..) x hx)
      have hp : (setS y.key y.tick.toNat S).Perm (tmO y :: S) := by have := setS_perm y.key y.tick.toNat S; rw [hf] at this; exact this
      rw [e1, List.filter_cons_of_pos hok, List.map_cons]
      refine (setsS_perm now r _ h1.2 fun z hz x hx => ?_).trans ?_
      · rcases List.mem_cons.1 (hp.subset hx) with rfl | hx
        · exact h1.1 z hz
        · exact hs z (List.mem_cons_of_mem _ hz) x hx
      · exact (List.Perm.append_left _ hp).trans List.perm_middle
    · have e1 : setOp now S y = S := by unfold setOp; rw [if_neg (show ¬ okT now y.tick = true from hok)]
      rw [e1, List.filter_cons_of_neg hok]
      exact setsS_perm now r S h1.2 fun z hz => hs z (List.mem_cons_of_mem _ hz)
theorem setsS_held {now : Nat} : ∀ (ys : List Opv) (S : List Tm), Held now S → Held now (setsS now S ys)
  | [], _, h => h
  | y :: r, S, h => by
    refine setsS_held r (setOp now S y) ?_
    unfold setOp
    split
    · rename_i g
      unfold okT at g
      simp only [Bool.and_eq_true, decide_eq_true_eq] at g
      exact h.set (by omega) (by unfold MaxT; omega)
    · exact h
theorem held_nil {now : Nat} (h : now ≤ MaxT) : Held now [] := ⟨List.Pairwise.nil, List.Pairwise.nil, fun x hx => (by cases hx), h⟩
theorem setsS_rev {now : Nat} {ys : List Opv} (hn : now ≤ MaxT) (h : DK ys) : setsS now [] ys.reverse = setsS now [] ys := by
  have h1 := setsS_perm now ys [] h (fun _ _ _ hx => by cases hx)
  have h2 := setsS_perm now ys.reverse [] (List.pairwise_reverse.2 (h.imp fun g e => g e.symm)) (fun _ _ _ hx => by cases hx)
  refine (setsS_held _ _ (held_nil hn)).srt.eq (setsS_held _ _ (held_nil hn)).srt (h2.trans (List.Perm.trans ?_ h1.symm))
  simp only [List.append_nil]
  exact ((List.reverse_perm ys).filter _).map _
/-! ### rows of Ops -/
def encO (y : Opv) : List Value := [.int .i64 y.kind, .int .i64 y.key, .string y.text, .int .i64 y.tick]
theorem encO_len (y : Opv) : (encO y).length = 4 := rfl
theorem encO_one (y : Opv) : ∀ u ∈ encO y, u.oneCell' = true := fun u hu => by
  simp only [encO, List.mem_cons, List.not_mem_nil, or_false] at hu
  rcases hu with rfl | rfl | rfl | rfl <;> rfl
abbrev ORow (w : World) (B : Nat) (v : Value) (ys : List Opv) : Prop := ERow w B 32 4 encO v ys
theorem celO : Cel Try.prog 32 4 40 := cel_of (by kernel_rfl)
theorem ORow.opl {w : World} {B n c : Nat} {a : Option Addr} {ys : List Opv} (h : ORow w B (.slice a n c) ys) : Opl w a ys := fun i y hy => by
  obtain ⟨g, e, hg, hc⟩ := h.at_ encO_len hy
  refine ⟨g, 0, e, hg, ?_, ?_, ?_, ?_⟩ <;> rw [Nat.zero_add]
  · exact hc 0 (by omega)
  · exact hc 1 (by omega)
  · exact hc 2 (by omega)
  · exact hc 3 (by omega)
end Go.Proofs.Ytinigpneohogaaa
