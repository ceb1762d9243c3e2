/-
  The document's Encode.
-/
import Derived.Test.YtdjjologpodnkaaGreatDoorLgRFld
namespace Go.Proofs.YtdjjologpodnkaaGreatDoor
open Go.RowKit

/-- The bytes of the fields from f on, by the document. -/
def rEnc (r : Rec) (k f : Nat) : Nat → List Int
  | 0 => []
  | n + 1 => (if nmB k f = true then rB r f else []) ++ rEnc r k (f + 1) n
theorem rEnc_snoc (r : Rec) (k : Nat) : ∀ (n f : Nat), rEnc r k f (n + 1) = rEnc r k f n ++ (if nmB k (f + n) = true then rB r (f + n) else [])
  | 0, f => by simp [rEnc]
  | n + 1, f => by
    rw [rEnc, rEnc_snoc r k n (f + 1), rEnc, List.append_assoc, show f + 1 + n = f + (n + 1) by omega]
theorem fd_eq (r : Rec) (k : Nat) (hk : r.kd = k) (h1 : 1 ≤ k) (h8 : k ≤ 8) {f : Nat} (h2 : 2 ≤ f) (h10 : f ≤ 10) : (if nmB k f = true then rB r f else []) = fdB (fdOf r (f - 1)) := by
  rcases nine h8 with rfl | rfl | rfl | rfl | rfl | rfl | rfl | rfl | rfl
  · omega
  all_goals
    rcases nine2 h2 h10 with rfl | rfl | rfl | rfl | rfl | rfl | rfl | rfl | rfl
  all_goals (simp only [fdOf, hk, Nat.reduceSub])
  all_goals (try cases hst : (r.st == 4))
  all_goals (first | rfl | (simp [nmB, rowsN, rB, fdB]; done) | skip)
theorem enc_eq (r : Rec) (k : Nat) (hk : r.kd = k) (h1 : 1 ≤ k) (h8 : k ≤ 8) : encR r = (k : Int) :: rEnc r k 2 9 := by
  have key : ∀ n f, 2 ≤ f → f + n ≤ 11 → rEnc r k f n = encFrom r (f - 1) n := by
    intro n
    induction n with
    | zero => intro f _ _; rfl
    | succ n ih =>
      intro f hf hn
      rw [rEnc, encFrom, fd_eq r k hk h1 h8 hf (by omega), ih (f + 1) (by omega) (by omega), show f + 1 - 1 = f - 1 + 1 by omega]
  unfold encR encFrom
  rw [key 9 2 (by omega) (by omega)]
  have h0 : fdB (fdOf r 0) = [(k : Int)] := by
    unfold fdOf fdB numL numL byN
    rw [hk]
    simp
    omega
  rw [h0]
  rfl
end Go.Proofs.YtdjjologpodnkaaGreatDoor
