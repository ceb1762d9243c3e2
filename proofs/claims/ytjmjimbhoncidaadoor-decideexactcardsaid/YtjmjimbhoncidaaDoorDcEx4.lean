/-
  DecideExact: asks in memory.
-/
import Derived.Test.YtjmjimbhoncidaaDoorDcEx3
namespace Go.Proofs.YtjmjimbhoncidaaDoor
open Go.RowKit

structure AskV where
  kd : Int
  e : Bool
  a : Int
  p : Int
  st : Int
  lf : Int
  d : Bool
  c : ByteArray
  n : Int
  on : Bool
  s : ByteArray
/-- Asks in memory. -/
def Asks (w : World) (ao : Option Addr) (xs : List AskV) : Prop :=
  ∀ k x, xs[k]? = some x → ∃ b o, ao = some ⟨b, o, none⟩ ∧ b < w.heap.size ∧ w.cell? ⟨b, o + k * 11, none⟩ = some (.int .i64 x.kd) ∧ w.cell? ⟨b, o + k * 11 + 1, none⟩ = some (.bool x.e) ∧ w.cell? ⟨b, o + k * 11 + 2, none⟩ = some (.int .i64 x.a) ∧ w.cell? ⟨b, o + k * 11 + 3, none⟩ = some (.int .i64 x.p) ∧ w.cell? ⟨b, o + k * 11 + 4, none⟩ = some (.int .i64 x.st) ∧ w.cell? ⟨b, o + k * 11 + 5, none⟩ = some (.int .i64 x.lf) ∧ w.cell? ⟨b, o + k * 11 + 6, none⟩ = some (.bool x.d) ∧ w.cell? ⟨b, o + k * 11 + 7, none⟩ = some (.string x.c) ∧ w.cell? ⟨b, o + k * 11 + 8, none⟩ = some (.int .i64 x.n) ∧ w.cell? ⟨b, o + k * 11 + 9, none⟩ = some (.bool x.on) ∧ w.cell? ⟨b, o + k * 11 + 10, none⟩ = some (.string x.s)
theorem Asks.below {w w' : World} {ao : Option Addr} {xs : List AskV} (h : Asks w ao xs) (hb : Below w.heap.size w w') : Asks w' ao xs := fun k x hk => by
  obtain ⟨b, o, e, hl, c0, c1, c2, c3, c4, c5, c6, c7, c8, c9, c10⟩ := h k x hk
  have hc : ∀ q, w'.cell? ⟨b, q, none⟩ = w.cell? ⟨b, q, none⟩ := fun q => hb.cell (p := ⟨b, q, none⟩) hl
  exact ⟨b, o, e, Nat.lt_of_lt_of_le hl hb.size, by rw [hc]; exact c0, by rw [hc]; exact c1, by rw [hc]; exact c2, by rw [hc]; exact c3, by rw [hc]; exact c4, by rw [hc]; exact c5, by rw [hc]; exact c6, by rw [hc]; exact c7, by rw [hc]; exact c8, by rw [hc]; exact c9, by rw [hc]; exact c10⟩
theorem same_sub {V : World} {x y : Value} {l : ActL} {B : Nat} (hx : ActRow V B x l) (hy : ActRow V B y l) (hn : l.length ≤ 100) (z : Sub V) : Calls Tryd.prog 25 #[x, y] z.1 fun r x' => r = .returned (.bool true) ∧ ∃ q : Sub V, x' = q.1 :=
  (same_true (hx.below z.2).acts (hy.below z.2).acts hn).mono fun r w' ⟨h, m, e⟩ => ⟨h, ⟨w', by rw [e]; exact below_drewN z.2 m⟩, rfl⟩
end Go.Proofs.YtjmjimbhoncidaaDoor
