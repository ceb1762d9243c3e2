/-
  InboxKeeps: what its walk asks.
-/
import Derived.Test.YtnpndbehbcaghaaDoorIbKeepG
import Derived.Test.YtnpndbehbcaghaaDoorIbKeepR
import Derived.Test.YtnpndbehbcaghaaDoorIbLives2
namespace Go.Proofs.YtnpndbehbcaghaaDoor
open Go.RowKit

def wiN (k : Int) (n : Nat) : Nat := if Int.tmod k (n : Int) < 0 then (Int.tmod k (n : Int) + n).toNat else (Int.tmod k (n : Int)).toNat
theorem wiN_lt (k : Int) {n : Nat} (h0 : 0 < n) : wiN k n < n := by
  have h1 : -(n : Int) < Int.tmod k n := by have := Int.lt_tmod_of_pos k (show (0 : Int) < n by omega); omega
  have h2 := Int.tmod_lt_of_pos k (show (0 : Int) < n by omega)
  unfold wiN
  split <;> omega
set_option maxHeartbeats 2000000 in
theorem within_eq (k : Int) {n : Nat} (w : World) (h0 : 0 < n) (hn : n ≤ 1000000) {j : Nat} (hj : wiN k n = j) : Calls Tryd.prog 10 #[.int .i64 k, .int .i64 (n : Int)] w fun r w' => r = .returned (.int .i64 (j : Int)) ∧ w' = w := by
  have q0 : ¬ (n : Int) ≤ 0 := by omega
  have q1 : ((n : Int) == 0) = false := by rw [beq_eq_false_iff_ne]; omega
  unfold wiN at hj
  obtain ⟨m, hm⟩ : ∃ m, Int.tmod k (n : Int) = m := ⟨_, rfl⟩
  have hr : -(n : Int) < m ∧ m < n := by
    rw [← hm]
    exact ⟨by have := Int.lt_tmod_of_pos k (show (0 : Int) < n by omega); omega, Int.tmod_lt_of_pos k (by omega)⟩
  rw [hm] at hj
  have q2 : IntKind.i64.wrap m = m := by rw [IntKind.wrap_i64]; omega
  by_cases hneg : m < 0
  · have q3 : IntKind.i64.wrap (m + (n : Int)) = m + n := by rw [IntKind.wrap_i64]; omega
    have HJ : Hid (m + (n : Int) = (j : Int)) := by unfold Hid; rw [if_pos hneg] at hj; omega
    clear hr hj
    go_enter Tryd.func10, Tryd.ntmps10
    go_wp2_with fail
    go_ret
    exact ⟨ret_int HJ.out, rfl⟩
  · have HJ : Hid (m = (j : Int)) := by unfold Hid; rw [if_neg hneg] at hj; omega
    clear hr hj
    go_enter Tryd.func10, Tryd.ntmps10
    go_wp2_with fail
    go_ret
    exact ⟨ret_int HJ.out, rfl⟩
/-- The codes of verdicts. -/
def cdS : Nat → ByteArray
  | 0 => ⟨#[65, 65]⟩
  | 1 => ⟨#[65, 69]⟩
  | _ => ⟨#[65, 82]⟩
theorem vdAE : vdB ⟨#[65, 69]⟩ = true := by kernel_rfl
theorem vdAR : vdB ⟨#[65, 82]⟩ = true := by kernel_rfl
theorem cdS_vd : ∀ j : Nat, vdB (cdS j) = true
  | 0 => vdAA
  | 1 => vdAE
  | _ + 2 => vdAR
def PVk (w : World) : Prop := ∀ j, j < 3 → w.cell? ⟨0, j, none⟩ = some (.string (cdS j))
theorem PVk.below {B : Nat} {w w' : World} (h : PVk w) (hb : Below B w w') (hB : 0 < B) : PVk w' := fun j hj => by
  rw [hb.cell (p := ⟨0, j, none⟩) hB]; exact h j hj
/-- A step that came in. -/
structure Stv where
  de : Bool
  n : Int
  cd : Int
  e : Ent
def encT (y : Stv) : List Value := [.bool y.de, .int .i64 y.n, .int .i64 y.cd, .string y.e.ct, .slice y.e.tp y.e.tn y.e.tc, .int .i64 y.e.nu, .int .i64 y.e.tk, .slice y.e.cp y.e.cn y.e.cc, .string y.e.cd, .slice y.e.ap y.e.an y.e.ac]
structure StAt (w : World) (b o : Nat) (y : Stv) : Prop where
  cell : ∀ q, q < 10 → w.cell? ⟨b, o + q, none⟩ = (encT y)[q]?
  lies : Lies w y.e
def Sts (w : World) (ao : Option Addr) (xs : List Stv) : Prop := ∀ (k : Nat) (y : Stv), xs[k]? = some y → ∃ b off, ao = some ⟨b, off, none⟩ ∧ b < w.heap.size ∧ StAt w b (off + k * 10) y
theorem StAt.below {w w' : World} {b o : Nat} {y : Stv} (h : StAt w b o y) (hl : b < w.heap.size) (hb : Below w.heap.size w w') : StAt w' b o y :=
  ⟨fun q hq => by rw [hb.cell (p := ⟨b, o + q, none⟩) hl]; exact h.cell q hq, h.lies.below hb⟩
section
variable {w w' : World} {B b sb M : Nat} {v : Value} {K R : Int} {es es' : List Ent} {B' n c g : Nat} {u : Value} {l : List Bk}
theorem krow_type (h : KRow w B' u l) (hg : u.ownBlock = some g) : ∃ cs, w.heap[g]? = some (.cells cs 42 (0, 0)) := by
  rcases h.2 with ⟨rfl, _⟩ | ⟨g1, c1, u1, rfl, _, b1, _⟩
  · cases hg
  · simp only [Value.ownBlock, Option.some.injEq] at hg
    subst hg
    exact ⟨_, b1⟩
/-- The law's list lies apart from the box. -/
theorem Bx.ne_book (h : Bx w B b sb M v K R es) (hk : KRow w B' u l) (hg : u.ownBlock = some g) : ¬ Ft sb M v g ∧ b ≠ g := by
  obtain ⟨cs, b1⟩ := krow_type hk hg
  refine ⟨?_, fun e => ?_⟩
  · rintro (rfl | rfl | hq)
    · have := h.sh.blk
      rw [b1] at this
      simp at this
    · obtain ⟨es', clock, hm⟩ := h.sh.map.isMap
      rw [b1] at hm
      simp at hm
    · obtain ⟨cs', h1⟩ := row_type h.sh.row hq
      rw [b1] at h1
      simp at h1
  · have := h.blk
    rw [e, b1] at this
    simp at this
theorem krow_bx (h : Bx w B b sb M v K R es) (hq : BxQ w B b sb M v K R es' w') (hk : KRow w B' u l) : KRow w' B' u l := by
  obtain ⟨v', h1, h2, _⟩ := hq
  exact ERow.off hk h2 fun g hg => (h.ne_book hk hg).1
/-- What changes the law's list alone keeps the box. -/
theorem Bx.book (h : Bx w B b sb M v K R es) (hk : KRow w B' (.slice (some ⟨g, 0, none⟩) n c) l) (ho : Off (fun q => q = g) w w') : Bx w' B b sb M v K R es := by
  have hne := h.ne_book hk (g := g) rfl
  obtain ⟨cs, b1⟩ := krow_type hk (g := g) rfl
  exact ⟨(ho.block b h.lt hne.2).trans h.blk, h.sh.off ho fun q hq e => hne.1 (e ▸ hq), fun e he => (h.own e he).byType ho fun q cs' hq e2 => by
    rw [e2, b1] at hq
    simp at hq, h.lb, h.ls, h.lm, h.inv⟩
end
end Go.Proofs.YtnpndbehbcaghaaDoor
