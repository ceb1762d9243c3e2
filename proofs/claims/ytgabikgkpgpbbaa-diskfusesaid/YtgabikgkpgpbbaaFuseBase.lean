/-
  DiskFuse's loop, cut into declarations: its body, its frame, what holds at each round.
-/
import Derived.Test.YtgabikgkpgpbbaaDkDoes2
namespace Go.Proofs.Ytgabikgkpgpbbaa
open Go.RowKit

/-- How fuse, what is left of it, and the disk stand. -/
def RF (F L st fu na ns nc : Int) : Prop := (F < 0 ∧ st = 1 ∧ fu = -1) ∨ (0 ≤ F ∧ 0 ≤ L ∧ L ≤ F ∧ st = 1 ∧ fu = L ∧ na + ns + nc ≤ F - L) ∨ (0 ≤ F ∧ L = -1 ∧ st = 2 ∧ na + ns + nc ≤ F)
theorem ct_le (n : Int) : ct n ≤ n + 1 := by unfold ct; split <;> omega
def firstLoop : Code → Option Code
  | .loop c => some c
  | .seq a b => match firstLoop a with
    | some c => some c
    | none => firstLoop b
  | .block _ c => firstLoop c
  | .scope c => firstLoop c
  | .cond _ a b => match firstLoop a with
    | some c => some c
    | none => firstLoop b
  | _ => none
noncomputable def fuseBody : Code := ((Try.f3.body.bind firstLoop).getD .skip)
/-- The frame: a letter for each slot that the loop writes. -/
def FuF (ao : Option Addr) (n cap : Nat) (F : Int) (K S : Nat) (u : Nat → Value) : Act := ⟨#[.slice ao n cap, .int .i64 F, undef, undef, u 4, .pointer (some ⟨K, 0, none⟩), u 6, .pointer (some ⟨S, 0, none⟩), u 8, u 9, u 10, u 11, u 12, undef, .bool true, .bool false, .bool false, .agg #[.slice none 0 0, .slice none 0 0], .slice ao n cap, .bool false, .bool false, undef, .pointer (some ⟨K, 0, none⟩), .pointer (some ⟨K, 0, none⟩), .int .i64 F, .tuple #[], .int .i64 F, u 27, u 28, u 29, u 30, u 31, u 32, u 33, u 34, u 35, u 36, u 37, u 38, u 39, u 40, u 41, u 42, u 43, u 44, u 45, u 46, u 47, u 48, u 49, u 50, u 51, u 52, u 53, u 54, u 55, u 56, u 57, u 58, u 59, u 60, u 61, u 62, u 63, u 64, u 65, u 66, u 67, u 68, u 69, u 70, u 71, u 72, u 73, u 74, u 75, u 76, u 77, u 78, u 79, u 80, u 81, u 82, u 83, u 84, u 85, u 86, u 87, u 88, u 89, u 90, u 91, u 92, u 93, u 94, u 95, u 96, u 97, u 98, u 99, u 100, u 101, u 102, u 103, u 104, u 105, u 106, u 107, u 108, u 109, u 110, u 111, u 112, u 113, u 114, u 115, u 116, u 117, u 118, u 119, u 120, u 121, u 122, u 123, u 124, u 125, u 126, u 127, u 128, u 129, u 130, u 131, u 132, u 133, u 134, u 135, u 136, u 137, u 138, u 139, u 140, u 141, u 142, u 143, u 144, u 145, u 146, u 147, u 148, u 149, u 150, u 151, u 152, u 153, u 154, u 155, u 156, u 157, u 158, u 159, u 160, u 161, u 162, u 163, u 164, u 165, u 166, u 167, u 168, u 169, u 170, undef, undef, undef, undef, undef, undef, undef, undef, undef, undef, undef, undef, undef, undef, undef, undef], []⟩
def FuR (xs : List Opv) (F : Int) (K S : Nat) (W0 : World) (tl ti : Value) (wx : World) : Prop := ∃ (k : Nat) (L : Int) (v0 v1 : Value) (l0 l1 : Nat) (st fu na ns nc : Int), k ≤ xs.length ∧ ti = .int .i64 k ∧ tl = .int .i64 L ∧ wx.cell? ⟨S, 0, none⟩ = some (.int .i64 l0) ∧ wx.cell? ⟨S, 1, none⟩ = some (.int .i64 l1) ∧ (∀ o, wx.frozen? ⟨S, o, none⟩ = false) ∧ S < wx.heap.size ∧ Hid (DE wx K K v0 v1 l0 l1 st fu na ns nc ∧ RF F L st fu na ns nc ∧ Below K W0 wx ∧ ¬ Foot K v0 v1 S)
def FuI (ao : Option Addr) (xs : List Opv) (cap : Nat) (F : Int) (K S : Nat) (W0 : World) (a : Act) (wx : World) : Prop := ∃ u, a = FuF ao xs.length cap F K S u ∧ FuR xs F K S W0 (u 6) (u 8) wx
theorem FuI_of {ao : Option Addr} {xs : List Opv} {cap : Nat} {F : Int} {K S : Nat} {W0 : World} {a : Act} {wx : World} (h : a = FuF ao xs.length cap F K S (fun i => a.tmps.getD i undef)) (hr : FuR xs F K S W0 (a.tmps.getD 6 undef) (a.tmps.getD 8 undef) wx) : FuI ao xs cap F K S W0 a wx := ⟨_, h, hr⟩
def FuM (xs : List Opv) (a : Act) (_ : World) : Nat := xs.length - (intOf (a.tmps.getD 8 undef)).toNat
end Go.Proofs.Ytgabikgkpgpbbaa
