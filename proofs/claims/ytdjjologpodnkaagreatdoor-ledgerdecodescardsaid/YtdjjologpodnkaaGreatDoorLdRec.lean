/-
  A record passed to the reader, field by field.
-/
import Derived.Test.YtdjjologpodnkaaGreatDoorLdFld2
import Derived.Deep.RegionHeld3
namespace Go.Proofs.YtdjjologpodnkaaGreatDoor
open Go.RowKit

/-- The fields from i on, read one behind the other. -/
def rdRec (bs : List Int) (p : Nat) (r : Rec) (i : Nat) : Nat → Except Nat (Rec × Nat)
  | 0 => .ok (r, p)
  | k + 1 => match rdFd bs p r (fdOf r i) with
    | .error e => .error e
    | .ok (r', p') => rdRec bs p' r' (i + 1) k
theorem rmt_pass (x : Value) (w : World) : (method 292 57 x "courier/ledger.pass").run Tryz.prog w = .ok (95, x) w := by kernel_rfl
theorem rna_pass (a : Addr) (w : World) : (nilAhead 292 57 (.pointer (some a)) "courier/ledger.pass").run Tryz.prog w = .ok (some false) w := by kernel_rfl
/-- What reading a record comes to. -/
def RecQ (w : World) (N fb rb : Nat) (po : Option Addr) (c : Nat) (bs : List Int) (r : Rec) (e : Ending) (z : World) : Prop :=
  (∃ n : Int, e = gaveUp n ∧ Hid (∃ m : Nat, n = m ∧ rdRec bs 0 r.bare 0 10 = .error m ∧ Off (fun q => q = fb ∨ q = rb) w z ∧ ∃ r' : Rec, Box z rb (#[.int .i64 r'.kd, .string r'.ct, .slice r'.tp r'.tn r'.tc, .bool r'.e, .int .i64 r'.a, .int .i64 r'.p, .int .i64 r'.nu, .int .i64 r'.tk, .int .i64 r'.st, .string r'.cd, .slice r'.cp r'.cn r'.cc, .slice r'.ap r'.an r'.ac]))) ∨
  (e = .returned (.tuple #[]) ∧ Hid (∃ r' p', rdRec bs 0 r.bare 0 10 = .ok (r'.bare, p') ∧ RdI z N fb rb po c bs p' r' ∧ Off (fun q => q = fb ∨ q = rb) w z))
theorem fdOf_bare (bs : List Int) (p : Nat) (r : Rec) {i : Nat} (hi : i < 10) : rdFd bs p r.bare (fdOf r i) = rdFd bs p r.bare (fdOf r.bare i) := by
  rcases ten hi with rfl | rfl | rfl | rfl | rfl | rfl | rfl | rfl | rfl | rfl
  all_goals (unfold Rec.bare; simp only [fdOf]; try (repeat' split))
  all_goals (first | rfl | simp_all [rdFd] | contradiction)
set_option maxRecDepth 100000 in
set_option maxHeartbeats 4000000 in
theorem rpassRecord_any {w : World} {N fb rb : Nat} {po : Option Addr} {c : Nat} {bs : List Int} {r : Rec} (h : RdI w N fb rb po c bs 0 r) :
    Calls Tryz.prog 25 #[.iface 57 (.pointer (some ⟨fb, 0, none⟩)), .pointer (some ⟨rb, 0, none⟩)] w (RecQ w N fb rb po c bs r) := by
  have HA : Hid (RdI w N fb rb po c bs 0 r) := h
  have cfs := fields_any w
  have hidx : ∀ (i : Nat), i < 10 → ∀ w, _ := fun i h w => idx_any h w
  have hmp := rmt_pass (.pointer (some ⟨fb, 0, none⟩))
  have hnp := rna_pass ⟨fb, 0, none⟩
  clear h
  generalize fdA = FA at cfs hidx
  go_enter Tryz.func25, Tryz.ntmps25
  go_wp2_with fail
  refine cfs.mono ?_
  rintro _ w1 ⟨rfl, b1⟩
  have HB1 : Hid (Below w.heap.size w w1) := b1
  clear cfs b1
  go_wp2_with fail
  go_loopw [7] (fun t wx => ∃ i : Nat, i ≤ 10 ∧ t = .int .i64 i ∧ Hid (∃ r' p', rdRec bs 0 r.bare 0 10 = rdRec bs p' r'.bare i (10 - i) ∧ RdI wx N fb rb po c bs p' r' ∧ Off (fun q => q = fb ∨ q = rb) w wx)) (fun t _ => 10 - (intOf t).toNat)
  case atStart => exact ⟨0, Nat.zero_le _, rfl, r, 0, rfl, HA.out.below HB1.out, Off.of_below HB1.out⟩
  case round =>
    obtain ⟨i, hi, rfl, HI⟩ := hrel
    by_cases hlt : i < 10
    · have hlt1 : (i : Int) < 10 := by omega
      have hix := hidx i hlt
      obtain ⟨r1, p1, HI⟩ := HI.out
      have HI : Hid (rdRec bs 0 r.bare 0 10 = rdRec bs p1 r1.bare i (10 - i) ∧ RdI wr N fb rb po c bs p1 r1 ∧ Off (fun q => q = fb ∨ q = rb) w wr) := HI
      have hen : ∀ (args : Array Value) (x : World), (callFunc (fnI i) args).run Tryz.prog x = .ok (.enter (fnI i) args) x := en_any hlt
      have hof : ∀ z, Below wr.heap.size wr z → Calls Tryz.prog (fnI i) #[.pointer (some ⟨rb, 0, none⟩)] z fun e z' => e = .returned (fdV rb (fdOf r1 i)) ∧ z' = z := fun z hz => of_any hlt r1 rb z (HI.out.2.1.box.below hz)
      have hps : ∀ z, Below wr.heap.size wr z → ∀ g, z.cell? ⟨g, 0, none⟩ = some (fdV rb (fdOf r1 i)) → Calls Tryz.prog 95 #[.pointer (some ⟨fb, 0, none⟩), .slice (some ⟨g, 0, none⟩) 1 1] z fun e z' => (∃ n : Int, e = gaveUp n ∧ Hid (∃ m : Nat, n = m ∧ rdRec bs 0 r.bare 0 10 = .error m ∧ Off (fun q => q = fb ∨ q = rb) w z' ∧ ∃ r' : Rec, Box z' rb (#[.int .i64 r'.kd, .string r'.ct, .slice r'.tp r'.tn r'.tc, .bool r'.e, .int .i64 r'.a, .int .i64 r'.p, .int .i64 r'.nu, .int .i64 r'.tk, .int .i64 r'.st, .string r'.cd, .slice r'.cp r'.cn r'.cc, .slice r'.ap r'.an r'.ac]))) ∨ (e = .returned (.tuple #[]) ∧ Hid (∃ r' p', rdRec bs 0 r.bare 0 10 = rdRec bs p' r'.bare (i + 1) (10 - (i + 1)) ∧ RdI z' N fb rb po c bs p' r' ∧ Off (fun q => q = fb ∨ q = rb) w z')) := fun z hz g hg => by
        refine (rpass_any (HI.out.2.1.below hz) (fdOf r1 i) (fdOf_sh r1 hlt) hg).mono ?_
        have hk : 10 - i = (10 - (i + 1)) + 1 := by omega
        rintro e z' (⟨n, rfl, H⟩ | ⟨rfl, H⟩)
        · obtain ⟨m, rfl, H1, H2⟩ := H.out
          refine Or.inl ⟨m, rfl, m, rfl, ?_, HI.out.2.2.trans ((Off.of_below hz).join H2.1 fun _ _ g => g), H2.2⟩
          rw [HI.out.1, hk, rdRec, ← fdOf_bare _ _ _ hlt, H1]
        · obtain ⟨r', p', H1, H2, H3⟩ := H.out
          refine Or.inr ⟨rfl, r', p', ?_, H2, HI.out.2.2.trans ((Off.of_below hz).join H3 fun _ _ g => g)⟩
          rw [HI.out.1, hk, rdRec, ← fdOf_bare _ _ _ hlt, H1]
      generalize fnI i = F at hix hof hen
      obtain ⟨T, pv, hpv⟩ := fdV_iface rb (fdOf r1 i)
      simp only [hpv] at hof
      simp only [hpv] at hps
      clear hpv
      have HOF : Hid (∀ z, Below wr.heap.size wr z → Calls Tryz.prog F #[.pointer (some ⟨rb, 0, none⟩)] z fun e z' => e = .returned (.iface T pv) ∧ z' = z) := hof
      have HPS : Hid (∀ z, Below wr.heap.size wr z → ∀ g, z.cell? ⟨g, 0, none⟩ = some (.iface T pv) → Calls Tryz.prog 95 #[.pointer (some ⟨fb, 0, none⟩), .slice (some ⟨g, 0, none⟩) 1 1] z fun e z' => (∃ n : Int, e = gaveUp n ∧ Hid (∃ m : Nat, n = m ∧ rdRec bs 0 r.bare 0 10 = .error m ∧ Off (fun q => q = fb ∨ q = rb) w z' ∧ ∃ r' : Rec, Box z' rb (#[.int .i64 r'.kd, .string r'.ct, .slice r'.tp r'.tn r'.tc, .bool r'.e, .int .i64 r'.a, .int .i64 r'.p, .int .i64 r'.nu, .int .i64 r'.tk, .int .i64 r'.st, .string r'.cd, .slice r'.cp r'.cn r'.cc, .slice r'.ap r'.an r'.ac]))) ∨ (e = .returned (.tuple #[]) ∧ Hid (∃ r' p', rdRec bs 0 r.bare 0 10 = rdRec bs p' r'.bare (i + 1) (10 - (i + 1)) ∧ RdI z' N fb rb po c bs p' r' ∧ Off (fun q => q = fb ∨ q = rb) w z'))) := hps
      clear hof hps hidx HI
      go_wp2_with fail
      go_region_law (first | (go_simp; go_at_call 95; refine (HPS.out _ ?_ _ ?_).mono ?_; (repeat' (first | exact Below.refl _ _ | (refine Below.alloc ?_ (by simp) _) | refine Below.drew ?_)); (simp); rintro _ w5 (⟨n5, rfl, H5⟩ | ⟨rfl, H5⟩); (first | exact ⟨rfl, Or.inl ⟨n5, rfl, H5⟩⟩ | exact Or.inl ⟨n5, rfl, H5⟩); go_wp2_with fail) | (go_simp; refine (HOF.out _ ?_).mono ?_; (repeat' (first | exact Below.refl _ _ | refine Below.drew ?_)); rintro _ w9 ⟨rfl, h9⟩; subst w9; go_wp2_with fail))
      all_goals
        clear HOF HPS
        go_wp2_with fail
        go_roundw
        case rel => exact ⟨i + 1, hlt, by go_num, H5⟩
        case measure => simp [intOf]; omega
    · have hlt1 : ¬ (i : Int) < 10 := by omega
      obtain rfl : i = 10 := by omega
      have HI2 : Hid (∃ r' p', rdRec bs 0 r.bare 0 10 = .ok (r'.bare, p') ∧ RdI wr N fb rb po c bs p' r' ∧ Off (fun q => q = fb ∨ q = rb) w wr) := HI.out
      clear HI hidx
      go_wp2_with fail
      go_end0
      exact Or.inr ⟨rfl, HI2⟩
end Go.Proofs.YtdjjologpodnkaaGreatDoor
