/-
  The law DiskZero, walked.
-/
import Derived.Test.YtaclonopgifgjaaDkUn
import Derived.Test.YtaclonopgifgjaaDkOps
namespace Go.Proofs.Ytaclonopgifgjaa
open Go.RowKit

set_option maxHeartbeats 400000 in
theorem New_any (w : World) : Calls Try.prog 19 #[] w fun e w' => e = .returned (.pointer (some ⟨w.heap.size, 0, none⟩)) ∧ w' = w.alloc (.cells #[.slice none 0 0, .int .i64 0, .slice none 0 0, .int .i64 0, .int .i64 1, .int .i64 (-1), .int .i64 0, .int .i64 0, .int .i64 0] 34) := by
  go_enter Try.func19, Try.ntmps19
  go_wp2
  go_ret
  exact ⟨rfl, rfl⟩
set_option maxHeartbeats 400000 in
theorem Alive_1 {K : Nat} (w : World) (h : w.cell? ⟨K, 4, none⟩ = some (.int .i64 1)) :
    Calls Try.prog 21 #[.pointer (some ⟨K, 0, none⟩)] w fun e w' => e = .returned (.bool true) ∧ w' = w := by
  go_enter Try.func21, Try.ntmps21
  go_wp2
  go_ret
  exact ⟨rfl, rfl⟩
set_option maxHeartbeats 400000 in
theorem Alive_2 {K : Nat} (w : World) (h : w.cell? ⟨K, 4, none⟩ = some (.int .i64 2)) :
    Calls Try.prog 21 #[.pointer (some ⟨K, 0, none⟩)] w fun e w' => e = .returned (.bool false) ∧ w' = w := by
  go_enter Try.func21, Try.ntmps21
  go_wp2
  go_ret
  exact ⟨rfl, rfl⟩

set_option maxRecDepth 100000 in
set_option maxHeartbeats 2000000 in
theorem zero_any {pl : Bool} {ao : Option Addr} {xs : List Opv} {len cap : Nat} (w : World) (hops : Ops w ao xs) (hxs : xs.length = len) (hl : len ≤ maxLen) (_hp : ∀ y ∈ xs, y.pl ≤ maxLen ∧ (y.po = none → y.pc = 0)) : Calls Try.prog 3 #[.bool pl, .slice ao len cap] w fun e w' => e = .returned (.bool true) ∧ Below w.heap.size w w' := by
  have HO : Hid (Ops w ao xs) := hops
  have HL : Hid (xs.length = len) := hxs
  unfold maxLen at hl
  clear hops hxs
  cases pl with
  | true =>
    have HU : Hid (Un (w.alloc (.cells #[.slice none 0 0, .int .i64 0, .slice none 0 0, .int .i64 0, .int .i64 0, .int .i64 0, .int .i64 0, .int .i64 0, .int .i64 0] 34)) (.pointer (some ⟨w.heap.size, 0, none⟩))) := Or.inr ⟨_, rfl, by simp⟩
    go_enter Try.func3, Try.ntmps3
    go_wp2_with fail
    obtain ⟨W0, hW0⟩ : ∃ W0, (w.alloc (.cells #[.slice none 0 0, .int .i64 0, .slice none 0 0, .int .i64 0, .int .i64 0, .int .i64 0, .int .i64 0, .int .i64 0, .int .i64 0] 34)) = W0 := ⟨_, rfl⟩
    obtain ⟨v, hv⟩ : ∃ v, Value.pointer (some ⟨w.heap.size, 0, none⟩) = v := ⟨_, rfl⟩
    have HW : Hid (Below w.heap.size w W0) := by unfold Hid; rw [← hW0]; exact (Below.refl _ _).alloc (Nat.le_refl _) _
    rw [hW0, hv] at HU
    rw [hW0, hv]
    clear hW0 hv
    go_loopw [6] (fun ti wx => ∃ k : Nat, k ≤ len ∧ ti = .int .i64 k ∧ Hid (Below W0.heap.size W0 wx)) (fun ti _ => len - (intOf ti).toNat)
    case atStart => exact ⟨0, Nat.zero_le _, rfl, Below.refl _ _⟩
    case round =>
      obtain ⟨k, hk, rfl, HB⟩ := hrel
      by_cases hlt : k < len
      · obtain ⟨x, hx⟩ : ∃ x, xs[k]? = some x := ⟨_, List.getElem?_eq_getElem (by rw [HL.out]; exact hlt)⟩
        obtain ⟨b, off, rfl, hat⟩ := HO.out k x hx
        clear hx
        have hat := (hat.below HW.out).below HB.out
        have HUr : Hid (Un wr v) := HU.out.below HB.out
        have c0 := hat.c0
        have c1 := hat.c1
        have c2 := hat.c2
        have c3 := hat.c3
        have c4 := hat.c4
        have c5 := hat.c5
        have c6 := hat.c6
        have c7 := hat.c7
        have c8 := hat.c8
        clear hat
        have hlt1 : (k : Int) < len := by omega
        go_wp2_with fail
        refine (Fuse_un _ _ (HUr.out.alloc _)).mono ?_
        rintro e w1 ⟨rfl, rfl⟩
        go_wp2_with fail
        refine (Crash_un _ _ _ _ _ (HUr.out.alloc _)).mono ?_
        rintro e w1 ⟨rfl, b1⟩
        have HB1 : Hid (Below (wr.alloc (.cells #[.int .i64 x.kd, .int .i64 x.ar, .int .i64 x.at_, .int .i64 x.n, .slice x.po x.pl x.pc, .int .i64 x.t0, .int .i64 x.t1, .int .i64 x.t2, .int .i64 x.t3] 39)).heap.size (wr.alloc (.cells #[.int .i64 x.kd, .int .i64 x.ar, .int .i64 x.at_, .int .i64 x.n, .slice x.po x.pl x.pc, .int .i64 x.t0, .int .i64 x.t1, .int .i64 x.t2, .int .i64 x.t3] 39)) w1) := b1
        have hb1 := bcell b1
        have HU1 : Hid (Un w1 v) := (HUr.out.alloc _).below b1
        clear b1
        go_wp2_with fail
        refine (Read_un _ _ _ _ HU1.out).mono ?_
        rintro e w2 ⟨p2, rfl, f2, b2⟩
        have HB2 : Hid (Below (wr.alloc (.cells #[.int .i64 x.kd, .int .i64 x.ar, .int .i64 x.at_, .int .i64 x.n, .slice x.po x.pl x.pc, .int .i64 x.t0, .int .i64 x.t1, .int .i64 x.t2, .int .i64 x.t3] 39)).heap.size (wr.alloc (.cells #[.int .i64 x.kd, .int .i64 x.ar, .int .i64 x.at_, .int .i64 x.n, .slice x.po x.pl x.pc, .int .i64 x.t0, .int .i64 x.t1, .int .i64 x.t2, .int .i64 x.t3] 39)) w2) := below_then HB1.out b2
        have HU2 : Hid (Un w2 v) := HU1.out.below b2
        have HF2 : Hid (FaultAt w2 p2 0 3) := f2
        clear hb1 HB1 HU1 f2
        have hb2 := bcell HB2.out
        clear b2
        go_wp2_with fail
        refine (Len_un _ _ HU2.out).mono ?_
        rintro e w3 ⟨p3, rfl, f3, b3⟩
        have HB3 : Hid (Below (wr.alloc (.cells #[.int .i64 x.kd, .int .i64 x.ar, .int .i64 x.at_, .int .i64 x.n, .slice x.po x.pl x.pc, .int .i64 x.t0, .int .i64 x.t1, .int .i64 x.t2, .int .i64 x.t3] 39)).heap.size (wr.alloc (.cells #[.int .i64 x.kd, .int .i64 x.ar, .int .i64 x.at_, .int .i64 x.n, .slice x.po x.pl x.pc, .int .i64 x.t0, .int .i64 x.t1, .int .i64 x.t2, .int .i64 x.t3] 39)) w3) := below_then HB2.out b3
        have HU3 : Hid (Un w3 v) := HU2.out.below b3
        have HF3 : Hid (FaultAt w3 p3 0 3) := f3
        replace HF2 : Hid (FaultAt w3 p2 0 3) := HF2.out.below b3
        clear hb2 HB2 HU2 f3
        have hb3 := bcell HB3.out
        clear b3
        go_wp2_with fail
        refine (Synced_un _ _ HU3.out).mono ?_
        rintro e w4 ⟨p4, rfl, f4, b4⟩
        have HB4 : Hid (Below (wr.alloc (.cells #[.int .i64 x.kd, .int .i64 x.ar, .int .i64 x.at_, .int .i64 x.n, .slice x.po x.pl x.pc, .int .i64 x.t0, .int .i64 x.t1, .int .i64 x.t2, .int .i64 x.t3] 39)).heap.size (wr.alloc (.cells #[.int .i64 x.kd, .int .i64 x.ar, .int .i64 x.at_, .int .i64 x.n, .slice x.po x.pl x.pc, .int .i64 x.t0, .int .i64 x.t1, .int .i64 x.t2, .int .i64 x.t3] 39)) w4) := below_then HB3.out b4
        have HU4 : Hid (Un w4 v) := HU3.out.below b4
        have HF4 : Hid (FaultAt w4 p4 0 3) := f4
        replace HF2 : Hid (FaultAt w4 p2 0 3) := HF2.out.below b4
        replace HF3 : Hid (FaultAt w4 p3 0 3) := HF3.out.below b4
        clear hb3 HB3 HU3 f4
        have hb4 := bcell HB4.out
        clear b4
        go_wp2_with fail
        refine (refused_zero _ (by decide) HF2.out).mono ?_
        rintro e w' ⟨rfl, rfl⟩
        go_wp2_with fail
        refine (refused_zero _ (by decide) HF3.out).mono ?_
        rintro e w' ⟨rfl, rfl⟩
        go_wp2_with fail
        refine (refused_zero _ (by decide) HF4.out).mono ?_
        rintro e w' ⟨rfl, rfl⟩
        clear HF2 HF3 HF4
        go_wp2_with fail
        refine (Append_un _ _ _ HU4.out).mono ?_
        rintro e w5 ⟨p5, rfl, f5, b5⟩
        have HB5 : Hid (Below (wr.alloc (.cells #[.int .i64 x.kd, .int .i64 x.ar, .int .i64 x.at_, .int .i64 x.n, .slice x.po x.pl x.pc, .int .i64 x.t0, .int .i64 x.t1, .int .i64 x.t2, .int .i64 x.t3] 39)).heap.size (wr.alloc (.cells #[.int .i64 x.kd, .int .i64 x.ar, .int .i64 x.at_, .int .i64 x.n, .slice x.po x.pl x.pc, .int .i64 x.t0, .int .i64 x.t1, .int .i64 x.t2, .int .i64 x.t3] 39)) w5) := below_then HB4.out b5
        have HU5 : Hid (Un w5 v) := HU4.out.below b5
        have HF5 : Hid (FaultAt w5 p5 0 3) := f5
        clear hb4 HB4 HU4 f5
        have hb5 := bcell HB5.out
        clear b5
        go_wp2_with fail
        refine (refused_zero _ (by decide) HF5.out).mono ?_
        rintro e w' ⟨rfl, rfl⟩
        clear HF5
        go_wp2_with fail
        refine (Sync_un _ _ HU5.out).mono ?_
        rintro e w6 ⟨p6, rfl, f6, b6⟩
        have HB6 : Hid (Below (wr.alloc (.cells #[.int .i64 x.kd, .int .i64 x.ar, .int .i64 x.at_, .int .i64 x.n, .slice x.po x.pl x.pc, .int .i64 x.t0, .int .i64 x.t1, .int .i64 x.t2, .int .i64 x.t3] 39)).heap.size (wr.alloc (.cells #[.int .i64 x.kd, .int .i64 x.ar, .int .i64 x.at_, .int .i64 x.n, .slice x.po x.pl x.pc, .int .i64 x.t0, .int .i64 x.t1, .int .i64 x.t2, .int .i64 x.t3] 39)) w6) := below_then HB5.out b6
        have HU6 : Hid (Un w6 v) := HU5.out.below b6
        have HF6 : Hid (FaultAt w6 p6 0 3) := f6
        clear hb5 HB5 HU5 f6
        have hb6 := bcell HB6.out
        clear b6
        go_wp2_with fail
        refine (refused_zero _ (by decide) HF6.out).mono ?_
        rintro e w' ⟨rfl, rfl⟩
        clear HF6
        go_wp2_with fail
        refine (Cut_un _ _ _ HU6.out).mono ?_
        rintro e w7 ⟨p7, rfl, f7, b7⟩
        have HB7 : Hid (Below (wr.alloc (.cells #[.int .i64 x.kd, .int .i64 x.ar, .int .i64 x.at_, .int .i64 x.n, .slice x.po x.pl x.pc, .int .i64 x.t0, .int .i64 x.t1, .int .i64 x.t2, .int .i64 x.t3] 39)).heap.size (wr.alloc (.cells #[.int .i64 x.kd, .int .i64 x.ar, .int .i64 x.at_, .int .i64 x.n, .slice x.po x.pl x.pc, .int .i64 x.t0, .int .i64 x.t1, .int .i64 x.t2, .int .i64 x.t3] 39)) w7) := below_then HB6.out b7
        have HU7 : Hid (Un w7 v) := HU6.out.below b7
        have HF7 : Hid (FaultAt w7 p7 0 3) := f7
        clear hb6 HB6 HU6 f7
        have hb7 := bcell HB7.out
        clear b7
        go_wp2_with fail
        refine (refused_zero _ (by decide) HF7.out).mono ?_
        rintro e w' ⟨rfl, rfl⟩
        go_wp2_with fail
        go_roundw
        case rel => exact ⟨k + 1, hlt, by go_num, HB.out.trans ((((Below.refl _ _).alloc (Nat.le_refl _) _).trans (HB7.out.mono (by simp))).mono HB.out.size)⟩
        case measure => simp [intOf]; omega
      · have hk2 : k = len := by omega
        have hlt1 : ¬ (k : Int) < len := by omega
        clear hlt hk
        subst hk2
        have HUr : Hid (Un wr v) := HU.out.below HB.out
        have HWr : Hid (Below w.heap.size w wr) := HW.out.trans (HB.out.mono HW.out.size)
        go_wp2_with fail
        refine (Image_un _ HUr.out).mono ?_
        rintro e w1 ⟨rfl, b1⟩
        have HB1 : Hid (Below w.heap.size w w1) := below_then HWr.out b1
        have HU1 : Hid (Un w1 v) := HUr.out.below b1
        clear b1
        go_wp2_with fail
        refine (New_any _).mono ?_
        rintro e w2 ⟨rfl, rfl⟩
        go_wp2_with fail
        refine (Counts_un _ ((HU1.out.alloc _).alloc _)).mono ?_
        rintro e w3 ⟨rfl, b3⟩
        have k3 : w3.cell? ⟨w1.heap.size + 1, 4, none⟩ = some (.int .i64 1) := by rw [b3.cell (p := ⟨w1.heap.size + 1, 4, none⟩) (by simp)]; simp
        have hb3 := bcell b3
        have HB3 : Hid (Below w.heap.size w w3) := below_then ((HB1.out.alloc HB1.out.size _).alloc (by have := HB1.out.size; simp; omega) _) b3
        have HU3 : Hid (Un w3 v) := ((HU1.out.alloc _).alloc _).below b3
        clear b3
        go_wp2_with fail
        refine (Alive_un _ HU3.out).mono ?_
        rintro e w' ⟨rfl, rfl⟩
        go_wp2_with fail
        refine (Alive_1 _ k3).mono ?_
        rintro e w'' ⟨rfl, rfl⟩
        go_wp2_with fail
        go_ret
        exact ⟨rfl, HB3.out⟩
  | false =>
    have HU : Hid (Un w (.pointer none)) := Or.inl rfl
    go_enter Try.func3, Try.ntmps3
    go_wp2_with fail
    obtain ⟨W0, hW0⟩ : ∃ W0, w = W0 := ⟨_, rfl⟩
    obtain ⟨v, hv⟩ : ∃ v, Value.pointer none = v := ⟨_, rfl⟩
    have HW : Hid (Below w.heap.size w W0) := by unfold Hid; rw [← hW0]; exact Below.refl _ _
    rw [hv] at HU
    subst hW0
    rw [hv]
    clear hv
    go_loopw [6] (fun ti wx => ∃ k : Nat, k ≤ len ∧ ti = .int .i64 k ∧ Hid (Below w.heap.size w wx)) (fun ti _ => len - (intOf ti).toNat)
    case atStart => exact ⟨0, Nat.zero_le _, rfl, Below.refl _ _⟩
    case round =>
      obtain ⟨k, hk, rfl, HB⟩ := hrel
      by_cases hlt : k < len
      · obtain ⟨x, hx⟩ : ∃ x, xs[k]? = some x := ⟨_, List.getElem?_eq_getElem (by rw [HL.out]; exact hlt)⟩
        obtain ⟨b, off, rfl, hat⟩ := HO.out k x hx
        clear hx
        have hat := (hat.below HW.out).below HB.out
        have HUr : Hid (Un wr v) := HU.out.below HB.out
        have c0 := hat.c0
        have c1 := hat.c1
        have c2 := hat.c2
        have c3 := hat.c3
        have c4 := hat.c4
        have c5 := hat.c5
        have c6 := hat.c6
        have c7 := hat.c7
        have c8 := hat.c8
        clear hat
        have hlt1 : (k : Int) < len := by omega
        go_wp2_with fail
        refine (Fuse_un _ _ (HUr.out.alloc _)).mono ?_
        rintro e w1 ⟨rfl, rfl⟩
        go_wp2_with fail
        refine (Crash_un _ _ _ _ _ (HUr.out.alloc _)).mono ?_
        rintro e w1 ⟨rfl, b1⟩
        have HB1 : Hid (Below (wr.alloc (.cells #[.int .i64 x.kd, .int .i64 x.ar, .int .i64 x.at_, .int .i64 x.n, .slice x.po x.pl x.pc, .int .i64 x.t0, .int .i64 x.t1, .int .i64 x.t2, .int .i64 x.t3] 39)).heap.size (wr.alloc (.cells #[.int .i64 x.kd, .int .i64 x.ar, .int .i64 x.at_, .int .i64 x.n, .slice x.po x.pl x.pc, .int .i64 x.t0, .int .i64 x.t1, .int .i64 x.t2, .int .i64 x.t3] 39)) w1) := b1
        have hb1 := bcell b1
        have HU1 : Hid (Un w1 v) := (HUr.out.alloc _).below b1
        clear b1
        go_wp2_with fail
        refine (Read_un _ _ _ _ HU1.out).mono ?_
        rintro e w2 ⟨p2, rfl, f2, b2⟩
        have HB2 : Hid (Below (wr.alloc (.cells #[.int .i64 x.kd, .int .i64 x.ar, .int .i64 x.at_, .int .i64 x.n, .slice x.po x.pl x.pc, .int .i64 x.t0, .int .i64 x.t1, .int .i64 x.t2, .int .i64 x.t3] 39)).heap.size (wr.alloc (.cells #[.int .i64 x.kd, .int .i64 x.ar, .int .i64 x.at_, .int .i64 x.n, .slice x.po x.pl x.pc, .int .i64 x.t0, .int .i64 x.t1, .int .i64 x.t2, .int .i64 x.t3] 39)) w2) := below_then HB1.out b2
        have HU2 : Hid (Un w2 v) := HU1.out.below b2
        have HF2 : Hid (FaultAt w2 p2 0 3) := f2
        clear hb1 HB1 HU1 f2
        have hb2 := bcell HB2.out
        clear b2
        go_wp2_with fail
        refine (Len_un _ _ HU2.out).mono ?_
        rintro e w3 ⟨p3, rfl, f3, b3⟩
        have HB3 : Hid (Below (wr.alloc (.cells #[.int .i64 x.kd, .int .i64 x.ar, .int .i64 x.at_, .int .i64 x.n, .slice x.po x.pl x.pc, .int .i64 x.t0, .int .i64 x.t1, .int .i64 x.t2, .int .i64 x.t3] 39)).heap.size (wr.alloc (.cells #[.int .i64 x.kd, .int .i64 x.ar, .int .i64 x.at_, .int .i64 x.n, .slice x.po x.pl x.pc, .int .i64 x.t0, .int .i64 x.t1, .int .i64 x.t2, .int .i64 x.t3] 39)) w3) := below_then HB2.out b3
        have HU3 : Hid (Un w3 v) := HU2.out.below b3
        have HF3 : Hid (FaultAt w3 p3 0 3) := f3
        replace HF2 : Hid (FaultAt w3 p2 0 3) := HF2.out.below b3
        clear hb2 HB2 HU2 f3
        have hb3 := bcell HB3.out
        clear b3
        go_wp2_with fail
        refine (Synced_un _ _ HU3.out).mono ?_
        rintro e w4 ⟨p4, rfl, f4, b4⟩
        have HB4 : Hid (Below (wr.alloc (.cells #[.int .i64 x.kd, .int .i64 x.ar, .int .i64 x.at_, .int .i64 x.n, .slice x.po x.pl x.pc, .int .i64 x.t0, .int .i64 x.t1, .int .i64 x.t2, .int .i64 x.t3] 39)).heap.size (wr.alloc (.cells #[.int .i64 x.kd, .int .i64 x.ar, .int .i64 x.at_, .int .i64 x.n, .slice x.po x.pl x.pc, .int .i64 x.t0, .int .i64 x.t1, .int .i64 x.t2, .int .i64 x.t3] 39)) w4) := below_then HB3.out b4
        have HU4 : Hid (Un w4 v) := HU3.out.below b4
        have HF4 : Hid (FaultAt w4 p4 0 3) := f4
        replace HF2 : Hid (FaultAt w4 p2 0 3) := HF2.out.below b4
        replace HF3 : Hid (FaultAt w4 p3 0 3) := HF3.out.below b4
        clear hb3 HB3 HU3 f4
        have hb4 := bcell HB4.out
        clear b4
        go_wp2_with fail
        refine (refused_zero _ (by decide) HF2.out).mono ?_
        rintro e w' ⟨rfl, rfl⟩
        go_wp2_with fail
        refine (refused_zero _ (by decide) HF3.out).mono ?_
        rintro e w' ⟨rfl, rfl⟩
        go_wp2_with fail
        refine (refused_zero _ (by decide) HF4.out).mono ?_
        rintro e w' ⟨rfl, rfl⟩
        clear HF2 HF3 HF4
        go_wp2_with fail
        refine (Append_un _ _ _ HU4.out).mono ?_
        rintro e w5 ⟨p5, rfl, f5, b5⟩
        have HB5 : Hid (Below (wr.alloc (.cells #[.int .i64 x.kd, .int .i64 x.ar, .int .i64 x.at_, .int .i64 x.n, .slice x.po x.pl x.pc, .int .i64 x.t0, .int .i64 x.t1, .int .i64 x.t2, .int .i64 x.t3] 39)).heap.size (wr.alloc (.cells #[.int .i64 x.kd, .int .i64 x.ar, .int .i64 x.at_, .int .i64 x.n, .slice x.po x.pl x.pc, .int .i64 x.t0, .int .i64 x.t1, .int .i64 x.t2, .int .i64 x.t3] 39)) w5) := below_then HB4.out b5
        have HU5 : Hid (Un w5 v) := HU4.out.below b5
        have HF5 : Hid (FaultAt w5 p5 0 3) := f5
        clear hb4 HB4 HU4 f5
        have hb5 := bcell HB5.out
        clear b5
        go_wp2_with fail
        refine (refused_zero _ (by decide) HF5.out).mono ?_
        rintro e w' ⟨rfl, rfl⟩
        clear HF5
        go_wp2_with fail
        refine (Sync_un _ _ HU5.out).mono ?_
        rintro e w6 ⟨p6, rfl, f6, b6⟩
        have HB6 : Hid (Below (wr.alloc (.cells #[.int .i64 x.kd, .int .i64 x.ar, .int .i64 x.at_, .int .i64 x.n, .slice x.po x.pl x.pc, .int .i64 x.t0, .int .i64 x.t1, .int .i64 x.t2, .int .i64 x.t3] 39)).heap.size (wr.alloc (.cells #[.int .i64 x.kd, .int .i64 x.ar, .int .i64 x.at_, .int .i64 x.n, .slice x.po x.pl x.pc, .int .i64 x.t0, .int .i64 x.t1, .int .i64 x.t2, .int .i64 x.t3] 39)) w6) := below_then HB5.out b6
        have HU6 : Hid (Un w6 v) := HU5.out.below b6
        have HF6 : Hid (FaultAt w6 p6 0 3) := f6
        clear hb5 HB5 HU5 f6
        have hb6 := bcell HB6.out
        clear b6
        go_wp2_with fail
        refine (refused_zero _ (by decide) HF6.out).mono ?_
        rintro e w' ⟨rfl, rfl⟩
        clear HF6
        go_wp2_with fail
        refine (Cut_un _ _ _ HU6.out).mono ?_
        rintro e w7 ⟨p7, rfl, f7, b7⟩
        have HB7 : Hid (Below (wr.alloc (.cells #[.int .i64 x.kd, .int .i64 x.ar, .int .i64 x.at_, .int .i64 x.n, .slice x.po x.pl x.pc, .int .i64 x.t0, .int .i64 x.t1, .int .i64 x.t2, .int .i64 x.t3] 39)).heap.size (wr.alloc (.cells #[.int .i64 x.kd, .int .i64 x.ar, .int .i64 x.at_, .int .i64 x.n, .slice x.po x.pl x.pc, .int .i64 x.t0, .int .i64 x.t1, .int .i64 x.t2, .int .i64 x.t3] 39)) w7) := below_then HB6.out b7
        have HU7 : Hid (Un w7 v) := HU6.out.below b7
        have HF7 : Hid (FaultAt w7 p7 0 3) := f7
        clear hb6 HB6 HU6 f7
        have hb7 := bcell HB7.out
        clear b7
        go_wp2_with fail
        refine (refused_zero _ (by decide) HF7.out).mono ?_
        rintro e w' ⟨rfl, rfl⟩
        go_wp2_with fail
        go_roundw
        case rel => exact ⟨k + 1, hlt, by go_num, HB.out.trans ((((Below.refl _ _).alloc (Nat.le_refl _) _).trans (HB7.out.mono (by simp))).mono HB.out.size)⟩
        case measure => simp [intOf]; omega
      · have hk2 : k = len := by omega
        have hlt1 : ¬ (k : Int) < len := by omega
        clear hlt hk
        subst hk2
        have HUr : Hid (Un wr v) := HU.out.below HB.out
        have HWr : Hid (Below w.heap.size w wr) := HW.out.trans (HB.out.mono HW.out.size)
        go_wp2_with fail
        refine (Image_un _ HUr.out).mono ?_
        rintro e w1 ⟨rfl, b1⟩
        have HB1 : Hid (Below w.heap.size w w1) := below_then HWr.out b1
        have HU1 : Hid (Un w1 v) := HUr.out.below b1
        clear b1
        go_wp2_with fail
        refine (New_any _).mono ?_
        rintro e w2 ⟨rfl, rfl⟩
        go_wp2_with fail
        refine (Counts_un _ ((HU1.out.alloc _).alloc _)).mono ?_
        rintro e w3 ⟨rfl, b3⟩
        have k3 : w3.cell? ⟨w1.heap.size + 1, 4, none⟩ = some (.int .i64 1) := by rw [b3.cell (p := ⟨w1.heap.size + 1, 4, none⟩) (by simp)]; simp
        have hb3 := bcell b3
        have HB3 : Hid (Below w.heap.size w w3) := below_then ((HB1.out.alloc HB1.out.size _).alloc (by have := HB1.out.size; simp; omega) _) b3
        have HU3 : Hid (Un w3 v) := ((HU1.out.alloc _).alloc _).below b3
        clear b3
        go_wp2_with fail
        refine (Alive_un _ HU3.out).mono ?_
        rintro e w' ⟨rfl, rfl⟩
        go_wp2_with fail
        refine (Alive_1 _ k3).mono ?_
        rintro e w'' ⟨rfl, rfl⟩
        go_wp2_with fail
        go_ret
        exact ⟨rfl, HB3.out⟩
end Go.Proofs.Ytaclonopgifgjaa
