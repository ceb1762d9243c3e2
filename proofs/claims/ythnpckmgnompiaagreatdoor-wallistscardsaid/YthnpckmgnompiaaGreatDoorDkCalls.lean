/-
  A disk that was made: Append, Sync, Cut, Len, Synced, Fuse, Alive.
-/
import Derived.Test.YthnpckmgnompiaaGreatDoorDkDisk
namespace Go.Proofs.YthnpckmgnompiaaGreatDoor
open Go.RowKit

theorem Byts.off {P : Nat → Prop} {w w' : World} {po : Option Addr} {n : Nat} {bs : List Int} (h : Byts w po n bs) (ho : Off P w w') (hP : ∀ b o, po = some ⟨b, o, none⟩ → ¬ P b) : Byts w' po n bs :=
  ⟨h.len, fun j hj => by
    obtain ⟨b, o, e, hl, hc⟩ := h.cell j hj
    exact ⟨b, o, e, Nat.lt_of_lt_of_le hl ho.size, by rw [ho.cell (p := ⟨b, o + j, none⟩) hl (hP b o e)]; exact hc⟩⟩
theorem FaultAt.off {P : Nat → Prop} {w w' : World} {b : Nat} {a c : Int} (h : FaultAt w b a c) (ho : Off P w w') (hn : ¬ P b) : FaultAt w' b a c := by
  have hl : b < w.heap.size := cell_lt h.1
  have e : ∀ q, w'.cell? ⟨b, q, none⟩ = w.cell? ⟨b, q, none⟩ := fun q => ho.cell (p := ⟨b, q, none⟩) hl hn
  exact ⟨by rw [e]; exact h.1, by rw [e]; exact h.2.1, by rw [e]; exact h.2.2.1, by rw [e]; exact h.2.2.2⟩
set_option maxHeartbeats 1000000 in
theorem Append0_ok {w : World} {B K : Nat} {v0 v1 : Value} {x0 x1 : List Int} {s0 s1 : Nat} {fu na ns nc : Int} {po : Option Addr} {m c : Nat} {bs : List Int} (hb : Byts w po m bs) (hpo : po = none → c = 0) (hfar : ∀ b o, po = some ⟨b, o, none⟩ → ¬ Foot K v0 v1 b) (h : Dsk w B K v0 v1 x0 x1 s0 s1 1 fu na ns nc) (hf : fu ≠ 0) (hl : x0.length + m ≤ 16777216) : Calls Tryz.prog 54 #[.pointer (some ⟨K, 0, none⟩), .int .i64 0, .slice po m c] w fun e w' => e = .returned .nilIface ∧ ∃ v', Dsk w' B K v' v1 (x0 ++ bs) x1 s0 s1 1 (fz fu) (ct na) ns nc ∧ DStep w w' K v0 v1 v' v1 := by
  have H : Hid (Dsk w B K v0 v1 x0 x1 s0 s1 1 fu na ns nc) := h
  have HF : Hid (fu ≠ 0) := hf
  have HB : Hid (Byts w po m bs) := hb
  have HP : Hid (po = none → c = 0) := hpo
  have HR : Hid (∀ b o, po = some ⟨b, o, none⟩ → ¬ Foot K v0 v1 b) := hfar
  clear h hf hb hpo hfar
  go_enter Tryz.func54, Tryz.ntmps54
  go_wp2_with fail
  refine (check_ok 0 H.out (by omega) (by omega)).mono ?_
  rintro e w1 ⟨rfl, rfl⟩
  go_wp2_with fail
  refine (room_any _ H.out.a0).mono ?_
  rintro e w1 ⟨rfl, rfl⟩
  have hl2 : (m : Int) ≤ 16777216 - (x0.length : Int) := by omega
  go_wp2_with fail
  refine (write6_ok H.out HF.out).mono ?_
  rintro e w1 ⟨rfl, d1, t1⟩
  have H1 : Hid (Dsk w1 B K v0 v1 x0 x1 s0 s1 1 (fz fu) (ct na) ns nc) := d1
  have HT1 : Hid (DStep w1 w1 K v0 v1 v0 v1) := DStep.refl _ _ _ _
  have HT : Hid (DStep _ w1 K v0 v1 v0 v1) := t1
  have HB1 : Hid (Byts w1 po m bs) := HB.out.off t1.off HR.out
  clear d1 t1
  go_wp2_with fail
  refine (put_any _ H1.out.a0 HB1.out HP.out hl (by have := H1.out.hB; have := H1.out.hK; omega)).mono ?_
  rintro e w2 ⟨rfl, v', a2, s2⟩
  have HD2 : Hid (Dsk w2 B K v' v1 (x0 ++ bs) x1 s0 s1 1 (fz fu) (ct na) ns nc ∧ DStep w1 w2 K v0 v1 v' v1) := H1.out.area0 a2 s2
  clear a2 s2
  go_wp2_with fail
  go_ret
  exact ⟨rfl, v', HD2.out.1, HT.out.trans HD2.out.2⟩
set_option maxHeartbeats 1000000 in
theorem Append0_full {w : World} {B K : Nat} {v0 v1 : Value} {x0 x1 : List Int} {s0 s1 : Nat} {st fu na ns nc : Int} {po : Option Addr} {m c : Nat} (h : Dsk w B K v0 v1 x0 x1 s0 s1 st fu na ns nc) (hst : st = 1 ∨ st = 2) (hl : 16777216 < x0.length + m) : Calls Tryz.prog 54 #[.pointer (some ⟨K, 0, none⟩), .int .i64 0, .slice po m c] w fun e w' => ∃ b, e = .returned (.iface 86 (.pointer (some ⟨b, 0, none⟩))) ∧ FaultAt w' b 0 7 ∧ Below w.heap.size w w' := by
  have H : Hid (Dsk w B K v0 v1 x0 x1 s0 s1 st fu na ns nc) := h
  have HS : Hid (st = 1 ∨ st = 2) := hst
  clear h hst
  go_enter Tryz.func54, Tryz.ntmps54
  go_wp2_with fail
  refine (check_ok 0 H.out HS.out (by omega)).mono ?_
  rintro e w1 ⟨rfl, rfl⟩
  go_wp2_with fail
  refine (room_any _ H.out.a0).mono ?_
  rintro e w1 ⟨rfl, rfl⟩
  have hl2 : 16777216 - (x0.length : Int) < (m : Int) := by omega
  go_wp2_with fail
  refine (fault_any 0 7 _).mono ?_
  rintro e w2 ⟨rfl, f2, b2⟩
  have HF2 : Hid (FaultAt w2 w1.heap.size 0 7 ∧ Below w1.heap.size w1 w2) := ⟨f2, b2⟩
  clear f2 b2
  go_wp2_with fail
  go_ret
  exact ⟨_, rfl, HF2.out⟩
set_option maxHeartbeats 1000000 in
theorem Append0_dead {w : World} {B K : Nat} {v0 v1 : Value} {x0 x1 : List Int} {s0 s1 : Nat} {st fu na ns nc : Int} {po : Option Addr} {m c : Nat} (h : Dsk w B K v0 v1 x0 x1 s0 s1 st fu na ns nc) (hst : st = 1 ∨ st = 2) (hd : st = 2 ∨ fu = 0) (hl : x0.length + m ≤ 16777216) : Calls Tryz.prog 54 #[.pointer (some ⟨K, 0, none⟩), .int .i64 0, .slice po m c] w fun e w' => ∃ b, e = .returned (.iface 86 (.pointer (some ⟨b, 0, none⟩))) ∧ FaultAt w' b 0 8 ∧ Dsk w' B K v0 v1 x0 x1 s0 s1 2 fu na ns nc ∧ DStep w w' K v0 v1 v0 v1 ∧ ¬ Foot K v0 v1 b := by
  have H : Hid (Dsk w B K v0 v1 x0 x1 s0 s1 st fu na ns nc) := h
  have HS : Hid (st = 1 ∨ st = 2) := hst
  have HX : Hid (st = 2 ∨ fu = 0) := hd
  clear h hst hd
  go_enter Tryz.func54, Tryz.ntmps54
  go_wp2_with fail
  refine (check_ok 0 H.out HS.out (by omega)).mono ?_
  rintro e w1 ⟨rfl, rfl⟩
  go_wp2_with fail
  refine (room_any _ H.out.a0).mono ?_
  rintro e w1 ⟨rfl, rfl⟩
  have hl2 : (m : Int) ≤ 16777216 - (x0.length : Int) := by omega
  go_wp2_with fail
  refine (write_dead _ H.out HS.out HX.out).mono ?_
  rintro e w2 ⟨b, rfl, hp⟩
  have HQ : Hid (FaultAt w2 b 0 8 ∧ Dsk w2 B K v0 v1 x0 x1 s0 s1 2 fu na ns nc ∧ DStep w1 w2 K v0 v1 v0 v1 ∧ ¬ Foot K v0 v1 b) := hp
  clear hp
  go_wp2_with fail
  go_ret
  exact ⟨b, rfl, HQ.out⟩
set_option maxHeartbeats 1000000 in
theorem Sync0_ok {w : World} {B K : Nat} {v0 v1 : Value} {x0 x1 : List Int} {s0 s1 : Nat} {fu na ns nc : Int} (h : Dsk w B K v0 v1 x0 x1 s0 s1 1 fu na ns nc) (hf : fu ≠ 0) : Calls Tryz.prog 58 #[.pointer (some ⟨K, 0, none⟩), .int .i64 0] w fun e w' => e = .returned .nilIface ∧ Dsk w' B K v0 v1 x0 x1 x0.length s1 1 (fz fu) na (ct ns) nc ∧ DStep w w' K v0 v1 v0 v1 := by
  have H : Hid (Dsk w B K v0 v1 x0 x1 s0 s1 1 fu na ns nc) := h
  have HF : Hid (fu ≠ 0) := hf
  clear h hf
  go_enter Tryz.func58, Tryz.ntmps58
  go_wp2_with fail
  refine (check_ok 0 H.out (by omega) (by omega)).mono ?_
  rintro e w1 ⟨rfl, rfl⟩
  go_wp2_with fail
  refine (write7_ok H.out HF.out).mono ?_
  rintro e w1 ⟨rfl, d1, t1⟩
  have H1 : Hid (Dsk w1 B K v0 v1 x0 x1 s0 s1 1 (fz fu) na (ct ns) nc) := d1
  have HT : Hid (DStep _ w1 K v0 v1 v0 v1) := t1
  clear d1 t1
  go_wp2_with fail
  refine (sync_any _ H1.out.a0).mono ?_
  rintro e w2 ⟨rfl, a2, s2⟩
  have HD2 : Hid (Dsk w2 B K v0 v1 x0 x1 x0.length s1 1 (fz fu) na (ct ns) nc ∧ DStep w1 w2 K v0 v1 v0 v1) := H1.out.area0 a2 s2
  clear a2 s2
  go_wp2_with fail
  go_ret
  exact ⟨rfl, HD2.out.1, HT.out.trans HD2.out.2⟩
set_option maxHeartbeats 1000000 in
theorem Cut0_ok {w : World} {B K : Nat} {v0 v1 : Value} {x0 x1 : List Int} {s0 s1 : Nat} {fu na ns nc : Int} {X : Int} (n : Nat) (h : Dsk w B K v0 v1 x0 x1 s0 s1 1 fu na ns nc) (hf : fu ≠ 0) (hX : X = n) (hn : n ≤ x0.length) : Calls Tryz.prog 52 #[.pointer (some ⟨K, 0, none⟩), .int .i64 0, .int .i64 X] w fun e w' => e = .returned .nilIface ∧ ∃ v', Dsk w' B K v' v1 (x0.take n) x1 (min s0 n) s1 1 (fz fu) na ns (ct nc) ∧ DStep w w' K v0 v1 v' v1 := by
  have H : Hid (Dsk w B K v0 v1 x0 x1 s0 s1 1 fu na ns nc) := h
  have HF : Hid (fu ≠ 0) := hf
  have HH : Hid (hasB x0.length 0 (n : Int) = true) := by unfold hasB Hid; simp; omega
  subst hX
  clear h hf
  go_enter Tryz.func52, Tryz.ntmps52
  go_wp2_with fail
  refine (check_ok 0 H.out (by omega) (by omega)).mono ?_
  rintro e w1 ⟨rfl, rfl⟩
  go_wp2_with fail
  refine (has_any 0 (n : Int) _ H.out.a0 (by omega)).mono ?_
  rintro e w1 ⟨he, rfl⟩
  rw [HH.out] at he
  subst he
  go_wp2_with fail
  refine (write8_ok H.out HF.out).mono ?_
  rintro e w1 ⟨rfl, d1, t1⟩
  have H1 : Hid (Dsk w1 B K v0 v1 x0 x1 s0 s1 1 (fz fu) na ns (ct nc)) := d1
  have HT : Hid (DStep _ w1 K v0 v1 v0 v1) := t1
  clear d1 t1
  go_wp2_with fail
  refine (cut_any n _ H1.out.a0 hn).mono ?_
  rintro e w2 ⟨rfl, v', a2, s2⟩
  rw [show min (s0 : Int) (n : Int) = ((min s0 n : Nat) : Int) by omega] at a2
  have HD2 : Hid (Dsk w2 B K v' v1 (x0.take n) x1 (min s0 n) s1 1 (fz fu) na ns (ct nc) ∧ DStep w1 w2 K v0 v1 v' v1) := H1.out.area0 a2 s2
  clear a2 s2
  go_wp2_with fail
  go_ret
  exact ⟨rfl, v', HD2.out.1, HT.out.trans HD2.out.2⟩
set_option maxHeartbeats 1000000 in
theorem Cut0_out {w : World} {B K : Nat} {v0 v1 : Value} {x0 x1 : List Int} {s0 s1 : Nat} {st fu na ns nc : Int} {X : Int} (h : Dsk w B K v0 v1 x0 x1 s0 s1 st fu na ns nc) (hst : st = 1 ∨ st = 2) (hX : X < 0 ∨ (x0.length : Int) < X) : Calls Tryz.prog 52 #[.pointer (some ⟨K, 0, none⟩), .int .i64 0, .int .i64 X] w fun e w' => ∃ b, e = .returned (.iface 86 (.pointer (some ⟨b, 0, none⟩))) ∧ FaultAt w' b 0 2 ∧ Below w.heap.size w w' := by
  have H : Hid (Dsk w B K v0 v1 x0 x1 s0 s1 st fu na ns nc) := h
  have HS : Hid (st = 1 ∨ st = 2) := hst
  have HH : Hid (hasB x0.length 0 X = false) := by
    unfold Hid
    cases e : hasB x0.length 0 X with
    | false => rfl
    | true => unfold hasB at e; simp at e; omega
  clear h hst
  go_enter Tryz.func52, Tryz.ntmps52
  go_wp2_with fail
  refine (check_ok 0 H.out HS.out (by omega)).mono ?_
  rintro e w1 ⟨rfl, rfl⟩
  go_wp2_with fail
  refine (has_any 0 X _ H.out.a0 (by omega)).mono ?_
  rintro e w1 ⟨he, rfl⟩
  rw [HH.out] at he
  subst he
  go_wp2_with fail
  refine (fault_any 0 2 _).mono ?_
  rintro e w2 ⟨rfl, f2, b2⟩
  have HF2 : Hid (FaultAt w2 w1.heap.size 0 2 ∧ Below w1.heap.size w1 w2) := ⟨f2, b2⟩
  clear f2 b2
  go_wp2_with fail
  go_ret
  exact ⟨_, rfl, HF2.out⟩
set_option maxHeartbeats 1000000 in
theorem Sync0_dead {w : World} {B K : Nat} {v0 v1 : Value} {x0 x1 : List Int} {s0 s1 : Nat} {st fu na ns nc : Int} (h : Dsk w B K v0 v1 x0 x1 s0 s1 st fu na ns nc) (hst : st = 1 ∨ st = 2) (hd : st = 2 ∨ fu = 0) : Calls Tryz.prog 58 #[.pointer (some ⟨K, 0, none⟩), .int .i64 0] w fun e w' => ∃ b, e = .returned (.iface 86 (.pointer (some ⟨b, 0, none⟩))) ∧ FaultAt w' b 0 8 ∧ Dsk w' B K v0 v1 x0 x1 s0 s1 2 fu na ns nc ∧ DStep w w' K v0 v1 v0 v1 ∧ ¬ Foot K v0 v1 b := by
  have H : Hid (Dsk w B K v0 v1 x0 x1 s0 s1 st fu na ns nc) := h
  have HS : Hid (st = 1 ∨ st = 2) := hst
  have HX : Hid (st = 2 ∨ fu = 0) := hd
  clear h hst hd
  go_enter Tryz.func58, Tryz.ntmps58
  go_wp2_with fail
  refine (check_ok 0 H.out HS.out (by omega)).mono ?_
  rintro e w1 ⟨rfl, rfl⟩
  go_wp2_with fail
  refine (write_dead _ H.out HS.out HX.out).mono ?_
  rintro e w2 ⟨b, rfl, hp⟩
  have HQ : Hid (FaultAt w2 b 0 8 ∧ Dsk w2 B K v0 v1 x0 x1 s0 s1 2 fu na ns nc ∧ DStep w1 w2 K v0 v1 v0 v1 ∧ ¬ Foot K v0 v1 b) := hp
  clear hp
  go_wp2_with fail
  go_ret
  exact ⟨b, rfl, HQ.out⟩
set_option maxHeartbeats 1000000 in
theorem Cut0_dead {w : World} {B K : Nat} {v0 v1 : Value} {x0 x1 : List Int} {s0 s1 : Nat} {st fu na ns nc : Int} {X : Int} (h : Dsk w B K v0 v1 x0 x1 s0 s1 st fu na ns nc) (hst : st = 1 ∨ st = 2) (hd : st = 2 ∨ fu = 0) (hX : 0 ≤ X ∧ X ≤ (x0.length : Int)) : Calls Tryz.prog 52 #[.pointer (some ⟨K, 0, none⟩), .int .i64 0, .int .i64 X] w fun e w' => ∃ b, e = .returned (.iface 86 (.pointer (some ⟨b, 0, none⟩))) ∧ FaultAt w' b 0 8 ∧ Dsk w' B K v0 v1 x0 x1 s0 s1 2 fu na ns nc ∧ DStep w w' K v0 v1 v0 v1 ∧ ¬ Foot K v0 v1 b := by
  have H : Hid (Dsk w B K v0 v1 x0 x1 s0 s1 st fu na ns nc) := h
  have HS : Hid (st = 1 ∨ st = 2) := hst
  have HX : Hid (st = 2 ∨ fu = 0) := hd
  have HH : Hid (hasB x0.length 0 X = true) := by unfold hasB Hid; simp; omega
  clear h hst hd
  go_enter Tryz.func52, Tryz.ntmps52
  go_wp2_with fail
  refine (check_ok 0 H.out HS.out (by omega)).mono ?_
  rintro e w1 ⟨rfl, rfl⟩
  go_wp2_with fail
  refine (has_any 0 X _ H.out.a0 (by omega)).mono ?_
  rintro e w1 ⟨he, rfl⟩
  rw [HH.out] at he
  subst he
  go_wp2_with fail
  refine (write_dead _ H.out HS.out HX.out).mono ?_
  rintro e w2 ⟨b, rfl, hp⟩
  have HQ : Hid (FaultAt w2 b 0 8 ∧ Dsk w2 B K v0 v1 x0 x1 s0 s1 2 fu na ns nc ∧ DStep w1 w2 K v0 v1 v0 v1 ∧ ¬ Foot K v0 v1 b) := hp
  clear hp
  go_wp2_with fail
  go_ret
  exact ⟨b, rfl, HQ.out⟩
set_option maxHeartbeats 1000000 in
theorem Len0_ok {w : World} {B K : Nat} {v0 v1 : Value} {x0 x1 : List Int} {s0 s1 : Nat} {st fu na ns nc : Int} (h : Dsk w B K v0 v1 x0 x1 s0 s1 st fu na ns nc) (hst : st = 1 ∨ st = 2) : Calls Tryz.prog 13 #[.pointer (some ⟨K, 0, none⟩), .int .i64 0] w fun e w' => e = .returned (.tuple #[.int .i64 x0.length, .nilIface]) ∧ w' = w := by
  obtain ⟨ad, cp, rfl, _⟩ := h.a0.row.slice
  have c0 := h.a0.c0
  have HS : Hid (st = 1 ∨ st = 2) := hst
  have HC : Hid (Calls Tryz.prog 49 #[.pointer (some ⟨K, 0, none⟩), .int .i64 0] w fun e w' => e = .returned .nilIface ∧ w' = w) := check_ok 0 h hst (by omega)
  have hl := h.a0.len
  clear h hst
  go_enter Tryz.func13, Tryz.ntmps13
  go_wp2_with fail
  refine HC.out.mono ?_
  rintro e w1 ⟨rfl, rfl⟩
  go_wp2
  go_ret2
  exact ⟨rfl, rfl⟩
set_option maxHeartbeats 1000000 in
theorem Synced0_ok {w : World} {B K : Nat} {v0 v1 : Value} {x0 x1 : List Int} {s0 s1 : Nat} {st fu na ns nc : Int} (h : Dsk w B K v0 v1 x0 x1 s0 s1 st fu na ns nc) (hst : st = 1 ∨ st = 2) : Calls Tryz.prog 87 #[.pointer (some ⟨K, 0, none⟩), .int .i64 0] w fun e w' => e = .returned (.tuple #[.int .i64 s0, .nilIface]) ∧ w' = w := by
  have c0 : w.cell? ⟨K, 1, none⟩ = some (.int .i64 s0) := h.a0.c1
  have HS : Hid (st = 1 ∨ st = 2) := hst
  have HC : Hid (Calls Tryz.prog 49 #[.pointer (some ⟨K, 0, none⟩), .int .i64 0] w fun e w' => e = .returned .nilIface ∧ w' = w) := check_ok 0 h hst (by omega)
  have hl := h.a0.len
  clear h hst
  go_enter Tryz.func87, Tryz.ntmps87
  go_wp2_with fail
  refine HC.out.mono ?_
  rintro e w1 ⟨rfl, rfl⟩
  go_wp2
  go_ret2
  exact ⟨rfl, rfl⟩
set_option maxHeartbeats 1000000 in
theorem Append1_ok {w : World} {B K : Nat} {v0 v1 : Value} {x0 x1 : List Int} {s0 s1 : Nat} {fu na ns nc : Int} {po : Option Addr} {m c : Nat} {bs : List Int} (hb : Byts w po m bs) (hpo : po = none → c = 0) (hfar : ∀ b o, po = some ⟨b, o, none⟩ → ¬ Foot K v0 v1 b) (h : Dsk w B K v0 v1 x0 x1 s0 s1 1 fu na ns nc) (hf : fu ≠ 0) (hl : x1.length + m ≤ 16777216) : Calls Tryz.prog 54 #[.pointer (some ⟨K, 0, none⟩), .int .i64 1, .slice po m c] w fun e w' => e = .returned .nilIface ∧ ∃ v', Dsk w' B K v0 v' x0 (x1 ++ bs) s0 s1 1 (fz fu) (ct na) ns nc ∧ DStep w w' K v0 v1 v0 v' := by
  have H : Hid (Dsk w B K v0 v1 x0 x1 s0 s1 1 fu na ns nc) := h
  have HF : Hid (fu ≠ 0) := hf
  have HB : Hid (Byts w po m bs) := hb
  have HP : Hid (po = none → c = 0) := hpo
  have HR : Hid (∀ b o, po = some ⟨b, o, none⟩ → ¬ Foot K v0 v1 b) := hfar
  clear h hf hb hpo hfar
  go_enter Tryz.func54, Tryz.ntmps54
  go_wp2_with fail
  refine (check_ok 1 H.out (by omega) (by omega)).mono ?_
  rintro e w1 ⟨rfl, rfl⟩
  go_wp2_with fail
  refine (room_any _ H.out.a1).mono ?_
  rintro e w1 ⟨rfl, rfl⟩
  have hl2 : (m : Int) ≤ 16777216 - (x1.length : Int) := by omega
  go_wp2_with fail
  refine (write6_ok H.out HF.out).mono ?_
  rintro e w1 ⟨rfl, d1, t1⟩
  have H1 : Hid (Dsk w1 B K v0 v1 x0 x1 s0 s1 1 (fz fu) (ct na) ns nc) := d1
  have HT1 : Hid (DStep w1 w1 K v0 v1 v0 v1) := DStep.refl _ _ _ _
  have HT : Hid (DStep _ w1 K v0 v1 v0 v1) := t1
  have HB1 : Hid (Byts w1 po m bs) := HB.out.off t1.off HR.out
  clear d1 t1
  go_wp2_with fail
  refine (put_any _ H1.out.a1 HB1.out HP.out hl (by have := H1.out.hB; have := H1.out.hK; omega)).mono ?_
  rintro e w2 ⟨rfl, v', a2, s2⟩
  have HD2 : Hid (Dsk w2 B K v0 v' x0 (x1 ++ bs) s0 s1 1 (fz fu) (ct na) ns nc ∧ DStep w1 w2 K v0 v1 v0 v') := H1.out.area1 a2 s2
  clear a2 s2
  go_wp2_with fail
  go_ret
  exact ⟨rfl, v', HD2.out.1, HT.out.trans HD2.out.2⟩
set_option maxHeartbeats 1000000 in
theorem Append1_full {w : World} {B K : Nat} {v0 v1 : Value} {x0 x1 : List Int} {s0 s1 : Nat} {st fu na ns nc : Int} {po : Option Addr} {m c : Nat} (h : Dsk w B K v0 v1 x0 x1 s0 s1 st fu na ns nc) (hst : st = 1 ∨ st = 2) (hl : 16777216 < x1.length + m) : Calls Tryz.prog 54 #[.pointer (some ⟨K, 0, none⟩), .int .i64 1, .slice po m c] w fun e w' => ∃ b, e = .returned (.iface 86 (.pointer (some ⟨b, 0, none⟩))) ∧ FaultAt w' b 0 7 ∧ Below w.heap.size w w' := by
  have H : Hid (Dsk w B K v0 v1 x0 x1 s0 s1 st fu na ns nc) := h
  have HS : Hid (st = 1 ∨ st = 2) := hst
  clear h hst
  go_enter Tryz.func54, Tryz.ntmps54
  go_wp2_with fail
  refine (check_ok 1 H.out HS.out (by omega)).mono ?_
  rintro e w1 ⟨rfl, rfl⟩
  go_wp2_with fail
  refine (room_any _ H.out.a1).mono ?_
  rintro e w1 ⟨rfl, rfl⟩
  have hl2 : 16777216 - (x1.length : Int) < (m : Int) := by omega
  go_wp2_with fail
  refine (fault_any 0 7 _).mono ?_
  rintro e w2 ⟨rfl, f2, b2⟩
  have HF2 : Hid (FaultAt w2 w1.heap.size 0 7 ∧ Below w1.heap.size w1 w2) := ⟨f2, b2⟩
  clear f2 b2
  go_wp2_with fail
  go_ret
  exact ⟨_, rfl, HF2.out⟩
set_option maxHeartbeats 1000000 in
theorem Append1_dead {w : World} {B K : Nat} {v0 v1 : Value} {x0 x1 : List Int} {s0 s1 : Nat} {st fu na ns nc : Int} {po : Option Addr} {m c : Nat} (h : Dsk w B K v0 v1 x0 x1 s0 s1 st fu na ns nc) (hst : st = 1 ∨ st = 2) (hd : st = 2 ∨ fu = 0) (hl : x1.length + m ≤ 16777216) : Calls Tryz.prog 54 #[.pointer (some ⟨K, 0, none⟩), .int .i64 1, .slice po m c] w fun e w' => ∃ b, e = .returned (.iface 86 (.pointer (some ⟨b, 0, none⟩))) ∧ FaultAt w' b 0 8 ∧ Dsk w' B K v0 v1 x0 x1 s0 s1 2 fu na ns nc ∧ DStep w w' K v0 v1 v0 v1 ∧ ¬ Foot K v0 v1 b := by
  have H : Hid (Dsk w B K v0 v1 x0 x1 s0 s1 st fu na ns nc) := h
  have HS : Hid (st = 1 ∨ st = 2) := hst
  have HX : Hid (st = 2 ∨ fu = 0) := hd
  clear h hst hd
  go_enter Tryz.func54, Tryz.ntmps54
  go_wp2_with fail
  refine (check_ok 1 H.out HS.out (by omega)).mono ?_
  rintro e w1 ⟨rfl, rfl⟩
  go_wp2_with fail
  refine (room_any _ H.out.a1).mono ?_
  rintro e w1 ⟨rfl, rfl⟩
  have hl2 : (m : Int) ≤ 16777216 - (x1.length : Int) := by omega
  go_wp2_with fail
  refine (write_dead _ H.out HS.out HX.out).mono ?_
  rintro e w2 ⟨b, rfl, hp⟩
  have HQ : Hid (FaultAt w2 b 0 8 ∧ Dsk w2 B K v0 v1 x0 x1 s0 s1 2 fu na ns nc ∧ DStep w1 w2 K v0 v1 v0 v1 ∧ ¬ Foot K v0 v1 b) := hp
  clear hp
  go_wp2_with fail
  go_ret
  exact ⟨b, rfl, HQ.out⟩
set_option maxHeartbeats 1000000 in
theorem Sync1_ok {w : World} {B K : Nat} {v0 v1 : Value} {x0 x1 : List Int} {s0 s1 : Nat} {fu na ns nc : Int} (h : Dsk w B K v0 v1 x0 x1 s0 s1 1 fu na ns nc) (hf : fu ≠ 0) : Calls Tryz.prog 58 #[.pointer (some ⟨K, 0, none⟩), .int .i64 1] w fun e w' => e = .returned .nilIface ∧ Dsk w' B K v0 v1 x0 x1 s0 x1.length 1 (fz fu) na (ct ns) nc ∧ DStep w w' K v0 v1 v0 v1 := by
  have H : Hid (Dsk w B K v0 v1 x0 x1 s0 s1 1 fu na ns nc) := h
  have HF : Hid (fu ≠ 0) := hf
  clear h hf
  go_enter Tryz.func58, Tryz.ntmps58
  go_wp2_with fail
  refine (check_ok 1 H.out (by omega) (by omega)).mono ?_
  rintro e w1 ⟨rfl, rfl⟩
  go_wp2_with fail
  refine (write7_ok H.out HF.out).mono ?_
  rintro e w1 ⟨rfl, d1, t1⟩
  have H1 : Hid (Dsk w1 B K v0 v1 x0 x1 s0 s1 1 (fz fu) na (ct ns) nc) := d1
  have HT : Hid (DStep _ w1 K v0 v1 v0 v1) := t1
  clear d1 t1
  go_wp2_with fail
  refine (sync_any _ H1.out.a1).mono ?_
  rintro e w2 ⟨rfl, a2, s2⟩
  have HD2 : Hid (Dsk w2 B K v0 v1 x0 x1 s0 x1.length 1 (fz fu) na (ct ns) nc ∧ DStep w1 w2 K v0 v1 v0 v1) := H1.out.area1 a2 s2
  clear a2 s2
  go_wp2_with fail
  go_ret
  exact ⟨rfl, HD2.out.1, HT.out.trans HD2.out.2⟩
set_option maxHeartbeats 1000000 in
theorem Cut1_ok {w : World} {B K : Nat} {v0 v1 : Value} {x0 x1 : List Int} {s0 s1 : Nat} {fu na ns nc : Int} {X : Int} (n : Nat) (h : Dsk w B K v0 v1 x0 x1 s0 s1 1 fu na ns nc) (hf : fu ≠ 0) (hX : X = n) (hn : n ≤ x1.length) : Calls Tryz.prog 52 #[.pointer (some ⟨K, 0, none⟩), .int .i64 1, .int .i64 X] w fun e w' => e = .returned .nilIface ∧ ∃ v', Dsk w' B K v0 v' x0 (x1.take n) s0 (min s1 n) 1 (fz fu) na ns (ct nc) ∧ DStep w w' K v0 v1 v0 v' := by
  have H : Hid (Dsk w B K v0 v1 x0 x1 s0 s1 1 fu na ns nc) := h
  have HF : Hid (fu ≠ 0) := hf
  have HH : Hid (hasB x1.length 0 (n : Int) = true) := by unfold hasB Hid; simp; omega
  subst hX
  clear h hf
  go_enter Tryz.func52, Tryz.ntmps52
  go_wp2_with fail
  refine (check_ok 1 H.out (by omega) (by omega)).mono ?_
  rintro e w1 ⟨rfl, rfl⟩
  go_wp2_with fail
  refine (has_any 0 (n : Int) _ H.out.a1 (by omega)).mono ?_
  rintro e w1 ⟨he, rfl⟩
  rw [HH.out] at he
  subst he
  go_wp2_with fail
  refine (write8_ok H.out HF.out).mono ?_
  rintro e w1 ⟨rfl, d1, t1⟩
  have H1 : Hid (Dsk w1 B K v0 v1 x0 x1 s0 s1 1 (fz fu) na ns (ct nc)) := d1
  have HT : Hid (DStep _ w1 K v0 v1 v0 v1) := t1
  clear d1 t1
  go_wp2_with fail
  refine (cut_any n _ H1.out.a1 hn).mono ?_
  rintro e w2 ⟨rfl, v', a2, s2⟩
  rw [show min (s1 : Int) (n : Int) = ((min s1 n : Nat) : Int) by omega] at a2
  have HD2 : Hid (Dsk w2 B K v0 v' x0 (x1.take n) s0 (min s1 n) 1 (fz fu) na ns (ct nc) ∧ DStep w1 w2 K v0 v1 v0 v') := H1.out.area1 a2 s2
  clear a2 s2
  go_wp2_with fail
  go_ret
  exact ⟨rfl, v', HD2.out.1, HT.out.trans HD2.out.2⟩
set_option maxHeartbeats 1000000 in
theorem Cut1_out {w : World} {B K : Nat} {v0 v1 : Value} {x0 x1 : List Int} {s0 s1 : Nat} {st fu na ns nc : Int} {X : Int} (h : Dsk w B K v0 v1 x0 x1 s0 s1 st fu na ns nc) (hst : st = 1 ∨ st = 2) (hX : X < 0 ∨ (x1.length : Int) < X) : Calls Tryz.prog 52 #[.pointer (some ⟨K, 0, none⟩), .int .i64 1, .int .i64 X] w fun e w' => ∃ b, e = .returned (.iface 86 (.pointer (some ⟨b, 0, none⟩))) ∧ FaultAt w' b 0 2 ∧ Below w.heap.size w w' := by
  have H : Hid (Dsk w B K v0 v1 x0 x1 s0 s1 st fu na ns nc) := h
  have HS : Hid (st = 1 ∨ st = 2) := hst
  have HH : Hid (hasB x1.length 0 X = false) := by
    unfold Hid
    cases e : hasB x1.length 0 X with
    | false => rfl
    | true => unfold hasB at e; simp at e; omega
  clear h hst
  go_enter Tryz.func52, Tryz.ntmps52
  go_wp2_with fail
  refine (check_ok 1 H.out HS.out (by omega)).mono ?_
  rintro e w1 ⟨rfl, rfl⟩
  go_wp2_with fail
  refine (has_any 0 X _ H.out.a1 (by omega)).mono ?_
  rintro e w1 ⟨he, rfl⟩
  rw [HH.out] at he
  subst he
  go_wp2_with fail
  refine (fault_any 0 2 _).mono ?_
  rintro e w2 ⟨rfl, f2, b2⟩
  have HF2 : Hid (FaultAt w2 w1.heap.size 0 2 ∧ Below w1.heap.size w1 w2) := ⟨f2, b2⟩
  clear f2 b2
  go_wp2_with fail
  go_ret
  exact ⟨_, rfl, HF2.out⟩
set_option maxHeartbeats 1000000 in
theorem Sync1_dead {w : World} {B K : Nat} {v0 v1 : Value} {x0 x1 : List Int} {s0 s1 : Nat} {st fu na ns nc : Int} (h : Dsk w B K v0 v1 x0 x1 s0 s1 st fu na ns nc) (hst : st = 1 ∨ st = 2) (hd : st = 2 ∨ fu = 0) : Calls Tryz.prog 58 #[.pointer (some ⟨K, 0, none⟩), .int .i64 1] w fun e w' => ∃ b, e = .returned (.iface 86 (.pointer (some ⟨b, 0, none⟩))) ∧ FaultAt w' b 0 8 ∧ Dsk w' B K v0 v1 x0 x1 s0 s1 2 fu na ns nc ∧ DStep w w' K v0 v1 v0 v1 ∧ ¬ Foot K v0 v1 b := by
  have H : Hid (Dsk w B K v0 v1 x0 x1 s0 s1 st fu na ns nc) := h
  have HS : Hid (st = 1 ∨ st = 2) := hst
  have HX : Hid (st = 2 ∨ fu = 0) := hd
  clear h hst hd
  go_enter Tryz.func58, Tryz.ntmps58
  go_wp2_with fail
  refine (check_ok 1 H.out HS.out (by omega)).mono ?_
  rintro e w1 ⟨rfl, rfl⟩
  go_wp2_with fail
  refine (write_dead _ H.out HS.out HX.out).mono ?_
  rintro e w2 ⟨b, rfl, hp⟩
  have HQ : Hid (FaultAt w2 b 0 8 ∧ Dsk w2 B K v0 v1 x0 x1 s0 s1 2 fu na ns nc ∧ DStep w1 w2 K v0 v1 v0 v1 ∧ ¬ Foot K v0 v1 b) := hp
  clear hp
  go_wp2_with fail
  go_ret
  exact ⟨b, rfl, HQ.out⟩
set_option maxHeartbeats 1000000 in
theorem Cut1_dead {w : World} {B K : Nat} {v0 v1 : Value} {x0 x1 : List Int} {s0 s1 : Nat} {st fu na ns nc : Int} {X : Int} (h : Dsk w B K v0 v1 x0 x1 s0 s1 st fu na ns nc) (hst : st = 1 ∨ st = 2) (hd : st = 2 ∨ fu = 0) (hX : 0 ≤ X ∧ X ≤ (x1.length : Int)) : Calls Tryz.prog 52 #[.pointer (some ⟨K, 0, none⟩), .int .i64 1, .int .i64 X] w fun e w' => ∃ b, e = .returned (.iface 86 (.pointer (some ⟨b, 0, none⟩))) ∧ FaultAt w' b 0 8 ∧ Dsk w' B K v0 v1 x0 x1 s0 s1 2 fu na ns nc ∧ DStep w w' K v0 v1 v0 v1 ∧ ¬ Foot K v0 v1 b := by
  have H : Hid (Dsk w B K v0 v1 x0 x1 s0 s1 st fu na ns nc) := h
  have HS : Hid (st = 1 ∨ st = 2) := hst
  have HX : Hid (st = 2 ∨ fu = 0) := hd
  have HH : Hid (hasB x1.length 0 X = true) := by unfold hasB Hid; simp; omega
  clear h hst hd
  go_enter Tryz.func52, Tryz.ntmps52
  go_wp2_with fail
  refine (check_ok 1 H.out HS.out (by omega)).mono ?_
  rintro e w1 ⟨rfl, rfl⟩
  go_wp2_with fail
  refine (has_any 0 X _ H.out.a1 (by omega)).mono ?_
  rintro e w1 ⟨he, rfl⟩
  rw [HH.out] at he
  subst he
  go_wp2_with fail
  refine (write_dead _ H.out HS.out HX.out).mono ?_
  rintro e w2 ⟨b, rfl, hp⟩
  have HQ : Hid (FaultAt w2 b 0 8 ∧ Dsk w2 B K v0 v1 x0 x1 s0 s1 2 fu na ns nc ∧ DStep w1 w2 K v0 v1 v0 v1 ∧ ¬ Foot K v0 v1 b) := hp
  clear hp
  go_wp2_with fail
  go_ret
  exact ⟨b, rfl, HQ.out⟩
set_option maxHeartbeats 1000000 in
theorem Len1_ok {w : World} {B K : Nat} {v0 v1 : Value} {x0 x1 : List Int} {s0 s1 : Nat} {st fu na ns nc : Int} (h : Dsk w B K v0 v1 x0 x1 s0 s1 st fu na ns nc) (hst : st = 1 ∨ st = 2) : Calls Tryz.prog 13 #[.pointer (some ⟨K, 0, none⟩), .int .i64 1] w fun e w' => e = .returned (.tuple #[.int .i64 x1.length, .nilIface]) ∧ w' = w := by
  obtain ⟨ad, cp, rfl, _⟩ := h.a1.row.slice
  have c0 := h.a1.c0
  have HS : Hid (st = 1 ∨ st = 2) := hst
  have HC : Hid (Calls Tryz.prog 49 #[.pointer (some ⟨K, 0, none⟩), .int .i64 1] w fun e w' => e = .returned .nilIface ∧ w' = w) := check_ok 1 h hst (by omega)
  have hl := h.a1.len
  clear h hst
  go_enter Tryz.func13, Tryz.ntmps13
  go_wp2_with fail
  refine HC.out.mono ?_
  rintro e w1 ⟨rfl, rfl⟩
  go_wp2
  go_ret2
  exact ⟨rfl, rfl⟩
set_option maxHeartbeats 1000000 in
theorem Synced1_ok {w : World} {B K : Nat} {v0 v1 : Value} {x0 x1 : List Int} {s0 s1 : Nat} {st fu na ns nc : Int} (h : Dsk w B K v0 v1 x0 x1 s0 s1 st fu na ns nc) (hst : st = 1 ∨ st = 2) : Calls Tryz.prog 87 #[.pointer (some ⟨K, 0, none⟩), .int .i64 1] w fun e w' => e = .returned (.tuple #[.int .i64 s1, .nilIface]) ∧ w' = w := by
  have c0 : w.cell? ⟨K, 3, none⟩ = some (.int .i64 s1) := h.a1.c1
  have HS : Hid (st = 1 ∨ st = 2) := hst
  have HC : Hid (Calls Tryz.prog 49 #[.pointer (some ⟨K, 0, none⟩), .int .i64 1] w fun e w' => e = .returned .nilIface ∧ w' = w) := check_ok 1 h hst (by omega)
  have hl := h.a1.len
  clear h hst
  go_enter Tryz.func87, Tryz.ntmps87
  go_wp2_with fail
  refine HC.out.mono ?_
  rintro e w1 ⟨rfl, rfl⟩
  go_wp2
  go_ret2
  exact ⟨rfl, rfl⟩
end Go.Proofs.YthnpckmgnompiaaGreatDoor
