/-
  The program's reader: clock.
-/
import Derived.Test.YtphobcobpclioaaGreatDoorRdZone2
namespace Go.Proofs.YtphobcobpclioaaGreatDoor
open Go.RowKit

/-- A Stamp's cells at block K: level, hour, minute, second, part, digits; none is frozen. -/
structure Clk (w : World) (K : Nat) (lv h mi sc p dg : Int) : Prop where
  k0 : w.cell? ⟨K, 0, none⟩ = some (.int .i64 lv)
  k4 : w.cell? ⟨K, 4, none⟩ = some (.int .i64 h)
  k5 : w.cell? ⟨K, 5, none⟩ = some (.int .i64 mi)
  k6 : w.cell? ⟨K, 6, none⟩ = some (.int .i64 sc)
  k7 : w.cell? ⟨K, 7, none⟩ = some (.int .i64 p)
  k8 : w.cell? ⟨K, 8, none⟩ = some (.int .i64 dg)
  fr : ∀ o, o < 9 → w.frozen? ⟨K, o, none⟩ = false
/-- Of block K all but those cells is as it was. -/
structure KK (K : Nat) (w w' : World) : Prop where
  cell : ∀ o, (0 < o ∧ o < 4) ∨ 8 < o → w'.cell? ⟨K, o, none⟩ = w.cell? ⟨K, o, none⟩
  fr : ∀ o, w'.frozen? ⟨K, o, none⟩ = w.frozen? ⟨K, o, none⟩
/-- Reader and Stamp as they stand in w, behind w0. -/
structure CS (w0 w : World) (R K : Nat) (s : ByteArray) (a : Nat) (bad : Option Nat) (lv h mi sc p dg : Int) : Prop where
  rdr : ∃ v, Rdr w R s a bad v
  clk : Clk w K lv h mi sc p dg
  kk : KK K w0 w
  off : Off (RK R K) w0 w
section
variable {w0 w w' : World} {R K : Nat} {s : ByteArray} {a a' : Nat} {bad bad' : Option Nat} {lv h mi sc p dg : Int}
theorem CS.step (c : CS w0 w R K s a bad lv h mi sc p dg) (hRK : R ≠ K) (r : ∃ v, Rdr w' R s a' bad' v) (o : Off (· = R) w w') : CS w0 w' R K s a' bad' lv h mi sc p dg := by
  have hKl : K < w.heap.size := cell_lt c.clk.k0
  have hk : ∀ q, w'.cell? ⟨K, q, none⟩ = w.cell? ⟨K, q, none⟩ := fun q => o.cell (p := ⟨K, q, none⟩) hKl (by show ¬ K = R; omega)
  have hf : ∀ q, w'.frozen? ⟨K, q, none⟩ = w.frozen? ⟨K, q, none⟩ := fun q => o.frozen (p := ⟨K, q, none⟩) hKl (by show ¬ K = R; omega)
  exact ⟨r, ⟨by rw [hk]; exact c.clk.k0, by rw [hk]; exact c.clk.k4, by rw [hk]; exact c.clk.k5, by rw [hk]; exact c.clk.k6, by rw [hk]; exact c.clk.k7, by rw [hk]; exact c.clk.k8, fun q hq => by rw [hf]; exact c.clk.fr q hq⟩,
    ⟨fun q hq => by rw [hk]; exact c.kk.cell q hq, fun q => by rw [hf]; exact c.kk.fr q⟩, c.off.trans (o.mono fun _ g => Or.inl g)⟩
theorem CS.drewN (c : CS w0 w R K s a bad lv h mi sc p dg) (hRK : R ≠ K) (n : Nat) : CS w0 (w.drewN n) R K s a bad lv h mi sc p dg :=
  c.step hRK (by obtain ⟨v, r⟩ := c.rdr; exact ⟨v, r.drewN n⟩) ((Off.refl _ w).drewN n)
theorem CS.set0 (c : CS w0 w R K s a bad lv h mi sc p dg) (hRK : R ≠ K) (x : Int) : CS w0 (w.setCell ⟨K, 0, none⟩ (.int .i64 x)) R K s a bad x h mi sc p dg := by
  have ho : Off (· = K) w (w.setCell ⟨K, 0, none⟩ (.int .i64 x)) := (Off.refl (· = K) w).setCell (p := ⟨K, 0, none⟩) rfl _
  refine ⟨?_, ⟨World.cell?_setCell_same _ _ _ c.clk.k0, by rw [World.cell?_setCell_other _ _ _ _ (by simp)]; exact c.clk.k4, by rw [World.cell?_setCell_other _ _ _ _ (by simp)]; exact c.clk.k5, by rw [World.cell?_setCell_other _ _ _ _ (by simp)]; exact c.clk.k6, by rw [World.cell?_setCell_other _ _ _ _ (by simp)]; exact c.clk.k7, by rw [World.cell?_setCell_other _ _ _ _ (by simp)]; exact c.clk.k8, fun q hq => by simpa using c.clk.fr q hq⟩, ⟨fun q hq => ?_, fun q => by simpa using c.kk.fr q⟩, c.off.trans (ho.mono fun _ g => Or.inr g)⟩
  · obtain ⟨v, r⟩ := c.rdr
    exact ⟨v, r.offk (k := K) (x := lv) ho (Ne.symm hRK) c.clk.k0⟩
  · rw [World.cell?_setCell_other _ _ _ _ (by intro e; cases e; omega)]; exact c.kk.cell q hq
theorem CS.set4 (c : CS w0 w R K s a bad lv h mi sc p dg) (hRK : R ≠ K) (x : Int) : CS w0 (w.setCell ⟨K, 4, none⟩ (.int .i64 x)) R K s a bad lv x mi sc p dg := by
  have ho : Off (· = K) w (w.setCell ⟨K, 4, none⟩ (.int .i64 x)) := (Off.refl (· = K) w).setCell (p := ⟨K, 4, none⟩) rfl _
  refine ⟨?_, ⟨by rw [World.cell?_setCell_other _ _ _ _ (by simp)]; exact c.clk.k0, World.cell?_setCell_same _ _ _ c.clk.k4, by rw [World.cell?_setCell_other _ _ _ _ (by simp)]; exact c.clk.k5, by rw [World.cell?_setCell_other _ _ _ _ (by simp)]; exact c.clk.k6, by rw [World.cell?_setCell_other _ _ _ _ (by simp)]; exact c.clk.k7, by rw [World.cell?_setCell_other _ _ _ _ (by simp)]; exact c.clk.k8, fun q hq => by simpa using c.clk.fr q hq⟩, ⟨fun q hq => ?_, fun q => by simpa using c.kk.fr q⟩, c.off.trans (ho.mono fun _ g => Or.inr g)⟩
  · obtain ⟨v, r⟩ := c.rdr
    exact ⟨v, r.offk (k := K) (x := lv) ho (Ne.symm hRK) c.clk.k0⟩
  · rw [World.cell?_setCell_other _ _ _ _ (by intro e; cases e; omega)]; exact c.kk.cell q hq
theorem CS.set5 (c : CS w0 w R K s a bad lv h mi sc p dg) (hRK : R ≠ K) (x : Int) : CS w0 (w.setCell ⟨K, 5, none⟩ (.int .i64 x)) R K s a bad lv h x sc p dg := by
  have ho : Off (· = K) w (w.setCell ⟨K, 5, none⟩ (.int .i64 x)) := (Off.refl (· = K) w).setCell (p := ⟨K, 5, none⟩) rfl _
  refine ⟨?_, ⟨by rw [World.cell?_setCell_other _ _ _ _ (by simp)]; exact c.clk.k0, by rw [World.cell?_setCell_other _ _ _ _ (by simp)]; exact c.clk.k4, World.cell?_setCell_same _ _ _ c.clk.k5, by rw [World.cell?_setCell_other _ _ _ _ (by simp)]; exact c.clk.k6, by rw [World.cell?_setCell_other _ _ _ _ (by simp)]; exact c.clk.k7, by rw [World.cell?_setCell_other _ _ _ _ (by simp)]; exact c.clk.k8, fun q hq => by simpa using c.clk.fr q hq⟩, ⟨fun q hq => ?_, fun q => by simpa using c.kk.fr q⟩, c.off.trans (ho.mono fun _ g => Or.inr g)⟩
  · obtain ⟨v, r⟩ := c.rdr
    exact ⟨v, r.offk (k := K) (x := lv) ho (Ne.symm hRK) c.clk.k0⟩
  · rw [World.cell?_setCell_other _ _ _ _ (by intro e; cases e; omega)]; exact c.kk.cell q hq
theorem CS.set6 (c : CS w0 w R K s a bad lv h mi sc p dg) (hRK : R ≠ K) (x : Int) : CS w0 (w.setCell ⟨K, 6, none⟩ (.int .i64 x)) R K s a bad lv h mi x p dg := by
  have ho : Off (· = K) w (w.setCell ⟨K, 6, none⟩ (.int .i64 x)) := (Off.refl (· = K) w).setCell (p := ⟨K, 6, none⟩) rfl _
  refine ⟨?_, ⟨by rw [World.cell?_setCell_other _ _ _ _ (by simp)]; exact c.clk.k0, by rw [World.cell?_setCell_other _ _ _ _ (by simp)]; exact c.clk.k4, by rw [World.cell?_setCell_other _ _ _ _ (by simp)]; exact c.clk.k5, World.cell?_setCell_same _ _ _ c.clk.k6, by rw [World.cell?_setCell_other _ _ _ _ (by simp)]; exact c.clk.k7, by rw [World.cell?_setCell_other _ _ _ _ (by simp)]; exact c.clk.k8, fun q hq => by simpa using c.clk.fr q hq⟩, ⟨fun q hq => ?_, fun q => by simpa using c.kk.fr q⟩, c.off.trans (ho.mono fun _ g => Or.inr g)⟩
  · obtain ⟨v, r⟩ := c.rdr
    exact ⟨v, r.offk (k := K) (x := lv) ho (Ne.symm hRK) c.clk.k0⟩
  · rw [World.cell?_setCell_other _ _ _ _ (by intro e; cases e; omega)]; exact c.kk.cell q hq
theorem CS.set7 (c : CS w0 w R K s a bad lv h mi sc p dg) (hRK : R ≠ K) (x : Int) : CS w0 (w.setCell ⟨K, 7, none⟩ (.int .i64 x)) R K s a bad lv h mi sc x dg := by
  have ho : Off (· = K) w (w.setCell ⟨K, 7, none⟩ (.int .i64 x)) := (Off.refl (· = K) w).setCell (p := ⟨K, 7, none⟩) rfl _
  refine ⟨?_, ⟨by rw [World.cell?_setCell_other _ _ _ _ (by simp)]; exact c.clk.k0, by rw [World.cell?_setCell_other _ _ _ _ (by simp)]; exact c.clk.k4, by rw [World.cell?_setCell_other _ _ _ _ (by simp)]; exact c.clk.k5, by rw [World.cell?_setCell_other _ _ _ _ (by simp)]; exact c.clk.k6, World.cell?_setCell_same _ _ _ c.clk.k7, by rw [World.cell?_setCell_other _ _ _ _ (by simp)]; exact c.clk.k8, fun q hq => by simpa using c.clk.fr q hq⟩, ⟨fun q hq => ?_, fun q => by simpa using c.kk.fr q⟩, c.off.trans (ho.mono fun _ g => Or.inr g)⟩
  · obtain ⟨v, r⟩ := c.rdr
    exact ⟨v, r.offk (k := K) (x := lv) ho (Ne.symm hRK) c.clk.k0⟩
  · rw [World.cell?_setCell_other _ _ _ _ (by intro e; cases e; omega)]; exact c.kk.cell q hq
theorem CS.set8 (c : CS w0 w R K s a bad lv h mi sc p dg) (hRK : R ≠ K) (x : Int) : CS w0 (w.setCell ⟨K, 8, none⟩ (.int .i64 x)) R K s a bad lv h mi sc p x := by
  have ho : Off (· = K) w (w.setCell ⟨K, 8, none⟩ (.int .i64 x)) := (Off.refl (· = K) w).setCell (p := ⟨K, 8, none⟩) rfl _
  refine ⟨?_, ⟨by rw [World.cell?_setCell_other _ _ _ _ (by simp)]; exact c.clk.k0, by rw [World.cell?_setCell_other _ _ _ _ (by simp)]; exact c.clk.k4, by rw [World.cell?_setCell_other _ _ _ _ (by simp)]; exact c.clk.k5, by rw [World.cell?_setCell_other _ _ _ _ (by simp)]; exact c.clk.k6, by rw [World.cell?_setCell_other _ _ _ _ (by simp)]; exact c.clk.k7, World.cell?_setCell_same _ _ _ c.clk.k8, fun q hq => by simpa using c.clk.fr q hq⟩, ⟨fun q hq => ?_, fun q => by simpa using c.kk.fr q⟩, c.off.trans (ho.mono fun _ g => Or.inr g)⟩
  · obtain ⟨v, r⟩ := c.rdr
    exact ⟨v, r.offk (k := K) (x := lv) ho (Ne.symm hRK) c.clk.k0⟩
  · rw [World.cell?_setCell_other _ _ _ _ (by intro e; cases e; omega)]; exact c.kk.cell q hq
end
set_option maxHeartbeats 2000000 in
theorem clock_4 {R K : Nat} {s : ByteArray} {a : Nat} {bad : Option Nat} {l : Int} {hh : Int} {a1 : Nat} {b1 : Option Nat} (w : World) (hRK : R ≠ K) (hC : CS w w R K s a bad l 0 0 0 0 0) (hx : numS s 2 0 23 a bad = (hh, a1, b1)) (hd : isD (ahd s a1 b1) = false) :
    Calls Tryz.prog 66 #[.pointer (some ⟨R, 0, none⟩), .pointer (some ⟨K, 0, none⟩)] w fun e w' => e = .returned (.tuple #[]) ∧ CS w w' R K s a1 b1 4 hh 0 0 0 0 := by
  have HX : Hid (numS s 2 0 23 a bad = (hh, a1, b1)) := hx
  have HD : Hid (isD (ahd s a1 b1) = false) := hd
  clear hx hd
  have HC : Hid (CS w w R K s a bad l 0 0 0 0 0) := hC
  clear hC
  go_enter Tryz.func66, Tryz.ntmps66
  go_wp2_with fail
  obtain ⟨u1, ru1⟩ := HC.out.rdr
  refine (number_any 2 0 23 _ ru1 (by omega)).mono ?_
  rintro e w1 ⟨he, r1, o1⟩
  rw [HX.out] at he r1
  subst he
  have HC1 : Hid (CS w w1 R K s a1 b1 l 0 0 0 0 0) := HC.out.step hRK r1 o1
  have q1_0 := HC1.out.clk.k0
  have e1_0 := HC1.out.clk.fr 0 (by omega)
  have q1_4 := HC1.out.clk.k4
  have e1_4 := HC1.out.clk.fr 4 (by omega)
  have q1_5 := HC1.out.clk.k5
  have e1_5 := HC1.out.clk.fr 5 (by omega)
  have q1_6 := HC1.out.clk.k6
  have e1_6 := HC1.out.clk.fr 6 (by omega)
  have q1_7 := HC1.out.clk.k7
  have e1_7 := HC1.out.clk.fr 7 (by omega)
  have q1_8 := HC1.out.clk.k8
  have e1_8 := HC1.out.clk.fr 8 (by omega)
  clear ru1 r1 o1
  go_wp2_with fail
  obtain ⟨x1, rx1⟩ := ((HC1.out.set0 hRK 4).set4 hRK hh).rdr
  refine (digitAhead_any _ rx1).mono ?_
  rintro e v1 ⟨he, n1, rfl⟩
  rw [HD.out] at he
  subst he
  have HD1 : Hid (CS w _ R K s a1 b1 4 hh 0 0 0 0) := ((HC1.out.set0 hRK 4).set4 hRK hh).drewN hRK n1
  clear rx1
  go_wp2_with fail
  exact bodyPost_ret (v := .tuple #[]) (by simp [results, Tryz.results66, go_sem]) rfl ⟨rfl, HD1.out⟩

set_option maxHeartbeats 2000000 in
theorem clock_5 {R K : Nat} {s : ByteArray} {a : Nat} {bad : Option Nat} {l : Int} {hh mm : Int} {a1 a2 : Nat} {b1 b2 : Option Nat} (w : World) (hRK : R ≠ K) (hC : CS w w R K s a bad l 0 0 0 0 0) (hx : numS s 2 0 23 a bad = (hh, a1, b1)) (hd : isD (ahd s a1 b1) = true)
    (hy : numS s 2 0 59 a1 b1 = (mm, a2, b2)) (hd2 : isD (ahd s a2 b2) = false) :
    Calls Tryz.prog 66 #[.pointer (some ⟨R, 0, none⟩), .pointer (some ⟨K, 0, none⟩)] w fun e w' => e = .returned (.tuple #[]) ∧ CS w w' R K s a2 b2 5 hh mm 0 0 0 := by
  have HX : Hid (numS s 2 0 23 a bad = (hh, a1, b1)) := hx
  have HD : Hid (isD (ahd s a1 b1) = true) := hd
  have HY : Hid (numS s 2 0 59 a1 b1 = (mm, a2, b2)) := hy
  have HE : Hid (isD (ahd s a2 b2) = false) := hd2
  clear hx hd hy hd2
  have HC : Hid (CS w w R K s a bad l 0 0 0 0 0) := hC
  clear hC
  go_enter Tryz.func66, Tryz.ntmps66
  go_wp2_with fail
  obtain ⟨u1, ru1⟩ := HC.out.rdr
  refine (number_any 2 0 23 _ ru1 (by omega)).mono ?_
  rintro e w1 ⟨he, r1, o1⟩
  rw [HX.out] at he r1
  subst he
  have HC1 : Hid (CS w w1 R K s a1 b1 l 0 0 0 0 0) := HC.out.step hRK r1 o1
  have q1_0 := HC1.out.clk.k0
  have e1_0 := HC1.out.clk.fr 0 (by omega)
  have q1_4 := HC1.out.clk.k4
  have e1_4 := HC1.out.clk.fr 4 (by omega)
  have q1_5 := HC1.out.clk.k5
  have e1_5 := HC1.out.clk.fr 5 (by omega)
  have q1_6 := HC1.out.clk.k6
  have e1_6 := HC1.out.clk.fr 6 (by omega)
  have q1_7 := HC1.out.clk.k7
  have e1_7 := HC1.out.clk.fr 7 (by omega)
  have q1_8 := HC1.out.clk.k8
  have e1_8 := HC1.out.clk.fr 8 (by omega)
  clear ru1 r1 o1
  go_wp2_with fail
  obtain ⟨x1, rx1⟩ := ((HC1.out.set0 hRK 4).set4 hRK hh).rdr
  refine (digitAhead_any _ rx1).mono ?_
  rintro e v1 ⟨he, n1, rfl⟩
  rw [HD.out] at he
  subst he
  have HD1 : Hid (CS w _ R K s a1 b1 4 hh 0 0 0 0) := ((HC1.out.set0 hRK 4).set4 hRK hh).drewN hRK n1
  clear rx1
  clear q1_0 e1_0 q1_4 e1_4 q1_5 e1_5 q1_6 e1_6 q1_7 e1_7 q1_8 e1_8
  go_wp2_with fail
  obtain ⟨u2, ru2⟩ := HD1.out.rdr
  refine (number_any 2 0 59 _ ru2 (by omega)).mono ?_
  rintro e w2 ⟨he, r2, o2⟩
  rw [HY.out] at he r2
  subst he
  have HC2 : Hid (CS w w2 R K s a2 b2 4 hh 0 0 0 0) := HD1.out.step hRK r2 o2
  have q2_0 := HC2.out.clk.k0
  have e2_0 := HC2.out.clk.fr 0 (by omega)
  have q2_4 := HC2.out.clk.k4
  have e2_4 := HC2.out.clk.fr 4 (by omega)
  have q2_5 := HC2.out.clk.k5
  have e2_5 := HC2.out.clk.fr 5 (by omega)
  have q2_6 := HC2.out.clk.k6
  have e2_6 := HC2.out.clk.fr 6 (by omega)
  have q2_7 := HC2.out.clk.k7
  have e2_7 := HC2.out.clk.fr 7 (by omega)
  have q2_8 := HC2.out.clk.k8
  have e2_8 := HC2.out.clk.fr 8 (by omega)
  clear ru2 r2 o2
  go_wp2_with fail
  obtain ⟨x2, rx2⟩ := ((HC2.out.set0 hRK 5).set5 hRK mm).rdr
  refine (digitAhead_any _ rx2).mono ?_
  rintro e v2 ⟨he, n2, rfl⟩
  rw [HE.out] at he
  subst he
  have HD2 : Hid (CS w _ R K s a2 b2 5 hh mm 0 0 0) := ((HC2.out.set0 hRK 5).set5 hRK mm).drewN hRK n2
  clear rx2
  go_wp2_with fail
  exact bodyPost_ret (v := .tuple #[]) (by simp [results, Tryz.results66, go_sem]) rfl ⟨rfl, HD2.out⟩
end Go.Proofs.YtphobcobpclioaaGreatDoor
