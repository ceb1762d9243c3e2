/-
  The reference's Reader: clock.
-/
import Derived.Test.YtphobcobpclioaaGreatDoorRefIs
import Derived.Test.YtphobcobpclioaaGreatDoorRdTimes
namespace Go.Proofs.YtphobcobpclioaaGreatDoor
open Go.RowKit

/-- The reference's Reader and the Stamp in its box, as they stand in w, behind w0. -/
structure RCS (w0 w : World) (R K : Nat) (s : ByteArray) (a : Nat) (bad : Option Nat) (lv h mi sc p dg : Int) : Prop where
  rdr : RRd w R s a bad
  clk : Clk w K lv h mi sc p dg
  kk : KK K w0 w
  off : Off (RK R K) w0 w
section
variable {w0 w w' : World} {R K : Nat} {s : ByteArray} {a a' : Nat} {bad bad' : Option Nat} {lv h mi sc p dg : Int}
theorem RCS.step (c : RCS w0 w R K s a bad lv h mi sc p dg) (hRK : R ≠ K) (r : RRd w' R s a' bad') (o : Off (· = R) w w') : RCS w0 w' R K s a' bad' lv h mi sc p dg := by
  have hKl : K < w.heap.size := cell_lt c.clk.k0
  have hk : ∀ q, w'.cell? ⟨K, q, none⟩ = w.cell? ⟨K, q, none⟩ := fun q => o.cell (p := ⟨K, q, none⟩) hKl (by show ¬ K = R; omega)
  have hf : ∀ q, w'.frozen? ⟨K, q, none⟩ = w.frozen? ⟨K, q, none⟩ := fun q => o.frozen (p := ⟨K, q, none⟩) hKl (by show ¬ K = R; omega)
  exact ⟨r, ⟨by rw [hk]; exact c.clk.k0, by rw [hk]; exact c.clk.k4, by rw [hk]; exact c.clk.k5, by rw [hk]; exact c.clk.k6, by rw [hk]; exact c.clk.k7, by rw [hk]; exact c.clk.k8, fun q hq => by rw [hf]; exact c.clk.fr q hq⟩,
    ⟨fun q hq => by rw [hk]; exact c.kk.cell q hq, fun q => by rw [hf]; exact c.kk.fr q⟩, c.off.trans (o.mono fun _ g => Or.inl g)⟩
theorem RCS.drewN (c : RCS w0 w R K s a bad lv h mi sc p dg) (hRK : R ≠ K) (n : Nat) : RCS w0 (w.drewN n) R K s a bad lv h mi sc p dg :=
  c.step hRK (c.rdr.drewN n) ((Off.refl _ w).drewN n)
theorem RCS.set0 (c : RCS w0 w R K s a bad lv h mi sc p dg) (hRK : R ≠ K) (x : Int) : RCS w0 (w.setCell ⟨K, 0, none⟩ (.int .i64 x)) R K s a bad x h mi sc p dg := by
  have ho : Off (· = K) w (w.setCell ⟨K, 0, none⟩ (.int .i64 x)) := (Off.refl (· = K) w).setCell (p := ⟨K, 0, none⟩) rfl _
  refine ⟨c.rdr.off ho hRK, ⟨World.cell?_setCell_same _ _ _ c.clk.k0, by rw [World.cell?_setCell_other _ _ _ _ (by simp)]; exact c.clk.k4, by rw [World.cell?_setCell_other _ _ _ _ (by simp)]; exact c.clk.k5, by rw [World.cell?_setCell_other _ _ _ _ (by simp)]; exact c.clk.k6, by rw [World.cell?_setCell_other _ _ _ _ (by simp)]; exact c.clk.k7, by rw [World.cell?_setCell_other _ _ _ _ (by simp)]; exact c.clk.k8, fun q hq => by simpa using c.clk.fr q hq⟩, ⟨fun q hq => ?_, fun q => by simpa using c.kk.fr q⟩, c.off.trans (ho.mono fun _ g => Or.inr g)⟩
  rw [World.cell?_setCell_other _ _ _ _ (by intro e; cases e; omega)]; exact c.kk.cell q hq
theorem RCS.set4 (c : RCS w0 w R K s a bad lv h mi sc p dg) (hRK : R ≠ K) (x : Int) : RCS w0 (w.setCell ⟨K, 4, none⟩ (.int .i64 x)) R K s a bad lv x mi sc p dg := by
  have ho : Off (· = K) w (w.setCell ⟨K, 4, none⟩ (.int .i64 x)) := (Off.refl (· = K) w).setCell (p := ⟨K, 4, none⟩) rfl _
  refine ⟨c.rdr.off ho hRK, ⟨by rw [World.cell?_setCell_other _ _ _ _ (by simp)]; exact c.clk.k0, World.cell?_setCell_same _ _ _ c.clk.k4, by rw [World.cell?_setCell_other _ _ _ _ (by simp)]; exact c.clk.k5, by rw [World.cell?_setCell_other _ _ _ _ (by simp)]; exact c.clk.k6, by rw [World.cell?_setCell_other _ _ _ _ (by simp)]; exact c.clk.k7, by rw [World.cell?_setCell_other _ _ _ _ (by simp)]; exact c.clk.k8, fun q hq => by simpa using c.clk.fr q hq⟩, ⟨fun q hq => ?_, fun q => by simpa using c.kk.fr q⟩, c.off.trans (ho.mono fun _ g => Or.inr g)⟩
  rw [World.cell?_setCell_other _ _ _ _ (by intro e; cases e; omega)]; exact c.kk.cell q hq
theorem RCS.set5 (c : RCS w0 w R K s a bad lv h mi sc p dg) (hRK : R ≠ K) (x : Int) : RCS w0 (w.setCell ⟨K, 5, none⟩ (.int .i64 x)) R K s a bad lv h x sc p dg := by
  have ho : Off (· = K) w (w.setCell ⟨K, 5, none⟩ (.int .i64 x)) := (Off.refl (· = K) w).setCell (p := ⟨K, 5, none⟩) rfl _
  refine ⟨c.rdr.off ho hRK, ⟨by rw [World.cell?_setCell_other _ _ _ _ (by simp)]; exact c.clk.k0, by rw [World.cell?_setCell_other _ _ _ _ (by simp)]; exact c.clk.k4, World.cell?_setCell_same _ _ _ c.clk.k5, by rw [World.cell?_setCell_other _ _ _ _ (by simp)]; exact c.clk.k6, by rw [World.cell?_setCell_other _ _ _ _ (by simp)]; exact c.clk.k7, by rw [World.cell?_setCell_other _ _ _ _ (by simp)]; exact c.clk.k8, fun q hq => by simpa using c.clk.fr q hq⟩, ⟨fun q hq => ?_, fun q => by simpa using c.kk.fr q⟩, c.off.trans (ho.mono fun _ g => Or.inr g)⟩
  rw [World.cell?_setCell_other _ _ _ _ (by intro e; cases e; omega)]; exact c.kk.cell q hq
theorem RCS.set6 (c : RCS w0 w R K s a bad lv h mi sc p dg) (hRK : R ≠ K) (x : Int) : RCS w0 (w.setCell ⟨K, 6, none⟩ (.int .i64 x)) R K s a bad lv h mi x p dg := by
  have ho : Off (· = K) w (w.setCell ⟨K, 6, none⟩ (.int .i64 x)) := (Off.refl (· = K) w).setCell (p := ⟨K, 6, none⟩) rfl _
  refine ⟨c.rdr.off ho hRK, ⟨by rw [World.cell?_setCell_other _ _ _ _ (by simp)]; exact c.clk.k0, by rw [World.cell?_setCell_other _ _ _ _ (by simp)]; exact c.clk.k4, by rw [World.cell?_setCell_other _ _ _ _ (by simp)]; exact c.clk.k5, World.cell?_setCell_same _ _ _ c.clk.k6, by rw [World.cell?_setCell_other _ _ _ _ (by simp)]; exact c.clk.k7, by rw [World.cell?_setCell_other _ _ _ _ (by simp)]; exact c.clk.k8, fun q hq => by simpa using c.clk.fr q hq⟩, ⟨fun q hq => ?_, fun q => by simpa using c.kk.fr q⟩, c.off.trans (ho.mono fun _ g => Or.inr g)⟩
  rw [World.cell?_setCell_other _ _ _ _ (by intro e; cases e; omega)]; exact c.kk.cell q hq
theorem RCS.set7 (c : RCS w0 w R K s a bad lv h mi sc p dg) (hRK : R ≠ K) (x : Int) : RCS w0 (w.setCell ⟨K, 7, none⟩ (.int .i64 x)) R K s a bad lv h mi sc x dg := by
  have ho : Off (· = K) w (w.setCell ⟨K, 7, none⟩ (.int .i64 x)) := (Off.refl (· = K) w).setCell (p := ⟨K, 7, none⟩) rfl _
  refine ⟨c.rdr.off ho hRK, ⟨by rw [World.cell?_setCell_other _ _ _ _ (by simp)]; exact c.clk.k0, by rw [World.cell?_setCell_other _ _ _ _ (by simp)]; exact c.clk.k4, by rw [World.cell?_setCell_other _ _ _ _ (by simp)]; exact c.clk.k5, by rw [World.cell?_setCell_other _ _ _ _ (by simp)]; exact c.clk.k6, World.cell?_setCell_same _ _ _ c.clk.k7, by rw [World.cell?_setCell_other _ _ _ _ (by simp)]; exact c.clk.k8, fun q hq => by simpa using c.clk.fr q hq⟩, ⟨fun q hq => ?_, fun q => by simpa using c.kk.fr q⟩, c.off.trans (ho.mono fun _ g => Or.inr g)⟩
  rw [World.cell?_setCell_other _ _ _ _ (by intro e; cases e; omega)]; exact c.kk.cell q hq
theorem RCS.set8 (c : RCS w0 w R K s a bad lv h mi sc p dg) (hRK : R ≠ K) (x : Int) : RCS w0 (w.setCell ⟨K, 8, none⟩ (.int .i64 x)) R K s a bad lv h mi sc p x := by
  have ho : Off (· = K) w (w.setCell ⟨K, 8, none⟩ (.int .i64 x)) := (Off.refl (· = K) w).setCell (p := ⟨K, 8, none⟩) rfl _
  refine ⟨c.rdr.off ho hRK, ⟨by rw [World.cell?_setCell_other _ _ _ _ (by simp)]; exact c.clk.k0, by rw [World.cell?_setCell_other _ _ _ _ (by simp)]; exact c.clk.k4, by rw [World.cell?_setCell_other _ _ _ _ (by simp)]; exact c.clk.k5, by rw [World.cell?_setCell_other _ _ _ _ (by simp)]; exact c.clk.k6, by rw [World.cell?_setCell_other _ _ _ _ (by simp)]; exact c.clk.k7, World.cell?_setCell_same _ _ _ c.clk.k8, fun q hq => by simpa using c.clk.fr q hq⟩, ⟨fun q hq => ?_, fun q => by simpa using c.kk.fr q⟩, c.off.trans (ho.mono fun _ g => Or.inr g)⟩
  rw [World.cell?_setCell_other _ _ _ _ (by intro e; cases e; omega)]; exact c.kk.cell q hq
end
theorem Off.trans2 {P : Nat → Prop} {w w1 w' : World} {R : Nat} (h : Off (· = R) w w1) (g : Off P w1 w') (hp : ∀ k, k < w.heap.size → ¬ k = R → ¬ P k) : Off (· = R) w w' :=
  ⟨g.os.trans h.os, g.tape.trans h.tape, g.output.trans h.output, Nat.le_trans h.size g.size, fun k hk hn => (g.block k (Nat.lt_of_lt_of_le hk h.size) (hp k hk hn)).trans (h.block k hk hn)⟩
theorem off_up {w w' : World} {a b : Obj} {R : Nat} (h : Off (RK R w.heap.size) ((w.alloc a).alloc b) w') : Off (· = R) w w' :=
  (((Off.refl (· = R) w).alloc a).alloc b).trans2 h fun k hk hn g => by rcases g with g | g <;> omega
theorem rcs_new {w : World} {R : Nat} {s : ByteArray} {a : Nat} {l y mo d zn : Int} {z : Bool} (h : RRd w R s a none) : RCS ((w.alloc (.cells #[.int .i64 l, .int .i64 y, .int .i64 mo, .int .i64 d, .int .i64 0, .int .i64 0, .int .i64 0, .int .i64 0, .int .i64 0, .bool z, .int .i64 zn] 66)).alloc (.cells #[.int .i64 0, .int .i64 0, .int .i64 0, .int .i64 0, .int .i64 0, .int .i64 0, .int .i64 0, .int .i64 0, .int .i64 0, .bool false, .int .i64 0] 66)) ((w.alloc (.cells #[.int .i64 l, .int .i64 y, .int .i64 mo, .int .i64 d, .int .i64 0, .int .i64 0, .int .i64 0, .int .i64 0, .int .i64 0, .bool z, .int .i64 zn] 66)).alloc (.cells #[.int .i64 0, .int .i64 0, .int .i64 0, .int .i64 0, .int .i64 0, .int .i64 0, .int .i64 0, .int .i64 0, .int .i64 0, .bool false, .int .i64 0] 66)) R w.heap.size s a none l 0 0 0 0 0 :=
  ⟨(h.alloc _).alloc _, ⟨by simp, by simp, by simp, by simp, by simp, by simp, fun o _ => by simp⟩, ⟨fun _ _ => rfl, fun _ => rfl⟩, Off.refl _ _⟩
set_option maxHeartbeats 2000000 in
theorem rclock_4 {R : Nat} {s : ByteArray} {a : Nat} {l y mo d zn : Int} {z : Bool} {hh : Int} {a1 : Nat} {b1 : Option Nat} (w : World) (hr : RRd w R s a none) (hx : numS s 2 0 23 a none = (hh, a1, b1)) (hd : isD (ahd s a1 b1) = false) :
    Calls Tryz.prog 56 #[.pointer (some ⟨R, 0, none⟩), .agg #[.int .i64 l, .int .i64 y, .int .i64 mo, .int .i64 d, .int .i64 0, .int .i64 0, .int .i64 0, .int .i64 0, .int .i64 0, .bool z, .int .i64 zn]] w fun e w' => ∃ (lv' h' mi' sc' p' dg' : Int) (a' : Nat), e = .returned (.agg #[.int .i64 (lv'), .int .i64 y, .int .i64 mo, .int .i64 d, .int .i64 (h'), .int .i64 (mi'), .int .i64 (sc'), .int .i64 (p'), .int .i64 (dg'), .bool z, .int .i64 zn]) ∧ RRd w' R s a' b1 ∧ (b1 = none → a' = a1 ∧ lv' = 4 ∧ h' = hh ∧ mi' = 0 ∧ sc' = 0 ∧ p' = 0 ∧ dg' = 0) ∧ Off (· = R) w w' := by
  have hR : R < w.heap.size := cell_lt hr.text
  have hRK : R ≠ w.heap.size := by omega
  have HC : Hid (RCS ((w.alloc (.cells #[.int .i64 l, .int .i64 y, .int .i64 mo, .int .i64 d, .int .i64 0, .int .i64 0, .int .i64 0, .int .i64 0, .int .i64 0, .bool z, .int .i64 zn] 66)).alloc (.cells #[.int .i64 0, .int .i64 0, .int .i64 0, .int .i64 0, .int .i64 0, .int .i64 0, .int .i64 0, .int .i64 0, .int .i64 0, .bool false, .int .i64 0] 66)) ((w.alloc (.cells #[.int .i64 l, .int .i64 y, .int .i64 mo, .int .i64 d, .int .i64 0, .int .i64 0, .int .i64 0, .int .i64 0, .int .i64 0, .bool z, .int .i64 zn] 66)).alloc (.cells #[.int .i64 0, .int .i64 0, .int .i64 0, .int .i64 0, .int .i64 0, .int .i64 0, .int .i64 0, .int .i64 0, .int .i64 0, .bool false, .int .i64 0] 66)) R w.heap.size s a none l 0 0 0 0 0) := rcs_new hr
  have HX : Hid (numS s 2 0 23 a none = (hh, a1, b1)) := hx
  have HD : Hid (isD (ahd s a1 b1) = false) := hd
  clear hr hx hd
  go_enter Tryz.func56, Tryz.ntmps56
  go_wp2_with fail
  refine (rnumber_any 2 0 23 _ HC.out.rdr (by omega) HX.out).mono ?_
  rintro e w1 ⟨n1, p1, rfl, r1, t1, o1⟩
  have HC1 : Hid (RCS ((w.alloc (.cells #[.int .i64 l, .int .i64 y, .int .i64 mo, .int .i64 d, .int .i64 0, .int .i64 0, .int .i64 0, .int .i64 0, .int .i64 0, .bool z, .int .i64 zn] 66)).alloc (.cells #[.int .i64 0, .int .i64 0, .int .i64 0, .int .i64 0, .int .i64 0, .int .i64 0, .int .i64 0, .int .i64 0, .int .i64 0, .bool false, .int .i64 0] 66)) w1 R w.heap.size s p1 b1 l 0 0 0 0 0) := HC.out.step hRK r1 o1
  have HT1 : Hid (b1 = none → n1 = hh ∧ p1 = a1) := t1
  have g1_1 : w1.cell? ⟨w.heap.size, 1, none⟩ = some (.int .i64 y) := by rw [HC1.out.kk.cell 1 (by omega)]; simp
  have g1_2 : w1.cell? ⟨w.heap.size, 2, none⟩ = some (.int .i64 mo) := by rw [HC1.out.kk.cell 2 (by omega)]; simp
  have g1_3 : w1.cell? ⟨w.heap.size, 3, none⟩ = some (.int .i64 d) := by rw [HC1.out.kk.cell 3 (by omega)]; simp
  have g1_9 : w1.cell? ⟨w.heap.size, 9, none⟩ = some (.bool z) := by rw [HC1.out.kk.cell 9 (by omega)]; simp
  have g1_10 : w1.cell? ⟨w.heap.size, 10, none⟩ = some (.int .i64 zn) := by rw [HC1.out.kk.cell 10 (by omega)]; simp
  have hG1 : ∀ o, w1.cell? ⟨w.heap.size + 1, o, none⟩ = ((w.alloc (.cells #[.int .i64 l, .int .i64 y, .int .i64 mo, .int .i64 d, .int .i64 0, .int .i64 0, .int .i64 0, .int .i64 0, .int .i64 0, .bool z, .int .i64 zn] 66)).alloc (.cells #[.int .i64 0, .int .i64 0, .int .i64 0, .int .i64 0, .int .i64 0, .int .i64 0, .int .i64 0, .int .i64 0, .int .i64 0, .bool false, .int .i64 0] 66)).cell? ⟨w.heap.size + 1, o, none⟩ := fun o => HC1.out.off.cell (p := ⟨w.heap.size + 1, o, none⟩) (by simp) (by unfold RK; simp only; omega)
  have hF1 : ∀ o, w1.frozen? ⟨w.heap.size + 1, o, none⟩ = ((w.alloc (.cells #[.int .i64 l, .int .i64 y, .int .i64 mo, .int .i64 d, .int .i64 0, .int .i64 0, .int .i64 0, .int .i64 0, .int .i64 0, .bool z, .int .i64 zn] 66)).alloc (.cells #[.int .i64 0, .int .i64 0, .int .i64 0, .int .i64 0, .int .i64 0, .int .i64 0, .int .i64 0, .int .i64 0, .int .i64 0, .bool false, .int .i64 0] 66)).frozen? ⟨w.heap.size + 1, o, none⟩ := fun o => HC1.out.off.frozen (p := ⟨w.heap.size + 1, o, none⟩) (by simp) (by unfold RK; simp only; omega)
  have q1_0 := HC1.out.clk.k0
  have e1_0 := HC1.out.clk.fr 0 (by omega)
  have q1_4 := HC1.out.clk.k4
  have e1_4 := HC1.out.clk.fr 4 (by omega)
  have q1_5 := HC1.out.clk.k5
  have e1_5 := HC1.out.clk.fr 5 (by omega)
  have q1_6 := HC1.out.clk.k6
  have e1_6 := HC1.out.clk.fr 6 (by omega)
  have q1_7 := HC1.out.clk.k7
  have e1_7 := HC1.out.clk.fr 7 (by omega)
  have q1_8 := HC1.out.clk.k8
  have e1_8 := HC1.out.clk.fr 8 (by omega)
  clear r1 t1 o1
  go_wp2_with fail
  have HD1' : Hid (isD (ahd s p1 b1) = false) := by
    unfold Hid
    cases b1 with | none => (rw [(HT1.out rfl).2]; exact HD.out) | some q => exact HD.out
  refine (more_any _ ((HC1.out.set4 hRK n1).set0 hRK 4).rdr).mono ?_
  rintro e v1 ⟨he, m1, rfl⟩
  rw [HD1'.out] at he
  subst he
  have HE1 : Hid (RCS ((w.alloc (.cells #[.int .i64 l, .int .i64 y, .int .i64 mo, .int .i64 d, .int .i64 0, .int .i64 0, .int .i64 0, .int .i64 0, .int .i64 0, .bool z, .int .i64 zn] 66)).alloc (.cells #[.int .i64 0, .int .i64 0, .int .i64 0, .int .i64 0, .int .i64 0, .int .i64 0, .int .i64 0, .int .i64 0, .int .i64 0, .bool false, .int .i64 0] 66)) _ R w.heap.size s p1 b1 4 n1 0 0 0 0) := ((HC1.out.set4 hRK n1).set0 hRK 4).drewN hRK m1
  go_wp2_with fail
  refine bodyPost_ret (v := .agg #[.int .i64 4, .int .i64 y, .int .i64 mo, .int .i64 d, .int .i64 n1, .int .i64 0, .int .i64 0, .int .i64 0, .int .i64 0, .bool z, .int .i64 zn]) (by simp [results, Tryz.results56, go_sem, hG1, World.cell?_setCell_other]) rfl ⟨4, n1, 0, 0, 0, 0, p1, rfl, ?_, fun e => ⟨(HT1.out e).2, rfl, (HT1.out e).1, rfl, rfl, rfl, rfl⟩, ?_⟩
  · exact HE1.out.rdr.off (off_set11 (P := (· = w.heap.size + 1)) (Off.refl _ _) rfl _ _ _ _ _ _ _ _ _ _ _) (by show ¬ R = w.heap.size + 1; omega)
  · exact off_new11 (off_up HE1.out.off) (Nat.le_succ _) _ _ _ _ _ _ _ _ _ _ _

set_option maxHeartbeats 2000000 in
theorem rclock_5 {R : Nat} {s : ByteArray} {a : Nat} {l y mo d zn : Int} {z : Bool} {hh mm : Int} {a1 a2 : Nat} {b2 : Option Nat} (w : World) (hr : RRd w R s a none) (hx : numS s 2 0 23 a none = (hh, a1, none)) (hd : isD (ahd s a1 none) = true) (hy : numS s 2 0 59 a1 none = (mm, a2, b2)) (hd2 : isD (ahd s a2 b2) = false) :
    Calls Tryz.prog 56 #[.pointer (some ⟨R, 0, none⟩), .agg #[.int .i64 l, .int .i64 y, .int .i64 mo, .int .i64 d, .int .i64 0, .int .i64 0, .int .i64 0, .int .i64 0, .int .i64 0, .bool z, .int .i64 zn]] w fun e w' => ∃ (lv' h' mi' sc' p' dg' : Int) (a' : Nat), e = .returned (.agg #[.int .i64 (lv'), .int .i64 y, .int .i64 mo, .int .i64 d, .int .i64 (h'), .int .i64 (mi'), .int .i64 (sc'), .int .i64 (p'), .int .i64 (dg'), .bool z, .int .i64 zn]) ∧ RRd w' R s a' b2 ∧ (b2 = none → a' = a2 ∧ lv' = 5 ∧ h' = hh ∧ mi' = mm ∧ sc' = 0 ∧ p' = 0 ∧ dg' = 0) ∧ Off (· = R) w w' := by
  have hR : R < w.heap.size := cell_lt hr.text
  have hRK : R ≠ w.heap.size := by omega
  have HC : Hid (RCS ((w.alloc (.cells #[.int .i64 l, .int .i64 y, .int .i64 mo, .int .i64 d, .int .i64 0, .int .i64 0, .int .i64 0, .int .i64 0, .int .i64 0, .bool z, .int .i64 zn] 66)).alloc (.cells #[.int .i64 0, .int .i64 0, .int .i64 0, .int .i64 0, .int .i64 0, .int .i64 0, .int .i64 0, .int .i64 0, .int .i64 0, .bool false, .int .i64 0] 66)) ((w.alloc (.cells #[.int .i64 l, .int .i64 y, .int .i64 mo, .int .i64 d, .int .i64 0, .int .i64 0, .int .i64 0, .int .i64 0, .int .i64 0, .bool z, .int .i64 zn] 66)).alloc (.cells #[.int .i64 0, .int .i64 0, .int .i64 0, .int .i64 0, .int .i64 0, .int .i64 0, .int .i64 0, .int .i64 0, .int .i64 0, .bool false, .int .i64 0] 66)) R w.heap.size s a none l 0 0 0 0 0) := rcs_new hr
  have HX : Hid (numS s 2 0 23 a none = (hh, a1, none)) := hx
  have HD : Hid (isD (ahd s a1 none) = true) := hd
  have HY : Hid (numS s 2 0 59 a1 none = (mm, a2, b2)) := hy
  have HZ : Hid (isD (ahd s a2 b2) = false) := hd2
  clear hr hx hd hy hd2
  go_enter Tryz.func56, Tryz.ntmps56
  go_wp2_with fail
  refine (rnumber_any 2 0 23 _ HC.out.rdr (by omega) HX.out).mono ?_
  rintro e w1 ⟨n1, p1, rfl, r1, t1, o1⟩
  obtain ⟨rfl, rfl⟩ := t1 rfl
  have HC1 : Hid (RCS ((w.alloc (.cells #[.int .i64 l, .int .i64 y, .int .i64 mo, .int .i64 d, .int .i64 0, .int .i64 0, .int .i64 0, .int .i64 0, .int .i64 0, .bool z, .int .i64 zn] 66)).alloc (.cells #[.int .i64 0, .int .i64 0, .int .i64 0, .int .i64 0, .int .i64 0, .int .i64 0, .int .i64 0, .int .i64 0, .int .i64 0, .bool false, .int .i64 0] 66)) w1 R w.heap.size s p1 none l 0 0 0 0 0) := HC.out.step hRK r1 o1
  have g1_1 : w1.cell? ⟨w.heap.size, 1, none⟩ = some (.int .i64 y) := by rw [HC1.out.kk.cell 1 (by omega)]; simp
  have g1_2 : w1.cell? ⟨w.heap.size, 2, none⟩ = some (.int .i64 mo) := by rw [HC1.out.kk.cell 2 (by omega)]; simp
  have g1_3 : w1.cell? ⟨w.heap.size, 3, none⟩ = some (.int .i64 d) := by rw [HC1.out.kk.cell 3 (by omega)]; simp
  have g1_9 : w1.cell? ⟨w.heap.size, 9, none⟩ = some (.bool z) := by rw [HC1.out.kk.cell 9 (by omega)]; simp
  have g1_10 : w1.cell? ⟨w.heap.size, 10, none⟩ = some (.int .i64 zn) := by rw [HC1.out.kk.cell 10 (by omega)]; simp
  have hG1 : ∀ o, w1.cell? ⟨w.heap.size + 1, o, none⟩ = ((w.alloc (.cells #[.int .i64 l, .int .i64 y, .int .i64 mo, .int .i64 d, .int .i64 0, .int .i64 0, .int .i64 0, .int .i64 0, .int .i64 0, .bool z, .int .i64 zn] 66)).alloc (.cells #[.int .i64 0, .int .i64 0, .int .i64 0, .int .i64 0, .int .i64 0, .int .i64 0, .int .i64 0, .int .i64 0, .int .i64 0, .bool false, .int .i64 0] 66)).cell? ⟨w.heap.size + 1, o, none⟩ := fun o => HC1.out.off.cell (p := ⟨w.heap.size + 1, o, none⟩) (by simp) (by unfold RK; simp only; omega)
  have hF1 : ∀ o, w1.frozen? ⟨w.heap.size + 1, o, none⟩ = ((w.alloc (.cells #[.int .i64 l, .int .i64 y, .int .i64 mo, .int .i64 d, .int .i64 0, .int .i64 0, .int .i64 0, .int .i64 0, .int .i64 0, .bool z, .int .i64 zn] 66)).alloc (.cells #[.int .i64 0, .int .i64 0, .int .i64 0, .int .i64 0, .int .i64 0, .int .i64 0, .int .i64 0, .int .i64 0, .int .i64 0, .bool false, .int .i64 0] 66)).frozen? ⟨w.heap.size + 1, o, none⟩ := fun o => HC1.out.off.frozen (p := ⟨w.heap.size + 1, o, none⟩) (by simp) (by unfold RK; simp only; omega)
  have q1_0 := HC1.out.clk.k0
  have e1_0 := HC1.out.clk.fr 0 (by omega)
  have q1_4 := HC1.out.clk.k4
  have e1_4 := HC1.out.clk.fr 4 (by omega)
  have q1_5 := HC1.out.clk.k5
  have e1_5 := HC1.out.clk.fr 5 (by omega)
  have q1_6 := HC1.out.clk.k6
  have e1_6 := HC1.out.clk.fr 6 (by omega)
  have q1_7 := HC1.out.clk.k7
  have e1_7 := HC1.out.clk.fr 7 (by omega)
  have q1_8 := HC1.out.clk.k8
  have e1_8 := HC1.out.clk.fr 8 (by omega)
  clear r1 o1
  go_wp2_with fail
  have HD1' : Hid (isD (ahd s p1 none) = true) := by
    unfold Hid
    exact HD.out
  refine (more_any _ ((HC1.out.set4 hRK n1).set0 hRK 4).rdr).mono ?_
  rintro e v1 ⟨he, m1, rfl⟩
  rw [HD1'.out] at he
  subst he
  have HE1 : Hid (RCS ((w.alloc (.cells #[.int .i64 l, .int .i64 y, .int .i64 mo, .int .i64 d, .int .i64 0, .int .i64 0, .int .i64 0, .int .i64 0, .int .i64 0, .bool z, .int .i64 zn] 66)).alloc (.cells #[.int .i64 0, .int .i64 0, .int .i64 0, .int .i64 0, .int .i64 0, .int .i64 0, .int .i64 0, .int .i64 0, .int .i64 0, .bool false, .int .i64 0] 66)) _ R w.heap.size s p1 none 4 n1 0 0 0 0) := ((HC1.out.set4 hRK n1).set0 hRK 4).drewN hRK m1
  clear q1_0 e1_0 q1_4 e1_4 q1_5 e1_5 q1_6 e1_6 q1_7 e1_7 q1_8 e1_8 g1_1 g1_2 g1_3 g1_9 g1_10 hG1 hF1
  go_wp2_with fail
  refine (rnumber_any 2 0 59 _ HE1.out.rdr (by omega) HY.out).mono ?_
  rintro e w2 ⟨n2, p2, rfl, r2, t2, o2⟩
  have HC2 : Hid (RCS ((w.alloc (.cells #[.int .i64 l, .int .i64 y, .int .i64 mo, .int .i64 d, .int .i64 0, .int .i64 0, .int .i64 0, .int .i64 0, .int .i64 0, .bool z, .int .i64 zn] 66)).alloc (.cells #[.int .i64 0, .int .i64 0, .int .i64 0, .int .i64 0, .int .i64 0, .int .i64 0, .int .i64 0, .int .i64 0, .int .i64 0, .bool false, .int .i64 0] 66)) w2 R w.heap.size s p2 b2 4 n1 0 0 0 0) := HE1.out.step hRK r2 o2
  have HT2 : Hid (b2 = none → n2 = mm ∧ p2 = a2) := t2
  have g2_1 : w2.cell? ⟨w.heap.size, 1, none⟩ = some (.int .i64 y) := by rw [HC2.out.kk.cell 1 (by omega)]; simp
  have g2_2 : w2.cell? ⟨w.heap.size, 2, none⟩ = some (.int .i64 mo) := by rw [HC2.out.kk.cell 2 (by omega)]; simp
  have g2_3 : w2.cell? ⟨w.heap.size, 3, none⟩ = some (.int .i64 d) := by rw [HC2.out.kk.cell 3 (by omega)]; simp
  have g2_9 : w2.cell? ⟨w.heap.size, 9, none⟩ = some (.bool z) := by rw [HC2.out.kk.cell 9 (by omega)]; simp
  have g2_10 : w2.cell? ⟨w.heap.size, 10, none⟩ = some (.int .i64 zn) := by rw [HC2.out.kk.cell 10 (by omega)]; simp
  have hG2 : ∀ o, w2.cell? ⟨w.heap.size + 1, o, none⟩ = ((w.alloc (.cells #[.int .i64 l, .int .i64 y, .int .i64 mo, .int .i64 d, .int .i64 0, .int .i64 0, .int .i64 0, .int .i64 0, .int .i64 0, .bool z, .int .i64 zn] 66)).alloc (.cells #[.int .i64 0, .int .i64 0, .int .i64 0, .int .i64 0, .int .i64 0, .int .i64 0, .int .i64 0, .int .i64 0, .int .i64 0, .bool false, .int .i64 0] 66)).cell? ⟨w.heap.size + 1, o, none⟩ := fun o => HC2.out.off.cell (p := ⟨w.heap.size + 1, o, none⟩) (by simp) (by unfold RK; simp only; omega)
  have hF2 : ∀ o, w2.frozen? ⟨w.heap.size + 1, o, none⟩ = ((w.alloc (.cells #[.int .i64 l, .int .i64 y, .int .i64 mo, .int .i64 d, .int .i64 0, .int .i64 0, .int .i64 0, .int .i64 0, .int .i64 0, .bool z, .int .i64 zn] 66)).alloc (.cells #[.int .i64 0, .int .i64 0, .int .i64 0, .int .i64 0, .int .i64 0, .int .i64 0, .int .i64 0, .int .i64 0, .int .i64 0, .bool false, .int .i64 0] 66)).frozen? ⟨w.heap.size + 1, o, none⟩ := fun o => HC2.out.off.frozen (p := ⟨w.heap.size + 1, o, none⟩) (by simp) (by unfold RK; simp only; omega)
  have q2_0 := HC2.out.clk.k0
  have e2_0 := HC2.out.clk.fr 0 (by omega)
  have q2_4 := HC2.out.clk.k4
  have e2_4 := HC2.out.clk.fr 4 (by omega)
  have q2_5 := HC2.out.clk.k5
  have e2_5 := HC2.out.clk.fr 5 (by omega)
  have q2_6 := HC2.out.clk.k6
  have e2_6 := HC2.out.clk.fr 6 (by omega)
  have q2_7 := HC2.out.clk.k7
  have e2_7 := HC2.out.clk.fr 7 (by omega)
  have q2_8 := HC2.out.clk.k8
  have e2_8 := HC2.out.clk.fr 8 (by omega)
  clear r2 t2 o2
  go_wp2_with fail
  have HD2' : Hid (isD (ahd s p2 b2) = false) := by
    unfold Hid
    cases b2 with | none => (rw [(HT2.out rfl).2]; exact HZ.out) | some q => exact HZ.out
  refine (more_any _ ((HC2.out.set5 hRK n2).set0 hRK 5).rdr).mono ?_
  rintro e v2 ⟨he, m2, rfl⟩
  rw [HD2'.out] at he
  subst he
  have HE2 : Hid (RCS ((w.alloc (.cells #[.int .i64 l, .int .i64 y, .int .i64 mo, .int .i64 d, .int .i64 0, .int .i64 0, .int .i64 0, .int .i64 0, .int .i64 0, .bool z, .int .i64 zn] 66)).alloc (.cells #[.int .i64 0, .int .i64 0, .int .i64 0, .int .i64 0, .int .i64 0, .int .i64 0, .int .i64 0, .int .i64 0, .int .i64 0, .bool false, .int .i64 0] 66)) _ R w.heap.size s p2 b2 5 n1 n2 0 0 0) := ((HC2.out.set5 hRK n2).set0 hRK 5).drewN hRK m2
  go_wp2_with fail
  refine bodyPost_ret (v := .agg #[.int .i64 5, .int .i64 y, .int .i64 mo, .int .i64 d, .int .i64 n1, .int .i64 n2, .int .i64 0, .int .i64 0, .int .i64 0, .bool z, .int .i64 zn]) (by simp [results, Tryz.results56, go_sem, hG2, World.cell?_setCell_other]) rfl ⟨5, n1, n2, 0, 0, 0, p2, rfl, ?_, fun e => ⟨(HT2.out e).2, rfl, rfl, (HT2.out e).1, rfl, rfl, rfl⟩, ?_⟩
  · exact HE2.out.rdr.off (off_set11 (P := (· = w.heap.size + 1)) (Off.refl _ _) rfl _ _ _ _ _ _ _ _ _ _ _) (by show ¬ R = w.heap.size + 1; omega)
  · exact off_new11 (off_up HE2.out.off) (Nat.le_succ _) _ _ _ _ _ _ _ _ _ _ _

set_option maxHeartbeats 2000000 in
theorem rclock_6 {R : Nat} {s : ByteArray} {a : Nat} {l y mo d zn : Int} {z : Bool} {hh mm ss : Int} {a1 a2 a3 : Nat} {b3 : Option Nat} (w : World) (hr : RRd w R s a none) (hx : numS s 2 0 23 a none = (hh, a1, none)) (hd : isD (ahd s a1 none) = true) (hy : numS s 2 0 59 a1 none = (mm, a2, none)) (hd2 : isD (ahd s a2 none) = true)
    (hw : numS s 2 0 59 a2 none = (ss, a3, b3)) (hp : ahd s a3 b3 ≠ 46) :
    Calls Tryz.prog 56 #[.pointer (some ⟨R, 0, none⟩), .agg #[.int .i64 l, .int .i64 y, .int .i64 mo, .int .i64 d, .int .i64 0, .int .i64 0, .int .i64 0, .int .i64 0, .int .i64 0, .bool z, .int .i64 zn]] w fun e w' => ∃ (lv' h' mi' sc' p' dg' : Int) (a' : Nat), e = .returned (.agg #[.int .i64 (lv'), .int .i64 y, .int .i64 mo, .int .i64 d, .int .i64 (h'), .int .i64 (mi'), .int .i64 (sc'), .int .i64 (p'), .int .i64 (dg'), .bool z, .int .i64 zn]) ∧ RRd w' R s a' b3 ∧ (b3 = none → a' = a3 ∧ lv' = 6 ∧ h' = hh ∧ mi' = mm ∧ sc' = ss ∧ p' = 0 ∧ dg' = 0) ∧ Off (· = R) w w' := by
  have hR : R < w.heap.size := cell_lt hr.text
  have hRK : R ≠ w.heap.size := by omega
  have HC : Hid (RCS ((w.alloc (.cells #[.int .i64 l, .int .i64 y, .int .i64 mo, .int .i64 d, .int .i64 0, .int .i64 0, .int .i64 0, .int .i64 0, .int .i64 0, .bool z, .int .i64 zn] 66)).alloc (.cells #[.int .i64 0, .int .i64 0, .int .i64 0, .int .i64 0, .int .i64 0, .int .i64 0, .int .i64 0, .int .i64 0, .int .i64 0, .bool false, .int .i64 0] 66)) ((w.alloc (.cells #[.int .i64 l, .int .i64 y, .int .i64 mo, .int .i64 d, .int .i64 0, .int .i64 0, .int .i64 0, .int .i64 0, .int .i64 0, .bool z, .int .i64 zn] 66)).alloc (.cells #[.int .i64 0, .int .i64 0, .int .i64 0, .int .i64 0, .int .i64 0, .int .i64 0, .int .i64 0, .int .i64 0, .int .i64 0, .bool false, .int .i64 0] 66)) R w.heap.size s a none l 0 0 0 0 0) := rcs_new hr
  have HX : Hid (numS s 2 0 23 a none = (hh, a1, none)) := hx
  have HD : Hid (isD (ahd s a1 none) = true) := hd
  have HY : Hid (numS s 2 0 59 a1 none = (mm, a2, none)) := hy
  have HZ : Hid (isD (ahd s a2 none) = true) := hd2
  have HW : Hid (numS s 2 0 59 a2 none = (ss, a3, b3)) := hw
  clear hr hx hd hy hd2 hw
  have HP : Hid (ahd s a3 b3 ≠ 46) := hp
  clear hp
  go_enter Tryz.func56, Tryz.ntmps56
  go_wp2_with fail
  refine (rnumber_any 2 0 23 _ HC.out.rdr (by omega) HX.out).mono ?_
  rintro e w1 ⟨n1, p1, rfl, r1, t1, o1⟩
  obtain ⟨rfl, rfl⟩ := t1 rfl
  have HC1 : Hid (RCS ((w.alloc (.cells #[.int .i64 l, .int .i64 y, .int .i64 mo, .int .i64 d, .int .i64 0, .int .i64 0, .int .i64 0, .int .i64 0, .int .i64 0, .bool z, .int .i64 zn] 66)).alloc (.cells #[.int .i64 0, .int .i64 0, .int .i64 0, .int .i64 0, .int .i64 0, .int .i64 0, .int .i64 0, .int .i64 0, .int .i64 0, .bool false, .int .i64 0] 66)) w1 R w.heap.size s p1 none l 0 0 0 0 0) := HC.out.step hRK r1 o1
  have g1_1 : w1.cell? ⟨w.heap.size, 1, none⟩ = some (.int .i64 y) := by rw [HC1.out.kk.cell 1 (by omega)]; simp
  have g1_2 : w1.cell? ⟨w.heap.size, 2, none⟩ = some (.int .i64 mo) := by rw [HC1.out.kk.cell 2 (by omega)]; simp
  have g1_3 : w1.cell? ⟨w.heap.size, 3, none⟩ = some (.int .i64 d) := by rw [HC1.out.kk.cell 3 (by omega)]; simp
  have g1_9 : w1.cell? ⟨w.heap.size, 9, none⟩ = some (.bool z) := by rw [HC1.out.kk.cell 9 (by omega)]; simp
  have g1_10 : w1.cell? ⟨w.heap.size, 10, none⟩ = some (.int .i64 zn) := by rw [HC1.out.kk.cell 10 (by omega)]; simp
  have hG1 : ∀ o, w1.cell? ⟨w.heap.size + 1, o, none⟩ = ((w.alloc (.cells #[.int .i64 l, .int .i64 y, .int .i64 mo, .int .i64 d, .int .i64 0, .int .i64 0, .int .i64 0, .int .i64 0, .int .i64 0, .bool z, .int .i64 zn] 66)).alloc (.cells #[.int .i64 0, .int .i64 0, .int .i64 0, .int .i64 0, .int .i64 0, .int .i64 0, .int .i64 0, .int .i64 0, .int .i64 0, .bool false, .int .i64 0] 66)).cell? ⟨w.heap.size + 1, o, none⟩ := fun o => HC1.out.off.cell (p := ⟨w.heap.size + 1, o, none⟩) (by simp) (by unfold RK; simp only; omega)
  have hF1 : ∀ o, w1.frozen? ⟨w.heap.size + 1, o, none⟩ = ((w.alloc (.cells #[.int .i64 l, .int .i64 y, .int .i64 mo, .int .i64 d, .int .i64 0, .int .i64 0, .int .i64 0, .int .i64 0, .int .i64 0, .bool z, .int .i64 zn] 66)).alloc (.cells #[.int .i64 0, .int .i64 0, .int .i64 0, .int .i64 0, .int .i64 0, .int .i64 0, .int .i64 0, .int .i64 0, .int .i64 0, .bool false, .int .i64 0] 66)).frozen? ⟨w.heap.size + 1, o, none⟩ := fun o => HC1.out.off.frozen (p := ⟨w.heap.size + 1, o, none⟩) (by simp) (by unfold RK; simp only; omega)
  have q1_0 := HC1.out.clk.k0
  have e1_0 := HC1.out.clk.fr 0 (by omega)
  have q1_4 := HC1.out.clk.k4
  have e1_4 := HC1.out.clk.fr 4 (by omega)
  have q1_5 := HC1.out.clk.k5
  have e1_5 := HC1.out.clk.fr 5 (by omega)
  have q1_6 := HC1.out.clk.k6
  have e1_6 := HC1.out.clk.fr 6 (by omega)
  have q1_7 := HC1.out.clk.k7
  have e1_7 := HC1.out.clk.fr 7 (by omega)
  have q1_8 := HC1.out.clk.k8
  have e1_8 := HC1.out.clk.fr 8 (by omega)
  clear r1 o1
  go_wp2_with fail
  have HD1' : Hid (isD (ahd s p1 none) = true) := by
    unfold Hid
    exact HD.out
  refine (more_any _ ((HC1.out.set4 hRK n1).set0 hRK 4).rdr).mono ?_
  rintro e v1 ⟨he, m1, rfl⟩
  rw [HD1'.out] at he
  subst he
  have HE1 : Hid (RCS ((w.alloc (.cells #[.int .i64 l, .int .i64 y, .int .i64 mo, .int .i64 d, .int .i64 0, .int .i64 0, .int .i64 0, .int .i64 0, .int .i64 0, .bool z, .int .i64 zn] 66)).alloc (.cells #[.int .i64 0, .int .i64 0, .int .i64 0, .int .i64 0, .int .i64 0, .int .i64 0, .int .i64 0, .int .i64 0, .int .i64 0, .bool false, .int .i64 0] 66)) _ R w.heap.size s p1 none 4 n1 0 0 0 0) := ((HC1.out.set4 hRK n1).set0 hRK 4).drewN hRK m1
  clear q1_0 e1_0 q1_4 e1_4 q1_5 e1_5 q1_6 e1_6 q1_7 e1_7 q1_8 e1_8 g1_1 g1_2 g1_3 g1_9 g1_10 hG1 hF1
  go_wp2_with fail
  refine (rnumber_any 2 0 59 _ HE1.out.rdr (by omega) HY.out).mono ?_
  rintro e w2 ⟨n2, p2, rfl, r2, t2, o2⟩
  obtain ⟨rfl, rfl⟩ := t2 rfl
  have HC2 : Hid (RCS ((w.alloc (.cells #[.int .i64 l, .int .i64 y, .int .i64 mo, .int .i64 d, .int .i64 0, .int .i64 0, .int .i64 0, .int .i64 0, .int .i64 0, .bool z, .int .i64 zn] 66)).alloc (.cells #[.int .i64 0, .int .i64 0, .int .i64 0, .int .i64 0, .int .i64 0, .int .i64 0, .int .i64 0, .int .i64 0, .int .i64 0, .bool false, .int .i64 0] 66)) w2 R w.heap.size s p2 none 4 n1 0 0 0 0) := HE1.out.step hRK r2 o2
  have g2_1 : w2.cell? ⟨w.heap.size, 1, none⟩ = some (.int .i64 y) := by rw [HC2.out.kk.cell 1 (by omega)]; simp
  have g2_2 : w2.cell? ⟨w.heap.size, 2, none⟩ = some (.int .i64 mo) := by rw [HC2.out.kk.cell 2 (by omega)]; simp
  have g2_3 : w2.cell? ⟨w.heap.size, 3, none⟩ = some (.int .i64 d) := by rw [HC2.out.kk.cell 3 (by omega)]; simp
  have g2_9 : w2.cell? ⟨w.heap.size, 9, none⟩ = some (.bool z) := by rw [HC2.out.kk.cell 9 (by omega)]; simp
  have g2_10 : w2.cell? ⟨w.heap.size, 10, none⟩ = some (.int .i64 zn) := by rw [HC2.out.kk.cell 10 (by omega)]; simp
  have hG2 : ∀ o, w2.cell? ⟨w.heap.size + 1, o, none⟩ = ((w.alloc (.cells #[.int .i64 l, .int .i64 y, .int .i64 mo, .int .i64 d, .int .i64 0, .int .i64 0, .int .i64 0, .int .i64 0, .int .i64 0, .bool z, .int .i64 zn] 66)).alloc (.cells #[.int .i64 0, .int .i64 0, .int .i64 0, .int .i64 0, .int .i64 0, .int .i64 0, .int .i64 0, .int .i64 0, .int .i64 0, .bool false, .int .i64 0] 66)).cell? ⟨w.heap.size + 1, o, none⟩ := fun o => HC2.out.off.cell (p := ⟨w.heap.size + 1, o, none⟩) (by simp) (by unfold RK; simp only; omega)
  have hF2 : ∀ o, w2.frozen? ⟨w.heap.size + 1, o, none⟩ = ((w.alloc (.cells #[.int .i64 l, .int .i64 y, .int .i64 mo, .int .i64 d, .int .i64 0, .int .i64 0, .int .i64 0, .int .i64 0, .int .i64 0, .bool z, .int .i64 zn] 66)).alloc (.cells #[.int .i64 0, .int .i64 0, .int .i64 0, .int .i64 0, .int .i64 0, .int .i64 0, .int .i64 0, .int .i64 0, .int .i64 0, .bool false, .int .i64 0] 66)).frozen? ⟨w.heap.size + 1, o, none⟩ := fun o => HC2.out.off.frozen (p := ⟨w.heap.size + 1, o, none⟩) (by simp) (by unfold RK; simp only; omega)
  have q2_0 := HC2.out.clk.k0
  have e2_0 := HC2.out.clk.fr 0 (by omega)
  have q2_4 := HC2.out.clk.k4
  have e2_4 := HC2.out.clk.fr 4 (by omega)
  have q2_5 := HC2.out.clk.k5
  have e2_5 := HC2.out.clk.fr 5 (by omega)
  have q2_6 := HC2.out.clk.k6
  have e2_6 := HC2.out.clk.fr 6 (by omega)
  have q2_7 := HC2.out.clk.k7
  have e2_7 := HC2.out.clk.fr 7 (by omega)
  have q2_8 := HC2.out.clk.k8
  have e2_8 := HC2.out.clk.fr 8 (by omega)
  clear r2 o2
  go_wp2_with fail
  have HD2' : Hid (isD (ahd s p2 none) = true) := by
    unfold Hid
    exact HZ.out
  refine (more_any _ ((HC2.out.set5 hRK n2).set0 hRK 5).rdr).mono ?_
  rintro e v2 ⟨he, m2, rfl⟩
  rw [HD2'.out] at he
  subst he
  have HE2 : Hid (RCS ((w.alloc (.cells #[.int .i64 l, .int .i64 y, .int .i64 mo, .int .i64 d, .int .i64 0, .int .i64 0, .int .i64 0, .int .i64 0, .int .i64 0, .bool z, .int .i64 zn] 66)).alloc (.cells #[.int .i64 0, .int .i64 0, .int .i64 0, .int .i64 0, .int .i64 0, .int .i64 0, .int .i64 0, .int .i64 0, .int .i64 0, .bool false, .int .i64 0] 66)) _ R w.heap.size s p2 none 5 n1 n2 0 0 0) := ((HC2.out.set5 hRK n2).set0 hRK 5).drewN hRK m2
  clear q2_0 e2_0 q2_4 e2_4 q2_5 e2_5 q2_6 e2_6 q2_7 e2_7 q2_8 e2_8 g2_1 g2_2 g2_3 g2_9 g2_10 hG2 hF2
  go_wp2_with fail
  refine (rnumber_any 2 0 59 _ HE2.out.rdr (by omega) HW.out).mono ?_
  rintro e w3 ⟨n3, p3, rfl, r3, t3, o3⟩
  have HC3 : Hid (RCS ((w.alloc (.cells #[.int .i64 l, .int .i64 y, .int .i64 mo, .int .i64 d, .int .i64 0, .int .i64 0, .int .i64 0, .int .i64 0, .int .i64 0, .bool z, .int .i64 zn] 66)).alloc (.cells #[.int .i64 0, .int .i64 0, .int .i64 0, .int .i64 0, .int .i64 0, .int .i64 0, .int .i64 0, .int .i64 0, .int .i64 0, .bool false, .int .i64 0] 66)) w3 R w.heap.size s p3 b3 5 n1 n2 0 0 0) := HE2.out.step hRK r3 o3
  have HT3 : Hid (b3 = none → n3 = ss ∧ p3 = a3) := t3
  have g3_1 : w3.cell? ⟨w.heap.size, 1, none⟩ = some (.int .i64 y) := by rw [HC3.out.kk.cell 1 (by omega)]; simp
  have g3_2 : w3.cell? ⟨w.heap.size, 2, none⟩ = some (.int .i64 mo) := by rw [HC3.out.kk.cell 2 (by omega)]; simp
  have g3_3 : w3.cell? ⟨w.heap.size, 3, none⟩ = some (.int .i64 d) := by rw [HC3.out.kk.cell 3 (by omega)]; simp
  have g3_9 : w3.cell? ⟨w.heap.size, 9, none⟩ = some (.bool z) := by rw [HC3.out.kk.cell 9 (by omega)]; simp
  have g3_10 : w3.cell? ⟨w.heap.size, 10, none⟩ = some (.int .i64 zn) := by rw [HC3.out.kk.cell 10 (by omega)]; simp
  have hG3 : ∀ o, w3.cell? ⟨w.heap.size + 1, o, none⟩ = ((w.alloc (.cells #[.int .i64 l, .int .i64 y, .int .i64 mo, .int .i64 d, .int .i64 0, .int .i64 0, .int .i64 0, .int .i64 0, .int .i64 0, .bool z, .int .i64 zn] 66)).alloc (.cells #[.int .i64 0, .int .i64 0, .int .i64 0, .int .i64 0, .int .i64 0, .int .i64 0, .int .i64 0, .int .i64 0, .int .i64 0, .bool false, .int .i64 0] 66)).cell? ⟨w.heap.size + 1, o, none⟩ := fun o => HC3.out.off.cell (p := ⟨w.heap.size + 1, o, none⟩) (by simp) (by unfold RK; simp only; omega)
  have hF3 : ∀ o, w3.frozen? ⟨w.heap.size + 1, o, none⟩ = ((w.alloc (.cells #[.int .i64 l, .int .i64 y, .int .i64 mo, .int .i64 d, .int .i64 0, .int .i64 0, .int .i64 0, .int .i64 0, .int .i64 0, .bool z, .int .i64 zn] 66)).alloc (.cells #[.int .i64 0, .int .i64 0, .int .i64 0, .int .i64 0, .int .i64 0, .int .i64 0, .int .i64 0, .int .i64 0, .int .i64 0, .bool false, .int .i64 0] 66)).frozen? ⟨w.heap.size + 1, o, none⟩ := fun o => HC3.out.off.frozen (p := ⟨w.heap.size + 1, o, none⟩) (by simp) (by unfold RK; simp only; omega)
  have q3_0 := HC3.out.clk.k0
  have e3_0 := HC3.out.clk.fr 0 (by omega)
  have q3_4 := HC3.out.clk.k4
  have e3_4 := HC3.out.clk.fr 4 (by omega)
  have q3_5 := HC3.out.clk.k5
  have e3_5 := HC3.out.clk.fr 5 (by omega)
  have q3_6 := HC3.out.clk.k6
  have e3_6 := HC3.out.clk.fr 6 (by omega)
  have q3_7 := HC3.out.clk.k7
  have e3_7 := HC3.out.clk.fr 7 (by omega)
  have q3_8 := HC3.out.clk.k8
  have e3_8 := HC3.out.clk.fr 8 (by omega)
  clear r3 t3 o3
  go_wp2_with fail
  have HD3' : Hid ((ahd s p3 b3 == 46) = false) := by
    unfold Hid
    cases b3 with | none => (rw [(HT3.out rfl).2]; simpa using HP.out) | some q => exact (show ((0 : Nat) == 46) = false from rfl)
  refine (ris_any 46 _ ((HC3.out.set6 hRK n3).set0 hRK 6).rdr (by omega) (by omega)).mono ?_
  rintro e v3 ⟨he, m3, rfl⟩
  rw [HD3'.out] at he
  subst he
  have HE3 : Hid (RCS ((w.alloc (.cells #[.int .i64 l, .int .i64 y, .int .i64 mo, .int .i64 d, .int .i64 0, .int .i64 0, .int .i64 0, .int .i64 0, .int .i64 0, .bool z, .int .i64 zn] 66)).alloc (.cells #[.int .i64 0, .int .i64 0, .int .i64 0, .int .i64 0, .int .i64 0, .int .i64 0, .int .i64 0, .int .i64 0, .int .i64 0, .bool false, .int .i64 0] 66)) _ R w.heap.size s p3 b3 6 n1 n2 n3 0 0) := ((HC3.out.set6 hRK n3).set0 hRK 6).drewN hRK m3
  go_wp2_with fail
  refine bodyPost_ret (v := .agg #[.int .i64 6, .int .i64 y, .int .i64 mo, .int .i64 d, .int .i64 n1, .int .i64 n2, .int .i64 n3, .int .i64 0, .int .i64 0, .bool z, .int .i64 zn]) (by simp [results, Tryz.results56, go_sem, hG3, World.cell?_setCell_other]) rfl ⟨6, n1, n2, n3, 0, 0, p3, rfl, ?_, fun e => ⟨(HT3.out e).2, rfl, rfl, rfl, (HT3.out e).1, rfl, rfl⟩, ?_⟩
  · exact HE3.out.rdr.off (off_set11 (P := (· = w.heap.size + 1)) (Off.refl _ _) rfl _ _ _ _ _ _ _ _ _ _ _) (by show ¬ R = w.heap.size + 1; omega)
  · exact off_new11 (off_up HE3.out.off) (Nat.le_succ _) _ _ _ _ _ _ _ _ _ _ _
end Go.Proofs.YtphobcobpclioaaGreatDoor
