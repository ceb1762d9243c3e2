/-
  stamp.Parse.
-/
import Derived.Test.YtphobcobpclioaaGreatDoorRdTimes
namespace Go.Proofs.YtphobcobpclioaaGreatDoor
open Go.RowKit

/-- A clock where a digit stands behind a date. -/
def clkS (s : ByteArray) (A : Nat) (B : Option Nat) (lv : Int) : Int × Int × Int × Int × Int × Int × Nat × Option Nat := if isD (ahd s A B) then clockS s A B else (lv, 0, 0, 0, 0, 0, A, B)
theorem date_day {s : ByteArray} {a : Nat} {bad : Option Nat} {lv y mo d : Int} {A : Nat} {B : Option Nat} (h : dateS s a bad = (lv, y, mo, d, A, B)) (hd : isD (ahd s A B) = true) : lv = 3 := by
  unfold dateS at h
  simp only at h
  split at h
  · split at h
    · simp only [Prod.mk.injEq] at h; exact h.1.symm
    · rename_i g; simp only [Prod.mk.injEq] at h; obtain ⟨_, _, _, _, rfl, rfl⟩ := h; rw [hd] at g; exact absurd rfl g
  · rename_i g; simp only [Prod.mk.injEq] at h; obtain ⟨_, _, _, _, rfl, rfl⟩ := h; rw [hd] at g; exact absurd rfl g
theorem cs_boxed {w : World} {R : Nat} {s : ByteArray} {a : Nat} {bad : Option Nat} {lv y mo d : Int} (h : ∃ v, Rdr w R s a bad v) : CS (w.alloc (.cells #[.int .i64 lv, .int .i64 y, .int .i64 mo, .int .i64 d, .int .i64 0, .int .i64 0, .int .i64 0, .int .i64 0, .int .i64 0, .bool false, .int .i64 0] 66)) (w.alloc (.cells #[.int .i64 lv, .int .i64 y, .int .i64 mo, .int .i64 d, .int .i64 0, .int .i64 0, .int .i64 0, .int .i64 0, .int .i64 0, .bool false, .int .i64 0] 66)) R w.heap.size s a bad lv 0 0 0 0 0 := by
  obtain ⟨v, h⟩ := h
  exact ⟨⟨v, h.alloc _⟩, ⟨by simp, by simp, by simp, by simp, by simp, by simp, fun o _ => by simp⟩, ⟨fun _ _ => rfl, fun _ => rfl⟩, Off.refl _ _⟩
/-- The eleven cells of a Stamp at a block. -/
structure Eleven (w : World) (K : Nat) (lv y mo d h mi sc p dg : Int) (z : Bool) (zn : Int) : Prop where
  k0 : w.cell? ⟨K, 0, none⟩ = some (.int .i64 lv)
  k1 : w.cell? ⟨K, 1, none⟩ = some (.int .i64 y)
  k2 : w.cell? ⟨K, 2, none⟩ = some (.int .i64 mo)
  k3 : w.cell? ⟨K, 3, none⟩ = some (.int .i64 d)
  k4 : w.cell? ⟨K, 4, none⟩ = some (.int .i64 h)
  k5 : w.cell? ⟨K, 5, none⟩ = some (.int .i64 mi)
  k6 : w.cell? ⟨K, 6, none⟩ = some (.int .i64 sc)
  k7 : w.cell? ⟨K, 7, none⟩ = some (.int .i64 p)
  k8 : w.cell? ⟨K, 8, none⟩ = some (.int .i64 dg)
  k9 : w.cell? ⟨K, 9, none⟩ = some (.bool z)
  k10 : w.cell? ⟨K, 10, none⟩ = some (.int .i64 zn)
theorem Eleven.same {w w' : World} {K : Nat} {lv y mo d h mi sc p dg : Int} {z : Bool} {zn : Int} (e : Eleven w K lv y mo d h mi sc p dg z zn) (g : ∀ o, w'.cell? ⟨K, o, none⟩ = w.cell? ⟨K, o, none⟩) : Eleven w' K lv y mo d h mi sc p dg z zn :=
  ⟨by rw [g]; exact e.k0, by rw [g]; exact e.k1, by rw [g]; exact e.k2, by rw [g]; exact e.k3, by rw [g]; exact e.k4, by rw [g]; exact e.k5, by rw [g]; exact e.k6, by rw [g]; exact e.k7, by rw [g]; exact e.k8, by rw [g]; exact e.k9, by rw [g]; exact e.k10⟩
theorem eleven_of {w1 w2 w3 : World} {R : Nat} {s : ByteArray} {a : Nat} {bad : Option Nat} {lv0 y mo d lv h mi sc p dg : Int} {z : Bool} {zn : Int}
    (c : CS (w1.alloc (.cells #[.int .i64 lv0, .int .i64 y, .int .i64 mo, .int .i64 d, .int .i64 0, .int .i64 0, .int .i64 0, .int .i64 0, .int .i64 0, .bool false, .int .i64 0] 66)) w2 R w1.heap.size s a bad lv h mi sc p dg) (z9 : w3.cell? ⟨w1.heap.size, 9, none⟩ = some (.bool z)) (z10 : w3.cell? ⟨w1.heap.size, 10, none⟩ = some (.int .i64 zn))
    (g : ∀ o, o ≠ 9 → o ≠ 10 → w3.cell? ⟨w1.heap.size, o, none⟩ = w2.cell? ⟨w1.heap.size, o, none⟩) : Eleven w3 w1.heap.size lv y mo d h mi sc p dg z zn :=
  ⟨by rw [g 0 (by omega) (by omega)]; exact c.clk.k0, by rw [g 1 (by omega) (by omega), c.kk.cell 1 (by omega)]; simp, by rw [g 2 (by omega) (by omega), c.kk.cell 2 (by omega)]; simp, by rw [g 3 (by omega) (by omega), c.kk.cell 3 (by omega)]; simp,
   by rw [g 4 (by omega) (by omega)]; exact c.clk.k4, by rw [g 5 (by omega) (by omega)]; exact c.clk.k5, by rw [g 6 (by omega) (by omega)]; exact c.clk.k6, by rw [g 7 (by omega) (by omega)]; exact c.clk.k7, by rw [g 8 (by omega) (by omega)]; exact c.clk.k8, z9, z10⟩
theorem cs_drew {w0 w : World} {R K : Nat} {s : ByteArray} {a : Nat} {bad : Option Nat} {lv h mi sc p dg : Int} (c : CS w0 w R K s a bad lv h mi sc p dg) (hRK : R ≠ K) (n : Nat) : CS (w.drewN n) (w.drewN n) R K s a bad lv h mi sc p dg := by
  have d := c.drewN hRK n
  exact ⟨d.rdr, d.clk, ⟨fun _ _ => rfl, fun _ => rfl⟩, Off.refl _ _⟩
theorem cs_from {w0 w : World} {R K : Nat} {s : ByteArray} {a : Nat} {bad : Option Nat} {lv h mi sc p dg : Int} {n : Nat} (c : CS (w0.drewN n) w R K s a bad lv h mi sc p dg) : CS w0 w R K s a bad lv h mi sc p dg := by
  exact ⟨c.rdr, c.clk, ⟨fun o ho => c.kk.cell o ho, fun o => c.kk.fr o⟩, ((Off.refl _ w0).drewN n).trans c.off⟩
theorem parse_below {w w1 w4 : World} {o1 o2 o3 : Obj} (h : Off (· = w.heap.size + 1) ((w.alloc o1).alloc o2) w1) (g : Off (RK (w.heap.size + 1) w1.heap.size) (w1.alloc o3) w4) : Below w.heap.size w w4 := by
  have a1 : Below w.heap.size w ((w.alloc o1).alloc o2) := ((Below.refl _ _).alloc (Nat.le_refl _) _).alloc (by simp) _
  have a2 : Below w.heap.size ((w.alloc o1).alloc o2) w1 := h.below (by simp; omega) (by rintro k rfl; omega)
  have hl : w.heap.size ≤ w1.heap.size := Nat.le_trans a1.size a2.size
  have a3 : Below w.heap.size w1 (w1.alloc o3) := (Below.refl _ _).alloc hl _
  have a4 : Below w.heap.size (w1.alloc o3) w4 := g.below (by simp; omega) (by rintro k (rfl | rfl) <;> omega)
  exact ((a1.trans a2).trans a3).trans a4
/-- What Parse answers: the Stamp, or the fault and its place. -/
def POut (w' : World) (lv y mo d h mi sc p dg : Int) (z : Bool) (zn : Int) (E : Option Nat) (e : Ending) : Prop := match E with
  | none => e = .returned (.tuple #[.agg #[.int .i64 lv, .int .i64 y, .int .i64 mo, .int .i64 d, .int .i64 h, .int .i64 mi, .int .i64 sc, .int .i64 p, .int .i64 dg, .bool z, .int .i64 zn], .nilIface])
  | some q => ∃ b, e = .returned (.tuple #[.agg #[.int .i64 0, .int .i64 0, .int .i64 0, .int .i64 0, .int .i64 0, .int .i64 0, .int .i64 0, .int .i64 0, .int .i64 0, .bool false, .int .i64 0], .iface 45 (.pointer (some ⟨b, 0, none⟩))]) ∧ FaultAt w' b q 10

set_option maxHeartbeats 2000000 in
theorem Parse_any (s : ByteArray) {lv y mo d : Int} {A : Nat} {B : Option Nat} {lv2 h mi sc p dg : Int} {A2 : Nat} {B2 : Option Nat} {Z : Bool} {ZN : Int} {A3 : Nat} {B3 E : Option Nat} (w : World) (hs : s.size ≤ maxLen) (hM : Months w)
    (hd : dateS s 0 none = (lv, y, mo, d, A, B)) (hc : clkS s A B lv = (lv2, h, mi, sc, p, dg, A2, B2)) (hz : zoneS s A2 B2 = (Z, ZN, A3, B3)) (he : endB s A3 B3 = E) :
    Calls Tryz.prog 50 #[.string s] w fun e w' => POut w' lv2 y mo d h mi sc p dg Z ZN E e ∧ Below w.heap.size w w' := by
  have HR : Hid (Rdr ((w.alloc (.cells #[.int .i64 0, .int .i64 0, .int .i64 0, .int .i64 0, .int .i64 0, .int .i64 0, .int .i64 0, .int .i64 0, .int .i64 0, .bool false, .int .i64 0] 66)).alloc (.cells #[.string s, .int .i64 0, .nilIface] 116)) (w.heap.size + 1) s 0 none .nilIface) := ⟨by simp, by simp, by simp, rfl, by simp, by simp, Nat.zero_le _, hs⟩
  have HM : Hid (Months ((w.alloc (.cells #[.int .i64 0, .int .i64 0, .int .i64 0, .int .i64 0, .int .i64 0, .int .i64 0, .int .i64 0, .int .i64 0, .int .i64 0, .bool false, .int .i64 0] 66)).alloc (.cells #[.string s, .int .i64 0, .nilIface] 116))) := months_alloc (months_alloc hM _) _
  have hRM : (w.heap.size + 1) ≠ 5 := by
    have := cell_lt hM.1
    simp only at this
    omega
  have HD : Hid (dateS s 0 none = (lv, y, mo, d, A, B)) := hd
  have HZ : Hid (zoneS s A2 B2 = (Z, ZN, A3, B3)) := hz
  have HE : Hid (endB s A3 B3 = E) := he
  have HRM : Hid ((w.heap.size + 1) ≠ 5) := hRM
  have HC : Hid (clkS s A B lv = (lv2, h, mi, sc, p, dg, A2, B2)) := hc
  clear hs hM hd hz he hRM hc
  cases hg : isD (ahd s A B) with
  | false =>
    have HG : Hid (isD (ahd s A B) = false) := hg
    have HC2 := HC.out
    unfold clkS at HC2
    rw [if_neg (by rw [hg]; decide)] at HC2
    simp only [Prod.mk.injEq] at HC2
    obtain ⟨rfl, rfl, rfl, rfl, rfl, rfl, rfl, rfl⟩ := HC2
    clear HC hg
    go_enter Tryz.func50, Tryz.ntmps50
    go_wp2_with fail
    refine (date_any _ HR.out HM.out HRM.out).mono ?_
    rw [HD.out]
    rintro e w1 ⟨rfl, r1, o1⟩
    have HC1 : Hid (CS (w1.alloc (.cells #[.int .i64 lv, .int .i64 y, .int .i64 mo, .int .i64 d, .int .i64 0, .int .i64 0, .int .i64 0, .int .i64 0, .int .i64 0, .bool false, .int .i64 0] 66)) (w1.alloc (.cells #[.int .i64 lv, .int .i64 y, .int .i64 mo, .int .i64 d, .int .i64 0, .int .i64 0, .int .i64 0, .int .i64 0, .int .i64 0, .bool false, .int .i64 0] 66)) (w.heap.size + 1) w1.heap.size s A B lv 0 0 0 0 0) := cs_boxed r1
    have HO1 : Hid (Off (· = (w.heap.size + 1)) ((w.alloc (.cells #[.int .i64 0, .int .i64 0, .int .i64 0, .int .i64 0, .int .i64 0, .int .i64 0, .int .i64 0, .int .i64 0, .int .i64 0, .bool false, .int .i64 0] 66)).alloc (.cells #[.string s, .int .i64 0, .nilIface] 116)) w1) := o1
    have hs1 : w.heap.size + 2 ≤ w1.heap.size := by have := o1.size; simpa using this
    have hg1 : ∀ o, w1.cell? ⟨w.heap.size, o, none⟩ = ((w.alloc (.cells #[.int .i64 0, .int .i64 0, .int .i64 0, .int .i64 0, .int .i64 0, .int .i64 0, .int .i64 0, .int .i64 0, .int .i64 0, .bool false, .int .i64 0] 66)).alloc (.cells #[.string s, .int .i64 0, .nilIface] 116)).cell? ⟨w.heap.size, o, none⟩ := fun o => o1.cell (p := ⟨w.heap.size, o, none⟩) (by simp; omega) (by show ¬ w.heap.size = (w.heap.size + 1); omega)
    have hf1 : ∀ o, w1.frozen? ⟨w.heap.size, o, none⟩ = ((w.alloc (.cells #[.int .i64 0, .int .i64 0, .int .i64 0, .int .i64 0, .int .i64 0, .int .i64 0, .int .i64 0, .int .i64 0, .int .i64 0, .bool false, .int .i64 0] 66)).alloc (.cells #[.string s, .int .i64 0, .nilIface] 116)).frozen? ⟨w.heap.size, o, none⟩ := fun o => o1.frozen (p := ⟨w.heap.size, o, none⟩) (by simp; omega) (by show ¬ w.heap.size = (w.heap.size + 1); omega)
    clear r1 o1
    go_wp2_with fail
    obtain ⟨v1, rx1⟩ := HC1.out.rdr
    refine (digitAhead_any _ rx1).mono ?_
    rintro e v2 ⟨he, n1, rfl⟩
    rw [HG.out] at he
    subst he
    clear rx1
    have HC3 : Hid (CS (w1.alloc (.cells #[.int .i64 lv, .int .i64 y, .int .i64 mo, .int .i64 d, .int .i64 0, .int .i64 0, .int .i64 0, .int .i64 0, .int .i64 0, .bool false, .int .i64 0] 66)) ((w1.alloc (.cells #[.int .i64 lv, .int .i64 y, .int .i64 mo, .int .i64 d, .int .i64 0, .int .i64 0, .int .i64 0, .int .i64 0, .int .i64 0, .bool false, .int .i64 0] 66)).drewN n1) (w.heap.size + 1) w1.heap.size s A B lv 0 0 0 0 0) := HC1.out.drewN (by omega) n1
    go_wp2_with fail
    obtain ⟨v3, r3⟩ := HC3.out.rdr
    refine (zone_any _ r3 (by omega) HC3.out.clk.k0 (by rw [HC3.out.kk.cell 9 (by omega)]; simp) (by rw [HC3.out.kk.cell 10 (by omega)]; simp) (by rw [HC3.out.kk.fr]; simp) (by rw [HC3.out.kk.fr]; simp)).mono ?_
    rw [HZ.out]
    rintro e w3 ⟨rfl, ⟨v4, r4⟩, z9, z10, zo, o3⟩
    have H11 : Hid (Eleven w3 w1.heap.size lv y mo d 0 0 0 0 0 Z ZN) := eleven_of HC3.out z9 z10 zo
    have HO3 : Hid (Off (RK (w.heap.size + 1) w1.heap.size) (w1.alloc (.cells #[.int .i64 lv, .int .i64 y, .int .i64 mo, .int .i64 d, .int .i64 0, .int .i64 0, .int .i64 0, .int .i64 0, .int .i64 0, .bool false, .int .i64 0] 66)) w3) := HC3.out.off.trans o3
    have HR3 : Hid (Rdr w3 (w.heap.size + 1) s A3 B3 v4) := r4
    clear r3 r4 z9 z10 zo o3
    go_wp2_with fail
    refine (end_any _ HR3.out).mono ?_
    rw [HE.out]
    rintro e w4 ⟨v5, rfl, r5, o5⟩
    have HO4 : Hid (Off (RK (w.heap.size + 1) w1.heap.size) (w1.alloc (.cells #[.int .i64 lv, .int .i64 y, .int .i64 mo, .int .i64 d, .int .i64 0, .int .i64 0, .int .i64 0, .int .i64 0, .int .i64 0, .bool false, .int .i64 0] 66)) w4) := HO3.out.trans (o5.mono fun _ g => Or.inl g)
    have h11 := H11.out.same (w' := w4) fun o => o5.cell (p := ⟨w1.heap.size, o, none⟩) (show w1.heap.size < w3.heap.size from cell_lt H11.out.k0) (by show ¬ w1.heap.size = (w.heap.size + 1); omega)
    have k0 := h11.k0
    have k1 := h11.k1
    have k2 := h11.k2
    have k3 := h11.k3
    have k4 := h11.k4
    have k5 := h11.k5
    have k6 := h11.k6
    have k7 := h11.k7
    have k8 := h11.k8
    have k9 := h11.k9
    have k10 := h11.k10
    have hg4 : ∀ o, w4.cell? ⟨w.heap.size, o, none⟩ = ((w.alloc (.cells #[.int .i64 0, .int .i64 0, .int .i64 0, .int .i64 0, .int .i64 0, .int .i64 0, .int .i64 0, .int .i64 0, .int .i64 0, .bool false, .int .i64 0] 66)).alloc (.cells #[.string s, .int .i64 0, .nilIface] 116)).cell? ⟨w.heap.size, o, none⟩ := fun o => by
      rw [HO4.out.cell (p := ⟨w.heap.size, o, none⟩) (by simp; omega) (by show ¬ (w.heap.size = (w.heap.size + 1) ∨ w.heap.size = w1.heap.size); omega), World.cell?_alloc_lt _ _ ⟨w.heap.size, o, none⟩ (by simp; omega), hg1]
    have hf4 : ∀ o, w4.frozen? ⟨w.heap.size, o, none⟩ = ((w.alloc (.cells #[.int .i64 0, .int .i64 0, .int .i64 0, .int .i64 0, .int .i64 0, .int .i64 0, .int .i64 0, .int .i64 0, .int .i64 0, .bool false, .int .i64 0] 66)).alloc (.cells #[.string s, .int .i64 0, .nilIface] 116)).frozen? ⟨w.heap.size, o, none⟩ := fun o => by
      rw [HO4.out.frozen (p := ⟨w.heap.size, o, none⟩) (by simp; omega) (by show ¬ (w.heap.size = (w.heap.size + 1) ∨ w.heap.size = w1.heap.size); omega), ← hf1 o]; exact ((Off.refl (fun _ => False) w1).alloc _).frozen (p := ⟨w.heap.size, o, none⟩) (by show w.heap.size < w1.heap.size; omega) id
    have HB4 : Hid (Below w.heap.size w w4) := parse_below HO1.out HO4.out
    have hl4 : w.heap.size < w4.heap.size := by have := HO4.out.size; simp at this; omega
    have HV : Hid (ErrAt w4 (w.heap.size + 1) v5 E) := r5.held
    clear r5 o5 h11 hg1 hf1
    cases E with
    | none =>
      obtain rfl : v5 = .nilIface := HV.out
      go_wp2_with fail
      refine bodyPost_ret (v := .tuple #[.agg #[.int .i64 lv, .int .i64 y, .int .i64 mo, .int .i64 d, .int .i64 0, .int .i64 0, .int .i64 0, .int .i64 0, .int .i64 0, .bool Z, .int .i64 ZN], .nilIface]) (by simp [results, Tryz.results50, go_sem, hg4, World.cell?_setCell_other]) rfl ⟨rfl, ?_⟩
      exact HB4.out.trans ((off_set11 (P := fun k => k = w.heap.size) (Off.refl _ _) rfl _ _ _ _ _ _ _ _ _ _ _).below (Nat.le_of_lt hl4) (by rintro k rfl; exact Nat.le_refl _))
    | some q =>
      obtain ⟨b, hb, rfl, f5⟩ := HV.out
      have HF : Hid (FaultAt w4 b q 10) := f5
      have hbn : Hid (b ≠ w.heap.size) := by
        rintro rfl
        have := f5.1
        rw [hg4] at this
        simp at this
      clear f5 hb
      go_wp2_with fail
      refine bodyPost_ret (v := .tuple #[.agg #[.int .i64 0, .int .i64 0, .int .i64 0, .int .i64 0, .int .i64 0, .int .i64 0, .int .i64 0, .int .i64 0, .int .i64 0, .bool false, .int .i64 0], .iface 45 (.pointer (some ⟨b, 0, none⟩))]) (by simp [results, Tryz.results50, go_sem, hg4, World.cell?_setCell_other]) rfl ⟨⟨b, rfl, ?_⟩, ?_⟩
      · exact faultAt_off HF.out (off_set11 (P := fun k => k = w.heap.size) (Off.refl _ _) rfl _ _ _ _ _ _ _ _ _ _ _) hbn.out
      · exact HB4.out.trans ((off_set11 (P := fun k => k = w.heap.size) (Off.refl _ _) rfl _ _ _ _ _ _ _ _ _ _ _).below (Nat.le_of_lt hl4) (by rintro k rfl; exact Nat.le_refl _))
  | true =>
    have HG : Hid (isD (ahd s A B) = true) := hg
    have HC2 : Hid (clockS s A B = (lv2, h, mi, sc, p, dg, A2, B2)) := by have e := HC.out; unfold clkS at e; rw [if_pos hg] at e; exact e
    clear HC hg
    go_enter Tryz.func50, Tryz.ntmps50
    go_wp2_with fail
    refine (date_any _ HR.out HM.out HRM.out).mono ?_
    rw [HD.out]
    rintro e w1 ⟨rfl, r1, o1⟩
    have HC1 : Hid (CS (w1.alloc (.cells #[.int .i64 lv, .int .i64 y, .int .i64 mo, .int .i64 d, .int .i64 0, .int .i64 0, .int .i64 0, .int .i64 0, .int .i64 0, .bool false, .int .i64 0] 66)) (w1.alloc (.cells #[.int .i64 lv, .int .i64 y, .int .i64 mo, .int .i64 d, .int .i64 0, .int .i64 0, .int .i64 0, .int .i64 0, .int .i64 0, .bool false, .int .i64 0] 66)) (w.heap.size + 1) w1.heap.size s A B lv 0 0 0 0 0) := cs_boxed r1
    have HO1 : Hid (Off (· = (w.heap.size + 1)) ((w.alloc (.cells #[.int .i64 0, .int .i64 0, .int .i64 0, .int .i64 0, .int .i64 0, .int .i64 0, .int .i64 0, .int .i64 0, .int .i64 0, .bool false, .int .i64 0] 66)).alloc (.cells #[.string s, .int .i64 0, .nilIface] 116)) w1) := o1
    have hs1 : w.heap.size + 2 ≤ w1.heap.size := by have := o1.size; simpa using this
    have hg1 : ∀ o, w1.cell? ⟨w.heap.size, o, none⟩ = ((w.alloc (.cells #[.int .i64 0, .int .i64 0, .int .i64 0, .int .i64 0, .int .i64 0, .int .i64 0, .int .i64 0, .int .i64 0, .int .i64 0, .bool false, .int .i64 0] 66)).alloc (.cells #[.string s, .int .i64 0, .nilIface] 116)).cell? ⟨w.heap.size, o, none⟩ := fun o => o1.cell (p := ⟨w.heap.size, o, none⟩) (by simp; omega) (by show ¬ w.heap.size = (w.heap.size + 1); omega)
    have hf1 : ∀ o, w1.frozen? ⟨w.heap.size, o, none⟩ = ((w.alloc (.cells #[.int .i64 0, .int .i64 0, .int .i64 0, .int .i64 0, .int .i64 0, .int .i64 0, .int .i64 0, .int .i64 0, .int .i64 0, .bool false, .int .i64 0] 66)).alloc (.cells #[.string s, .int .i64 0, .nilIface] 116)).frozen? ⟨w.heap.size, o, none⟩ := fun o => o1.frozen (p := ⟨w.heap.size, o, none⟩) (by simp; omega) (by show ¬ w.heap.size = (w.heap.size + 1); omega)
    clear r1 o1
    go_wp2_with fail
    obtain ⟨v1, rx1⟩ := HC1.out.rdr
    refine (digitAhead_any _ rx1).mono ?_
    rintro e v2 ⟨he, n1, rfl⟩
    rw [HG.out] at he
    subst he
    clear rx1
    go_wp2_with fail
    obtain rfl : lv = 3 := date_day HD.out HG.out
    refine (clock_any _ (by omega) (cs_drew HC1.out (by omega) n1) HC2.out).mono ?_
    rintro e w2 ⟨rfl, c2⟩
    have HC3 : Hid (CS (w1.alloc (.cells #[.int .i64 3, .int .i64 y, .int .i64 mo, .int .i64 d, .int .i64 0, .int .i64 0, .int .i64 0, .int .i64 0, .int .i64 0, .bool false, .int .i64 0] 66)) w2 (w.heap.size + 1) w1.heap.size s A2 B2 lv2 h mi sc p dg) := cs_from c2
    clear c2
    go_wp2_with fail
    obtain ⟨v3, r3⟩ := HC3.out.rdr
    refine (zone_any _ r3 (by omega) HC3.out.clk.k0 (by rw [HC3.out.kk.cell 9 (by omega)]; simp) (by rw [HC3.out.kk.cell 10 (by omega)]; simp) (by rw [HC3.out.kk.fr]; simp) (by rw [HC3.out.kk.fr]; simp)).mono ?_
    rw [HZ.out]
    rintro e w3 ⟨rfl, ⟨v4, r4⟩, z9, z10, zo, o3⟩
    have H11 : Hid (Eleven w3 w1.heap.size lv2 y mo d h mi sc p dg Z ZN) := eleven_of HC3.out z9 z10 zo
    have HO3 : Hid (Off (RK (w.heap.size + 1) w1.heap.size) (w1.alloc (.cells #[.int .i64 3, .int .i64 y, .int .i64 mo, .int .i64 d, .int .i64 0, .int .i64 0, .int .i64 0, .int .i64 0, .int .i64 0, .bool false, .int .i64 0] 66)) w3) := HC3.out.off.trans o3
    have HR3 : Hid (Rdr w3 (w.heap.size + 1) s A3 B3 v4) := r4
    clear r3 r4 z9 z10 zo o3
    go_wp2_with fail
    refine (end_any _ HR3.out).mono ?_
    rw [HE.out]
    rintro e w4 ⟨v5, rfl, r5, o5⟩
    have HO4 : Hid (Off (RK (w.heap.size + 1) w1.heap.size) (w1.alloc (.cells #[.int .i64 3, .int .i64 y, .int .i64 mo, .int .i64 d, .int .i64 0, .int .i64 0, .int .i64 0, .int .i64 0, .int .i64 0, .bool false, .int .i64 0] 66)) w4) := HO3.out.trans (o5.mono fun _ g => Or.inl g)
    have h11 := H11.out.same (w' := w4) fun o => o5.cell (p := ⟨w1.heap.size, o, none⟩) (show w1.heap.size < w3.heap.size from cell_lt H11.out.k0) (by show ¬ w1.heap.size = (w.heap.size + 1); omega)
    have k0 := h11.k0
    have k1 := h11.k1
    have k2 := h11.k2
    have k3 := h11.k3
    have k4 := h11.k4
    have k5 := h11.k5
    have k6 := h11.k6
    have k7 := h11.k7
    have k8 := h11.k8
    have k9 := h11.k9
    have k10 := h11.k10
    have hg4 : ∀ o, w4.cell? ⟨w.heap.size, o, none⟩ = ((w.alloc (.cells #[.int .i64 0, .int .i64 0, .int .i64 0, .int .i64 0, .int .i64 0, .int .i64 0, .int .i64 0, .int .i64 0, .int .i64 0, .bool false, .int .i64 0] 66)).alloc (.cells #[.string s, .int .i64 0, .nilIface] 116)).cell? ⟨w.heap.size, o, none⟩ := fun o => by
      rw [HO4.out.cell (p := ⟨w.heap.size, o, none⟩) (by simp; omega) (by show ¬ (w.heap.size = (w.heap.size + 1) ∨ w.heap.size = w1.heap.size); omega), World.cell?_alloc_lt _ _ ⟨w.heap.size, o, none⟩ (by simp; omega), hg1]
    have hf4 : ∀ o, w4.frozen? ⟨w.heap.size, o, none⟩ = ((w.alloc (.cells #[.int .i64 0, .int .i64 0, .int .i64 0, .int .i64 0, .int .i64 0, .int .i64 0, .int .i64 0, .int .i64 0, .int .i64 0, .bool false, .int .i64 0] 66)).alloc (.cells #[.string s, .int .i64 0, .nilIface] 116)).frozen? ⟨w.heap.size, o, none⟩ := fun o => by
      rw [HO4.out.frozen (p := ⟨w.heap.size, o, none⟩) (by simp; omega) (by show ¬ (w.heap.size = (w.heap.size + 1) ∨ w.heap.size = w1.heap.size); omega), ← hf1 o]; exact ((Off.refl (fun _ => False) w1).alloc _).frozen (p := ⟨w.heap.size, o, none⟩) (by show w.heap.size < w1.heap.size; omega) id
    have HB4 : Hid (Below w.heap.size w w4) := parse_below HO1.out HO4.out
    have hl4 : w.heap.size < w4.heap.size := by have := HO4.out.size; simp at this; omega
    have HV : Hid (ErrAt w4 (w.heap.size + 1) v5 E) := r5.held
    clear r5 o5 h11 hg1 hf1
    cases E with
    | none =>
      obtain rfl : v5 = .nilIface := HV.out
      go_wp2_with fail
      refine bodyPost_ret (v := .tuple #[.agg #[.int .i64 lv2, .int .i64 y, .int .i64 mo, .int .i64 d, .int .i64 h, .int .i64 mi, .int .i64 sc, .int .i64 p, .int .i64 dg, .bool Z, .int .i64 ZN], .nilIface]) (by simp [results, Tryz.results50, go_sem, hg4, World.cell?_setCell_other]) rfl ⟨rfl, ?_⟩
      exact HB4.out.trans ((off_set11 (P := fun k => k = w.heap.size) (Off.refl _ _) rfl _ _ _ _ _ _ _ _ _ _ _).below (Nat.le_of_lt hl4) (by rintro k rfl; exact Nat.le_refl _))
    | some q =>
      obtain ⟨b, hb, rfl, f5⟩ := HV.out
      have HF : Hid (FaultAt w4 b q 10) := f5
      have hbn : Hid (b ≠ w.heap.size) := by
        rintro rfl
        have := f5.1
        rw [hg4] at this
        simp at this
      clear f5 hb
      go_wp2_with fail
      refine bodyPost_ret (v := .tuple #[.agg #[.int .i64 0, .int .i64 0, .int .i64 0, .int .i64 0, .int .i64 0, .int .i64 0, .int .i64 0, .int .i64 0, .int .i64 0, .bool false, .int .i64 0], .iface 45 (.pointer (some ⟨b, 0, none⟩))]) (by simp [results, Tryz.results50, go_sem, hg4, World.cell?_setCell_other]) rfl ⟨⟨b, rfl, ?_⟩, ?_⟩
      · exact faultAt_off HF.out (off_set11 (P := fun k => k = w.heap.size) (Off.refl _ _) rfl _ _ _ _ _ _ _ _ _ _ _) hbn.out
      · exact HB4.out.trans ((off_set11 (P := fun k => k = w.heap.size) (Off.refl _ _) rfl _ _ _ _ _ _ _ _ _ _ _).below (Nat.le_of_lt hl4) (by rintro k rfl; exact Nat.le_refl _))
end Go.Proofs.YtphobcobpclioaaGreatDoor
