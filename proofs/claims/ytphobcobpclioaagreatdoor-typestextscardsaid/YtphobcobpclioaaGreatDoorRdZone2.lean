import Derived.Test.YtphobcobpclioaaGreatDoorRdEnd
/-
  The program's reader: zone.
-/
namespace Go.Proofs.YtphobcobpclioaaGreatDoor
open Go.RowKit

theorem quiet_fold {P : Program} {f : FuncId} {args : Array Value} {W : World} {x : Nat} {v : Value} (h : Calls P f args (W.drewN x) fun e w' => e = .returned v ∧ ∃ n, w' = (W.drewN x).drewN n) :
    Calls P f args (W.drewN x) fun e w' => e = .returned v ∧ ∃ n, w' = W.drewN n := h.mono fun _ _ ⟨he, n, hw⟩ => ⟨he, x + n, by rw [hw]; exact drew2 _ _ _⟩

def zbad (c : Nat) (n : Int) : Bool := decide (1400 < n) || decide (59 < n % 100) || (c == 45 && n == 0)
def zval (c : Nat) (n : Int) : Int := if c = 45 then -(n / 100 * 60 + n % 100) else n / 100 * 60 + n % 100
/-- A zone, if a sign stands ahead: is there one, its minutes, the place behind it, the first fault. -/
def zoneS (s : ByteArray) (a : Nat) (bad : Option Nat) : Bool × Int × Nat × Option Nat :=
  if ahd s a bad = 43 ∨ ahd s a bad = 45 then
    (true, zval (ahd s a bad) (itr s 4 (0, a + 1, bad)).1, (itr s 4 (0, a + 1, bad)).2.1, if zbad (ahd s a bad) (itr s 4 (0, a + 1, bad)).1 then orB (itr s 4 (0, a + 1, bad)).2.2 a else (itr s 4 (0, a + 1, bad)).2.2)
  else (false, 0, a, bad)
theorem sign_in {s : ByteArray} {a : Nat} {bad : Option Nat} (h : ahd s a bad = 43 ∨ ahd s a bad = 45) : bad = none ∧ a < s.size := by
  cases bad with
  | some q => exact absurd (show 0 = 43 ∨ 0 = 45 from h) (by decide)
  | none =>
    refine ⟨rfl, ?_⟩
    rcases Nat.lt_or_ge a s.size with g | g
    · exact g
    · rw [ahd_end g] at h; exact absurd h (by decide)

set_option maxHeartbeats 1000000 in
theorem zone_no {R K : Nat} {s : ByteArray} {a : Nat} {bad : Option Nat} {v : Value} (w : World) (h : Rdr w R s a bad v) (h1 : ahd s a bad ≠ 43) (h2 : ahd s a bad ≠ 45) :
    Calls Tryz.prog 67 #[.pointer (some ⟨R, 0, none⟩), .pointer (some ⟨K, 0, none⟩)] w fun e w' => e = .returned (.tuple #[]) ∧ ∃ n, w' = w.drewN n := by
  have c1 := h.at_
  have HR : Hid (Rdr w R s a bad v) := h
  obtain ⟨c, hc⟩ : ∃ c, ahd s a bad = c := ⟨_, rfl⟩
  have HC : Hid (ahd s a bad = c) := hc
  rw [hc] at h1 h2
  have g1 : ((c : Int) != 43) = true := by simpa using (by omega : ¬ (c : Int) = 43)
  have g2 : ((c : Int) != 45) = true := by simpa using (by omega : ¬ (c : Int) = 45)
  have g3 : ((c : Int) == 43) = false := by simpa using (by omega : ¬ (c : Int) = 43)
  have g4 : ((c : Int) == 45) = false := by simpa using (by omega : ¬ (c : Int) = 45)
  have hA : ∀ x, Calls Tryz.prog 78 #[.pointer (some ⟨R, 0, none⟩)] (w.drewN x) fun e w' => e = .returned (.int .u8 (c : Int)) ∧ ∃ n, w' = w.drewN n := fun x => by
    have := quiet_fold (ahead_any _ (HR.out.drewN x)); rw [HC.out] at this; exact this
  have HA : Hid (∀ x, Calls Tryz.prog 78 #[.pointer (some ⟨R, 0, none⟩)] (w.drewN x) fun e w' => e = .returned (.int .u8 (c : Int)) ∧ ∃ n, w' = w.drewN n) := hA
  clear h hc h1 h2 hA
  go_enter Tryz.func67, Tryz.ntmps67
  go_wp2_with fail
  go_quiet ((go_at_call 78; exact HA.out _))
  go_wp2_with fail
  exact bodyPost_ret (v := .tuple #[]) (by simp [results, Tryz.results67, go_sem]) rfl ⟨rfl, _, rfl⟩




/-- Both blocks. -/
def RK (R K k : Nat) : Prop := k = R ∨ k = K
set_option maxHeartbeats 1000000 in
theorem zone_p_ok {R K : Nat} {s : ByteArray} {a : Nat} {v : Value} {l : Int} {z0 : Bool} {zn0 : Int} {n : Int} {a1 : Nat} {b1 : Option Nat} (w : World) (h : Rdr w R s a none v) (hRK : R ≠ K) (k0 : w.cell? ⟨K, 0, none⟩ = some (.int .i64 l)) (k9 : w.cell? ⟨K, 9, none⟩ = some (.bool z0)) (k10 : w.cell? ⟨K, 10, none⟩ = some (.int .i64 zn0))
    (f9 : w.frozen? ⟨K, 9, none⟩ = false) (f10 : w.frozen? ⟨K, 10, none⟩ = false) (hc : ahd s a none = 43) (hi : itr s 4 (0, a + 1, none) = (n, a1, b1)) (hg1 : ¬ 1400 < n) (hg2 : ¬ 59 < n % 100) :
    Calls Tryz.prog 67 #[.pointer (some ⟨R, 0, none⟩), .pointer (some ⟨K, 0, none⟩)] w fun e w' => e = .returned (.tuple #[]) ∧ (∃ v', Rdr w' R s a1 (b1) v') ∧ w'.cell? ⟨K, 9, none⟩ = some (.bool true) ∧ w'.cell? ⟨K, 10, none⟩ = some (.int .i64 (n / 100 * 60 + n % 100)) ∧ (∀ o, o ≠ 9 → o ≠ 10 → w'.cell? ⟨K, o, none⟩ = w.cell? ⟨K, o, none⟩) ∧ Off (RK R K) w w' := by
  have c1 := h.at_
  have f1 := h.fr1
  have hl : a < s.size := (sign_in (Or.inl hc)).2
  have hs : s.size ≤ maxLen := h.fit
  unfold maxLen at hs
  have hKl : K < w.heap.size := cell_lt k0
  have HR : Hid (Rdr w R s a none v) := h
  have hA : ∀ x, Calls Tryz.prog 78 #[.pointer (some ⟨R, 0, none⟩)] (w.drewN x) fun e w' => e = .returned (.int .u8 43) ∧ ∃ n, w' = w.drewN n := fun x => by
    have := quiet_fold (ahead_any _ (HR.out.drewN x)); rw [hc] at this; exact this
  have HA : Hid (∀ x, Calls Tryz.prog 78 #[.pointer (some ⟨R, 0, none⟩)] (w.drewN x) fun e w' => e = .returned (.int .u8 43) ∧ ∃ n, w' = w.drewN n) := hA
  have HI : Hid (itr s 4 (0, a + 1, none) = (n, a1, b1)) := hi
  have ib := itr_bd s 4 (0, a + 1, none) rfl
  rw [hi] at ib
  simp only at ib
  have ib1 := ib.1
  have ib2 : n ≤ 9999 := by have := ib.2; omega
  clear h hc hA hi ib
  go_enter Tryz.func67, Tryz.ntmps67
  go_wp2_with fail
  go_quiet ((go_at_call 78; exact HA.out _))
  go_wp2_with fail
  refine (digits_any 4 _ (rdr_moved (HR.out.drewN _) hl) (by omega)).mono ?_
  rintro e w1 ⟨he, ⟨v1, r1⟩, o1⟩
  rw [HI.out] at he r1
  subst he
  have HR1 : Hid (Rdr w1 R s a1 b1 v1) := r1
  have HO1 : Hid (Off (· = R) w w1) := (((Off.refl (· = R) w).drewN _).setCell (p := ⟨R, 1, none⟩) rfl _).trans o1
  have hk1 : ∀ o, w1.cell? ⟨K, o, none⟩ = w.cell? ⟨K, o, none⟩ := fun o => HO1.out.cell (p := ⟨K, o, none⟩) hKl (by show ¬ K = R; omega)
  have hf1 : ∀ o, w1.frozen? ⟨K, o, none⟩ = w.frozen? ⟨K, o, none⟩ := fun o => HO1.out.frozen (p := ⟨K, o, none⟩) hKl (by show ¬ K = R; omega)
  clear r1 o1
  go_wp2_with fail
  go_end0
  have hoff : Off (· = K) w1 ((w1.setCell ⟨K, 9, none⟩ (.bool true)).setCell ⟨K, 10, none⟩ (.int .i64 (n / 100 * 60 + n % 100))) := ((Off.refl (· = K) w1).setCell (p := ⟨K, 9, none⟩) rfl _).setCell (p := ⟨K, 10, none⟩) rfl _
  refine ⟨rfl, ⟨_, HR1.out.offk (k := K) (x := l) hoff (Ne.symm hRK) (by rw [hk1]; exact k0)⟩, ?_, ?_, ?_, ?_⟩
  · rw [World.cell?_setCell_other _ _ _ _ (by simp)]; exact World.cell?_setCell_same _ _ _ (by rw [hk1]; exact k9)
  · refine World.cell?_setCell_same _ _ _ (?_ : _ = some (.int .i64 zn0))
    rw [World.cell?_setCell_other _ _ _ _ (by simp), hk1]; exact k10
  · intro o o9 o10
    rw [World.cell?_setCell_other _ _ _ _ (by intro e; cases e; omega), World.cell?_setCell_other _ _ _ _ (by intro e; cases e; omega), hk1]
  · exact (HO1.out.mono fun k hk => Or.inl hk).trans (hoff.mono fun k hk => Or.inr hk)
set_option maxHeartbeats 1000000 in
theorem zone_p_big {R K : Nat} {s : ByteArray} {a : Nat} {v : Value} {l : Int} {z0 : Bool} {zn0 : Int} {n : Int} {a1 : Nat} {b1 : Option Nat} (w : World) (h : Rdr w R s a none v) (hRK : R ≠ K) (k0 : w.cell? ⟨K, 0, none⟩ = some (.int .i64 l)) (k9 : w.cell? ⟨K, 9, none⟩ = some (.bool z0)) (k10 : w.cell? ⟨K, 10, none⟩ = some (.int .i64 zn0))
    (f9 : w.frozen? ⟨K, 9, none⟩ = false) (f10 : w.frozen? ⟨K, 10, none⟩ = false) (hc : ahd s a none = 43) (hi : itr s 4 (0, a + 1, none) = (n, a1, b1)) (hg1 : 1400 < n) :
    Calls Tryz.prog 67 #[.pointer (some ⟨R, 0, none⟩), .pointer (some ⟨K, 0, none⟩)] w fun e w' => e = .returned (.tuple #[]) ∧ (∃ v', Rdr w' R s a1 (orB b1 a) v') ∧ w'.cell? ⟨K, 9, none⟩ = some (.bool true) ∧ w'.cell? ⟨K, 10, none⟩ = some (.int .i64 (n / 100 * 60 + n % 100)) ∧ (∀ o, o ≠ 9 → o ≠ 10 → w'.cell? ⟨K, o, none⟩ = w.cell? ⟨K, o, none⟩) ∧ Off (RK R K) w w' := by
  have c1 := h.at_
  have f1 := h.fr1
  have hl : a < s.size := (sign_in (Or.inl hc)).2
  have hs : s.size ≤ maxLen := h.fit
  unfold maxLen at hs
  have hKl : K < w.heap.size := cell_lt k0
  have HR : Hid (Rdr w R s a none v) := h
  have hA : ∀ x, Calls Tryz.prog 78 #[.pointer (some ⟨R, 0, none⟩)] (w.drewN x) fun e w' => e = .returned (.int .u8 43) ∧ ∃ n, w' = w.drewN n := fun x => by
    have := quiet_fold (ahead_any _ (HR.out.drewN x)); rw [hc] at this; exact this
  have HA : Hid (∀ x, Calls Tryz.prog 78 #[.pointer (some ⟨R, 0, none⟩)] (w.drewN x) fun e w' => e = .returned (.int .u8 43) ∧ ∃ n, w' = w.drewN n) := hA
  have HI : Hid (itr s 4 (0, a + 1, none) = (n, a1, b1)) := hi
  have ib := itr_bd s 4 (0, a + 1, none) rfl
  rw [hi] at ib
  simp only at ib
  have ib1 := ib.1
  have ib2 : n ≤ 9999 := by have := ib.2; omega
  clear h hc hA hi ib
  go_enter Tryz.func67, Tryz.ntmps67
  go_wp2_with fail
  go_quiet ((go_at_call 78; exact HA.out _))
  go_wp2_with fail
  refine (digits_any 4 _ (rdr_moved (HR.out.drewN _) hl) (by omega)).mono ?_
  rintro e w1 ⟨he, ⟨v1, r1⟩, o1⟩
  rw [HI.out] at he r1
  subst he
  have HR1 : Hid (Rdr w1 R s a1 b1 v1) := r1
  have HO1 : Hid (Off (· = R) w w1) := (((Off.refl (· = R) w).drewN _).setCell (p := ⟨R, 1, none⟩) rfl _).trans o1
  have hk1 : ∀ o, w1.cell? ⟨K, o, none⟩ = w.cell? ⟨K, o, none⟩ := fun o => HO1.out.cell (p := ⟨K, o, none⟩) hKl (by show ¬ K = R; omega)
  have hf1 : ∀ o, w1.frozen? ⟨K, o, none⟩ = w.frozen? ⟨K, o, none⟩ := fun o => HO1.out.frozen (p := ⟨K, o, none⟩) hKl (by show ¬ K = R; omega)
  clear r1 o1
  go_wp2_with fail
  refine (refuse_any a _ HR1.out).mono ?_
  rintro e w2 ⟨rfl, ⟨v2, r2⟩, o2⟩
  have HR2 : Hid (Rdr w2 R s a1 (orB b1 a) v2) := r2
  have HO2 : Hid (Off (· = R) w w2) := HO1.out.trans o2
  have hk2 : ∀ o, w2.cell? ⟨K, o, none⟩ = w.cell? ⟨K, o, none⟩ := fun o => HO2.out.cell (p := ⟨K, o, none⟩) hKl (by show ¬ K = R; omega)
  have hf2 : ∀ o, w2.frozen? ⟨K, o, none⟩ = w.frozen? ⟨K, o, none⟩ := fun o => HO2.out.frozen (p := ⟨K, o, none⟩) hKl (by show ¬ K = R; omega)
  clear r2 o2 hk1 hf1
  go_wp2_with fail
  go_end0
  have hoff : Off (· = K) w2 ((w2.setCell ⟨K, 9, none⟩ (.bool true)).setCell ⟨K, 10, none⟩ (.int .i64 (n / 100 * 60 + n % 100))) := ((Off.refl (· = K) w2).setCell (p := ⟨K, 9, none⟩) rfl _).setCell (p := ⟨K, 10, none⟩) rfl _
  refine ⟨rfl, ⟨_, HR2.out.offk (k := K) (x := l) hoff (Ne.symm hRK) (by rw [hk2]; exact k0)⟩, ?_, ?_, ?_, ?_⟩
  · rw [World.cell?_setCell_other _ _ _ _ (by simp)]; exact World.cell?_setCell_same _ _ _ (by rw [hk2]; exact k9)
  · refine World.cell?_setCell_same _ _ _ (?_ : _ = some (.int .i64 zn0))
    rw [World.cell?_setCell_other _ _ _ _ (by simp), hk2]; exact k10
  · intro o o9 o10
    rw [World.cell?_setCell_other _ _ _ _ (by intro e; cases e; omega), World.cell?_setCell_other _ _ _ _ (by intro e; cases e; omega), hk2]
  · exact (HO2.out.mono fun k hk => Or.inl hk).trans (hoff.mono fun k hk => Or.inr hk)
set_option maxHeartbeats 1000000 in
theorem zone_p_min {R K : Nat} {s : ByteArray} {a : Nat} {v : Value} {l : Int} {z0 : Bool} {zn0 : Int} {n : Int} {a1 : Nat} {b1 : Option Nat} (w : World) (h : Rdr w R s a none v) (hRK : R ≠ K) (k0 : w.cell? ⟨K, 0, none⟩ = some (.int .i64 l)) (k9 : w.cell? ⟨K, 9, none⟩ = some (.bool z0)) (k10 : w.cell? ⟨K, 10, none⟩ = some (.int .i64 zn0))
    (f9 : w.frozen? ⟨K, 9, none⟩ = false) (f10 : w.frozen? ⟨K, 10, none⟩ = false) (hc : ahd s a none = 43) (hi : itr s 4 (0, a + 1, none) = (n, a1, b1)) (hg1 : ¬ 1400 < n) (hg2 : 59 < n % 100) :
    Calls Tryz.prog 67 #[.pointer (some ⟨R, 0, none⟩), .pointer (some ⟨K, 0, none⟩)] w fun e w' => e = .returned (.tuple #[]) ∧ (∃ v', Rdr w' R s a1 (orB b1 a) v') ∧ w'.cell? ⟨K, 9, none⟩ = some (.bool true) ∧ w'.cell? ⟨K, 10, none⟩ = some (.int .i64 (n / 100 * 60 + n % 100)) ∧ (∀ o, o ≠ 9 → o ≠ 10 → w'.cell? ⟨K, o, none⟩ = w.cell? ⟨K, o, none⟩) ∧ Off (RK R K) w w' := by
  have c1 := h.at_
  have f1 := h.fr1
  have hl : a < s.size := (sign_in (Or.inl hc)).2
  have hs : s.size ≤ maxLen := h.fit
  unfold maxLen at hs
  have hKl : K < w.heap.size := cell_lt k0
  have HR : Hid (Rdr w R s a none v) := h
  have hA : ∀ x, Calls Tryz.prog 78 #[.pointer (some ⟨R, 0, none⟩)] (w.drewN x) fun e w' => e = .returned (.int .u8 43) ∧ ∃ n, w' = w.drewN n := fun x => by
    have := quiet_fold (ahead_any _ (HR.out.drewN x)); rw [hc] at this; exact this
  have HA : Hid (∀ x, Calls Tryz.prog 78 #[.pointer (some ⟨R, 0, none⟩)] (w.drewN x) fun e w' => e = .returned (.int .u8 43) ∧ ∃ n, w' = w.drewN n) := hA
  have HI : Hid (itr s 4 (0, a + 1, none) = (n, a1, b1)) := hi
  have ib := itr_bd s 4 (0, a + 1, none) rfl
  rw [hi] at ib
  simp only at ib
  have ib1 := ib.1
  have ib2 : n ≤ 9999 := by have := ib.2; omega
  clear h hc hA hi ib
  go_enter Tryz.func67, Tryz.ntmps67
  go_wp2_with fail
  go_quiet ((go_at_call 78; exact HA.out _))
  go_wp2_with fail
  refine (digits_any 4 _ (rdr_moved (HR.out.drewN _) hl) (by omega)).mono ?_
  rintro e w1 ⟨he, ⟨v1, r1⟩, o1⟩
  rw [HI.out] at he r1
  subst he
  have HR1 : Hid (Rdr w1 R s a1 b1 v1) := r1
  have HO1 : Hid (Off (· = R) w w1) := (((Off.refl (· = R) w).drewN _).setCell (p := ⟨R, 1, none⟩) rfl _).trans o1
  have hk1 : ∀ o, w1.cell? ⟨K, o, none⟩ = w.cell? ⟨K, o, none⟩ := fun o => HO1.out.cell (p := ⟨K, o, none⟩) hKl (by show ¬ K = R; omega)
  have hf1 : ∀ o, w1.frozen? ⟨K, o, none⟩ = w.frozen? ⟨K, o, none⟩ := fun o => HO1.out.frozen (p := ⟨K, o, none⟩) hKl (by show ¬ K = R; omega)
  clear r1 o1
  go_wp2_with fail
  refine (refuse_any a _ HR1.out).mono ?_
  rintro e w2 ⟨rfl, ⟨v2, r2⟩, o2⟩
  have HR2 : Hid (Rdr w2 R s a1 (orB b1 a) v2) := r2
  have HO2 : Hid (Off (· = R) w w2) := HO1.out.trans o2
  have hk2 : ∀ o, w2.cell? ⟨K, o, none⟩ = w.cell? ⟨K, o, none⟩ := fun o => HO2.out.cell (p := ⟨K, o, none⟩) hKl (by show ¬ K = R; omega)
  have hf2 : ∀ o, w2.frozen? ⟨K, o, none⟩ = w.frozen? ⟨K, o, none⟩ := fun o => HO2.out.frozen (p := ⟨K, o, none⟩) hKl (by show ¬ K = R; omega)
  clear r2 o2 hk1 hf1
  go_wp2_with fail
  go_end0
  have hoff : Off (· = K) w2 ((w2.setCell ⟨K, 9, none⟩ (.bool true)).setCell ⟨K, 10, none⟩ (.int .i64 (n / 100 * 60 + n % 100))) := ((Off.refl (· = K) w2).setCell (p := ⟨K, 9, none⟩) rfl _).setCell (p := ⟨K, 10, none⟩) rfl _
  refine ⟨rfl, ⟨_, HR2.out.offk (k := K) (x := l) hoff (Ne.symm hRK) (by rw [hk2]; exact k0)⟩, ?_, ?_, ?_, ?_⟩
  · rw [World.cell?_setCell_other _ _ _ _ (by simp)]; exact World.cell?_setCell_same _ _ _ (by rw [hk2]; exact k9)
  · refine World.cell?_setCell_same _ _ _ (?_ : _ = some (.int .i64 zn0))
    rw [World.cell?_setCell_other _ _ _ _ (by simp), hk2]; exact k10
  · intro o o9 o10
    rw [World.cell?_setCell_other _ _ _ _ (by intro e; cases e; omega), World.cell?_setCell_other _ _ _ _ (by intro e; cases e; omega), hk2]
  · exact (HO2.out.mono fun k hk => Or.inl hk).trans (hoff.mono fun k hk => Or.inr hk)
set_option maxHeartbeats 1000000 in
theorem zone_m_ok {R K : Nat} {s : ByteArray} {a : Nat} {v : Value} {l : Int} {z0 : Bool} {zn0 : Int} {n : Int} {a1 : Nat} {b1 : Option Nat} (w : World) (h : Rdr w R s a none v) (hRK : R ≠ K) (k0 : w.cell? ⟨K, 0, none⟩ = some (.int .i64 l)) (k9 : w.cell? ⟨K, 9, none⟩ = some (.bool z0)) (k10 : w.cell? ⟨K, 10, none⟩ = some (.int .i64 zn0))
    (f9 : w.frozen? ⟨K, 9, none⟩ = false) (f10 : w.frozen? ⟨K, 10, none⟩ = false) (hc : ahd s a none = 45) (hi : itr s 4 (0, a + 1, none) = (n, a1, b1)) (hg1 : ¬ 1400 < n) (hg2 : ¬ 59 < n % 100) (hg3 : (n == 0) = false) :
    Calls Tryz.prog 67 #[.pointer (some ⟨R, 0, none⟩), .pointer (some ⟨K, 0, none⟩)] w fun e w' => e = .returned (.tuple #[]) ∧ (∃ v', Rdr w' R s a1 (b1) v') ∧ w'.cell? ⟨K, 9, none⟩ = some (.bool true) ∧ w'.cell? ⟨K, 10, none⟩ = some (.int .i64 (-(n / 100 * 60 + n % 100))) ∧ (∀ o, o ≠ 9 → o ≠ 10 → w'.cell? ⟨K, o, none⟩ = w.cell? ⟨K, o, none⟩) ∧ Off (RK R K) w w' := by
  have c1 := h.at_
  have f1 := h.fr1
  have hl : a < s.size := (sign_in (Or.inr hc)).2
  have hs : s.size ≤ maxLen := h.fit
  unfold maxLen at hs
  have hKl : K < w.heap.size := cell_lt k0
  have HR : Hid (Rdr w R s a none v) := h
  have hA : ∀ x, Calls Tryz.prog 78 #[.pointer (some ⟨R, 0, none⟩)] (w.drewN x) fun e w' => e = .returned (.int .u8 45) ∧ ∃ n, w' = w.drewN n := fun x => by
    have := quiet_fold (ahead_any _ (HR.out.drewN x)); rw [hc] at this; exact this
  have HA : Hid (∀ x, Calls Tryz.prog 78 #[.pointer (some ⟨R, 0, none⟩)] (w.drewN x) fun e w' => e = .returned (.int .u8 45) ∧ ∃ n, w' = w.drewN n) := hA
  have HI : Hid (itr s 4 (0, a + 1, none) = (n, a1, b1)) := hi
  have ib := itr_bd s 4 (0, a + 1, none) rfl
  rw [hi] at ib
  simp only at ib
  have ib1 := ib.1
  have ib2 : n ≤ 9999 := by have := ib.2; omega
  clear h hc hA hi ib
  go_enter Tryz.func67, Tryz.ntmps67
  go_wp2_with fail
  go_quiet ((go_at_call 78; exact HA.out _))
  go_wp2_with fail
  refine (digits_any 4 _ (rdr_moved (HR.out.drewN _) hl) (by omega)).mono ?_
  rintro e w1 ⟨he, ⟨v1, r1⟩, o1⟩
  rw [HI.out] at he r1
  subst he
  have HR1 : Hid (Rdr w1 R s a1 b1 v1) := r1
  have HO1 : Hid (Off (· = R) w w1) := (((Off.refl (· = R) w).drewN _).setCell (p := ⟨R, 1, none⟩) rfl _).trans o1
  have hk1 : ∀ o, w1.cell? ⟨K, o, none⟩ = w.cell? ⟨K, o, none⟩ := fun o => HO1.out.cell (p := ⟨K, o, none⟩) hKl (by show ¬ K = R; omega)
  have hf1 : ∀ o, w1.frozen? ⟨K, o, none⟩ = w.frozen? ⟨K, o, none⟩ := fun o => HO1.out.frozen (p := ⟨K, o, none⟩) hKl (by show ¬ K = R; omega)
  clear r1 o1
  go_wp2_with fail
  go_end0
  refine ⟨rfl, ⟨_, HR1.out.offk (k := K) (x := l) ((((Off.refl (· = K) w1).setCell (p := ⟨K, 9, none⟩) rfl _).setCell (p := ⟨K, 10, none⟩) rfl _).setCell (p := ⟨K, 10, none⟩) rfl _) (Ne.symm hRK) (by rw [hk1]; exact k0)⟩, ?_, ?_, ?_, ?_⟩
  · rw [World.cell?_setCell_other _ _ _ _ (by simp), World.cell?_setCell_other _ _ _ _ (by simp)]; exact World.cell?_setCell_same _ _ _ (by rw [hk1]; exact k9)
  · refine World.cell?_setCell_same _ _ _ (World.cell?_setCell_same _ _ _ (?_ : _ = some (.int .i64 zn0)))
    rw [World.cell?_setCell_other _ _ _ _ (by simp), hk1]; exact k10
  · intro o o9 o10
    rw [World.cell?_setCell_other _ _ _ _ (by intro e; cases e; omega), World.cell?_setCell_other _ _ _ _ (by intro e; cases e; omega), World.cell?_setCell_other _ _ _ _ (by intro e; cases e; omega), hk1]
  · exact (HO1.out.mono fun k hk => Or.inl hk).trans (((((Off.refl (· = K) w1).setCell (p := ⟨K, 9, none⟩) rfl _).setCell (p := ⟨K, 10, none⟩) rfl _).setCell (p := ⟨K, 10, none⟩) rfl _).mono fun k hk => Or.inr hk)
set_option maxHeartbeats 1000000 in
theorem zone_m_big {R K : Nat} {s : ByteArray} {a : Nat} {v : Value} {l : Int} {z0 : Bool} {zn0 : Int} {n : Int} {a1 : Nat} {b1 : Option Nat} (w : World) (h : Rdr w R s a none v) (hRK : R ≠ K) (k0 : w.cell? ⟨K, 0, none⟩ = some (.int .i64 l)) (k9 : w.cell? ⟨K, 9, none⟩ = some (.bool z0)) (k10 : w.cell? ⟨K, 10, none⟩ = some (.int .i64 zn0))
    (f9 : w.frozen? ⟨K, 9, none⟩ = false) (f10 : w.frozen? ⟨K, 10, none⟩ = false) (hc : ahd s a none = 45) (hi : itr s 4 (0, a + 1, none) = (n, a1, b1)) (hg1 : 1400 < n) :
    Calls Tryz.prog 67 #[.pointer (some ⟨R, 0, none⟩), .pointer (some ⟨K, 0, none⟩)] w fun e w' => e = .returned (.tuple #[]) ∧ (∃ v', Rdr w' R s a1 (orB b1 a) v') ∧ w'.cell? ⟨K, 9, none⟩ = some (.bool true) ∧ w'.cell? ⟨K, 10, none⟩ = some (.int .i64 (-(n / 100 * 60 + n % 100))) ∧ (∀ o, o ≠ 9 → o ≠ 10 → w'.cell? ⟨K, o, none⟩ = w.cell? ⟨K, o, none⟩) ∧ Off (RK R K) w w' := by
  have c1 := h.at_
  have f1 := h.fr1
  have hl : a < s.size := (sign_in (Or.inr hc)).2
  have hs : s.size ≤ maxLen := h.fit
  unfold maxLen at hs
  have hKl : K < w.heap.size := cell_lt k0
  have HR : Hid (Rdr w R s a none v) := h
  have hA : ∀ x, Calls Tryz.prog 78 #[.pointer (some ⟨R, 0, none⟩)] (w.drewN x) fun e w' => e = .returned (.int .u8 45) ∧ ∃ n, w' = w.drewN n := fun x => by
    have := quiet_fold (ahead_any _ (HR.out.drewN x)); rw [hc] at this; exact this
  have HA : Hid (∀ x, Calls Tryz.prog 78 #[.pointer (some ⟨R, 0, none⟩)] (w.drewN x) fun e w' => e = .returned (.int .u8 45) ∧ ∃ n, w' = w.drewN n) := hA
  have HI : Hid (itr s 4 (0, a + 1, none) = (n, a1, b1)) := hi
  have ib := itr_bd s 4 (0, a + 1, none) rfl
  rw [hi] at ib
  simp only at ib
  have ib1 := ib.1
  have ib2 : n ≤ 9999 := by have := ib.2; omega
  clear h hc hA hi ib
  go_enter Tryz.func67, Tryz.ntmps67
  go_wp2_with fail
  go_quiet ((go_at_call 78; exact HA.out _))
  go_wp2_with fail
  refine (digits_any 4 _ (rdr_moved (HR.out.drewN _) hl) (by omega)).mono ?_
  rintro e w1 ⟨he, ⟨v1, r1⟩, o1⟩
  rw [HI.out] at he r1
  subst he
  have HR1 : Hid (Rdr w1 R s a1 b1 v1) := r1
  have HO1 : Hid (Off (· = R) w w1) := (((Off.refl (· = R) w).drewN _).setCell (p := ⟨R, 1, none⟩) rfl _).trans o1
  have hk1 : ∀ o, w1.cell? ⟨K, o, none⟩ = w.cell? ⟨K, o, none⟩ := fun o => HO1.out.cell (p := ⟨K, o, none⟩) hKl (by show ¬ K = R; omega)
  have hf1 : ∀ o, w1.frozen? ⟨K, o, none⟩ = w.frozen? ⟨K, o, none⟩ := fun o => HO1.out.frozen (p := ⟨K, o, none⟩) hKl (by show ¬ K = R; omega)
  clear r1 o1
  go_wp2_with fail
  refine (refuse_any a _ HR1.out).mono ?_
  rintro e w2 ⟨rfl, ⟨v2, r2⟩, o2⟩
  have HR2 : Hid (Rdr w2 R s a1 (orB b1 a) v2) := r2
  have HO2 : Hid (Off (· = R) w w2) := HO1.out.trans o2
  have hk2 : ∀ o, w2.cell? ⟨K, o, none⟩ = w.cell? ⟨K, o, none⟩ := fun o => HO2.out.cell (p := ⟨K, o, none⟩) hKl (by show ¬ K = R; omega)
  have hf2 : ∀ o, w2.frozen? ⟨K, o, none⟩ = w.frozen? ⟨K, o, none⟩ := fun o => HO2.out.frozen (p := ⟨K, o, none⟩) hKl (by show ¬ K = R; omega)
  clear r2 o2 hk1 hf1
  go_wp2_with fail
  go_end0
  refine ⟨rfl, ⟨_, HR2.out.offk (k := K) (x := l) ((((Off.refl (· = K) w2).setCell (p := ⟨K, 9, none⟩) rfl _).setCell (p := ⟨K, 10, none⟩) rfl _).setCell (p := ⟨K, 10, none⟩) rfl _) (Ne.symm hRK) (by rw [hk2]; exact k0)⟩, ?_, ?_, ?_, ?_⟩
  · rw [World.cell?_setCell_other _ _ _ _ (by simp), World.cell?_setCell_other _ _ _ _ (by simp)]; exact World.cell?_setCell_same _ _ _ (by rw [hk2]; exact k9)
  · refine World.cell?_setCell_same _ _ _ (World.cell?_setCell_same _ _ _ (?_ : _ = some (.int .i64 zn0)))
    rw [World.cell?_setCell_other _ _ _ _ (by simp), hk2]; exact k10
  · intro o o9 o10
    rw [World.cell?_setCell_other _ _ _ _ (by intro e; cases e; omega), World.cell?_setCell_other _ _ _ _ (by intro e; cases e; omega), World.cell?_setCell_other _ _ _ _ (by intro e; cases e; omega), hk2]
  · exact (HO2.out.mono fun k hk => Or.inl hk).trans (((((Off.refl (· = K) w2).setCell (p := ⟨K, 9, none⟩) rfl _).setCell (p := ⟨K, 10, none⟩) rfl _).setCell (p := ⟨K, 10, none⟩) rfl _).mono fun k hk => Or.inr hk)
set_option maxHeartbeats 1000000 in
theorem zone_m_min {R K : Nat} {s : ByteArray} {a : Nat} {v : Value} {l : Int} {z0 : Bool} {zn0 : Int} {n : Int} {a1 : Nat} {b1 : Option Nat} (w : World) (h : Rdr w R s a none v) (hRK : R ≠ K) (k0 : w.cell? ⟨K, 0, none⟩ = some (.int .i64 l)) (k9 : w.cell? ⟨K, 9, none⟩ = some (.bool z0)) (k10 : w.cell? ⟨K, 10, none⟩ = some (.int .i64 zn0))
    (f9 : w.frozen? ⟨K, 9, none⟩ = false) (f10 : w.frozen? ⟨K, 10, none⟩ = false) (hc : ahd s a none = 45) (hi : itr s 4 (0, a + 1, none) = (n, a1, b1)) (hg1 : ¬ 1400 < n) (hg2 : 59 < n % 100) :
    Calls Tryz.prog 67 #[.pointer (some ⟨R, 0, none⟩), .pointer (some ⟨K, 0, none⟩)] w fun e w' => e = .returned (.tuple #[]) ∧ (∃ v', Rdr w' R s a1 (orB b1 a) v') ∧ w'.cell? ⟨K, 9, none⟩ = some (.bool true) ∧ w'.cell? ⟨K, 10, none⟩ = some (.int .i64 (-(n / 100 * 60 + n % 100))) ∧ (∀ o, o ≠ 9 → o ≠ 10 → w'.cell? ⟨K, o, none⟩ = w.cell? ⟨K, o, none⟩) ∧ Off (RK R K) w w' := by
  have c1 := h.at_
  have f1 := h.fr1
  have hl : a < s.size := (sign_in (Or.inr hc)).2
  have hs : s.size ≤ maxLen := h.fit
  unfold maxLen at hs
  have hKl : K < w.heap.size := cell_lt k0
  have HR : Hid (Rdr w R s a none v) := h
  have hA : ∀ x, Calls Tryz.prog 78 #[.pointer (some ⟨R, 0, none⟩)] (w.drewN x) fun e w' => e = .returned (.int .u8 45) ∧ ∃ n, w' = w.drewN n := fun x => by
    have := quiet_fold (ahead_any _ (HR.out.drewN x)); rw [hc] at this; exact this
  have HA : Hid (∀ x, Calls Tryz.prog 78 #[.pointer (some ⟨R, 0, none⟩)] (w.drewN x) fun e w' => e = .returned (.int .u8 45) ∧ ∃ n, w' = w.drewN n) := hA
  have HI : Hid (itr s 4 (0, a + 1, none) = (n, a1, b1)) := hi
  have ib := itr_bd s 4 (0, a + 1, none) rfl
  rw [hi] at ib
  simp only at ib
  have ib1 := ib.1
  have ib2 : n ≤ 9999 := by have := ib.2; omega
  clear h hc hA hi ib
  go_enter Tryz.func67, Tryz.ntmps67
  go_wp2_with fail
  go_quiet ((go_at_call 78; exact HA.out _))
  go_wp2_with fail
  refine (digits_any 4 _ (rdr_moved (HR.out.drewN _) hl) (by omega)).mono ?_
  rintro e w1 ⟨he, ⟨v1, r1⟩, o1⟩
  rw [HI.out] at he r1
  subst he
  have HR1 : Hid (Rdr w1 R s a1 b1 v1) := r1
  have HO1 : Hid (Off (· = R) w w1) := (((Off.refl (· = R) w).drewN _).setCell (p := ⟨R, 1, none⟩) rfl _).trans o1
  have hk1 : ∀ o, w1.cell? ⟨K, o, none⟩ = w.cell? ⟨K, o, none⟩ := fun o => HO1.out.cell (p := ⟨K, o, none⟩) hKl (by show ¬ K = R; omega)
  have hf1 : ∀ o, w1.frozen? ⟨K, o, none⟩ = w.frozen? ⟨K, o, none⟩ := fun o => HO1.out.frozen (p := ⟨K, o, none⟩) hKl (by show ¬ K = R; omega)
  clear r1 o1
  go_wp2_with fail
  refine (refuse_any a _ HR1.out).mono ?_
  rintro e w2 ⟨rfl, ⟨v2, r2⟩, o2⟩
  have HR2 : Hid (Rdr w2 R s a1 (orB b1 a) v2) := r2
  have HO2 : Hid (Off (· = R) w w2) := HO1.out.trans o2
  have hk2 : ∀ o, w2.cell? ⟨K, o, none⟩ = w.cell? ⟨K, o, none⟩ := fun o => HO2.out.cell (p := ⟨K, o, none⟩) hKl (by show ¬ K = R; omega)
  have hf2 : ∀ o, w2.frozen? ⟨K, o, none⟩ = w.frozen? ⟨K, o, none⟩ := fun o => HO2.out.frozen (p := ⟨K, o, none⟩) hKl (by show ¬ K = R; omega)
  clear r2 o2 hk1 hf1
  go_wp2_with fail
  go_end0
  refine ⟨rfl, ⟨_, HR2.out.offk (k := K) (x := l) ((((Off.refl (· = K) w2).setCell (p := ⟨K, 9, none⟩) rfl _).setCell (p := ⟨K, 10, none⟩) rfl _).setCell (p := ⟨K, 10, none⟩) rfl _) (Ne.symm hRK) (by rw [hk2]; exact k0)⟩, ?_, ?_, ?_, ?_⟩
  · rw [World.cell?_setCell_other _ _ _ _ (by simp), World.cell?_setCell_other _ _ _ _ (by simp)]; exact World.cell?_setCell_same _ _ _ (by rw [hk2]; exact k9)
  · refine World.cell?_setCell_same _ _ _ (World.cell?_setCell_same _ _ _ (?_ : _ = some (.int .i64 zn0)))
    rw [World.cell?_setCell_other _ _ _ _ (by simp), hk2]; exact k10
  · intro o o9 o10
    rw [World.cell?_setCell_other _ _ _ _ (by intro e; cases e; omega), World.cell?_setCell_other _ _ _ _ (by intro e; cases e; omega), World.cell?_setCell_other _ _ _ _ (by intro e; cases e; omega), hk2]
  · exact (HO2.out.mono fun k hk => Or.inl hk).trans (((((Off.refl (· = K) w2).setCell (p := ⟨K, 9, none⟩) rfl _).setCell (p := ⟨K, 10, none⟩) rfl _).setCell (p := ⟨K, 10, none⟩) rfl _).mono fun k hk => Or.inr hk)
set_option maxHeartbeats 1000000 in
theorem zone_m_zero {R K : Nat} {s : ByteArray} {a : Nat} {v : Value} {l : Int} {z0 : Bool} {zn0 : Int} {a1 : Nat} {b1 : Option Nat} (w : World) (h : Rdr w R s a none v) (hRK : R ≠ K) (k0 : w.cell? ⟨K, 0, none⟩ = some (.int .i64 l)) (k9 : w.cell? ⟨K, 9, none⟩ = some (.bool z0)) (k10 : w.cell? ⟨K, 10, none⟩ = some (.int .i64 zn0))
    (f9 : w.frozen? ⟨K, 9, none⟩ = false) (f10 : w.frozen? ⟨K, 10, none⟩ = false) (hc : ahd s a none = 45) (hi : itr s 4 (0, a + 1, none) = (0, a1, b1))  :
    Calls Tryz.prog 67 #[.pointer (some ⟨R, 0, none⟩), .pointer (some ⟨K, 0, none⟩)] w fun e w' => e = .returned (.tuple #[]) ∧ (∃ v', Rdr w' R s a1 (orB b1 a) v') ∧ w'.cell? ⟨K, 9, none⟩ = some (.bool true) ∧ w'.cell? ⟨K, 10, none⟩ = some (.int .i64 0) ∧ (∀ o, o ≠ 9 → o ≠ 10 → w'.cell? ⟨K, o, none⟩ = w.cell? ⟨K, o, none⟩) ∧ Off (RK R K) w w' := by
  have c1 := h.at_
  have f1 := h.fr1
  have hl : a < s.size := (sign_in (Or.inr hc)).2
  have hs : s.size ≤ maxLen := h.fit
  unfold maxLen at hs
  have hKl : K < w.heap.size := cell_lt k0
  have HR : Hid (Rdr w R s a none v) := h
  have hA : ∀ x, Calls Tryz.prog 78 #[.pointer (some ⟨R, 0, none⟩)] (w.drewN x) fun e w' => e = .returned (.int .u8 45) ∧ ∃ n, w' = w.drewN n := fun x => by
    have := quiet_fold (ahead_any _ (HR.out.drewN x)); rw [hc] at this; exact this
  have HA : Hid (∀ x, Calls Tryz.prog 78 #[.pointer (some ⟨R, 0, none⟩)] (w.drewN x) fun e w' => e = .returned (.int .u8 45) ∧ ∃ n, w' = w.drewN n) := hA
  have HI : Hid (itr s 4 (0, a + 1, none) = (0, a1, b1)) := hi
  have ib := itr_bd s 4 (0, a + 1, none) rfl
  rw [hi] at ib
  simp only at ib
  clear h hc hA hi ib
  go_enter Tryz.func67, Tryz.ntmps67
  go_wp2_with fail
  go_quiet ((go_at_call 78; exact HA.out _))
  go_wp2_with fail
  refine (digits_any 4 _ (rdr_moved (HR.out.drewN _) hl) (by omega)).mono ?_
  rintro e w1 ⟨he, ⟨v1, r1⟩, o1⟩
  rw [HI.out] at he r1
  subst he
  have HR1 : Hid (Rdr w1 R s a1 b1 v1) := r1
  have HO1 : Hid (Off (· = R) w w1) := (((Off.refl (· = R) w).drewN _).setCell (p := ⟨R, 1, none⟩) rfl _).trans o1
  have hk1 : ∀ o, w1.cell? ⟨K, o, none⟩ = w.cell? ⟨K, o, none⟩ := fun o => HO1.out.cell (p := ⟨K, o, none⟩) hKl (by show ¬ K = R; omega)
  have hf1 : ∀ o, w1.frozen? ⟨K, o, none⟩ = w.frozen? ⟨K, o, none⟩ := fun o => HO1.out.frozen (p := ⟨K, o, none⟩) hKl (by show ¬ K = R; omega)
  clear r1 o1
  go_wp2_with fail
  refine (refuse_any a _ HR1.out).mono ?_
  rintro e w2 ⟨rfl, ⟨v2, r2⟩, o2⟩
  have HR2 : Hid (Rdr w2 R s a1 (orB b1 a) v2) := r2
  have HO2 : Hid (Off (· = R) w w2) := HO1.out.trans o2
  have hk2 : ∀ o, w2.cell? ⟨K, o, none⟩ = w.cell? ⟨K, o, none⟩ := fun o => HO2.out.cell (p := ⟨K, o, none⟩) hKl (by show ¬ K = R; omega)
  have hf2 : ∀ o, w2.frozen? ⟨K, o, none⟩ = w.frozen? ⟨K, o, none⟩ := fun o => HO2.out.frozen (p := ⟨K, o, none⟩) hKl (by show ¬ K = R; omega)
  clear r2 o2 hk1 hf1
  go_wp2_with fail
  go_end0
  refine ⟨rfl, ⟨_, HR2.out.offk (k := K) (x := l) ((((Off.refl (· = K) w2).setCell (p := ⟨K, 9, none⟩) rfl _).setCell (p := ⟨K, 10, none⟩) rfl _).setCell (p := ⟨K, 10, none⟩) rfl _) (Ne.symm hRK) (by rw [hk2]; exact k0)⟩, ?_, ?_, ?_, ?_⟩
  · rw [World.cell?_setCell_other _ _ _ _ (by simp), World.cell?_setCell_other _ _ _ _ (by simp)]; exact World.cell?_setCell_same _ _ _ (by rw [hk2]; exact k9)
  · refine World.cell?_setCell_same _ _ _ (World.cell?_setCell_same _ _ _ (?_ : _ = some (.int .i64 zn0)))
    rw [World.cell?_setCell_other _ _ _ _ (by simp), hk2]; exact k10
  · intro o o9 o10
    rw [World.cell?_setCell_other _ _ _ _ (by intro e; cases e; omega), World.cell?_setCell_other _ _ _ _ (by intro e; cases e; omega), World.cell?_setCell_other _ _ _ _ (by intro e; cases e; omega), hk2]
  · exact (HO2.out.mono fun k hk => Or.inl hk).trans (((((Off.refl (· = K) w2).setCell (p := ⟨K, 9, none⟩) rfl _).setCell (p := ⟨K, 10, none⟩) rfl _).setCell (p := ⟨K, 10, none⟩) rfl _).mono fun k hk => Or.inr hk)
end Go.Proofs.YtphobcobpclioaaGreatDoor

/-
  The program's reader: zone, in terms of zoneS.
-/
namespace Go.Proofs.YtphobcobpclioaaGreatDoor
open Go.RowKit

theorem zone_any {R K : Nat} {s : ByteArray} {a : Nat} {bad : Option Nat} {v : Value} {l : Int} (w : World) (h : Rdr w R s a bad v) (hRK : R ≠ K) (k0 : w.cell? ⟨K, 0, none⟩ = some (.int .i64 l)) (k9 : w.cell? ⟨K, 9, none⟩ = some (.bool false)) (k10 : w.cell? ⟨K, 10, none⟩ = some (.int .i64 0))
    (f9 : w.frozen? ⟨K, 9, none⟩ = false) (f10 : w.frozen? ⟨K, 10, none⟩ = false) :
    Calls Tryz.prog 67 #[.pointer (some ⟨R, 0, none⟩), .pointer (some ⟨K, 0, none⟩)] w fun e w' => e = .returned (.tuple #[]) ∧ (∃ v', Rdr w' R s (zoneS s a bad).2.2.1 (zoneS s a bad).2.2.2 v') ∧ w'.cell? ⟨K, 9, none⟩ = some (.bool (zoneS s a bad).1) ∧ w'.cell? ⟨K, 10, none⟩ = some (.int .i64 (zoneS s a bad).2.1) ∧ (∀ o, o ≠ 9 → o ≠ 10 → w'.cell? ⟨K, o, none⟩ = w.cell? ⟨K, o, none⟩) ∧ Off (RK R K) w w' := by
  by_cases hs : ahd s a bad = 43 ∨ ahd s a bad = 45
  · obtain ⟨rfl, _⟩ := sign_in hs
    obtain ⟨⟨n, a1, b1⟩, hi⟩ : ∃ x, itr s 4 (0, a + 1, none) = x := ⟨_, rfl⟩
    have e : zoneS s a none = (true, zval (ahd s a none) n, a1, if zbad (ahd s a none) n then orB b1 a else b1) := by unfold zoneS; rw [if_pos hs, hi]
    rw [e]
    rcases hs with hc | hc
    · rw [hc]
      by_cases g1 : 1400 < n
      · rw [show zbad 43 n = true by simp [zbad, g1], if_pos rfl]; exact zone_p_big w h hRK k0 k9 k10 f9 f10 hc hi g1
      · by_cases g2 : 59 < n % 100
        · rw [show zbad 43 n = true by simp [zbad, g2], if_pos rfl]; exact zone_p_min w h hRK k0 k9 k10 f9 f10 hc hi g1 g2
        · rw [show zbad 43 n = false by simp [zbad]; omega, if_neg (by decide)]; exact zone_p_ok w h hRK k0 k9 k10 f9 f10 hc hi g1 g2
    · rw [hc]
      by_cases g1 : 1400 < n
      · rw [show zbad 45 n = true by simp [zbad, g1], if_pos rfl]; exact zone_m_big w h hRK k0 k9 k10 f9 f10 hc hi g1
      · by_cases g2 : 59 < n % 100
        · rw [show zbad 45 n = true by simp [zbad, g2], if_pos rfl]; exact zone_m_min w h hRK k0 k9 k10 f9 f10 hc hi g1 g2
        · by_cases g3 : n = 0
          · subst g3; rw [show zbad 45 0 = true by rfl, if_pos rfl]; exact zone_m_zero w h hRK k0 k9 k10 f9 f10 hc hi
          · rw [show zbad 45 n = false by simp [zbad]; omega, if_neg (by decide)]; exact zone_m_ok w h hRK k0 k9 k10 f9 f10 hc hi g1 g2 (by simpa using g3)
  · have e : zoneS s a bad = (false, 0, a, bad) := by unfold zoneS; rw [if_neg hs]
    rw [e]
    refine (zone_no w h (fun g => hs (Or.inl g)) (fun g => hs (Or.inr g))).mono ?_
    rintro e w' ⟨he, n, rfl⟩
    exact ⟨he, ⟨v, h.drewN n⟩, by simpa using k9, by simpa using k10, fun o _ _ => by simp, (Off.refl _ _).drewN n⟩
end Go.Proofs.YtphobcobpclioaaGreatDoor
