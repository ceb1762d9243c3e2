import Derived.Test.YtplhdgijjckjcaaGreatDoorIcBl2
import Derived.Test.YtplhdgijjckjcaaGreatDoorIbTexts
import Derived.Deep.DeepCutAuto
/-
  The loose pair: Take and TakeTexts of anything.
-/
namespace Go.Proofs.YtplhdgijjckjcaaGreatDoor
open Go.RowKit

/-- What an operation leaves. -/
def LQ (W : World) (X K : Nat) (bv mk ke rm L : Value) (C D E : Nat) (o : Option (Int × Int)) (A A' : List Ent) (n : Nat) (w w' : World) : Prop := LS W X K bv mk ke rm L C D E o A A' n w' ∧ Kp w w'
theorem run_make_texts {w : World} (n : Nat) (hn : n ≤ 1000000) : ∃ w', (Instr.makeSlice 55 (.int .i64 (n : Int)) (.int .i64 (n : Int))).run Tryz.prog w = .ok (.slice (some ⟨w.heap.size, 0, none⟩) n n) w' ∧ TRow w' w.heap.size (.slice (some ⟨w.heap.size, 0, none⟩) n n) (List.replicate n ⟨#[]⟩) ∧ Below w.heap.size w w' := by
  have h : (Tryz.prog.info? 9).map (fun i => (i.zero, i.size, i.bytes)) = some (some (.string ⟨#[]⟩), 1, 16) := by kernel_rfl
  obtain ⟨i, hi, e⟩ := Option.map_eq_some_iff.1 h
  simp only [Prod.mk.injEq] at e
  obtain ⟨hz, hs, hby⟩ := e
  obtain ⟨w', h1, h2, h3⟩ := run_make_full (P := Tryz.prog) w w.heap.size 55 9 i _ 1 Tryz.underlying55 hi hz hs .i64 .i64 n (by rw [hby]; omega) (by unfold maxLen; omega) (Nat.le_refl _)
  refine ⟨w', h1, ?_, (Off.of_grown h3).below (Nat.le_refl _) (fun k e => by cases e)⟩
  unfold TRow ERow
  rw [List.length_replicate]
  have e : (madeCells (Value.string ⟨#[]⟩).cells (n * 1)).toList = (List.replicate n (⟨#[]⟩ : ByteArray)).flatMap encS := made_flat encS_len (by decide) ⟨#[]⟩ n
  rw [← e]
  exact h2
theorem TRow.stored {w : World} {B g n cap : Nat} {xs : List ByteArray} (h : TRow w B (.slice (some ⟨g, 0, none⟩) n cap) xs) (j : Nat) (s : ByteArray) (hj : j < xs.length) : TRow (w.setCell ⟨g, j, none⟩ (.string s)) B (.slice (some ⟨g, 0, none⟩) n cap) (xs.set j s) := by
  have := erow_set encS_len h s hj
  rw [Nat.mul_one] at this
  exact this
theorem ERow.kp {α : Type} {w w' : World} {B k : Nat} {e : TypeId} {enc : α → List Value} {v : Value} {xs : List α} (h : ERow w B e k enc v xs) (hk : Kp w w') (he : ¬ LTy e) : ERow w' B e k enc v xs := ERow.keep h fun g hg => by
  obtain ⟨cs, hc⟩ := erow_type h hg
  rw [hc]
  exact hk.2 g cs e hc he
theorem nLB : ¬ LTy 5 := fun g => by rcases g with g | g | g | g | g <;> exact absurd g (by decide)
theorem nLE : ¬ LTy 29 := fun g => by rcases g with g | g | g | g | g <;> exact absurd g (by decide)
theorem nLS : ¬ LTy 9 := fun g => by rcases g with g | g | g | g | g <;> exact absurd g (by decide)
theorem Own.kp {w w' : World} {B : Nat} {e : Ent} (h : Own w B e) (hk : Kp w w') : Own w' B e := ⟨ERow.kp h.t hk nLB, ERow.kp h.c hk nLB, ERow.kp h.a hk nLB⟩
section
variable {W w w' : World} {X K n C D E : Nat} {bv mk ke rm L : Value} {o : Option (Int × Int)} {A A' : List Ent}
set_option maxRecDepth 100000 in
set_option maxHeartbeats 4000000 in
theorem take_any (h : LS W X K bv mk ke rm L C D E o A A' n w) (hn : n ≤ 900000) {p : Option Addr} {m c : Nat} {bs : List Int} (hb : Byts w p m bs) (hm : m ≤ 140737488355328) : Calls Tryz.prog 65 #[.pointer (some ⟨K, 0, none⟩), .slice p m c] w fun e w' => e = .returned (.tuple #[]) ∧ Hid (LQ W X K bv mk ke rm L C D E o A A' (n + 1) w w') := by
  obtain ⟨w1, hmk, hR, hB1⟩ := run_make_bytes (w := w) m hm
  have HI0 : Hid (∃ xs, xs.length = m ∧ BRow w1 w.heap.size (.slice (some ⟨w.heap.size, 0, none⟩) m m) xs ∧ Below w.heap.size w w1) := ⟨_, List.length_replicate, hR, hB1⟩
  have HH : Hid (LS W X K bv mk ke rm L C D E o A A' n w ∧ Byts w p m bs ∧ bs.length = m) := ⟨h, hb, hb.len⟩
  clear h hb hR hB1
  go_enter Tryz.func65, Tryz.ntmps65
  go_wp2_with fail
  clear hmk
  go_loopw [5] (fun ti wx => ∃ i : Nat, i ≤ m ∧ ti = .int .i64 i ∧ Hid (∃ xs, xs.length = m ∧ BRow wx w.heap.size (.slice (some ⟨w.heap.size, 0, none⟩) m m) xs ∧ Below w.heap.size w wx)) (fun ti _ => m - (intOf ti).toNat)
  case atStart => exact ⟨0, Nat.zero_le _, rfl, HI0⟩
  case round =>
    obtain ⟨i, hi, rfl, HI⟩ := hrel
    by_cases hlt : i < m
    · have hlt1 : (i : Int) < m := by omega
      obtain ⟨xs, hxl, hxr, hxb⟩ := HI.out
      obtain ⟨b, of_, hpo, _, hcell⟩ := (HH.out.2.1.below hxb).cell i (by have := HH.out.2.2; omega)
      subst hpo
      have k1 : wr.cell? ⟨w.heap.size, i, none⟩ = some (.int .u8 (xs.getD i 0)) := hxr.slot (by omega)
      have k2 := hxr.thaw i
      have HJ : Hid (∃ xs, xs.length = m ∧ BRow (wr.setCell ⟨w.heap.size, i, none⟩ (.int .u8 (bs.getD i 0))) w.heap.size (.slice (some ⟨w.heap.size, 0, none⟩) m m) xs ∧ Below w.heap.size w (wr.setCell ⟨w.heap.size, i, none⟩ (.int .u8 (bs.getD i 0)))) := ⟨xs.set i (bs.getD i 0), by rw [List.length_set]; exact hxl, hxr.stored i _ (by omega), hxb.setCell (Nat.le_refl _) _⟩
      clear hxl hxr hxb HI
      go_wp2_with fail
      go_roundw
      case rel => exact ⟨i + 1, hlt, by go_num, HJ⟩
      case measure => simp [intOf]; omega
    · have hlt1 : ¬ (i : Int) < m := by omega
      obtain ⟨xs, hxl, hxr, hxb⟩ := HI.out
      obtain ⟨v0, v1, a0, n0, c0, w2, a1, n1, c1, w4, k0, r1, k1, k2, k3, r2, k4, k5, R⟩ := ls_take (HH.out.1.below hxb) hn (p, m, c) (some ⟨w.heap.size, 0, none⟩, m, m)
      have HZ : Hid (LQ W X K bv mk ke rm L C D E o A A' (n + 1) w (w4.setCell ⟨K, 1, none⟩ (.slice a1 n1 c1))) := ⟨R.out.1, (Kp.of_below hxb).trans R.out.2⟩
      clear R HH HI hxl hxr hxb
      go_wp2_with (at_builtin; first | refine wpList_append_run rfl (.tmp 26) (.tmp 28) 33 _ rfl r1 ?_ | refine wpList_append_run rfl (.tmp 36) (.tmp 38) 33 _ rfl r2 ?_)
      go_end0
      exact ⟨rfl, HZ⟩
set_option maxRecDepth 100000 in
set_option maxHeartbeats 4000000 in
theorem texts_any (h : LS W X K bv mk ke rm L C D E o A A' n w) (hn : n ≤ 900000) {B : Nat} {p : Option Addr} {m c : Nat} {l : List ByteArray} (hb : TRow w B (.slice p m c) l) (hm : m ≤ 1000000) : Calls Tryz.prog 30 #[.pointer (some ⟨K, 0, none⟩), .slice p m c] w fun e w' => e = .returned (.tuple #[]) ∧ Hid (LQ W X K bv mk ke rm L C D E o A A' (n + 1) w w') := by
  obtain ⟨w1, hmk, hR, hB1⟩ := run_make_texts (w := w) m hm
  have HI0 : Hid (∃ xs, xs.length = m ∧ TRow w1 w.heap.size (.slice (some ⟨w.heap.size, 0, none⟩) m m) xs ∧ Below w.heap.size w w1) := ⟨_, List.length_replicate, hR, hB1⟩
  have HH : Hid (LS W X K bv mk ke rm L C D E o A A' n w ∧ TRow w B (.slice p m c) l) := ⟨h, hb⟩
  clear h hb hR hB1
  go_enter Tryz.func30, Tryz.ntmps30
  go_wp2_with fail
  clear hmk
  go_loopw [5] (fun ti wx => ∃ i : Nat, i ≤ m ∧ ti = .int .i64 i ∧ Hid (∃ xs, xs.length = m ∧ TRow wx w.heap.size (.slice (some ⟨w.heap.size, 0, none⟩) m m) xs ∧ Below w.heap.size w wx)) (fun ti _ => m - (intOf ti).toNat)
  case atStart => exact ⟨0, Nat.zero_le _, rfl, HI0⟩
  case round =>
    obtain ⟨i, hi, rfl, HI⟩ := hrel
    by_cases hlt : i < m
    · have hlt1 : (i : Int) < m := by omega
      obtain ⟨xs, hxl, hxr, hxb⟩ := HI.out
      obtain ⟨b, s, hpo, _, hcell⟩ := trow_at (ERow.below HH.out.2 hxb) hlt
      subst hpo
      obtain ⟨g0, s0, e0, _, k1⟩ := trow_at hxr hlt
      obtain rfl : w.heap.size = g0 := by simpa using e0
      have k2 := ERow.thaw hxr i
      have HJ : Hid (∃ xs, xs.length = m ∧ TRow (wr.setCell ⟨w.heap.size, i, none⟩ (.string s)) w.heap.size (.slice (some ⟨w.heap.size, 0, none⟩) m m) xs ∧ Below w.heap.size w (wr.setCell ⟨w.heap.size, i, none⟩ (.string s))) := ⟨xs.set i s, by rw [List.length_set]; exact hxl, hxr.stored i _ (by omega), hxb.setCell (Nat.le_refl _) _⟩
      clear hxl hxr hxb HI e0
      go_wp2_with fail
      go_roundw
      case rel => exact ⟨i + 1, hlt, by go_num, HJ⟩
      case measure => simp [intOf]; omega
    · have hlt1 : ¬ (i : Int) < m := by omega
      obtain ⟨xs, hxl, hxr, hxb⟩ := HI.out
      obtain ⟨v0, v1, a0, n0, c0, w2, a1, n1, c1, w4, k0, r1, k1, k2, k3, r2, k4, k5, R⟩ := ls_texts (HH.out.1.below hxb) hn (p, m, c) (some ⟨w.heap.size, 0, none⟩, m, m)
      have HZ : Hid (LQ W X K bv mk ke rm L C D E o A A' (n + 1) w (w4.setCell ⟨K, 5, none⟩ (.slice a1 n1 c1))) := ⟨R.out.1, (Kp.of_below hxb).trans R.out.2⟩
      clear R HH HI hxl hxr hxb
      go_wp2_with (at_builtin; first | refine wpList_append_run rfl (.tmp 26) (.tmp 28) 35 _ rfl r1 ?_ | refine wpList_append_run rfl (.tmp 36) (.tmp 38) 35 _ rfl r2 ?_)
      go_end0
      exact ⟨rfl, HZ⟩
end
end Go.Proofs.YtplhdgijjckjcaaGreatDoor

/-
  The loose pair: take of an entry.
-/
namespace Go.Proofs.YtplhdgijjckjcaaGreatDoor
open Go.RowKit

/-- An entry that may be taken: its lists are nobody's else, or came in. -/
def Tk (w : World) (e : Ent) : Prop := (∃ B, Own w B e) ∧ e.tn ≤ 140737488355328 ∧ e.cn ≤ 140737488355328 ∧ e.an ≤ 140737488355328
theorem Tk.below {w w' : World} {e : Ent} (h : Tk w e) (hb : Below w.heap.size w w') : Tk w' e := ⟨by obtain ⟨B, h1⟩ := h.1; exact ⟨B, h1.below hb⟩, h.2⟩
theorem Tk.kp {w w' : World} {e : Ent} (h : Tk w e) (hk : Kp w w') : Tk w' e := ⟨by obtain ⟨B, h1⟩ := h.1; exact ⟨B, h1.kp hk⟩, h.2⟩
section
variable {W w w' : World} {X K n C D E : Nat} {bv mk ke rm L : Value} {o : Option (Int × Int)} {A A' : List Ent}
set_option maxRecDepth 100000 in
set_option maxHeartbeats 4000000 in
theorem tk_any (h : LS W X K bv mk ke rm L C D E o A A' n w) (hn : n ≤ 800000) (e : Ent) (he : Tk w e) : Calls Tryz.prog 34 #[.pointer (some ⟨X, 0, none⟩), .agg #[.string e.ct, .slice e.tp e.tn e.tc, .int .i64 e.nu, .int .i64 e.tk, .slice e.cp e.cn e.cc, .string e.cd, .slice e.ap e.an e.ac]] w fun r w' => r = .returned (.tuple #[]) ∧ Hid (LQ W X K bv mk ke rm L C D E o A A' (n + 3) w w') := by
  obtain ⟨V, hV⟩ : ∃ V, w.alloc (.cells #[.string e.ct, .slice e.tp e.tn e.tc, .int .i64 e.nu, .int .i64 e.tk, .slice e.cp e.cn e.cc, .string e.cd, .slice e.ap e.an e.ac] 29) = V := ⟨_, rfl⟩
  have hb : Below w.heap.size w V := by rw [← hV]; exact (Below.refl _ _).alloc (Nat.le_refl _) _
  have hy : V.heap[w.heap.size]? = some (.cells #[.string e.ct, .slice e.tp e.tn e.tc, .int .i64 e.nu, .int .i64 e.tk, .slice e.cp e.cn e.cc, .string e.cd, .slice e.ap e.an e.ac] 29 (0, 0)) := by rw [← hV]; exact heap_alloc_new _ _
  have HV : Hid (LS W X K bv mk ke rm L C D E o A A' n V ∧ Below w.heap.size w V) := ⟨h.below hb, hb⟩
  have HY : Hid (∀ z, Kp V z → z.cell? ⟨w.heap.size, 1, none⟩ = some (.slice e.tp e.tn e.tc) ∧ z.cell? ⟨w.heap.size, 4, none⟩ = some (.slice e.cp e.cn e.cc) ∧ z.cell? ⟨w.heap.size, 6, none⟩ = some (.slice e.ap e.an e.ac)) := fun z hz => by
    have := hz.2 _ _ _ hy nLE
    exact ⟨hcell this 1, hcell this 4, hcell this 6⟩
  have HT : Hid (∀ (v1 : World) (m : Nat) (p : Option Addr) (q c : Nat) (bs : List Int), m ≤ 800002 → q ≤ 140737488355328 → (∀ z, Kp V z → Byts z p q bs) → LQ W X K bv mk ke rm L C D E o A A' m V v1 → ∀ z, Below v1.heap.size v1 z → Calls Tryz.prog 65 #[.pointer (some ⟨K, 0, none⟩), .slice p q c] z fun e w' => e = .returned (.tuple #[]) ∧ Hid (LQ W X K bv mk ke rm L C D E o A A' (m + 1) V w')) := fun v1 m p q c bs hm hql hby hq z hz =>
    (take_any (hq.1.below hz) (by omega) (c := c) (hby z (hq.2.trans (Kp.of_below hz))) hql).mono fun e w' ⟨e1, e2⟩ => ⟨e1, e2.out.1, hq.2.trans ((Kp.of_below hz).trans e2.out.2)⟩
  have HW : Hid (∀ z, Kp V z → Byts z e.tp e.tn e.tx ∧ Byts z e.cp e.cn e.cx ∧ Byts z e.ap e.an e.ax) := fun z hz => by
    obtain ⟨B, h1⟩ := ((he.below hb).kp hz).1
    exact ⟨h1.t.byts, h1.c.byts, h1.a.byts⟩
  have HT1 : Hid (∀ z, Below V.heap.size V z → Calls Tryz.prog 65 #[.pointer (some ⟨K, 0, none⟩), .slice e.tp e.tn e.tc] z fun e w' => e = .returned (.tuple #[]) ∧ Hid (LQ W X K bv mk ke rm L C D E o A A' (n + 1) V w')) := HT.out V n e.tp e.tn e.tc e.tx (by omega) he.2.1 (fun z hz => (HW.out z hz).1) ⟨HV.out.1, Nat.le_refl _, fun _ _ _ h _ => h⟩
  have HT2 : Hid (∀ v1, LQ W X K bv mk ke rm L C D E o A A' (n + 1) V v1 → ∀ z, Below v1.heap.size v1 z → Calls Tryz.prog 65 #[.pointer (some ⟨K, 0, none⟩), .slice e.cp e.cn e.cc] z fun e w' => e = .returned (.tuple #[]) ∧ Hid (LQ W X K bv mk ke rm L C D E o A A' (n + 2) V w')) := fun v1 => HT.out v1 (n + 1) e.cp e.cn e.cc e.cx (by omega) he.2.2.1 (fun z hz => (HW.out z hz).2.1)
  have HT3 : Hid (∀ v1, LQ W X K bv mk ke rm L C D E o A A' (n + 2) V v1 → ∀ z, Below v1.heap.size v1 z → Calls Tryz.prog 65 #[.pointer (some ⟨K, 0, none⟩), .slice e.ap e.an e.ac] z fun e w' => e = .returned (.tuple #[]) ∧ Hid (LQ W X K bv mk ke rm L C D E o A A' (n + 3) V w')) := fun v1 => HT.out v1 (n + 2) e.ap e.an e.ac e.ax (by omega) he.2.2.2 (fun z hz => (HW.out z hz).2.2)
  have HD : Hid (∀ {m : Nat} {z : World} (k : Nat), LQ W X K bv mk ke rm L C D E o A A' m V z → LQ W X K bv mk ke rm L C D E o A A' m V (z.drewN k)) := fun {m z} k hq => ⟨hq.1.below (below_drewN (Below.refl _ _) k), hq.2.trans (Kp.of_below (below_drewN (Below.refl _ _) k))⟩
  have hc0 := HV.out.1.cells
  have x5 := hc0.2.2.2.1
  have lx := hc0.2.2.2.2
  have y1 := (HY.out V ⟨Nat.le_refl _, fun _ _ _ h _ => h⟩).1
  have ly := cell_lt y1
  clear h hb hy hc0 HT HW he
  go_enter Tryz.func34, Tryz.ntmps34
  go_upto_region 1 with fail
  clear hV
  go_cut [] (fun wx => Hid (LQ W X K bv mk ke rm L C D E o A A' (n + 1) V wx))
  case first =>
    clear HY HV HT2 HT3
    go_region_law (go_simp; go_at_call 65; refine (HT1.out _ ?_).mono ?_; (first | exact Below.refl _ _ | exact Below.drew (Below.refl _ _)); rintro _ w1 ⟨rfl, H1⟩)
    all_goals
      go_wp2_with fail
      go_meet
      first | exact H1 | exact HD.out 1 H1.out
  case rest =>
    have H1 := hcut
    clear hcut x5 lx y1 ly HT1
    have hc1 := H1.out.1.cells
    have x5 := hc1.2.2.2.1
    have lx := hc1.2.2.2.2
    have y4 := (HY.out _ H1.out.2).2.1
    have ly := cell_lt y4
    clear hc1
    go_upto_region 2 with fail
    go_cut [] (fun wx => Hid (LQ W X K bv mk ke rm L C D E o A A' (n + 2) V wx))
    case first =>
      clear HY HV HT3
      go_region_law (go_simp; go_at_call 65; refine (HT2.out _ H1.out _ ?_).mono ?_; (first | exact Below.refl _ _ | exact Below.drew (Below.refl _ _)); rintro _ w2 ⟨rfl, H2⟩)
      all_goals
        go_wp2_with fail
        go_meet
        first | exact H2 | exact HD.out 1 H2.out
    case rest =>
      have H2 := hcut
      clear hcut x5 lx y4 ly H1 HT2
      have hc2 := H2.out.1.cells
      have x5 := hc2.2.2.2.1
      have lx := hc2.2.2.2.2
      have y6 := (HY.out _ H2.out.2).2.2
      have ly := cell_lt y6
      clear hc2
      go_wp2_with fail
      go_region_law (go_simp; go_at_call 65; refine (HT3.out _ H2.out _ ?_).mono ?_; (first | exact Below.refl _ _ | exact Below.drew (Below.refl _ _)); rintro _ w3 ⟨rfl, H3⟩)
      all_goals
        have H9 : Hid (∀ k, LQ W X K bv mk ke rm L C D E o A A' (n + 3) w (w3.drewN k)) := fun k => ⟨(HD.out k H3.out).1, (Kp.of_below HV.out.2).trans (HD.out k H3.out).2⟩
        have H8 : Hid (LQ W X K bv mk ke rm L C D E o A A' (n + 3) w w3) := ⟨H3.out.1, (Kp.of_below HV.out.2).trans H3.out.2⟩
        go_wp2_with fail
        go_end0
        first | exact ⟨rfl, H8⟩ | exact ⟨rfl, H9.out 1⟩ | exact ⟨rfl, H9.out _⟩
end
end Go.Proofs.YtplhdgijjckjcaaGreatDoor

/-
  The loose pair: takeList of a list of entries.
-/
namespace Go.Proofs.YtplhdgijjckjcaaGreatDoor
open Go.RowKit

section
variable {W w w' : World} {X K n C D E : Nat} {bv mk ke rm L : Value} {o : Option (Int × Int)} {A A' : List Ent}
set_option maxRecDepth 100000 in
set_option maxHeartbeats 4000000 in
theorem takeList_any (h : LS W X K bv mk ke rm L C D E o A A' n w) (hn : n ≤ 700000) {B : Nat} {a : Option Addr} {m c : Nat} {ls : List Ent} (hr : NRow w B (.slice a m c) ls) (hl : ∀ l ∈ ls, Tk w l) (hm : m ≤ 1000) : Calls Tryz.prog 39 #[.pointer (some ⟨X, 0, none⟩), .slice a m c] w fun e w' => e = .returned (.tuple #[]) ∧ Hid (LQ W X K bv mk ke rm L C D E o A A' (n + 3 * m + 1) w w') := by
  have HH : Hid (NRow w B (.slice a m c) ls ∧ (∀ l ∈ ls, Tk w l) ∧ ls.length = m) := ⟨hr, hl, (ERow.len hr).symm⟩
  have HI0 : Hid (LQ W X K bv mk ke rm L C D E o A A' (n + 3 * 0) w w) := ⟨h, Nat.le_refl _, fun _ _ _ h _ => h⟩
  clear h hr hl
  go_enter Tryz.func39, Tryz.ntmps39
  go_wp2_with fail
  go_loopw [4] (fun ti wx => ∃ i : Nat, i ≤ m ∧ ti = .int .i64 i ∧ Hid (LQ W X K bv mk ke rm L C D E o A A' (n + 3 * i) w wx)) (fun ti _ => m - (intOf ti).toNat)
  case atStart => exact ⟨0, Nat.zero_le _, rfl, HI0⟩
  case round =>
    obtain ⟨i, hi, rfl, HI⟩ := hrel
    by_cases hlt : i < m
    · have hlt1 : (i : Int) < m := by omega
      obtain ⟨l, hl⟩ : ∃ l, ls[i]? = some l := ⟨_, List.getElem?_eq_getElem (by rw [HH.out.2.2]; exact hlt)⟩
      obtain ⟨g, rfl, hg, d0, d1, d2, d3, d4, d5, d6⟩ := nrow_cells (ERow.kp HH.out.1 HI.out.2 nLE) hl
      have htk := tk_any HI.out.1 (by omega) l ((HH.out.2.1 l (List.mem_of_getElem? hl)).kp HI.out.2)
      clear hl hg
      go_wp2_with fail
      refine htk.mono ?_
      rintro _ w1 ⟨rfl, H1⟩
      have HJ : Hid (LQ W X K bv mk ke rm L C D E o A A' (n + 3 * (i + 1)) w w1) := ⟨H1.out.1.mono (by omega), HI.out.2.trans H1.out.2⟩
      clear htk H1 HI d0 d1 d2 d3 d4 d5 d6
      go_wp2_with fail
      go_roundw
      case rel => exact ⟨i + 1, hlt, by go_num, HJ⟩
      case measure => simp [intOf]; omega
    · have hlt1 : ¬ (i : Int) < m := by omega
      obtain rfl : i = m := by omega
      obtain ⟨U, rfl⟩ : ∃ U, U = wr := ⟨_, rfl⟩
      have HQ : Hid (LQ W X K bv mk ke rm L C D E o A A' (n + 3 * i) w U) := HI
      clear HI
      go_wp2_with fail
      go_loopw [5, 6] (fun t5 t6 wx => ∃ j : Nat, j ≤ i ∧ t6 = .int .i64 j ∧ Hid (∃ xs, xs.length = j ∧ NRow wx U.heap.size t5 xs ∧ Below U.heap.size U wx)) (fun _ t6 _ => i - (intOf t6).toNat)
      case atStart => exact ⟨0, Nat.zero_le _, rfl, [], rfl, ERow.nil _ _ _ _ _, Below.refl _ _⟩
      case round =>
        obtain ⟨j, hj, rfl, HJ⟩ := hrel
        obtain ⟨xs, hxl, hxr, hxb⟩ := HJ.out
        obtain ⟨a5, c5, e5, _⟩ := ERow.isSlice hxr
        rw [hxl] at e5
        subst e5
        by_cases hltj : j < i
        · have hltj1 : (j : Int) < i := by omega
          have hkq := HQ.out.2.trans (Kp.of_below hxb)
          obtain ⟨l, hl⟩ : ∃ l, ls[j]? = some l := ⟨_, List.getElem?_eq_getElem (by rw [HH.out.2.2]; exact hltj)⟩
          obtain ⟨g, rfl, hg, d0, d1, d2, d3, d4, d5, d6⟩ := nrow_cells (ERow.kp HH.out.1 hkq nLE) hl
          obtain ⟨⟨B1, ho1⟩, t1, t2, t3⟩ := (HH.out.2.1 l (List.mem_of_getElem? hl)).kp hkq
          have htw := rtwin_any l wr ho1.lies t1 t2 t3
          have HX : Hid (xs.length = j ∧ NRow wr U.heap.size (.slice a5 j c5) xs ∧ Below U.heap.size U wr) := ⟨hxl, hxr, hxb⟩
          clear hl hg ho1 t1 t2 t3 hkq hxl hxr hxb HJ
          go_wp2_with fail
          refine htw.mono ?_
          rintro _ w3 ⟨a1, k1, a2, k2, a3, k3, rfl, _, hb3⟩
          have hb4 : Below wr.heap.size wr (w3.alloc (.cells #[.string l.ct, .slice a1 l.tn k1, .int .i64 l.nu, .int .i64 l.tk, .slice a2 l.cn k2, .string l.cd, .slice a3 l.an k3] 29)) := hb3.alloc hb3.size _
          obtain ⟨a6, c6, W2, hap, r2, o2, _⟩ := run_epush (P := Tryz.prog) (t := 39) Tryz.underlying39 celE encE_len encE_one (w := w3.alloc (.cells #[.string l.ct, .slice a1 l.tn k1, .int .i64 l.nu, .int .i64 l.tk, .slice a2 l.cn k2, .string l.cd, .slice a3 l.an k3] 29)) (ERow.below HX.out.2.1 hb4) (l.wi a1 k1 a2 k2 a3 k3) #[.string l.ct, .slice a1 l.tn k1, .int .i64 l.nu, .int .i64 l.tk, .slice a2 l.cn k2, .string l.cd, .slice a3 l.an k3] rfl (by have := HX.out.1; omega) (by decide) (Nat.le_trans HX.out.2.2.size hb4.size)
          have HX2 : Hid (∃ xs, xs.length = j + 1 ∧ NRow W2 U.heap.size (.slice a6 (j + 1) c6) xs ∧ Below U.heap.size U W2) := by
            rw [HX.out.1] at r2
            refine ⟨_, ?_, r2, (below_then HX.out.2.2 hb4).trans (o2.below (Nat.le_trans HX.out.2.2.size hb4.size) fun q hq => (ERow.lt HX.out.2.1 hq).1)⟩
            rw [List.length_append, HX.out.1]; rfl
          rw [HX.out.1, World.size_alloc] at hap
          clear htw hb3 hb4 r2 o2 HX d0 d1 d2 d3 d4 d5 d6
          go_wp2_with (at_builtin; refine wpList_append_run rfl (.tmp 31) (.tmp 33) 39 _ rfl hap ?_)
          go_roundw
          case rel => exact ⟨j + 1, hltj, by go_num, HX2⟩
          case measure => simp [intOf]; omega
        · have hltj1 : ¬ (j : Int) < i := by omega
          obtain ⟨v0, v1, a0, n0, c0, w2, a1, n1, c1, w4, k0, r1, k1, k2, k3, r2, k4, k5, R⟩ := ls_list (HQ.out.1.below hxb) (by omega) (a, i, c) (a5, j, c5)
          have HZ : Hid (LQ W X K bv mk ke rm L C D E o A A' (n + 3 * i + 1) w (w4.setCell ⟨X, 7, none⟩ (.slice a1 n1 c1))) := ⟨R.out.1, HQ.out.2.trans ((Kp.of_below hxb).trans R.out.2)⟩
          clear R HH HQ HJ hxl hxr hxb
          go_wp2_with (at_builtin; first | refine wpList_append_run rfl (.tmp 39) (.tmp 41) 42 _ rfl r1 ?_ | refine wpList_append_run rfl (.tmp 49) (.tmp 51) 42 _ rfl r2 ?_)
          go_end0
          exact ⟨rfl, HZ⟩
end
end Go.Proofs.YtplhdgijjckjcaaGreatDoor
