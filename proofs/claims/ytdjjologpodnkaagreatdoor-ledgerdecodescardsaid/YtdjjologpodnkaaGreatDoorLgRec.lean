/-
  A record passed to the layer, field by field: its bytes.
-/
import Derived.Test.YtdjjologpodnkaaGreatDoorLgPass
namespace Go.Proofs.YtdjjologpodnkaaGreatDoor
open Go.RowKit

/-- The layer in memory: block L, its bytes a row from B on. -/
structure LY (w : World) (L B : Nat) (bs : List Int) : Prop where
  ex : ∃ a c, w.cell? ⟨L, 0, none⟩ = some (.slice a bs.length c) ∧ BRow w B (.slice a bs.length c) bs
  free : w.frozen? ⟨L, 0, none⟩ = false
theorem LY.below {w w' : World} {L B : Nat} {bs : List Int} (h : LY w L B bs) (hb : Below w.heap.size w w') : LY w' L B bs := by
  obtain ⟨⟨a, c, h1, h2⟩, h3⟩ := h
  exact ⟨⟨a, c, (hb.cell (p := ⟨L, 0, none⟩) (cell_lt h1)).trans h1, ERow.below h2 hb⟩, (hb.frozen (p := ⟨L, 0, none⟩) (cell_lt h1)).trans h3⟩
/-- pass, told on the layer. -/
theorem pass_ly {w z : World} {L g Bk B : Nat} {bs : List Int} (fd : Fd) (h : LY w L B bs) (hz : Below w.heap.size w z) (hg : z.cell? ⟨g, 0, none⟩ = some (fdV Bk fd)) (hin : FdIn w Bk fd) (hok : FdOk w B fd) (hBk : Bk < B) (hLB : L < B) (hl : bs.length ≤ 1000000) (hB : B ≤ w.heap.size) :
    Calls Tryz.prog 98 #[.pointer (some ⟨L, 0, none⟩), .slice (some ⟨g, 0, none⟩) 1 1] z fun e w' => e = .returned (.tuple #[]) ∧ Hid (LY w' L B (bs ++ fdB fd) ∧ Off (fun q => q = L ∨ B ≤ q) w w') := by
  obtain ⟨⟨a, c, h1, h2⟩, h3⟩ := h.below hz
  exact (pass_any fd a c h1 h3 h2 hg (fdIn_off hin (Off.of_below (P := fun _ => False) hz) id) (fdOk_off hok (Off.of_below (P := fun _ => False) hz) (fun _ g => g.elim)) hBk hLB hl (Nat.le_trans hB hz.size)).mono fun e w' ⟨he, hx, hf, ho⟩ => ⟨he, ⟨hx, hf⟩, (Off.of_below hz).join ho fun _ _ g => g⟩
/-- A record that is well: what laying its fields asks. -/
theorem well_all {r : Rec} (h : wrR r = 0) : ∀ i, i < 10 → wl r i = true := by
  have key : ∀ k i, wrFrom r i k = 0 → ∀ j, i ≤ j → j < i + k → wl r j = true := by
    intro k
    induction k with
    | zero => intro i _ j h1 h2; omega
    | succ k ih =>
      intro i hw j h1 h2
      unfold wrFrom at hw
      by_cases g : wl r i = true
      · rw [if_pos g] at hw
        rcases Nat.eq_or_lt_of_le h1 with rfl | h3
        · exact g
        · exact ih (i + 1) hw j h3 (by omega)
      · rw [if_neg g] at hw; omega
  intro i hi
  exact key 10 0 h i (Nat.zero_le _) (by omega)
structure LowR (w : World) (N : Nat) (r : Rec) : Prop where
  t : Low w N r.tp r.tn r.tx
  c : Low w N r.cp r.cn r.cx
  a : Low w N r.ap r.an r.ax
theorem LowR.off {P : Nat → Prop} {w w' : World} {N : Nat} {r : Rec} (h : LowR w N r) (ho : Off P w w') (hP : ∀ q, P q → N ≤ q) : LowR w' N r := ⟨h.t.off ho hP, h.c.off ho hP, h.a.off ho hP⟩
theorem LowR.below {w w' : World} {N : Nat} {r : Rec} (h : LowR w N r) (hb : Below w.heap.size w w') : LowR w' N r := ⟨h.t.below hb, h.c.below hb, h.a.below hb⟩
theorem LowR.up {w : World} {N M : Nat} {r : Rec} (h : LowR w N r) (hM : N ≤ M) : LowR w M r := ⟨h.t.up hM, h.c.up hM, h.a.up hM⟩
theorem fdOk_of {w : World} {B : Nat} {r : Rec} {i : Nat} (hi : i < 10) (hw : wl r i = true) (hr : LowR w B r) : FdOk w B (fdOf r i) := by
  unfold wl at hw
  obtain ⟨fd, hfd⟩ : ∃ fd, fdOf r i = fd := ⟨_, rfl⟩
  rw [hfd] at hw ⊢
  rcases ten hi with rfl | rfl | rfl | rfl | rfl | rfl | rfl | rfl | rfl | rfl
  all_goals (unfold fdOf at hfd; (repeat' split at hfd))
  all_goals (subst hfd; unfold FdOk; unfold fdWell at hw)
  all_goals (first | trivial | (simp only [Bool.and_eq_true, decide_eq_true_eq] at hw; first | omega | exact ⟨by omega, by first | exact hr.t | exact hr.c | exact hr.a⟩))
theorem fdB_len (fd : Fd) (hw : fdWell fd = true) (hn : ∀ o a n c bs lo hi, fd = .byt o a n c bs lo hi → bs.length = n ∧ hi ≤ 8192) (hs : ∀ o s lo hi k, fd = .str o s lo hi k → hi ≤ 18) (hz : ∀ o v sz lo hi, fd = .num o v sz lo hi → sz ≤ 8) : (fdB fd).length ≤ 8200 := by
  cases fd with
  | num o v sz lo hi => unfold fdB; rw [numL_len]; have := hz o v sz lo hi rfl; omega
  | str o s lo hi k =>
    unfold fdWell at hw; simp only [Bool.and_eq_true, decide_eq_true_eq] at hw
    unfold fdB; rw [List.length_append, numL_len, strI_len]; have := hs o s lo hi k rfl; omega
  | byt o a n c bs lo hi =>
    unfold fdWell at hw; simp only [Bool.and_eq_true, decide_eq_true_eq] at hw
    unfold fdB; rw [List.length_append, numL_len]; have := hn o a n c bs lo hi rfl; omega
  | cnd e a p => simp [fdB]
  | non b => simp [fdB]
theorem fdOf_len {r : Rec} {i : Nat} (hi : i < 10) (hw : wl r i = true) (h1 : r.tx.length = r.tn) (h2 : r.cx.length = r.cn) (h3 : r.ax.length = r.an) : (fdB (fdOf r i)).length ≤ 8200 := by
  unfold wl at hw
  refine fdB_len _ hw ?_ ?_ ?_
  all_goals
    intros
    rename_i he
    rcases ten hi with rfl | rfl | rfl | rfl | rfl | rfl | rfl | rfl | rfl | rfl
    all_goals (unfold fdOf at he; (repeat' split at he); all_goals (cases he))
    all_goals (first | omega | (simp only; omega))
theorem enc_len {r : Rec} (hw : ∀ i, i < 10 → wl r i = true) (h1 : r.tx.length = r.tn) (h2 : r.cx.length = r.cn) (h3 : r.ax.length = r.an) : ∀ k i, i + k ≤ 10 → (encFrom r i k).length ≤ 8200 * k
  | 0, i, _ => by simp [encFrom]
  | k + 1, i, hik => by
    rw [encFrom, List.length_append]
    have g1 := fdOf_len (show i < 10 by omega) (hw i (by omega)) h1 h2 h3
    have g2 := enc_len hw h1 h2 h3 k (i + 1) (by omega)
    omega
theorem fdV_iface (B : Nat) (fd : Fd) : ∃ T v, fdV B fd = .iface T v := by cases fd <;> exact ⟨_, _, rfl⟩
theorem mt_pass (x : Value) (w : World) : (method 292 77 x "courier/ledger.pass").run Tryz.prog w = .ok (98, x) w := by kernel_rfl
theorem na_pass (a : Addr) (w : World) : (nilAhead 292 77 (.pointer (some a)) "courier/ledger.pass").run Tryz.prog w = .ok (some false) w := by kernel_rfl
set_option maxRecDepth 100000 in
set_option maxHeartbeats 4000000 in
theorem passRecord_any {w : World} {L Bk B N : Nat} (r : Rec) (h : LY w L B []) (hx : Box w Bk (#[.int .i64 r.kd, .string r.ct, .slice r.tp r.tn r.tc, .bool r.e, .int .i64 r.a, .int .i64 r.p, .int .i64 r.nu, .int .i64 r.tk, .int .i64 r.st, .string r.cd, .slice r.cp r.cn r.cc, .slice r.ap r.an r.ac])) (hr : LowR w N r) (hN : N ≤ L) (hw : wrR r = 0) (hBk : Bk < B) (hLB : L < B) (hne : L ≠ Bk) (hB : B ≤ w.heap.size) :
    Calls Tryz.prog 25 #[.iface 77 (.pointer (some ⟨L, 0, none⟩)), .pointer (some ⟨Bk, 0, none⟩)] w fun e w' => e = .returned (.tuple #[]) ∧ LY w' L B (encR r) ∧ Off (fun q => q = L ∨ B ≤ q) w w' := by
  have hwl := well_all hw
  have HA : Hid (LY w L B [] ∧ Box w Bk (#[.int .i64 r.kd, .string r.ct, .slice r.tp r.tn r.tc, .bool r.e, .int .i64 r.a, .int .i64 r.p, .int .i64 r.nu, .int .i64 r.tk, .int .i64 r.st, .string r.cd, .slice r.cp r.cn r.cc, .slice r.ap r.an r.ac]) ∧ (LowR w N r ∧ N ≤ L) ∧ Bk < B ∧ L < B ∧ L ≠ Bk ∧ B ≤ w.heap.size ∧ ∀ i, i < 10 → wl r i = true) := ⟨h, hx, ⟨hr, hN⟩, hBk, hLB, hne, hB, hwl⟩
  have cfs := fields_any w
  have hidx : ∀ (i : Nat), i < 10 → ∀ w, _ := fun i h w => idx_any h w
  have hmp := mt_pass (.pointer (some ⟨L, 0, none⟩))
  have hnp := na_pass ⟨L, 0, none⟩
  clear h hx hr hN hw hBk hLB hne hB hwl
  generalize fdA = FA at cfs hidx
  go_enter Tryz.func25, Tryz.ntmps25
  go_wp2_with fail
  refine cfs.mono ?_
  rintro _ w1 ⟨rfl, b1⟩
  have HB1 : Hid (Below w.heap.size w w1) := b1
  clear cfs b1
  go_wp2_with fail
  go_loopw [7] (fun t wx => ∃ i : Nat, i ≤ 10 ∧ t = .int .i64 i ∧ Hid (LY wx L B (encFrom r 0 i) ∧ Off (fun q => q = L ∨ B ≤ q) w wx)) (fun t _ => 10 - (intOf t).toNat)
  case atStart => exact ⟨0, Nat.zero_le _, rfl, HA.out.1.below HB1.out, Off.of_below HB1.out⟩
  case round =>
    obtain ⟨i, hi, rfl, HI⟩ := hrel
    by_cases hlt : i < 10
    · have hlt1 : (i : Int) < 10 := by omega
      have hix := hidx i hlt
      have hxw : Box wr Bk (#[.int .i64 r.kd, .string r.ct, .slice r.tp r.tn r.tc, .bool r.e, .int .i64 r.a, .int .i64 r.p, .int .i64 r.nu, .int .i64 r.tk, .int .i64 r.st, .string r.cd, .slice r.cp r.cn r.cc, .slice r.ap r.an r.ac]) := HA.out.2.1.off HI.out.2 (fun g => by have := HA.out.2.2.2.2.2.1; have := HA.out.2.2.2.1; omega)
      have hrw : LowR wr N r := HA.out.2.2.1.1.off HI.out.2 (fun q g => by have h1 := HA.out.2.2.1.2; have h2 := HA.out.2.2.2.2.1; omega)
      have hen : ∀ (args : Array Value) (x : World), (callFunc (fnI i) args).run Tryz.prog x = .ok (.enter (fnI i) args) x := en_any hlt
      have hof : ∀ z, Below wr.heap.size wr z → Calls Tryz.prog (fnI i) #[.pointer (some ⟨Bk, 0, none⟩)] z fun e z' => e = .returned (fdV Bk (fdOf r i)) ∧ z' = z := fun z hz => of_any hlt r Bk z (hxw.below hz)
      have hps : ∀ z, Below wr.heap.size wr z → ∀ g, z.cell? ⟨g, 0, none⟩ = some (fdV Bk (fdOf r i)) → Calls Tryz.prog 98 #[.pointer (some ⟨L, 0, none⟩), .slice (some ⟨g, 0, none⟩) 1 1] z fun e w' => e = .returned (.tuple #[]) ∧ Hid (LY w' L B (encFrom r 0 i ++ fdB (fdOf r i)) ∧ Off (fun q => q = L ∨ B ≤ q) wr w') := fun z hz g hg =>
        pass_ly (fdOf r i) HI.out.1 hz hg (fdIn_of hxw hlt) (fdOk_of hlt (HA.out.2.2.2.2.2.2.2 i hlt) (hrw.up (by have h1 := HA.out.2.2.1.2; have h2 := HA.out.2.2.2.2.1; omega))) HA.out.2.2.2.1 HA.out.2.2.2.2.1 (by have := enc_len HA.out.2.2.2.2.2.2.2 hrw.t.byts.len hrw.c.byts.len hrw.a.byts.len i 0 (by omega); omega) (Nat.le_trans HA.out.2.2.2.2.2.2.1 HI.out.2.size)
      have HE : Hid (encFrom r 0 i ++ fdB (fdOf r i) = encFrom r 0 (i + 1)) := by unfold Hid; rw [encFrom_snoc, Nat.zero_add]
      generalize fnI i = F at hix hof hen
      obtain ⟨T, pv, hpv⟩ := fdV_iface Bk (fdOf r i)
      simp only [hpv] at hof
      simp only [hpv] at hps
      clear hpv
      have HOF : Hid (∀ z, Below wr.heap.size wr z → Calls Tryz.prog F #[.pointer (some ⟨Bk, 0, none⟩)] z fun e z' => e = .returned (.iface T pv) ∧ z' = z) := hof
      have HPS : Hid (∀ z, Below wr.heap.size wr z → ∀ g, z.cell? ⟨g, 0, none⟩ = some (.iface T pv) → Calls Tryz.prog 98 #[.pointer (some ⟨L, 0, none⟩), .slice (some ⟨g, 0, none⟩) 1 1] z fun e w' => e = .returned (.tuple #[]) ∧ Hid (LY w' L B (encFrom r 0 i ++ fdB (fdOf r i)) ∧ Off (fun q => q = L ∨ B ≤ q) wr w')) := hps
      clear hof hps hxw hrw hidx
      go_wp2_with fail
      go_region_law (first | (go_simp; go_at_call 98; refine (HPS.out _ ?_ _ ?_).mono ?_; (repeat' (first | exact Below.refl _ _ | (refine Below.alloc ?_ (by simp) _) | refine Below.drew ?_)); (simp); rintro _ w5 ⟨rfl, H5⟩; go_wp2_with fail) | (go_simp; refine (HOF.out _ ?_).mono ?_; (repeat' (first | exact Below.refl _ _ | refine Below.drew ?_)); rintro _ w9 ⟨rfl, h9⟩; subst w9; go_wp2_with fail))
      all_goals
        have HI2 : Hid (LY w5 L B (encFrom r 0 (i + 1)) ∧ Off (fun q => q = L ∨ B ≤ q) w w5) := ⟨by rw [← HE.out]; exact H5.out.1, HI.out.2.trans H5.out.2⟩
        clear H5 HE HI HOF HPS
        go_wp2_with fail
        go_roundw
        case rel => exact ⟨i + 1, hlt, by go_num, HI2⟩
        case measure => simp [intOf]; omega
    · have hlt1 : ¬ (i : Int) < 10 := by omega
      obtain rfl : i = 10 := by omega
      have HI2 : Hid (LY wr L B (encR r) ∧ Off (fun q => q = L ∨ B ≤ q) w wr) := HI.out
      clear HI hidx
      go_wp2_with fail
      go_end0
      exact ⟨rfl, HI2.out⟩
end Go.Proofs.YtdjjologpodnkaaGreatDoor
