/-
  A field passed to the layer.
-/
import Derived.Test.YtdjjologpodnkaaGreatDoorLgLay3
import Derived.Test.YtdjjologpodnkaaGreatDoorLgWrong
namespace Go.Proofs.YtdjjologpodnkaaGreatDoor
open Go.RowKit

/-- The call that lays a field. -/
def LayC (fd : Fd) (Bk : Nat) (z : World) (v : Value) (Q : Ending → World → Prop) : Prop :=
  match fd with
  | .num o _ sz lo hi => Calls Tryz.prog 114 #[.agg #[.pointer (some ⟨Bk, o, none⟩), .int .i64 sz, .int .i64 lo, .int .i64 hi], v] z Q
  | .str o _ lo hi k => Calls Tryz.prog 131 #[.agg #[.pointer (some ⟨Bk, o, none⟩), .int .i64 lo, .int .i64 hi, fv (isF k)], v] z Q
  | .byt o _ _ _ _ lo hi => Calls Tryz.prog 135 #[.agg #[.pointer (some ⟨Bk, o, none⟩), .int .i64 lo, .int .i64 hi, fv 74], v] z Q
  | .cnd _ _ _ => Calls Tryz.prog 123 #[.agg #[.pointer (some ⟨Bk, 3, none⟩)], v] z Q
  | .non b => Calls Tryz.prog 120 #[.bool b, v] z Q
/-- What laying a field asks. -/
def FdOk (w : World) (B : Nat) : Fd → Prop
  | .num _ v sz _ _ => 0 ≤ v ∧ v < 9223372036854775808 ∧ sz ≤ 8
  | .str _ s _ _ _ => s.size ≤ 100000
  | .byt _ a n _ bs _ _ => n ≤ 100000 ∧ Low w B a n bs
  | .cnd _ _ _ => True
  | .non _ => True
theorem lay_fd {w : World} {B Bk : Nat} {v : Value} {bs : List Int} (fd : Fd) (h : BRow w B v bs) (hin : FdIn w Bk fd) (hok : FdOk w B fd) (hBk : Bk < B) (hl : bs.length ≤ 1000000) (hB : B ≤ w.heap.size) : LayC fd Bk w v (LayQ w B v bs (fdB fd)) := by
  cases fd with
  | num o n sz lo hi => exact num_lay Bk o sz n lo hi h hin hBk hok.2.2 hok.1 hok.2.1 hl hB
  | str o s lo hi k => exact str_lay Bk o s lo hi _ h hin hBk hl hok hB
  | byt o a n c ys lo hi => exact byt_lay Bk o a n c ys lo hi _ h hin hBk hok.2 hl hok.1 hB
  | cnd e x y => exact cond_lay Bk e x y h hin.1 hin.2.1 hin.2.2 hBk hl hB
  | non b => exact none_lay b h
theorem fdIn_off {P : Nat → Prop} {w w' : World} {Bk : Nat} {fd : Fd} (h : FdIn w Bk fd) (ho : Off P w w') (hP : ¬ P Bk) : FdIn w' Bk fd := by
  have key : ∀ o v, w.cell? ⟨Bk, o, none⟩ = some v → w'.cell? ⟨Bk, o, none⟩ = some v := fun o v hv => (ho.cell (p := ⟨Bk, o, none⟩) (cell_lt hv) hP).trans hv
  cases fd with
  | num o n sz lo hi => exact key _ _ h
  | str o s lo hi k => exact key _ _ h
  | byt o a n c ys lo hi => exact key _ _ h
  | cnd e x y => exact ⟨key _ _ h.1, key _ _ h.2.1, key _ _ h.2.2⟩
  | non b => trivial
theorem fdOk_off {P : Nat → Prop} {w w' : World} {B : Nat} {fd : Fd} (h : FdOk w B fd) (ho : Off P w w') (hP : ∀ q, P q → B ≤ q) : FdOk w' B fd := by
  cases fd with
  | num o n sz lo hi => exact h
  | str o s lo hi k => exact h
  | byt o a n c ys lo hi => exact ⟨h.1, h.2.off ho hP⟩
  | cnd e x y => trivial
  | non b => trivial
theorem LayC.mono {fd : Fd} {Bk : Nat} {z : World} {v : Value} {Q R : Ending → World → Prop} (h : LayC fd Bk z v Q) (hq : ∀ e z', Q e z' → R e z') : LayC fd Bk z v R := by
  cases fd
  all_goals (unfold LayC at h ⊢; exact Calls.mono h hq)
theorem mt_num (x a b c : Value) (w : World) : (method 292 128 (.agg #[x, a, b, c]) "courier/ledger.lay").run Tryz.prog w = .ok (114, .agg #[x, a, b, c]) w := by kernel_rfl
theorem mt_str (x a b c : Value) (w : World) : (method 292 139 (.agg #[x, a, b, c]) "courier/ledger.lay").run Tryz.prog w = .ok (131, .agg #[x, a, b, c]) w := by kernel_rfl
theorem mt_byt (x a b c : Value) (w : World) : (method 292 146 (.agg #[x, a, b, c]) "courier/ledger.lay").run Tryz.prog w = .ok (135, .agg #[x, a, b, c]) w := by kernel_rfl
theorem mt_cnd (x : Value) (w : World) : (method 292 136 (.agg #[x]) "courier/ledger.lay").run Tryz.prog w = .ok (123, .agg #[x]) w := by kernel_rfl
theorem mt_non (b : Bool) (w : World) : (method 292 129 (.bool b) "courier/ledger.lay").run Tryz.prog w = .ok (120, .bool b) w := by kernel_rfl
theorem na_num (x a b c : Value) (w : World) : (nilAhead 292 128 (.agg #[x, a, b, c]) "courier/ledger.lay").run Tryz.prog w = .ok (some false) w := by kernel_rfl
theorem na_str (x a b c : Value) (w : World) : (nilAhead 292 139 (.agg #[x, a, b, c]) "courier/ledger.lay").run Tryz.prog w = .ok (some false) w := by kernel_rfl
theorem na_byt (x a b c : Value) (w : World) : (nilAhead 292 146 (.agg #[x, a, b, c]) "courier/ledger.lay").run Tryz.prog w = .ok (some false) w := by kernel_rfl
theorem na_cnd (x : Value) (w : World) : (nilAhead 292 136 (.agg #[x]) "courier/ledger.lay").run Tryz.prog w = .ok (some false) w := by kernel_rfl
theorem na_non (b : Bool) (w : World) : (nilAhead 292 129 (.bool b) "courier/ledger.lay").run Tryz.prog w = .ok (some false) w := by kernel_rfl
set_option maxRecDepth 100000 in
set_option maxHeartbeats 4000000 in
theorem pass_any {w : World} {L g Bk B : Nat} {bs : List Int} (fd : Fd) (a0 : Option Addr) (c0 : Nat) (hL : w.cell? ⟨L, 0, none⟩ = some (.slice a0 bs.length c0)) (hfr : w.frozen? ⟨L, 0, none⟩ = false) (hr : BRow w B (.slice a0 bs.length c0) bs) (hg : w.cell? ⟨g, 0, none⟩ = some (fdV Bk fd))
    (hin : FdIn w Bk fd) (hok : FdOk w B fd) (hBk : Bk < B) (hLB : L < B) (hl : bs.length ≤ 1000000) (hB : B ≤ w.heap.size) :
    Calls Tryz.prog 98 #[.pointer (some ⟨L, 0, none⟩), .slice (some ⟨g, 0, none⟩) 1 1] w fun e w' => e = .returned (.tuple #[]) ∧ (∃ a c, w'.cell? ⟨L, 0, none⟩ = some (.slice a (bs ++ fdB fd).length c) ∧ BRow w' B (.slice a (bs ++ fdB fd).length c) (bs ++ fdB fd)) ∧ w'.frozen? ⟨L, 0, none⟩ = false ∧ Off (fun q => q = L ∨ B ≤ q) w w' := by
  have HC : Hid (∀ z, Below w.heap.size w z → LayC fd Bk z (.slice a0 bs.length c0) fun e z' => ∃ a c, e = .returned (.slice a (bs.length + (fdB fd).length) c) ∧ z'.cell? ⟨L, 0, none⟩ = some (.slice a0 bs.length c0) ∧ z'.frozen? ⟨L, 0, none⟩ = false ∧ Hid (BRow z' B (.slice a (bs.length + (fdB fd).length) c) (bs ++ fdB fd) ∧ Off (fun q => q = L ∨ B ≤ q) w z')) := fun z hz =>
    (lay_fd fd (ERow.below hr hz) (fdIn_off hin (Off.of_below (P := fun _ => False) hz) id) (fdOk_off hok (Off.of_below (P := fun _ => False) hz) (fun _ g => g.elim)) hBk hl (Nat.le_trans hB hz.size)).mono fun e z' ⟨a, c, he, h1, ho⟩ => by
      have o1 : Off (fun q => q = L ∨ B ≤ q) w z' := (Off.of_below hz).join (ho.mono fun q hq => Or.inr (BRow.own hr hq).1) fun _ _ g => g
      have o2 : Off (fun q => B ≤ q) w z' := (Off.of_below hz).join (ho.mono fun q hq => (BRow.own hr hq).1) fun _ _ g => g
      exact ⟨a, c, he, (o2.cell (p := ⟨L, 0, none⟩) (cell_lt hL) (fun g => by simp only at g; omega)).trans hL, (o2.frozen (p := ⟨L, 0, none⟩) (cell_lt hL) (fun g => by simp only at g; omega)).trans hfr, h1, o1⟩
  have HE : Hid (∀ z a c, z.cell? ⟨L, 0, none⟩ = some (.slice a0 bs.length c0) → z.frozen? ⟨L, 0, none⟩ = false → BRow z B (.slice a (bs.length + (fdB fd).length) c) (bs ++ fdB fd) → Off (fun q => q = L ∨ B ≤ q) w z → (∃ a' c', (z.setCell ⟨L, 0, none⟩ (.slice a (bs.length + (fdB fd).length) c)).cell? ⟨L, 0, none⟩ = some (.slice a' (bs ++ fdB fd).length c') ∧ BRow (z.setCell ⟨L, 0, none⟩ (.slice a (bs.length + (fdB fd).length) c)) B (.slice a' (bs ++ fdB fd).length c') (bs ++ fdB fd)) ∧ (z.setCell ⟨L, 0, none⟩ (.slice a (bs.length + (fdB fd).length) c)).frozen? ⟨L, 0, none⟩ = false ∧ Off (fun q => q = L ∨ B ≤ q) w (z.setCell ⟨L, 0, none⟩ (.slice a (bs.length + (fdB fd).length) c))) := fun z a c h1 h2 h3 h4 => by
    refine ⟨⟨a, c, ?_, ?_⟩, ?_, h4.setCell (Or.inl rfl) _⟩
    · rw [World.cell?_setCell_same _ _ _ h1, List.length_append]
    · rw [List.length_append]
      exact ERow.off h3 (Off.setCell (P := fun q => q = L) (Off.refl _ z) rfl _) fun q hq e => by have := (BRow.own h3 hq).1; omega
    · simpa using h2
  clear hr hin hok hBk hLB hl hB
  cases fd with
  | num o n sz lo hi =>
    have HC1 : Hid (∀ z, Below w.heap.size w z → Calls Tryz.prog 114 #[.agg #[.pointer (some ⟨Bk, o, none⟩), .int .i64 sz, .int .i64 lo, .int .i64 hi], .slice a0 bs.length c0] z _) := HC.out
    simp only [fdV] at hg
    have hna := na_num
    have hmt := mt_num
    clear HC
    go_enter Tryz.func98, Tryz.ntmps98
    go_wp2_with fail
    refine wp_loop_rounds 2 ?_
    rw [rounds_succ]
    go_wp2_with fail
    go_region_law (go_simp; go_at_call 114; refine (HC1.out _ ?_).mono ?_; (first | exact Below.refl _ _ | exact Below.drew (Below.refl _ _)); rintro _ z1 ⟨a1, c1, rfl, d0, d1, H1⟩; go_wp2_with fail)
    all_goals
      go_wp2_with fail
      rw [rounds_succ]
      go_wp2_with fail
      go_end0
      exact ⟨rfl, HE.out _ _ _ d0 d1 H1.out.1 H1.out.2⟩
  | str o s lo hi k =>
    have HC1 : Hid (∀ z, Below w.heap.size w z → Calls Tryz.prog 131 #[.agg #[.pointer (some ⟨Bk, o, none⟩), .int .i64 lo, .int .i64 hi, fv (isF k)], .slice a0 bs.length c0] z _) := HC.out
    simp only [fdV] at hg
    have hna := na_str
    have hmt := mt_str
    clear HC
    go_enter Tryz.func98, Tryz.ntmps98
    go_wp2_with fail
    refine wp_loop_rounds 2 ?_
    rw [rounds_succ]
    go_wp2_with fail
    go_region_law (go_simp; go_at_call 131; refine (HC1.out _ ?_).mono ?_; (first | exact Below.refl _ _ | exact Below.drew (Below.refl _ _)); rintro _ z1 ⟨a1, c1, rfl, d0, d1, H1⟩; go_wp2_with fail)
    all_goals
      go_wp2_with fail
      rw [rounds_succ]
      go_wp2_with fail
      go_end0
      exact ⟨rfl, HE.out _ _ _ d0 d1 H1.out.1 H1.out.2⟩
  | byt o a n c ys lo hi =>
    have HC1 : Hid (∀ z, Below w.heap.size w z → Calls Tryz.prog 135 #[.agg #[.pointer (some ⟨Bk, o, none⟩), .int .i64 lo, .int .i64 hi, fv 74], .slice a0 bs.length c0] z _) := HC.out
    simp only [fdV] at hg
    have hna := na_byt
    have hmt := mt_byt
    clear HC
    go_enter Tryz.func98, Tryz.ntmps98
    go_wp2_with fail
    refine wp_loop_rounds 2 ?_
    rw [rounds_succ]
    go_wp2_with fail
    go_region_law (go_simp; go_at_call 135; refine (HC1.out _ ?_).mono ?_; (first | exact Below.refl _ _ | exact Below.drew (Below.refl _ _)); rintro _ z1 ⟨a1, c1, rfl, d0, d1, H1⟩; go_wp2_with fail)
    all_goals
      go_wp2_with fail
      rw [rounds_succ]
      go_wp2_with fail
      go_end0
      exact ⟨rfl, HE.out _ _ _ d0 d1 H1.out.1 H1.out.2⟩
  | cnd e x y =>
    have HC1 : Hid (∀ z, Below w.heap.size w z → Calls Tryz.prog 123 #[.agg #[.pointer (some ⟨Bk, 3, none⟩)], .slice a0 bs.length c0] z _) := HC.out
    simp only [fdV] at hg
    have hna := na_cnd
    have hmt := mt_cnd
    clear HC
    go_enter Tryz.func98, Tryz.ntmps98
    go_wp2_with fail
    refine wp_loop_rounds 2 ?_
    rw [rounds_succ]
    go_wp2_with fail
    go_region_law (go_simp; go_at_call 123; refine (HC1.out _ ?_).mono ?_; (first | exact Below.refl _ _ | exact Below.drew (Below.refl _ _)); rintro _ z1 ⟨a1, c1, rfl, d0, d1, H1⟩; go_wp2_with fail)
    all_goals
      go_wp2_with fail
      rw [rounds_succ]
      go_wp2_with fail
      go_end0
      exact ⟨rfl, HE.out _ _ _ d0 d1 H1.out.1 H1.out.2⟩
  | non b =>
    have HC1 : Hid (∀ z, Below w.heap.size w z → Calls Tryz.prog 120 #[.bool b, .slice a0 bs.length c0] z _) := HC.out
    simp only [fdV] at hg
    have hna := na_non
    have hmt := mt_non
    clear HC
    go_enter Tryz.func98, Tryz.ntmps98
    go_wp2_with fail
    refine wp_loop_rounds 2 ?_
    rw [rounds_succ]
    go_wp2_with fail
    go_region_law (go_simp; go_at_call 120; refine (HC1.out _ ?_).mono ?_; (first | exact Below.refl _ _ | exact Below.drew (Below.refl _ _)); rintro _ z1 ⟨a1, c1, rfl, d0, d1, H1⟩; go_wp2_with fail)
    all_goals
      go_wp2_with fail
      rw [rounds_succ]
      go_wp2_with fail
      go_end0
      exact ⟨rfl, HE.out _ _ _ d0 d1 H1.out.1 H1.out.2⟩
end Go.Proofs.YtdjjologpodnkaaGreatDoor
