/-
  The law's likeRecord; what a copy of a record is.
-/
import Derived.Test.YtghnkfipecpgpaaGreatDoorLgTwin
import Derived.Test.YtghnkfipecpgpaaGreatDoorLgChain
namespace Go.Proofs.YtghnkfipecpgpaaGreatDoor
open Go.RowKit

/-- A record with its lists elsewhere. -/
abbrev Rec.wi (r : Rec) (a1 : Option Addr) (c1 : Nat) (a2 : Option Addr) (c2 : Nat) (a3 : Option Addr) (c3 : Nat) : Rec := { r with tp := a1, tc := c1, cp := a2, cc := c2, ap := a3, ac := c3 }
theorem wl_wi (r : Rec) (a1 : Option Addr) (c1 : Nat) (a2 : Option Addr) (c2 : Nat) (a3 : Option Addr) (c3 : Nat) {i : Nat} (hi : i < 10) : wl (r.wi a1 c1 a2 c2 a3 c3) i = wl r i ∧ fdB (fdOf (r.wi a1 c1 a2 c2 a3 c3) i) = fdB (fdOf r i) := by
  unfold wl
  rcases ten hi with rfl | rfl | rfl | rfl | rfl | rfl | rfl | rfl | rfl | rfl
  all_goals (unfold fdOf; (repeat' split); all_goals exact ⟨rfl, rfl⟩)
theorem wr_wi (r : Rec) (a1 : Option Addr) (c1 : Nat) (a2 : Option Addr) (c2 : Nat) (a3 : Option Addr) (c3 : Nat) : wrR (r.wi a1 c1 a2 c2 a3 c3) = wrR r := by
  have key : ∀ k i, i + k ≤ 10 → wrFrom (r.wi a1 c1 a2 c2 a3 c3) i k = wrFrom r i k := by
    intro k
    induction k with
    | zero => intro i _; rfl
    | succ k ih =>
      intro i hi
      unfold wrFrom
      rw [(wl_wi r a1 c1 a2 c2 a3 c3 (show i < 10 by omega)).1, ih (i + 1) (by omega)]
  exact key 10 0 (by omega)
theorem enc_wi (r : Rec) (a1 : Option Addr) (c1 : Nat) (a2 : Option Addr) (c2 : Nat) (a3 : Option Addr) (c3 : Nat) : encR (r.wi a1 c1 a2 c2 a3 c3) = encR r := by
  have key : ∀ k i, i + k ≤ 10 → encFrom (r.wi a1 c1 a2 c2 a3 c3) i k = encFrom r i k := by
    intro k
    induction k with
    | zero => intro i _; rfl
    | succ k ih =>
      intro i hi
      unfold encFrom
      rw [(wl_wi r a1 c1 a2 c2 a3 c3 (show i < 10 by omega)).2, ih (i + 1) (by omega)]
  exact key 10 0 (by omega)
def bdN : Nat → Nat
  | 0 => 1
  | 1 => 22
  | 2 => 8196
  | 3 => 3
  | 7 => 6
  | 8 => 2052
  | 9 => 2052
  | _ => 8
theorem fdOf_bd {r : Rec} {i : Nat} (hi : i < 10) (hw : wl r i = true) (h1 : r.tx.length = r.tn) (h2 : r.cx.length = r.cn) (h3 : r.ax.length = r.an) : (fdB (fdOf r i)).length ≤ bdN i := by
  unfold wl at hw
  obtain ⟨fd, hfd⟩ : ∃ fd, fdOf r i = fd := ⟨_, rfl⟩
  rw [hfd] at hw ⊢
  rcases ten hi with rfl | rfl | rfl | rfl | rfl | rfl | rfl | rfl | rfl | rfl
  all_goals (simp only [fdOf] at hfd; (repeat' split at hfd))
  all_goals (subst hfd; simp only [fdB, bdN, List.length_append, numL_len, strI_len, List.length_cons, List.length_nil])
  all_goals (simp only [fdWell] at hw)
  all_goals (first | omega | (simp only [Bool.and_eq_true, decide_eq_true_eq] at hw; omega))
theorem enc_small {r : Rec} (hw : wrR r = 0) (h1 : r.tx.length = r.tn) (h2 : r.cx.length = r.cn) (h3 : r.ax.length = r.an) : (encR r).length ≤ 20000 := by
  have hwl := well_all hw
  have b := fun i (hi : i < 10) => fdOf_bd hi (hwl i hi) h1 h2 h3
  have b0 := b 0 (by omega)
  have b1 := b 1 (by omega)
  have b2 := b 2 (by omega)
  have b3 := b 3 (by omega)
  have b4 := b 4 (by omega)
  have b5 := b 5 (by omega)
  have b6 := b 6 (by omega)
  have b7 := b 7 (by omega)
  have b8 := b 8 (by omega)
  have b9 := b 9 (by omega)
  simp only [bdN] at b0 b1 b2 b3 b4 b5 b6 b7 b8 b9
  unfold encR
  simp only [encFrom, List.length_append, List.length_nil, Nat.reduceAdd]
  omega
theorem Byts.lowN {w : World} {po : Option Addr} {n : Nat} {bs : List Int} (h : Byts w po n bs) : Low w w.heap.size po n bs := ⟨h, fun hn b o e => by
  obtain ⟨b', o', e', hl, _⟩ := h.cell 0 hn
  rw [e] at e'
  simp only [Option.some.injEq, Addr.mk.injEq, and_true] at e'
  rw [e'.1]; exact hl⟩
theorem LieR.lowN {w : World} {r : Rec} (h : LieR w r) : LowR w w.heap.size r := ⟨h.t.lowN, h.c.lowN, h.a.lowN⟩
set_option maxRecDepth 100000 in
set_option maxHeartbeats 4000000 in
theorem like_true (r : Rec) (a1 : Option Addr) (c1 : Nat) (a2 : Option Addr) (c2 : Nat) (a3 : Option Addr) (c3 : Nat) (w : World) (hl : LieR w r) (hl' : LieR w (r.wi a1 c1 a2 c2 a3 c3)) (h1 : r.tn ≤ 140737488355328) (h2 : r.cn ≤ 140737488355328) (h3 : r.an ≤ 140737488355328) :
    Calls Tryz.prog 10 #[.agg #[.int .i64 r.kd, .string r.ct, .slice a1 r.tn c1, .bool r.e, .int .i64 r.a, .int .i64 r.p, .int .i64 r.nu, .int .i64 r.tk, .int .i64 r.st, .string r.cd, .slice a2 r.cn c2, .slice a3 r.an c3], .agg #[.int .i64 r.kd, .string r.ct, .slice r.tp r.tn r.tc, .bool r.e, .int .i64 r.a, .int .i64 r.p, .int .i64 r.nu, .int .i64 r.tk, .int .i64 r.st, .string r.cd, .slice r.cp r.cn r.cc, .slice r.ap r.an r.ac]] w fun e w' => e = .returned (.bool true) ∧ Below w.heap.size w w' := by
  have bv := ((Below.refl w.heap.size w).alloc (Nat.le_refl _) (.cells (#[.int .i64 r.kd, .string r.ct, .slice a1 r.tn c1, .bool r.e, .int .i64 r.a, .int .i64 r.p, .int .i64 r.nu, .int .i64 r.tk, .int .i64 r.st, .string r.cd, .slice a2 r.cn c2, .slice a3 r.an c3]) 26)).alloc (by simp) (.cells (#[.int .i64 r.kd, .string r.ct, .slice r.tp r.tn r.tc, .bool r.e, .int .i64 r.a, .int .i64 r.p, .int .i64 r.nu, .int .i64 r.tk, .int .i64 r.st, .string r.cd, .slice r.cp r.cn r.cc, .slice r.ap r.an r.ac]) 26)
  have bx := (Box.new w (#[.int .i64 r.kd, .string r.ct, .slice a1 r.tn c1, .bool r.e, .int .i64 r.a, .int .i64 r.p, .int .i64 r.nu, .int .i64 r.tk, .int .i64 r.st, .string r.cd, .slice a2 r.cn c2, .slice a3 r.an c3]) 26).alloc (.cells (#[.int .i64 r.kd, .string r.ct, .slice r.tp r.tn r.tc, .bool r.e, .int .i64 r.a, .int .i64 r.p, .int .i64 r.nu, .int .i64 r.tk, .int .i64 r.st, .string r.cd, .slice r.cp r.cn r.cc, .slice r.ap r.an r.ac]) 26)
  have by_ := Box.new (w.alloc (.cells (#[.int .i64 r.kd, .string r.ct, .slice a1 r.tn c1, .bool r.e, .int .i64 r.a, .int .i64 r.p, .int .i64 r.nu, .int .i64 r.tk, .int .i64 r.st, .string r.cd, .slice a2 r.cn c2, .slice a3 r.an c3]) 26)) (#[.int .i64 r.kd, .string r.ct, .slice r.tp r.tn r.tc, .bool r.e, .int .i64 r.a, .int .i64 r.p, .int .i64 r.nu, .int .i64 r.tk, .int .i64 r.st, .string r.cd, .slice r.cp r.cn r.cc, .slice r.ap r.an r.ac]) 26
  rw [World.size_alloc] at by_
  obtain ⟨V, hV⟩ : ∃ V, (w.alloc (.cells (#[.int .i64 r.kd, .string r.ct, .slice a1 r.tn c1, .bool r.e, .int .i64 r.a, .int .i64 r.p, .int .i64 r.nu, .int .i64 r.tk, .int .i64 r.st, .string r.cd, .slice a2 r.cn c2, .slice a3 r.an c3]) 26)).alloc (.cells (#[.int .i64 r.kd, .string r.ct, .slice r.tp r.tn r.tc, .bool r.e, .int .i64 r.a, .int .i64 r.p, .int .i64 r.nu, .int .i64 r.tk, .int .i64 r.st, .string r.cd, .slice r.cp r.cn r.cc, .slice r.ap r.an r.ac]) 26) = V := ⟨_, rfl⟩
  rw [hV] at bv bx by_
  have q1 : (r.ct.toList == r.ct.toList) = true := beq_self_eq_true _
  have q2 : (r.cd.toList == r.cd.toList) = true := beq_self_eq_true _
  have HB : Hid (Below w.heap.size w V) := bv
  have HM : Hid (∀ k, (Calls Tryz.prog 8 #[.slice a1 r.tn c1, .slice r.tp r.tn r.tc] (V.drewN k) fun e w' => e = .returned (.bool true) ∧ ∃ m, w' = (V.drewN k).drewN m) ∧ (Calls Tryz.prog 8 #[.slice a2 r.cn c2, .slice r.cp r.cn r.cc] (V.drewN k) fun e w' => e = .returned (.bool true) ∧ ∃ m, w' = (V.drewN k).drewN m) ∧ (Calls Tryz.prog 8 #[.slice a3 r.an c3, .slice r.ap r.an r.ac] (V.drewN k) fun e w' => e = .returned (.bool true) ∧ ∃ m, w' = (V.drewN k).drewN m)) := fun k => by
    have hb := below_drewN bv k
    exact ⟨memSame_true (hl'.below hb).t (hl.below hb).t (by omega), memSame_true (hl'.below hb).c (hl.below hb).c (by omega), memSame_true (hl'.below hb).a (hl.below hb).a (by omega)⟩
  have cx := bx.cell
  have cy := by_.cell
  clear bv bx by_ hl hl' h1 h2 h3
  go_enter Tryz.func10, Tryz.ntmps10
  go_wp2_with fail
  refine (HM.out 0).1.mono ?_
  rintro _ w1 ⟨rfl, m1, rfl⟩
  simp only [World.drewN_drewN, Nat.zero_add]
  go_wp2_with fail
  refine (HM.out m1).2.1.mono ?_
  rintro _ w2 ⟨rfl, m2, rfl⟩
  simp only [World.drewN_drewN]
  go_wp2_with fail
  refine (HM.out (m1 + m2)).2.2.mono ?_
  rintro _ w3 ⟨rfl, m3, rfl⟩
  simp only [World.drewN_drewN]
  go_wp2_with fail
  go_ret
  exact ⟨rfl, below_drewN HB.out _⟩
end Go.Proofs.YtghnkfipecpgpaaGreatDoor
