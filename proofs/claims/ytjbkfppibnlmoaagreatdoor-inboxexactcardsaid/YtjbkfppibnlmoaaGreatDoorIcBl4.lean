import Derived.Test.YtjbkfppibnlmoaaGreatDoorIcBl
import Derived.Test.YtjbkfppibnlmoaaGreatDoorIbHand
import Derived.Deep.DeepCutAuto
/-
  The loose pair: one more list in the book, one more text list, one more list of entries.
-/
namespace Go.Proofs.YtjbkfppibnlmoaaGreatDoor
open Go.RowKit

section
variable {w w' : World} {P : Nat → Prop} {a b : TypeId}
/-- What P holds is of the types a and b. -/
def Pt (w : World) (P : Nat → Prop) (a b : TypeId) : Prop := ∀ q, P q → ∃ cs t, w.heap[q]? = some (.cells cs t (0, 0)) ∧ (t = a ∨ t = b)
theorem Pt.row (hP : Pt w P a b) {B : Nat} {e : TypeId} {v : Value} {xs : List Sl} (h : ERow w B e 1 encSl v xs) (o : Off P w w') (ha : a ≠ e) (hb : b ≠ e) : ERow w' B e 1 encSl v xs := ERow.off h o fun g hg hp => by
  obtain ⟨cs, t, hc, ht⟩ := hP g hp
  obtain ⟨cs', hc'⟩ := erow_type h hg
  rw [hc'] at hc
  simp only [Option.some.injEq, Obj.cells.injEq] at hc
  rcases ht with rfl | rfl
  · exact ha hc.2.1.symm
  · exact hb hc.2.1.symm
theorem Pt.blk (hP : Pt w P a b) {q : Nat} {cs : Array Value} {t : TypeId} (h : w.heap[q]? = some (.cells cs t (0, 0))) (o : Off P w w') (ha : a ≠ t) (hb : b ≠ t) : w'.heap[q]? = some (.cells cs t (0, 0)) := (o.block q (blk_lt h) fun hp => by
  obtain ⟨cs', t', hc, ht⟩ := hP q hp
  rw [h] at hc
  simp only [Option.some.injEq, Obj.cells.injEq] at hc
  rcases ht with rfl | rfl
  · exact ha hc.2.1.symm
  · exact hb hc.2.1.symm).trans h
theorem Pt.lty (hP : Pt w P a b) (ha : LTy a) (hb : LTy b) : ∀ q, P q → ∃ cs t, w.heap[q]? = some (.cells cs t (0, 0)) ∧ LTy t := fun q hq => by
  obtain ⟨cs, t, hc, ht⟩ := hP q hq
  refine ⟨cs, t, hc, ?_⟩
  rcases ht with rfl | rfl
  · exact ha
  · exact hb
theorem pt_two {K B : Nat} {cs : Array Value} {v0 v1 : Value} {x0 x1 : List Sl} (hK : w.heap[K]? = some (.cells cs a (0, 0))) (h0 : ERow w B b 1 encSl v0 x0) (h1 : ERow w B b 1 encSl v1 x1) : Pt w (fun q => q = K ∨ v0.ownBlock = some q ∨ v1.ownBlock = some q) a b := fun q hq => by
  rcases hq with rfl | hq | hq
  · exact ⟨cs, a, hK, Or.inl rfl⟩
  · obtain ⟨cs', hc⟩ := erow_type h0 hq
    exact ⟨cs', b, hc, Or.inr rfl⟩
  · obtain ⟨cs', hc⟩ := erow_type h1 hq
    exact ⟨cs', b, hc, Or.inr rfl⟩
end
section
variable {W w w' : World} {X K n C D E : Nat} {bv mk ke rm L : Value} {o : Option (Int × Int)} {A A' : List Ent}
theorem ls_take (h : LS W X K bv mk ke rm L C D E o A A' n w) (hn : n ≤ 900000) (s0 s1 : Sl) : ∃ v0 v1 a0 n0 c0 w2 a1 n1 c1 w4, w.cell? ⟨K, 0, none⟩ = some v0 ∧ (Builtin.append_ #[48, 48] 48 #[v0, .slice (some ⟨w.heap.size, 0, none⟩) 1 1]).run Tryz.prog (w.alloc (.cells #[.slice s0.1 s0.2.1 s0.2.2] 28)) = .ok (.slice a0 n0 c0) w2 ∧
      w2.cell? ⟨K, 0, none⟩ = some v0 ∧ w2.frozen? ⟨K, 0, none⟩ = false ∧ (w2.setCell ⟨K, 0, none⟩ (.slice a0 n0 c0)).cell? ⟨K, 1, none⟩ = some v1 ∧
      (Builtin.append_ #[48, 48] 48 #[v1, .slice (some ⟨w2.heap.size, 0, none⟩) 1 1]).run Tryz.prog ((w2.setCell ⟨K, 0, none⟩ (.slice a0 n0 c0)).alloc (.cells #[.slice s1.1 s1.2.1 s1.2.2] 28)) = .ok (.slice a1 n1 c1) w4 ∧
      w4.cell? ⟨K, 1, none⟩ = some v1 ∧ w4.frozen? ⟨K, 1, none⟩ = false ∧ Hid (LS W X K bv mk ke rm L C D E o A A' (n + 1) (w4.setCell ⟨K, 1, none⟩ (.slice a1 n1 c1)) ∧ Kp w (w4.setCell ⟨K, 1, none⟩ (.slice a1 n1 c1))) := by
  obtain ⟨v0, v1, v4, v5, v6, v7, x0, x1, x4, x5, x6, x7, hX, hK, ⟨a0, a1, a2, a3, a4⟩, ⟨b0, b1, b2, b3, b4⟩, ⟨c0, c1, c2, c3, c4⟩⟩ := h.ex
  obtain ⟨p0, n0, d0, w2, p1, n1, d1, w4, r1, r2, r3, r4, r5, r6, r7, R⟩ := push2 (i := 0) Tryz.underlying48 celSB (by decide) hK rfl rfl a0 a1 a2 (by omega) (by omega) h.bel.size s0 s1
  refine ⟨v0, v1, p0, n0, d0, w2, p1, n1, d1, w4, hcell hK 0, r1, r2, r3, r4, r5, r6, r7, ?_⟩
  obtain ⟨q1, q2, q3, q4, oo⟩ := R.out
  have hP := pt_two hK a0 a1
  have hL := hP.lty (Or.inr (Or.inl rfl)) (Or.inr (Or.inr (Or.inl rfl)))
  refine ⟨⟨⟨_, _, v4, v5, v6, v7, _, _, x4, x5, x6, x7, hP.blk hX oo (by decide) (by decide), q1, ⟨q2, q3, q4, by simp; omega, by simp; omega⟩, ⟨hP.row b0 oo (by decide) (by decide), hP.row b1 oo (by decide) (by decide), b2, by omega, by omega⟩, ⟨hP.row c0 oo (by decide) (by decide), hP.row c1 oo (by decide) (by decide), c2, by omega, by omega⟩⟩, h.sd.off oo hL, h.bel.trans (oo.below h.bel.size fun q hq => ?_), h.lX, h.lK⟩, Kp.off oo hL⟩
  rcases hq with rfl | hq | hq
  · exact h.lK
  · exact (ERow.lt a0 hq).1
  · exact (ERow.lt a1 hq).1
theorem ls_texts (h : LS W X K bv mk ke rm L C D E o A A' n w) (hn : n ≤ 900000) (s0 s1 : Sl) : ∃ v0 v1 a0 n0 c0 w2 a1 n1 c1 w4, w.cell? ⟨K, 4, none⟩ = some v0 ∧ (Builtin.append_ #[50, 50] 50 #[v0, .slice (some ⟨w.heap.size, 0, none⟩) 1 1]).run Tryz.prog (w.alloc (.cells #[.slice s0.1 s0.2.1 s0.2.2] 66)) = .ok (.slice a0 n0 c0) w2 ∧
      w2.cell? ⟨K, 4, none⟩ = some v0 ∧ w2.frozen? ⟨K, 4, none⟩ = false ∧ (w2.setCell ⟨K, 4, none⟩ (.slice a0 n0 c0)).cell? ⟨K, 5, none⟩ = some v1 ∧
      (Builtin.append_ #[50, 50] 50 #[v1, .slice (some ⟨w2.heap.size, 0, none⟩) 1 1]).run Tryz.prog ((w2.setCell ⟨K, 4, none⟩ (.slice a0 n0 c0)).alloc (.cells #[.slice s1.1 s1.2.1 s1.2.2] 66)) = .ok (.slice a1 n1 c1) w4 ∧
      w4.cell? ⟨K, 5, none⟩ = some v1 ∧ w4.frozen? ⟨K, 5, none⟩ = false ∧ Hid (LS W X K bv mk ke rm L C D E o A A' (n + 1) (w4.setCell ⟨K, 5, none⟩ (.slice a1 n1 c1)) ∧ Kp w (w4.setCell ⟨K, 5, none⟩ (.slice a1 n1 c1))) := by
  obtain ⟨v0, v1, v4, v5, v6, v7, x0, x1, x4, x5, x6, x7, hX, hK, ⟨a0, a1, a2, a3, a4⟩, ⟨b0, b1, b2, b3, b4⟩, ⟨c0, c1, c2, c3, c4⟩⟩ := h.ex
  obtain ⟨p0, n0, d0, w2, p1, n1, d1, w4, r1, r2, r3, r4, r5, r6, r7, R⟩ := push2 (i := 4) Tryz.underlying50 celST (by decide) hK rfl rfl b0 b1 b2 (by omega) (by omega) h.bel.size s0 s1
  refine ⟨v4, v5, p0, n0, d0, w2, p1, n1, d1, w4, hcell hK 4, r1, r2, r3, r4, r5, r6, r7, ?_⟩
  obtain ⟨q1, q2, q3, q4, oo⟩ := R.out
  have hP := pt_two hK b0 b1
  have hL := hP.lty (Or.inr (Or.inl rfl)) (Or.inr (Or.inr (Or.inr (Or.inl rfl))))
  refine ⟨⟨⟨v0, v1, _, _, v6, v7, x0, x1, _, _, x6, x7, hP.blk hX oo (by decide) (by decide), q1, ⟨hP.row a0 oo (by decide) (by decide), hP.row a1 oo (by decide) (by decide), a2, by omega, by omega⟩, ⟨q2, q3, q4, by simp; omega, by simp; omega⟩, ⟨hP.row c0 oo (by decide) (by decide), hP.row c1 oo (by decide) (by decide), c2, by omega, by omega⟩⟩, h.sd.off oo hL, h.bel.trans (oo.below h.bel.size fun q hq => ?_), h.lX, h.lK⟩, Kp.off oo hL⟩
  rcases hq with rfl | hq | hq
  · exact h.lK
  · exact (ERow.lt b0 hq).1
  · exact (ERow.lt b1 hq).1
theorem ls_list (h : LS W X K bv mk ke rm L C D E o A A' n w) (hn : n ≤ 900000) (s0 s1 : Sl) : ∃ v0 v1 a0 n0 c0 w2 a1 n1 c1 w4, w.cell? ⟨X, 6, none⟩ = some v0 ∧ (Builtin.append_ #[53, 53] 53 #[v0, .slice (some ⟨w.heap.size, 0, none⟩) 1 1]).run Tryz.prog (w.alloc (.cells #[.slice s0.1 s0.2.1 s0.2.2] 22)) = .ok (.slice a0 n0 c0) w2 ∧
      w2.cell? ⟨X, 6, none⟩ = some v0 ∧ w2.frozen? ⟨X, 6, none⟩ = false ∧ (w2.setCell ⟨X, 6, none⟩ (.slice a0 n0 c0)).cell? ⟨X, 7, none⟩ = some v1 ∧
      (Builtin.append_ #[53, 53] 53 #[v1, .slice (some ⟨w2.heap.size, 0, none⟩) 1 1]).run Tryz.prog ((w2.setCell ⟨X, 6, none⟩ (.slice a0 n0 c0)).alloc (.cells #[.slice s1.1 s1.2.1 s1.2.2] 22)) = .ok (.slice a1 n1 c1) w4 ∧
      w4.cell? ⟨X, 7, none⟩ = some v1 ∧ w4.frozen? ⟨X, 7, none⟩ = false ∧ Hid (LS W X K bv mk ke rm L C D E o A A' (n + 1) (w4.setCell ⟨X, 7, none⟩ (.slice a1 n1 c1)) ∧ Kp w (w4.setCell ⟨X, 7, none⟩ (.slice a1 n1 c1))) := by
  obtain ⟨v0, v1, v4, v5, v6, v7, x0, x1, x4, x5, x6, x7, hX, hK, ⟨a0, a1, a2, a3, a4⟩, ⟨b0, b1, b2, b3, b4⟩, ⟨c0, c1, c2, c3, c4⟩⟩ := h.ex
  obtain ⟨p0, n0, d0, w2, p1, n1, d1, w4, r1, r2, r3, r4, r5, r6, r7, R⟩ := push2 (i := 6) Tryz.underlying53 celSE (by decide) hX rfl rfl c0 c1 c2 (by omega) (by omega) h.bel.size s0 s1
  refine ⟨v6, v7, p0, n0, d0, w2, p1, n1, d1, w4, hcell hX 6, r1, r2, r3, r4, r5, r6, r7, ?_⟩
  obtain ⟨q1, q2, q3, q4, oo⟩ := R.out
  have hP := pt_two hX c0 c1
  have hL := hP.lty (Or.inl rfl) (Or.inr (Or.inr (Or.inr (Or.inr rfl))))
  refine ⟨⟨⟨v0, v1, v4, v5, _, _, x0, x1, x4, x5, _, _, q1, hP.blk hK oo (by decide) (by decide), ⟨hP.row a0 oo (by decide) (by decide), hP.row a1 oo (by decide) (by decide), a2, by omega, by omega⟩, ⟨hP.row b0 oo (by decide) (by decide), hP.row b1 oo (by decide) (by decide), b2, by omega, by omega⟩, ⟨q2, q3, q4, by simp; omega, by simp; omega⟩⟩, h.sd.off oo hL, h.bel.trans (oo.below h.bel.size fun q hq => ?_), h.lX, h.lK⟩, Kp.off oo hL⟩
  rcases hq with rfl | hq | hq
  · exact h.lX
  · exact (ERow.lt c0 hq).1
  · exact (ERow.lt c1 hq).1
end
end Go.Proofs.YtjbkfppibnlmoaaGreatDoor

/-
  The loose pair: Take and TakeTexts of anything.
-/
namespace Go.Proofs.YtjbkfppibnlmoaaGreatDoor
open Go.RowKit

/-- What an operation leaves. -/
def LQ (W : World) (X K : Nat) (bv mk ke rm L : Value) (C D E : Nat) (o : Option (Int × Int)) (A A' : List Ent) (n : Nat) (w w' : World) : Prop := LS W X K bv mk ke rm L C D E o A A' n w' ∧ Kp w w'
theorem run_make_texts {w : World} (n : Nat) (hn : n ≤ 1000000) : ∃ w', (Instr.makeSlice 66 (.int .i64 (n : Int)) (.int .i64 (n : Int))).run Tryz.prog w = .ok (.slice (some ⟨w.heap.size, 0, none⟩) n n) w' ∧ TRow w' w.heap.size (.slice (some ⟨w.heap.size, 0, none⟩) n n) (List.replicate n ⟨#[]⟩) ∧ Below w.heap.size w w' := by
  have h : (Tryz.prog.info? 9).map (fun i => (i.zero, i.size, i.bytes)) = some (some (.string ⟨#[]⟩), 1, 16) := by kernel_rfl
  obtain ⟨i, hi, e⟩ := Option.map_eq_some_iff.1 h
  simp only [Prod.mk.injEq] at e
  obtain ⟨hz, hs, hby⟩ := e
  obtain ⟨w', h1, h2, h3⟩ := run_make_full (P := Tryz.prog) w w.heap.size 66 9 i _ 1 Tryz.underlying66 hi hz hs .i64 .i64 n (by rw [hby]; omega) (by unfold maxLen; omega) (Nat.le_refl _)
  refine ⟨w', h1, ?_, (Off.of_grown h3).below (Nat.le_refl _) (fun k e => by cases e)⟩
  unfold TRow ERow
  rw [List.length_replicate]
  have e : (madeCells (Value.string ⟨#[]⟩).cells (n * 1)).toList = (List.replicate n (⟨#[]⟩ : ByteArray)).flatMap encS := made_flat encS_len (by decide) ⟨#[]⟩ n
  rw [← e]
  exact h2
theorem TRow.stored {w : World} {B g n cap : Nat} {xs : List ByteArray} (h : TRow w B (.slice (some ⟨g, 0, none⟩) n cap) xs) (j : Nat) (s : ByteArray) (hj : j < xs.length) : TRow (w.setCell ⟨g, j, none⟩ (.string s)) B (.slice (some ⟨g, 0, none⟩) n cap) (xs.set j s) := by
  have := erow_set encS_len h s hj
  rw [Nat.mul_one] at this
  exact this
theorem ERow.kp {α : Type} {w w' : World} {B k : Nat} {e : TypeId} {enc : α → List Value} {v : Value} {xs : List α} (h : ERow w B e k enc v xs) (hk : Kp w w') (he : ¬ LTy e) : ERow w' B e k enc v xs := ERow.keep h fun g hg => by
  obtain ⟨cs, hc⟩ := erow_type h hg
  rw [hc]
  exact hk.2 g cs e hc he
theorem nLB : ¬ LTy 5 := fun g => by rcases g with g | g | g | g | g <;> exact absurd g (by decide)
theorem nLE : ¬ LTy 30 := fun g => by rcases g with g | g | g | g | g <;> exact absurd g (by decide)
theorem nLS : ¬ LTy 9 := fun g => by rcases g with g | g | g | g | g <;> exact absurd g (by decide)
theorem Own.kp {w w' : World} {B : Nat} {e : Ent} (h : Own w B e) (hk : Kp w w') : Own w' B e := ⟨ERow.kp h.t hk nLB, ERow.kp h.c hk nLB, ERow.kp h.a hk nLB⟩
section
variable {W w w' : World} {X K n C D E : Nat} {bv mk ke rm L : Value} {o : Option (Int × Int)} {A A' : List Ent}
set_option maxRecDepth 100000 in
set_option maxHeartbeats 4000000 in
theorem take_any (h : LS W X K bv mk ke rm L C D E o A A' n w) (hn : n ≤ 900000) {p : Option Addr} {m c : Nat} {bs : List Int} (hb : Byts w p m bs) (hm : m ≤ 140737488355328) : Calls Tryz.prog 63 #[.pointer (some ⟨K, 0, none⟩), .slice p m c] w fun e w' => e = .returned (.tuple #[]) ∧ Hid (LQ W X K bv mk ke rm L C D E o A A' (n + 1) w w') := by
  obtain ⟨w1, hmk, hR, hB1⟩ := run_make_bytes (w := w) m hm
  have HI0 : Hid (∃ xs, xs.length = m ∧ BRow w1 w.heap.size (.slice (some ⟨w.heap.size, 0, none⟩) m m) xs ∧ Below w.heap.size w w1) := ⟨_, List.length_replicate, hR, hB1⟩
  have HH : Hid (LS W X K bv mk ke rm L C D E o A A' n w ∧ Byts w p m bs ∧ bs.length = m) := ⟨h, hb, hb.len⟩
  clear h hb hR hB1
  go_enter Tryz.func63, Tryz.ntmps63
  go_wp2_with fail
  clear hmk
  go_loopw [5] (fun ti wx => ∃ i : Nat, i ≤ m ∧ ti = .int .i64 i ∧ Hid (∃ xs, xs.length = m ∧ BRow wx w.heap.size (.slice (some ⟨w.heap.size, 0, none⟩) m m) xs ∧ Below w.heap.size w wx)) (fun ti _ => m - (intOf ti).toNat)
  case atStart => exact ⟨0, Nat.zero_le _, rfl, HI0⟩
  case round =>
    obtain ⟨i, hi, rfl, HI⟩ := hrel
    by_cases hlt : i < m
    · have hlt1 : (i : Int) < m := by omega
      obtain ⟨xs, hxl, hxr, hxb⟩ := HI.out
      obtain ⟨b, of_, hpo, _, hcell⟩ := (HH.out.2.1.below hxb).cell i (by have := HH.out.2.2; omega)
      subst hpo
      have k1 : wr.cell? ⟨w.heap.size, i, none⟩ = some (.int .u8 (xs.getD i 0)) := hxr.slot (by omega)
      have k2 := hxr.thaw i
      have HJ : Hid (∃ xs, xs.length = m ∧ BRow (wr.setCell ⟨w.heap.size, i, none⟩ (.int .u8 (bs.getD i 0))) w.heap.size (.slice (some ⟨w.heap.size, 0, none⟩) m m) xs ∧ Below w.heap.size w (wr.setCell ⟨w.heap.size, i, none⟩ (.int .u8 (bs.getD i 0)))) := ⟨xs.set i (bs.getD i 0), by rw [List.length_set]; exact hxl, hxr.stored i _ (by omega), hxb.setCell (Nat.le_refl _) _⟩
      clear hxl hxr hxb HI
      go_wp2_with fail
      go_roundw
      case rel => exact ⟨i + 1, hlt, by go_num, HJ⟩
      case measure => simp [intOf]; omega
    · have hlt1 : ¬ (i : Int) < m := by omega
      obtain ⟨xs, hxl, hxr, hxb⟩ := HI.out
      obtain ⟨v0, v1, a0, n0, c0, w2, a1, n1, c1, w4, k0, r1, k1, k2, k3, r2, k4, k5, R⟩ := ls_take (HH.out.1.below hxb) hn (p, m, c) (some ⟨w.heap.size, 0, none⟩, m, m)
      have HZ : Hid (LQ W X K bv mk ke rm L C D E o A A' (n + 1) w (w4.setCell ⟨K, 1, none⟩ (.slice a1 n1 c1))) := ⟨R.out.1, (Kp.of_below hxb).trans R.out.2⟩
      clear R HH HI hxl hxr hxb
      go_wp2_with (at_builtin; first | refine wpList_append_run rfl (.tmp 26) (.tmp 28) 48 _ rfl r1 ?_ | refine wpList_append_run rfl (.tmp 36) (.tmp 38) 48 _ rfl r2 ?_)
      go_end0
      exact ⟨rfl, HZ⟩
set_option maxRecDepth 100000 in
set_option maxHeartbeats 4000000 in
theorem texts_any (h : LS W X K bv mk ke rm L C D E o A A' n w) (hn : n ≤ 900000) {B : Nat} {p : Option Addr} {m c : Nat} {l : List ByteArray} (hb : TRow w B (.slice p m c) l) (hm : m ≤ 1000000) : Calls Tryz.prog 30 #[.pointer (some ⟨K, 0, none⟩), .slice p m c] w fun e w' => e = .returned (.tuple #[]) ∧ Hid (LQ W X K bv mk ke rm L C D E o A A' (n + 1) w w') := by
  obtain ⟨w1, hmk, hR, hB1⟩ := run_make_texts (w := w) m hm
  have HI0 : Hid (∃ xs, xs.length = m ∧ TRow w1 w.heap.size (.slice (some ⟨w.heap.size, 0, none⟩) m m) xs ∧ Below w.heap.size w w1) := ⟨_, List.length_replicate, hR, hB1⟩
  have HH : Hid (LS W X K bv mk ke rm L C D E o A A' n w ∧ TRow w B (.slice p m c) l) := ⟨h, hb⟩
  clear h hb hR hB1
  go_enter Tryz.func30, Tryz.ntmps30
  go_wp2_with fail
  clear hmk
  go_loopw [5] (fun ti wx => ∃ i : Nat, i ≤ m ∧ ti = .int .i64 i ∧ Hid (∃ xs, xs.length = m ∧ TRow wx w.heap.size (.slice (some ⟨w.heap.size, 0, none⟩) m m) xs ∧ Below w.heap.size w wx)) (fun ti _ => m - (intOf ti).toNat)
  case atStart => exact ⟨0, Nat.zero_le _, rfl, HI0⟩
  case round =>
    obtain ⟨i, hi, rfl, HI⟩ := hrel
    by_cases hlt : i < m
    · have hlt1 : (i : Int) < m := by omega
      obtain ⟨xs, hxl, hxr, hxb⟩ := HI.out
      obtain ⟨b, s, hpo, _, hcell⟩ := trow_at (ERow.below HH.out.2 hxb) hlt
      subst hpo
      obtain ⟨g0, s0, e0, _, k1⟩ := trow_at hxr hlt
      obtain rfl : w.heap.size = g0 := by simpa using e0
      have k2 := ERow.thaw hxr i
      have HJ : Hid (∃ xs, xs.length = m ∧ TRow (wr.setCell ⟨w.heap.size, i, none⟩ (.string s)) w.heap.size (.slice (some ⟨w.heap.size, 0, none⟩) m m) xs ∧ Below w.heap.size w (wr.setCell ⟨w.heap.size, i, none⟩ (.string s))) := ⟨xs.set i s, by rw [List.length_set]; exact hxl, hxr.stored i _ (by omega), hxb.setCell (Nat.le_refl _) _⟩
      clear hxl hxr hxb HI e0
      go_wp2_with fail
      go_roundw
      case rel => exact ⟨i + 1, hlt, by go_num, HJ⟩
      case measure => simp [intOf]; omega
    · have hlt1 : ¬ (i : Int) < m := by omega
      obtain ⟨xs, hxl, hxr, hxb⟩ := HI.out
      obtain ⟨v0, v1, a0, n0, c0, w2, a1, n1, c1, w4, k0, r1, k1, k2, k3, r2, k4, k5, R⟩ := ls_texts (HH.out.1.below hxb) hn (p, m, c) (some ⟨w.heap.size, 0, none⟩, m, m)
      have HZ : Hid (LQ W X K bv mk ke rm L C D E o A A' (n + 1) w (w4.setCell ⟨K, 5, none⟩ (.slice a1 n1 c1))) := ⟨R.out.1, (Kp.of_below hxb).trans R.out.2⟩
      clear R HH HI hxl hxr hxb
      go_wp2_with (at_builtin; first | refine wpList_append_run rfl (.tmp 26) (.tmp 28) 50 _ rfl r1 ?_ | refine wpList_append_run rfl (.tmp 36) (.tmp 38) 50 _ rfl r2 ?_)
      go_end0
      exact ⟨rfl, HZ⟩
end
end Go.Proofs.YtjbkfppibnlmoaaGreatDoor

/-
  The loose pair: take of an entry.
-/
namespace Go.Proofs.YtjbkfppibnlmoaaGreatDoor
open Go.RowKit

/-- An entry that may be taken: its lists are nobody's else, or came in. -/
def Tk (w : World) (e : Ent) : Prop := (∃ B, Own w B e) ∧ e.tn ≤ 140737488355328 ∧ e.cn ≤ 140737488355328 ∧ e.an ≤ 140737488355328
theorem Tk.below {w w' : World} {e : Ent} (h : Tk w e) (hb : Below w.heap.size w w') : Tk w' e := ⟨by obtain ⟨B, h1⟩ := h.1; exact ⟨B, h1.below hb⟩, h.2⟩
theorem Tk.kp {w w' : World} {e : Ent} (h : Tk w e) (hk : Kp w w') : Tk w' e := ⟨by obtain ⟨B, h1⟩ := h.1; exact ⟨B, h1.kp hk⟩, h.2⟩
section
variable {W w w' : World} {X K n C D E : Nat} {bv mk ke rm L : Value} {o : Option (Int × Int)} {A A' : List Ent}
set_option maxRecDepth 100000 in
set_option maxHeartbeats 4000000 in
theorem tk_any (h : LS W X K bv mk ke rm L C D E o A A' n w) (hn : n ≤ 800000) (e : Ent) (he : Tk w e) : Calls Tryz.prog 27 #[.pointer (some ⟨X, 0, none⟩), .agg #[.string e.ct, .slice e.tp e.tn e.tc, .int .i64 e.nu, .int .i64 e.tk, .slice e.cp e.cn e.cc, .string e.cd, .slice e.ap e.an e.ac]] w fun r w' => r = .returned (.tuple #[]) ∧ Hid (LQ W X K bv mk ke rm L C D E o A A' (n + 3) w w') := by
  obtain ⟨V, hV⟩ : ∃ V, w.alloc (.cells #[.string e.ct, .slice e.tp e.tn e.tc, .int .i64 e.nu, .int .i64 e.tk, .slice e.cp e.cn e.cc, .string e.cd, .slice e.ap e.an e.ac] 30) = V := ⟨_, rfl⟩
  have hb : Below w.heap.size w V := by rw [← hV]; exact (Below.refl _ _).alloc (Nat.le_refl _) _
  have hy : V.heap[w.heap.size]? = some (.cells #[.string e.ct, .slice e.tp e.tn e.tc, .int .i64 e.nu, .int .i64 e.tk, .slice e.cp e.cn e.cc, .string e.cd, .slice e.ap e.an e.ac] 30 (0, 0)) := by rw [← hV]; exact heap_alloc_new _ _
  have HV : Hid (LS W X K bv mk ke rm L C D E o A A' n V ∧ Below w.heap.size w V) := ⟨h.below hb, hb⟩
  have HY : Hid (∀ z, Kp V z → z.cell? ⟨w.heap.size, 1, none⟩ = some (.slice e.tp e.tn e.tc) ∧ z.cell? ⟨w.heap.size, 4, none⟩ = some (.slice e.cp e.cn e.cc) ∧ z.cell? ⟨w.heap.size, 6, none⟩ = some (.slice e.ap e.an e.ac)) := fun z hz => by
    have := hz.2 _ _ _ hy nLE
    exact ⟨hcell this 1, hcell this 4, hcell this 6⟩
  have HT : Hid (∀ (v1 : World) (m : Nat) (p : Option Addr) (q c : Nat) (bs : List Int), m ≤ 800002 → q ≤ 140737488355328 → (∀ z, Kp V z → Byts z p q bs) → LQ W X K bv mk ke rm L C D E o A A' m V v1 → ∀ z, Below v1.heap.size v1 z → Calls Tryz.prog 63 #[.pointer (some ⟨K, 0, none⟩), .slice p q c] z fun e w' => e = .returned (.tuple #[]) ∧ Hid (LQ W X K bv mk ke rm L C D E o A A' (m + 1) V w')) := fun v1 m p q c bs hm hql hby hq z hz =>
    (take_any (hq.1.below hz) (by omega) (c := c) (hby z (hq.2.trans (Kp.of_below hz))) hql).mono fun e w' ⟨e1, e2⟩ => ⟨e1, e2.out.1, hq.2.trans ((Kp.of_below hz).trans e2.out.2)⟩
  have HW : Hid (∀ z, Kp V z → Byts z e.tp e.tn e.tx ∧ Byts z e.cp e.cn e.cx ∧ Byts z e.ap e.an e.ax) := fun z hz => by
    obtain ⟨B, h1⟩ := ((he.below hb).kp hz).1
    exact ⟨h1.t.byts, h1.c.byts, h1.a.byts⟩
  have HT1 : Hid (∀ z, Below V.heap.size V z → Calls Tryz.prog 63 #[.pointer (some ⟨K, 0, none⟩), .slice e.tp e.tn e.tc] z fun e w' => e = .returned (.tuple #[]) ∧ Hid (LQ W X K bv mk ke rm L C D E o A A' (n + 1) V w')) := HT.out V n e.tp e.tn e.tc e.tx (by omega) he.2.1 (fun z hz => (HW.out z hz).1) ⟨HV.out.1, Nat.le_refl _, fun _ _ _ h _ => h⟩
  have HT2 : Hid (∀ v1, LQ W X K bv mk ke rm L C D E o A A' (n + 1) V v1 → ∀ z, Below v1.heap.size v1 z → Calls Tryz.prog 63 #[.pointer (some ⟨K, 0, none⟩), .slice e.cp e.cn e.cc] z fun e w' => e = .returned (.tuple #[]) ∧ Hid (LQ W X K bv mk ke rm L C D E o A A' (n + 2) V w')) := fun v1 => HT.out v1 (n + 1) e.cp e.cn e.cc e.cx (by omega) he.2.2.1 (fun z hz => (HW.out z hz).2.1)
  have HT3 : Hid (∀ v1, LQ W X K bv mk ke rm L C D E o A A' (n + 2) V v1 → ∀ z, Below v1.heap.size v1 z → Calls Tryz.prog 63 #[.pointer (some ⟨K, 0, none⟩), .slice e.ap e.an e.ac] z fun e w' => e = .returned (.tuple #[]) ∧ Hid (LQ W X K bv mk ke rm L C D E o A A' (n + 3) V w')) := fun v1 => HT.out v1 (n + 2) e.ap e.an e.ac e.ax (by omega) he.2.2.2 (fun z hz => (HW.out z hz).2.2)
  have HD : Hid (∀ {m : Nat} {z : World} (k : Nat), LQ W X K bv mk ke rm L C D E o A A' m V z → LQ W X K bv mk ke rm L C D E o A A' m V (z.drewN k)) := fun {m z} k hq => ⟨hq.1.below (below_drewN (Below.refl _ _) k), hq.2.trans (Kp.of_below (below_drewN (Below.refl _ _) k))⟩
  have hc0 := HV.out.1.cells
  have x5 := hc0.2.2.2.1
  have lx := hc0.2.2.2.2
  have y1 := (HY.out V ⟨Nat.le_refl _, fun _ _ _ h _ => h⟩).1
  have ly := cell_lt y1
  clear h hb hy hc0 HT HW he
  go_enter Tryz.func27, Tryz.ntmps27
  go_upto_region 1 with fail
  clear hV
  go_cut [] (fun wx => Hid (LQ W X K bv mk ke rm L C D E o A A' (n + 1) V wx))
  case first =>
    clear HY HV HT2 HT3
    go_region_law (go_simp; go_at_call 63; refine (HT1.out _ ?_).mono ?_; (first | exact Below.refl _ _ | exact Below.drew (Below.refl _ _)); rintro _ w1 ⟨rfl, H1⟩)
    all_goals
      go_wp2_with fail
      go_meet
      first | exact H1 | exact HD.out 1 H1.out
  case rest =>
    have H1 := hcut
    clear hcut x5 lx y1 ly HT1
    have hc1 := H1.out.1.cells
    have x5 := hc1.2.2.2.1
    have lx := hc1.2.2.2.2
    have y4 := (HY.out _ H1.out.2).2.1
    have ly := cell_lt y4
    clear hc1
    go_upto_region 2 with fail
    go_cut [] (fun wx => Hid (LQ W X K bv mk ke rm L C D E o A A' (n + 2) V wx))
    case first =>
      clear HY HV HT3
      go_region_law (go_simp; go_at_call 63; refine (HT2.out _ H1.out _ ?_).mono ?_; (first | exact Below.refl _ _ | exact Below.drew (Below.refl _ _)); rintro _ w2 ⟨rfl, H2⟩)
      all_goals
        go_wp2_with fail
        go_meet
        first | exact H2 | exact HD.out 1 H2.out
    case rest =>
      have H2 := hcut
      clear hcut x5 lx y4 ly H1 HT2
      have hc2 := H2.out.1.cells
      have x5 := hc2.2.2.2.1
      have lx := hc2.2.2.2.2
      have y6 := (HY.out _ H2.out.2).2.2
      have ly := cell_lt y6
      clear hc2
      go_wp2_with fail
      go_region_law (go_simp; go_at_call 63; refine (HT3.out _ H2.out _ ?_).mono ?_; (first | exact Below.refl _ _ | exact Below.drew (Below.refl _ _)); rintro _ w3 ⟨rfl, H3⟩)
      all_goals
        have H9 : Hid (∀ k, LQ W X K bv mk ke rm L C D E o A A' (n + 3) w (w3.drewN k)) := fun k => ⟨(HD.out k H3.out).1, (Kp.of_below HV.out.2).trans (HD.out k H3.out).2⟩
        have H8 : Hid (LQ W X K bv mk ke rm L C D E o A A' (n + 3) w w3) := ⟨H3.out.1, (Kp.of_below HV.out.2).trans H3.out.2⟩
        go_wp2_with fail
        go_end0
        first | exact ⟨rfl, H8⟩ | exact ⟨rfl, H9.out 1⟩ | exact ⟨rfl, H9.out _⟩
end
end Go.Proofs.YtjbkfppibnlmoaaGreatDoor
