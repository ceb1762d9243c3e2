/-
  stamp.Time.
-/
import Derived.Test.YtbbemeibmgfacaaDoorRdTime
namespace Go.Proofs.YtbbemeibmgfacaaDoor
open Go.RowKit

theorem rdr_new {w : World} {s : ByteArray} (hs : s.size ≤ maxLen) : Rdr (w.alloc (.cells #[.string s, .int .i64 0, .nilIface] 56)) w.heap.size s 0 none .nilIface :=
  ⟨by simp, by simp, by simp, rfl, by simp, by simp, Nat.zero_le _, hs⟩
theorem cs_new {w : World} {s : ByteArray} (hs : s.size ≤ maxLen) : CS ((w.alloc (.cells #[.string s, .int .i64 0, .nilIface] 56)).alloc (.cells #[.int .i64 0, .int .i64 0, .int .i64 0, .int .i64 0, .int .i64 0, .int .i64 0, .int .i64 0, .int .i64 0, .int .i64 0, .bool false, .int .i64 0] 31)) ((w.alloc (.cells #[.string s, .int .i64 0, .nilIface] 56)).alloc (.cells #[.int .i64 0, .int .i64 0, .int .i64 0, .int .i64 0, .int .i64 0, .int .i64 0, .int .i64 0, .int .i64 0, .int .i64 0, .bool false, .int .i64 0] 31)) w.heap.size (w.heap.size + 1) s 0 none 0 0 0 0 0 0 :=
  ⟨⟨_, (rdr_new hs).alloc _⟩, ⟨by simp, by simp, by simp, by simp, by simp, by simp, fun o _ => by simp⟩, ⟨fun _ _ => rfl, fun _ => rfl⟩, Off.refl _ _⟩
set_option maxHeartbeats 1000000 in
theorem Time_any (s : ByteArray) (w : World) (hs : s.size ≤ maxLen) :
    Calls Tryd.prog 11 #[.string s] w fun e w' => ∃ v, e = .returned v ∧ ErrAt w' w.heap.size v (timeE s) ∧ Below w.heap.size w w' := by
  have HC : Hid (CS ((w.alloc (.cells #[.string s, .int .i64 0, .nilIface] 56)).alloc (.cells #[.int .i64 0, .int .i64 0, .int .i64 0, .int .i64 0, .int .i64 0, .int .i64 0, .int .i64 0, .int .i64 0, .int .i64 0, .bool false, .int .i64 0] 31)) ((w.alloc (.cells #[.string s, .int .i64 0, .nilIface] 56)).alloc (.cells #[.int .i64 0, .int .i64 0, .int .i64 0, .int .i64 0, .int .i64 0, .int .i64 0, .int .i64 0, .int .i64 0, .int .i64 0, .bool false, .int .i64 0] 31)) w.heap.size (w.heap.size + 1) s 0 none 0 0 0 0 0 0) := cs_new hs
  obtain ⟨⟨lv, h, mi, sc, p, dg, a1, b1⟩, hx⟩ : ∃ x, clockS s 0 none = x := ⟨_, rfl⟩
  have HX : Hid (clockS s 0 none = (lv, h, mi, sc, p, dg, a1, b1)) := hx
  have HE : Hid (timeE s = endB s (zoneS s a1 b1).2.2.1 (zoneS s a1 b1).2.2.2) := by unfold timeE Hid; simp only [hx]
  clear hs hx
  go_enter Tryd.func11, Tryd.ntmps11
  go_wp2_with fail
  refine (clock_any _ (by omega) HC.out HX.out).mono ?_
  rintro e w1 ⟨rfl, c1⟩
  have HC1 : Hid (CS ((w.alloc (.cells #[.string s, .int .i64 0, .nilIface] 56)).alloc (.cells #[.int .i64 0, .int .i64 0, .int .i64 0, .int .i64 0, .int .i64 0, .int .i64 0, .int .i64 0, .int .i64 0, .int .i64 0, .bool false, .int .i64 0] 31)) w1 w.heap.size (w.heap.size + 1) s a1 b1 lv h mi sc p dg) := c1
  clear c1
  go_wp2_with fail
  obtain ⟨v1, r1⟩ := HC1.out.rdr
  refine (zone_any _ r1 (by omega) HC1.out.clk.k0 (by rw [HC1.out.kk.cell 9 (by omega)]; simp) (by rw [HC1.out.kk.cell 10 (by omega)]; simp) (by rw [HC1.out.kk.fr]; simp) (by rw [HC1.out.kk.fr]; simp)).mono ?_
  rintro e w2 ⟨rfl, ⟨v2, r2⟩, _, _, _, o2⟩
  have HR2 : Hid (Rdr w2 w.heap.size s (zoneS s a1 b1).2.2.1 (zoneS s a1 b1).2.2.2 v2) := r2
  have HO2 : Hid (Off (RK w.heap.size (w.heap.size + 1)) ((w.alloc (.cells #[.string s, .int .i64 0, .nilIface] 56)).alloc (.cells #[.int .i64 0, .int .i64 0, .int .i64 0, .int .i64 0, .int .i64 0, .int .i64 0, .int .i64 0, .int .i64 0, .int .i64 0, .bool false, .int .i64 0] 31)) w2) := HC1.out.off.trans o2
  clear r1 r2 o2
  go_wp2_with fail
  refine (end_any _ HR2.out).mono ?_
  rintro e w3 ⟨v3, rfl, r3, o3⟩
  have HR3 : Hid (Rdr w3 w.heap.size s (zoneS s a1 b1).2.2.1 (endB s (zoneS s a1 b1).2.2.1 (zoneS s a1 b1).2.2.2) v3) := r3
  have HO3 : Hid (Off (RK w.heap.size (w.heap.size + 1)) ((w.alloc (.cells #[.string s, .int .i64 0, .nilIface] 56)).alloc (.cells #[.int .i64 0, .int .i64 0, .int .i64 0, .int .i64 0, .int .i64 0, .int .i64 0, .int .i64 0, .int .i64 0, .int .i64 0, .bool false, .int .i64 0] 31)) w3) := HO2.out.trans (o3.mono fun _ g => Or.inl g)
  clear r3 o3
  go_wp2_with fail
  go_ret
  exact ⟨v3, rfl, by rw [HE.out]; exact HR3.out.held, ((below_box w _).alloc (by simp) _).trans (HO3.out.below (B := w.heap.size) (by simp; omega) (by rintro k (rfl | rfl) <;> omega))⟩
end Go.Proofs.YtbbemeibmgfacaaDoor
