/-
  The five marks: of, Five, wrong, both Valid.
-/
import Derived.Test.YtkpebmhokdckfaaDoorEsLeaf
import Derived.LoopTactic
import Derived.Laws.Cells
import Derived.Lib.Strings
import Derived.Laws.RangeString
namespace Go.Proofs.YtkpebmhokdckfaaDoor
open Go.RowKit

theorem cell_new (w : World) (cs : Array Value) (t : TypeId) (fr : Nat × Nat) (j : Nat) : (w.alloc (.cells cs t fr)).cell? ⟨w.heap.size, j, none⟩ = cs[j]? := by
  have hb : (w.alloc (.cells cs t fr)).heap[w.heap.size]? = some (.cells cs t fr) := by show (w.heap.push _)[w.heap.size]? = _; simp
  unfold World.cell?
  rw [hb]
  rfl
theorem conv5 (w : World) (n : Nat) (hn : w.heap.size = n) (m : Mk) (t : TypeId) (ht : Tryd.prog.underlying t = some .string) : (convert 42 t (.slice (some ⟨n, 0, none⟩) 5 5)).run Tryd.prog (w.alloc (.cells #[.int .u8 (m.f.toNat : Int), .int .u8 (m.c.toNat : Int), .int .u8 (m.r.toNat : Int), .int .u8 (m.x.toNat : Int), .int .u8 (m.s.toNat : Int)] 5)) = .ok (.string m.str) (w.alloc (.cells #[.int .u8 (m.f.toNat : Int), .int .u8 (m.c.toNat : Int), .int .u8 (m.r.toNat : Int), .int .u8 (m.x.toNat : Int), .int .u8 (m.s.toNat : Int)] 5)) := by
  subst hn
  rw [run_convert_bytes_string _ _ _ _ _ _ _ Tryd.underlying42 Tryd.underlying5 ht]
  have hl := run_loadCells_list (P := Tryd.prog) (w := w.alloc (.cells #[.int .u8 (m.f.toNat : Int), .int .u8 (m.c.toNat : Int), .int .u8 (m.r.toNat : Int), .int .u8 (m.x.toNat : Int), .int .u8 (m.s.toNat : Int)] 5)) ⟨w.heap.size, 0, none⟩ ([(m.f.toNat : Int), m.c.toNat, m.r.toNat, m.x.toNat, m.s.toNat].map (Value.int .u8)) (fun j v hv => by
    rw [Addr.add_lit, Nat.zero_add, cell_new]
    rw [← hv]; simp)
  have := run_bytesToString (P := Tryd.prog) (w.alloc (.cells #[.int .u8 (m.f.toNat : Int), .int .u8 (m.c.toNat : Int), .int .u8 (m.r.toNat : Int), .int .u8 (m.x.toNat : Int), .int .u8 (m.s.toNat : Int)] 5)) ⟨w.heap.size, 0, none⟩ 5 5 [(m.f.toNat : Int), m.c.toNat, m.r.toNat, m.x.toNat, m.s.toNat] hl
  rw [this]
  simp [Mk.str, ByteArray.empty, ByteArray.push, ByteArray.emptyWithCapacity]
  rfl
set_option maxHeartbeats 1000000 in
theorem of_any (m : Mk) (w : World) : Calls Tryd.prog 9 #[.agg #[.int .u8 (m.f.toNat : Int), .int .u8 (m.c.toNat : Int), .int .u8 (m.r.toNat : Int), .int .u8 (m.x.toNat : Int), .int .u8 (m.s.toNat : Int)]] w fun e w' => e = .returned (.string m.str) ∧ Below w.heap.size w w' := by
  have hc : ∀ w : World, (convert 42 35 (.slice (some ⟨w.heap.size + 1, 0, none⟩) 5 5)).run Tryd.prog ((w.alloc (.cells #[.int .u8 (m.f.toNat : Int), .int .u8 (m.c.toNat : Int), .int .u8 (m.r.toNat : Int), .int .u8 (m.x.toNat : Int), .int .u8 (m.s.toNat : Int)] 23)).alloc (.cells #[.int .u8 (m.f.toNat : Int), .int .u8 (m.c.toNat : Int), .int .u8 (m.r.toNat : Int), .int .u8 (m.x.toNat : Int), .int .u8 (m.s.toNat : Int)] 5)) = .ok (.string m.str) ((w.alloc (.cells #[.int .u8 (m.f.toNat : Int), .int .u8 (m.c.toNat : Int), .int .u8 (m.r.toNat : Int), .int .u8 (m.x.toNat : Int), .int .u8 (m.s.toNat : Int)] 23)).alloc (.cells #[.int .u8 (m.f.toNat : Int), .int .u8 (m.c.toNat : Int), .int .u8 (m.r.toNat : Int), .int .u8 (m.x.toNat : Int), .int .u8 (m.s.toNat : Int)] 5)) := fun w => conv5 _ _ (by simp) m _ Tryd.underlying35
  go_enter Tryd.func9, Tryd.ntmps9
  go_wp2
  go_ret
  exact ⟨rfl, ((Below.refl _ _).alloc (Nat.le_refl _) _).alloc (by simp) _⟩
set_option maxHeartbeats 1000000 in
theorem Five_any (m : Mk) (w : World) : Calls Tryd.prog 21 #[.agg #[.int .u8 (m.f.toNat : Int), .int .u8 (m.c.toNat : Int), .int .u8 (m.r.toNat : Int), .int .u8 (m.x.toNat : Int), .int .u8 (m.s.toNat : Int)]] w fun e w' => e = .returned (.agg #[.int .u8 (m.f.toNat : Int), .int .u8 (m.c.toNat : Int), .int .u8 (m.r.toNat : Int), .int .u8 (m.x.toNat : Int), .int .u8 (m.s.toNat : Int)]) ∧ Below w.heap.size w w' := by
  go_enter Tryd.func21, Tryd.ntmps21
  go_wp2
  refine bodyPost_ret (v := .agg #[.int .u8 (m.f.toNat : Int), .int .u8 (m.c.toNat : Int), .int .u8 (m.r.toNat : Int), .int .u8 (m.x.toNat : Int), .int .u8 (m.s.toNat : Int)]) (by simp [results, Tryd.results21, go_sem]) rfl ⟨rfl, ?_⟩
  first | exact ((Below.refl _ _).alloc (Nat.le_refl _) _).alloc (by simp) _ | exact (Below.refl _ _).alloc (Nat.le_refl _) _

theorem get_bt {s : ByteArray} {p : Nat} (h : p < s.size) : (s.data.toList.getD p 0) = s[p] := by
  rw [List.getD_eq_getElem?_getD, List.getElem?_eq_getElem (by simpa using h)]; rfl
theorem take_extract (s : ByteArray) (p : Nat) : (s.extract 0 p).data.toList = s.data.toList.take p := by
  rw [Lib.extract_data]; simp
theorem badAt_no {s : ByteArray} {p : Nat} (h : markI (bt s p) = false) : badAt s.data.toList p = true := by
  unfold badAt; unfold bt at h; rw [h]; rfl
theorem badAt_in {s : ByteArray} {p : Nat} {b : Bool} (h : markI (bt s p) = true) (g : inB (s.extract 0 p).data.toList (bt s p) = b) : badAt s.data.toList p = b := by
  unfold badAt; rw [← g]; unfold bt at h ⊢; rw [h, inB_toNat, take_extract]; rfl
theorem markI_high {r : Nat} (h : 128 ≤ r) : markI r = false := by
  cases hm : markI r with
  | false => rfl
  | true => have := markI_low hm; omega
set_option maxRecDepth 100000 in
set_option maxHeartbeats 2000000 in
theorem wrong_any (s : ByteArray) (w : World) : Calls Tryd.prog 14 #[.string s] w fun e w' => (∃ n : Nat, e = .returned (.int .i64 n) ∧ Hid (Wrong s.data.toList s.size n)) ∧ Below w.heap.size w w' := by
  go_enter Tryd.func14, Tryd.ntmps14
  go_wp2_with fail
  go_loopw [3] (fun _ wx => ∃ p : Nat, p ≤ s.size ∧ wx = w.iter s p ∧ Hid (∀ j, j < p → badAt s.data.toList j = false)) (fun _ wx => s.size - wx.iterPos w.heap.size)
  case atStart => exact ⟨0, Nat.zero_le _, rfl, fun _ h => absurd h (by omega)⟩
  case round =>
    obtain ⟨p, hp, rfl, HI⟩ := hrel
    by_cases hlt : p < s.size
    · have hpz : (p : Int) ≤ s.size := by omega
      have hbb : Below w.heap.size w (w.iter s (p + 1)) := (Below.refl _ _).alloc (Nat.le_refl _) _
      rcases Nat.lt_or_ge (bt s p) 128 with hb | hb
      · obtain ⟨h1, h2⟩ := rn_low hlt hb
        have hnx : ∀ ty, (Instr.next (.pointer (some ⟨w.heap.size, 0, none⟩)) true ty).run Tryd.prog (w.iter s p) = .ok (.tuple #[.bool true, .int .i64 p, .int .i32 (bt s p)]) (w.iter s (p + 1)) := fun ty => by
          rw [run_next_any w s p ty hlt]; unfold rn at h1; unfold wd at h2; rw [h1, h2]
        clear h1 h2
        cases hm : markI (bt s p) with
        | false =>
          have HB : Hid (badAt s.data.toList p = true) := badAt_no hm
          have hc : ∀ w, Calls Tryd.prog 27 #[.int .i32 (bt s p)] w fun e w' => e = .returned (.bool false) ∧ w' = w := fun w => by have := isMark_any (bt s p) w; rw [hm] at this; exact this
          clear hm
          go_wp2_with (go_at_call 27; refine (hc _).mono ?_; rintro e w' ⟨rfl, rfl⟩)
          go_ret
          exact ⟨⟨p, rfl, by omega, HI.out, fun _ => HB.out⟩, hbb⟩
        | true =>
          have hc : ∀ w, Calls Tryd.prog 27 #[.int .i32 (bt s p)] w fun e w' => e = .returned (.bool true) ∧ w' = w := fun w => by have := isMark_any (bt s p) w; rw [hm] at this; exact this
          obtain ⟨q, hq⟩ : ∃ q, inB (s.extract 0 p).data.toList (bt s p) = q := ⟨_, rfl⟩
          have hh : ∀ w, Calls Tryd.prog 28 #[.string (s.extract 0 p), .int .i32 (bt s p)] w fun e w' => e = .returned (.bool q) ∧ w' = w := fun w => by have := has_low (s.extract 0 p) (bt s p) w (by omega) (by omega); rw [hq] at this; exact this
          have HB : Hid (badAt s.data.toList p = q) := badAt_in hm hq
          clear hm hq
          cases q with
          | true =>
            go_wp2_with (first | (go_at_call 27; refine (hc _).mono ?_; rintro e w' ⟨rfl, rfl⟩) | (go_at_call 28; refine (hh _).mono ?_; rintro e w' ⟨rfl, rfl⟩))
            go_ret
            exact ⟨⟨p, rfl, by omega, HI.out, fun _ => HB.out⟩, hbb⟩
          | false =>
            go_wp2_with (first | (go_at_call 27; refine (hc _).mono ?_; rintro e w' ⟨rfl, rfl⟩) | (go_at_call 28; refine (hh _).mono ?_; rintro e w' ⟨rfl, rfl⟩))
            go_roundw
            case rel =>
              refine ⟨p + 1, by omega, rfl, fun j hj => ?_⟩
              rcases Nat.lt_or_ge j p with g | g
              · exact HI.out j g
              · obtain rfl : j = p := by omega
                exact HB.out
            case measure => simp; omega
      · obtain ⟨h1, h2⟩ := rn_high hlt hb
        obtain ⟨R, hR⟩ : ∃ R : Nat, rn s p = R := ⟨_, rfl⟩
        obtain ⟨d, hd⟩ : ∃ d : Nat, wd s p = d := ⟨_, rfl⟩
        have hnx : ∀ ty, (Instr.next (.pointer (some ⟨w.heap.size, 0, none⟩)) true ty).run Tryd.prog (w.iter s p) = .ok (.tuple #[.bool true, .int .i64 p, .int .i32 R]) (w.iter s (p + d)) := fun ty => by
          rw [run_next_any w s p ty hlt]; unfold rn at hR; unfold wd at hd; rw [hR, hd]
        have hc : ∀ w, Calls Tryd.prog 27 #[.int .i32 R] w fun e w' => e = .returned (.bool false) ∧ w' = w := fun w => by have := isMark_any R w; rw [markI_high (by omega)] at this; exact this
        have HB : Hid (badAt s.data.toList p = true) := badAt_no (markI_high hb)
        have hbd : Below w.heap.size w (w.iter s (p + d)) := (Below.refl _ _).alloc (Nat.le_refl _) _
        clear hR hd h1 h2 hbb
        go_wp2_with (go_at_call 27; refine (hc _).mono ?_; rintro e w' ⟨rfl, rfl⟩)
        go_ret
        exact ⟨⟨p, rfl, by omega, HI.out, fun _ => HB.out⟩, hbd⟩
    · have hnx : ∀ ty, (Instr.next (.pointer (some ⟨w.heap.size, 0, none⟩)) true ty).run Tryd.prog (w.iter s p) = .ok (.tuple #[.bool false]) (w.iter s p) := fun ty => run_next_end w s p ty hlt
      obtain rfl : p = s.size := by omega
      go_wp2_with fail
      go_ret
      exact ⟨⟨s.size, rfl, by omega, HI.out, fun h => absurd h (by omega)⟩, (Below.refl _ _).alloc (Nat.le_refl _) _⟩
end Go.Proofs.YtkpebmhokdckfaaDoor
