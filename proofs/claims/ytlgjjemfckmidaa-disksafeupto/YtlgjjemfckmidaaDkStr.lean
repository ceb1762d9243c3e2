/-
  Bytes as a string; the law's begins.
-/
import Derived.Test.YtlgjjemfckmidaaDkImage
import Derived.Test.YtlgjjemfckmidaaDiskZero
import Derived.Laws.BytesString
import Derived.Lib.SlBytesConst
namespace Go.Proofs.Ytlgjjemfckmidaa
open Go.RowKit

def strOf (xs : List Int) : ByteArray := xs.foldl (fun r n => r.push (UInt8.ofNat n.toNat)) ByteArray.empty
theorem Byts.load {P : Program} {w : World} {a : Addr} {n : Nat} {bs : List Int} (h : Byts w (some a) n bs) : (loadCells a n).run P w = .ok (bs.map (Value.int .u8)).toArray w := by
  have hm := h.len
  have := run_loadCells_list (P := P) w a (bs.map (Value.int .u8)) (fun j u hu => by
    obtain ⟨hj, rfl⟩ := u8s_get (xs := bs) hu
    obtain ⟨b, o, e, _, hc⟩ := h.cell j (by omega)
    obtain rfl : a = ⟨b, o, none⟩ := by simpa using e
    rw [Addr.add_lit]; exact hc)
  rwa [List.length_map, hm] at this
theorem run_conv_bytes {w : World} {po : Option Addr} {m : Nat} {bs : List Int} (h : Byts w po m bs) (c : Nat) : (convert 25 9 (.slice po m c)).run Try.prog w = .ok (.string (strOf bs)) w := by
  rw [run_convert_bytes_string w _ _ _ _ _ _ Try.underlying25 Try.underlying5 Try.underlying9]
  cases po with
  | none =>
    have m0 : m = 0 := by
      rcases Nat.eq_zero_or_pos m with g | g
      · exact g
      · obtain ⟨_, _, e, _⟩ := h.cell 0 g; cases e
    obtain rfl : bs = [] := List.eq_nil_of_length_eq_zero (by rw [h.len]; exact m0)
    simp [Conv.bytesToString, strOf, Sem.run_pure]
  | some a => exact run_bytesToString w _ _ _ _ h.load
theorem Byts.take {w : World} {po : Option Addr} {n m : Nat} {bs : List Int} (h : Byts w po n bs) (hm : m ≤ n) : Byts w po m (bs.take m) :=
  ⟨by rw [List.length_take, h.len]; omega, fun j hj => by
    obtain ⟨b, o, e, hl, hc⟩ := h.cell j (by omega)
    refine ⟨b, o, e, hl, ?_⟩
    rw [hc]
    simp [List.getD_eq_getElem?_getD, hj]⟩
theorem Byts.drew {w : World} {po : Option Addr} {n : Nat} {bs : List Int} (h : Byts w po n bs) (k : Nat) : Byts (w.drewN k) po n bs := h.off (P := fun _ => False) ((Off.refl _ _).drewN _) (fun _ _ _ => id)
set_option maxRecDepth 100000 in
set_option maxHeartbeats 1000000 in
theorem begins_true {w : World} {lo po : Option Addr} {ln lc pn pc : Nat} {xs ys : List Int} (hl : Byts w lo ln xs) (hlc : ln ≤ lc) (hlm : lc ≤ maxLen) (hlo : lo = none → lc = 0) (hp : Byts w po pn ys) (hpre : ys.length ≤ xs.length ∧ xs.take ys.length = ys) :
    Calls Try.prog 13 #[.slice lo ln lc, .slice po pn pc] w fun e w' => e = .returned (.bool true) ∧ ∃ n, w' = w.drewN n := by
  have h1 : (pn : Int) ≤ ln := by rw [← hl.len, ← hp.len]; omega
  have h2 : (ln : Int) ≤ lc := by omega
  unfold maxLen at hlm
  have r1 : ∀ k c, (convert 25 9 (.slice lo pn c)).run Try.prog (w.drewN k) = .ok (.string (strOf ys)) (w.drewN k) := fun k c => by
    have := run_conv_bytes ((hl.take (m := pn) (by omega)).drew k) c
    have e : xs.take pn = ys := by rw [← hp.len]; exact hpre.2
    rw [e] at this; exact this
  have r2 : ∀ k c, (convert 25 9 (.slice po pn c)).run Try.prog (w.drewN k) = .ok (.string (strOf ys)) (w.drewN k) := fun k c => run_conv_bytes (hp.drew k) c
  have r10 := r1 0
  have r20 := r2 0
  simp only [World.drewN_zero] at r10 r20
  clear hl hp hpre hlc
  cases lo with
  | none =>
    obtain rfl := hlo rfl
    obtain rfl : ln = 0 := by omega
    obtain rfl : pn = 0 := by omega
    go_enter Try.func13, Try.ntmps13
    go_wp2_with fail
    go_quiet (fail)
    go_wp2
    go_ret
    exact ⟨rfl, _, rfl⟩
  | some a =>
    clear hlo
    go_enter Try.func13, Try.ntmps13
    go_wp2_with fail
    go_quiet (fail)
    go_wp2
    go_ret
    exact ⟨rfl, _, rfl⟩
theorem cell_new (w : World) (cs : Array Value) (t : TypeId) (fr : Nat × Nat) (j : Nat) : (w.alloc (.cells cs t fr)).cell? ⟨w.heap.size, j, none⟩ = cs[j]? := by
  have hb : (w.alloc (.cells cs t fr)).heap[w.heap.size]? = some (.cells cs t fr) := by show (w.heap.push _)[w.heap.size]? = _; simp
  unfold World.cell?
  rw [hb]
  rfl
theorem lit3 {w : World} {n : Nat} (hn : w.heap.size = n) {a b c : Int} : Byts (w.alloc (.cells #[.int .u8 a, .int .u8 b, .int .u8 c] 5 (3, 4))) (some ⟨n, 0, none⟩) 3 [a, b, c] := by
  subst hn
  refine ⟨rfl, fun j hj => ⟨w.heap.size, 0, rfl, by simp, ?_⟩⟩
  match j, hj with
  | 0, _ => rw [cell_new]; rfl
  | 1, _ => rw [cell_new]; rfl
  | 2, _ => rw [cell_new]; rfl
theorem lit4 {w : World} {n : Nat} (hn : w.heap.size = n) {a b c d : Int} : Byts (w.alloc (.cells #[.int .u8 a, .int .u8 b, .int .u8 c, .int .u8 d] 5 (4, 5))) (some ⟨n, 0, none⟩) 4 [a, b, c, d] := by
  subst hn
  refine ⟨rfl, fun j hj => ⟨w.heap.size, 0, rfl, by simp, ?_⟩⟩
  match j, hj with
  | 0, _ => rw [cell_new]; rfl
  | 1, _ => rw [cell_new]; rfl
  | 2, _ => rw [cell_new]; rfl
  | 3, _ => rw [cell_new]; rfl
set_option maxRecDepth 100000 in
set_option maxHeartbeats 4000000 in
theorem heads_true (w : World) : Calls Try.prog 7 #[] w fun e w' => e = .returned (.bool true) ∧ Below w.heap.size w w' := by
  go_enter Try.func7, Try.ntmps7
  go_wp2_with fail
  refine (New_any _).mono ?_
  rintro e w1 ⟨rfl, hw1⟩
  have H1 : Hid (Dsk w1 w.heap.size w.heap.size (.slice none 0 0) (.slice none 0 0) [] [] 0 0 1 (-1) 0 0 0) := by unfold Hid; rw [hw1]; exact dsk_new w
  have HB1 : Hid (Below w.heap.size w w1) := by unfold Hid; rw [hw1]; exact (Below.refl _ _).alloc (Nat.le_refl _) _
  have hs1 : w1.heap.size = w.heap.size + 1 := by rw [hw1]; simp
  clear hw1
  have hcv : (convert 25 25 (.slice (some ⟨w.heap.size + 1, 0, none⟩) 3 3)).run Try.prog (w1.alloc (.cells #[.int .u8 97, .int .u8 98, .int .u8 99] 5)) = .ok (.slice (some ⟨w.heap.size + 1, 0, none⟩) 3 3) (w1.alloc (.cells #[.int .u8 97, .int .u8 98, .int .u8 99] 5 (3, 4))) := by
    have := Lib.run_convert_bytes_const (P := Try.prog) w1 25 5 #[.int .u8 97, .int .u8 98, .int .u8 99] 3 3 Try.underlying25 Try.underlying5
    rwa [hs1] at this
  go_wp2_with fail
  have HL1 := lit3 (w := w1) hs1 (a := 97) (b := 98) (c := 99)
  have H1' : Hid (Dsk (w1.alloc (.cells #[.int .u8 97, .int .u8 98, .int .u8 99] 5 (3, 4))) w.heap.size w.heap.size (.slice none 0 0) (.slice none 0 0) [] [] 0 0 1 (-1) 0 0 0) := H1.out.off (P := fun _ => False) ((Off.refl _ _).alloc _) (fun _ _ => id)
  refine (Append0_ok HL1 (fun e => by cases e) (fun b o e g => by simp only [Option.some.injEq, Addr.mk.injEq] at e; have := (H1.out.foot_lt g).2; omega) H1'.out (by decide) (by decide)).mono ?_
  rintro e w2 ⟨rfl, u0, d2, t2⟩
  have H2 : Hid (Dsk w2 w.heap.size w.heap.size u0 (.slice none 0 0) [97, 98, 99] [] 0 0 1 (-1) 1 0 0) := d2
  have HB2 : Hid (Below w.heap.size w w2) := (HB1.out.alloc HB1.out.size _).trans (t2.off.below (by simp; omega) (fun k g => (H1'.out.foot_lt g).1))
  clear d2 t2 HL1 H1'
  go_wp2_with fail
  refine (Sync0_ok H2.out (by decide)).mono ?_
  rintro e w3 ⟨rfl, d3, t3⟩
  have H3 : Hid (Dsk w3 w.heap.size w.heap.size u0 (.slice none 0 0) [97, 98, 99] [] 3 0 1 (-1) 1 1 0) := d3
  have HB3 : Hid (Below w.heap.size w w3) := HB2.out.trans (t3.off.below HB2.out.size (fun k g => (H2.out.foot_lt g).1))
  clear d3 t3
  have hcv3 : (convert 25 25 (.slice (some ⟨w3.heap.size, 0, none⟩) 4 4)).run Try.prog (w3.alloc (.cells #[.int .u8 100, .int .u8 101, .int .u8 102, .int .u8 103] 5)) = .ok (.slice (some ⟨w3.heap.size, 0, none⟩) 4 4) (w3.alloc (.cells #[.int .u8 100, .int .u8 101, .int .u8 102, .int .u8 103] 5 (4, 5))) := Lib.run_convert_bytes_const (P := Try.prog) w3 25 5 #[.int .u8 100, .int .u8 101, .int .u8 102, .int .u8 103] 4 4 Try.underlying25 Try.underlying5
  go_wp2_with fail
  have HL3 := lit4 (w := w3) rfl (a := 100) (b := 101) (c := 102) (d := 103)
  have H3' : Hid (Dsk (w3.alloc (.cells #[.int .u8 100, .int .u8 101, .int .u8 102, .int .u8 103] 5 (4, 5))) w.heap.size w.heap.size u0 (.slice none 0 0) [97, 98, 99] [] 3 0 1 (-1) 1 1 0) := H3.out.off (P := fun _ => False) ((Off.refl _ _).alloc _) (fun _ _ => id)
  refine (Append0_ok HL3 (fun e => by cases e) (fun b o e g => by simp only [Option.some.injEq, Addr.mk.injEq] at e; have := (H3.out.foot_lt g).2; omega) H3'.out (by decide) (by decide)).mono ?_
  rintro e w4 ⟨rfl, u4, d4, t4⟩
  have H4 : Hid (Dsk w4 w.heap.size w.heap.size u4 (.slice none 0 0) [97, 98, 99, 100, 101, 102, 103] [] 3 0 1 (-1) 2 1 0) := d4
  have HB4 : Hid (Below w.heap.size w w4) := (HB3.out.alloc HB3.out.size _).trans (t4.off.below (by have := HB3.out.size; simp; omega) (fun k g => (H3'.out.foot_lt g).1))
  clear d4 t4 HL3 H3'
  go_wp2_with fail
  refine (Crash_ok (k0 := 2) (z0 := 1) (k1 := 0) (z1 := 0) H4.out (by decide) (by decide) (by decide) (by decide) (by decide)).mono ?_
  rintro e w5 ⟨rfl, u5, y5, d5, t5⟩
  have H5 : Hid (Dsk w5 w.heap.size w.heap.size u5 y5 [97, 98, 99, 100, 101, 0] [] 6 0 1 (-1) 2 1 0) := d5
  have HB5 : Hid (Below w.heap.size w w5) := HB4.out.trans (t5.off.below HB4.out.size (fun k g => (H4.out.foot_lt g).1))
  clear d5 t5
  go_wp2_with fail
  refine (Image_ok H5.out (by decide)).mono ?_
  rintro e w6 ⟨a0, n0, c0, a1, n1, c1, rfl, r0, r1, b6⟩
  have H6 : Hid (Dsk w6 w.heap.size w.heap.size u5 y5 [97, 98, 99, 100, 101, 0] [] 6 0 1 (-1) 2 1 0) := H5.out.below b6
  have HB6 : Hid (Below w.heap.size w w6) := HB5.out.trans (b6.mono HB5.out.size)
  have HR0 : Hid (Row w6 w5.heap.size (.slice a0 n0 c0) [97, 98, 99, 100, 101, 0]) := r0
  have HR1 : Hid (Row w6 w5.heap.size (.slice a1 n1 c1) []) := r1
  have hn1 : n1 = 0 := by
    rcases r1.form with ⟨e, _⟩ | ⟨g, cap, e, _⟩
    · simp at e; exact e.2.1
    · simp at e; exact e.2.1
  clear r0 r1 b6
  subst hn1
  go_wp2_with fail
  refine (Len0_ok (H6.out.off (P := fun _ => False) ((Off.refl _ _).alloc _) (fun _ _ => id)) (by decide)).mono ?_
  rintro e w7 ⟨rfl, rfl⟩
  obtain ⟨g, hg⟩ : ∃ g, a0 = some ⟨g, 0, none⟩ ∧ n0 = 6 := by
    rcases HR0.out.form with ⟨_, e⟩ | ⟨g, cap, e, _⟩
    · cases e
    · simp at e; exact ⟨g, e.1, e.2.1⟩
  obtain ⟨rfl, rfl⟩ := hg
  have hr : ∀ c, (convert 25 9 (.slice (some ⟨g, 0, none⟩) 6 c)).run Try.prog (w6.alloc (.cells #[.slice (some ⟨g, 0, none⟩) 6 c0, .slice a1 0 c1] 26)) = .ok (.string ⟨#[97, 98, 99, 100, 101, 0]⟩) (w6.alloc (.cells #[.slice (some ⟨g, 0, none⟩) 6 c0, .slice a1 0 c1] 26)) := fun c =>
    run_conv_bytes ((HR0.out.byts (x := 0) (n := 6) (m := 6) (by decide) rfl).off (P := fun _ => False) ((Off.refl _ _).alloc _) (fun _ _ _ => id)) c
  go_wp2_with fail
  refine (Alive_ok (H6.out.off (P := fun _ => False) ((Off.refl _ _).alloc _) (fun _ _ => id))).mono ?_
  rintro e w8 ⟨rfl, rfl⟩
  go_wp2_with fail
  go_ret
  exact ⟨rfl, HB6.out.alloc HB6.out.size _⟩
end Go.Proofs.Ytlgjjemfckmidaa
