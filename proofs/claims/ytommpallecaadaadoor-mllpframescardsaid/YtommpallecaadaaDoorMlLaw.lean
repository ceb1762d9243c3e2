/-
  MllpFrames: the walk.
-/
import Derived.Test.YtommpallecaadaaDoorMlRef
import Derived.Test.YtommpallecaadaaDoorBookAlone
namespace Go.Proofs.YtommpallecaadaaDoor
open Go.RowKit

theorem Bk.fresh {w : World} {B : Nat} (hB : B ≤ w.heap.size) : Bk (w.alloc (.cells #[.slice none 0 0, .slice none 0 0, .slice none 0 0, .slice none 0 0, .slice none 0 0, .slice none 0 0] 38)) B w.heap.size (fun k => if k = w.heap.size then 1 else 0) (.slice none 0 0) (.slice none 0 0) [] := by
  refine Bk.empty (fun q hq => ?_) (fun q => by simp) (by simp; omega)
  match q, hq with
  | 0, _ => simp
  | 1, _ => simp
  | 2, _ => simp
  | 3, _ => simp
  | 4, _ => simp
  | 5, _ => simp
/-- What a payload comes to: the frame, the fault's place, its number (0: none). -/
def FRes (bs : List Int) (m : Nat) (fr : List Int) (at_ code : Int) : Prop := (FOk bs m ∧ fr = [11] ++ bs ++ [28, 13] ∧ at_ = 0 ∧ code = 0) ∨ (FErr bs m at_ code ∧ fr = [])
theorem fres_any (bs : List Int) (m : Nat) (hl : bs.length = m) : ∃ fr a c, FRes bs m fr a c ∧ fr.length ≤ 8195 := by
  rcases frame_cases bs m with h | ⟨a, c, h⟩
  · exact ⟨_, _, _, Or.inl ⟨h, rfl, rfl, rfl⟩, by have := h.h1; simp; omega⟩
  · exact ⟨_, _, _, Or.inr ⟨h, rfl⟩, by simp⟩
/-- An error that is just that. -/
def EvOk (w : World) (ev : Value) (at_ code : Int) : Prop := (ev = .nilIface ∧ code = 0) ∨ (∃ b, ev = .iface 63 (.pointer (some ⟨b, 0, none⟩)) ∧ MFault w b at_ code ∧ (code == 0) = false)
theorem EvOk.below {w w' : World} {ev : Value} {a c : Int} (h : EvOk w ev a c) (hb : Below w.heap.size w w') : EvOk w' ev a c := by
  rcases h with h | ⟨b, h1, h2, h3⟩
  · exact Or.inl h
  · exact Or.inr ⟨b, h1, h2.below hb, h3⟩
theorem Frame_any {w : World} {po : Option Addr} {m c : Nat} {bs fr : List Int} {at_ code : Int} (hb : Byts w po m bs) (hm : m + 90 ≤ 140737488355328) (h : FRes bs m fr at_ code) :
    Calls Tryd.prog 6 #[.slice po m c] w fun e w' => ∃ a n c' ev, e = .returned (.tuple #[.slice a n c', ev]) ∧ Row w' w.heap.size (.slice a n c') fr ∧ EvOk w' ev at_ code ∧ Below w.heap.size w w' := by
  rcases h with ⟨h, rfl, rfl, rfl⟩ | ⟨h, rfl⟩
  · refine (Frame_ok hb h).mono ?_
    rintro e w' ⟨a, n, c', he, hr, ho⟩
    exact ⟨a, n, c', _, he, hr, Or.inl ⟨rfl, rfl⟩, ho⟩
  · refine (Frame_err hb hm h).mono ?_
    rintro e w' ⟨he, hr, ho⟩
    exact ⟨_, _, _, _, he, Row.nil _ _, Or.inr ⟨_, rfl, hr, h.nz⟩, ho⟩
theorem RFrame_any {w : World} {po : Option Addr} {m c : Nat} {bs fr : List Int} {at_ code : Int} (hb : Byts w po m bs) (hm : m + 90 ≤ 140737488355328) (h : FRes bs m fr at_ code) :
    Calls Tryd.prog 7 #[.slice po m c] w fun e w' => ∃ a n c', e = .returned (.tuple #[.slice a n c', .int .i64 at_, .int .i64 code]) ∧ Row w' w.heap.size (.slice a n c') fr ∧ Below w.heap.size w w' := by
  rcases h with ⟨h, rfl, rfl, rfl⟩ | ⟨h, rfl⟩
  · exact RFrame_ok hb h
  · refine (RFrame_err hb hm h).mono ?_
    rintro e w' ⟨he, ho⟩
    exact ⟨_, _, _, he, Row.nil _ _, ho⟩
theorem is_any {w : World} {ev : Value} {a c : Int} (hE : ErrType w) (h : EvOk w ev a c) : Calls Tryd.prog 9 #[ev, .int .i64 a, .int .i64 c] w fun e w' => e = .returned (.bool true) ∧ Below w.heap.size w w' := by
  rcases h with ⟨rfl, rfl⟩ | ⟨b, rfl, h2, h3⟩
  · exact (is_ok a w).mono (fun e w' ⟨h1, h2⟩ => ⟨h1, by rw [h2]; exact Below.refl _ _⟩)
  · exact is_fault b a c w h3 hE h2
/-- What stands in memory while the law looks at the answers. -/
structure FSt (W w : World) (po : Option Addr) (m n : Nat) (bs fr : List Int) (a2 a3 a4 : Option Addr) (c2 c3 c4 : Nat) (e2 e3 : Value) (at_ code : Int) : Prop where
  r2 : Row w W.heap.size (.slice a2 n c2) fr
  r3 : Row w W.heap.size (.slice a3 n c3) fr
  r4 : Row w W.heap.size (.slice a4 n c4) fr
  inn : Row w W.heap.size (.slice (some ⟨W.heap.size, 0, none⟩) (m + 90) (m + 90)) (bs ++ marks)
  pay : Byts w po m bs
  bel : Below W.heap.size W w
  v2 : EvOk w e2 at_ code
  v3 : EvOk w e3 at_ code
  et : ErrType w
  d2 : ∀ g, (Value.slice a2 n c2).ownBlock = some g → W.heap.size < g
  d3 : ∀ g, (Value.slice a3 n c3).ownBlock = some g → W.heap.size < g ∧ (Value.slice a2 n c2).ownBlock ≠ some g
theorem FSt.below {W w w' : World} {po : Option Addr} {m n : Nat} {bs fr : List Int} {a2 a3 a4 : Option Addr} {c2 c3 c4 : Nat} {e2 e3 : Value} {at_ code : Int} (h : FSt W w po m n bs fr a2 a3 a4 c2 c3 c4 e2 e3 at_ code) (hb : Below w.heap.size w w') : FSt W w' po m n bs fr a2 a3 a4 c2 c3 c4 e2 e3 at_ code :=
  ⟨h.r2.keep (fun g e => hb.block g (h.r2.lt e).2), h.r3.keep (fun g e => hb.block g (h.r3.lt e).2), h.r4.keep (fun g e => hb.block g (h.r4.lt e).2), h.inn.keep (fun g e => hb.block g (h.inn.lt e).2), h.pay.below hb, h.bel.trans (hb.mono h.bel.size), h.v2.below hb, h.v3.below hb, errType_below h.et hb, h.d2, h.d3⟩
theorem below_drewK (w : World) (k : Nat) : Below w.heap.size w (w.drewN k) := ((Off.refl (fun _ => False) w).drewN k).below (Nat.le_refl _) (fun _ p => p.elim)
set_option maxRecDepth 100000 in
set_option maxHeartbeats 4000000 in
theorem frames_law {po : Option Addr} {m c : Nat} {bs : List Int} (w : World) (hb : Byts w po m bs) (hm : m + 90 ≤ 140737488355328) (hE : ErrType w) :
    Calls Tryd.prog 3 #[.slice po m c] w fun e w' => e = .returned (.bool true) ∧ Below w.heap.size w w' := by
  obtain ⟨fr, at_, code, hF, hfl⟩ := fres_any bs m hb.len
  have HB : Hid (Byts w po m bs) := hb
  have HF : Hid (FRes bs m fr at_ code) := hF
  have HE : Hid (ErrType w) := hE
  have HL : Hid (bs.length = m) := hb.len
  clear hb hF hE
  go_enter Tryd.func3, Tryd.ntmps3
  go_wp2_with fail
  refine (Hand_any w HB.out hm).mono ?_
  rintro e w1 ⟨rfl, r1, o1⟩
  have HH : Hid (Row w1 w.heap.size (.slice (some ⟨w.heap.size, 0, none⟩) (m + 90) (m + 90)) (bs ++ marks) ∧ Below w.heap.size w w1) := ⟨r1, o1⟩
  have b1 : Byts w1 (some ⟨w.heap.size, 0, none⟩) m bs := by
    have := (r1.prefix (m := m) (by omega)).bytes
    rw [List.take_left' HL.out] at this
    exact this
  have HB1 : Hid (Byts w1 (some ⟨w.heap.size, 0, none⟩) m bs) := b1
  clear r1 o1 b1
  go_wp2_with fail
  refine (Frame_any HB1.out hm HF.out).mono ?_
  rintro e w2 ⟨a2, n2, c2, e2, rfl, r2, v2, o2⟩
  have H2 : Hid (Row w2 w1.heap.size (.slice a2 n2 c2) fr ∧ EvOk w2 e2 at_ code ∧ Below w1.heap.size w1 w2) := ⟨r2, v2, o2⟩
  clear r2 o2 v2
  go_wp2_with fail
  refine (Frame_any (HB1.out.below H2.out.2.2) hm HF.out).mono ?_
  rintro e w3 ⟨a3, n3, c3, e3, rfl, r3, v3, o3⟩
  have H3 : Hid (Row w3 w2.heap.size (.slice a3 n3 c3) fr ∧ EvOk w3 e3 at_ code ∧ Below w2.heap.size w2 w3) := ⟨r3, v3, o3⟩
  clear r3 o3 v3
  have HBw3 : Hid (Below w.heap.size w w3) := HH.out.2.trans ((H2.out.2.2.mono HH.out.2.size).trans (H3.out.2.2.mono (Nat.le_trans HH.out.2.size H2.out.2.2.size)))
  go_wp2_with fail
  refine (RFrame_any (HB.out.below HBw3.out) hm HF.out).mono ?_
  rintro e w4 ⟨a4, n4, c4, rfl, r4, o4⟩
  obtain rfl : n4 = n2 := by have h1 := H2.out.1.len; have h2 := r4.len; omega
  obtain rfl : n3 = n4 := by have h1 := H3.out.1.len; have h2 := r4.len; omega
  have HS : Hid (FSt w w4 po m n3 bs fr a2 a3 a4 c2 c3 c4 e2 e3 at_ code) := by
    obtain ⟨hr1, ho1⟩ := HH.out
    obtain ⟨hr2, hv2, ho2⟩ := H2.out
    obtain ⟨hr3, hv3, ho3⟩ := H3.out
    have o24 : Below w2.heap.size w2 w4 := ho3.trans (o4.mono ho3.size)
    have o14 : Below w1.heap.size w1 w4 := ho2.trans (o24.mono ho2.size)
    have o04 : Below w.heap.size w w4 := ho1.trans (o14.mono ho1.size)
    have hs1 : w.heap.size < w1.heap.size := (hr1.lt (g := w.heap.size) rfl).2
    exact ⟨(hr2.keep (fun g e => o24.block g (hr2.lt e).2)).low ho1.size, (hr3.keep (fun g e => o4.block g (hr3.lt e).2)).low (Nat.le_trans ho1.size ho2.size), r4.low HBw3.out.size, hr1.keep (fun g e => o14.block g (hr1.lt e).2), HB.out.below o04, o04, hv2.below o24, hv3.below o4, errType_below HE.out o04,
      fun g e => Nat.lt_of_lt_of_le hs1 (hr2.lt e).1, fun g e => ⟨Nat.lt_of_lt_of_le hs1 (Nat.le_trans ho2.size (hr3.lt e).1), fun e' => by have h1 := (hr2.lt e').2; have h2 := (hr3.lt e).1; omega⟩⟩
  clear r4 o4 HH HB1 H2 H3 HBw3 HB HE HF
  have hn3 : n3 ≤ 8195 := by have := HS.out.r4.len; omega
  go_wp2_with fail
  refine (same_true HS.out.r2.byts HS.out.r4.byts (by omega)).mono ?_
  rintro e w5 ⟨rfl, k5, hw5⟩
  have HS5 : Hid (FSt w w5 po m n3 bs fr a2 a3 a4 c2 c3 c4 e2 e3 at_ code) := HS.out.below (by rw [hw5]; exact below_drewK _ _)
  clear HS hw5
  go_wp2_with fail
  refine (is_any HS5.out.et HS5.out.v2).mono ?_
  rintro e w6 ⟨rfl, o6⟩
  have HS6 : Hid (FSt w w6 po m n3 bs fr a2 a3 a4 c2 c3 c4 e2 e3 at_ code) := HS5.out.below o6
  clear HS5 o6
  go_wp2_with fail
  refine (same_true HS6.out.r3.byts HS6.out.r4.byts (by omega)).mono ?_
  rintro e w7 ⟨rfl, k7, hw7⟩
  have HS7 : Hid (FSt w w7 po m n3 bs fr a2 a3 a4 c2 c3 c4 e2 e3 at_ code) := HS6.out.below (by rw [hw7]; exact below_drewK _ _)
  clear HS6 hw7
  go_wp2_with fail
  refine (is_any HS7.out.et HS7.out.v3).mono ?_
  rintro e w8 ⟨rfl, o8⟩
  have HS8 : Hid (FSt w w8 po m n3 bs fr a2 a3 a4 c2 c3 c4 e2 e3 at_ code) := HS7.out.below o8
  clear HS7 o8
  go_wp2_with fail
  refine (Kept_true w8 HS8.out.inn HS8.out.pay hm).mono ?_
  rintro e w9 ⟨rfl, k9, hw9⟩
  have HS9 : Hid (FSt w w9 po m n3 bs fr a2 a3 a4 c2 c3 c4 e2 e3 at_ code) := HS8.out.below (by rw [hw9]; exact below_drewK _ _)
  clear HS8 hw9
  have H9 : Hid (Row w9 w.heap.size (.slice (some ⟨w.heap.size, 0, none⟩) (m + 90) (m + 90)) (bs ++ marks) ∧ Off (fun k => k = w.heap.size) w9 w9) := ⟨HS9.out.inn, Off.refl _ _⟩
  go_wp2_with fail
  go_loopw [11] (fun t11 wx => ∃ i : Nat, i ≤ m ∧ t11 = .int .i64 i ∧ Hid (∃ ys : List Int, ys.length = m + 90 ∧ Row wx w.heap.size (.slice (some ⟨w.heap.size, 0, none⟩) (m + 90) (m + 90)) ys ∧ Off (fun k => k = w.heap.size) w9 wx)) (fun t11 _ => m - (intOf t11).toNat)
  case atStart => exact ⟨0, Nat.zero_le _, rfl, _, by have := HL.out; simp [marks]; omega, H9.out⟩
  case round =>
    obtain ⟨i, hi, rfl, HI⟩ := hrel
    by_cases hlt : i < m
    · have hlt1 : (i : Int) < m := by omega
      obtain ⟨ys, hy, hrow, hoff⟩ := HI.out
      have k1 := hrow.slot (j := i) (by omega)
      have k2 := hrow.thaw i
      have HJ : Hid (∃ ys : List Int, ys.length = m + 90 ∧ Row (wr.setCell ⟨w.heap.size, i, none⟩ (.int .u8 238)) w.heap.size (.slice (some ⟨w.heap.size, 0, none⟩) (m + 90) (m + 90)) ys ∧ Off (fun k => k = w.heap.size) w9 (wr.setCell ⟨w.heap.size, i, none⟩ (.int .u8 238))) := ⟨_, by rw [List.length_set]; exact hy, hrow.stored i 238, hoff.setCell (P := fun k => k = w.heap.size) (p := ⟨w.heap.size, i, none⟩) rfl _⟩
      clear hrow hoff HI hy
      go_wp2_with fail
      go_roundw
      case rel => exact ⟨i + 1, hlt, by go_num, HJ⟩
      case measure => simp [intOf]; omega
    · have hlt1 : ¬ (i : Int) < m := by omega
      have HX : Hid (Row wr w.heap.size (.slice a2 n3 c2) fr ∧ Row wr w.heap.size (.slice a3 n3 c3) fr ∧ Below w.heap.size w wr ∧ w.heap.size < wr.heap.size) := by
        obtain ⟨ys, hy, hrow, hoff⟩ := HI.out
        exact ⟨HS9.out.r2.off hoff (fun g e p => by have := HS9.out.d2 g e; omega), HS9.out.r3.off hoff (fun g e p => by have := (HS9.out.d3 g e).1; omega), HS9.out.bel.trans (hoff.below HS9.out.bel.size (fun k e => by omega)), (hrow.lt (g := w.heap.size) rfl).2⟩
      have HD : Hid (∀ g, (Value.slice a3 n3 c3).ownBlock = some g → (Value.slice a2 n3 c2).ownBlock ≠ some g) := fun g e => (HS9.out.d3 g e).2
      clear HI HS9 H9
      have hb0 := Bk.fresh (w := wr) (B := w.heap.size) (Nat.le_of_lt HX.out.2.2.2)
      have hal : Below wr.heap.size wr (wr.alloc (.cells #[.slice none 0 0, .slice none 0 0, .slice none 0 0, .slice none 0 0, .slice none 0 0, .slice none 0 0] 38)) := (Below.refl _ _).alloc (Nat.le_refl _) _
      have r2' : Row (wr.alloc (.cells #[.slice none 0 0, .slice none 0 0, .slice none 0 0, .slice none 0 0, .slice none 0 0, .slice none 0 0] 38)) w.heap.size (.slice a2 n3 c2) fr := HX.out.1.keep (fun g e => hal.block g (HX.out.1.lt e).2)
      have r3' : Row (wr.alloc (.cells #[.slice none 0 0, .slice none 0 0, .slice none 0 0, .slice none 0 0, .slice none 0 0, .slice none 0 0] 38)) w.heap.size (.slice a3 n3 c3) fr := HX.out.2.1.keep (fun g e => hal.block g (HX.out.2.1.lt e).2)
      have T1 := Take_any hb0 r2' (fun g e => if_neg (by have := (HX.out.1.lt e).2; omega)) (by omega) (by simp)
      have HT : Hid (Calls Tryd.prog 11 #[.pointer (some ⟨wr.heap.size, 0, none⟩), .slice a2 n3 c2] (wr.alloc (.cells #[.slice none 0 0, .slice none 0 0, .slice none 0 0, .slice none 0 0, .slice none 0 0, .slice none 0 0] 38)) fun e w' => e = .returned (.tuple #[]) ∧ ∃ ρ' vb' vw' was, Bk w' w.heap.size wr.heap.size ρ' vb' vw' ([] ++ [⟨.slice a2 n3 c2, was, fr, fr⟩]) ∧ Off (fun k => (if k = wr.heap.size then 1 else 0) = 1 ∨ (if k = wr.heap.size then 1 else 0) = 2 ∨ (if k = wr.heap.size then 1 else 0) = 3) (wr.alloc (.cells #[.slice none 0 0, .slice none 0 0, .slice none 0 0, .slice none 0 0, .slice none 0 0, .slice none 0 0] 38)) w' ∧ (∀ k, k < (wr.alloc (.cells #[.slice none 0 0, .slice none 0 0, .slice none 0 0, .slice none 0 0, .slice none 0 0, .slice none 0 0] 38)).heap.size → (Value.slice a2 n3 c2).ownBlock ≠ some k → ρ' k = if k = wr.heap.size then 1 else 0)) := T1
      have HR3 : Hid (Row (wr.alloc (.cells #[.slice none 0 0, .slice none 0 0, .slice none 0 0, .slice none 0 0, .slice none 0 0, .slice none 0 0] 38)) w.heap.size (.slice a3 n3 c3) fr) := r3'
      have HAL : Hid (Below w.heap.size w (wr.alloc (.cells #[.slice none 0 0, .slice none 0 0, .slice none 0 0, .slice none 0 0, .slice none 0 0, .slice none 0 0] 38))) := HX.out.2.2.1.trans (hal.mono HX.out.2.2.1.size)
      clear hb0 hal r2' r3' T1
      go_wp2_with fail
      refine HT.out.mono ?_
      rintro e x1 ⟨rfl, ρ1, vb1, vw1, was1, bk1, of1, ro1⟩
      have r31 : Row x1 w.heap.size (.slice a3 n3 c3) fr := HR3.out.off of1 (fun g e p => by
        have h1 := (HX.out.2.1.lt e).2
        have h2 : ¬ g = wr.heap.size := by omega
        simp only [if_neg h2] at p
        omega)
      have HB1 : Hid (Below w.heap.size w x1) := HAL.out.trans (of1.below HAL.out.size (fun k p => by
        rcases Nat.lt_or_ge k w.heap.size with q | q
        · have h2 : ¬ k = wr.heap.size := by have := HX.out.2.2.2; omega
          simp only [if_neg h2] at p
          omega
        · exact q))
      have T2 := Take_any bk1 r31 (fun g e => by
        have h1 := (HX.out.2.1.lt e).2
        rw [ro1 g (by simp; omega) (HD.out g e), if_neg (by omega)]) (by omega) (by simp)
      have HT2 : Hid (Calls Tryd.prog 11 #[.pointer (some ⟨wr.heap.size, 0, none⟩), .slice a3 n3 c3] x1 fun e w' => e = .returned (.tuple #[]) ∧ ∃ ρ' vb' vw' was, Bk w' w.heap.size wr.heap.size ρ' vb' vw' (([] ++ [⟨.slice a2 n3 c2, was1, fr, fr⟩]) ++ [⟨.slice a3 n3 c3, was, fr, fr⟩]) ∧ Off (fun k => ρ1 k = 1 ∨ ρ1 k = 2 ∨ ρ1 k = 3) x1 w' ∧ (∀ k, k < x1.heap.size → (Value.slice a3 n3 c3).ownBlock ≠ some k → ρ' k = ρ1 k)) := T2
      have HRO : Hid (∀ k, k < w.heap.size → ρ1 k = 0) := fun k hk => by
        have h1 := HX.out.2.2.2
        rw [ro1 k (by simp; omega) (fun e => by have := (HX.out.1.lt e).1; omega), if_neg (by omega)]
      have hOF1 : ∀ k, (ρ1 k = 1 ∨ ρ1 k = 2 ∨ ρ1 k = 3) → w.heap.size ≤ k := fun k p => by
        rcases Nat.lt_or_ge k w.heap.size with q | q
        · have := HRO.out k q; omega
        · exact q
      have HOF1 : Hid (∀ k, (ρ1 k = 1 ∨ ρ1 k = 2 ∨ ρ1 k = 3) → w.heap.size ≤ k) := hOF1
      clear r31 bk1 of1 ro1 T2 HT HR3 HAL hOF1
      go_wp2_with fail
      refine HT2.out.mono ?_
      rintro e x2 ⟨rfl, ρ2, vb2, vw2, was2, bk2, of2, ro2⟩
      have HB2 : Hid (Below w.heap.size w x2) := HB1.out.trans (of2.below HB1.out.size HOF1.out)
      have hr2 : ∀ k, k < w.heap.size → ρ2 k = 0 := fun k hk => by
        rw [ro2 k (Nat.lt_of_lt_of_le hk HB1.out.size) (fun e => by have := (HX.out.2.1.lt e).1; omega)]
        exact HRO.out k hk
      have HOF2 : Hid (∀ k, (ρ2 k = 1 ∨ ∃ j, ρ2 k = 6 + 2 * j) → w.heap.size ≤ k) := fun k p => by
        rcases Nat.lt_or_ge k w.heap.size with q | q
        · have := hr2 k q
          rcases p with p | ⟨j, p⟩ <;> omega
        · exact q
      have T3 := Alone_true bk2 (fun i e he => by
        have hm : e ∈ [(⟨.slice a2 n3 c2, was1, fr, fr⟩ : Ent), ⟨.slice a3 n3 c3, was2, fr, fr⟩] := List.mem_of_getElem? (by simpa using he)
        simp only [List.mem_cons, List.not_mem_nil, or_false] at hm
        rcases hm with rfl | rfl
        · exact ⟨rfl, Nat.le_trans hfl (by decide)⟩
        · exact ⟨rfl, Nat.le_trans hfl (by decide)⟩) (by simp)
      have HT3 : Hid (Calls Tryd.prog 12 #[.pointer (some ⟨wr.heap.size, 0, none⟩)] x2 fun e w' => e = .returned (.bool true) ∧ Bk w' w.heap.size wr.heap.size (fun k => if k = wr.heap.size then 1 else 0) (.slice none 0 0) (.slice none 0 0) [] ∧ Off (fun k => ρ2 k = 1 ∨ ∃ j, ρ2 k = 6 + 2 * j) x2 w') := T3
      clear bk2 of2 ro2 T3 hr2 HT2
      go_wp2_with fail
      refine HT3.out.mono ?_
      rintro e x3 ⟨rfl, _, of3⟩
      have HB3 : Hid (Below w.heap.size w x3) := HB2.out.trans (of3.below HB2.out.size HOF2.out)
      clear of3
      go_wp2_with fail
      go_ret
      exact ⟨rfl, HB3.out⟩
end Go.Proofs.YtommpallecaadaaDoor
