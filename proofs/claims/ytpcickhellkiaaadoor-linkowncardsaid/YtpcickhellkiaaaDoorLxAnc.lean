/-
  The program's link alone, in a call of its own; the law's anchor.
-/
import Derived.Test.YtpcickhellkiaaaDoorLxP
import Derived.Laws.BytesString
import Derived.Lib.SlBytesConst
namespace Go.Proofs.YtpcickhellkiaaaDoor
open Go.RowKit

/-- The program's link: all of it lies behind w0. -/
def PS (w0 : World) (l : Option Addr) (σ : LSt) (X : World) : Prop := ∃ F, PL X l F σ ∧ (∀ lb, l = some ⟨lb, 0, none⟩ → w0.heap.size ≤ lb) ∧ (∀ b, F b → w0.heap.size ≤ b) ∧ Below w0.heap.size w0 X
section
variable {w0 X Y z : World} {l : Option Addr} {σ σ' : LSt}
theorem PS.below (h : PS w0 l σ X) (hb : Below X.heap.size X Y) : PS w0 l σ Y := by
  obtain ⟨F, h1, h2, h3, h4⟩ := h
  exact ⟨F, h1.below hb, h2, h3, below_then h4 hb⟩
theorem PS.b (h : PS w0 l σ X) : Below w0.heap.size w0 X := by
  obtain ⟨F, h1, h2, h3, h4⟩ := h
  exact h4
theorem PS.step {F : Nat → Prop} (_h1 : PL X l F σ) (h2 : ∀ lb, l = some ⟨lb, 0, none⟩ → w0.heap.size ≤ lb) (h3 : ∀ b, F b → w0.heap.size ≤ b) (h4 : Below w0.heap.size w0 X) (hq : PQ X l F σ' Y) : PS w0 l σ' Y := by
  obtain ⟨F', q1, q2, q3⟩ := hq
  have hs := h4.size
  refine ⟨F', q1, h2, fun b hb => ?_, h4.trans (q2.below hs fun q e => h2 q e)⟩
  rcases q3 b hb with e | e
  · exact h3 b e
  · omega
theorem ev0 {v : Value} {a : Int} (h : EvIs X v a 0) : v = .nilIface := by
  rcases h with ⟨_, h⟩ | ⟨h, _⟩
  · exact h
  · cases h
theorem kSend (h : PS w0 l σ z) {po : Option Addr} {m c : Nat} {bs : List Int} (hb : Byts z po m bs) (s : Int) : Calls Tryd.prog 11 #[.pointer l, .int .i64 s, .slice po m c] z fun e w' => ∃ v, e = .returned v ∧ Hid (EvIs w' v 0 (cV 3 1 (fun c => sendE c bs) σ s) ∧ PS w0 l (cS (fun c => sendC c bs) σ s) w' ∧ Off (fun q => l = some ⟨q, 0, none⟩) z w') := by
  obtain ⟨F, h1, h2, h3, h4⟩ := h
  exact (qSend h1 hb s).mono fun e w' ⟨v, e1, e2⟩ => ⟨v, e1, e2.out.1, PS.step h1 h2 h3 h4 e2.out.2, by obtain ⟨_, _, o, _⟩ := e2.out.2; exact o⟩
theorem kRaw (h : PS w0 l σ z) {po : Option Addr} {m c : Nat} {bs : List Int} (hb : Byts z po m bs) (s : Int) : Calls Tryd.prog 18 #[.pointer l, .int .i64 s, .slice po m c] z fun e w' => ∃ v, e = .returned v ∧ Hid (EvIs w' v 0 (cV 3 1 (fun c => sendE c bs) σ s) ∧ PS w0 l (cS (fun c => sendC c bs) σ s) w' ∧ Off (fun q => l = some ⟨q, 0, none⟩) z w') := by
  obtain ⟨F, h1, h2, h3, h4⟩ := h
  exact (qRaw h1 hb s).mono fun e w' ⟨v, e1, e2⟩ => ⟨v, e1, e2.out.1, PS.step h1 h2 h3 h4 e2.out.2, by obtain ⟨_, _, o, _⟩ := e2.out.2; exact o⟩
theorem kNoise (h : PS w0 l σ z) {po : Option Addr} {m c : Nat} {bs : List Int} (hb : Byts z po m bs) (s : Int) : Calls Tryd.prog 19 #[.pointer l, .int .i64 s, .slice po m c] z fun e w' => ∃ v, e = .returned v ∧ Hid (EvIs w' v (cV (0, 3) (0, 1) (fun c => noiseE c bs) σ s).1 (cV (0, 3) (0, 1) (fun c => noiseE c bs) σ s).2 ∧ PS w0 l (cS (fun c => noiseC c bs) σ s) w' ∧ Off (fun q => l = some ⟨q, 0, none⟩) z w') := by
  obtain ⟨F, h1, h2, h3, h4⟩ := h
  exact (qNoise h1 hb s).mono fun e w' ⟨v, e1, e2⟩ => ⟨v, e1, e2.out.1, PS.step h1 h2 h3 h4 e2.out.2, by obtain ⟨_, _, o, _⟩ := e2.out.2; exact o⟩
theorem kDrop (h : PS w0 l σ z) (s i : Int) : Calls Tryd.prog 22 #[.pointer l, .int .i64 s, .int .i64 i] z fun e w' => ∃ v, e = .returned v ∧ Hid (EvIs w' v 0 (cV 3 1 (fun c => dropE c i) σ s) ∧ PS w0 l (cS (fun c => dropC c i) σ s) w' ∧ Off (fun q => l = some ⟨q, 0, none⟩) z w') := by
  obtain ⟨F, h1, h2, h3, h4⟩ := h
  exact (qDrop h1 s i).mono fun e w' ⟨v, e1, e2⟩ => ⟨v, e1, e2.out.1, PS.step h1 h2 h3 h4 e2.out.2, by obtain ⟨_, _, o, _⟩ := e2.out.2; exact o⟩
theorem kDouble (h : PS w0 l σ z) (s i : Int) : Calls Tryd.prog 21 #[.pointer l, .int .i64 s, .int .i64 i] z fun e w' => ∃ v, e = .returned v ∧ Hid (EvIs w' v 0 (cV 3 1 (fun c => dblE c i) σ s) ∧ PS w0 l (cS (fun c => dblC c i) σ s) w' ∧ Off (fun q => l = some ⟨q, 0, none⟩) z w') := by
  obtain ⟨F, h1, h2, h3, h4⟩ := h
  exact (qDouble h1 s i).mono fun e w' ⟨v, e1, e2⟩ => ⟨v, e1, e2.out.1, PS.step h1 h2 h3 h4 e2.out.2, by obtain ⟨_, _, o, _⟩ := e2.out.2; exact o⟩
theorem kClip (h : PS w0 l σ z) (s i n : Int) : Calls Tryd.prog 23 #[.pointer l, .int .i64 s, .int .i64 i, .int .i64 n] z fun e w' => ∃ v, e = .returned v ∧ Hid (EvIs w' v 0 (cV 3 1 (fun c => clipE c i n) σ s) ∧ PS w0 l (cS (fun c => clipC c i n) σ s) w' ∧ Off (fun q => l = some ⟨q, 0, none⟩) z w') := by
  obtain ⟨F, h1, h2, h3, h4⟩ := h
  exact (qClip h1 s i n).mono fun e w' ⟨v, e1, e2⟩ => ⟨v, e1, e2.out.1, PS.step h1 h2 h3 h4 e2.out.2, by obtain ⟨_, _, o, _⟩ := e2.out.2; exact o⟩
theorem kCarry (h : PS w0 l σ z) (s i n : Int) : Calls Tryd.prog 12 #[.pointer l, .int .i64 s, .int .i64 i, .int .i64 n] z fun e w' => ∃ a m c v, e = .returned (.tuple #[.slice a m c, v]) ∧ Hid (BRow w' z.heap.size (.slice a m c) (cV [] [] (fun c => carR c i n) σ s) ∧ m ≤ 8195 ∧ EvIs w' v 0 (cV 3 1 (fun c => carE c i n) σ s) ∧ PS w0 l (cS (fun c => carC c i n) σ s) w' ∧ Off (fun q => l = some ⟨q, 0, none⟩) z w') := by
  obtain ⟨F, h1, h2, h3, h4⟩ := h
  exact (qCarry h1 s i n).mono fun e w' ⟨a, m, c, v, e1, e2⟩ => ⟨a, m, c, v, e1, e2.out.1, e2.out.2.1, e2.out.2.2.1, PS.step h1 h2 h3 h4 e2.out.q, by obtain ⟨_, _, o, _⟩ := e2.out.q; exact o⟩
theorem kHalf (h : PS w0 l σ z) (s : Int) : Calls Tryd.prog 14 #[.pointer l, .int .i64 s] z fun e w' => e = .returned (.int .i64 (cV (-1) (-1) (fun c => c.2) σ s)) ∧ Hid (Below z.heap.size z w') := by
  obtain ⟨F, h1, h2, h3, h4⟩ := h
  exact (qHalf h1 s).mono fun _ _ e => e
theorem kLen (h : PS w0 l σ z) (s : Int) : Calls Tryd.prog 17 #[.pointer l, .int .i64 s] z fun e w' => e = .returned (.int .i64 ((cV [] [] (fun c => c.1) σ s).length : Int)) ∧ Hid (Below z.heap.size z w') := by
  obtain ⟨F, h1, h2, h3, h4⟩ := h
  exact (qLen h1 s).mono fun _ _ e => e
theorem FlL.pcs_ {W : World} {n₀ : Nat} {a : Option Addr} {n c : Nat} {ls : List Pc} {t : List (List Int)} (h : FlL W n₀ (.slice a n c) ls t) (hn : n ≤ 256) : Pcs W a n t := by
  have hl := ERow.len h.row
  have hb := h.bs
  refine ⟨by rw [← hb, List.length_map]; omega, hn, fun j hj => ?_⟩
  obtain ⟨p, hp⟩ : ∃ p, ls[j]? = some p := ⟨_, List.getElem?_eq_getElem (by omega)⟩
  obtain ⟨g, eg, hg, hc⟩ := ERow.at_ encPc_len h.row hp
  have d1 := hc 0 (by decide)
  simp only [encPc, List.getElem?_cons_zero, Nat.mul_one, Nat.add_zero] at d1
  have hok := (h.pcs p (List.mem_of_getElem? hp)).1
  refine ⟨g, p.a, p.n, p.c, eg, hg, d1, ?_, hok.2⟩
  rw [← hb, List.getD_eq_getElem?_getD, List.getElem?_map, hp]
  exact BRow.byts hok.1
theorem kFlight (h : PS w0 l σ z) (s : Int) {n : Nat} (hn : (cV [] [] (fun c : Sd => c.1) σ s).length = n) (hn6 : n ≤ 256) : Calls Tryd.prog 16 #[.pointer l, .int .i64 s] z fun e w' => ∃ a c, e = .returned (.slice a n c) ∧ Hid (Pcs w' a n (cV [] [] (fun c => c.1) σ s) ∧ (∃ ls, FlL w' z.heap.size (.slice a n c) ls (cV [] [] (fun c => c.1) σ s)) ∧ Below z.heap.size z w') := by
  obtain ⟨F, h1, h2, h3, h4⟩ := h
  refine (qFlight h1 s).mono fun e w' ⟨a, c, ls, e1, e2, e3⟩ => ?_
  rw [hn] at e1 e2
  exact ⟨a, c, e1, e2.pcs_ hn6, ⟨ls, e2⟩, e3⟩
end
/-- A link of nothing. -/
def sg0 : LSt := some (([], -1), ([], -1))
theorem kNew (w : World) : Calls Tryd.prog 9 #[] w fun e w' => e = .returned (.pointer (some ⟨w.heap.size, 0, none⟩)) ∧ Hid (PS w (some ⟨w.heap.size, 0, none⟩) sg0 w' ∧ w'.heap.size = w.heap.size + 1) :=
  (pnew_any w).mono fun e w' ⟨e1, e2⟩ => ⟨e1, ⟨fun _ => False, ⟨w.heap.size, dw0, dw0, rfl, e2.out.1, rfl, rfl⟩, fun lb e => by injection e with e; injection e with e; omega, fun b => False.elim, e2.out.2.1⟩, e2.out.2.2⟩
theorem byts_new (w : World) (bs : List Int) (fr : Nat × Nat) : Byts (w.alloc (.cells (bs.map (Value.int .u8)).toArray 5 fr)) (some ⟨w.heap.size, 0, none⟩) bs.length bs := by
  refine ⟨rfl, fun j hj => ⟨w.heap.size, 0, rfl, by simp, ?_⟩⟩
  have e := heap_alloc_new w (.cells (bs.map (Value.int .u8)).toArray 5 fr)
  rw [World.cell?, e]
  simp [List.getD_eq_getElem?_getD, List.getElem?_eq_getElem hj]
def strOf (xs : List Int) : ByteArray := xs.foldl (fun r n => r.push (UInt8.ofNat n.toNat)) ByteArray.empty
theorem u8s_get {xs : List Int} {j : Nat} {u : Value} (h : (xs.map (Value.int .u8))[j]? = some u) : j < xs.length ∧ u = .int .u8 (xs.getD j 0) := by
  rw [List.getElem?_map] at h
  obtain ⟨x, hx, rfl⟩ := Option.map_eq_some_iff.1 h
  have hj := (List.getElem?_eq_some_iff.1 hx).1
  refine ⟨hj, ?_⟩
  rw [List.getD_eq_getElem?_getD, hx]
  rfl
theorem Byts.load {P : Program} {w : World} {a : Addr} {n : Nat} {bs : List Int} (h : Byts w (some a) n bs) : (loadCells a n).run P w = .ok (bs.map (Value.int .u8)).toArray w := by
  have hm := h.len
  have := run_loadCells_list (P := P) w a (bs.map (Value.int .u8)) (fun j u hu => by
    obtain ⟨hj, rfl⟩ := u8s_get (xs := bs) hu
    obtain ⟨b, o, e, _, hc⟩ := h.cell j (by omega)
    obtain rfl : a = ⟨b, o, none⟩ := by simpa using e
    rw [Addr.add_lit]; exact hc)
  rwa [List.length_map, hm] at this
theorem run_conv_bytes {w : World} {po : Option Addr} {m : Nat} {bs : List Int} (h : Byts w po m bs) (c : Nat) : (convert 27 9 (.slice po m c)).run Tryd.prog w = .ok (.string (strOf bs)) w := by
  rw [run_convert_bytes_string w _ _ _ _ _ _ Tryd.underlying27 Tryd.underlying5 Tryd.underlying9]
  cases po with
  | none =>
    have m0 : m = 0 := by
      rcases Nat.eq_zero_or_pos m with g | g
      · exact g
      · obtain ⟨_, _, e, _⟩ := h.cell 0 g; cases e
    obtain rfl : bs = [] := List.eq_nil_of_length_eq_zero (by rw [h.len]; exact m0)
    simp [Conv.bytesToString, strOf, Sem.run_pure]
  | some a => exact run_bytesToString w _ _ _ _ h.load
/-- What the anchor holds against Flight. -/
theorem lit_pcs (w : World) : Pcs (((w.alloc (.cells #[.int .u8 100] 5 (1, 2))).alloc (.cells #[.int .u8 120, .int .u8 121] 5 (2, 3))).alloc (.cells #[.slice (some ⟨w.heap.size, 0, none⟩) 1 1, .slice (some ⟨w.heap.size + 1, 0, none⟩) 2 2] 27)) (some ⟨w.heap.size + 1 + 1, 0, none⟩) 2 [[100], [120, 121]] := by
  have b1 := byts_new w [100] (1, 2)
  have b2 := byts_new (w.alloc (.cells #[.int .u8 100] 5 (1, 2))) [120, 121] (2, 3)
  have c1 := (b1.below ((Below.refl _ _).alloc (Nat.le_refl _) (.cells #[.int .u8 120, .int .u8 121] 5 (2, 3)))).below ((Below.refl _ _).alloc (Nat.le_refl _) (.cells #[.slice (some ⟨w.heap.size, 0, none⟩) 1 1, .slice (some ⟨w.heap.size + 1, 0, none⟩) 2 2] 27))
  have c2 := b2.below ((Below.refl _ _).alloc (Nat.le_refl _) (.cells #[.slice (some ⟨w.heap.size, 0, none⟩) 1 1, .slice (some ⟨w.heap.size + 1, 0, none⟩) 2 2] 27))
  have e := heap_alloc_new ((w.alloc (.cells #[.int .u8 100] 5 (1, 2))).alloc (.cells #[.int .u8 120, .int .u8 121] 5 (2, 3))) (.cells #[.slice (some ⟨w.heap.size, 0, none⟩) 1 1, .slice (some ⟨w.heap.size + 1, 0, none⟩) 2 2] 27)
  simp only [World.size_alloc] at e c1 c2
  refine ⟨rfl, by omega, fun j hj => ⟨w.heap.size + 1 + 1, ?_⟩⟩
  rcases (by omega : j = 0 ∨ j = 1) with rfl | rfl
  · exact ⟨_, 1, 1, rfl, by simp, hcell e 0, c1, by omega⟩
  · exact ⟨_, 2, 2, rfl, by simp, hcell e 1, c2, by omega⟩
def sg1 : LSt := some (([[97, 98, 99, 100]], -1), ([], -1))
def sg2 : LSt := some (([[97, 98, 99, 100], [120, 121]], -1), ([], -1))
def sg3 : LSt := some (([[100], [120, 121]], 0), ([], -1))
set_option maxRecDepth 100000 in
set_option maxHeartbeats 4000000 in
theorem anchor_true (w : World) (hE : ErrType w) : Calls Tryd.prog 10 #[] w fun e w' => e = .returned (.bool true) ∧ Below w.heap.size w w' := by
  have kc := fun (v : World) (C : Array Value) (n c : Nat) => Lib.run_convert_bytes_const (P := Tryd.prog) v 27 5 C n c Tryd.underlying27 Tryd.underlying5
  have HN := kNew w
  have HE : Hid (ErrType w) := hE
  obtain ⟨lb, hlb⟩ : ∃ lb, w.heap.size = lb := ⟨_, rfl⟩
  rw [hlb] at HN
  have HL : Hid (w.heap.size = lb) := hlb
  clear hE hlb
  go_enter Tryd.func10, Tryd.ntmps10
  go_wp2_with fail
  refine HN.mono ?_
  rintro _ w1 ⟨rfl, H1⟩
  go_wp2_with fail
  refine (kSend (H1.out.1.below ((Below.refl _ _).alloc (Nat.le_refl _) _)) (byts_new w1 [97, 98, 99, 100] (4, 5)) 0).mono ?_
  rintro _ w2 ⟨v2, rfl, H2⟩
  obtain rfl : v2 = .nilIface := ev0 (show EvIs w2 v2 0 0 from H2.out.1)
  have H2' : Hid (PS w (some ⟨lb, 0, none⟩) sg1 w2) := H2.out.2.1
  clear H2 H1 HN
  go_wp2_with fail
  refine (kSend (H2'.out.below ((Below.refl _ _).alloc (Nat.le_refl _) _)) (byts_new w2 [120, 121] (2, 3)) 0).mono ?_
  rintro _ w3 ⟨v3, rfl, H3⟩
  obtain rfl : v3 = .nilIface := ev0 (show EvIs w3 v3 0 0 from H3.out.1)
  have H3' : Hid (PS w (some ⟨lb, 0, none⟩) sg2 w3) := H3.out.2.1
  clear H3 H2'
  go_wp2_with fail
  refine (kCarry H3'.out 0 0 3).mono ?_
  rintro _ w4 ⟨a4, m4, c4, v4, rfl, H4⟩
  obtain rfl : v4 = .nilIface := ev0 (show EvIs w4 v4 0 0 from H4.out.2.2.1)
  obtain rfl : m4 = 3 := ERow.len (show BRow w4 w3.heap.size (.slice a4 m4 c4) [97, 98, 99] from H4.out.1)
  have H4' : Hid (PS w (some ⟨lb, 0, none⟩) sg3 w4 ∧ BRow w4 w3.heap.size (.slice a4 3 c4) [97, 98, 99]) := ⟨H4.out.2.2.2.1, H4.out.1⟩
  have hl3 : lb < w3.heap.size := by
    obtain ⟨F, h1, _⟩ := H3'.out
    exact (h1.lt.2 lb rfl).1
  have HL3 : Hid (lb < w3.heap.size) := hl3
  clear H4 H3' hl3
  go_wp2_with fail
  refine (kCarry H4'.out.1 0 1 0).mono ?_
  rintro _ w5 ⟨a5, m5, c5, v5, rfl, H5⟩
  have H5' : Hid (PS w (some ⟨lb, 0, none⟩) sg3 w5 ∧ EvIs w5 v5 0 2) := ⟨H5.out.2.2.2.1, H5.out.2.2.1⟩
  have hp : BRow w5 w3.heap.size (.slice a4 3 c4) [97, 98, 99] := ERow.off H4'.out.2 H5.out.2.2.2.2 fun g hg e => by
    injection e with e; injection e with e
    have := (ERow.lt H4'.out.2 hg).1
    have := HL3.out
    omega
  have hcv := run_conv_bytes (BRow.byts hp) c4
  rw [show strOf [97, 98, 99] = ⟨#[97, 98, 99]⟩ from rfl] at hcv
  have HI := is_any H5'.out.2 (errType_below HE.out H5'.out.1.b)
  clear H5 H4' hp HL3
  go_wp2_with fail
  refine HI.mono ?_
  rintro _ w6 ⟨rfl, hb6⟩
  have H6 : Hid (PS w (some ⟨lb, 0, none⟩) sg3 w6) := H5'.out.1.below hb6
  clear HI hb6 H5' hcv
  go_wp2_with fail
  refine (kHalf H6.out 0).mono ?_
  rintro _ w7 ⟨rfl, hb7⟩
  have H7 : Hid (PS w (some ⟨lb, 0, none⟩) sg3 w7) := H6.out.below hb7.out
  clear hb7 H6
  have e7 : cV (-1) (-1) (fun c : Sd => c.2) sg3 0 = 0 := rfl
  rw [e7]
  clear e7
  go_wp2_with fail
  refine (kFlight H7.out 0 (n := 2) rfl (by omega)).mono ?_
  rintro _ w8 ⟨a8, c8, rfl, H8⟩
  have H8' : Hid (Pcs w8 a8 2 [[100], [120, 121]] ∧ Below w.heap.size w w8) := ⟨H8.out.1, below_then H7.out.b H8.out.2.2⟩
  clear H8 H7
  have kc2 := kc (w8.alloc (.cells #[.int .u8 100] 5 (1, 2))) #[.int .u8 120, .int .u8 121] 2 2
  simp only [World.size_alloc] at kc2
  go_wp2_with fail
  refine (like_true (H8'.out.1.below ?_) (lit_pcs w8)).mono ?_
  · exact (((Below.refl _ _).alloc (Nat.le_refl _) _).alloc (by simp) _).alloc (by simp; omega) _
  rintro _ w9 ⟨rfl, k9, rfl⟩
  have hb9 : Below w.heap.size w ((((w8.alloc (.cells #[.int .u8 100] 5 (1, 2))).alloc (.cells #[.int .u8 120, .int .u8 121] 5 (2, 3))).alloc (.cells #[.slice (some ⟨w8.heap.size, 0, none⟩) 1 1, .slice (some ⟨w8.heap.size + 1, 0, none⟩) 2 2] 27)).drewN k9) := below_then H8'.out.2 (below_drewN ((((Below.refl _ _).alloc (Nat.le_refl _) _).alloc (by simp) _).alloc (by simp; omega) _) k9)
  have HB : Hid (type_of% hb9) := hb9
  clear hb9 H8'
  go_wp2_with fail
  go_ret
  exact ⟨rfl, HB.out⟩
end Go.Proofs.YtpcickhellkiaaaDoor
