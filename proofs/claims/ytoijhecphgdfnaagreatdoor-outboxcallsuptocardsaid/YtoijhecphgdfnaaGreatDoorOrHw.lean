import Derived.Test.YtoijhecphgdfnaaGreatDoorOrPlay
import Derived.Test.YtoijhecphgdfnaaGreatDoorOxHeads
/-
  The law's plays: Add.
-/
namespace Go.Proofs.YtoijhecphgdfnaaGreatDoor
open Go.RowKit

section
variable {w w1 w' w'' : World} {K b kb r : Nat} {v L : Value} {sq : Bool} {tr : Int} {ms rs : List Msg} {P P' : Nat → Prop}
theorem Pr.below (h : Pr w K b kb r v L sq tr ms rs) (hb : Below w.heap.size w w') : Pr w' K b kb r v L sq tr ms rs := ⟨h.pb.below hb, h.wis, h.ok⟩
theorem PlR.back (hb : Below w.heap.size w w1) (h : PlR w1 K b kb r v L sq tr ms rs P w') (hP : ∀ q, P q → q < w.heap.size → P' q) : PlR w K b kb r v L sq tr ms rs P' w' := by
  obtain ⟨v', L', ms', rs', h1, h2, h3⟩ := h
  refine ⟨v', L', ms', rs', h1, fun q hq => (h2 q hq).imp id fun g => Nat.le_trans hb.size g, (Off.of_below hb).join h3 fun q hl hq => ?_⟩
  rcases hq with e | e
  · exact Or.inl e
  · exact Or.inr (hP q e hl)
theorem PlR.own (h : PlR w K b kb r v L sq tr ms rs P w') (o : Off P' w' w'') (hP : ∀ q, P' q → P q ∧ q < w.heap.size ∧ ¬ Ft b kb r v L ms rs q) : PlR w K b kb r v L sq tr ms rs P w'' := by
  obtain ⟨v', L', ms', rs', h1, h2, h3⟩ := h
  refine ⟨v', L', ms', rs', ⟨h1.pb.off o fun q hq hp => ?_, h1.wis, h1.ok⟩, h2, h3.trans (o.mono fun q hq => Or.inr (hP q hq).1)⟩
  obtain ⟨_, g2, g3⟩ := hP q hp
  rcases h2 q hq with g | g
  · exact g3 g
  · omega
theorem PlR.below (h : PlR w K b kb r v L sq tr ms rs P w') (hb : Below w'.heap.size w' w'') : PlR w K b kb r v L sq tr ms rs P w'' := by
  obtain ⟨v', L', ms', rs', h1, h2, h3⟩ := h
  exact ⟨v', L', ms', rs', h1.below hb, h2, h3.trans (Off.of_below hb)⟩
end
theorem Byts.offP {P : Nat → Prop} {w w' : World} {po : Option Addr} {n : Nat} {bs : List Int} (h : Byts w po n bs) (ho : Off P w w') (hP : 0 < n → ∀ b o, po = some ⟨b, o, none⟩ → b < w.heap.size → ¬ P b) : Byts w' po n bs := by
  rcases Nat.eq_zero_or_pos n with e | e
  · exact ⟨h.len, fun j hj => by omega⟩
  · exact h.off ho (hP e)
theorem PaQ.rb {w1 w2 : World} {K b kb r : Nat} {v L : Value} {sq : Bool} {tr : Int} {ms rs : List Msg} {m : Msg} {e : Ending} (h : Pr w1 K b kb r v L sq tr ms rs) (hq : PaQ w1 b kb v sq tr ms m e w2) : RB w2 K r L sq tr rs ∧ Off (fun q => q = kb ∨ v.ownBlock = some q) w1 w2 := by
  obtain ⟨ev, _, h1⟩ := hq
  rcases h1.out.2 with ⟨_, g⟩ | ⟨_, a, c, g1, g⟩
  · obtain ⟨v', k1, _, k3⟩ := h.pb.left g (txin_ht (TxIn.refl ms) _)
    exact ⟨k1.rb, k3⟩
  · obtain ⟨v', k1, _, k3⟩ := h.pb.left g (add_ht g1)
    exact ⟨k1.rb, k3⟩
theorem RaQ.off {w2 w3 : World} {B r : Nat} {L : Value} {sq : Bool} {tr : Int} {rs : List Msg} {m : Msg} {e : Ending} (hq : RaQ w2 B r L sq tr rs m e w3) : Off (fun q => q = r ∨ L.ownBlock = some q) w2 w3 := by
  rcases hq.2.out with ⟨_, L', _, o, _⟩ | ⟨_, a, c, _, L', _, o, _⟩
  · exact o
  · exact o
section
variable {w : World} {K b kb r : Nat} {v L : Value} {sq : Bool} {tr : Int} {ms rs : List Msg}
set_option maxRecDepth 100000 in
set_option maxHeartbeats 8000000 in
theorem plays_add (h : Pr w K b kb r v L sq tr ms rs) (hV : PVc w) (x : Opv) (hp : Byts w x.tp x.tn x.tx) (hpo : x.tp = none → x.tc = 0) (hl : x.tn + 90 ≤ 140737488355328) (hK : 0 < x.tn → ∀ b o, x.tp = some ⟨b, o, none⟩ → b < K) (hv : Value) :
    Calls Tryz.prog 7 #[.agg #[.pointer (some ⟨b, 0, none⟩), .pointer (some ⟨r, 0, none⟩)], .agg #[.int .i64 1, .string x.ct, .slice x.tp x.tn x.tc, .bool x.e, .int .i64 x.a, .int .i64 x.p, .string x.cd, .int .i64 x.n], hv] w fun e w' => e = .returned (.bool true) ∧ Hid (PlR w K b kb r v L sq tr ms rs (fun _ => False) w') := by
  have bv : Below w.heap.size w ((w.alloc (.cells #[.pointer (some ⟨b, 0, none⟩), .pointer (some ⟨r, 0, none⟩)] 29)).alloc (.cells #[.int .i64 1, .string x.ct, .slice x.tp x.tn x.tc, .bool x.e, .int .i64 x.a, .int .i64 x.p, .string x.cd, .int .i64 x.n] 47)) := ((Below.refl _ _).alloc (Nat.le_refl _) _).alloc (by simp) _
  have bx := (Box.new w #[.pointer (some ⟨b, 0, none⟩), .pointer (some ⟨r, 0, none⟩)] 29).alloc (.cells #[.int .i64 1, .string x.ct, .slice x.tp x.tn x.tc, .bool x.e, .int .i64 x.a, .int .i64 x.p, .string x.cd, .int .i64 x.n] 47)
  have by_ := Box.new (w.alloc (.cells #[.pointer (some ⟨b, 0, none⟩), .pointer (some ⟨r, 0, none⟩)] 29)) #[.int .i64 1, .string x.ct, .slice x.tp x.tn x.tc, .bool x.e, .int .i64 x.a, .int .i64 x.p, .string x.cd, .int .i64 x.n] 47
  rw [World.size_alloc] at by_
  obtain ⟨V, hVV⟩ : ∃ V, ((w.alloc (.cells #[.pointer (some ⟨b, 0, none⟩), .pointer (some ⟨r, 0, none⟩)] 29)).alloc (.cells #[.int .i64 1, .string x.ct, .slice x.tp x.tn x.tc, .bool x.e, .int .i64 x.a, .int .i64 x.p, .string x.cd, .int .i64 x.n] 47)) = V := ⟨_, rfl⟩
  rw [hVV] at bv bx by_
  obtain ⟨xb, hxb⟩ : ∃ xb, w.heap.size = xb := ⟨_, rfl⟩
  rw [hxb] at bx by_
  have HX : Hid (Box V xb #[.pointer (some ⟨b, 0, none⟩), .pointer (some ⟨r, 0, none⟩)] ∧ Box V (xb + 1) #[.int .i64 1, .string x.ct, .slice x.tp x.tn x.tc, .bool x.e, .int .i64 x.a, .int .i64 x.p, .string x.cd, .int .i64 x.n]) := ⟨bx, by_⟩
  have HB : Hid (Below w.heap.size w V) := bv
  have HH : Hid (Pr w K b kb r v L sq tr ms rs ∧ PVc w ∧ Byts w x.tp x.tn x.tx ∧ (x.tp = none → x.tc = 0) ∧ x.tn + 90 ≤ 140737488355328 ∧ (0 < x.tn → ∀ b o, x.tp = some ⟨b, o, none⟩ → b < K)) := ⟨h, hV, hp, hpo, hl, hK⟩
  have y0 : V.cell? ⟨xb + 1, 0, none⟩ = some (.int .i64 1) := by_.cell 0
  have y1 : V.cell? ⟨xb + 1, 1, none⟩ = some (.string x.ct) := by_.cell 1
  have y2 : V.cell? ⟨xb + 1, 2, none⟩ = some (.slice x.tp x.tn x.tc) := by_.cell 2
  have hhd := hand_full (c := x.tc) V (hp.below bv) hl
  clear h hV hp hpo bv bx by_ hK
  go_enter Tryz.func7, Tryz.ntmps7
  go_upto_region 3 with fail
  clear hVV
  go_wp2_with fail
  refine hhd.mono ?_
  rintro _ w1 ⟨g, rfl, hm, hb1⟩
  have HW1 : Hid (Below w.heap.size w w1 ∧ Mkd w1 V.heap.size g x.tn x.tx) := ⟨below_then HB.out hb1, hm⟩
  have hmb : Byts w1 (some ⟨g, 0, none⟩) x.tn x.tx := hm.byts
  have hP1 := HH.out.1.below HW1.out.1
  have hpa := pAdd (m := ⟨x.ct, some ⟨g, 0, none⟩, x.tn, x.tn + 90, x.tx, x.e, x.a, x.p, 0, false, 0, 0, false⟩) hP1.pb.bx (HH.out.2.1.below HW1.out.1) rfl rfl rfl rfl rfl hmb (fun e => by cases e)
  have d0 : w1.cell? ⟨xb, 0, none⟩ = some (.pointer (some ⟨b, 0, none⟩)) := (HX.out.1.below hb1).cell 0
  have e1 : w1.cell? ⟨xb + 1, 1, none⟩ = some (.string x.ct) := (HX.out.2.below hb1).cell 1
  have e3 : w1.cell? ⟨xb + 1, 3, none⟩ = some (.bool x.e) := (HX.out.2.below hb1).cell 3
  have e4 : w1.cell? ⟨xb + 1, 4, none⟩ = some (.int .i64 x.a) := (HX.out.2.below hb1).cell 4
  have e5 : w1.cell? ⟨xb + 1, 5, none⟩ = some (.int .i64 x.p) := (HX.out.2.below hb1).cell 5
  have HX1 : Hid (Box w1 xb #[.pointer (some ⟨b, 0, none⟩), .pointer (some ⟨r, 0, none⟩)] ∧ Box w1 (xb + 1) #[.int .i64 1, .string x.ct, .slice x.tp x.tn x.tc, .bool x.e, .int .i64 x.a, .int .i64 x.p, .string x.cd, .int .i64 x.n] ∧ w.heap.size ≤ xb) := ⟨HX.out.1.below hb1, HX.out.2.below hb1, by rw [hxb]; exact Nat.le_refl _⟩
  clear hhd hm hb1 hmb hP1 y0 y1 y2 HX
  go_upto_region 5 with (go_at_call 16; refine hpa.mono ?_; rintro _ w2 h2; obtain ⟨ev, rfl, HA2⟩ := h2)
  have HA : Hid (PaQ w1 b kb v sq tr ms ⟨x.ct, some ⟨g, 0, none⟩, x.tn, x.tn + 90, x.tx, x.e, x.a, x.p, 0, false, 0, 0, false⟩ (.returned ev) w2) := ⟨ev, rfl, HA2⟩
  have hP1 := HH.out.1.below HW1.out.1
  obtain ⟨rb2, o2⟩ := PaQ.rb hP1 HA.out
  have lt1 : ∀ q, Ft b kb r v L ms rs q → K ≤ q ∧ q < w.heap.size := fun q hq => HH.out.1.pb.lt hq
  have nk : ∀ q, (q = kb ∨ v.ownBlock = some q) → K ≤ q ∧ q < w.heap.size := fun q hq => by
    rcases hq with e | e
    · exact lt1 q (Or.inr (Or.inl e))
    · exact lt1 q (Or.inr (Or.inr (Or.inr (Or.inl e))))
  have nr : ∀ q, (q = r ∨ L.ownBlock = some q) → K ≤ q ∧ q < w.heap.size := fun q hq => by
    rcases hq with e | e
    · exact lt1 q (Or.inr (Or.inr (Or.inl e)))
    · exact lt1 q (Or.inr (Or.inr (Or.inr (Or.inr (Or.inl e)))))
  have lx := HX1.out.1.lt
  have ly := HX1.out.2.1.lt
  have hxw := HX1.out.2.2
  have kc : ∀ q, w2.cell? ⟨xb + 1, q, none⟩ = w1.cell? ⟨xb + 1, q, none⟩ := fun q => o2.cell (p := ⟨xb + 1, q, none⟩) ly fun hq => by have := (nk (xb + 1) hq).2; omega
  have kc0 : ∀ q, w2.cell? ⟨xb, q, none⟩ = w1.cell? ⟨xb, q, none⟩ := fun q => o2.cell (p := ⟨xb, q, none⟩) lx fun hq => by have := (nk xb hq).2; omega
  have f0 : w2.cell? ⟨xb, 1, none⟩ = some (.pointer (some ⟨r, 0, none⟩)) := (kc0 1).trans (HX1.out.1.cell 1)
  have f1 : w2.cell? ⟨xb + 1, 1, none⟩ = some (.string x.ct) := (kc 1).trans e1
  have f2 : w2.cell? ⟨xb + 1, 2, none⟩ = some (.slice x.tp x.tn x.tc) := (kc 2).trans (HX1.out.2.1.cell 2)
  have f3 : w2.cell? ⟨xb + 1, 3, none⟩ = some (.bool x.e) := (kc 3).trans e3
  have f4 : w2.cell? ⟨xb + 1, 4, none⟩ = some (.int .i64 x.a) := (kc 4).trans e4
  have f5 : w2.cell? ⟨xb + 1, 5, none⟩ = some (.int .i64 x.p) := (kc 5).trans e5
  have hb2 : Byts w2 x.tp x.tn x.tx := (HH.out.2.2.1.below HW1.out.1).offP o2 fun h0 c o e _ hq => by have := (nk c hq).1; have := HH.out.2.2.2.2.2 h0 c o e; omega
  have HB2 : Hid (Byts w2 x.tp x.tn x.tx) := hb2
  have hra := rAdd (m := ⟨x.ct, x.tp, x.tn, x.tc, x.tx, x.e, x.a, x.p, 0, false, 0, 0, false⟩) rb2 rfl rfl rfl rfl rfl hb2
  have HN : Hid ((∀ q, (q = kb ∨ v.ownBlock = some q) → K ≤ q ∧ q < w.heap.size) ∧ (∀ q, (q = r ∨ L.ownBlock = some q) → K ≤ q ∧ q < w.heap.size) ∧ Off (fun q => q = kb ∨ v.ownBlock = some q) w1 w2) := ⟨nk, nr, o2⟩
  clear hpa HA2 hP1 rb2 o2 lt1 nk nr kc kc0 hb2 d0 e1 e3 e4 e5
  go_upto_region 6 with (go_at_call 17; refine hra.mono ?_; rintro _ w3 ⟨rfl, h3⟩)
  have HR : Hid (RaQ w2 K r L sq tr rs ⟨x.ct, x.tp, x.tn, x.tc, x.tx, x.e, x.a, x.p, 0, false, 0, 0, false⟩ (.returned (.int .i64 (addC sq rs ⟨x.ct, x.tp, x.tn, x.tc, x.tx, x.e, x.a, x.p, 0, false, 0, 0, false⟩))) w3) := ⟨rfl, h3⟩
  have o3 := RaQ.off HR.out
  obtain ⟨q1, q2⟩ := Pr.add (P := fun q => q = g) (HH.out.1.below HW1.out.1) (Below.refl w1.heap.size w1) (m := ⟨x.ct, x.tp, x.tn, x.tc, x.tx, x.e, x.a, x.p, 0, false, 0, 0, false⟩) (tp := some ⟨g, 0, none⟩) (tc := x.tn + 90) HA.out (Below.refl _ _) HR.out rfl
  have hm1 := HW1.out.2
  have hgl := hm1.lt
  have hVs := HB.out.size
  have hm3 : Mkd w3 V.heap.size g x.tn x.tx := (hm1.off HN.out.2.2 fun hq => by have := (HN.out.1 g hq).2; omega).off o3 fun hq => by have := (HN.out.2.1 g hq).2; omega
  have g2 : w3.cell? ⟨xb + 1, 2, none⟩ = some (.slice x.tp x.tn x.tc) := (o3.cell (p := ⟨xb + 1, 2, none⟩) (cell_lt f2) fun hq => by have := (HN.out.2.1 (xb + 1) hq).2; have := HX1.out.2.2; omega).trans f2
  have hb3 : Byts w3 x.tp x.tn x.tx := HB2.out.offP o3 fun h0 c o e _ hq => by have := (HN.out.2.1 c hq).1; have := HH.out.2.2.2.2.2 h0 c o e; omega
  obtain ⟨cd, hcd⟩ : ∃ cd, addC sq rs ⟨x.ct, x.tp, x.tn, x.tc, x.tx, x.e, x.a, x.p, 0, false, 0, 0, false⟩ = cd := ⟨_, rfl⟩
  rw [hcd] at q1 ⊢
  have hq1 : ErrV w3 ev 0 cd := (q1.off o3 fun q h1 h2 h3 => by have := (HN.out.2.1 q h3).2; have := HW1.out.1.size; omega).err
  have hrf := refused_any hq1
  have hkp := Kept_true (c := x.tc) w3 hm3 hb3 HH.out.2.2.2.2.1
  have HQ : Hid (PlR w1 K b kb r v L sq tr ms rs (fun q => q = g) w3 ∧ Mkd w3 V.heap.size g x.tn x.tx ∧ g < w1.heap.size) := ⟨q2, hm3, hgl.2⟩
  clear hra HR HA o3 q1 q2 hm1 hgl hVs hm3 hb3 hcd hq1 h3 f0 f1 f2 f3 f4 f5
  go_cut [10] from 56 to 64 (fun t wx => t = .bool true ∧ ∃ k, wx = w3.drewN k)
  case first =>
    go_wp2_with (first | (go_at_call 13; refine hrf.mono ?_; rintro _ w9 ⟨rfl, h9⟩; subst w9) | (go_at_call 14; refine hkp.mono ?_; rintro _ w9 ⟨rfl, k, rfl⟩))
    go_meet
    exact ⟨rfl, k, rfl⟩
  case rest =>
  obtain ⟨rfl, k, hw⟩ := hcut
  rw [hw]
  clear hw hrf hkp
  have HL0 : Hid (PlR w1 K b kb r v L sq tr ms rs (fun q => q = g) (w3.drewN k) ∧ ∃ bs, BRow (w3.drewN k) V.heap.size (.slice (some ⟨g, 0, none⟩) x.tn (x.tn + 90)) bs) := ⟨HQ.out.1.below (below_drewN (Below.refl _ _) k), _, ERow.below (mkd_pre HQ.out.2.1) (below_drewN (Below.refl _ _) k)⟩
  have hl2 : (x.tn : Int) + 90 ≤ 140737488355328 := by omega
  go_upto_region 8 with fail
  go_loopw [11] (fun t wx => ∃ j : Nat, j ≤ x.tn ∧ t = .int .i64 j ∧ Hid (PlR w1 K b kb r v L sq tr ms rs (fun q => q = g) wx ∧ ∃ bs, BRow wx V.heap.size (.slice (some ⟨g, 0, none⟩) x.tn (x.tn + 90)) bs)) (fun t _ => x.tn - (intOf t).toNat)
  case atStart => exact ⟨0, Nat.zero_le _, rfl, HL0⟩
  case round =>
    obtain ⟨j, hj, rfl, HR⟩ := hrel
    clear HL0
    by_cases hlt : j < x.tn
    · have hlt1 : (j : Int) < x.tn := by omega
      obtain ⟨bs, hb⟩ := HR.out.2
      have k1 : wr.cell? ⟨g, j, none⟩ = some (.int .u8 (bs.getD j 0)) := hb.slot (by rw [← ERow.len hb]; exact hlt)
      have k2 := hb.thaw j
      have HJ : Hid (∀ z : Int, PlR w1 K b kb r v L sq tr ms rs (fun q => q = g) (wr.setCell ⟨g, j, none⟩ (.int .u8 z)) ∧ ∃ bs, BRow (wr.setCell ⟨g, j, none⟩ (.int .u8 z)) V.heap.size (.slice (some ⟨g, 0, none⟩) x.tn (x.tn + 90)) bs) := fun z => by
        have o : Off (fun q => q = g) wr (wr.setCell ⟨g, j, none⟩ (.int .u8 z)) := Off.setCell (P := fun q => q = g) (Off.refl _ _) (p := ⟨g, j, none⟩) rfl _
        refine ⟨HR.out.1.own o fun q hq => ⟨hq, by have := HQ.out.2.2; omega, fun hf => ?_⟩, _, BRow.stored hb j z (by rw [← ERow.len hb]; exact hlt)⟩
        have h1 := (HH.out.1.pb.lt hf).2
        have h2 := HQ.out.2.1.lt.1
        have h3 := HB.out.size
        omega
      clear hb HR
      go_wp2_with fail
      go_roundw
      case rel => exact ⟨j + 1, hlt, by go_num, HJ.out _⟩
      case measure => simp [intOf]; omega
    · have hlt1 : ¬ (j : Int) < x.tn := by omega
      have HE : Hid (PlR w K b kb r v L sq tr ms rs (fun _ => False) wr) := HR.out.1.back HW1.out.1 fun q hq hl => by
        have h2 := HQ.out.2.1.lt.1
        have h3 := HB.out.size
        omega
      clear HR
      go_wp2_with fail
      go_ret
      exact ⟨rfl, HE⟩
end
end Go.Proofs.YtoijhecphgdfnaaGreatDoor

/-
  The law's plays: Give.
-/
namespace Go.Proofs.YtoijhecphgdfnaaGreatDoor
open Go.RowKit

section
variable {w w1 w2 w3 : World} {K b kb r : Nat} {v L : Value} {sq : Bool} {tr : Int} {ms rs : List Msg}
theorem Wis.giv (h : Wis ms rs) (x : Int) : givC sq ms x = givC sq rs x := by unfold givC; rw [h.nx]
theorem Wis.givM (h : Wis ms rs) (x : Int) : Wis (Go.Proofs.YtoijhecphgdfnaaGreatDoor.givM sq ms x) (Go.Proofs.YtoijhecphgdfnaaGreatDoor.givM sq rs x) := by
  unfold Go.Proofs.YtoijhecphgdfnaaGreatDoor.givM
  rw [h.giv]
  split
  · cases hm : ms[0]? with
    | none => rw [h.at_none hm]; exact h
    | some m =>
      obtain ⟨y, a, c, hy, rfl⟩ := h.at_ hm
      rw [hy]
      exact h.set (by exact ⟨a, c, rfl⟩)
  · exact h
theorem okk_giveM (h : Okk sq tr ms) (x : Int) : Okk sq tr (Go.Proofs.YtoijhecphgdfnaaGreatDoor.givM sq ms x) := by
  unfold Go.Proofs.YtoijhecphgdfnaaGreatDoor.givM
  split
  · rename_i hc
    cases hm : ms[0]? with
    | none => exact h
    | some m =>
      unfold givC at hc
      split at hc
      · cases hc
      split at hc
      · cases hc
      · rename_i h1 h2
        rw [not_or] at h1
        exact okk_give h ((Bool.not_eq_false _).mp h1.1) hm ((Bool.not_eq_false _).mp h2)
  · exact h
theorem gv_rbq {B : Nat} {x : Int} {e : Ending} (h : RB w B r L sq tr rs) (hq : GvQ w B r L sq tr rs x e w1) : RBQ w B r L sq tr (Go.Proofs.YtoijhecphgdfnaaGreatDoor.givM sq rs x) w1 := by
  rcases hq.2.out with ⟨h1, rfl⟩ | ⟨h1, m, hm, _, h2⟩
  · unfold Go.Proofs.YtoijhecphgdfnaaGreatDoor.givM
    rw [if_neg h1]
    exact RBQ.refl h
  · unfold Go.Proofs.YtoijhecphgdfnaaGreatDoor.givM
    rw [if_pos h1, hm]
    exact h2
set_option maxRecDepth 100000 in
set_option maxHeartbeats 8000000 in
theorem plays_give (h : Pr w K b kb r v L sq tr ms rs) (x : Opv) (hv : Value) :
    Calls Tryz.prog 7 #[.agg #[.pointer (some ⟨b, 0, none⟩), .pointer (some ⟨r, 0, none⟩)], .agg #[.int .i64 3, .string x.ct, .slice x.tp x.tn x.tc, .bool x.e, .int .i64 x.a, .int .i64 x.p, .string x.cd, .int .i64 x.n], hv] w fun e w' => e = .returned (.bool true) ∧ Hid (PlR w K b kb r v L sq tr ms rs (fun _ => False) w') := by
  have bv : Below w.heap.size w ((w.alloc (.cells #[.pointer (some ⟨b, 0, none⟩), .pointer (some ⟨r, 0, none⟩)] 29)).alloc (.cells #[.int .i64 3, .string x.ct, .slice x.tp x.tn x.tc, .bool x.e, .int .i64 x.a, .int .i64 x.p, .string x.cd, .int .i64 x.n] 47)) := ((Below.refl _ _).alloc (Nat.le_refl _) _).alloc (by simp) _
  have bx := (Box.new w #[.pointer (some ⟨b, 0, none⟩), .pointer (some ⟨r, 0, none⟩)] 29).alloc (.cells #[.int .i64 3, .string x.ct, .slice x.tp x.tn x.tc, .bool x.e, .int .i64 x.a, .int .i64 x.p, .string x.cd, .int .i64 x.n] 47)
  have by_ := Box.new (w.alloc (.cells #[.pointer (some ⟨b, 0, none⟩), .pointer (some ⟨r, 0, none⟩)] 29)) #[.int .i64 3, .string x.ct, .slice x.tp x.tn x.tc, .bool x.e, .int .i64 x.a, .int .i64 x.p, .string x.cd, .int .i64 x.n] 47
  rw [World.size_alloc] at by_
  obtain ⟨V, hVV⟩ : ∃ V, ((w.alloc (.cells #[.pointer (some ⟨b, 0, none⟩), .pointer (some ⟨r, 0, none⟩)] 29)).alloc (.cells #[.int .i64 3, .string x.ct, .slice x.tp x.tn x.tc, .bool x.e, .int .i64 x.a, .int .i64 x.p, .string x.cd, .int .i64 x.n] 47)) = V := ⟨_, rfl⟩
  rw [hVV] at bv bx by_
  have HG : Hid (∀ z, Below V.heap.size V z → Calls Tryz.prog 21 #[.pointer (some ⟨b, 0, none⟩), .int .i64 x.n] z fun e w2 => ∃ ev, e = .returned ev ∧ Hid (Off (fun q => q < w.heap.size) V w2) ∧ Calls Tryz.prog 22 #[.pointer (some ⟨r, 0, none⟩), .int .i64 x.n] w2 fun e3 w3 => e3 = .returned (.int .i64 (givC sq rs x.n)) ∧ Hid (Off (fun q => q < w.heap.size) V w3) ∧ Hid (PlR w K b kb r v L sq tr ms rs (fun _ => False) w3) ∧ Calls Tryz.prog 13 #[ev, .int .i64 0, .int .i64 (givC sq rs x.n)] w3 fun e w' => e = .returned (.bool true) ∧ w' = w3) := fun z hz => by
    have bz := below_then bv hz
    have hPz := h.below bz
    refine (pGive hPz.pb.bx h.ok x.n).mono fun e w2 ⟨ev, e1, h2⟩ => ⟨ev, e1, ?_, ?_⟩
    · obtain ⟨v', _, o, _⟩ := h2.out.2
      exact (Off.of_below hz).trans (o.mono fun q hq => by
        rcases hq with e | e
        · exact (h.pb.lt (Or.inr (Or.inl e))).2
        · exact (h.pb.lt (Or.inr (Or.inr (Or.inr (Or.inl e))))).2)
    · obtain ⟨v', k1, _, k3⟩ := hPz.pb.left h2.out.2 (txin_ht (txin_give x.n) _)
      have o2 : Off (fun q => q < w.heap.size) V w2 := (Off.of_below hz).trans (k3.mono fun q hq => by
        rcases hq with e | e
        · exact (h.pb.lt (Or.inr (Or.inl e))).2
        · exact (h.pb.lt (Or.inr (Or.inr (Or.inr (Or.inl e))))).2)
      refine (rGive_any k1.rb x.n).mono fun e3 w3 h3 => ?_
      have hr := gv_rbq k1.rb h3
      have hrq := hr
      obtain ⟨L', _, o3, _⟩ := hrq
      have lr : ∀ q, (q = r ∨ L.ownBlock = some q) → q < w.heap.size := fun q hq => by
        rcases hq with e | e
        · exact (h.pb.lt (Or.inr (Or.inr (Or.inl e)))).2
        · exact (h.pb.lt (Or.inr (Or.inr (Or.inr (Or.inr (Or.inl e)))))).2
      refine ⟨h3.1, o2.trans (o3.mono lr), ?_, ?_⟩
      · exact h.both bz h2.out.2 (txin_ht (txin_give x.n) _) (Below.refl _ _) hr (txin_ht (txin_give x.n) _) (h.wis.givM x.n) (okk_giveM h.ok x.n)
      · rw [← h.wis.giv x.n]
        exact refused_any (h2.out.1.off o3 fun q h1 _ h4 => by have := lr q h4; have := bz.size; omega).err
  obtain ⟨xb, hxb⟩ : ∃ xb, w.heap.size = xb := ⟨_, rfl⟩
  rw [hxb] at bx by_
  have y0 : V.cell? ⟨xb + 1, 0, none⟩ = some (.int .i64 3) := by_.cell 0
  have y7 : V.cell? ⟨xb + 1, 7, none⟩ = some (.int .i64 x.n) := by_.cell 7
  have z0 : V.cell? ⟨xb, 0, none⟩ = some (.pointer (some ⟨b, 0, none⟩)) := bx.cell 0
  have z1 : V.cell? ⟨xb, 1, none⟩ = some (.pointer (some ⟨r, 0, none⟩)) := bx.cell 1
  have lx := bx.lt
  have ly := by_.lt
  have gc : ∀ {z : World}, Off (fun q => q < w.heap.size) V z → z.cell? ⟨xb, 0, none⟩ = some (.pointer (some ⟨b, 0, none⟩)) ∧ z.cell? ⟨xb, 1, none⟩ = some (.pointer (some ⟨r, 0, none⟩)) ∧ z.cell? ⟨xb + 1, 7, none⟩ = some (.int .i64 x.n) := fun {z} hz => ⟨(hz.cell (p := ⟨xb, 0, none⟩) lx (by show ¬ xb < _; omega)).trans z0, (hz.cell (p := ⟨xb, 1, none⟩) lx (by show ¬ xb < _; omega)).trans z1, (hz.cell (p := ⟨xb + 1, 7, none⟩) ly (by show ¬ xb + 1 < _; omega)).trans y7⟩
  clear h bv bx by_
  go_enter Tryz.func7, Tryz.ntmps7
  go_upto_region 18 with fail
  clear hVV
  go_region_held3 (fun z => z.cell? ⟨xb, 0, none⟩ = some (.pointer (some ⟨b, 0, none⟩)) ∧ z.cell? ⟨xb, 1, none⟩ = some (.pointer (some ⟨r, 0, none⟩)) ∧ z.cell? ⟨xb + 1, 7, none⟩ = some (.int .i64 x.n)) ((refine gc ?_; (repeat' (first | (with_reducible exact Off.refl _ _) | (with_reducible exact Hid.out (by assumption)) | (with_reducible refine Off.drew ?_))))) (first | (go_at_call 21; refine (HG.out _ (Below.drew (Below.refl _ _))).mono ?_; rintro _ w2 ⟨ev, rfl, HO2, hrg⟩) | (go_at_call 22; refine hrg.mono ?_; rintro _ w3 ⟨rfl, HO3, HP3, hrf⟩) | (go_at_call 13; refine hrf.mono ?_; rintro _ w4 ⟨rfl, h4⟩; subst w4))
  all_goals
    go_wp2_with fail
    go_ret
    exact ⟨rfl, HP3⟩
end
end Go.Proofs.YtoijhecphgdfnaaGreatDoor

/-
  The program's Get of an id that it does not hold; the law's plays of a kind that is none.
-/
namespace Go.Proofs.YtoijhecphgdfnaaGreatDoor
open Go.RowKit

section
variable {w w' : World} {b kb : Nat} {v : Value} {sq : Bool} {tr : Int} {ms : List Msg}
set_option maxRecDepth 100000 in
set_option maxHeartbeats 2000000 in
theorem get_no (h : Bx w b kb v sq tr ms) (s : ByteArray) (hf : fi s ms = none) : Calls Tryz.prog 31 #[.pointer (some ⟨b, 0, none⟩), .string s] w (ZFl w 11) := by
  have bv : Below w.heap.size w (w.alloc (.cells #[.string ⟨#[]⟩, .slice none 0 0, .bool false, .int .i64 0, .int .i64 0, .int .i64 0, .bool false, .int .i64 0, .int .i64 0, .bool false] 91)) := (Below.refl _ _).alloc (Nat.le_refl _) _
  have bx := Box.new w #[.string ⟨#[]⟩, .slice none 0 0, .bool false, .int .i64 0, .int .i64 0, .int .i64 0, .bool false, .int .i64 0, .int .i64 0, .bool false] 91
  have hkf := bfind_no (h.below bv) s hf
  clear h hf
  go_enter Tryz.func31, Tryz.ntmps31
  go_wp2_with fail
  obtain ⟨V, hW⟩ : ∃ V, w.alloc (.cells #[.string ⟨#[]⟩, .slice none 0 0, .bool false, .int .i64 0, .int .i64 0, .int .i64 0, .bool false, .int .i64 0, .int .i64 0, .bool false] 91) = V := ⟨_, rfl⟩
  rw [hW] at bv bx hkf ⊢
  clear hW
  have HB0 : Hid (Below w.heap.size w V ∧ Box V w.heap.size #[.string ⟨#[]⟩, .slice none 0 0, .bool false, .int .i64 0, .int .i64 0, .int .i64 0, .bool false, .int .i64 0, .int .i64 0, .bool false]) := ⟨bv, bx⟩
  clear bv bx
  refine hkf.mono ?_
  rintro _ w1 ⟨z, rfl, hz, hfl, hb1⟩
  have x1 := HB0.out.2.below hb1
  have lx := x1.lt
  have cx := x1.cell
  have fx := x1.free
  have hzl : z < w1.heap.size := cell_lt hfl.1
  have hzV : w.heap.size < z := Nat.lt_of_lt_of_le HB0.out.2.lt hz
  have HE : Hid (OFault w1 z 0 11 ∧ Below w.heap.size w w1) := ⟨hfl, below_then HB0.out.1 hb1⟩
  clear hkf hb1 x1 hfl hz
  go_wp2_with fail
  refine bodyPost_ret ?_ rfl ⟨z, rfl, by omega, ?_, ?_⟩
  · simp [results, Tryz.results31, go_sem, cx, lx]
  · refine OFault.keep HE.out.1 fun o => ?_
    rw [World.cell?_alloc_lt _ _ ⟨z, o, none⟩ (by simp; omega)]
    have hne : ∀ q : Nat, (⟨w.heap.size, q, none⟩ : Addr) ≠ ⟨z, o, none⟩ := fun q e => by injection e; omega
    iterate 10 (rw [World.cell?_setCell_other _ _ _ _ (hne _)])
  · refine Below.alloc ?_ (by simp; omega) _
    iterate 10 (refine Below.setCell ?_ (by exact Nat.le_refl _) _)
    exact HE.out.2
end
section
variable {w : World} {K b kb r : Nat} {v L : Value} {sq : Bool} {tr : Int} {ms rs : List Msg}
set_option maxRecDepth 100000 in
set_option maxHeartbeats 4000000 in
theorem plays_other (h : Pr w K b kb r v L sq tr ms rs) (x : Opv) (h1 : x.kd ≠ 1) (h2 : x.kd ≠ 2) (h3 : x.kd ≠ 3) (h4 : x.kd ≠ 4) (h5 : x.kd ≠ 5) (h6 : x.kd ≠ 6) (h7 : x.kd ≠ 7) (h8 : x.kd ≠ 8) (hv : Value) :
    Calls Tryz.prog 7 #[.agg #[.pointer (some ⟨b, 0, none⟩), .pointer (some ⟨r, 0, none⟩)], .agg #[.int .i64 x.kd, .string x.ct, .slice x.tp x.tn x.tc, .bool x.e, .int .i64 x.a, .int .i64 x.p, .string x.cd, .int .i64 x.n], hv] w fun e w' => e = .returned (.bool true) ∧ Hid (PlR w K b kb r v L sq tr ms rs (fun _ => False) w') := by
  have bv : Below w.heap.size w ((w.alloc (.cells #[.pointer (some ⟨b, 0, none⟩), .pointer (some ⟨r, 0, none⟩)] 29)).alloc (.cells #[.int .i64 x.kd, .string x.ct, .slice x.tp x.tn x.tc, .bool x.e, .int .i64 x.a, .int .i64 x.p, .string x.cd, .int .i64 x.n] 47)) := ((Below.refl _ _).alloc (Nat.le_refl _) _).alloc (by simp) _
  have HP : Hid (PlR w K b kb r v L sq tr ms rs (fun _ => False) ((w.alloc (.cells #[.pointer (some ⟨b, 0, none⟩), .pointer (some ⟨r, 0, none⟩)] 29)).alloc (.cells #[.int .i64 x.kd, .string x.ct, .slice x.tp x.tn x.tc, .bool x.e, .int .i64 x.a, .int .i64 x.p, .string x.cd, .int .i64 x.n] 47))) := (PlR.refl h).below bv
  have g1 : (x.kd == 1) = false := by simpa using h1
  have g2 : (x.kd == 2) = false := by simpa using h2
  have g3 : (x.kd == 3) = false := by simpa using h3
  have g4 : (x.kd == 4) = false := by simpa using h4
  have g5 : (x.kd == 5) = false := by simpa using h5
  have g6 : (x.kd == 6) = false := by simpa using h6
  have g7 : (x.kd == 7) = false := by simpa using h7
  have g8 : (x.kd == 8) = false := by simpa using h8
  clear h bv h1 h2 h3 h4 h5 h6 h7 h8
  go_enter Tryz.func7, Tryz.ntmps7
  go_wp2_with fail
  go_ret
  exact ⟨rfl, HP⟩
end
end Go.Proofs.YtoijhecphgdfnaaGreatDoor

/-
  Held, loosely: six rows of lists that grow, and are not looked at.
-/
namespace Go.Proofs.YtoijhecphgdfnaaGreatDoor
open Go.RowKit

/-- A list as a value. -/
abbrev Sl := Option Addr × Nat × Nat
def encSl (s : Sl) : List Value := [.slice s.1 s.2.1 s.2.2]
theorem encSl_len (s : Sl) : (encSl s).length = 1 := rfl
theorem encSl_one (s : Sl) : ∀ u ∈ encSl s, u.oneCell' = true := fun u hu => by
  simp only [encSl, List.mem_singleton] at hu
  subst hu
  rfl
/-- The rows' types. -/
def hty (q : Nat) : TypeId := if q < 2 then 77 else if q < 4 then 97 else 43
def htl (q : Nat) : TypeId := if q < 2 then 33 else if q < 4 then 34 else 35
theorem celH (q : Nat) : Cel Tryz.prog (hty q) 1 24 := by
  unfold hty
  split
  · exact cel_of (by kernel_rfl)
  split
  · exact cel_of (by kernel_rfl)
  · exact cel_of (by kernel_rfl)
theorem undH (q : Nat) : Tryz.prog.underlying (htl q) = some (.slice (hty q)) := by
  unfold hty htl
  split
  · kernel_rfl
  split
  · kernel_rfl
  · kernel_rfl
/-- Held at hb: its cells f, at most n lists in a row. -/
structure HW (w : World) (B hb n : Nat) (f : Nat → Value) : Prop where
  blk : w.heap[hb]? = some (.cells #[f 0, f 1, f 2, f 3, f 4, f 5, f 6, f 7, f 8, f 9] 41 (0, 0))
  row : ∀ q, q < 6 → ∃ xs : List Sl, xs.length ≤ n ∧ ERow w B (hty q) 1 encSl (f q) xs
  dis : ∀ i j g, i < 6 → j < 6 → i ≠ j → (f i).ownBlock = some g → (f j).ownBlock ≠ some g
  lB : B ≤ hb
/-- Held's blocks. -/
def HFt (hb : Nat) (f : Nat → Value) (k : Nat) : Prop := k = hb ∨ ∃ q, q < 6 ∧ (f q).ownBlock = some k
section
variable {w w' : World} {B hb n : Nat} {f : Nat → Value}
theorem row_type {e : TypeId} {v : Value} {xs : List Sl} (h : ERow w B e 1 encSl v xs) {g : Nat} (hg : v.ownBlock = some g) : ∃ cs, w.heap[g]? = some (.cells cs e (0, 0)) := by
  rcases h.2 with ⟨e1, _⟩ | ⟨g', cap, cur, e1, _, hb, _⟩
  · rw [e1] at hg; cases hg
  · rw [e1] at hg
    simp only [Value.ownBlock, Option.some.injEq] at hg
    subst hg
    exact ⟨_, hb⟩
theorem hty_ne (q : Nat) : hty q ≠ 41 := by
  unfold hty
  split
  · decide
  split <;> decide
theorem HW.lt (h : HW w B hb n f) : hb < w.heap.size := blk_lt h.blk
theorem HW.nb (h : HW w B hb n f) {q : Nat} (hq : q < 6) : (f q).ownBlock ≠ some hb := fun e => by
  obtain ⟨xs, _, hr⟩ := h.row q hq
  obtain ⟨cs, hc⟩ := row_type hr e
  rw [h.blk] at hc
  simp only [Option.some.injEq, Obj.cells.injEq] at hc
  exact hty_ne q hc.2.1.symm
theorem HW.off {P : Nat → Prop} (h : HW w B hb n f) (o : Off P w w') (hP : ∀ k, HFt hb f k → ¬ P k) : HW w' B hb n f :=
  ⟨(o.block hb h.lt (hP hb (Or.inl rfl))).trans h.blk, fun q hq => by
    obtain ⟨xs, h1, h2⟩ := h.row q hq
    exact ⟨xs, h1, ERow.off h2 o fun k hk => hP k (Or.inr ⟨q, hq, hk⟩)⟩, h.dis, h.lB⟩
theorem HW.below (h : HW w B hb n f) (hb2 : Below w.heap.size w w') : HW w' B hb n f :=
  ⟨(hb2.block hb h.lt).trans h.blk, fun q hq => by
    obtain ⟨xs, h1, h2⟩ := h.row q hq
    exact ⟨xs, h1, ERow.below h2 hb2⟩, h.dis, h.lB⟩
theorem HW.more {m : Nat} (h : HW w B hb n f) (hm : n ≤ m) : HW w B hb m f := ⟨h.blk, fun q hq => by
  obtain ⟨xs, h1, h2⟩ := h.row q hq
  exact ⟨xs, by omega, h2⟩, h.dis, h.lB⟩
/-- A list more in a row. -/
theorem HW.push (h : HW w B hb n f) {q : Nat} (hq : q < 6) (s : Sl) (hn : n + 1 ≤ 1000000000) :
    ∃ a' n' c' w2, (Builtin.append_ #[htl q, htl q] (htl q) #[f q, .slice (some ⟨w.heap.size, 0, none⟩) 1 1]).run Tryz.prog (w.alloc (.cells #[.slice s.1 s.2.1 s.2.2] (hty q))) = .ok (.slice a' n' c') w2 ∧ w2.cell? ⟨hb, q, none⟩ = some (f q) ∧ w2.frozen? ⟨hb, q, none⟩ = false ∧ Hid (HW (w2.setCell ⟨hb, q, none⟩ (.slice a' n' c')) B hb (n + 1) (fun k => if k = q then .slice a' n' c' else f k) ∧ Off (fun k => k = hb ∨ (f q).ownBlock = some k) w (w2.setCell ⟨hb, q, none⟩ (.slice a' n' c')) ∧ ∀ k, (Value.slice a' n' c').ownBlock = some k → (f q).ownBlock = some k ∨ w.heap.size ≤ k) := by
  obtain ⟨xs, hx, hr⟩ := h.row q hq
  have hB : B ≤ w.heap.size := Nat.le_trans h.lB (Nat.le_of_lt h.lt)
  obtain ⟨a', c', w2, h1, r2, o2, s2⟩ := run_epush (P := Tryz.prog) (t := htl q) (undH q) (celH q) encSl_len encSl_one hr s #[.slice s.1 s.2.1 s.2.2] rfl (by omega) (by decide) hB
  have b2 : w2.heap[hb]? = some (.cells #[f 0, f 1, f 2, f 3, f 4, f 5, f 6, f 7, f 8, f 9] 41 (0, 0)) := (o2.block hb h.lt (h.nb hq)).trans h.blk
  have fr : ∀ k, (Value.slice a' (xs.length + 1) c').ownBlock = some k → (f q).ownBlock = some k ∨ w.heap.size ≤ k := fun k hk => by
    rcases s2 with e | e
    · exact Or.inl (by rw [← e]; exact hk)
    · rw [hk] at e
      simp only [Option.some.injEq] at e
      right; omega
  have oo : Off (fun k => k = hb) w2 (w2.setCell ⟨hb, q, none⟩ (.slice a' (xs.length + 1) c')) := Off.setCell (P := fun k => k = hb) (Off.refl _ _) (p := ⟨hb, q, none⟩) rfl _
  have hcq : #[f 0, f 1, f 2, f 3, f 4, f 5, f 6, f 7, f 8, f 9][q]? = some (f q) := by
    rcases q with _ | _ | _ | _ | _ | _ | q
    all_goals first | rfl | omega
  have hnb : ∀ k, (Value.slice a' (xs.length + 1) c').ownBlock = some k → k ≠ hb := fun k hk e => by
    obtain ⟨cs, hc⟩ := row_type r2 hk
    rw [e, b2] at hc
    simp only [Option.some.injEq, Obj.cells.injEq] at hc
    exact hty_ne q hc.2.1.symm
  refine ⟨a', _, c', w2, h1, (hcell b2 q).trans hcq, hfroz b2 q, ⟨?_, fun j hj => ?_, fun i j g hi hj hij hg => ?_, h.lB⟩, (o2.mono fun k hk => Or.inr hk).trans (oo.mono fun k hk => Or.inl hk), fr⟩
  · have := set_heap b2 q (.slice a' (xs.length + 1) c')
    refine this.trans ?_
    clear this hcq r2 h1 hr b2 oo fr hnb s2 o2 hx
    rcases q with _ | _ | _ | _ | _ | _ | q
    · simp
    · simp
    · simp
    · simp
    · simp
    · simp
    · omega
  · by_cases e : j = q
    · subst e
      refine ⟨xs ++ [s], by simp; omega, ?_⟩
      rw [if_pos rfl]
      exact ERow.off r2 oo hnb
    · obtain ⟨ys, hy, hr2⟩ := h.row j hj
      refine ⟨ys, by omega, ?_⟩
      rw [if_neg e]
      exact ERow.off (ERow.off hr2 o2 fun k hk hq2 => h.dis j q k hj hq e hk hq2) oo fun k hk e2 => h.nb hj (by rw [← e2]; exact hk)
  · have old : ∀ m k, m < 6 → (f m).ownBlock = some k → k < w.heap.size := fun m k hm hk => by
      obtain ⟨ys, _, hr2⟩ := h.row m hm
      exact (ERow.lt hr2 hk).2
    by_cases e1 : i = q
    · rw [if_pos e1] at hg
      rw [if_neg (fun e2 => hij (e1.trans e2.symm))]
      intro hg2
      rcases fr g hg with e | e
      · exact h.dis q j g hq hj (by omega) e hg2
      · have := old j g hj hg2; omega
    · rw [if_neg e1] at hg
      by_cases e2 : j = q
      · rw [if_pos e2]
        intro hg2
        rcases fr g hg2 with e | e
        · exact h.dis i q g hi hq e1 hg e
        · have := old i g hi hg; omega
      · rw [if_neg e2]
        exact h.dis i j g hi hj hij hg
end
end Go.Proofs.YtoijhecphgdfnaaGreatDoor
