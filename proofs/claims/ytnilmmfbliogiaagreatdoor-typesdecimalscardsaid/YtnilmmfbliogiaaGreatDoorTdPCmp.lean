/-
  The program's Compare.
-/
import Derived.Test.YtnilmmfbliogiaaGreatDoorTdPl
namespace Go.Proofs.YtnilmmfbliogiaaGreatDoor
open Go.RowKit

abbrev nv (n : Bool) (d : ByteArray) (s : Int) : Value := .agg #[.bool n, .string d, .int .i64 s]
abbrev nc (n : Bool) (d : ByteArray) (s : Int) : Array Value := #[.bool n, .string d, .int .i64 s]
theorem nidx0 (na : Bool) (da : ByteArray) (sa : Int) (nb : Bool) (db : ByteArray) (sb : Int) (w : World) : (Instr.index 53 (.agg #[.bool na, .string da, .int .i64 sa, .bool nb, .string db, .int .i64 sb]) (.int .i64 0)).run Tryz.prog w = .ok (.agg #[.bool na, .string da, .int .i64 sa]) w := by kernel_rfl
theorem nidx1 (na : Bool) (da : ByteArray) (sa : Int) (nb : Bool) (db : ByteArray) (sb : Int) (w : World) : (Instr.index 53 (.agg #[.bool na, .string da, .int .i64 sa, .bool nb, .string db, .int .i64 sb]) (.int .i64 1)).run Tryz.prog w = .ok (.agg #[.bool nb, .string db, .int .i64 sb]) w := by kernel_rfl
/-- Both numbers in memory. -/
def NB2 (w : World) (na : Bool) (da : ByteArray) (sa : Int) (nb : Bool) (db : ByteArray) (sb : Int) (x : World) : Prop := Below w.heap.size w x ∧ Box x w.heap.size #[.bool na, .string da, .int .i64 sa] ∧ Box x (w.heap.size + 1) #[.bool nb, .string db, .int .i64 sb]
theorem NB2.below {w : World} {na : Bool} {da : ByteArray} {sa : Int} {nb : Bool} {db : ByteArray} {sb : Int} {x y : World} (h : NB2 w na da sa nb db sb x) (hb : Below x.heap.size x y) : NB2 w na da sa nb db sb y := ⟨below_then h.1 hb, h.2.1.below hb, h.2.2.below hb⟩
theorem NB2.new (w : World) (na : Bool) (da : ByteArray) (sa : Int) (nb : Bool) (db : ByteArray) (sb : Int) : NB2 w na da sa nb db sb ((w.alloc (.cells #[.bool na, .string da, .int .i64 sa] 23)).alloc (.cells #[.bool nb, .string db, .int .i64 sb] 23)) := by
  refine ⟨((Below.refl _ _).alloc (Nat.le_refl _) _).alloc (by simp) _, (Box.new _ _ _).alloc _, ?_⟩
  have := Box.new (w.alloc (.cells #[.bool na, .string da, .int .i64 sa] 23)) #[.bool nb, .string db, .int .i64 sb] 23
  simpa using this
def CpQ (v a c : Int) (w : World) (r : Ending) (w' : World) : Prop := ∃ ev, r = .returned (.tuple #[.int .i64 v, ev]) ∧ TEv w' ev a c ∧ Below w.heap.size w w'
theorem below_al {w x : World} (h : Below w.heap.size w x) (o : Obj) : Below w.heap.size w (x.alloc o) := h.alloc h.size o
theorem show_then {p q : Prop} (h : p) (f : p → q) : q := f h
theorem there_new (X : World) (b : Nat) (cs : Array Value) (t : TypeId) (hc : cs.size = 32) (hb : X.heap.size = b) : (X.alloc (.cells cs t)).there b 0 32 := fun j hj => by
  subst hb
  have h := Box.new X cs t
  rw [Nat.zero_add]
  exact ⟨by rw [h.cell j]; simp [hc, hj], h.free j⟩
theorem there_below {X W : World} (hb : Below X.heap.size X W) : ∀ b, X.there b 0 32 → W.there b 0 32 := fun b h j hj => by
  obtain ⟨h1, h2⟩ := h j hj
  obtain ⟨v, hv⟩ := Option.isSome_iff_exists.1 h1
  have hl := cell_lt hv
  rw [hb.cell hl, hb.frozen hl]
  exact ⟨h1, h2⟩
theorem there_block {X : World} {b : Nat} (h : X.there b 0 32) : b < X.heap.size := by
  obtain ⟨v, hv⟩ := Option.isSome_iff_exists.1 (h 0 (by omega)).1
  exact cell_lt hv
theorem Box.sets {b c : Nat} {cs : Array Value} (hc : c ≠ b) : ∀ (vs : List Value) (o : Nat) {x : World}, Box x b cs → Box (x.setCells c o vs) b cs
  | [], _, _, h => h
  | v :: r, o, _, h => Box.sets hc r (o + 1) (h.pOff' (p := ⟨c, o, none⟩) hc v)
abbrev NBS (w : World) (na : Bool) (da : ByteArray) (sa : Int) (nb : Bool) (db : ByteArray) (sb : Int) (x : World) : Prop := Hid (NB2 w na da sa nb db sb x) ∧ (∀ o, x.cell? ⟨w.heap.size, o, none⟩ = (#[.bool na, .string da, .int .i64 sa] : Array Value)[o]?) ∧ (∀ o, x.cell? ⟨w.heap.size + 1, o, none⟩ = (#[.bool nb, .string db, .int .i64 sb] : Array Value)[o]?)
section
variable {w x y : World} {na : Bool} {da : ByteArray} {sa : Int} {nb : Bool} {db : ByteArray} {sb : Int}
theorem NBS.of (h : NB2 w na da sa nb db sb x) : NBS w na da sa nb db sb x := ⟨h, h.2.1.cell, h.2.2.cell⟩
theorem NBS.alloc (h : NBS w na da sa nb db sb x) (o : Obj) : NBS w na da sa nb db sb (x.alloc o) := .of (h.1.out.below ((Below.refl _ _).alloc (Nat.le_refl _) _))
theorem NBS.call (h : NBS w na da sa nb db sb x) (hb : Below x.heap.size x y) : NBS w na da sa nb db sb y := .of (h.1.out.below hb)
theorem NBS.bel (h : NBS w na da sa nb db sb x) (hb : Below x.heap.size x y) : Hid (Below w.heap.size w y) := (h.1.out.below hb).1
theorem NBS.sets (h : NBS w na da sa nb db sb x) (c o : Nat) (vs : List Value) (hc : w.heap.size + 2 ≤ c) : NBS w na da sa nb db sb (x.setCells c o vs) :=
  .of ⟨below_setCells (by omega) vs o h.1.out.1, h.1.out.2.1.sets (by omega) vs o, h.1.out.2.2.sets (by omega) vs o⟩
end
/-- Both rows lie there. -/
def Two (w : World) (LA LB : List Int) (x y : Nat) (W : World) : Prop := Below w.heap.size w W ∧ IRow W x LA ∧ IRow W y LB
theorem irow_range {W : World} {b : Nat} {l : List Int} (h : W.rangeAt b 0 (iv l)) : IRow W b l := fun j x hx => by
  have := h j (.int .i64 x) (by simp [iv, hx])
  rwa [Nat.zero_add] at this
theorem cell_lt' {W : World} {b o : Nat} {v : Value} (h : W.cell? ⟨b, o, none⟩ = some v) : b < W.heap.size := cell_lt h
theorem Two.below {w W W' : World} {LA LB : List Int} {x y : Nat} (h : Two w LA LB x y W) (hb : Below W.heap.size W W') : Two w LA LB x y W' :=
  ⟨below_then h.1 hb, fun j v hv => by have := h.2.1 j v hv; rw [hb.cell (p := ⟨x, j, none⟩) (cell_lt' this)]; exact this, fun j v hv => by have := h.2.2 j v hv; rw [hb.cell (p := ⟨y, j, none⟩) (cell_lt' this)]; exact this⟩
theorem Two.of {w W : World} {LA LB : List Int} {x y : Nat} (ha : LA.length = 32) (hb : LB.length = 32) (h : Below w.heap.size w W) (tx : W.there x 0 32) (ty : W.there y 0 32) (hne : x ≠ y) (hx : w.heap.size ≤ x) (hy : w.heap.size ≤ y) : Two w LA LB x y ((W.setCells x 0 (iv LA)).setCells y 0 (iv LB)) := by
  have la : (iv LA).length = 32 := by simp [iv, ha]
  have lb : (iv LB).length = 32 := by simp [iv, hb]
  refine ⟨below_setCells hy _ _ (below_setCells hx _ _ h), irow_range ?_, irow_range ?_⟩
  · exact World.rangeAt_setCells_apart (World.rangeAt_setCells_same _ _ _ _ (by rw [la]; exact tx)) _ _ _ (Or.inl hne)
  · exact World.rangeAt_setCells_same _ _ _ _ (by rw [lb]; exact World.there_setCells ty _ _ _)
set_option maxRecDepth 100000 in
set_option maxHeartbeats 4000000 in
theorem Compare_any (na : Bool) (da : ByteArray) (sa : Int) (nb : Bool) (db : ByteArray) (sb : Int) (w : World) (hza : da.size ≤ 140737488351232) (hzb : db.size ≤ 140737488351232) :
    Calls Tryz.prog 8 #[.agg #[.bool na, .string da, .int .i64 sa], .agg #[.bool nb, .string db, .int .i64 sb]] w fun r w' => CpQ (cpV na da sa nb db sb) (cpA na da sa) (cpE na da sa nb db sb) w r w' := by
  have cA := fun w => right_any na da sa w hza
  have cB := fun w => right_any nb db sb w hzb
  have i0 := nidx0 na da sa nb db sb
  have i1 := nidx1 na da sa nb db sb
  have HU : Hid (NB2 w na da sa nb db sb ((w.alloc (.cells #[.bool na, .string da, .int .i64 sa] 23)).alloc (.cells #[.bool nb, .string db, .int .i64 sb] 23))) := NB2.new w na da sa nb db sb
  cases ra : rgt na (bl da) sa with
  | false =>
    rw [ra] at cA
    have HV : Hid (cpV na da sa nb db sb = 0 ∧ cpA na da sa = 0 ∧ cpE na da sa nb db sb = 164) := by unfold Hid cpV cpA cpE; rw [ra]; exact ⟨rfl, rfl, rfl⟩
    rw [HV.out.1, HV.out.2.1, HV.out.2.2]
    go_enter Tryz.func8, Tryz.ntmps8
    go_wp2_with fail
    refine wp_loop_rounds 1 ?_
    rw [rounds_succ]
    go_wp2_with fail
    refine (cA _).mono ?_
    rintro _ w1 ⟨rfl, hb⟩
    have H1 : Hid (Below w.heap.size w w1) := (HU.out.below (below_then ((Below.refl _ _).alloc (Nat.le_refl _) _) hb)).1
    clear hb
    go_wp2_with fail
    refine (tfault_any 0 164 (by decide) _).mono ?_
    rintro _ w2 ⟨ev, rfl, hev, hb⟩
    have H2 : Hid (TEv w2 ev 0 164 ∧ Below w.heap.size w w2) := ⟨hev, below_then H1.out hb⟩
    clear hev hb
    go_wp2_with fail
    refine bodyPost_ret ?_ rfl ⟨ev, rfl, H2.out.1, H2.out.2⟩
    simp [results, Tryz.results8, go_sem]
  | true =>
    rw [ra] at cA
    cases rb : rgt nb (bl db) sb with
    | false =>
      rw [rb] at cB
      have HV : Hid (cpV na da sa nb db sb = 0 ∧ cpA na da sa = 1 ∧ cpE na da sa nb db sb = 164) := by unfold Hid cpV cpA cpE; rw [ra, rb]; exact ⟨rfl, rfl, rfl⟩
      rw [HV.out.1, HV.out.2.1, HV.out.2.2]
      go_enter Tryz.func8, Tryz.ntmps8
      go_wp2_with fail
      refine wp_loop_rounds 2 ?_
      rw [rounds_succ]
      go_wp2_with fail
      refine (cA _).mono ?_
      rintro _ w1 ⟨rfl, hb⟩
      have H1 : Hid (NB2 w na da sa nb db sb w1) := HU.out.below (below_then ((Below.refl _ _).alloc (Nat.le_refl _) _) hb)
      clear hb
      go_wp2_with fail
      rw [rounds_succ]
      go_wp2_with fail
      refine (cB _).mono ?_
      rintro _ w2 ⟨rfl, hb⟩
      have H2 : Hid (Below w.heap.size w w2) := (H1.out.below (below_then ((Below.refl _ _).alloc (Nat.le_refl _) _) hb)).1
      clear hb
      go_wp2_with fail
      refine (tfault_any 1 164 (by decide) _).mono ?_
      rintro _ w3 ⟨ev, rfl, hev, hb⟩
      have H3 : Hid (TEv w3 ev 1 164 ∧ Below w.heap.size w w3) := ⟨hev, below_then H2.out hb⟩
      clear hev hb
      go_wp2_with fail
      refine bodyPost_ret ?_ rfl ⟨ev, rfl, H3.out.1, H3.out.2⟩
      simp [results, Tryz.results8, go_sem]
    | true =>
      rw [rb] at cB
      obtain ⟨ma, rfl, ha16⟩ := rgt_sc ra
      obtain ⟨mb, rfl, hb16⟩ := rgt_sc rb
      obtain ⟨ga, la⟩ := rgt_dgs ra
      obtain ⟨gb, lb⟩ := rgt_dgs rb
      rw [bl_len] at la lb
      have HV : Hid (cpV na da (ma : Int) nb db (mb : Int) = cmpI (plL na (bl da) ma) (plL nb (bl db) mb) ∧ cpA na da (ma : Int) = 1 ∧ cpE na da (ma : Int) nb db (mb : Int) = 0) := by
        have ea := ra
        have eb := rb
        rw [rgt_in ha16] at ea
        rw [rgt_in hb16] at eb
        have e := cmp_same (sa := ma) (sb := mb) (by rw [bl_len]; exact la) (by rw [bl_len]; exact lb) ha16 hb16 ga gb (num_ds (eq_of_beq ea)).2.2.2 (num_ds (eq_of_beq eb)).2.2.2
        unfold Hid cpV cpA cpE; rw [ra, rb, e]; exact ⟨rfl, rfl, rfl⟩
      have pA := fun w => places_any na da ma w ha16 la ga
      have pB := fun w => places_any nb db mb w hb16 lb gb
      have HN : Hid ((plL na (bl da) ma).length = 32 ∧ (plL nb (bl db) mb).length = 32) := ⟨pl_len _ _ _ (by rw [bl_len]; exact la) ha16, pl_len _ _ _ (by rw [bl_len]; exact lb) hb16⟩
      obtain ⟨LA, hLA⟩ : ∃ L, plL na (bl da) ma = L := ⟨_, rfl⟩
      obtain ⟨LB, hLB⟩ : ∃ L, plL nb (bl db) mb = L := ⟨_, rfl⟩
      rw [hLA, hLB] at HV HN
      rw [hLA] at pA
      rw [hLB] at pB
      clear hLA hLB
      rw [HV.out.1, HV.out.2.1, HV.out.2.2]
      go_enter Tryz.func8, Tryz.ntmps8
      go_wp2_with fail
      refine wp_loop_rounds 3 ?_
      rw [rounds_succ]
      go_wp2_with fail
      refine (cA _).mono ?_
      rintro _ w1 ⟨rfl, hb⟩
      have H1 : Hid (NB2 w na da (ma : Int) nb db (mb : Int) w1) := HU.out.below (below_then ((Below.refl _ _).alloc (Nat.le_refl _) _) hb)
      clear hb
      go_wp2_with fail
      rw [rounds_succ]
      go_wp2_with fail
      refine (cB _).mono ?_
      rintro _ w2 ⟨rfl, hb⟩
      have H2 : Hid (NB2 w na da (ma : Int) nb db (mb : Int) w2) := H1.out.below (below_then ((Below.refl _ _).alloc (Nat.le_refl _) _) hb)
      clear hb cA cB
      have ka := H2.out.2.1.cell
      have kb := H2.out.2.2.cell
      go_wp2_with fail
      rw [rounds_succ]
      go_wp2_with fail
      have l2 : w.heap.size + 2 ≤ w2.heap.size := H2.out.2.2.lt
      have lA : (iv LA).length = 32 := by simp only [iv, List.length_map]; exact HN.out.1
      have lB : (iv LB).length = 32 := by simp only [iv, List.length_map]; exact HN.out.2
      have iA : (Tryz.prog.info? 54).map (·.size) = some (iv LA).length := by rw [lA]; kernel_rfl
      have iB : (Tryz.prog.info? 54).map (·.size) = some (iv LB).length := by rw [lB]; kernel_rfl
      have oA : ∀ v ∈ iv LA, v.oneCell' = true := fun v hv => by obtain ⟨x, _, rfl⟩ := List.mem_map.1 hv; rfl
      have oB : ∀ v ∈ iv LB, v.oneCell' = true := fun v hv => by obtain ⟨x, _, rfl⟩ := List.mem_map.1 hv; rfl
      have hd : ∀ X : World, X.drew.heap.size = X.heap.size := fun _ => rfl
      have hs : ∀ (X : World) (o : Obj), (X.alloc o).heap.size = X.heap.size + 1 := fun X o => World.size_alloc X o
      have t1 : ∀ (X : World) (b : Nat), X.heap.size = b → (X.alloc (.cells #[.int .i64 0, .int .i64 0, .int .i64 0, .int .i64 0, .int .i64 0, .int .i64 0, .int .i64 0, .int .i64 0, .int .i64 0, .int .i64 0, .int .i64 0, .int .i64 0, .int .i64 0, .int .i64 0, .int .i64 0, .int .i64 0, .int .i64 0, .int .i64 0, .int .i64 0, .int .i64 0, .int .i64 0, .int .i64 0, .int .i64 0, .int .i64 0, .int .i64 0, .int .i64 0, .int .i64 0, .int .i64 0, .int .i64 0, .int .i64 0, .int .i64 0, .int .i64 0] 54)).there b 0 32 := fun X b hb => there_new X b _ _ rfl hb
      have t2 : ∀ (X : World) (b : Nat) (o : Obj), X.there b 0 32 → (X.alloc o).there b 0 32 := fun X b o h => there_below ((Below.refl _ _).alloc (Nat.le_refl _) _) b h
      have t3 : ∀ (X : World) (b c : Nat) (vs : List Value), X.there b 0 32 → (X.setCells c 0 vs).there b 0 32 := fun X b c vs h => World.there_setCells h _ _ _
      have t5 : ∀ (X : World) (b : Nat), X.drew.there b 0 32 = X.there b 0 32 := fun _ _ => rfl
      have u1 : ∀ X : World, (X.alloc (.cells #[.int .i64 0, .int .i64 0, .int .i64 0, .int .i64 0, .int .i64 0, .int .i64 0, .int .i64 0, .int .i64 0, .int .i64 0, .int .i64 0, .int .i64 0, .int .i64 0, .int .i64 0, .int .i64 0, .int .i64 0, .int .i64 0, .int .i64 0, .int .i64 0, .int .i64 0, .int .i64 0, .int .i64 0, .int .i64 0, .int .i64 0, .int .i64 0, .int .i64 0, .int .i64 0, .int .i64 0, .int .i64 0, .int .i64 0, .int .i64 0, .int .i64 0, .int .i64 0] 54)).there X.heap.size 0 32 := fun X => t1 X _ rfl
      have u2 : ∀ (X : World) (o : Obj), ((X.alloc (.cells #[.int .i64 0, .int .i64 0, .int .i64 0, .int .i64 0, .int .i64 0, .int .i64 0, .int .i64 0, .int .i64 0, .int .i64 0, .int .i64 0, .int .i64 0, .int .i64 0, .int .i64 0, .int .i64 0, .int .i64 0, .int .i64 0, .int .i64 0, .int .i64 0, .int .i64 0, .int .i64 0, .int .i64 0, .int .i64 0, .int .i64 0, .int .i64 0, .int .i64 0, .int .i64 0, .int .i64 0, .int .i64 0, .int .i64 0, .int .i64 0, .int .i64 0, .int .i64 0] 54)).alloc o).there X.heap.size 0 32 := fun X o => t2 _ _ _ (u1 X)
      have u3 : ∀ (X : World) (o : Obj), ((X.alloc o).alloc (.cells #[.int .i64 0, .int .i64 0, .int .i64 0, .int .i64 0, .int .i64 0, .int .i64 0, .int .i64 0, .int .i64 0, .int .i64 0, .int .i64 0, .int .i64 0, .int .i64 0, .int .i64 0, .int .i64 0, .int .i64 0, .int .i64 0, .int .i64 0, .int .i64 0, .int .i64 0, .int .i64 0, .int .i64 0, .int .i64 0, .int .i64 0, .int .i64 0, .int .i64 0, .int .i64 0, .int .i64 0, .int .i64 0, .int .i64 0, .int .i64 0, .int .i64 0, .int .i64 0] 54)).there (X.heap.size + 1) 0 32 := fun X o => t1 _ _ (hs X o)
      go_cut [8, 9] from 8 (fun s8 s9 wx => ∃ x y : Nat, s8 = .pointer (some ⟨x, 0, none⟩) ∧ s9 = .pointer (some ⟨y, 0, none⟩) ∧ Hid (Two w LA LB x y wx))
      case first =>
        go_region_held3 (fun x => Hid (NB2 w na da (ma : Int) nb db (mb : Int) x) ∧ (∀ o, x.cell? ⟨w.heap.size, o, none⟩ = (#[.bool na, .string da, .int .i64 (ma : Int)] : Array Value)[o]?) ∧ (∀ o, x.cell? ⟨w.heap.size + 1, o, none⟩ = (#[.bool nb, .string db, .int .i64 (mb : Int)] : Array Value)[o]?)) (first | exact NBS.of (H2.out.below (Below.drew (Below.refl _ _))) | exact NBS.alloc (by assumption) _ | exact NBS.call (by assumption) (by assumption) | exact NBS.sets (by assumption) _ _ _ (by simp at *; omega)) (first | (go_at_call 23; with_reducible refine (pA _).mono ?_; rintro _ wa ⟨rfl, hba⟩; have ga : Hid (Below w.heap.size w wa) := NBS.bel (na := na) (da := da) (sa := (ma : Int)) (nb := nb) (db := db) (sb := (mb : Int)) (by assumption) hba; have ta := there_below hba; have sa := hba.size; (try simp at sa); (try (refine show_then (p := World.there wa w2.heap.size 0 32) ?_ (fun qa1 => ?_); focus (refine ta _ ?_; simp (maxDischargeDepth := 9) only [*]; done))); (try (refine show_then (p := World.there wa (w2.heap.size + 1) 0 32) ?_ (fun qa2 => ?_); focus (refine ta _ ?_; simp (maxDischargeDepth := 9) only [*]; done)))) | (go_at_call 23; with_reducible refine (pB _).mono ?_; rintro _ wb ⟨rfl, hbb⟩; have gb : Hid (Below w.heap.size w wb) := NBS.bel (na := na) (da := da) (sa := (ma : Int)) (nb := nb) (db := db) (sb := (mb : Int)) (by assumption) hbb; have tb := there_below hbb; have sb := hbb.size; (try simp at sb); (try (refine show_then (p := World.there wb w2.heap.size 0 32) ?_ (fun qb1 => ?_); focus (refine tb _ ?_; simp (maxDischargeDepth := 9) only [*]; done))); (try (refine show_then (p := World.there wb (w2.heap.size + 1) 0 32) ?_ (fun qb2 => ?_); focus (refine tb _ ?_; simp (maxDischargeDepth := 9) only [*]; done))); (try (refine show_then (p := World.there wb wa.heap.size 0 32) ?_ (fun qb3 => ?_); focus (refine tb _ ?_; simp (maxDischargeDepth := 9) only [*]; done))); (try (refine show_then (p := World.there wb (wa.heap.size + 1) 0 32) ?_ (fun qb4 => ?_); focus (refine tb _ ?_; simp (maxDischargeDepth := 9) only [*]; done)))))
        all_goals
          go_wp2_with fail
          go_meet
          refine ⟨_, _, rfl, rfl, Two.of HN.out.1 HN.out.2 ?_ ?_ ?_ ?_ ?_ ?_⟩
          · first | exact gb.out | exact below_al gb.out _ | exact below_al (below_al gb.out _) _
          · simp (maxDischargeDepth := 9) only [*]
          · simp (maxDischargeDepth := 9) only [*]
          · omega
          · omega
          · omega
      case rest =>
      obtain ⟨x, y, rfl, rfl, HT⟩ := hcut
      have HT2 : Hid (Two w LA LB x y wc.drew) := HT.out.below (Below.drew (Below.refl _ _))
      have hcmp : ∀ z, Hid (Two w LA LB x y z) → Calls Tryz.prog 24 #[.slice (some ⟨x, 0, none⟩) 32 32, .slice (some ⟨y, 0, none⟩) 32 32] z fun r z' => r = .returned (.int .i64 (cmpI LA LB)) ∧ Hid (Two w LA LB x y z') := fun z hz => (sliceCmp_any x y 32 32 32 LA LB z hz.out.2.1 hz.out.2.2 HN.out.1 HN.out.2 (by omega)).mono fun r z' ⟨h, hb⟩ => ⟨h, hz.out.below hb⟩
      go_wp2_with fail
      go_region_held3 (fun z => Hid (Two w LA LB x y z)) (assumption) (first | (go_at_call 24; refine (hcmp _ (by assumption)).mono ?_; rintro _ w9 ⟨rfl, H9⟩))
      go_wp2_with fail
      refine bodyPost_ret ?_ rfl ⟨.nilIface, rfl, Or.inl ⟨rfl, rfl⟩, H9.out.1⟩
      simp [results, Tryz.results8, go_sem]
end Go.Proofs.YtnilmmfbliogiaaGreatDoor
