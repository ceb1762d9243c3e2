/-
  The document's box: Decide, one goes.
-/
import Derived.Test.YtjbkfppibnlmoaaGreatDoorIbRbA
namespace Go.Proofs.YtjbkfppibnlmoaaGreatDoor
open Go.RowKit

theorem take_lt {es : List Ent} {k f : Nat} {e : Ent} (he : es[k]? = some e) (h : f < k) : (es.take (k + 1)).eraseIdx f = (es.take k).eraseIdx f ++ [e] := by
  have hk := (List.getElem?_eq_some_iff.1 he).1
  rw [take_one he, List.eraseIdx_append_of_lt_length (by rw [List.length_take]; omega)]
theorem take_at {es : List Ent} {f : Nat} {e : Ent} (he : es[f]? = some e) : (es.take (f + 1)).eraseIdx f = es.take f := by
  have hk := (List.getElem?_eq_some_iff.1 he).1
  rw [take_one he]
  have : (es.take f).length = f := by rw [List.length_take]; omega
  rw [List.eraseIdx_append_of_length_le (by omega), this, Nat.sub_self]
  simp
/-- What is kept and who has gone, so far. -/
def rsK (es : List Ent) (f k : Nat) : List Ent := if k ≤ f then es.take k else (es.take k).eraseIdx f
def gnK (ct : ByteArray) (f k : Nat) : List ByteArray := if k ≤ f then [] else [ct]
theorem rsK_len (es : List Ent) (f k : Nat) : (rsK es f k).length ≤ es.length := by
  unfold rsK
  split
  · rw [List.length_take]; omega
  · exact Nat.le_trans (List.length_eraseIdx_le _ _) (by rw [List.length_take]; omega)
/-- The document's box in memory, whatever it holds. -/
structure RB0 (w : World) (B X : Nat) (v : Value) (K R : Int) (es : List Ent) : Prop where
  lt : X < w.heap.size
  c1 : w.cell? ⟨X, 1, none⟩ = some (.bool true)
  c2 : w.cell? ⟨X, 2, none⟩ = some (.int .i64 K)
  c3 : w.cell? ⟨X, 3, none⟩ = some (.int .i64 R)
  c4 : w.cell? ⟨X, 4, none⟩ = some v
  fz : w.frozen? ⟨X, 4, none⟩ = false
  row : NRow w B v es
  own : ∀ e ∈ es, Own w B e
theorem RB0.below {w w' : World} {B X : Nat} {v : Value} {K R : Int} {es : List Ent} (h : RB0 w B X v K R es) (hb : Below w.heap.size w w') : RB0 w' B X v K R es := by
  have e : ∀ o, w'.cell? ⟨X, o, none⟩ = w.cell? ⟨X, o, none⟩ := fun o => hb.cell (p := ⟨X, o, none⟩) h.lt
  exact ⟨Nat.lt_of_lt_of_le h.lt hb.size, by rw [e]; exact h.c1, by rw [e]; exact h.c2, by rw [e]; exact h.c3, by rw [e]; exact h.c4, by rw [hb.frozen (p := ⟨X, 4, none⟩) h.lt]; exact h.fz, ERow.below h.row hb, fun x hx => (h.own x hx).below hb⟩
def RB0Q (w : World) (B X : Nat) (v : Value) (K R : Int) (es' : List Ent) (w' : World) : Prop :=
  RB0 w' B X v K R es' ∧ Off (fun q => v.ownBlock = some q) w w'
section
variable {w w' : World} {B X : Nat} {v : Value} {K R : Int} {es : List Ent}
set_option maxRecDepth 100000 in
set_option maxHeartbeats 8000000 in
theorem rdec_shed (h : RBx w B X v K R es) (hXt : ∃ cs t cur, w.heap[X]? = some (.cells cs t cur) ∧ t ≠ 5 ∧ t ≠ 30) (hB : B ≤ w.heap.size) (s cd : ByteArray) (p : Option Addr) (n c : Nat) (bs : List Int) (hb : Byts w p n bs) (hpB : ∀ b o, p = some ⟨b, o, none⟩ → 0 < n → b < B) (hvd : vdB cd = true) (hn : n ≤ 2048) {i : Nat} {x : Ent} (hf : fi s es = some i) (hx : es[i]? = some x) (ho : opB x = true) (hm : ∀ a k, manyB K (es.set i (x.vd cd a n k bs)) = true) (hinv : ∀ a k, Inv K R (shedS K (es.set i (x.vd cd a n k bs)))) {f : Nat} {y : Ent} (hfd : ∀ a k, ∃ y', fdS (es.set i (x.vd cd a n k bs)) = some f ∧ (es.set i (x.vd cd a n k bs))[f]? = some y' ∧ y'.ct = y.ct) :
    Calls Tryz.prog 57 #[.pointer (some ⟨X, 1, none⟩), .string s, .string cd, .slice p n c] w fun r w' => ∃ u, r = .returned (.tuple #[u, .int .i64 0]) ∧ Hid (TRow w' w.heap.size u [y.ct] ∧ ∃ a k, RBQ w B X v K R (shedS K (es.set i (x.vd cd a n k bs))) w' ∧ BRow w' w.heap.size (.slice a n k) bs) := by
  have hv0 := rVerdict_any cd w
  rw [hvd] at hv0
  have hat := rat_any h s (by have := h.inv.len; omega)
  rw [show fiI s es = (i : Int) by unfold fiI; rw [hf]] at hat
  obtain ⟨a, c', e1, _⟩ := ERow.isSlice h.row
  subst e1
  obtain ⟨g, rfl, lg, d0, d1, d2, d3, d4, d5, d6⟩ := nrow_cells h.row hx
  have hil := (List.getElem?_eq_some_iff.1 hx).1
  obtain ⟨m, hm0⟩ : ∃ m, es.length = m := ⟨_, rfl⟩
  have hm97 : m ≤ 97 := by rw [← hm0]; exact h.inv.len
  rw [hm0] at h hil
  have x4 := h.c4
  have c1 := h.c1
  have hn1 : ¬ (n : Int) > 2048 := by omega
  have hi1 : (i : Int) < m := by omega
  have hi2 : ¬ (i : Int) < 0 := by omega
  have hce : x.cd.toList.isEmpty = true := ho
  have fz := ERow.thaw h.row
  obtain ⟨W1, hW1⟩ : ∃ W, w.setCell ⟨g, i * 7 + 5, none⟩ (.string cd) = W := ⟨_, rfl⟩
  have r1 : NRow W1 B (.slice (some ⟨g, 0, none⟩) m c') (es.set i { x with cd := cd }) := by rw [← hW1]; exact row_cd h.row hx cd
  have o1 : Off (fun q => q = g) w W1 := by rw [← hW1]; exact Off.setCell (P := fun q => q = g) (Off.refl _ _) (p := ⟨g, i * 7 + 5, none⟩) rfl _
  obtain ⟨xcs, xt, xcur, hX0, hX1, hX2⟩ := hXt
  have nX : ¬ X = g := fun e2 => by
    obtain ⟨cs', hc⟩ := row_type h.row (g := g) rfl
    rw [← e2, hX0] at hc
    simp only [Option.some.injEq, Obj.cells.injEq] at hc
    exact hX2 hc.2.1
  have hgB : B ≤ g := (ERow.lt h.row (g := g) rfl).1
  have bytg : ∀ {z : World}, NRow z B (.slice (some ⟨g, 0, none⟩) m c') (es.set i { x with cd := cd }) → ∀ q cs, z.heap[q]? = some (.cells cs 5 (0, 0)) → ¬ q = g := fun {z} hr q cs hc e2 => by
    obtain ⟨cs', hc'⟩ := row_type hr (g := g) rfl
    rw [← e2, hc] at hc'
    simp at hc'
  have bytw : ∀ q cs, w.heap[q]? = some (.cells cs 5 (0, 0)) → ¬ q = g := fun q cs hc e2 => by
    obtain ⟨cs', hc'⟩ := row_type h.row (g := g) rfl
    rw [← e2, hc] at hc'
    simp at hc'
  have y4 : W1.cell? ⟨X, 4, none⟩ = some (.slice (some ⟨g, 0, none⟩) m c') := (o1.cell (p := ⟨X, 4, none⟩) h.lt nX).trans x4
  have HCp : Hid (∀ z, Below W1.heap.size W1 z → Calls Tryz.prog 76 #[.slice p n c] z fun r z' => ∃ a k, r = .returned (.slice a n k) ∧ z'.cell? ⟨X, 4, none⟩ = some (.slice (some ⟨g, 0, none⟩) m c') ∧ z'.cell? ⟨g, i * 7 + 6, none⟩ = some (.slice x.ap x.an x.ac) ∧ z'.frozen? ⟨g, i * 7 + 6, none⟩ = false ∧ Hid (RB0Q w B X (.slice (some ⟨g, 0, none⟩) m c') K R (es.set i (x.vd cd a n k bs)) (z'.setCell ⟨g, i * 7 + 6, none⟩ (.slice a n k)) ∧ BRow (z'.setCell ⟨g, i * 7 + 6, none⟩ (.slice a n k)) w.heap.size (.slice a n k) bs)) := fun z hz => by
    have hbz : Byts z p n bs := by
      rcases Nat.eq_zero_or_pos n with h0 | h0
      · exact ⟨hb.len, fun j hj => by omega⟩
      · exact (hb.off o1 fun b o e2 _ e3 => by have := hpB b o e2 h0; omega).below hz
    refine (rcop_any (c := c) z hbz (by omega)).mono ?_
    rintro r z' ⟨a, k, e2, br, bz⟩
    have hz' : Below W1.heap.size W1 z' := below_then hz bz
    have r2 := ERow.below r1 hz'
    have hx1 : (es.set i { x with cd := cd })[i]? = some { x with cd := cd } := by rw [List.getElem?_set_self (by rw [hm0]; exact hil)]
    obtain ⟨g', eg, _, _, _, _, _, _, _, k6⟩ := nrow_cells r2 hx1
    obtain rfl : g = g' := by simpa using eg
    refine ⟨a, k, e2, ?_, k6, ERow.thaw r2 _, ?_⟩
    · rw [hz'.cell (p := ⟨X, 4, none⟩) (Nat.lt_of_lt_of_le h.lt o1.size)]; exact y4
    have o3 : Off (fun q => q = g) z' (z'.setCell ⟨g, i * 7 + 6, none⟩ (.slice a n k)) := Off.setCell (P := fun q => q = g) (Off.refl _ _) (p := ⟨g, i * 7 + 6, none⟩) rfl _
    have oall : Off (fun q => q = g) w (z'.setCell ⟨g, i * 7 + 6, none⟩ (.slice a n k)) := o1.trans ((Off.of_below hz').trans o3)
    have r3 := row_an r2 hx1 a n k bs
    rw [List.set_set] at r3
    have ec : ∀ o, (z'.setCell ⟨g, i * 7 + 6, none⟩ (.slice a n k)).cell? ⟨X, o, none⟩ = w.cell? ⟨X, o, none⟩ := fun o => oall.cell (p := ⟨X, o, none⟩) h.lt nX
    have key : ∀ {u : Value} {l : List Int}, BRow w B u l → BRow (z'.setCell ⟨g, i * 7 + 6, none⟩ (.slice a n k)) B u l := fun {u l} hu => ERow.off hu oall fun q hq e3 => by
      obtain ⟨cs', hc'⟩ := (show ∃ cs, w.heap[q]? = some (.cells cs 5 (0, 0)) by
        rcases hu.2 with ⟨rfl, _⟩ | ⟨g1, c1, u1, rfl, _, b1, _⟩
        · cases hq
        · simp only [Value.ownBlock, Option.some.injEq] at hq
          subst hq
          exact ⟨_, b1⟩)
      exact bytw q cs' hc' e3
    have hbr : BRow (z'.setCell ⟨g, i * 7 + 6, none⟩ (.slice a n k)) w.heap.size (.slice a n k) bs := ERow.base (ERow.off br o3 fun q hq e3 => by
      have := (ERow.lt br hq).1
      have := hz.size
      have := o1.size
      omega) (Nat.le_trans o1.size hz.size)
    refine ⟨⟨⟨Nat.lt_of_lt_of_le h.lt oall.size, by rw [ec]; exact h.c1, by rw [ec]; exact h.c2, by rw [ec]; exact h.c3, by rw [ec]; exact x4, by rw [oall.frozen (p := ⟨X, 4, none⟩) h.lt nX]; exact h.fz, r3, fun y hy => ?_⟩, oall.mono fun q e3 => (by rw [e3]; rfl)⟩, hbr⟩
    rcases List.mem_or_eq_of_mem_set hy with g1 | rfl
    · exact ⟨key (h.own y g1).t, key (h.own y g1).c, key (h.own y g1).a⟩
    · have hox := h.own x (List.mem_of_getElem? hx)
      refine ⟨key hox.t, key hox.c, ?_⟩
      exact ERow.base hbr hB
  have HM : Hid (∀ a k, manyB K (es.set i (x.vd cd a n k bs)) = true ∧ (es.set i (x.vd cd a n k bs)).length = m) := fun a k => ⟨hm a k, by rw [List.length_set]; exact hm0⟩
  have HK : Hid (1 ≤ K ∧ K ≤ 64) := ⟨h.inv.k1, h.inv.k2⟩
  have HXT : Hid (w.heap[X]? = some (.cells xcs xt xcur) ∧ xt ≠ 5 ∧ ¬ X = g ∧ B ≤ w.heap.size) := ⟨hX0, hX1, nX, hB⟩
  have HFD : Hid (∀ a k, ∃ y', fdS (es.set i (x.vd cd a n k bs)) = some f ∧ (es.set i (x.vd cd a n k bs))[f]? = some y' ∧ y'.ct = y.ct) := hfd
  have HIV : Hid (∀ a k, Inv K R (shedS K (es.set i (x.vd cd a n k bs)))) := hinv
  have f5 := fz (i * 7 + 5)
  have hW2 : Hid (w.setCell ⟨g, i * 7 + 5, none⟩ (.string cd) = W1) := hW1
  rw [hm0]
  clear h hX0 hX1 hX2 r1 o1 bytg bytw hb hpB hvd hf hx ho hm hinv hfd hB lg hgB nX hm0 d0 d1 d2 d3 d4 d6 fz hil
  go_enter Tryz.func57, Tryz.ntmps57
  go_wp2_with fail
  refine hv0.mono ?_
  rintro _ w9 ⟨rfl, h9⟩
  subst w9
  go_wp2_with fail
  refine hat.mono ?_
  rintro _ w9 ⟨rfl, h9⟩
  subst w9
  clear hv0 hat
  go_upto_region 13 with fail
  go_cut [] (fun wx => Hid (∃ a k, RB0Q w B X (.slice (some ⟨g, 0, none⟩) m c') K R (es.set i (x.vd cd a n k bs)) wx ∧ BRow wx w.heap.size (.slice a n k) bs))
  case first =>
    clear HM HK HFD HIV hW2 x4 c1 d5 f5
    go_region_law (go_simp; go_at_call 76; refine (HCp.out _ ?_).mono ?_; (first | exact Below.refl _ _ | exact (Below.refl _ _).drew); rintro _ y1 ⟨a1, k1, rfl, g1, g2, g3, HF⟩)
    all_goals
      go_wp2_with fail
      go_meet
      exact ⟨a1, k1, HF.out⟩
  case rest =>
    obtain ⟨a1, k1, hq, hbr⟩ := hcut.out
    obtain ⟨hmm, hll⟩ := HM.out a1 k1
    obtain ⟨y', hf1, hf2, hf3⟩ := HFD.out a1 k1
    have hsh : shedS K (es.set i (x.vd cd a1 n k1 bs)) = (es.set i (x.vd cd a1 n k1 bs)).eraseIdx f := by unfold shedS; rw [hmm, if_pos rfl, hf1]
    have HEND : Hid (∀ w', RBQ w B X (.slice (some ⟨g, 0, none⟩) m c') K R ((es.set i (x.vd cd a1 n k1 bs)).eraseIdx f) w' → BRow w' w.heap.size (.slice a1 n k1) bs → ∃ a k, RBQ w B X (.slice (some ⟨g, 0, none⟩) m c') K R (shedS K (es.set i (x.vd cd a n k bs))) w' ∧ BRow w' w.heap.size (.slice a n k) bs) := fun w' hh hh2 => ⟨a1, k1, by rw [hsh]; exact hh, hh2⟩
    have HBR : Hid (BRow wc w.heap.size (.slice a1 n k1) bs) := hbr
    have hiv := HIV.out a1 k1
    rw [hsh] at hiv
    generalize es.set i (x.vd cd a1 n k1 bs) = es1 at hq hmm hll hf1 hf2 hiv HEND
    have HQ : Hid (RB0Q w B X (.slice (some ⟨g, 0, none⟩) m c') K R es1 wc ∧ es1.length = m ∧ fdS es1 = some f ∧ es1[f]? = some y' ∧ Inv K R (es1.eraseIdx f)) := ⟨hq, hll, hf1, hf2, hiv⟩
    have HO : Hid (∀ j, Calls Tryz.prog 49 #[.pointer (some ⟨X, 1, none⟩)] (wc.drewN j) fun r w' => r = .returned (.int .i64 (nOp es1 : Int)) ∧ w' = wc.drewN j) := fun j => ropen_row (hq.1.below (below_drewN (Below.refl _ _) j)).c4 (hq.1.below (below_drewN (Below.refl _ _) j)).row (by omega)
    have k4 := hq.1.c4
    have k2 := hq.1.c2
    have hno := nOp_add es1
    rw [hll] at hno
    obtain ⟨q, hq0⟩ : ∃ q, nOp es1 = q := ⟨_, rfl⟩
    rw [hq0] at HO hno
    have hsub : IntKind.i64.wrap ((m : Int) - (q : Int)) = (nDc es1 : Int) := by rw [IntKind.wrap_i64]; omega
    have hadd : IntKind.i64.wrap (K + 1) = K + 1 := by have := HK.out; rw [IntKind.wrap_i64]; omega
    have hle : ¬ (nDc es1 : Int) ≤ K + 1 := by
      unfold manyB at hmm
      have := of_decide_eq_true hmm
      omega
    obtain ⟨dn, hdn⟩ : ∃ d, (nDc es1 : Int) = d := ⟨_, rfl⟩
    rw [hdn] at hsub hle
    clear hbr hcut hq hmm hll hno hq0 hdn HM HK HCp y4 x4 c1 d5 f5 hW2 hW1 hf1 hf2 hiv hsh
    go_wp2_with fail
    go_quiet ((go_at_call 49; exact Calls.quiet_of_same (HO.out _)))
    go_wp2_with fail
    have HZ : Hid (RB0 (wc.drewN nq) B X (.slice (some ⟨g, 0, none⟩) m c') K R es1 ∧ Off (fun q => (Value.slice (some ⟨g, 0, none⟩) m c').ownBlock = some q) w (wc.drewN nq)) := ⟨HQ.out.1.1.below (below_drewN (Below.refl _ _) _), HQ.out.1.2.drewN _⟩
    have HBZ : Hid (BRow (wc.drewN nq) w.heap.size (.slice a1 n k1) bs) := ERow.below HBR.out (below_drewN (Below.refl _ _) _)
    clear HBR
    have HL : Hid (es1.length = m ∧ fdS es1 = some f ∧ es1[f]? = some y' ∧ Inv K R (es1.eraseIdx f) ∧ y'.ct = y.ct) := ⟨HQ.out.2.1, HQ.out.2.2.1, HQ.out.2.2.2.1, HQ.out.2.2.2.2, hf3⟩
    generalize wc.drewN nq = Z at HZ HBZ ⊢
    clear HQ HO k4 k2 hsub hadd hle hf3 HFD HIV
    go_loopw [11, 12, 13] (fun t11 t12 t13 wx => ∃ k : Nat, k ≤ m ∧ t13 = .int .i64 k ∧ Hid (NRow wx Z.heap.size t11 (rsK es1 f k) ∧ TRow wx Z.heap.size t12 (gnK y'.ct f k) ∧ Below Z.heap.size Z wx)) (fun _ _ t13 _ => m - (intOf t13).toNat)
    case atStart => exact ⟨0, Nat.zero_le _, rfl, by simpa [rsK] using ERow.nil _ _ _ _ _, by simpa [gnK] using ERow.nil _ _ _ _ _, Below.refl _ _⟩
    case round =>
      obtain ⟨k, hk, rfl, HI⟩ := hrel
      have hbx := HZ.out.1.below HI.out.2.2
      have k4 := hbx.c4
      have hfm : f < m := by have := (List.getElem?_eq_some_iff.1 HL.out.2.2.1).1; have := HL.out.1; omega
      obtain ⟨a11, c11, e11, _⟩ := ERow.isSlice HI.out.1
      obtain ⟨a12, c12, e12, _⟩ := ERow.isSlice HI.out.2.1
      by_cases hlt : k < m
      · have hlt1 : (k : Int) < m := by omega
        obtain ⟨e, he⟩ : ∃ e, es1[k]? = some e := ⟨_, List.getElem?_eq_getElem (by rw [HL.out.1]; exact hlt)⟩
        obtain ⟨g', eg, _, d0, d1, d2, d3, d4, d5, d6⟩ := nrow_cells hbx.row he
        obtain rfl : g = g' := by simpa using eg
        have hrl := rsK_len es1 f k
        have hml := HL.out.1
        rcases Nat.lt_trichotomy k f with hkf | hkf | hkf
        · have hcf : e.cd.toList.isEmpty = true := by
            have := (List.findIdx?_eq_some_iff_getElem.1 HL.out.2.1).2.2 k hkf
            obtain ⟨h1, h2⟩ := List.getElem?_eq_some_iff.1 he
            rw [h2] at this
            unfold dcB at this
            simpa using this
          have hg0 : (gnK y'.ct f k).length = 0 := by unfold gnK; rw [if_pos (by omega)]; rfl
          rw [hg0] at e12
          obtain ⟨a2, c2, W2, hap, r2, o2, s2⟩ := run_epush (P := Tryz.prog) (t := 22) Tryz.underlying22 celE encE_len encE_one (w := wr) HI.out.1 e #[.string e.ct, .slice e.tp e.tn e.tc, .int .i64 e.nu, .int .i64 e.tk, .slice e.cp e.cn e.cc, .string e.cd, .slice e.ap e.an e.ac] rfl (by omega) (by decide) HI.out.2.2.size
          have HI2 : Hid (NRow W2 Z.heap.size (.slice a2 ((rsK es1 f k).length + 1) c2) (rsK es1 f (k + 1)) ∧ TRow W2 Z.heap.size u12 (gnK y'.ct f (k + 1)) ∧ Below Z.heap.size Z W2) := by
            refine ⟨?_, ?_, HI.out.2.2.trans (o2.below HI.out.2.2.size fun q hq => (ERow.lt HI.out.1 hq).1)⟩
            · have : rsK es1 f (k + 1) = rsK es1 f k ++ [e] := by unfold rsK; rw [if_pos (by omega), if_pos (by omega), take_one he]
              rw [this]; exact r2
            · have : gnK y'.ct f (k + 1) = gnK y'.ct f k := by unfold gnK; rw [if_pos (by omega), if_pos (by omega)]
              rw [this]; exact ERow.off HI.out.2.1 o2 fun q hq hq' => own_ne HI.out.2.1 HI.out.1 (by decide) q hq hq'
          rw [e12] at HI2 ⊢
          rw [e11] at hap ⊢
          obtain ⟨sl, hsl⟩ : ∃ q, (rsK es1 f k).length + 1 = q := ⟨_, rfl⟩
          rw [hsl] at hap HI2
          clear hsl r2 o2 s2 HI e11 e12 hbx he eg hg0 hrl hml
          go_wp2_with (at_builtin; refine wpList_append_run rfl (.tmp 104) (.tmp 112) 22 _ rfl hap ?_)
          go_roundw
          case rel => exact ⟨k + 1, hlt, by go_num, HI2⟩
          case measure => simp [intOf]; omega
        · subst hkf
          have hey : e = y' := by have := HL.out.2.2.1; rw [he] at this; exact Option.some.inj this
          have hcf : e.cd.toList.isEmpty = false := by
            obtain ⟨h1, h2, _⟩ := List.findIdx?_eq_some_iff_getElem.1 HL.out.2.1
            obtain ⟨h3, h4⟩ := List.getElem?_eq_some_iff.1 he
            rw [h4] at h2
            unfold dcB at h2
            simpa using h2
          have hg0 : gnK y'.ct k k = [] := by unfold gnK; rw [if_pos (Nat.le_refl _)]
          have ht0 : TRow wr Z.heap.size u12 [] := by have := HI.out.2.1; rw [hg0] at this; exact this
          rw [hg0] at e12
          obtain ⟨a2, c2, W2, hap, r2, o2, s2⟩ := run_epush (P := Tryz.prog) (t := 66) Tryz.underlying66 celSt encS_len encS_one (w := wr) ht0 e.ct #[.string e.ct] rfl (by simp) (by decide) HI.out.2.2.size
          have HI2 : Hid (NRow W2 Z.heap.size u11 (rsK es1 k (k + 1)) ∧ TRow W2 Z.heap.size (.slice a2 (([] : List ByteArray).length + 1) c2) (gnK y'.ct k (k + 1)) ∧ Below Z.heap.size Z W2) := by
            refine ⟨?_, ?_, HI.out.2.2.trans (o2.below HI.out.2.2.size fun q hq => (ERow.lt ht0 hq).1)⟩
            · have : rsK es1 k (k + 1) = rsK es1 k k := by unfold rsK; rw [if_neg (by omega), if_pos (Nat.le_refl _), take_at he]
              rw [this]; exact ERow.off HI.out.1 o2 fun q hq hq' => own_ne HI.out.1 ht0 (by decide) q hq hq'
            · have : gnK y'.ct k (k + 1) = [] ++ [e.ct] := by unfold gnK; rw [if_neg (by omega), hey]; rfl
              rw [this]; exact r2
          rw [e11] at HI2 ⊢
          rw [e12] at hap ⊢
          clear r2 o2 s2 HI e11 e12 hbx he eg hg0 hrl hml ht0 hey
          simp only [List.length_nil, Nat.zero_add] at hap HI2
          go_wp2_with (at_builtin; refine wpList_append_run rfl (.tmp 93) (.tmp 102) 66 _ rfl hap ?_)
          go_roundw
          case rel => exact ⟨k + 1, hlt, by go_num, HI2⟩
          case measure => simp [intOf]; omega
        · have hg0 : (gnK y'.ct f k).length = 1 := by unfold gnK; rw [if_neg (by omega)]; rfl
          rw [hg0] at e12
          obtain ⟨a2, c2, W2, hap, r2, o2, s2⟩ := run_epush (P := Tryz.prog) (t := 22) Tryz.underlying22 celE encE_len encE_one (w := wr) HI.out.1 e #[.string e.ct, .slice e.tp e.tn e.tc, .int .i64 e.nu, .int .i64 e.tk, .slice e.cp e.cn e.cc, .string e.cd, .slice e.ap e.an e.ac] rfl (by omega) (by decide) HI.out.2.2.size
          have HI2 : Hid (NRow W2 Z.heap.size (.slice a2 ((rsK es1 f k).length + 1) c2) (rsK es1 f (k + 1)) ∧ TRow W2 Z.heap.size u12 (gnK y'.ct f (k + 1)) ∧ Below Z.heap.size Z W2) := by
            refine ⟨?_, ?_, HI.out.2.2.trans (o2.below HI.out.2.2.size fun q hq => (ERow.lt HI.out.1 hq).1)⟩
            · have : rsK es1 f (k + 1) = rsK es1 f k ++ [e] := by unfold rsK; rw [if_neg (by omega), if_neg (by omega), take_lt he hkf]
              rw [this]; exact r2
            · have : gnK y'.ct f (k + 1) = gnK y'.ct f k := by unfold gnK; rw [if_neg (by omega), if_neg (by omega)]
              rw [this]; exact ERow.off HI.out.2.1 o2 fun q hq hq' => own_ne HI.out.2.1 HI.out.1 (by decide) q hq hq'
          rw [e12] at HI2 ⊢
          rw [e11] at hap ⊢
          obtain ⟨sl, hsl⟩ : ∃ q, (rsK es1 f k).length + 1 = q := ⟨_, rfl⟩
          rw [hsl] at hap HI2
          clear hsl r2 o2 s2 HI e11 e12 hbx he eg hg0 hrl hml
          go_wp2_with (at_builtin; refine wpList_append_run rfl (.tmp 104) (.tmp 112) 22 _ rfl hap ?_)
          go_roundw
          case rel => exact ⟨k + 1, hlt, by go_num, HI2⟩
          case measure => simp [intOf]; omega
      · have hlt1 : ¬ (k : Int) < m := by omega
        obtain rfl : k = m := by omega
        have hrs : rsK es1 f k = es1.eraseIdx f := by unfold rsK; rw [if_neg (by omega), List.take_of_length_le (by have := HL.out.1; omega)]
        have hgn : gnK y'.ct f k = [y.ct] := by unfold gnK; rw [if_neg (by omega), HL.out.2.2.2.2]
        have HF : Hid (NRow wr Z.heap.size u11 (es1.eraseIdx f) ∧ TRow wr Z.heap.size u12 [y.ct] ∧ Below Z.heap.size Z wr) := by
          have := HI.out
          rw [hrs, hgn] at this
          exact this
        have fz4 := hbx.fz
        have hlX := hbx.lt
        rw [hrs] at e11
        rw [hgn] at e12
        have HE : Hid (BRow (wr.setCell ⟨X, 4, none⟩ u11) w.heap.size (.slice a1 n k1) bs ∧ TRow (wr.setCell ⟨X, 4, none⟩ u11) w.heap.size u12 [y.ct] ∧ RBQ w B X (.slice (some ⟨g, 0, none⟩) k c') K R (es1.eraseIdx f) (wr.setCell ⟨X, 4, none⟩ u11)) := by
          obtain ⟨x1, x2, x3, x4'⟩ := HXT.out
          have hZX : X < Z.heap.size := HZ.out.1.lt
          have o3 : Off (fun q => q = X) wr (wr.setCell ⟨X, 4, none⟩ u11) := Off.setCell (P := fun q => q = X) (Off.refl _ _) (p := ⟨X, 4, none⟩) rfl _
          have hXw : wr.heap[X]? = some (.cells xcs xt xcur) := by
            rw [HF.out.2.2.block X hZX, HZ.out.2.block X (blk_lt x1) (fun e3 => x3 (by simpa [Value.ownBlock] using e3.symm))]
            exact x1
          have byt : ∀ q cs, wr.heap[q]? = some (.cells cs 5 (0, 0)) → ¬ q = X := fun q cs hc e3 => by
            rw [e3, hXw] at hc
            simp only [Option.some.injEq, Obj.cells.injEq] at hc
            exact x2 hc.2.1
          have cO : ∀ j, ¬ j = 4 → (wr.setCell ⟨X, 4, none⟩ u11).cell? ⟨X, j, none⟩ = wr.cell? ⟨X, j, none⟩ := fun j hj => by
            rw [World.cell?_setCell_other _ _ _ _ (by simp; try omega)]
          have hws : w.heap.size ≤ Z.heap.size := HZ.out.2.size
          have hbw : BRow wr w.heap.size (.slice a1 n k1) bs := ERow.below HBZ.out HF.out.2.2
          have hbo : Own wr w.heap.size (zE.vd cd a1 n k1 bs) := ⟨ERow.nil _ _ _ _ _, ERow.nil _ _ _ _ _, hbw⟩
          refine ⟨(hbo.byType o3 byt).a, ERow.base (ERow.off HF.out.2.1 o3 fun q hq e3 => by have := (ERow.lt HF.out.2.1 hq).1; omega) hws, u11, ⟨Nat.lt_of_lt_of_le hlX o3.size, ?_, ?_, ?_, ?_, ?_, ERow.base (ERow.off HF.out.1 o3 fun q hq e3 => by have := (ERow.lt HF.out.1 hq).1; omega) (by omega), fun z hz => ?_, HL.out.2.2.2.1⟩, ?_, fun q hq => Or.inr (Nat.le_trans hws (ERow.lt HF.out.1 hq).1), ?_⟩
          · rw [cO 1 (by decide)]; exact hbx.c1
          · rw [cO 2 (by decide)]; exact hbx.c2
          · rw [cO 3 (by decide)]; exact hbx.c3
          · exact World.cell?_setCell_same _ _ _ k4
          · rw [World.frozen?_setCell]; exact fz4
          · exact (hbx.own z (List.mem_of_mem_eraseIdx hz)).byType o3 byt
          · exact Off.trans (HZ.out.2.mono fun q hq => Or.inr hq) (Off.trans (Off.of_below HF.out.2.2) (o3.mono fun q hq => Or.inl hq))
          · exact (XK.of_off (Off.trans HZ.out.2 (Off.of_below HF.out.2.2)) (fun e3 => x3 (by simpa [Value.ownBlock] using e3.symm))).trans (XK.set wr _)
        rw [e11] at HE ⊢
        rw [e12] at HE ⊢
        clear HI HF hbx e11 e12 hrs hgn
        go_wp2_with fail
        go_ret2
        exact ⟨_, rfl, HE.out.2.1, HEND.out _ HE.out.2.2 HE.out.1⟩
end
end Go.Proofs.YtjbkfppibnlmoaaGreatDoor
