import Derived.Test.YtoijhecphgdfnaaDoorHsAl0
/-
  Held behind Book.Alone: rows, and lists by their places (AL); what shows reads.
-/
namespace Go.Proofs.YtoijhecphgdfnaaDoor
open Go.RowKit

def rho0 (hb : Nat) : Nat → Nat := fun k => if k = hb then 1 else 0
theorem rho0_ne {hb g : Nat} (h : g ≠ hb) : rho0 hb g = 0 := if_neg h
theorem rho0_of {hb g : Nat} (h : rho0 hb g ≠ 0) : g = hb := by
  unfold rho0 at h
  split at h
  · assumption
  · exact absurd rfl h
def mkD (i : Nat) : Deed := (⟨#[]⟩, -1 - (i : Int), ⟨#[]⟩)
def mkS (i : Nat) : Msg := { zM with nu := -1 - (i : Int) }
structure AL (w : World) (B hb : Nat) (f : Nat → Value) (X : Nat → List Sl) (CD : Nat → List Deed) (CS : Nat → List Msg) : Prop where
  hr : HR w B hb f (rho0 hb) [] X
  ld : LV w B 70 3 encD (X 0) CD
  ls : LV w B 74 10 encM (X 2) CS
  nb : ¬ LVf (X 0) hb ∧ ¬ LVf (X 2) hb
section
variable {w w' : World} {B hb : Nat} {f : Nat → Value} {X : Nat → List Sl} {CD CD' : Nat → List Deed} {CS CS' : Nat → List Msg} {P : Nat → Prop}
theorem AL.off (h : AL w B hb f X CD CS) (o : Off P w w') (hP : ∀ g, P g → ¬ RFt f (rho0 hb) g ∧ ¬ LVf (X 0) g ∧ ¬ LVf (X 2) g) : AL w' B hb f X CD CS :=
  ⟨h.hr.off o fun g hg p => (hP g p).1 hg, h.ld.off o fun g hg p => (hP g p).2.1 hg, h.ls.off o fun g hg p => (hP g p).2.2 hg, h.nb⟩
theorem AL.below (h : AL w B hb f X CD CS) (h9 : Below w.heap.size w w') : AL w' B hb f X CD CS := h.off (P := fun _ => False) (Off.of_below h9) fun _ p => p.elim
theorem AL.congr (h : AL w B hb f X CD CS) (h1 : ∀ i, i < (X 0).length → CD i = CD' i) (h2 : ∀ i, i < (X 2).length → CS i = CS' i) : AL w B hb f X CD' CS' := ⟨h.hr, h.ld.congr h1, h.ls.congr h2, h.nb⟩
/-- A list's block is none of the rows'. -/
theorem AL.nrow (h : AL w B hb f X CD CS) {g : Nat} (hg : LVf (X 0) g ∨ LVf (X 2) g) : ¬ RFt f (rho0 hb) g := fun e => by
  rcases e with e | ⟨q, hq, e⟩
  · rw [rho0_of e] at hg
    exact hg.elim h.nb.1 h.nb.2
  · obtain ⟨cs, hc⟩ := own_type (h.hr.row q hq) e
    have key : ∃ cs' t, w.heap[g]? = some (.cells cs' t (0, 0)) ∧ t ≠ hty q := by
      rcases hg with g1 | g1
      · obtain ⟨cs', h'⟩ := h.ld.type g1
        refine ⟨cs', _, h', ?_⟩
        unfold hty
        split <;> first | decide | (split <;> decide)
      · obtain ⟨cs', h'⟩ := h.ls.type g1
        refine ⟨cs', _, h', ?_⟩
        unfold hty
        split <;> first | decide | (split <;> decide)
    obtain ⟨cs', t, h', ht⟩ := key
    rw [hc] at h'
    simp only [Option.some.injEq, Obj.cells.injEq] at h'
    exact ht h'.2.1.symm
theorem AL.dsne (h : AL w B hb f X CD CS) {g : Nat} (h1 : LVf (X 0) g) (h2 : LVf (X 2) g) : False := by
  obtain ⟨cs, hc⟩ := h.ld.type h1
  obtain ⟨cs', hc'⟩ := h.ls.type h2
  rw [hc] at hc'
  simp at hc'
theorem AL.updD (h : AL w B hb f X CD CS) {i : Nat} {s : Sl} {xs : List Deed} (hs : (X 0)[i]? = some s) (o : Off (fun g => (Sl.v s).ownBlock = some g) w w') (hr : DRow w' B (Sl.v s) xs) : AL w' B hb f X (fun j => if j = i then xs else CD j) CS := by
  have hm : ∀ g, (Sl.v s).ownBlock = some g → LVf (X 0) g := fun g hg => ⟨s, List.mem_of_getElem? hs, hg⟩
  exact ⟨h.hr.off o fun g hg p => h.nrow (Or.inl (hm g p)) hg, h.ld.upd hs o hr, h.ls.off o fun g hg p => h.dsne (hm g p) hg, h.nb⟩
theorem AL.updS (h : AL w B hb f X CD CS) {i : Nat} {s : Sl} {xs : List Msg} (hs : (X 2)[i]? = some s) (o : Off (fun g => (Sl.v s).ownBlock = some g) w w') (hr : ERow w' B 74 10 encM (Sl.v s) xs) : AL w' B hb f X CD (fun j => if j = i then xs else CS j) := by
  have hm : ∀ g, (Sl.v s).ownBlock = some g → LVf (X 2) g := fun g hg => ⟨s, List.mem_of_getElem? hs, hg⟩
  exact ⟨h.hr.off o fun g hg p => h.nrow (Or.inr (hm g p)) hg, h.ld.off o fun g hg p => h.dsne hg (hm g p), h.ls.upd hs o hr, h.nb⟩
/-- The rows by their cells. -/
theorem HR.at_ {ρ : Nat → Nat} {es : List Bo.Ent} (h : HR w B hb f ρ es X) {q : Nat} (hq : q < 4) : ∃ a c, f q = .slice a (X q).length c ∧ w.cell? ⟨hb, q, none⟩ = some (.slice a (X q).length c) ∧ ∀ i s, (X q)[i]? = some s → ∃ g, a = some ⟨g, 0, none⟩ ∧ w.cell? ⟨g, i, none⟩ = some (.slice s.1 s.2.1 s.2.2) := by
  have hr := h.row q hq
  obtain ⟨a, c, e, _⟩ := ERow.isSlice hr
  refine ⟨a, c, e, (h.cell hq).trans (by rw [e]), fun i s hs => ?_⟩
  rw [e] at hr
  obtain ⟨g, ha, _, hc⟩ := ERow.at_ encSl_len hr hs
  refine ⟨g, ha, ?_⟩
  have := hc 0 (by decide)
  rw [Nat.mul_one, Nat.add_zero] at this
  exact this
end
/-- A list of lists that were grown: in memory of its own, each with its marks. -/
structure GL {α : Type} (w : World) (N B : Nat) (le e : TypeId) (k : Nat) (enc : α → List Value) (mk : Nat → α) (v : Value) (gs : List Sl) : Prop where
  row : ERow w N le 1 encSl v gs
  el : ∀ (i : Nat) (s : Sl), gs[i]? = some s → ERow w B e k enc (Sl.v s) (List.replicate s.2.1 (mk i))
section
variable {α : Type} {w w' : World} {N B k : Nat} {le e : TypeId} {enc : α → List Value} {mk : Nat → α} {v : Value} {gs : List Sl} {P : Nat → Prop}
theorem GL.off (h : GL w N B le e k enc mk v gs) (o : Off P w w') (h1 : ∀ g, v.ownBlock = some g → ¬ P g) (h2 : ∀ g, LVf gs g → ¬ P g) : GL w' N B le e k enc mk v gs :=
  ⟨ERow.off h.row o h1, fun i s hs => ERow.off (h.el i s hs) o fun g hg => h2 g ⟨s, List.mem_of_getElem? hs, hg⟩⟩
theorem GL.at_ (h : GL w N B le e k enc mk v gs) : ∃ a c, v = .slice a gs.length c ∧ ∀ i s, gs[i]? = some s → ∃ g, a = some ⟨g, 0, none⟩ ∧ w.cell? ⟨g, i, none⟩ = some (.slice s.1 s.2.1 s.2.2) := by
  obtain ⟨a, c, e, _⟩ := ERow.isSlice h.row
  refine ⟨a, c, e, fun i s hs => ?_⟩
  have hr := h.row
  rw [e] at hr
  obtain ⟨g, ha, _, hc⟩ := ERow.at_ encSl_len hr hs
  refine ⟨g, ha, ?_⟩
  have := hc 0 (by decide)
  rw [Nat.mul_one, Nat.add_zero] at this
  exact this
end
/-- An element of marks, by its cell. -/
theorem mark_at {α : Type} {w : World} {B k : Nat} {e : TypeId} {enc : α → List Value} (hk : ∀ x, (enc x).length = k) {s : Sl} {m : α} (h : ERow w B e k enc (Sl.v s) (List.replicate s.2.1 m)) {j : Nat} (hj : j < s.2.1) : ∃ g, s.1 = some ⟨g, 0, none⟩ ∧ ∀ o, o < k → w.cell? ⟨g, j * k + o, none⟩ = (enc m)[o]? := by
  obtain ⟨g, ha, _, hc⟩ := ERow.at_ hk h (j := j) (x := m) (by rw [List.getElem?_replicate, if_pos hj])
  exact ⟨g, ha, hc⟩
end Go.Proofs.YtoijhecphgdfnaaDoor

/-
  Held.shows: each list has its own mark; Held is empty then.
-/
namespace Go.Proofs.YtoijhecphgdfnaaDoor
open Go.RowKit

/-- What shows asks. -/
structure ShI (w : World) (B hb N : Nat) (f : Nat → Value) (X : Nat → List Sl) (v5 v6 : Value) (gD gS : List Sl) (ND NS : Nat) : Prop where
  hr : HR w B hb f (rho0 hb) [] X
  glD : GL w N B 66 70 3 encD mkD v5 gD
  glS : GL w N B 60 74 10 encM mkS v6 gS
  mD : ∀ (i : Nat) (s : Sl), (X 0)[i]? = some s → ERow w B 70 3 encD (Sl.v s) (List.replicate s.2.1 (mkD i))
  mS : ∀ (i : Nat) (s : Sl), (X 2)[i]? = some s → ERow w B 74 10 encM (Sl.v s) (List.replicate s.2.1 (mkS i))
  nD : (X 0).length = ND
  nS : (X 2).length = NS
  lD : gD.length = (X 0).length
  lS : gS.length = (X 2).length
  bD : ∀ (i : Nat) (s : Sl), gD[i]? = some s → s.2.1 ≤ 2000000000
  bS : ∀ (i : Nat) (s : Sl), gS[i]? = some s → s.2.1 ≤ 2000000000
theorem rows_nil {w : World} {B hb : Nat} {f : Nat → Value} {X : Nat → List Sl} (h : HR w B hb f (rho0 hb) [] X) : HR ((((w.setCell ⟨hb, 0, none⟩ (.slice none 0 0)).setCell ⟨hb, 1, none⟩ (.slice none 0 0)).setCell ⟨hb, 2, none⟩ (.slice none 0 0)).setCell ⟨hb, 3, none⟩ (.slice none 0 0)) B hb (fun k => if k = 3 then .slice none 0 0 else if k = 2 then .slice none 0 0 else if k = 1 then .slice none 0 0 else if k = 0 then .slice none 0 0 else f k) (rho0 hb) [] (fun _ => []) := by
  obtain ⟨vb, vw, hk⟩ := h.bk
  have e : ∀ q, q < 4 → (if q = 3 then Value.slice none 0 0 else if q = 2 then .slice none 0 0 else if q = 1 then .slice none 0 0 else if q = 0 then .slice none 0 0 else f q) = .slice none 0 0 := fun q hq => by
    rcases q with _ | _ | _ | _ | q
    · rfl
    · rfl
    · rfl
    · rfl
    · omega
  refine ⟨⟨vb, vw, bk_cell (bk_cell (bk_cell (bk_cell hk (by decide : 0 < 4) _) (by decide : 1 < 4) _) (by decide : 2 < 4) _) (by decide : 3 < 4) _⟩, fun q hq => ?_, fun i j g hi hj hij hg => ?_, fun q g hq hg => ?_, h.lo⟩
  · rw [e q hq]; exact ERow.nil _ _ _ _ _
  · rw [e i hi] at hg; cases hg
  · rw [e q hq] at hg; cases hg
section
variable {w : World} {B hb N : Nat} {f : Nat → Value} {X : Nat → List Sl} {v5 v6 : Value} {gD gS : List Sl} {ND NS : Nat}
set_option maxRecDepth 100000 in
set_option maxHeartbeats 16000000 in
theorem shows_s (h : ShI w B hb N f X v5 v6 gD gS ND NS) (hND : ND ≤ 1000000000) (hNS : NS ≤ 1000000000) :
    Calls Tryd.prog 21 #[.pointer (some ⟨hb, 0, none⟩), v5, v6] w fun e w' => e = .returned (.bool true) ∧ Hid ((∃ f', HR w' B hb f' (rho0 hb) [] (fun _ => []) ∧ ∀ q, q < 4 → f' q = .slice none 0 0) ∧ Off (fun g => g = hb) w w') := by
  have HH : Hid (ShI w B hb N f X v5 v6 gD gS ND NS) := h
  have hNDi : (ND : Int) ≤ 1000000000 := by omega
  have hNSi : (NS : Int) ≤ 1000000000 := by omega
  obtain ⟨aD, cD, _, k0D, hAD⟩ := h.hr.at_ (q := 0) (by decide)
  obtain ⟨aS, cS, _, k0S, hAS⟩ := h.hr.at_ (q := 2) (by decide)
  obtain ⟨vD, uD, eD, hVD⟩ := h.glD.at_
  obtain ⟨vS, uS, eS, hVS⟩ := h.glS.at_
  rw [h.nD] at k0D
  rw [h.nS] at k0S
  rw [h.lD, h.nD] at eD
  rw [h.lS, h.nS] at eS
  subst eD
  subst eS
  have HAD : Hid (True ∧ ∀ i s, (X 0)[i]? = some s → ∃ g, aD = some ⟨g, 0, none⟩ ∧ w.cell? ⟨g, i, none⟩ = some (.slice s.1 s.2.1 s.2.2)) := ⟨trivial, hAD⟩
  have HAS : Hid (True ∧ ∀ i s, (X 2)[i]? = some s → ∃ g, aS = some ⟨g, 0, none⟩ ∧ w.cell? ⟨g, i, none⟩ = some (.slice s.1 s.2.1 s.2.2)) := ⟨trivial, hAS⟩
  have HVD : Hid (∀ i s, gD[i]? = some s → ∃ g, vD = some ⟨g, 0, none⟩ ∧ w.cell? ⟨g, i, none⟩ = some (.slice s.1 s.2.1 s.2.2)) := hVD
  have HVS : Hid (∀ i s, gS[i]? = some s → ∃ g, vS = some ⟨g, 0, none⟩ ∧ w.cell? ⟨g, i, none⟩ = some (.slice s.1 s.2.1 s.2.2)) := hVS
  have k1D := h.hr.cell (q := 1) (by decide)
  have k1S := h.hr.cell (q := 3) (by decide)
  have f0 := h.hr.free 0
  have f1 := h.hr.free 1
  have f2 := h.hr.free 2
  have f3 := h.hr.free 3
  clear h hAD hAS hVD hVS hND hNS
  go_enter Tryd.func21, Tryd.ntmps21
  go_upto_region 2 with fail
  go_loopw [6, 7] (fun u t wx => u = .bool false ∧ ∃ i : Nat, i ≤ ND ∧ t = .int .i64 i ∧ wx = w) (fun _ t _ => ND - (intOf t).toNat)
  case atStart => exact ⟨rfl, 0, Nat.zero_le _, rfl, rfl⟩
  case round =>
  obtain ⟨rfl, i, hi, rfl, hwr⟩ := hrel
  rw [hwr]
  clear hwr
  by_cases hlt : i < ND
  · have hlt1 : (i : Int) < ND := by omega
    obtain ⟨s, hs⟩ : ∃ s, (X 0)[i]? = some s := ⟨_, List.getElem?_eq_getElem (by have := HH.out.nD; omega)⟩
    obtain ⟨l, hl⟩ : ∃ l, gD[i]? = some l := ⟨_, List.getElem?_eq_getElem (by have := HH.out.nD; have := HH.out.lD; omega)⟩
    obtain ⟨gr, ha, k1⟩ := HAD.out.2 i s hs
    obtain ⟨gv, hb2, k2⟩ := HVD.out i l hl
    rw [ha] at k0D
    subst hb2
    have hlb := HH.out.bD i l hl
    have hln : (l.2.1 : Int) ≤ 2000000000 := by omega
    go_upto_region 5 with fail
    go_loopw [6, 8] (fun u t wx => u = .bool false ∧ ∃ j : Nat, j ≤ l.2.1 ∧ t = .int .i64 j ∧ wx = w) (fun _ t _ => l.2.1 - (intOf t).toNat)
    case atStart => exact ⟨rfl, 0, Nat.zero_le _, rfl, rfl⟩
    case round =>
    obtain ⟨rfl, j, hj, rfl, hwr⟩ := hrel
    rw [hwr]
    clear hwr
    by_cases hjt : j < l.2.1
    · have hjt1 : (j : Int) < l.2.1 := by omega
      obtain ⟨ge, he, hc⟩ := mark_at encD_len (HH.out.glD.el i l hl) hjt
      have k3 : w.cell? ⟨ge, j * 3 + 1, none⟩ = some (.int .i64 (-1 - (i : Int))) := hc 1 (by decide)
      rw [he] at k2
      by_cases hjs : j < s.2.1
      · have hjs1 : (j : Int) < s.2.1 := by omega
        obtain ⟨gf, hf, hd⟩ := mark_at encD_len (HH.out.mD i s hs) hjs
        have k4 : w.cell? ⟨gf, j * 3 + 1, none⟩ = some (.int .i64 (-1 - (i : Int))) := hd 1 (by decide)
        rw [hf] at k1
        clear hc hd hs hl
        go_wp2_with fail
        go_roundw
        case rel => exact ⟨rfl, j + 1, hjt, by go_num, trivial⟩
        case measure => simp [intOf]; omega
      · have hjs1 : ¬ (j : Int) < s.2.1 := by omega
        clear hc hs hl
        go_wp2_with fail
        go_roundw
        case rel => exact ⟨rfl, j + 1, hjt, by go_num, trivial⟩
        case measure => simp [intOf]; omega
    · have hjt1 : ¬ (j : Int) < l.2.1 := by omega
      clear hs hl
      go_wp2_with fail
      go_roundw
      case rel => exact ⟨rfl, i + 1, hlt, by go_num, trivial⟩
      case measure => simp [intOf]; omega
  have hltD : ¬ (i : Int) < ND := by omega
  obtain rfl : i = ND := by omega
  go_upto_region 10 with fail
  go_loopw [6, 9] (fun u t wx => u = .bool false ∧ ∃ i : Nat, i ≤ NS ∧ t = .int .i64 i ∧ wx = w) (fun _ t _ => NS - (intOf t).toNat)
  case atStart => exact ⟨rfl, 0, Nat.zero_le _, rfl, rfl⟩
  case round =>
  obtain ⟨rfl, i, hi, rfl, hwr⟩ := hrel
  rw [hwr]
  clear hwr
  by_cases hlt : i < NS
  · have hlt1 : (i : Int) < NS := by omega
    obtain ⟨s, hs⟩ : ∃ s, (X 2)[i]? = some s := ⟨_, List.getElem?_eq_getElem (by have := HH.out.nS; omega)⟩
    obtain ⟨l, hl⟩ : ∃ l, gS[i]? = some l := ⟨_, List.getElem?_eq_getElem (by have := HH.out.nS; have := HH.out.lS; omega)⟩
    obtain ⟨gr, ha, k1⟩ := HAS.out.2 i s hs
    obtain ⟨gv, hb2, k2⟩ := HVS.out i l hl
    rw [ha] at k0S
    subst hb2
    have hlb := HH.out.bS i l hl
    have hln : (l.2.1 : Int) ≤ 2000000000 := by omega
    go_upto_region 13 with fail
    go_loopw [6, 10] (fun u t wx => u = .bool false ∧ ∃ j : Nat, j ≤ l.2.1 ∧ t = .int .i64 j ∧ wx = w) (fun _ t _ => l.2.1 - (intOf t).toNat)
    case atStart => exact ⟨rfl, 0, Nat.zero_le _, rfl, rfl⟩
    case round =>
    obtain ⟨rfl, j, hj, rfl, hwr⟩ := hrel
    rw [hwr]
    clear hwr
    by_cases hjt : j < l.2.1
    · have hjt1 : (j : Int) < l.2.1 := by omega
      obtain ⟨ge, he, hc⟩ := mark_at encM_len (HH.out.glS.el i l hl) hjt
      have k3 : w.cell? ⟨ge, j * 10 + 5, none⟩ = some (.int .i64 (-1 - (i : Int))) := hc 5 (by decide)
      rw [he] at k2
      by_cases hjs : j < s.2.1
      · have hjs1 : (j : Int) < s.2.1 := by omega
        obtain ⟨gf, hf, hd⟩ := mark_at encM_len (HH.out.mS i s hs) hjs
        have k4 : w.cell? ⟨gf, j * 10 + 5, none⟩ = some (.int .i64 (-1 - (i : Int))) := hd 5 (by decide)
        rw [hf] at k1
        clear hc hd hs hl
        go_wp2_with fail
        go_roundw
        case rel => exact ⟨rfl, j + 1, hjt, by go_num, trivial⟩
        case measure => simp [intOf]; omega
      · have hjs1 : ¬ (j : Int) < s.2.1 := by omega
        clear hc hs hl
        go_wp2_with fail
        go_roundw
        case rel => exact ⟨rfl, j + 1, hjt, by go_num, trivial⟩
        case measure => simp [intOf]; omega
    · have hjt1 : ¬ (j : Int) < l.2.1 := by omega
      clear hs hl
      go_wp2_with fail
      go_roundw
      case rel => exact ⟨rfl, i + 1, hlt, by go_num, trivial⟩
      case measure => simp [intOf]; omega
  have hltS : ¬ (i : Int) < NS := by omega
  obtain rfl : i = NS := by omega
  have HE : Hid ((∃ f', HR ((((w.setCell ⟨hb, 0, none⟩ (.slice none 0 0)).setCell ⟨hb, 1, none⟩ (.slice none 0 0)).setCell ⟨hb, 2, none⟩ (.slice none 0 0)).setCell ⟨hb, 3, none⟩ (.slice none 0 0)) B hb f' (rho0 hb) [] (fun _ => []) ∧ ∀ q, q < 4 → f' q = .slice none 0 0) ∧ Off (fun g => g = hb) w ((((w.setCell ⟨hb, 0, none⟩ (.slice none 0 0)).setCell ⟨hb, 1, none⟩ (.slice none 0 0)).setCell ⟨hb, 2, none⟩ (.slice none 0 0)).setCell ⟨hb, 3, none⟩ (.slice none 0 0))) :=
    ⟨⟨_, rows_nil HH.out.hr, fun q hq => by
      rcases q with _ | _ | _ | _ | q
      · rfl
      · rfl
      · rfl
      · rfl
      · omega⟩, ((((Off.refl (fun g => g = hb) w).setCell (p := ⟨hb, 0, none⟩) rfl _).setCell (p := ⟨hb, 1, none⟩) rfl _).setCell (p := ⟨hb, 2, none⟩) rfl _).setCell (p := ⟨hb, 3, none⟩) rfl _⟩
  go_wp2_with fail
  go_ret
  exact ⟨rfl, HE⟩
end
end Go.Proofs.YtoijhecphgdfnaaDoor
