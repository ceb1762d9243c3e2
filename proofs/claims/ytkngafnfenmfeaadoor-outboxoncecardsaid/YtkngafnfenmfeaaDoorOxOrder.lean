import Derived.Test.YtkngafnfenmfeaaDoorOxDoes
import Derived.Test.YtkngafnfenmfeaaDoorOxHeads2
import Derived.Test.YtkngafnfenmfeaaDoorOxOpenP
/-
  A sequenced box: none but the head is under way or has a number. Of no program.
-/
namespace Go.Proofs.YtkngafnfenmfeaaDoor
open Go.RowKit

structure Inv (ms : List Msg) : Prop where
  tail : ∀ (k : Nat) (m : Msg), 1 ≤ k → ms[k]? = some m → m.un = false ∧ m.nu = 0
  head : ∀ m : Msg, ms[0]? = some m → m.un = true → m.nu ≠ 0
theorem Inv.nil : Inv [] := ⟨fun k m _ h => by simp at h, fun m h => by simp at h⟩
theorem Inv.rest {m : Msg} {r : List Msg} (h : Inv (m :: r)) : Inv r :=
  ⟨fun k x _ hx => h.tail (k + 1) x (by omega) (by simpa using hx), fun x hx hu => by
    have := (h.tail 1 x (Nat.le_refl _) (by simpa using hx)).1
    rw [hu] at this; cases this⟩
theorem Inv.new {m m' : Msg} {r : List Msg} (h : Inv (m :: r)) (hm : m'.un = true → m'.nu ≠ 0) : Inv (m' :: r) :=
  ⟨fun k x hk hx => by
    obtain ⟨j, rfl⟩ : ∃ j, k = j + 1 := ⟨k - 1, by omega⟩
    exact h.tail (j + 1) x hk (by simpa using hx), fun x hx => by
    obtain rfl : m' = x := by simpa using hx
    exact hm⟩
theorem fi_head (m : Msg) (r : List Msg) : fi m.ct (m :: r) = some 0 := by
  unfold fi
  rw [List.findIdx?_cons]
  simp
theorem nextS_true {ms : List Msg} {m : Msg} (h : nextS true ms = some m) : ∃ r, ms = m :: r := by
  cases ms with
  | nil => cases h
  | cons x r =>
    unfold nextS at h
    split at h
    · simp at h
    · exact ⟨r, by simp only [Option.some.injEq] at h; rw [h]⟩
theorem tksS_nu (x : Int) (l : ActL) : ∀ t : Msg × Bool, t.1.nu ≠ 0 → (∀ y ∈ l, y.1 = 5 → x ≠ 0) → (tksS x t l).1.nu ≠ 0 := by
  induction l with
  | nil => intro t h _; exact h
  | cons y r ih =>
    intro t h h5
    refine ih (tkS x t y.1) ?_ (fun z hz => h5 z (List.mem_cons_of_mem _ hz))
    unfold tkS
    split
    · exact h
    · split
      · rename_i hy
        exact h5 y List.mem_cons_self hy
      · split <;> exact h
theorem doS_head {m m' : Msg} {r : List Msg} {x : Int} {l : ActL} (he : m'.ct = m.ct) : doS (m :: r) m' x l = r ∨ doS (m :: r) m' x l = (tksS x (m', false) l).1 :: r := by
  have hc : (tksS x (m', false) l).1.ct = m.ct := by rw [(tksS_ct x l (m', false)).1, he]
  unfold doS
  split
  · left
    unfold delS
    rw [hc, fi_head]
    rfl
  · right
    unfold putS
    rw [hc, fi_head]
    rfl
theorem inv_do {m m' : Msg} {r : List Msg} {x : Int} {l : ActL} (h : Inv (m :: r)) (he : m'.ct = m.ct) (hn : m'.nu ≠ 0) (h5 : ∀ y ∈ l, y.1 = 5 → x ≠ 0) : Inv (doS (m :: r) m' x l) := by
  rcases doS_head (m := m) (r := r) (x := x) (l := l) he with e | e
  · rw [e]; exact h.rest
  · rw [e]; exact h.new fun _ => tksS_nu x l (m', false) hn h5
theorem inv_step {ms ms' : List Msg} {kd : Int} {ct : ByteArray} {ds : List Deed} (h : Inv ms) (hs : StepR true ms kd ct ds ms') : Inv ms' ∧ ∀ d ∈ ds, ∃ m, ms[0]? = some m ∧ d.1 = m.ct ∧ m.nu ≠ 0 := by
  have hd : ∀ (m : Msg) (r : List Msg) (l : ActL), ms = m :: r → m.nu ≠ 0 → ∀ d ∈ deedsS m.ct l, ∃ m, ms[0]? = some m ∧ d.1 = m.ct ∧ m.nu ≠ 0 := fun m r l e hn d hd => by
    unfold deedsS at hd
    obtain ⟨y, _, rfl⟩ := List.mem_map.1 hd
    exact ⟨m, by rw [e]; rfl, rfl, hn⟩
  cases hs with
  | idle _ => exact ⟨h, fun d hd => by cases hd⟩
  | add m _ _ _ hnu hun =>
    refine ⟨⟨fun k x hk hx => ?_, fun x hx hu => ?_⟩, fun d hd => by cases hd⟩
    · by_cases hl : k < ms.length
      · rw [List.getElem?_append_left hl] at hx
        exact h.tail k x hk hx
      · have hm := List.mem_of_getElem? hx
        rw [List.getElem?_append_right (by omega)] at hx
        have := List.mem_of_getElem? hx
        simp only [List.mem_singleton] at this
        rw [this]; exact ⟨hun, hnu⟩
    · by_cases hl : 0 < ms.length
      · rw [List.getElem?_append_left hl] at hx
        exact h.head x hx hu
      · rw [List.getElem?_append_right (by omega)] at hx
        have := List.mem_of_getElem? hx
        simp only [List.mem_singleton] at this
        rw [this, hun] at hu; cases hu
  | give m n _ _ hn _ =>
    obtain ⟨r, rfl⟩ := nextS_true hn
    have hun := (nextS_mem hn).2
    refine ⟨?_, fun d hd => by cases hd⟩
    unfold putS
    rw [show fi ({ m with nu := n } : Msg).ct (m :: r) = some 0 from fi_head m r]
    exact h.new fun hu => by rw [show ({ m with nu := n } : Msg).un = m.un from rfl, hun] at hu; cases hu
  | go m st lf l _ hn hq h5 =>
    obtain ⟨r, rfl⟩ := nextS_true hn
    have hnu : m.nu ≠ 0 := by simpa using hq
    exact ⟨inv_do h rfl hnu fun y hy e => absurd e (h5 y hy), hd m r l rfl hnu⟩
  | ans m i st lf x l _ hf hm hu h5 =>
    have hi : i = 0 := by
      rcases Nat.eq_zero_or_pos i with g | g
      · exact g
      · have := (h.tail i m g hm).1
        rw [hu] at this; cases this
    subst hi
    have hnu := h.head m hm hu
    obtain ⟨r, rfl⟩ : ∃ r, ms = m :: r := by
      cases ms with
      | nil => simp at hm
      | cons y r => exact ⟨r, by simp at hm; rw [hm]⟩
    exact ⟨inv_do h rfl hnu h5, hd m r l rfl hnu⟩
end Go.Proofs.YtkngafnfenmfeaaDoor

/-
  The law OutboxOrder, walked.
-/
namespace Go.Proofs.YtkngafnfenmfeaaDoor
open Go.RowKit

theorem tries_ok (t : Int) : 0 ≤ (wrap64 (t.tmod 17 + 17)).tmod 17 ∧ (wrap64 (t.tmod 17 + 17)).tmod 17 ≤ 16 := by
  have h1 : -17 < t.tmod 17 := Int.lt_tmod_of_pos t (by decide)
  have h0 := Int.tmod_lt_of_pos t (show (0 : Int) < 17 by decide)
  rw [show wrap64 (t.tmod 17 + 17) = t.tmod 17 + 17 by unfold wrap64; omega]
  have h2 := Int.tmod_nonneg 17 (show 0 ≤ t.tmod 17 + 17 by omega)
  have h3 := Int.tmod_lt_of_pos (t.tmod 17 + 17) (show (0 : Int) < 17 by decide)
  omega
/-- From round to round. -/
def OrI (W : World) (b kb : Nat) (tr : Int) (w : World) : Prop := ∃ v ms, Li W w b kb v true tr ms ∧ Inv ms
/-- Behind 'does': what was (ls at la), the deeds (ds at da). -/
structure OrD (W : World) (b kb : Nat) (tr : Int) (la : Option Addr) (ln lc : Nat) (ls : List Msg) (da : Option Addr) (dc : Nat) (ds : List Deed) (w : World) : Prop where
  li : OrI W b kb tr w
  was : ERow w W.heap.size 50 10 encM (.slice la ln lc) ls
  row : DRow w W.heap.size (.slice da ds.length dc) ds
  ok : ∀ d ∈ ds, ∃ m, ls[0]? = some m ∧ d.1 = m.ct ∧ m.nu ≠ 0
theorem OrD.drewN {W : World} {b kb : Nat} {tr : Int} {la : Option Addr} {ln lc : Nat} {ls : List Msg} {da : Option Addr} {dc : Nat} {ds : List Deed} {w : World} (h : OrD W b kb tr la ln lc ls da dc ds w) (k : Nat) : OrD W b kb tr la ln lc ls da dc ds (w.drewN k) := by
  have hb : Below w.heap.size w (w.drewN k) := ((Off.refl (fun _ => False) _).drewN k).below (Nat.le_refl _) (fun _ g => g.elim)
  obtain ⟨v, ms, L, hI⟩ := h.li
  exact ⟨⟨v, ms, L.below hb, hI⟩, ERow.below h.was hb, ERow.below h.row hb, h.ok⟩
theorem DRow.max {w : World} {B : Nat} {v : Value} {ds : List Deed} (h : DRow w B v ds) : ds.length ≤ maxLen := by
  rcases ERow.form h with ⟨_, e⟩ | ⟨g, cap, _, _, _, h1, h2⟩
  · rw [e]; simp
  · omega
/-- Behind the second List: what is (ns at na). -/
structure OrN (W : World) (b kb : Nat) (tr : Int) (na : Option Addr) (nn nc : Nat) (ns ms : List Msg) (w : World) : Prop where
  li : ∃ v, Li W w b kb v true tr ms
  inv : Inv ms
  now : ERow w W.heap.size 50 10 encM (.slice na nn nc) ns
  len : nn = ms.length
  same : ∀ (i : Nat) (m : Msg), ms[i]? = some m → ∃ a c, ns[i]? = some (m.wi a c)
theorem OrN.at_ {W : World} {b kb : Nat} {tr : Int} {na : Option Addr} {nn nc : Nat} {ns ms : List Msg} {w : World} (h : OrN W b kb tr na nn nc ns ms w) {i : Nat} {m : Msg} (hm : ms[i]? = some m) : ∃ g, na = some ⟨g, 0, none⟩ ∧ ∀ w', Below w.heap.size w w' → w'.cell? ⟨g, i * 10, none⟩ = some (.string m.ct) ∧ w'.cell? ⟨g, i * 10 + 5, none⟩ = some (.int .i64 m.nu) ∧ w'.cell? ⟨g, i * 10 + 9, none⟩ = some (.bool m.un) := by
  obtain ⟨a, c, hn⟩ := h.same i m hm
  obtain ⟨g, e, hl, hc⟩ := ERow.at_ encM_len h.now hn
  refine ⟨g, e, fun w' hb => ?_⟩
  have e0 : ∀ q, w'.cell? ⟨g, q, none⟩ = w.cell? ⟨g, q, none⟩ := fun q => hb.cell (p := ⟨g, q, none⟩) hl
  exact ⟨by rw [e0]; exact hc 0 (by decide), by rw [e0]; exact hc 5 (by decide), by rw [e0]; exact hc 9 (by decide)⟩
theorem OrN.back {W : World} {b kb : Nat} {tr : Int} {na : Option Addr} {nn nc : Nat} {ns ms : List Msg} {w w' : World} (h : OrN W b kb tr na nn nc ns ms w) (hb : Below w.heap.size w w') : OrI W b kb tr w' := by
  obtain ⟨v, L⟩ := h.li
  exact ⟨v, ms, L.below hb, h.inv⟩
set_option maxRecDepth 100000 in
set_option maxHeartbeats 2000000 in
theorem order_law (t : Int) (ao : Option Addr) (cap : Nat) (xs : List (Opv × Int)) (W : World) (hV : PVc W) (ho : Picks W ao xs) (hl : xs.length ≤ 140737488355328) (hw : ∀ y ∈ xs, y.1.tn ≤ 140737488355328) :
    Calls Tryd.prog 3 #[.int .i64 t, .slice ao xs.length cap] W fun e w' => e = .returned (.bool true) ∧ Below W.heap.size W w' := by
  obtain ⟨n, hn⟩ : ∃ n, xs.length = n := ⟨_, rfl⟩
  have HN : Hid (xs.length = n) := hn
  rw [hn] at hl ⊢
  have HO : Hid (PVc W ∧ Picks W ao xs ∧ ∀ y ∈ xs, y.1.tn ≤ 140737488355328) := ⟨hV, ho, hw⟩
  clear ho hn hV hw
  go_enter Tryd.func3, Tryd.ntmps3
  go_wp2_with fail
  refine (heads_true W HO.out.1).mono ?_
  rintro _ w0 ⟨rfl, b0⟩
  have HB0 : Hid (Below W.heap.size W w0) := b0
  clear b0
  go_wp2_with fail
  obtain ⟨tr, htr⟩ : ∃ tr, (wrap64 (t.tmod 17 + 17)).tmod 17 = tr := ⟨_, rfl⟩
  have ht := tries_ok t
  rw [htr] at ht ⊢
  have HT : Hid (0 ≤ tr ∧ tr ≤ 16) := ht
  clear ht
  refine (load_li W true tr w0 HT.out.1 HT.out.2 HB0.out).mono ?_
  rintro _ wl ⟨b, kb, v0, rfl, HL⟩
  have HI0 : Hid (OrI W b kb tr wl) := ⟨v0, [], HL.out.1, Inv.nil⟩
  clear HL HT HB0 htr
  go_wp2_with fail
  go_loopw [7] (fun ti wx => ∃ k : Nat, k ≤ n ∧ ti = .int .i64 k ∧ Hid (OrI W b kb tr wx)) (fun ti _ => n - (intOf ti).toNat)
  case atStart => exact ⟨0, Nat.zero_le _, rfl, HI0⟩
  case round =>
    obtain ⟨k, hk, rfl, HR⟩ := hrel
    clear HI0
    by_cases hlt : k < n
    · have hlt1 : (k : Int) < n := by omega
      obtain ⟨y, hy⟩ : ∃ y, xs[k]? = some y := ⟨_, List.getElem?_eq_getElem (by rw [HN.out]; exact hlt)⟩
      obtain ⟨pb, off, rfl, hat⟩ := HO.out.2.1 k y hy
      have hyn := HO.out.2.2 y (List.mem_of_getElem? hy)
      obtain ⟨v, ms, L, hI⟩ := HR.out
      have HL : Hid (Li W wr b kb v true tr ms ∧ Inv ms) := ⟨L, hI⟩
      clear L hI HR
      have HP : Hid (PickAt W pb (off + k * 9) y ∧ y.1.tn ≤ 140737488355328) := ⟨hat, hyn⟩
      clear hat hyn hy
      go_wp2_with fail
      refine (list_any HL.out.1.bx).mono ?_
      rintro _ w1 ⟨ls, la, lc, rfl, hr, hc, b1⟩
      have HL1 : Hid (Li W w1 b kb v true tr ms ∧ Inv ms ∧ ERow w1 wr.heap.size 50 10 encM (.slice la ms.length lc) ls ∧ Cps w1 ls ms ∧ ∀ q, (q = kb ∨ v.ownBlock = some q) → q < wr.heap.size) := ⟨HL.out.1.below b1, HL.out.2, hr, hc, fun q hq => by
        rcases hq with rfl | hq
        · exact blk_lt HL.out.1.bx.2.1.1
        · exact (ERow.lt HL.out.1.bx.2.1.2.1 hq).2⟩
      have HWS : Hid (W.heap.size ≤ wr.heap.size) := HL.out.1.bel.size
      clear hr hc b1 HL
      obtain ⟨ln, hln⟩ : ∃ ln, ms.length = ln := ⟨_, rfl⟩
      rw [hln] at HL1 ⊢
      clear hln
      have hP1 := HP.out.1.below HL1.out.1.bel
      obtain ⟨⟨lp, c0, c1, c2, c3, c4, c5, c6, c7, _, _⟩, c8⟩ := hP1
      have HD : Hid (∀ z, Below w1.heap.size w1 z → Calls Tryd.prog 11 #[.pointer (some ⟨b, 0, none⟩), .agg #[.int .i64 y.1.kd, .string y.1.ct, .slice y.1.tp y.1.tn y.1.tc, .bool y.1.e, .int .i64 y.1.a, .int .i64 y.1.p, .string y.1.cd, .int .i64 y.1.n], .int .i64 y.2] z fun e w' => ∃ da dc ds dn, e = .returned (.tuple #[.slice da (List.length ds) dc, .bool dn]) ∧ Hid (OrD W b kb tr la ln lc ls da dc ds w')) := fun z hz => by
        have hL := HL1.out.1.below hz
        refine (does_any hL HO.out.1 y.1 y.2 (HP.out.1.1.p.below hL.bel) HP.out.1.1.q HP.out.2).mono ?_
        rintro e w' ⟨hof, a, c, ds, v', ms', dn, he, hr, L', hh⟩
        refine ⟨a, c, ds, dn, he, ⟨?_, ?_, hr, ?_⟩⟩
        · rcases hh with ⟨_, hs⟩ | ⟨_, _, e2⟩
          · exact ⟨v', ms', L', (inv_step HL1.out.2.1 hs).1⟩
          · rw [e2] at L'; exact ⟨v', ms, L', HL1.out.2.1⟩
        · refine ERow.base (ERow.off (ERow.below HL1.out.2.2.1 hz) hof fun g hg hq => ?_) HWS.out
          have := (ERow.lt HL1.out.2.2.1 hg).1
          have := HL1.out.2.2.2.2 g hq
          omega
        · intro d hd
          rcases hh with ⟨_, hs⟩ | ⟨_, e2, _⟩
          · obtain ⟨m, h0, h1, h2⟩ := (inv_step HL1.out.2.1 hs).2 d hd
            have hm0 := (List.getElem?_eq_some_iff.1 h0).1
            have hll := HL1.out.2.2.2.1.1
            obtain ⟨l, hl⟩ : ∃ l, ls[0]? = some l := ⟨_, List.getElem?_eq_getElem (by omega)⟩
            obtain ⟨⟨a, c, rfl⟩, _⟩ := HL1.out.2.2.2.1.2 0 l m hl h0
            exact ⟨_, hl, h1, h2⟩
          · rw [e2] at hd; cases hd
      go_upto_region 10 with fail
      go_cut [9, 10] from 32 to 145 (fun t9 t10 wx => ∃ da dc ds dn, t9 = .slice da (List.length ds) dc ∧ t10 = .bool dn ∧ Hid (OrD W b kb tr la ln lc ls da dc ds wx))
      case first =>
        clear HL1 HO HP HWS
        go_region_law (go_simp; go_at_call 11; refine (HD.out _ ?_).mono ?_; (first | exact Below.refl _ _ | exact Below.drew (Below.refl _ _)); rintro _ w2 ⟨da, dc, ds, dn, rfl, HX⟩)
        all_goals
          go_wp2_with fail
          go_meet
          exact ⟨da, dc, ds, dn, rfl, rfl, HX⟩
      case rest =>
        obtain ⟨da, dc, ds, dn, rfl, rfl, HX⟩ := hcut
        clear HD HL1 HO HP HWS c0 c1 c2 c3 c4 c5 c6 c7 c8 lp
        obtain ⟨dl, hdl⟩ : ∃ dl, List.length ds = dl := ⟨_, rfl⟩
        have HDL : Hid (List.length ds = dl) := hdl
        rw [hdl]
        clear hdl
        go_wp2_with fail
        go_loopw [11] (fun ti wx => ∃ j : Nat, j ≤ dl ∧ ti = .int .i64 j ∧ Hid (OrD W b kb tr la ln lc ls da dc ds wx)) (fun ti _ => dl - (intOf ti).toNat)
        case atStart => exact ⟨0, Nat.zero_le _, rfl, HX⟩
        case round =>
          obtain ⟨j, hj, rfl, HY⟩ := hrel
          clear HX
          by_cases hjl : j < dl
          · have hjl1 : (j : Int) < dl := by omega
            obtain ⟨d, hd⟩ : ∃ d, ds[j]? = some d := ⟨_, List.getElem?_eq_getElem (by rw [HDL.out]; exact hjl)⟩
            obtain ⟨m, h0, h1, h2⟩ := HY.out.ok d (List.mem_of_getElem? hd)
            have hdm : dl ≤ 9223372036854775807 := by have := HY.out.row.max; rw [HDL.out] at this; unfold maxLen at this; omega
            have hln : ln = ls.length := ERow.len HY.out.was
            have hl0 := (List.getElem?_eq_some_iff.1 h0).1
            have hl1 : (0 : Int) < ln := by omega
            have hl2 : ((ln : Int) == 0) = false := by simp; omega
            obtain ⟨dg, rfl, _, dcell⟩ := ERow.at_ encD_len HY.out.row hd
            obtain ⟨wg, rfl, _, wcell⟩ := ERow.at_ encM_len HY.out.was h0
            have k0 := dcell 0 (by decide)
            have k1 := dcell 1 (by decide)
            have q0 := wcell 0 (by decide)
            have q5 := wcell 5 (by decide)
            simp [encD, encM] at k0 k1 q0 q5
            rw [h1] at k0
            have hl3 : 0 < ln := by omega
            have e2 : (m.nu == 0) = false := by simpa using h2
            clear dcell wcell hd h0 h1 h2 hln hl0
            by_cases hk1 : d.2.1 = 1
            · have e0 : (d.2.1 == 1) = true := by simpa using hk1
              clear hk1
              go_wp2_with fail
              go_quiet (fail)
              go_wp2_with fail
              go_roundw
              case rel => exact ⟨j + 1, hjl, by go_num, HY.out.drewN _⟩
              case measure => simp [intOf]; omega
            · have e0 : (d.2.1 == 1) = false := by simpa using hk1
              clear hk1
              go_wp2_with fail
              go_quiet (fail)
              go_wp2_with fail
              go_roundw
              case rel => exact ⟨j + 1, hjl, by go_num, HY.out.drewN _⟩
              case measure => simp [intOf]; omega
          · have hjl1 : ¬ (j : Int) < dl := by omega
            obtain ⟨v2, ms2, L2, hI2⟩ := HY.out.li
            have HL2 : Hid (Li W wr b kb v2 true tr ms2 ∧ Inv ms2) := ⟨L2, hI2⟩
            clear L2 hI2 HY
            go_wp2_with fail
            refine (list_any HL2.out.1.bx).mono ?_
            rintro _ w3 ⟨ns, na, nc, rfl, hr3, hc3, b3⟩
            obtain ⟨nn, hnn⟩ : ∃ nn, ms2.length = nn := ⟨_, rfl⟩
            have HN3 : Hid (OrN W b kb tr na nn nc ns ms2 w3) := by
              rw [hnn] at hr3
              exact ⟨⟨v2, HL2.out.1.below b3⟩, HL2.out.2, ERow.base hr3 HL2.out.1.bel.size, hnn.symm, fun i m hm => by
                have hi := (List.getElem?_eq_some_iff.1 hm).1
                have hll := hc3.1
                obtain ⟨l, hl⟩ : ∃ l, ns[i]? = some l := ⟨_, List.getElem?_eq_getElem (by omega)⟩
                obtain ⟨⟨a, c, rfl⟩, _⟩ := hc3.2 i l m hl hm
                exact ⟨a, c, hl⟩⟩
            rw [hnn]
            clear hr3 hc3 b3 HL2 hnn
            go_wp2_with fail
            go_loopw [13] (fun ti wx => ∃ i : Nat, 1 ≤ i ∧ ti = .int .i64 i ∧ Hid (OrN W b kb tr na nn nc ns ms2 wx)) (fun ti _ => nn - (intOf ti).toNat)
            case atStart => exact ⟨1, Nat.le_refl _, rfl, HN3⟩
            case round =>
              obtain ⟨i, hi, rfl, HQ⟩ := hrel
              clear HN3
              by_cases hil : i < nn
              · have hil1 : (i : Int) < nn := by omega
                obtain ⟨m, hm⟩ : ∃ m, ms2[i]? = some m := ⟨_, List.getElem?_eq_getElem (by rw [← HQ.out.len]; exact hil)⟩
                obtain ⟨ng, rfl, hc⟩ := HQ.out.at_ hm
                obtain ⟨_, q5, q9⟩ := hc _ (Below.refl _ _)
                obtain ⟨eu, en⟩ := HQ.out.inv.tail i m hi hm
                rw [en] at q5
                rw [eu] at q9
                have hnl : nn ≤ 140737488355328 := by have := HQ.out.len; obtain ⟨v, L⟩ := HQ.out.li; have := L.bx.2.1.2.2; omega
                clear hc hm eu en
                go_wp2_with fail
                go_roundw
                case rel => exact ⟨i + 1, by omega, by go_num, HQ⟩
                case measure => simp [intOf]; omega
              · have hil1 : ¬ (i : Int) < nn := by omega
                obtain ⟨v3, L3⟩ := HQ.out.li
                cases hn : nextS true ms2 with
                | some m =>
                  have hnx := nextC_yes L3.bx hn
                  obtain ⟨r, rfl⟩ := nextS_true hn
                  have hun := (nextS_mem hn).2
                  obtain ⟨ng, rfl, hc⟩ := HQ.out.at_ (i := 0) (m := m) rfl
                  rw [hun] at hc
                  have hl3 : 0 < nn := by rw [HQ.out.len]; simp
                  have hl1 : (0 : Int) < nn := by omega
                  have HC : Hid (∀ w', Below wr.heap.size wr w' → w'.cell? ⟨ng, 0, none⟩ = some (.string m.ct) ∧ w'.cell? ⟨ng, 9, none⟩ = some (.bool false)) := fun w' hb => ⟨by simpa using (hc w' hb).1, by simpa using (hc w' hb).2.2⟩
                  clear hc hun hn L3
                  go_wp2_with fail
                  refine hnx.mono ?_
                  rintro _ w4 ⟨a4, c4, rfl, _, b4⟩
                  have HB4 : Hid (∀ o, Below wr.heap.size wr (w4.alloc o)) := fun o => b4.alloc b4.size o
                  have q0 := fun o => (HC.out _ (HB4.out o)).1
                  have q9 := fun o => (HC.out _ (HB4.out o)).2
                  clear hnx b4 HC
                  go_wp2_with fail
                  go_quiet (fail)
                  go_wp2_with fail
                  go_roundw
                  case rel => exact ⟨k + 1, hlt, by go_num, HQ.out.back (below_drewN (HB4.out _) _)⟩
                  case measure => simp [intOf]; omega
                | none =>
                  have hnx := nextC_no L3.bx hn
                  cases ms2 with
                  | nil =>
                    obtain rfl : nn = 0 := HQ.out.len
                    clear hn L3
                    go_wp2_with fail
                    refine hnx.mono ?_
                    rintro _ w4 ⟨a4, c4, rfl, _, b4⟩
                    have HB4 : Hid (∀ o, Below wr.heap.size wr (w4.alloc o)) := fun o => b4.alloc b4.size o
                    clear hnx b4
                    go_wp2_with fail
                    go_quiet (fail)
                    go_wp2_with fail
                    go_roundw
                    case rel => exact ⟨k + 1, hlt, by go_num, HQ.out.back (below_drewN (HB4.out _) _)⟩
                    case measure => simp [intOf]; omega
                  | cons m r =>
                    have hun : m.un = true := by
                      unfold nextS at hn
                      split at hn
                      · assumption
                      · cases hn
                    obtain ⟨ng, rfl, hc⟩ := HQ.out.at_ (i := 0) (m := m) rfl
                    rw [hun] at hc
                    have hl3 : 0 < nn := by rw [HQ.out.len]; simp
                    have hl1 : (0 : Int) < nn := by omega
                    have HC : Hid (∀ w', Below wr.heap.size wr w' → w'.cell? ⟨ng, 9, none⟩ = some (.bool true)) := fun w' hb => by simpa using (hc w' hb).2.2
                    clear hc hun hn L3
                    go_wp2_with fail
                    refine hnx.mono ?_
                    rintro _ w4 ⟨a4, c4, rfl, _, b4⟩
                    have HB4 : Hid (∀ o, Below wr.heap.size wr (w4.alloc o)) := fun o => b4.alloc b4.size o
                    have q9 := fun o => HC.out _ (HB4.out o)
                    clear hnx b4 HC
                    go_wp2_with fail
                    go_quiet (fail)
                    go_wp2_with fail
                    go_roundw
                    case rel => exact ⟨k + 1, hlt, by go_num, HQ.out.back (below_drewN (HB4.out _) _)⟩
                    case measure => simp [intOf]; omega
    · have hlt1 : ¬ (k : Int) < n := by omega
      obtain ⟨v, ms, L, _⟩ := HR.out
      have HB9 : Hid (Below W.heap.size W wr) := L.bel
      clear L HR
      go_wp2_with fail
      go_ret
      exact ⟨rfl, HB9.out⟩
end Go.Proofs.YtkngafnfenmfeaaDoor
