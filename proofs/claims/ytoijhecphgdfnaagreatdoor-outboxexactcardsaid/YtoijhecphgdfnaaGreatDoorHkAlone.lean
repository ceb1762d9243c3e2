import Derived.Test.YtoijhecphgdfnaaGreatDoorHkGrow
/-
  Book.shows: no list shows in another.
-/
namespace Go.Proofs.YtoijhecphgdfnaaGreatDoor.Bo
open Go.RowKit

set_option maxRecDepth 100000 in
set_option maxHeartbeats 4000000 in
theorem shows_true {w : World} {B K : Nat} {ux : Nat → Value} {ρ : Nat → Nat} {vb vw vl : Value} {es : List Ent} {ls : List Value} (h : Gw w B K ux ρ vb vw vl es ls) (hl : ls.length = es.length) (hs : ∀ (i : Nat) (e : Ent), es[i]? = some e → e.bs = mk i e.bs.length ∧ e.bs.length ≤ 70368744177664) (hm : es.length ≤ 1099511627776) :
    Calls Tryz.prog 75 #[.pointer (some ⟨K, 4, none⟩), vl, .slice none 0 0, .slice none 0 0] w fun e w' => e = .returned (.bool true) ∧ ∃ k, w' = w.drewN k := by
  have HS : Hid (∀ (i : Nat) (e : Ent), es[i]? = some e → e.bs = mk i e.bs.length ∧ e.bs.length ≤ 70368744177664) := hs
  obtain ⟨ab, cb, rfl, hab⟩ := h.bk.rb.isSlice
  obtain ⟨al, cl, rfl, hal⟩ := h.rl.isSlice
  rw [List.length_map] at h hab
  obtain ⟨n, hn⟩ : ∃ n, es.length = n := ⟨_, rfl⟩
  rw [hl] at h hal
  rw [hn] at h hm hab hal hl
  have HA : Hid ((0 < n → ∃ g, ab = some ⟨g, 0, none⟩) ∧ (0 < n → ∃ g, al = some ⟨g, 0, none⟩) ∧ es.length = n ∧ ls.length = n) := ⟨hab, hal, hn, hl⟩
  have HH : Hid (Gw w B K ux ρ (.slice ab n cb) vw (.slice al n cl) es ls) := h
  have q0 := h.bk.c0
  have en : ls.length = n := hl
  rw [en]
  clear h hs hab hal hn hl en
  go_enter Tryz.func75, Tryz.ntmps75
  go_wp2_with fail
  go_loopw [9] (fun t9 wx => ∃ i x : Nat, i ≤ n ∧ t9 = .int .i64 i ∧ wx = w.drewN x) (fun t9 _ => n - (intOf t9).toNat)
  case atStart => exact ⟨0, 0, Nat.zero_le _, rfl, rfl⟩
  case round =>
    obtain ⟨i, x, hi, rfl, rfl⟩ := hrel
    by_cases hlt : i < n
    · have hlt1 : (i : Int) < n := by omega
      obtain ⟨g, rfl⟩ := HA.out.1 (by omega)
      obtain ⟨g2, rfl⟩ := HA.out.2.1 (by omega)
      obtain ⟨e, he⟩ : ∃ e, es[i]? = some e := ⟨_, List.getElem?_eq_getElem (by have := HA.out.2.2.1; omega)⟩
      obtain ⟨l, hl⟩ : ∃ l, ls[i]? = some l := ⟨_, List.getElem?_eq_getElem (by have := HA.out.2.2.2; omega)⟩
      have c1 : w.cell? ⟨g, i, none⟩ = some e.val := HH.out.bk.rb.slot (by rw [List.getElem?_map, he]; rfl)
      have c2 : w.cell? ⟨g2, i, none⟩ = some l := HH.out.rl.slot hl
      have r1 := HH.out.bk.val i e he
      obtain ⟨hmk, hlen⟩ := HS.out i e he
      have r2 := (HH.out.ll i l e hl he).1
      obtain ⟨a1, d1, e1, hb1⟩ := r1.isSlice
      obtain ⟨a2, d2, e2, hb2⟩ := r2.isSlice
      obtain ⟨m, hm1⟩ : ∃ m, e.bs.length = m := ⟨_, rfl⟩
      rw [mk_length, hm1] at e2
      rw [hm1] at e1 hlen hmk
      rw [e1] at c1
      rw [e2] at c2
      have HR : Hid (Row w B (.slice a1 m d1) (mk i m) ∧ Row w B (.slice a2 (m + 90) d2) (mk i (m + 90)) ∧ (0 < m → ∃ g, a1 = some ⟨g, 0, none⟩) ∧ ∃ g, a2 = some ⟨g, 0, none⟩) := ⟨by rw [← e1, ← hmk]; exact r1, by rw [← e2, ← hm1]; exact r2, by rw [hm1] at hb1; exact hb1, hb2 (by rw [mk_length]; omega)⟩
      clear r1 r2 hmk e1 e2 hb1 hb2 hm1 he hl
      go_wp2_with fail
      go_loopw [10] (fun t10 wx => ∃ k y : Nat, k ≤ m + 90 ∧ t10 = .int .i64 k ∧ wx = w.drewN y) (fun t10 _ => m + 90 - (intOf t10).toNat)
      case atStart => exact ⟨0, x, Nat.zero_le _, rfl, rfl⟩
      case round =>
        obtain ⟨k, y, hk, rfl, rfl⟩ := hrel
        by_cases hlt2 : k < m + 90
        · have hlt3 : (k : Int) < (m : Int) + 90 := by omega
          obtain ⟨gl, rfl⟩ := HR.out.2.2.2
          have k2 : w.cell? ⟨gl, k, none⟩ = some (.int .u8 (markI i k)) := by
            have := HR.out.2.1.slot (j := k) (by rw [mk_length]; omega)
            rw [mk_getD i _ k hlt2] at this; exact this
          have HM : Hid (∀ z, Calls Tryz.prog 72 #[.int .i64 (i : Int), .int .i64 (k : Int)] (w.drewN (y + z)) fun e w' => e = .returned (.int .u8 (markI i k)) ∧ ∃ u, w' = w.drewN (y + u)) := fun z => (mark_any i k (by omega) _).mono (fun e w' ⟨h1, h2⟩ => ⟨h1, z, h2⟩)
          by_cases hlt4 : k < m
          · have hlt5 : (k : Int) < m := by omega
            obtain ⟨gv, rfl⟩ := HR.out.2.2.1 (by omega)
            have k1 : w.cell? ⟨gv, k, none⟩ = some (.int .u8 (markI i k)) := by
              have := HR.out.1.slot (j := k) (by rw [mk_length]; omega)
              rw [mk_getD i _ k hlt4] at this; exact this
            go_wp2_with fail
            go_quiet ((go_at_call 72; exact HM.out _))
            go_wp2_with fail
            go_roundw
            case rel => exact ⟨k + 1, _, hlt2, by go_num, rfl⟩
            case measure => simp [intOf]; omega
          · have hlt5 : ¬ (k : Int) < m := by omega
            go_wp2_with fail
            go_quiet ((go_at_call 72; exact HM.out _))
            go_wp2_with fail
            go_roundw
            case rel => exact ⟨k + 1, _, hlt2, by go_num, rfl⟩
            case measure => simp [intOf]; omega
        · have hlt3 : ¬ (k : Int) < (m : Int) + 90 := by omega
          go_wp2_with fail
          go_roundw
          case rel => exact ⟨i + 1, _, hlt, by go_num, rfl⟩
          case measure => simp [intOf]; omega
    · have hlt1 : ¬ (i : Int) < n := by omega
      go_wp2_with fail
      refine wp_loop_rounds 1 ?_
      rw [rounds_succ]
      go_wp2_with fail
      refine wp_loop_rounds 1 ?_
      rw [rounds_succ]
      go_wp2_with fail
      go_ret
      exact ⟨rfl, x, rfl⟩
end Go.Proofs.YtoijhecphgdfnaaGreatDoor.Bo

/-
  Book.Alone: as they came; written over, grown, none shows in another; the book is empty then.
-/
namespace Go.Proofs.YtoijhecphgdfnaaGreatDoor.Bo
open Go.RowKit

/-- A book of nothing at block K. -/
theorem Bk.empty {w : World} {B K : Nat} {ux : Nat → Value} (h : ∀ q, q < 6 → w.cell? ⟨K, q + 4, none⟩ = some (.slice none 0 0)) (hu : ∀ q, q < 4 → w.cell? ⟨K, q, none⟩ = some (ux q)) (hf : ∀ q, w.frozen? ⟨K, q, none⟩ = false) (hB : B ≤ w.heap.size) : Bk w B K ux (fun k => if k = K then 1 else 0) (.slice none 0 0) (.slice none 0 0) [] := by
  have hK : K < w.heap.size := by
    rcases Nat.lt_or_ge K w.heap.size with g | g
    · exact g
    · have := h 0 (by decide); simp [World.cell?, Array.getElem?_eq_none g] at this
  exact ⟨h 0 (by decide), h 1 (by decide), h 2 (by decide), h 3 (by decide), h 4 (by decide), h 5 (by decide), hu, hf, hB, VRow.nil _ _ _, VRow.nil _ _ _, fun i e he => (by simp at he), fun i e he => (by simp at he), if_pos rfl, fun g e => (by cases e), fun g e => (by cases e), fun i e he => (by simp at he), fun i e he => (by simp at he), fun g hg => if_neg (by omega)⟩
theorem clear_one {w : World} {K j : Nat} (h : ∀ q, q < 6 → ∃ v, w.cell? ⟨K, q + 4, none⟩ = some v) (hn : ∀ q, q < j → w.cell? ⟨K, q + 4, none⟩ = some (.slice none 0 0)) (hj : j < 6) : (∀ q, q < 6 → ∃ v, (w.setCell ⟨K, j + 4, none⟩ (.slice none 0 0)).cell? ⟨K, q + 4, none⟩ = some v) ∧ (∀ q, q < j + 1 → (w.setCell ⟨K, j + 4, none⟩ (.slice none 0 0)).cell? ⟨K, q + 4, none⟩ = some (.slice none 0 0)) := by
  obtain ⟨v, hv⟩ := h j hj
  have hs : (w.setCell ⟨K, j + 4, none⟩ (.slice none 0 0)).cell? ⟨K, j + 4, none⟩ = some (.slice none 0 0) := World.cell?_setCell_same _ _ _ hv
  have ho : ∀ q, q ≠ j → (w.setCell ⟨K, j + 4, none⟩ (.slice none 0 0)).cell? ⟨K, q + 4, none⟩ = w.cell? ⟨K, q + 4, none⟩ := fun q hq => World.cell?_setCell_other _ _ _ _ (by simp only [ne_eq, Addr.mk.injEq, not_and]; intro _ e; omega)
  refine ⟨fun q hq => ?_, fun q hq => ?_⟩
  · by_cases e : q = j
    · subst e; exact ⟨_, hs⟩
    · rw [ho q e]; exact h q hq
  · by_cases e : q = j
    · subst e; exact hs
    · rw [ho q e]; exact hn q (by omega)
theorem clear_book {w : World} {B K : Nat} {ux : Nat → Value} {ρ : Nat → Nat} {vb vw : Value} {es : List Ent} (h : Bk w B K ux ρ vb vw es) :
    Bk ((((((w.setCell ⟨K, 4, none⟩ (.slice none 0 0)).setCell ⟨K, 5, none⟩ (.slice none 0 0)).setCell ⟨K, 6, none⟩ (.slice none 0 0)).setCell ⟨K, 7, none⟩ (.slice none 0 0)).setCell ⟨K, 8, none⟩ (.slice none 0 0)).setCell ⟨K, 9, none⟩ (.slice none 0 0)) B K ux (fun k => if k = K then 1 else 0) (.slice none 0 0) (.slice none 0 0) [] ∧
    Off (fun k => k = K) w ((((((w.setCell ⟨K, 4, none⟩ (.slice none 0 0)).setCell ⟨K, 5, none⟩ (.slice none 0 0)).setCell ⟨K, 6, none⟩ (.slice none 0 0)).setCell ⟨K, 7, none⟩ (.slice none 0 0)).setCell ⟨K, 8, none⟩ (.slice none 0 0)).setCell ⟨K, 9, none⟩ (.slice none 0 0)) := by
  have z : ∀ q, q < 6 → ∃ v, w.cell? ⟨K, q + 4, none⟩ = some v := fun q hq => by
    match q, hq with
    | 0, _ => exact ⟨_, h.c0⟩
    | 1, _ => exact ⟨_, h.c1⟩
    | 2, _ => exact ⟨_, h.c2⟩
    | 3, _ => exact ⟨_, h.c3⟩
    | 4, _ => exact ⟨_, h.c4⟩
    | 5, _ => exact ⟨_, h.c5⟩
  obtain ⟨a0, b0⟩ := clear_one z (fun q hq => absurd hq (by omega)) (j := 0) (by decide)
  obtain ⟨a1, b1⟩ := clear_one a0 b0 (by decide)
  obtain ⟨a2, b2⟩ := clear_one a1 b1 (by decide)
  obtain ⟨a3, b3⟩ := clear_one a2 b2 (by decide)
  obtain ⟨a4, b4⟩ := clear_one a3 b3 (by decide)
  obtain ⟨a5, b5⟩ := clear_one a4 b4 (by decide)
  refine ⟨Bk.empty b5 (fun q hq => ?_) (fun q => ?_) (by simpa using h.hB), ?_⟩
  · have hne : ∀ j : Nat, 4 ≤ j → (⟨K, j, none⟩ : Addr) ≠ ⟨K, q, none⟩ := fun j hj e => by injection e; omega
    rw [World.cell?_setCell_other _ _ _ _ (hne 9 (by decide)), World.cell?_setCell_other _ _ _ _ (hne 8 (by decide)), World.cell?_setCell_other _ _ _ _ (hne 7 (by decide)), World.cell?_setCell_other _ _ _ _ (hne 6 (by decide)), World.cell?_setCell_other _ _ _ _ (hne 5 (by decide)), World.cell?_setCell_other _ _ _ _ (hne 4 (by decide))]
    exact h.cu q hq
  · simp only [World.frozen?_setCell]; exact h.fz q
  · exact ((((((Off.refl (fun k => k = K) w).setCell (p := ⟨K, 4, none⟩) rfl _).setCell (p := ⟨K, 5, none⟩) rfl _).setCell (p := ⟨K, 6, none⟩) rfl _).setCell (p := ⟨K, 7, none⟩) rfl _).setCell (p := ⟨K, 8, none⟩) rfl _).setCell (p := ⟨K, 9, none⟩) rfl _
set_option maxRecDepth 100000 in
set_option maxHeartbeats 8000000 in
theorem Alone_true {w : World} {B K : Nat} {ux : Nat → Value} {ρ : Nat → Nat} {vb vw : Value} {es : List Ent} (h : Bk w B K ux ρ vb vw es) (hs : ∀ (i : Nat) (e : Ent), es[i]? = some e → e.old = e.bs ∧ e.bs.length ≤ 70368744177664) (hm : es.length + 1 ≤ 1099511627776) :
    Calls Tryz.prog 40 #[.pointer (some ⟨K, 4, none⟩)] w fun e w' => e = .returned (.bool true) ∧ Bk w' B K ux (fun k => if k = K then 1 else 0) (.slice none 0 0) (.slice none 0 0) [] ∧ Off (fun k => ρ k = 1 ∨ ∃ j, ρ k = 6 + 2 * j) w w' := by
  have HST := Still_true h hs (by omega)
  have HS : Hid (∀ (i : Nat) (e : Ent), es[i]? = some e → e.old = e.bs ∧ e.bs.length ≤ 70368744177664) := hs
  obtain ⟨ab, cb, rfl, hab⟩ := h.rb.isSlice
  rw [List.length_map] at h hab
  obtain ⟨n, hn⟩ : ∃ n, es.length = n := ⟨_, rfl⟩
  have HN : Hid (es.length = n ∧ (0 < n → ∃ g, ab = some ⟨g, 0, none⟩)) := ⟨hn, by rw [hn] at hab; exact hab⟩
  rw [hn] at h hm
  have HH : Hid (Bk w B K ux ρ (.slice ab n cb) vw es) := h
  have HS1 : Hid (Calls Tryz.prog 70 #[.pointer (some ⟨K, 4, none⟩)] w fun e w' => e = .returned (.bool true) ∧ ∃ k, w' = w.drewN k) := HST
  clear h hs hab hn HST
  go_enter Tryz.func40, Tryz.ntmps40
  go_wp2_with fail
  refine HS1.out.mono ?_
  rintro ev w0 ⟨rfl, k0, rfl⟩
  clear HS1
  have HB0 : Hid (Bk (w.drewN k0) B K ux ρ (.slice ab n cb) vw es) := HH.out.off (P := fun _ => False) ((Off.refl _ _).drewN _) (fun _ p => p.elim)
  have HO0 : Hid (Off (fun k => ρ k = 1 ∨ ∃ j, ρ k = 6 + 2 * j) w (w.drewN k0)) := (Off.refl _ _).drewN _
  obtain ⟨w0, hw0⟩ : ∃ x, w.drewN k0 = x := ⟨_, rfl⟩
  rw [hw0] at HB0 HO0 ⊢
  clear hw0 HH
  go_wp2_with fail
  refine (write_any HB0.out (fun i e he => (HS.out i e he).2) (by have := HN.out.1; omega)).mono ?_
  rintro ev w1 ⟨rfl, hb1, ho1⟩
  obtain ⟨fs, hfs⟩ : ∃ fs, wrote es.length es = fs := ⟨_, rfl⟩
  have HF : Hid (fs.length = n ∧ ∀ (i : Nat) (e : Ent), fs[i]? = some e → e.bs = mk i e.bs.length ∧ e.bs.length ≤ 70368744177664) := by
    subst hfs
    refine ⟨by rw [wrote_length]; exact HN.out.1, fun i e he => ?_⟩
    have hi : i < es.length := by have := (List.getElem?_eq_some_iff.1 he).1; rw [wrote_length] at this; exact this
    obtain ⟨d, hd⟩ : ∃ d, es[i]? = some d := ⟨_, List.getElem?_eq_getElem hi⟩
    rw [wrote_get es.length i es d hd, if_pos hi, Option.some.injEq] at he
    subst he
    exact ⟨by simp only [mk_length], by simp only [mk_length]; exact (HS.out i d hd).2⟩
  rw [hfs] at hb1
  have HB1 : Hid (Bk w1 B K ux ρ (.slice ab n cb) vw fs) := hb1
  have HO1 : Hid (Off (fun k => ρ k = 1 ∨ ∃ j, ρ k = 6 + 2 * j) w w1) := HO0.out.trans (ho1.mono (fun k p => Or.inr p))
  clear hb1 ho1 hfs HB0 HO0 HS
  go_wp2_with fail
  go_loopw [4, 7] (fun t4 t7 wx => ∃ i : Nat, i ≤ n ∧ t7 = .int .i64 i ∧ ∃ al nl cl, t4 = .slice al nl cl ∧ Hid (∃ ρ' ls, Gw wx B K ux ρ' (.slice ab n cb) vw (.slice al nl cl) fs ls ∧ ls.length = i ∧ Off (fun k => ρ k = 1 ∨ ∃ j, ρ k = 6 + 2 * j) w wx ∧ (∀ k, k < w1.heap.size → ρ' k = ρ k) ∧ w1.heap.size ≤ wx.heap.size ∧ (∀ z, (Value.slice al nl cl).ownBlock = some z → w1.heap.size ≤ z))) (fun _ t7 _ => n - (intOf t7).toNat)
  case atStart => exact ⟨0, Nat.zero_le _, rfl, _, _, _, rfl, ρ, [], ⟨HB1.out, VRow.nil _ _ _, fun g e => (by cases e), fun j l e h1 => (by simp at h1)⟩, rfl, HO1.out, fun _ _ => rfl, Nat.le_refl _, fun z e => (by cases e)⟩
  case round =>
    obtain ⟨i, hi, rfl, al, nl, cl, rfl, HI⟩ := hrel
    obtain ⟨ρ', ls, hgw, hls, hoff, hro, hsz, hfr⟩ := HI.out
    have q0 := hgw.bk.c0
    by_cases hlt : i < n
    · have hlt1 : (i : Int) < n := by omega
      obtain ⟨wo, hwo⟩ : ∃ x, x = wr := ⟨_, rfl⟩
      subst hwo
      obtain ⟨g, rfl⟩ := HN.out.2 (by omega)
      obtain ⟨e, he⟩ : ∃ e, fs[i]? = some e := ⟨_, List.getElem?_eq_getElem (by have := HF.out.1; omega)⟩
      have c1 : wo.cell? ⟨g, i, none⟩ = some e.val := hgw.bk.rb.slot (by rw [List.getElem?_map, he]; rfl)
      have r1 := hgw.bk.val i e he
      obtain ⟨a1, d1, e1, hb1⟩ := r1.isSlice
      obtain ⟨m, hm1⟩ : ∃ m, e.bs.length = m := ⟨_, rfl⟩
      have hmk := (HF.out.2 i e he).1
      have hml := (HF.out.2 i e he).2
      rw [hm1] at e1 hmk hml
      have HG : Hid (Gw wo B K ux ρ' (.slice (some ⟨g, 0, none⟩) n cb) vw (.slice al nl cl) fs ls ∧ ls.length = i ∧ fs[i]? = some e ∧ e.val = .slice a1 m d1 ∧ e.bs.length = m ∧ e.bs = mk i m ∧ Off (fun k => ρ k = 1 ∨ ∃ j, ρ k = 6 + 2 * j) w wo ∧ (∀ k, k < w1.heap.size → ρ' k = ρ k) ∧ w1.heap.size ≤ wo.heap.size ∧ (∀ z, (Value.slice al nl cl).ownBlock = some z → w1.heap.size ≤ z)) := ⟨hgw, hls, he, e1, hm1, hmk, hoff, hro, hsz, hfr⟩
      rw [e1] at c1
      clear HI hgw hls hoff hro hsz hfr he r1 e1 hb1 hm1 hmk
      go_wp2_with fail
      go_loopw [8, 9] (fun t8 t9 wx => ∃ k : Nat, k ≤ 90 ∧ t9 = .int .i64 k ∧ ∃ a8 c8, t8 = .slice a8 (m + k) c8 ∧ Hid (Grew wx B e.val (.slice a8 (m + k) c8) e.bs (mk i (m + k)) ∧ Off (fun z => ρ' z = 6 + 2 * i) wo wx ∧ (∀ z, (Value.slice a8 (m + k) c8).ownBlock = some z → e.val.ownBlock = some z ∨ wo.heap.size ≤ z))) (fun _ t9 _ => 90 - (intOf t9).toNat)
      case atStart =>
        refine ⟨0, by omega, rfl, a1, d1, rfl, ?_⟩
        obtain ⟨hgw, hls, he, e1, hm1, hmk, hoff, hro, hsz, hfr⟩ := HG.out
        have r1 := hgw.bk.val i e he
        refine ⟨?_, Off.refl _ _, fun z hz => Or.inl (by rw [e1]; exact hz)⟩
        have := Grew.refl r1
        rw [Nat.add_zero, ← e1, ← hmk]
        exact this
      case round =>
        obtain ⟨k, hk, rfl, a8, c8, rfl, HJ⟩ := hrel
        by_cases hlt2 : k < 90
        · have hlt3 : (k : Int) < 90 := by omega
          obtain ⟨a9, n9, c9, w9, e9, g9, o9, s9⟩ := run_grow HJ.out.1 (Nat.le_trans HG.out.1.bk.hB HJ.out.2.1.size) (by rw [mk_length]; omega) (markI i (m + k))
          obtain rfl : n9 = m + (k + 1) := by have := g9.row.len; rw [List.length_append, mk_length] at this; simp at this; omega
          have HK : Hid (Grew w9 B e.val (.slice a9 (m + (k + 1)) c9) e.bs (mk i (m + (k + 1))) ∧ Off (fun z => ρ' z = 6 + 2 * i) wo w9 ∧ (∀ z, (Value.slice a9 (m + (k + 1)) c9).ownBlock = some z → e.val.ownBlock = some z ∨ wo.heap.size ≤ z)) := by
            rw [← mk_succ] at g9
            refine ⟨g9, HJ.out.2.1.join o9 (fun z hz hz2 => ?_), fun z hz => ?_⟩
            · rcases HJ.out.2.2 z hz2 with q | q
              · exact HG.out.1.bk.pval i e HG.out.2.2.1 z q
              · omega
            · rcases s9 with q | ⟨g', q, hg'⟩
              · rw [q] at hz; exact HJ.out.2.2 z hz
              · rw [q, Option.some.injEq] at hz; have := HJ.out.2.1.size; exact Or.inr (by omega)
          clear g9 o9 s9 HJ
          go_wp2_with fail
          refine (mark_any i (m + k) (by omega) _).mono ?_
          rintro ev w2 ⟨rfl, rfl⟩
          go_wp2_with (at_builtin; refine wpList_append_run rfl (.tmp 43) (.tmp 48) 43 _ rfl e9 ?_)
          go_roundw
          case rel => exact ⟨k + 1, hlt2, by go_num, a9, c9, rfl, HK⟩
          case measure => simp [intOf]; omega
        · have hlt3 : ¬ (k : Int) < 90 := by omega
          obtain rfl : k = 90 := by omega
          have rl1 : VRow wr B 43 (.slice al nl cl) ls := HG.out.1.rl.off HJ.out.2.1 (fun z hz p => by have := HG.out.1.pl z hz; omega)
          obtain ⟨a9, n9, c9, w9, e9, v9, o9, s9⟩ := run_vpush rl1 (Nat.le_trans HG.out.1.bk.hB HJ.out.2.1.size) (by have := HG.out.2.1; omega) (.slice a8 (m + 90) c8) (slice_one _ _ _)
          have HK : Hid (∃ ρ'' ls', Gw w9 B K ux ρ'' (.slice (some ⟨g, 0, none⟩) n cb) vw (.slice a9 n9 c9) fs ls' ∧ ls'.length = i + 1 ∧ Off (fun k => ρ k = 1 ∨ ∃ j, ρ k = 6 + 2 * j) w w9 ∧ (∀ k, k < w1.heap.size → ρ'' k = ρ k) ∧ w1.heap.size ≤ w9.heap.size ∧ (∀ z, (Value.slice a9 n9 c9).ownBlock = some z → w1.heap.size ≤ z)) := by
            obtain ⟨hgw, hls, he, e1, hm1, hmk, hoff, hro, hsz, hfr⟩ := HG.out
            have hg1 := HJ.out.1
            rw [← hm1] at hg1
            obtain ⟨ρ'', hgw2, hof2, hro2⟩ := gw_step hgw hls he HJ.out.2.1 (hm1 ▸ HJ.out.1) HJ.out.2.2 v9 o9 s9
            refine ⟨ρ'', _, hgw2, by simp [hls], hoff.join hof2 (fun z hz p => ?_), fun k hk => by rw [hro2 k (by omega)]; exact hro k hk, Nat.le_trans hsz hof2.size, fun z hz => ?_⟩
            · have hs1 : w.heap.size ≤ w1.heap.size := HO1.out.size
              rcases p with p | p
              · rw [hro z (by omega)] at p; exact Or.inr ⟨i, p⟩
              · have := hfr z p; omega
            · rcases s9 with q | ⟨g', q, hg'⟩
              · rw [q] at hz; exact hfr z hz
              · rw [q, Option.some.injEq] at hz; have := HJ.out.2.1.size; omega
          clear rl1 v9 o9 s9 HJ
          go_wp2_with (at_builtin; refine wpList_append_run rfl (.tmp 50) (.tmp 52) 35 _ rfl e9 ?_)
          go_roundw
          case rel => exact ⟨i + 1, hlt, by go_num, a9, n9, c9, rfl, HK⟩
          case measure => simp [intOf]; omega
    · have hlt1 : ¬ (i : Int) < n := by omega
      obtain rfl : i = n := by omega
      have q2 := hgw.bk.c2
      have q4 := hgw.bk.c4
      have HSH := shows_true hgw (by rw [hls]; exact HF.out.1.symm) HF.out.2 (by have := HF.out.1; omega)
      have HX : Hid (Gw wr B K ux ρ' (.slice ab i cb) vw (.slice al nl cl) fs ls ∧ Off (fun k => ρ k = 1 ∨ ∃ j, ρ k = 6 + 2 * j) w wr) := ⟨hgw, hoff⟩
      have HS2 : Hid (Calls Tryz.prog 75 #[.pointer (some ⟨K, 4, none⟩), .slice al nl cl, .slice none 0 0, .slice none 0 0] wr fun e w' => e = .returned (.bool true) ∧ ∃ k, w' = wr.drewN k) := HSH
      have HKp : Hid (ρ K = 1) := by
        have h1 := HB1.out.pK
        exact h1
      clear HSH hgw hls hoff hro hsz hfr HI
      go_wp2_with fail
      refine wp_loop_rounds 1 ?_
      rw [rounds_succ]
      go_wp2_with fail
      refine wp_loop_rounds 1 ?_
      rw [rounds_succ]
      go_wp2_with fail
      refine HS2.out.mono ?_
      rintro ev w3 ⟨rfl, k3, rfl⟩
      have hb3 : Bk (wr.drewN k3) B K ux ρ' (.slice ab i cb) vw fs := HX.out.1.bk.off (P := fun _ => False) ((Off.refl _ _).drewN _) (fun _ p => p.elim)
      have ho3 : Off (fun k => ρ k = 1 ∨ ∃ j, ρ k = 6 + 2 * j) w (wr.drewN k3) := HX.out.2.drewN _
      obtain ⟨w3, hw3⟩ : ∃ x, wr.drewN k3 = x := ⟨_, rfl⟩
      rw [hw3] at hb3 ho3 ⊢
      have r0 := hb3.c0
      have r1 := hb3.c1
      have r2 := hb3.c2
      have r3 := hb3.c3
      have r4 := hb3.c4
      have r5 := hb3.c5
      have f0 := hb3.fz 4
      have f1 := hb3.fz 5
      have f2 := hb3.fz 6
      have f3 := hb3.fz 7
      have f4 := hb3.fz 8
      have f5 := hb3.fz 9
      have HB3 : Hid (Bk w3 B K ux ρ' (.slice ab i cb) vw fs ∧ Off (fun k => ρ k = 1 ∨ ∃ j, ρ k = 6 + 2 * j) w w3) := ⟨hb3, ho3⟩
      clear hb3 ho3 hw3 HX HS2 q0 q2 q4
      go_wp2_with fail
      go_ret
      obtain ⟨h1, h2⟩ := clear_book HB3.out.1
      exact ⟨rfl, h1, HB3.out.2.trans (h2.mono (fun k e => Or.inl (by rw [e]; exact HKp.out)))⟩
end Go.Proofs.YtoijhecphgdfnaaGreatDoor.Bo
