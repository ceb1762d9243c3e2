/-
  couriermem.Book.Alone again: what lies behind the book in its block stays.
-/
import Derived.Test.YthnpckmgnompiaaGreatDoorBookAlone
namespace Go.Proofs.YthnpckmgnompiaaGreatDoor
open Go.RowKit Go.BigFrame

set_option maxRecDepth 100000 in
set_option maxHeartbeats 8000000 in
theorem Alone_true2 {w : World} {B K : Nat} {ρ : Nat → Nat} {vb vw : Value} {es : List Ent} (h : Bk w B K ρ vb vw es) (hs : ∀ (i : Nat) (e : Ent), es[i]? = some e → e.old = e.bs ∧ e.bs.length ≤ 70368744177664) (hm : es.length + 1 ≤ 1099511627776) :
    Calls Tryz.prog 33 #[.pointer (some ⟨K, 0, none⟩)] w fun e w' => e = .returned (.bool true) ∧ Bk w' B K (fun k => if k = K then 1 else 0) (.slice none 0 0) (.slice none 0 0) [] ∧ Off (fun k => ρ k = 1 ∨ ∃ j, ρ k = 6 + 2 * j) w w' ∧ (∀ q, 6 ≤ q → w'.cell? ⟨K, q, none⟩ = w.cell? ⟨K, q, none⟩) := by
  have HST := Still_true h hs (by omega)
  have HS : Hid (∀ (i : Nat) (e : Ent), es[i]? = some e → e.old = e.bs ∧ e.bs.length ≤ 70368744177664) := hs
  obtain ⟨ab, cb, rfl, hab⟩ := h.rb.isSlice
  rw [List.length_map] at h hab
  obtain ⟨n, hn⟩ : ∃ n, es.length = n := ⟨_, rfl⟩
  have HN : Hid (es.length = n ∧ (0 < n → ∃ g, ab = some ⟨g, 0, none⟩)) := ⟨hn, by rw [hn] at hab; exact hab⟩
  rw [hn] at h hm
  have HH : Hid (Bk w B K ρ (.slice ab n cb) vw es) := h
  have HKs : Hid (K < w.heap.size) := cell_lt h.c0
  have HS1 : Hid (Calls Tryz.prog 68 #[.pointer (some ⟨K, 0, none⟩)] w fun e w' => e = .returned (.bool true) ∧ ∃ k, w' = w.drewN k) := HST
  clear h hs hab hn HST
  go_enter Tryz.func33, Tryz.ntmps33
  go_wp2_with fail
  refine HS1.out.mono ?_
  rintro ev w0 ⟨rfl, k0, rfl⟩
  clear HS1
  have HB0 : Hid (Bk (w.drewN k0) B K ρ (.slice ab n cb) vw es) := HH.out.off (P := fun _ => False) ((Off.refl _ _).drewN _) (fun _ p => p.elim)
  have HO0 : Hid (Off (fun k => ∃ j, ρ k = 6 + 2 * j) w (w.drewN k0)) := (Off.refl _ _).drewN _
  obtain ⟨w0, hw0⟩ : ∃ x, w.drewN k0 = x := ⟨_, rfl⟩
  rw [hw0] at HB0 HO0 ⊢
  clear hw0 HH
  go_wp2_with fail
  refine (write_any HB0.out (fun i e he => (HS.out i e he).2) (by have := HN.out.1; omega)).mono ?_
  rintro ev w1 ⟨rfl, hb1, ho1⟩
  obtain ⟨fs, hfs⟩ : ∃ fs, wrote es.length es = fs := ⟨_, rfl⟩
  have HF : Hid (fs.length = n ∧ ∀ (i : Nat) (e : Ent), fs[i]? = some e → e.bs = mk i e.bs.length ∧ e.bs.length ≤ 70368744177664) := by
    subst hfs
    refine ⟨by rw [wrote_length]; exact HN.out.1, fun i e he => ?_⟩
    have hi : i < es.length := by have := (List.getElem?_eq_some_iff.1 he).1; rw [wrote_length] at this; exact this
    obtain ⟨d, hd⟩ : ∃ d, es[i]? = some d := ⟨_, List.getElem?_eq_getElem hi⟩
    rw [wrote_get es.length i es d hd, if_pos hi, Option.some.injEq] at he
    subst he
    exact ⟨by simp only [mk_length], by simp only [mk_length]; exact (HS.out i d hd).2⟩
  rw [hfs] at hb1
  have HB1 : Hid (Bk w1 B K ρ (.slice ab n cb) vw fs) := hb1
  have HO1 : Hid (Off (fun k => ∃ j, ρ k = 6 + 2 * j) w w1) := HO0.out.trans (ho1.mono (fun k p => p))
  clear hb1 ho1 hfs HB0 HO0 HS
  go_wp2_with fail
  go_loopw [4, 7] (fun t4 t7 wx => ∃ i : Nat, i ≤ n ∧ t7 = .int .i64 i ∧ ∃ al nl cl, t4 = .slice al nl cl ∧ Hid (∃ ρ' ls, Gw wx B K ρ' (.slice ab n cb) vw (.slice al nl cl) fs ls ∧ ls.length = i ∧ Off (fun k => ∃ j, ρ k = 6 + 2 * j) w wx ∧ (∀ k, k < w1.heap.size → ρ' k = ρ k) ∧ w1.heap.size ≤ wx.heap.size ∧ (∀ z, (Value.slice al nl cl).ownBlock = some z → w1.heap.size ≤ z))) (fun _ t7 _ => n - (intOf t7).toNat)
  case atStart => exact ⟨0, Nat.zero_le _, rfl, _, _, _, rfl, ρ, [], ⟨HB1.out, VRow.nil _ _ _, fun g e => (by cases e), fun j l e h1 => (by simp at h1)⟩, rfl, HO1.out, fun _ _ => rfl, Nat.le_refl _, fun z e => (by cases e)⟩
  case round =>
    obtain ⟨i, hi, rfl, al, nl, cl, rfl, HI⟩ := hrel
    obtain ⟨ρ', ls, hgw, hls, hoff, hro, hsz, hfr⟩ := HI.out
    have q0 := hgw.bk.c0
    by_cases hlt : i < n
    · have hlt1 : (i : Int) < n := by omega
      obtain ⟨wo, hwo⟩ : ∃ x, x = wr := ⟨_, rfl⟩
      subst hwo
      obtain ⟨g, rfl⟩ := HN.out.2 (by omega)
      obtain ⟨e, he⟩ : ∃ e, fs[i]? = some e := ⟨_, List.getElem?_eq_getElem (by have := HF.out.1; omega)⟩
      have c1 : wo.cell? ⟨g, i, none⟩ = some e.val := hgw.bk.rb.slot (by rw [List.getElem?_map, he]; rfl)
      have r1 := hgw.bk.val i e he
      obtain ⟨a1, d1, e1, hb1⟩ := r1.isSlice
      obtain ⟨m, hm1⟩ : ∃ m, e.bs.length = m := ⟨_, rfl⟩
      have hmk := (HF.out.2 i e he).1
      have hml := (HF.out.2 i e he).2
      rw [hm1] at e1 hmk hml
      have HG : Hid (Gw wo B K ρ' (.slice (some ⟨g, 0, none⟩) n cb) vw (.slice al nl cl) fs ls ∧ ls.length = i ∧ fs[i]? = some e ∧ e.val = .slice a1 m d1 ∧ e.bs.length = m ∧ e.bs = mk i m ∧ Off (fun k => ∃ j, ρ k = 6 + 2 * j) w wo ∧ (∀ k, k < w1.heap.size → ρ' k = ρ k) ∧ w1.heap.size ≤ wo.heap.size ∧ (∀ z, (Value.slice al nl cl).ownBlock = some z → w1.heap.size ≤ z)) := ⟨hgw, hls, he, e1, hm1, hmk, hoff, hro, hsz, hfr⟩
      rw [e1] at c1
      clear HI hgw hls hoff hro hsz hfr he r1 e1 hb1 hm1 hmk
      go_wp2_with fail
      go_loopw [8, 9] (fun t8 t9 wx => ∃ k : Nat, k ≤ 90 ∧ t9 = .int .i64 k ∧ ∃ a8 c8, t8 = .slice a8 (m + k) c8 ∧ Hid (Grew wx B e.val (.slice a8 (m + k) c8) e.bs (mk i (m + k)) ∧ Off (fun z => ρ' z = 6 + 2 * i) wo wx ∧ (∀ z, (Value.slice a8 (m + k) c8).ownBlock = some z → e.val.ownBlock = some z ∨ wo.heap.size ≤ z))) (fun _ t9 _ => 90 - (intOf t9).toNat)
      case atStart =>
        refine ⟨0, by omega, rfl, a1, d1, rfl, ?_⟩
        obtain ⟨hgw, hls, he, e1, hm1, hmk, hoff, hro, hsz, hfr⟩ := HG.out
        have r1 := hgw.bk.val i e he
        refine ⟨?_, Off.refl _ _, fun z hz => Or.inl (by rw [e1]; exact hz)⟩
        have := Grew.refl r1
        rw [Nat.add_zero, ← e1, ← hmk]
        exact this
      case round =>
        obtain ⟨k, hk, rfl, a8, c8, rfl, HJ⟩ := hrel
        by_cases hlt2 : k < 90
        · have hlt3 : (k : Int) < 90 := by omega
          obtain ⟨a9, n9, c9, w9, e9, g9, o9, s9⟩ := run_grow HJ.out.1 (Nat.le_trans HG.out.1.bk.hB HJ.out.2.1.size) (by rw [mk_length]; omega) (markI i (m + k))
          obtain rfl : n9 = m + (k + 1) := by have := g9.row.len; rw [List.length_append, mk_length] at this; simp at this; omega
          have HK : Hid (Grew w9 B e.val (.slice a9 (m + (k + 1)) c9) e.bs (mk i (m + (k + 1))) ∧ Off (fun z => ρ' z = 6 + 2 * i) wo w9 ∧ (∀ z, (Value.slice a9 (m + (k + 1)) c9).ownBlock = some z → e.val.ownBlock = some z ∨ wo.heap.size ≤ z)) := by
            rw [← mk_succ] at g9
            refine ⟨g9, HJ.out.2.1.join o9 (fun z hz hz2 => ?_), fun z hz => ?_⟩
            · rcases HJ.out.2.2 z hz2 with q | q
              · exact HG.out.1.bk.pval i e HG.out.2.2.1 z q
              · omega
            · rcases s9 with q | ⟨g', q, hg'⟩
              · rw [q] at hz; exact HJ.out.2.2 z hz
              · rw [q, Option.some.injEq] at hz; have := HJ.out.2.1.size; exact Or.inr (by omega)
          clear g9 o9 s9 HJ
          go_wp2_with fail
          refine (mark_any i (m + k) (by omega) _).mono ?_
          rintro ev w2 ⟨rfl, rfl⟩
          go_wp2_with (at_builtin; refine wpList_append_run rfl (.tmp 43) (.tmp 48) 22 _ rfl e9 ?_)
          go_roundw
          case rel => exact ⟨k + 1, hlt2, by go_num, a9, c9, rfl, HK⟩
          case measure => simp [intOf]; omega
        · have hlt3 : ¬ (k : Int) < 90 := by omega
          obtain rfl : k = 90 := by omega
          have rl1 : VRow wr B 22 (.slice al nl cl) ls := HG.out.1.rl.off HJ.out.2.1 (fun z hz p => by have := HG.out.1.pl z hz; omega)
          obtain ⟨a9, n9, c9, w9, e9, v9, o9, s9⟩ := run_vpush rl1 (Nat.le_trans HG.out.1.bk.hB HJ.out.2.1.size) (by have := HG.out.2.1; omega) (.slice a8 (m + 90) c8) (slice_one _ _ _)
          have HK : Hid (∃ ρ'' ls', Gw w9 B K ρ'' (.slice (some ⟨g, 0, none⟩) n cb) vw (.slice a9 n9 c9) fs ls' ∧ ls'.length = i + 1 ∧ Off (fun k => ∃ j, ρ k = 6 + 2 * j) w w9 ∧ (∀ k, k < w1.heap.size → ρ'' k = ρ k) ∧ w1.heap.size ≤ w9.heap.size ∧ (∀ z, (Value.slice a9 n9 c9).ownBlock = some z → w1.heap.size ≤ z)) := by
            obtain ⟨hgw, hls, he, e1, hm1, hmk, hoff, hro, hsz, hfr⟩ := HG.out
            have hg1 := HJ.out.1
            rw [← hm1] at hg1
            obtain ⟨ρ'', hgw2, hof2, hro2⟩ := gw_step hgw hls he HJ.out.2.1 (hm1 ▸ HJ.out.1) HJ.out.2.2 v9 o9 s9
            refine ⟨ρ'', _, hgw2, by simp [hls], hoff.join hof2 (fun z hz p => ?_), fun k hk => by rw [hro2 k (by omega)]; exact hro k hk, Nat.le_trans hsz hof2.size, fun z hz => ?_⟩
            · have hs1 : w.heap.size ≤ w1.heap.size := HO1.out.size
              rcases p with p | p
              · rw [hro z (by omega)] at p; exact ⟨i, p⟩
              · have := hfr z p; omega
            · rcases s9 with q | ⟨g', q, hg'⟩
              · rw [q] at hz; exact hfr z hz
              · rw [q, Option.some.injEq] at hz; have := HJ.out.2.1.size; omega
          clear rl1 v9 o9 s9 HJ
          go_wp2_with (at_builtin; refine wpList_append_run rfl (.tmp 50) (.tmp 52) 23 _ rfl e9 ?_)
          go_roundw
          case rel => exact ⟨i + 1, hlt, by go_num, a9, n9, c9, rfl, HK⟩
          case measure => simp [intOf]; omega
    · have hlt1 : ¬ (i : Int) < n := by omega
      obtain rfl : i = n := by omega
      have q2 := hgw.bk.c2
      have q4 := hgw.bk.c4
      have HSH := shows_true hgw (by rw [hls]; exact HF.out.1.symm) HF.out.2 (by have := HF.out.1; omega)
      have HX : Hid (Gw wr B K ρ' (.slice ab i cb) vw (.slice al nl cl) fs ls ∧ Off (fun k => ∃ j, ρ k = 6 + 2 * j) w wr) := ⟨hgw, hoff⟩
      have HS2 : Hid (Calls Tryz.prog 73 #[.pointer (some ⟨K, 0, none⟩), .slice al nl cl, .slice none 0 0, .slice none 0 0] wr fun e w' => e = .returned (.bool true) ∧ ∃ k, w' = wr.drewN k) := HSH
      have HKp : Hid (ρ K = 1) := by
        have h1 := HB1.out.pK
        exact h1
      clear HSH hgw hls hoff hro hsz hfr HI
      go_wp2_with fail
      refine wp_loop_rounds 1 ?_
      rw [rounds_succ]
      go_wp2_with fail
      refine wp_loop_rounds 1 ?_
      rw [rounds_succ]
      go_wp2_with fail
      refine HS2.out.mono ?_
      rintro ev w3 ⟨rfl, k3, rfl⟩
      have hb3 : Bk (wr.drewN k3) B K ρ' (.slice ab i cb) vw fs := HX.out.1.bk.off (P := fun _ => False) ((Off.refl _ _).drewN _) (fun _ p => p.elim)
      have ho3 : Off (fun k => ∃ j, ρ k = 6 + 2 * j) w (wr.drewN k3) := HX.out.2.drewN _
      obtain ⟨w3, hw3⟩ : ∃ x, wr.drewN k3 = x := ⟨_, rfl⟩
      rw [hw3] at hb3 ho3 ⊢
      have r0 := hb3.c0
      have r1 := hb3.c1
      have r2 := hb3.c2
      have r3 := hb3.c3
      have r4 := hb3.c4
      have r5 := hb3.c5
      have f0 := hb3.fz 0
      have f1 := hb3.fz 1
      have f2 := hb3.fz 2
      have f3 := hb3.fz 3
      have f4 := hb3.fz 4
      have f5 := hb3.fz 5
      have HB3 : Hid (Bk w3 B K ρ' (.slice ab i cb) vw fs ∧ Off (fun k => ∃ j, ρ k = 6 + 2 * j) w w3) := ⟨hb3, ho3⟩
      clear hb3 ho3 hw3 HX HS2 q0 q2 q4
      go_wp2_with fail
      go_ret
      obtain ⟨h1, h2⟩ := clear_book HB3.out.1
      exact ⟨rfl, h1, (HB3.out.2.mono (fun k e => Or.inr e)).trans (h2.mono (fun k e => Or.inl (by rw [e]; exact HKp.out))), fun q hq => by
        have ho : ∀ (y : World) (j : Nat) (v : Value), j < 6 → (y.setCell ⟨K, j, none⟩ v).cell? ⟨K, q, none⟩ = y.cell? ⟨K, q, none⟩ := fun y j v hj => World.cell?_setCell_other _ _ _ _ (by simp only [ne_eq, Addr.mk.injEq, not_and]; intro _ e; omega)
        rw [ho _ 5 _ (by decide), ho _ 4 _ (by decide), ho _ 3 _ (by decide), ho _ 2 _ (by decide), ho _ 1 _ (by decide), ho _ 0 _ (by decide)]
        exact HB3.out.2.cell (p := ⟨K, q, none⟩) HKs.out (fun ⟨j, hj⟩ => by rw [HKp.out] at hj; omega)⟩
end Go.Proofs.YthnpckmgnompiaaGreatDoor
