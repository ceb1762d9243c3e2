/-
  Book.Alone over lists of bytes and lists of texts.
-/
import Derived.Test.YtjbkfppibnlmoaaGreatDoorBtShow
namespace Go.Proofs.YtjbkfppibnlmoaaGreatDoor.Bt
open Go.RowKit
theorem clear_one {w : World} {K j : Nat} (h : ∀ q, q < 6 → ∃ v, w.cell? ⟨K, q, none⟩ = some v) (hn : ∀ q, q < j → w.cell? ⟨K, q, none⟩ = some (.slice none 0 0)) (hj : j < 6) : (∀ q, q < 6 → ∃ v, (w.setCell ⟨K, j, none⟩ (.slice none 0 0)).cell? ⟨K, q, none⟩ = some v) ∧ (∀ q, q < j + 1 → (w.setCell ⟨K, j, none⟩ (.slice none 0 0)).cell? ⟨K, q, none⟩ = some (.slice none 0 0)) := by
  obtain ⟨v, hv⟩ := h j hj
  have hs : (w.setCell ⟨K, j, none⟩ (.slice none 0 0)).cell? ⟨K, j, none⟩ = some (.slice none 0 0) := World.cell?_setCell_same _ _ _ hv
  have ho : ∀ q, q ≠ j → (w.setCell ⟨K, j, none⟩ (.slice none 0 0)).cell? ⟨K, q, none⟩ = w.cell? ⟨K, q, none⟩ := fun q hq => World.cell?_setCell_other _ _ _ _ (by simp only [ne_eq, Addr.mk.injEq, not_and]; intro _ e; omega)
  refine ⟨fun q hq => ?_, fun q hq => ?_⟩
  · by_cases e : q = j
    · subst e; exact ⟨_, hs⟩
    · rw [ho q e]; exact h q hq
  · by_cases e : q = j
    · subst e; exact hs
    · rw [ho q e]; exact hn q (by omega)
/-- The roles of an empty book at K. -/
def role0 (K : Nat) (k : Nat) : Nat := if k = K then 1 else 0
theorem Bks.empty {w : World} {B K : Nat} (h : ∀ q, q < 6 → w.cell? ⟨K, q, none⟩ = some (.slice none 0 0)) (hf : ∀ q, w.frozen? ⟨K, q, none⟩ = false) (hB : B ≤ w.heap.size) : Bks w B K (role0 K) (role0 K) [] [] := by
  have hK : K < w.heap.size := by
    rcases Nat.lt_or_ge K w.heap.size with g | g
    · exact g
    · have := h 0 (by decide); simp [World.cell?, Array.getElem?_eq_none g] at this
  refine ⟨⟨.slice none 0 0, .slice none 0 0, .slice none 0 0, .slice none 0 0, ?_, ?_⟩, fun k hk => Or.inl (if_neg hk)⟩
  · exact ⟨h 0 (by decide), h 1 (by decide), h 2 (by decide), h 3 (by decide), h 4 (by decide), h 5 (by decide), hf, hB, Bo.VRow.nil _ _ _, Bo.VRow.nil _ _ _, fun i e he => (by simp at he), fun i e he => (by simp at he), if_pos rfl, fun g e => (by cases e), fun g e => (by cases e), fun i e he => (by simp at he), fun i e he => (by simp at he), fun g hg => if_neg (by omega)⟩
  · exact ⟨h 0 (by decide), h 1 (by decide), h 2 (by decide), h 3 (by decide), h 4 (by decide), h 5 (by decide), hf, hB, VRow.nil _ _ _, VRow.nil _ _ _, fun i e he => (by simp at he), fun i e he => (by simp at he), if_pos rfl, fun g e => (by cases e), fun g e => (by cases e), fun i e he => (by simp at he), fun i e he => (by simp at he), fun g hg => if_neg (by omega)⟩
theorem clear_books {w : World} {B K : Nat} {ρ : Nat → Nat} {vb vw vt vu : Value} {es : List Bo.Ent} (h : Bo.Bk w B K ρ vb vw vt vu es) :
    Bks ((((((w.setCell ⟨K, 0, none⟩ (.slice none 0 0)).setCell ⟨K, 1, none⟩ (.slice none 0 0)).setCell ⟨K, 2, none⟩ (.slice none 0 0)).setCell ⟨K, 3, none⟩ (.slice none 0 0)).setCell ⟨K, 4, none⟩ (.slice none 0 0)).setCell ⟨K, 5, none⟩ (.slice none 0 0)) B K (role0 K) (role0 K) [] [] ∧
    Off (fun k => k = K) w ((((((w.setCell ⟨K, 0, none⟩ (.slice none 0 0)).setCell ⟨K, 1, none⟩ (.slice none 0 0)).setCell ⟨K, 2, none⟩ (.slice none 0 0)).setCell ⟨K, 3, none⟩ (.slice none 0 0)).setCell ⟨K, 4, none⟩ (.slice none 0 0)).setCell ⟨K, 5, none⟩ (.slice none 0 0)) := by
  have z : ∀ q, q < 6 → ∃ v, w.cell? ⟨K, q, none⟩ = some v := fun q hq => by
    match q, hq with
    | 0, _ => exact ⟨_, h.c0⟩
    | 1, _ => exact ⟨_, h.c1⟩
    | 2, _ => exact ⟨_, h.c2⟩
    | 3, _ => exact ⟨_, h.c3⟩
    | 4, _ => exact ⟨_, h.c4⟩
    | 5, _ => exact ⟨_, h.c5⟩
  obtain ⟨a0, b0⟩ := clear_one z (fun q hq => absurd hq (by omega)) (j := 0) (by decide)
  obtain ⟨a1, b1⟩ := clear_one a0 b0 (by decide)
  obtain ⟨a2, b2⟩ := clear_one a1 b1 (by decide)
  obtain ⟨a3, b3⟩ := clear_one a2 b2 (by decide)
  obtain ⟨a4, b4⟩ := clear_one a3 b3 (by decide)
  obtain ⟨a5, b5⟩ := clear_one a4 b4 (by decide)
  refine ⟨Bks.empty b5 (fun q => ?_) (by simpa using h.hB), ?_⟩
  · simp only [World.frozen?_setCell]; exact h.fz q
  · exact ((((((Off.refl (fun k => k = K) w).setCell (p := ⟨K, 0, none⟩) rfl _).setCell (p := ⟨K, 1, none⟩) rfl _).setCell (p := ⟨K, 2, none⟩) rfl _).setCell (p := ⟨K, 3, none⟩) rfl _).setCell (p := ⟨K, 4, none⟩) rfl _).setCell (p := ⟨K, 5, none⟩) rfl _
theorem gwB_off {P : Nat → Prop} {w w' : World} {B K : Nat} {ρ : Nat → Nat} {vb vw vt vt' vu vu' vl : Value} {es : List Bo.Ent} {ls : List Value} (h : Bo.Gw w B K ρ vb vw vt vu vl es ls) (o : Bo.Off P w w') (hP : ∀ k, P k → ρ k = 0) (e1 : vt' = vt) (e2 : vu' = vu) : Bo.Gw w' B K ρ vb vw vt' vu' vl es ls := by
  subst e1 e2
  exact ⟨h.bk.off o hP, h.rl.off o (fun g e p => by have := hP g p; have := h.pl g e; omega), h.pl, fun j l e h1 h2 => ⟨(h.ll j l e h1 h2).1.off o (fun g eg p => by have := hP g p; have := (h.ll j l e h1 h2).2 g eg; omega), (h.ll j l e h1 h2).2⟩⟩
set_option maxRecDepth 100000 in
set_option maxHeartbeats 16000000 in
theorem Bks.alone {w : World} {B K : Nat} {ρ σ : Nat → Nat} {es : List Bo.Ent} {ts : List Ent} (h : Bks w B K ρ σ es ts) (hs : ∀ (i : Nat) (e : Bo.Ent), es[i]? = some e → e.old = e.bs ∧ e.bs.length ≤ 70368744177664) (hm : es.length + 1 ≤ 1099511627776) (ht : ∀ (i : Nat) (e : Ent), ts[i]? = some e → e.old = e.bs ∧ e.bs.length ≤ 1000 ∧ (∀ u ∈ e.bs, ∃ s, u = .string s)) (hm2 : ts.length ≤ 80) :
    Calls Tryz.prog 37 #[.pointer (some ⟨K, 0, none⟩)] w fun e w' => e = .returned (.bool true) ∧ Bks w' B K (role0 K) (role0 K) [] [] ∧ Off (fun k => k = K ∨ (∃ j, ρ k = 6 + 2 * j) ∨ ∃ j, σ k = 6 + 2 * j) w w' := by
  have HS1 : Hid (Calls Tryz.prog 66 #[.pointer (some ⟨K, 0, none⟩)] w fun e w' => e = .returned (.bool true) ∧ ∃ k, w' = w.drewN k) := h.still hs (by omega) ht (by omega)
  have HWR : Hid (∀ x, Calls Tryz.prog 67 #[.pointer (some ⟨K, 0, none⟩)] (w.drewN x) fun e w' => e = .returned (.tuple #[]) ∧ Bks w' B K ρ σ (Bo.wrote es.length es) (wrote ts.length ts) ∧ Off (fun k => (∃ j, ρ k = 6 + 2 * j) ∨ ∃ j, σ k = 6 + 2 * j) (w.drewN x) w') := fun x => (h.below (below_drewN (Below.refl _ _) x)).write (fun i e he => (hs i e he).2) (by omega) (fun i e he => (ht i e he).2.1) hm2
  have HAP : Hid (∀ k, k ≠ K → ρ k = 0 ∨ σ k = 0) := h.ap
  have HL0 : Hid (Bks w B K ρ σ es ts ∧ K < w.heap.size) := ⟨h, h.lt⟩
  have HSB : Hid (∀ (i : Nat) (e : Bo.Ent), es[i]? = some e → e.old = e.bs ∧ e.bs.length ≤ 70368744177664) := hs
  have HST : Hid (∀ (i : Nat) (e : Ent), ts[i]? = some e → e.old = e.bs ∧ e.bs.length ≤ 1000 ∧ (∀ u ∈ e.bs, ∃ s, u = .string s)) := ht
  obtain ⟨n, hn⟩ : ∃ n, es.length = n := ⟨_, rfl⟩
  obtain ⟨n2, hn2⟩ : ∃ n, ts.length = n := ⟨_, rfl⟩
  rw [hn] at hm
  rw [hn2] at hm2
  have HN0 : Hid (es.length = n ∧ ts.length = n2) := ⟨hn, hn2⟩
  clear h hs ht hn hn2
  go_enter Tryz.func37, Tryz.ntmps37
  go_wp2_with fail
  refine HS1.out.mono ?_
  rintro ev w0 ⟨rfl, k0, rfl⟩
  clear HS1
  go_wp2_with fail
  refine (HWR.out k0).mono ?_
  rintro ev w1 ⟨rfl, hbk, ho1⟩
  have HO1 : Hid (Off (fun k => (∃ j, ρ k = 6 + 2 * j) ∨ ∃ j, σ k = 6 + 2 * j) w w1) := (Off.of_below (P := fun k => (∃ j, ρ k = 6 + 2 * j) ∨ ∃ j, σ k = 6 + 2 * j) (below_drewN (Below.refl _ _) k0)).trans ho1
  clear HWR ho1
  obtain ⟨fs, hfs⟩ : ∃ fs, Bo.wrote es.length es = fs := ⟨_, rfl⟩
  obtain ⟨ft, hft⟩ : ∃ ft, wrote ts.length ts = ft := ⟨_, rfl⟩
  have HFB : Hid (fs.length = n ∧ ∀ (i : Nat) (e : Bo.Ent), fs[i]? = some e → e.bs = Bo.mk i e.bs.length ∧ e.bs.length ≤ 70368744177664) := by
    subst hfs
    refine ⟨by rw [Bo.wrote_length]; exact HN0.out.1, fun i e he => ?_⟩
    have hi : i < es.length := by have := (List.getElem?_eq_some_iff.1 he).1; rw [Bo.wrote_length] at this; exact this
    obtain ⟨d, hd⟩ : ∃ d, es[i]? = some d := ⟨_, List.getElem?_eq_getElem hi⟩
    rw [Bo.wrote_get es.length i es d hd, if_pos hi, Option.some.injEq] at he
    subst he
    exact ⟨by simp only [Bo.mk_length], by simp only [Bo.mk_length]; exact (HSB.out i d hd).2⟩
  have HFT : Hid (ft.length = n2 ∧ ∀ (i : Nat) (e : Ent), ft[i]? = some e → e.bs = Bt.mk i e.bs.length ∧ e.bs.length ≤ 1000) := by
    subst hft
    refine ⟨by rw [wrote_length]; exact HN0.out.2, fun i e he => ?_⟩
    have hi : i < ts.length := by have := (List.getElem?_eq_some_iff.1 he).1; rw [wrote_length] at this; exact this
    obtain ⟨d, hd⟩ : ∃ d, ts[i]? = some d := ⟨_, List.getElem?_eq_getElem hi⟩
    rw [wrote_get ts.length i ts d hd, if_pos hi, Option.some.injEq] at he
    subst he
    exact ⟨by simp only [mk_length], by simp only [mk_length]; exact (HST.out i d hd).2.1⟩
  rw [hfs, hft] at hbk
  obtain ⟨vb, vw, vt, vu, h1, h2⟩ := hbk.ex
  obtain ⟨ab, cb, rfl, hab⟩ := Bo.VRow.isSlice h1.rb
  obtain ⟨at', ct, rfl, hat⟩ := VRow.isSlice h2.rb
  rw [List.length_map] at hab hat
  rw [List.length_map, List.length_map, HFB.out.1, HFT.out.1] at h1 h2
  have HNB : Hid (fs.length = n ∧ (0 < n → ∃ g, ab = some ⟨g, 0, none⟩)) := ⟨HFB.out.1, by rw [HFB.out.1] at hab; exact hab⟩
  have HNT : Hid (ft.length = n2 ∧ (0 < n2 → ∃ g, at' = some ⟨g, 0, none⟩)) := ⟨HFT.out.1, by rw [HFT.out.1] at hat; exact hat⟩
  obtain ⟨vt, hvt⟩ : ∃ v, Value.slice at' n2 ct = v := ⟨_, rfl⟩
  have HVT : Hid (Value.slice at' n2 ct = vt) := hvt
  have HT1 : Hid (Bk w1 B K σ (.slice at' n2 ct) vu (.slice ab n cb) vw ft) := h2
  have HB1 : Hid (Bo.Bk w1 B K ρ (.slice ab n cb) vw vt vu fs) := by rw [← hvt]; exact h1
  clear hbk h1 h2 hab hat hfs hft HSB HST HN0 hvt
  go_wp2_with fail
  go_loopw [4, 7] (fun t4 t7 wx => ∃ i : Nat, i ≤ n ∧ t7 = .int .i64 i ∧ ∃ al nl cl, t4 = .slice al nl cl ∧ Hid (∃ ρ' ls, Bo.Gw wx B K ρ' (.slice ab n cb) vw vt vu (.slice al nl cl) fs ls ∧ ls.length = i ∧ Bo.Off (fun k => ∃ j, ρ k = 6 + 2 * j) w1 wx ∧ (∀ k, k < w1.heap.size → ρ' k = ρ k) ∧ w1.heap.size ≤ wx.heap.size ∧ (∀ z, (Value.slice al nl cl).ownBlock = some z → w1.heap.size ≤ z))) (fun _ t7 _ => n - (intOf t7).toNat)
  case atStart => exact ⟨0, Nat.zero_le _, rfl, _, _, _, rfl, ρ, [], ⟨HB1.out, Bo.VRow.nil _ _ _, fun g e => (by cases e), fun j l e h1 => (by simp at h1)⟩, rfl, Bo.Off.refl _ _, fun _ _ => rfl, Nat.le_refl _, fun z e => (by cases e)⟩
  case round =>
    obtain ⟨i, hi, rfl, al, nl, cl, rfl, HI⟩ := hrel
    obtain ⟨ρ', ls, hgw, hls, hoff, hro, hsz, hfr⟩ := HI.out
    have q0 := hgw.bk.c0
    by_cases hlt : i < n
    · have hlt1 : (i : Int) < n := by omega
      obtain ⟨wo, hwo⟩ : ∃ x, x = wr := ⟨_, rfl⟩
      subst hwo
      obtain ⟨g, rfl⟩ := HNB.out.2 (by omega)
      obtain ⟨e, he⟩ : ∃ e, fs[i]? = some e := ⟨_, List.getElem?_eq_getElem (by have := HFB.out.1; omega)⟩
      have c1 : wo.cell? ⟨g, i, none⟩ = some e.val := hgw.bk.rb.slot (by rw [List.getElem?_map, he]; rfl)
      have r1 := hgw.bk.val i e he
      obtain ⟨a1, d1, e1, hb1⟩ := Bo.Row.isSlice r1
      obtain ⟨m, hm1⟩ : ∃ m, e.bs.length = m := ⟨_, rfl⟩
      have hmk := (HFB.out.2 i e he).1
      have hml := (HFB.out.2 i e he).2
      rw [hm1] at e1 hmk hml
      have HG : Hid (Bo.Gw wo B K ρ' (.slice (some ⟨g, 0, none⟩) n cb) vw vt vu (.slice al nl cl) fs ls ∧ ls.length = i ∧ fs[i]? = some e ∧ e.val = .slice a1 m d1 ∧ e.bs.length = m ∧ e.bs = Bo.mk i m ∧ Bo.Off (fun k => ∃ j, ρ k = 6 + 2 * j) w1 wo ∧ (∀ k, k < w1.heap.size → ρ' k = ρ k) ∧ w1.heap.size ≤ wo.heap.size ∧ (∀ z, (Value.slice al nl cl).ownBlock = some z → w1.heap.size ≤ z)) := ⟨hgw, hls, he, e1, hm1, hmk, hoff, hro, hsz, hfr⟩
      rw [e1] at c1
      clear HI hgw hls hoff hro hsz hfr he r1 e1 hb1 hm1 hmk
      go_wp2_with fail
      go_loopw [8, 9] (fun t8 t9 wx => ∃ k : Nat, k ≤ 90 ∧ t9 = .int .i64 k ∧ ∃ a8 c8, t8 = .slice a8 (m + k) c8 ∧ Hid (Bo.Grew wx B e.val (.slice a8 (m + k) c8) e.bs (Bo.mk i (m + k)) ∧ Bo.Off (fun z => ρ' z = 6 + 2 * i) wo wx ∧ (∀ z, (Value.slice a8 (m + k) c8).ownBlock = some z → e.val.ownBlock = some z ∨ wo.heap.size ≤ z))) (fun _ t9 _ => 90 - (intOf t9).toNat)
      case atStart =>
        refine ⟨0, by omega, rfl, a1, d1, rfl, ?_⟩
        obtain ⟨hgw, hls, he, e1, hm1, hmk, hoff, hro, hsz, hfr⟩ := HG.out
        have r1 := hgw.bk.val i e he
        refine ⟨?_, Bo.Off.refl _ _, fun z hz => Or.inl (by rw [e1]; exact hz)⟩
        have := Bo.Grew.refl r1
        rw [Nat.add_zero, ← e1, ← hmk]
        exact this
      case round =>
        obtain ⟨k, hk, rfl, a8, c8, rfl, HJ⟩ := hrel
        by_cases hlt2 : k < 90
        · have hlt3 : (k : Int) < 90 := by omega
          obtain ⟨a9, n9, c9, w9, e9, g9, o9, s9⟩ := Bo.run_grow HJ.out.1 (Nat.le_trans HG.out.1.bk.hB HJ.out.2.1.size) (by rw [Bo.mk_length]; omega) (Bo.markI i (m + k))
          obtain rfl : n9 = m + (k + 1) := by have := g9.row.len; rw [List.length_append, Bo.mk_length] at this; simp at this; omega
          have HK : Hid (Bo.Grew w9 B e.val (.slice a9 (m + (k + 1)) c9) e.bs (Bo.mk i (m + (k + 1))) ∧ Bo.Off (fun z => ρ' z = 6 + 2 * i) wo w9 ∧ (∀ z, (Value.slice a9 (m + (k + 1)) c9).ownBlock = some z → e.val.ownBlock = some z ∨ wo.heap.size ≤ z)) := by
            rw [← Bo.mk_succ] at g9
            refine ⟨g9, HJ.out.2.1.join o9 (fun z hz hz2 => ?_), fun z hz => ?_⟩
            · rcases HJ.out.2.2 z hz2 with q | q
              · exact HG.out.1.bk.pval i e HG.out.2.2.1 z q
              · omega
            · rcases s9 with q | ⟨g', q, hg'⟩
              · rw [q] at hz; exact HJ.out.2.2 z hz
              · rw [q, Option.some.injEq] at hz; have := HJ.out.2.1.size; exact Or.inr (by omega)
          clear g9 o9 s9 HJ
          go_wp2_with fail
          refine (Bo.mark_any i (m + k) (by omega) _).mono ?_
          rintro ev w2 ⟨rfl, rfl⟩
          go_wp2_with (at_builtin; refine wpList_append_run rfl (.tmp 43) (.tmp 48) 28 _ rfl e9 ?_)
          go_roundw
          case rel => exact ⟨k + 1, hlt2, by go_num, a9, c9, rfl, HK⟩
          case measure => simp [intOf]; omega
        · have hlt3 : ¬ (k : Int) < 90 := by omega
          obtain rfl : k = 90 := by omega
          have rl1 : Bo.VRow wr B 28 (.slice al nl cl) ls := HG.out.1.rl.off HJ.out.2.1 (fun z hz p => by have := HG.out.1.pl z hz; omega)
          obtain ⟨a9, n9, c9, w9, e9, v9, o9, s9⟩ := Bo.run_vpush rl1 (Nat.le_trans HG.out.1.bk.hB HJ.out.2.1.size) (by have := HG.out.2.1; omega) (.slice a8 (m + 90) c8) (Bo.slice_one _ _ _)
          have HK : Hid (∃ ρ'' ls', Bo.Gw w9 B K ρ'' (.slice (some ⟨g, 0, none⟩) n cb) vw vt vu (.slice a9 n9 c9) fs ls' ∧ ls'.length = i + 1 ∧ Bo.Off (fun k => ∃ j, ρ k = 6 + 2 * j) w1 w9 ∧ (∀ k, k < w1.heap.size → ρ'' k = ρ k) ∧ w1.heap.size ≤ w9.heap.size ∧ (∀ z, (Value.slice a9 n9 c9).ownBlock = some z → w1.heap.size ≤ z)) := by
            obtain ⟨hgw, hls, he, e1, hm1, hmk, hoff, hro, hsz, hfr⟩ := HG.out
            have hg1 := HJ.out.1
            rw [← hm1] at hg1
            obtain ⟨ρ'', hgw2, hof2, hro2⟩ := Bo.gw_step hgw hls he HJ.out.2.1 (hm1 ▸ HJ.out.1) HJ.out.2.2 v9 o9 s9
            refine ⟨ρ'', _, hgw2, by simp [hls], hoff.join hof2 (fun z hz p => ?_), fun k hk => by rw [hro2 k (by omega)]; exact hro k hk, Nat.le_trans hsz hof2.size, fun z hz => ?_⟩
            · rcases p with p | p
              · rw [hro z (by omega)] at p; exact ⟨i, p⟩
              · have := hfr z p; omega
            · rcases s9 with q | ⟨g', q, hg'⟩
              · rw [q] at hz; exact hfr z hz
              · rw [q, Option.some.injEq] at hz; have := HJ.out.2.1.size; omega
          clear rl1 v9 o9 s9 HJ
          go_wp2_with (at_builtin; refine wpList_append_run rfl (.tmp 50) (.tmp 52) 48 _ rfl e9 ?_)
          go_roundw
          case rel => exact ⟨i + 1, hlt, by go_num, a9, n9, c9, rfl, HK⟩
          case measure => simp [intOf]; omega
    · have hlt1 : ¬ (i : Int) < n := by omega
      obtain rfl : i = n := by omega
      obtain ⟨w2, hw2⟩ : ∃ x, x = wr := ⟨_, rfl⟩
      subst hw2
      have hT2 : Bk w2 B K σ (.slice at' n2 ct) vu (.slice ab i cb) vw ft := HT1.out.off (off_bt hoff) (fun k ⟨j, p⟩ => by
        rcases Classical.em (k = K) with e | e
        · have := HB1.out.pK; rw [e] at p; omega
        · rcases HAP.out k e with q | q
          · omega
          · exact q)
      obtain ⟨al0, hal0⟩ : ∃ x, al = x := ⟨_, rfl⟩
      obtain ⟨nl0, hnl0⟩ : ∃ x, nl = x := ⟨_, rfl⟩
      obtain ⟨cl0, hcl0⟩ : ∃ x, cl = x := ⟨_, rfl⟩
      rw [hal0, hnl0, hcl0] at hgw hfr ⊢
      clear hal0 hnl0 hcl0
      obtain ⟨vl, hvl⟩ : ∃ v, Value.slice al0 nl0 cl0 = v := ⟨_, rfl⟩
      have HVL : Hid (Value.slice al0 nl0 cl0 = vl) := hvl
      have HAP2 : Hid (∀ k, k ≠ K → ρ' k = 0 ∨ σ k = 0) := fun k hk => by
        rcases Nat.lt_or_ge k w1.heap.size with q | q
        · rw [hro k q]; exact HAP.out k hk
        · exact Or.inr (HT1.out.new k q)
      have HG1 : Hid (Bo.Gw w2 B K ρ' (.slice ab i cb) vw vt vu vl fs ls ∧ ls.length = i ∧ Bo.Off (fun k => ∃ j, ρ k = 6 + 2 * j) w1 w2) := ⟨by rw [← hvl]; exact hgw, hls, hoff⟩
      have HT2 : Hid (Bk w2 B K σ (.slice at' n2 ct) vu (.slice ab i cb) vw ft) := hT2
      have q2 := hT2.c2
      have q4 := hT2.c4
      clear HI hgw hls hoff hro hsz hfr hT2 HT1 hvl
      go_wp2_with fail
      refine wp_loop_rounds 1 ?_
      rw [rounds_succ]
      go_wp2_with fail
      clear q0 q2 q4
      obtain ⟨vb, hvb⟩ : ∃ v, Value.slice ab i cb = v := ⟨_, rfl⟩
      have HVB : Hid (Value.slice ab i cb = vb) := hvb
      rw [hvb] at HT2 HG1
      clear hvb
      obtain ⟨rb, hrb⟩ : ∃ r, ρ' = r := ⟨_, rfl⟩
      rw [hrb] at HG1 HAP2
      clear hrb
      obtain ⟨lb, hlb⟩ : ∃ r, ls = r := ⟨_, rfl⟩
      rw [hlb] at HG1
      clear hlb
      go_loopw [6, 13] (fun t4 t7 wx => ∃ i : Nat, i ≤ n2 ∧ t7 = .int .i64 i ∧ ∃ al nl cl, t4 = .slice al nl cl ∧ Hid (∃ ρ' ls, Gw wx B K ρ' (.slice at' n2 ct) vu vb vw (.slice al nl cl) ft ls ∧ ls.length = i ∧ Off (fun k => ∃ j, σ k = 6 + 2 * j) w2 wx ∧ (∀ k, k < w2.heap.size → ρ' k = σ k) ∧ w2.heap.size ≤ wx.heap.size ∧ (∀ z, (Value.slice al nl cl).ownBlock = some z → w2.heap.size ≤ z))) (fun _ t7 _ => n2 - (intOf t7).toNat)
      case atStart => exact ⟨0, Nat.zero_le _, rfl, _, _, _, rfl, σ, [], ⟨HT2.out, VRow.nil _ _ _, fun g e => (by cases e), fun j l e h1 => (by simp at h1)⟩, rfl, Off.refl _ _, fun _ _ => rfl, Nat.le_refl _, fun z e => (by cases e)⟩
      case round =>
        obtain ⟨i, hi, rfl, al, nl, cl, rfl, HI⟩ := hrel
        obtain ⟨ρ', ls, hgw, hls, hoff, hro, hsz, hfr⟩ := HI.out
        have q0 := hgw.bk.c4
        by_cases hlt : i < n2
        · have hlt1 : (i : Int) < n2 := by omega
          obtain ⟨wo, hwo⟩ : ∃ x, x = wr := ⟨_, rfl⟩
          subst hwo
          obtain ⟨g, rfl⟩ := HNT.out.2 (by omega)
          obtain ⟨e, he⟩ : ∃ e, ft[i]? = some e := ⟨_, List.getElem?_eq_getElem (by have := HFT.out.1; omega)⟩
          have c1 : wo.cell? ⟨g, i, none⟩ = some e.val := VRow.slot hgw.bk.rb (by rw [List.getElem?_map, he]; rfl)
          have r1 := hgw.bk.val i e he
          obtain ⟨a1, d1, e1, hb1⟩ := VRow.isSlice r1
          obtain ⟨m, hm1⟩ : ∃ m, e.bs.length = m := ⟨_, rfl⟩
          have hmk := (HFT.out.2 i e he).1
          have hml := (HFT.out.2 i e he).2
          rw [hm1] at e1 hmk hml
          have HG : Hid (Gw wo B K ρ' (.slice (some ⟨g, 0, none⟩) n2 ct) vu vb vw (.slice al nl cl) ft ls ∧ ls.length = i ∧ ft[i]? = some e ∧ e.val = .slice a1 m d1 ∧ e.bs.length = m ∧ e.bs = Bt.mk i m ∧ Off (fun k => ∃ j, σ k = 6 + 2 * j) w2 wo ∧ (∀ k, k < w2.heap.size → ρ' k = σ k) ∧ w2.heap.size ≤ wo.heap.size ∧ (∀ z, (Value.slice al nl cl).ownBlock = some z → w2.heap.size ≤ z)) := ⟨hgw, hls, he, e1, hm1, hmk, hoff, hro, hsz, hfr⟩
          rw [e1] at c1
          clear HI hgw hls hoff hro hsz hfr he r1 e1 hb1 hm1 hmk
          go_wp2_with fail
          go_loopw [14, 15] (fun t8 t9 wx => ∃ k : Nat, k ≤ 90 ∧ t9 = .int .i64 k ∧ ∃ a8 c8, t8 = .slice a8 (m + k) c8 ∧ Hid (Grew wx B e.val (.slice a8 (m + k) c8) e.bs (Bt.mk i (m + k)) ∧ Off (fun z => ρ' z = 6 + 2 * i) wo wx ∧ (∀ z, (Value.slice a8 (m + k) c8).ownBlock = some z → e.val.ownBlock = some z ∨ wo.heap.size ≤ z))) (fun _ t9 _ => 90 - (intOf t9).toNat)
          case atStart =>
            refine ⟨0, by omega, rfl, a1, d1, rfl, ?_⟩
            obtain ⟨hgw, hls, he, e1, hm1, hmk, hoff, hro, hsz, hfr⟩ := HG.out
            have r1 := hgw.bk.val i e he
            refine ⟨?_, Off.refl _ _, fun z hz => Or.inl (by rw [e1]; exact hz)⟩
            have := Grew.refl r1
            rw [Nat.add_zero, ← e1, ← hmk]
            exact this
          case round =>
            obtain ⟨k, hk, rfl, a8, c8, rfl, HJ⟩ := hrel
            by_cases hlt2 : k < 90
            · have hlt3 : (k : Int) < 90 := by omega
              obtain ⟨M, hM⟩ : ∃ M, mkT i = .string M := ⟨_, rfl⟩
              have HCM := mark_any i (by have := HG.out.2.1; omega) wr
              rw [hM] at HCM
              go_wp2_with fail
              refine HCM.mono ?_
              rintro ev w5 ⟨rfl, hb2⟩
              have hj2 : Grew w5 B e.val (.slice a8 (m + k) c8) e.bs (Bt.mk i (m + k)) := ⟨VRow.below HJ.out.1.row hb2, VRow.below HJ.out.1.val hb2, HJ.out.1.pre, HJ.out.1.way⟩
              have ho2 : Off (fun z => ρ' z = 6 + 2 * i) wo w5 := HJ.out.2.1.trans (Off.of_below hb2)
              obtain ⟨a9, c9, w9, e9, g9, o9, s9⟩ := run_grow hj2 (Nat.le_trans HG.out.1.bk.hB ho2.size) (by rw [mk_length]; omega) (.string M) rfl
              rw [mk_length, show m + k + 1 = m + (k + 1) from Nat.add_assoc _ _ _] at e9 g9 s9
              have HK : Hid (Grew w9 B e.val (.slice a9 (m + (k + 1)) c9) e.bs (Bt.mk i (m + (k + 1))) ∧ Off (fun z => ρ' z = 6 + 2 * i) wo w9 ∧ (∀ z, (Value.slice a9 (m + (k + 1)) c9).ownBlock = some z → e.val.ownBlock = some z ∨ wo.heap.size ≤ z)) := by
                rw [← hM, ← mk_succ] at g9
                refine ⟨g9, ho2.join o9 (fun z hz hz2 => ?_), fun z hz => ?_⟩
                · rcases HJ.out.2.2 z hz2 with q | q
                  · exact HG.out.1.bk.pval i e HG.out.2.2.1 z q
                  · omega
                · rcases s9 with q | ⟨g', q, hg'⟩
                  · rw [q] at hz; exact HJ.out.2.2 z hz
                  · rw [q, Option.some.injEq] at hz; have := ho2.size; exact Or.inr (by omega)
              clear g9 o9 s9 HJ hM HCM hj2 ho2 hb2
              go_wp2_with (at_builtin; refine wpList_append_run rfl (.tmp 105) (.tmp 108) 66 _ rfl e9 ?_)
              go_roundw
              case rel => exact ⟨k + 1, hlt2, by go_num, a9, c9, rfl, HK⟩
              case measure => simp [intOf]; omega
            · have hlt3 : ¬ (k : Int) < 90 := by omega
              obtain rfl : k = 90 := by omega
              have rl1 : VRow wr B 66 (.slice al nl cl) ls := HG.out.1.rl.off HJ.out.2.1 (fun z hz p => by have := HG.out.1.pl z hz; omega)
              obtain ⟨a9, c9, w9, e9, v9, o9, s9, _⟩ := run_vpush Tryz.underlying50 oneL (by omega) rl1 (Nat.le_trans HG.out.1.bk.hB HJ.out.2.1.size) (by have := HG.out.2.1; omega) (.slice a8 (m + 90) c8) (slice_one _ _ _)
              obtain ⟨n9, hn9⟩ : ∃ n9, ls.length + 1 = n9 := ⟨_, rfl⟩
              rw [hn9] at e9 v9 s9
              have HK : Hid (∃ ρ'' ls', Gw w9 B K ρ'' (.slice (some ⟨g, 0, none⟩) n2 ct) vu vb vw (.slice a9 n9 c9) ft ls' ∧ ls'.length = i + 1 ∧ Off (fun k => ∃ j, σ k = 6 + 2 * j) w2 w9 ∧ (∀ k, k < w2.heap.size → ρ'' k = σ k) ∧ w2.heap.size ≤ w9.heap.size ∧ (∀ z, (Value.slice a9 n9 c9).ownBlock = some z → w2.heap.size ≤ z)) := by
                obtain ⟨hgw, hls, he, e1, hm1, hmk, hoff, hro, hsz, hfr⟩ := HG.out
                have hg1 := HJ.out.1
                rw [← hm1] at hg1
                obtain ⟨ρ'', hgw2, hof2, hro2⟩ := gw_step hgw hls he HJ.out.2.1 (hm1 ▸ HJ.out.1) HJ.out.2.2 v9 o9 s9
                refine ⟨ρ'', _, hgw2, by simp [hls], hoff.join hof2 (fun z hz p => ?_), fun k hk => by rw [hro2 k (by omega)]; exact hro k hk, Nat.le_trans hsz hof2.size, fun z hz => ?_⟩
                · rcases p with p | p
                  · rw [hro z (by omega)] at p; exact ⟨i, p⟩
                  · have := hfr z p; omega
                · rcases s9 with q | ⟨g', q, hg'⟩
                  · rw [q] at hz; exact hfr z hz
                  · rw [q, Option.some.injEq] at hz; have := HJ.out.2.1.size; omega
              clear rl1 v9 o9 s9 HJ
              go_wp2_with (at_builtin; refine wpList_append_run rfl (.tmp 110) (.tmp 112) 50 _ rfl e9 ?_)
              go_roundw
              case rel => exact ⟨i + 1, hlt, by go_num, a9, n9, c9, rfl, HK⟩
              case measure => simp [intOf]; omega
        · have hlt1 : ¬ (i : Int) < n2 := by omega
          obtain rfl : i = n2 := by omega
          have hG2 : Bo.Gw wr B K rb vb vw vt vu vl fs lb := gwB_off HG1.out.1 (off_bo hoff) (fun k ⟨j, p⟩ => by
            rcases Classical.em (k = K) with e | e
            · have := HT2.out.pK; rw [e] at p; omega
            · rcases HAP2.out k e with q | q
              · exact q
              · omega) rfl rfl
          have hG2' : Bo.Gw wr B K rb vb vw (.slice at' i ct) vu vl fs lb := by rw [HVT.out]; exact hG2
          have HSH := shows_both hG2' (by rw [HG1.out.2.1]; exact HFB.out.1.symm) HFB.out.2 (by have := HFB.out.1; omega) hgw (by rw [hls]; exact HFT.out.1.symm) HFT.out.2 (by have := HFT.out.1; omega)
          have HX : Hid (Bo.Bk wr B K rb vb vw vt vu fs ∧ Off (fun k => ∃ j, σ k = 6 + 2 * j) w2 wr) := ⟨hG2.bk, hoff⟩
          rw [← HVL.out] at HSH
          have HS2 : Hid (Calls Tryz.prog 71 #[.pointer (some ⟨K, 0, none⟩), .slice al0 nl0 cl0, .slice none 0 0, .slice al nl cl] wr fun e w' => e = .returned (.bool true) ∧ Below wr.heap.size wr w') := HSH
          clear HSH hgw hls hoff hro hsz hfr HI hG2 hG2'
          go_wp2_with fail
          refine HS2.out.mono ?_
          rintro ev w3 ⟨rfl, hb3b⟩
          have hb3 : Bo.Bk w3 B K rb vb vw vt vu fs := HX.out.1.off (P := fun _ => False) (off_bo (Off.of_below hb3b)) (fun _ p => p.elim)
          have ho3 : Off (fun k => ∃ j, σ k = 6 + 2 * j) w2 w3 := HX.out.2.trans (Off.of_below hb3b)
          have r0 := hb3.c0
          have r1 := hb3.c1
          have r2 := hb3.c2
          have r3 := hb3.c3
          have r4 := hb3.c4
          have r5 := hb3.c5
          have f0 := hb3.fz 0
          have f1 := hb3.fz 1
          have f2 := hb3.fz 2
          have f3 := hb3.fz 3
          have f4 := hb3.fz 4
          have f5 := hb3.fz 5
          have HB3 : Hid (Bo.Bk w3 B K rb vb vw vt vu fs ∧ Off (fun k => ∃ j, σ k = 6 + 2 * j) w2 w3) := ⟨hb3, ho3⟩
          clear hb3 ho3 hb3b HX HS2 q0
          go_wp2_with fail
          go_ret
          obtain ⟨h1, h2⟩ := clear_books HB3.out.1
          refine ⟨rfl, h1, ?_⟩
          refine ((HO1.out.mono fun k p => Or.inr p).trans ((off_bt HG1.out.2.2).mono fun k p => Or.inr (Or.inl p))).trans ((HB3.out.2.mono fun k p => Or.inr (Or.inr p)).trans (h2.mono fun k p => Or.inl p))
end Go.Proofs.YtjbkfppibnlmoaaGreatDoor.Bt
