/-
  The strong pair: alone, walked.
-/
import Derived.Test.YtjbkfppibnlmoaaGreatDoorSsAlone
namespace Go.Proofs.YtjbkfppibnlmoaaGreatDoor
open Go.RowKit

section
variable {W w w' wx wy : World} {X K n m : Nat} {bv mk ke rm L v6 v7 : Value} {o : Option (Int × Int)} {A A' : List Ent} {τ τ' : Nat → Nat} {P : Nat → Prop} {gs : List (Sl × Sl)} {B : Nat}
theorem map_at {α β : Type} {f : α → β} {l : List α} {i : Nat} {x : α} (h : l[i]? = some x) : (l.map f)[i]? = some (f x) := by rw [List.getElem?_map, h]; rfl
theorem sl_at {w : World} {B : Nat} {a : Option Addr} {N c : Nat} {xs : List Sl} (h : ERow w B 22 1 encSl (.slice a N c) xs) {i : Nat} {s : Sl} (hi : xs[i]? = some s) : ∃ g, a = some ⟨g, 0, none⟩ ∧ g < w.heap.size ∧ w.cell? ⟨g, i, none⟩ = some (slv s) := by
  obtain ⟨g, e, hl, hc⟩ := ERow.at_ encSl_len h hi
  refine ⟨g, e, hl, ?_⟩
  have := hc 0 (by decide)
  rw [Nat.mul_one, Nat.add_zero] at this
  exact this
theorem RS.c6 (h : RS W X K bv mk ke rm L o A A' τ v6 v7 gs w wx) : wx.cell? ⟨X, 6, none⟩ = some v6 ∧ wx.cell? ⟨X, 7, none⟩ = some v7 ∧ wx.frozen? ⟨X, 6, none⟩ = false ∧ wx.frozen? ⟨X, 7, none⟩ = false ∧ X < wx.heap.size := ⟨hcell h.hX 6, hcell h.hX 7, hfroz h.hX 6, hfroz h.hX 7, blk_lt h.hX⟩
set_option maxRecDepth 100000 in
set_option maxHeartbeats 16000000 in
theorem alone_s (h : SS W X K bv mk ke rm L o A A' τ n m w) (hn : n ≤ 1000000) (hm : m ≤ 80) : Calls Tryz.prog 9 #[.pointer (some ⟨X, 0, none⟩)] w fun e w' => e = .returned (.bool true) ∧ Hid (∃ τ', SS W X K bv mk ke rm L o A A' τ' 0 0 w' ∧ Off (fun q => τ q ≠ 0 ∧ τ q ≠ 4) w w' ∧ ∀ q, τ' q = 0 ∨ τ' q = τ q) := by
  obtain ⟨v6, v7, gs, ρ, σ, es, ts, hX, hb, h1, h2, h3, h4, ⟨g1, g2, g3, g4, g5⟩, g6⟩ := h.ex
  obtain ⟨N, hN⟩ : ∃ N, gs.length = N := ⟨_, rfl⟩
  obtain ⟨a6, c6, e6, hx6⟩ := ERow.isSlice g1
  obtain ⟨a7, c7, e7, hx7⟩ := ERow.isSlice g2
  clear hx6 hx7
  rw [List.length_map, hN] at e6 e7
  have HT : Hid (W.heap.size ≤ w.heap.size ∧ gs.length = N ∧ N ≤ 80 ∧ (∀ q, w.heap.size ≤ q → τ q = 0) ∧ (∀ q, τ q ≠ 0 → W.heap.size ≤ q) ∧ Below W.heap.size W w ∧ (∀ q, v6.ownBlock = some q → τ q = 5) ∧ GsOk w W.heap.size τ gs) := ⟨h.bel.size, hN, by omega, h.new, h.old, h.bel, fun q hq => g4 q (Or.inl hq), g6⟩
  have HS : Hid (w.heap[X]? = some (.cells #[bv, mk, ke, rm, L, .pointer (some ⟨K, 0, none⟩), v6, v7] 55 (0, 0)) ∧ ERow w W.heap.size 22 1 encSl v6 (gs.map Prod.fst) ∧ ERow w W.heap.size 22 1 encSl v7 (gs.map Prod.snd) ∧ S4 w W.heap.size X bv mk ke rm L A A' τ o ∧ τ X = 5 ∧ RoB ρ τ ∧ RoB σ τ ∧ K < w.heap.size) := ⟨hX, g1, g2, h.s4, h.tX, h3, h4, hb.lt⟩
  have HBA : Hid (∀ z, Below w.heap.size w z → Calls Tryz.prog 37 #[.pointer (some ⟨K, 0, none⟩)] z fun e w' => e = .returned (.bool true) ∧ Bt.Bks w' W.heap.size K (Bt.role0 K) (Bt.role0 K) [] [] ∧ Bt.Off (fun k => k = K ∨ (∃ j, ρ k = 6 + 2 * j) ∨ ∃ j, σ k = 6 + 2 * j) z w') := fun z hz => (hb.below hz).alone h1.1 (by omega) h2.1 (by omega)
  have HKr : Hid (ρ K = 1) := by
    obtain ⟨_, _, _, _, b1, _⟩ := hb.ex
    exact b1.pK
  have hN80 : N ≤ 80 := by omega
  clear h hX hb h1 h2 h3 h4 g1 g2 g3 g4 g5 g6 hN hn hm
  have HE : Hid (v6 = .slice a6 N c6 ∧ v7 = .slice a7 N c7) := ⟨e6, e7⟩
  clear e6 e7
  go_enter Tryz.func9, Tryz.ntmps9
  go_wp2_with fail
  go_loopw [3] (fun t wx => ∃ i : Nat, i ≤ N ∧ t = .int .i64 i ∧ Hid (Below w.heap.size w wx)) (fun t _ => N - (intOf t).toNat)
  case atStart => exact ⟨0, Nat.zero_le _, rfl, Below.refl _ _⟩
  case round =>
    obtain ⟨i, hi, rfl, HI⟩ := hrel
    have k6 : wr.cell? ⟨X, 6, none⟩ = some (.slice a6 N c6) := by rw [hcell (blk_below HS.out.1 HI.out) 6, ← HE.out.1]; rfl
    have k7 : wr.cell? ⟨X, 7, none⟩ = some (.slice a7 N c7) := by rw [hcell (blk_below HS.out.1 HI.out) 7, ← HE.out.2]; rfl
    have lX := cell_lt k6
    have k5 : wr.cell? ⟨X, 5, none⟩ = some (.pointer (some ⟨K, 0, none⟩)) := by rw [hcell (blk_below HS.out.1 HI.out) 5]; rfl
    by_cases hlt : i < N
    · have hlt1 : (i : Int) < N := by omega
      obtain ⟨⟨s, s'⟩, hg⟩ : ∃ g, gs[i]? = some g := ⟨_, List.getElem?_eq_getElem (by have := HT.out.2.1; omega)⟩
      obtain ⟨ls, ls', j1, j2, j3, j4, j5, j6, j7, j8, _⟩ := (HT.out.2.2.2.2.2.2.2 i _ hg).1
      have r6 : ERow wr W.heap.size 22 1 encSl (.slice a6 N c6) (gs.map Prod.fst) := by rw [← HE.out.1]; exact ERow.below HS.out.2.1 HI.out
      have r7 : ERow wr W.heap.size 22 1 encSl (.slice a7 N c7) (gs.map Prod.snd) := by rw [← HE.out.2]; exact ERow.below HS.out.2.2.1 HI.out
      obtain ⟨b6, rfl, l6, d6⟩ := sl_at r6 (map_at hg)
      obtain ⟨b7, rfl, l7, d7⟩ := sl_at r7 (map_at hg)
      obtain ⟨sa, sn, sc⟩ := s
      obtain ⟨ta, tn, tc⟩ := s'
      have hln : tn = sn := by
        have q1 := ERow.len j2
        have q2 := ERow.len j4
        rw [← j6.1] at q2
        simp only at q1 q2
        omega
      subst hln
      have j2' : NRow w W.heap.size (.slice sa tn sc) ls := j2
      have j4' : NRow w W.heap.size (.slice ta tn tc) ls' := j4
      have HC : Hid (∀ x : Bt.Sub wr, Calls Tryz.prog 34 #[.slice sa tn sc, .slice ta tn tc] x.1 fun e w' => e = .returned (.bool true) ∧ ∃ y : Bt.Sub wr, w' = y.1) := fun x => by
        have hwz := below_then HI.out x.2
        exact (sameList_true (ERow.below j2' hwz) (ERow.below j4' hwz) j6 (fun l hl => ((j3 l hl).below hwz).lies) (fun l hl => ((j5 l hl).below hwz).lies) fun l hl => ⟨by have := (j7 l hl).1; omega, by have := (j7 l hl).2.1; omega, by have := (j7 l hl).2.2; omega⟩).mono fun e w' ⟨q1, q2⟩ => ⟨q1, ⟨w', below_then x.2 q2⟩, rfl⟩
      have tr : ∀ (x : Bt.Sub wr) (p : Addr) (v : Value), wr.cell? p = some v → x.1.cell? p = some v := fun x p v hv => by
        rw [x.2.cell (p := p) (cell_lt hv)]; exact hv
      have d6' : wr.cell? ⟨b6, i, none⟩ = some (.slice sa tn sc) := d6
      have d7' : wr.cell? ⟨b7, i, none⟩ = some (.slice ta tn tc) := d7
      have t1 := fun x : Bt.Sub wr => tr x _ _ k6
      have t2 := fun x : Bt.Sub wr => tr x _ _ k7
      have t3 := fun x : Bt.Sub wr => tr x _ _ d6'
      have t4 := fun x : Bt.Sub wr => tr x _ _ d7'
      have hcl : ∀ x : Bt.Sub wr, Calls Tryz.prog 34 #[.slice sa tn sc, .slice ta tn tc] x.1 fun e w' => e = .returned (.bool true) ∧ ∃ y : Bt.Sub wr, w' = y.1 := HC.out
      haveI hne : Nonempty (Bt.Sub wr) := ⟨⟨wr, Below.refl _ _⟩⟩
      clear hg j1 j2 j3 j4 j2' j4' j5 j6 j7 j8 r6 r7 d6 d7 HBA k5 tr HC d6' d7' k7
      go_wp2_with fail
      refine Bt.wp_region_class (V := wr) (Below.refl _ _) (by kernel_rfl) (by kernel_rfl) ?_
      repeat (go_big_quiet_step ((go_at_call 34; exact hcl _)))
      refine wpQuiet_nil ?_
      rintro wc ⟨xwc, rfl⟩
      have HB9 : Hid (Below w.heap.size w xwc.1) := below_then HI.out xwc.2
      clear hcl t1 t2 t3 t4 hne
      go_wp2_with fail
      go_roundw
      case rel => exact ⟨i + 1, hlt, by go_num, HB9⟩
      case measure => simp [intOf]; omega
    · have hlt1 : ¬ (i : Int) < N := by omega
      obtain rfl : i = N := by omega
      have hal := HBA.out wr HI.out
      go_wp2_with fail
      refine hal.mono ?_
      rintro _ w1 ⟨rfl, q1, q2⟩
      -- behind the book's Alone
      have o1 : Off (fun q => τ q = 1 ∨ τ q = 2) wr w1 := (of_bt q2).mono fun q hq => by
        rcases hq with rfl | ⟨j, e⟩ | ⟨j, e⟩
        · exact (HS.out.2.2.2.2.2.1 q).2 (by rw [HKr.out]; decide)
        · exact (HS.out.2.2.2.2.2.1 q).2 (by omega)
        · exact (HS.out.2.2.2.2.2.2.1 q).2 (by omega)
      have tK : τ K = 1 := (HS.out.2.2.2.2.2.1 K).1 (by rw [HKr.out]; decide)
      have ow : Off (fun q => τ q = 1 ∨ τ q = 2) w w1 := (Off.of_below HI.out).trans o1
      have HR : Hid (RS W X K bv mk ke rm L o A A' τ v6 v7 gs w w1) := ⟨(ow.block X (blk_lt HS.out.1) (by rw [HS.out.2.2.2.2.1]; decide)).trans HS.out.1, ERow.off HS.out.2.1 ow fun q hq => by rw [HT.out.2.2.2.2.2.2.1 q hq]; decide, q1, HS.out.2.2.2.1.off ow (fun q _ e => by omega) fun _ _ e => e, ow.mono fun q hq => by omega, ⟨HS.out.2.2.2.2.1, blk_lt HS.out.1⟩, ⟨tK, HS.out.2.2.2.2.2.2.2⟩, HT.out.2.2.2.2.2.2.1⟩
      have HG : Hid (GW w1 W.heap.size gs 0 0) := fun j g hg => by
        obtain ⟨ls, ls', j1, j2, j3, j4, j5, j6, j7, j8, j9, _⟩ := (HT.out.2.2.2.2.2.2.2 j g hg).1
        exact ⟨j1, ls, ERow.off j2 ow fun q hq => by rw [j9 q hq]; decide, (ERow.len j2).symm, fun q => absurd q (Nat.not_lt_zero _), fun _ => by rw [List.take_zero]; rfl⟩
      have HD : Hid ((∀ (i j : Nat) (x y : Sl × Sl), gs[i]? = some x → gs[j]? = some y → i ≠ j → ∀ q, ob x.1 = some q → ob y.1 ≠ some q) ∧ (∀ g ∈ gs, ∀ q, ob g.1 = some q → τ q = 3) ∧ ∀ g ∈ gs, g.1.2.1 ≤ 1000) := by
        refine ⟨fun i j x y hx hy hij q hq hq' => ?_, fun g hg q hq => ?_, fun g hg => ?_⟩
        · rcases Nat.lt_or_ge i j with z | z
          · exact (HT.out.2.2.2.2.2.2.2 j y hy).2 i x z hx q hq' hq
          · exact (HT.out.2.2.2.2.2.2.2 i x hx).2 j y (by omega) hy q hq hq'
        · obtain ⟨i, hi, rfl⟩ := List.getElem_of_mem hg
          obtain ⟨ls, ls', _, _, _, _, _, _, _, _, j9, _⟩ := (HT.out.2.2.2.2.2.2.2 i _ (List.getElem?_eq_getElem hi)).1
          exact j9 q hq
        · obtain ⟨i, hi, rfl⟩ := List.getElem_of_mem hg
          obtain ⟨ls, ls', _, j2, _, _, _, _, _, j8, _⟩ := (HT.out.2.2.2.2.2.2.2 i _ (List.getElem?_eq_getElem hi)).1
          have := ERow.len j2
          omega
      clear hal HBA HS q1 q2 o1 ow tK HI k5 k6 k7 lX HKr hlt hlt1
      go_wp2_with fail
      go_loopw [5] (fun t wx => ∃ j : Nat, j ≤ i ∧ t = .int .i64 j ∧ Hid (RS W X K bv mk ke rm L o A A' τ v6 v7 gs w wx ∧ GW wx W.heap.size gs j 0)) (fun t _ => i - (intOf t).toNat)
      case atStart => exact ⟨0, Nat.zero_le _, rfl, HR.out, HG.out⟩
      case round =>
        obtain ⟨j, hj, rfl, HJ⟩ := hrel
        have k6 : wr.cell? ⟨X, 6, none⟩ = some (.slice a6 i c6) := by rw [HJ.out.1.c6.1, HE.out.1]
        have lX := cell_lt k6
        by_cases hlt : j < i
        · have hlt1 : (j : Int) < i := by omega
          obtain ⟨⟨s, s'⟩, hg⟩ : ∃ g, gs[j]? = some g := ⟨_, List.getElem?_eq_getElem (by have := HT.out.2.1; omega)⟩
          have r6 : ERow wr W.heap.size 22 1 encSl (.slice a6 i c6) (gs.map Prod.fst) := by rw [← HE.out.1]; exact HJ.out.1.r6
          obtain ⟨b6, rfl, l6, d6⟩ := sl_at r6 (map_at hg)
          obtain ⟨sa, sn, sc⟩ := s
          have HGJ : Hid (gs[j]? = some ((sa, sn, sc), s') ∧ sc = sn ∧ sn ≤ 1000) := ⟨hg, (HJ.out.2 j _ hg).1, HD.out.2.2 _ (List.mem_of_getElem? hg)⟩
          have hs1000 : sn ≤ 1000 := HGJ.out.2.2
          clear r6 d6 l6 hg HR HG
          obtain ⟨U, rfl⟩ : ∃ U, U = wr := ⟨_, rfl⟩
          go_wp2_with fail
          clear k6 lX
          go_loopw [6] (fun t wx => ∃ k : Nat, k ≤ sn ∧ t = .int .i64 k ∧ Hid (RS W X K bv mk ke rm L o A A' τ v6 v7 gs w wx ∧ GW wx W.heap.size gs j k)) (fun t _ => sn - (intOf t).toNat)
          case atStart => exact ⟨0, Nat.zero_le _, rfl, HJ⟩
          case round =>
            obtain ⟨k, hk, rfl, HK⟩ := hrel
            have k6 : wr.cell? ⟨X, 6, none⟩ = some (.slice (some ⟨b6, 0, none⟩) i c6) := by rw [HK.out.1.c6.1, HE.out.1]
            have lX := cell_lt k6
            have r6 : ERow wr W.heap.size 22 1 encSl (.slice (some ⟨b6, 0, none⟩) i c6) (gs.map Prod.fst) := by rw [← HE.out.1]; exact HK.out.1.r6
            obtain ⟨_, eb, l6, d6⟩ := sl_at r6 (map_at HGJ.out.1)
            simp only [Option.some.injEq, Addr.mk.injEq, and_true] at eb
            subst eb
            have d6' : wr.cell? ⟨b6, j, none⟩ = some (.slice sa sn sc) := d6
            clear r6 d6
            by_cases hltk : k < sn
            · have hltk1 : (k : Int) < sn := by omega
              obtain ⟨_, xs, x1, x2, _⟩ := HK.out.2 j _ HGJ.out.1
              obtain ⟨y, hy⟩ : ∃ y, xs[k]? = some y := ⟨_, List.getElem?_eq_getElem (by simp only at x2; omega)⟩
              obtain ⟨sb, rfl, lb, hc⟩ := nrow_cells x1 hy
              obtain ⟨f0, f1, f2, f3, f4, f5, f6⟩ := hc
              have hfz := ERow.thaw x1
              have HZ : Hid (RS W X K bv mk ke rm L o A A' τ v6 v7 gs w (wr.setCells sb (k * 7) (encE (wrE j k))) ∧ GW (wr.setCells sb (k * 7) (encE (wrE j k))) W.heap.size gs j (k + 1)) := ⟨HK.out.1.step (P := fun q => q = sb) (Off.setCells (P := fun q => q = sb) rfl _ _ _ (Off.refl _ _)) fun q e => by subst e; exact HD.out.2.1 _ (List.mem_of_getElem? HGJ.out.1) q rfl, HK.out.2.step HD.out.1 HGJ.out.1 rfl hltk⟩
              clear HK x1 x2 hy
              go_wp2_with fail
              go_roundw
              case rel => exact ⟨k + 1, hltk, by go_num, HZ⟩
              case measure => simp [intOf]; omega
            · have hltk1 : ¬ (k : Int) < sn := by omega
              obtain rfl : k = sn := by omega
              go_wp2_with fail
              go_roundw
              case rel => exact ⟨j + 1, hlt, by go_num, HK.out.1, GW.next HK.out.2 HGJ.out.1⟩
              case measure => simp [intOf]; omega
        · have hlt1 : ¬ (j : Int) < i := by omega
          obtain rfl : j = i := by omega
          obtain ⟨U, rfl⟩ : ∃ U, U = wr := ⟨_, rfl⟩
          have HU : Hid (RS W X K bv mk ke rm L o A A' τ v6 v7 gs w U ∧ GW U W.heap.size gs j 0) := HJ
          clear HJ HR HG
          go_wp2_with fail
          clear k6 lX
          go_loopw [7] (fun t wx => ∃ i : Nat, i ≤ j ∧ t = .int .i64 i ∧ Hid (Below U.heap.size U wx)) (fun t _ => j - (intOf t).toNat)
          case atStart => exact ⟨0, Nat.zero_le _, rfl, Below.refl _ _⟩
          case round =>
            obtain ⟨i, hij, rfl, HI⟩ := hrel
            have HRI : Hid (RS W X K bv mk ke rm L o A A' τ v6 v7 gs w wr) := HU.out.1.below HI.out
            have k6 : wr.cell? ⟨X, 6, none⟩ = some (.slice a6 j c6) := by rw [HRI.out.c6.1, HE.out.1]
            have lX := cell_lt k6
            by_cases hlt : i < j
            · have hlt1 : (i : Int) < j := by omega
              obtain ⟨⟨s, s'⟩, hg⟩ : ∃ g, gs[i]? = some g := ⟨_, List.getElem?_eq_getElem (by have := HT.out.2.1; omega)⟩
              have r6 : ERow wr W.heap.size 22 1 encSl (.slice a6 j c6) (gs.map Prod.fst) := by rw [← HE.out.1]; exact HRI.out.r6
              obtain ⟨b6, rfl, l6, d6⟩ := sl_at r6 (map_at hg)
              obtain ⟨sa, sn, sc⟩ := s
              obtain ⟨hsc, xs, x1, x2, _⟩ := (HU.out.2.below HI.out) i _ hg
              simp only at hsc x2
              subst hsc
              have HG5 : Hid (gs[i]? = some ((sa, sc, sc), s') ∧ sc ≤ 1000 ∧ NRow wr W.heap.size (.slice sa sc sc) xs ∧ W.heap.size ≤ wr.heap.size) := ⟨hg, HD.out.2.2 _ (List.mem_of_getElem? hg), x1, by have := HT.out.1; have := HRI.out.off.size; omega⟩
              have d6' : wr.cell? ⟨b6, i, none⟩ = some (.slice sa sc sc) := d6
              clear r6 d6 hg x1 x2
              obtain ⟨V, rfl⟩ : ∃ V, V = wr := ⟨_, rfl⟩
              have HV : Hid (RS W X K bv mk ke rm L o A A' τ v6 v7 gs w V ∧ Below U.heap.size U V) := ⟨HRI.out, HI.out⟩
              have hs1000 : (sc : Int) ≤ 1000 := by have := HG5.out.2.1; omega
              clear HI HRI
              go_wp2_with fail
              go_loopw [8, 9] (fun t8 t9 wx => ∃ k : Nat, k ≤ 8 ∧ t9 = .int .i64 k ∧ ∃ a8 c8, t8 = .slice a8 (sc + k) c8 ∧ Hid (GrI V sa sc k a8 c8 wx)) (fun _ t9 _ => 8 - (intOf t9).toNat)
              case atStart => exact ⟨0, Nat.zero_le _, rfl, sa, sc, rfl, Below.refl _ _, Or.inl ⟨rfl, rfl, rfl⟩⟩
              case round =>
                obtain ⟨k, hk, rfl, a8, c8, rfl, HK⟩ := hrel
                by_cases hltk : k < 8
                · have hltk1 : (k : Int) < 8 := by omega
                  obtain ⟨a9, c9, w9, hap, HN⟩ := HK.out.step HG5.out.2.2.1 HG5.out.2.2.2 HG5.out.2.1 hltk ({ zE with nu := -1 - (i : Int) } : Ent) #[.string ⟨#[]⟩, .slice none 0 0, .int .i64 (-1 - (i : Int)), .int .i64 0, .slice none 0 0, .string ⟨#[]⟩, .slice none 0 0] rfl
                  clear HK
                  go_wp2_with (at_builtin; refine wpList_append_run rfl (.tmp 97) (.tmp 101) 22 _ rfl hap ?_)
                  go_roundw
                  case rel => exact ⟨k + 1, hltk, by go_num, a9, c9, rfl, HN⟩
                  case measure => simp [intOf]; omega
                · have hltk1 : ¬ (k : Int) < 8 := by omega
                  obtain rfl : k = 8 := by omega
                  have HRV : Hid (RS W X K bv mk ke rm L o A A' τ v6 v7 gs w wr ∧ Below U.heap.size U wr) := ⟨HV.out.1.below HK.out.1, below_then HV.out.2 HK.out.1⟩
                  have k6' : wr.cell? ⟨X, 6, none⟩ = some (.slice (some ⟨b6, 0, none⟩) j c6) := by rw [HRV.out.1.c6.1, HE.out.1]
                  have d6'' : wr.cell? ⟨b6, i, none⟩ = some (.slice sa sc sc) := by rw [HK.out.1.cell (p := ⟨b6, i, none⟩) l6]; exact d6'
                  clear k6 d6' lX l6 HK
                  have lX := cell_lt k6'
                  have l6 := cell_lt d6''
                  go_wp2_with fail
                  go_roundw
                  case rel => exact ⟨i + 1, hlt, by go_num, HRV.out.2⟩
                  case measure => simp [intOf]; omega
            · have hlt1 : ¬ (i : Int) < j := by omega
              obtain rfl : i = j := by omega
              obtain ⟨V, rfl⟩ : ∃ V, V = wr := ⟨_, rfl⟩
              have HV : Hid (RS W X K bv mk ke rm L o A A' τ v6 v7 gs w V ∧ GW V W.heap.size gs i 0) := ⟨HRI.out, HU.out.2.below HI.out⟩
              clear HI HRI HU
              go_wp2_with fail
              go_loopw [10] (fun t wx => ∃ j : Nat, j ≤ i ∧ t = .int .i64 j ∧ V = wx) (fun t _ => i - (intOf t).toNat)
              case atStart => exact ⟨0, Nat.zero_le _, rfl, rfl⟩
              case round =>
                obtain ⟨j, hj, rfl, rfl⟩ := hrel
                by_cases hlt : j < i
                · have hlt1 : (j : Int) < i := by omega
                  obtain ⟨⟨s, s'⟩, hg⟩ : ∃ g, gs[j]? = some g := ⟨_, List.getElem?_eq_getElem (by have := HT.out.2.1; omega)⟩
                  have r6 : ERow V W.heap.size 22 1 encSl (.slice a6 i c6) (gs.map Prod.fst) := by rw [← HE.out.1]; exact HV.out.1.r6
                  obtain ⟨b6, rfl, l6, d6⟩ := sl_at r6 (map_at hg)
                  obtain ⟨sa, sn, sc⟩ := s
                  obtain ⟨hsc, xs, x1, x2, x3, _⟩ := HV.out.2 j _ hg
                  simp only at hsc x2 x3
                  subst hsc
                  have HX : Hid (NRow V W.heap.size (.slice sa sc sc) (wrt j sc)) := by
                    have := x1
                    rw [x3 hlt] at this
                    exact this
                  have d6' : V.cell? ⟨b6, j, none⟩ = some (.slice sa sc sc) := d6
                  have hs1000 : (sc : Int) ≤ 1000 := by have := HD.out.2.2 _ (List.mem_of_getElem? hg); simp only at this; omega
                  clear r6 d6 hg x1 x2 x3
                  go_wp2_with fail
                  go_loopw [11] (fun t wx => ∃ k : Nat, k ≤ sc ∧ t = .int .i64 k ∧ V = wx) (fun t _ => sc - (intOf t).toNat)
                  case atStart => exact ⟨0, Nat.zero_le _, rfl, rfl⟩
                  case round =>
                    obtain ⟨k, hk, rfl, rfl⟩ := hrel
                    by_cases hltk : k < sc
                    · have hltk1 : (k : Int) < sc := by omega
                      obtain ⟨sb, rfl, lb, hc⟩ := nrow_cells HX.out (wrt_get hltk)
                      have f2 : V.cell? ⟨sb, k * 7 + 2, none⟩ = some (.int .i64 (j : Int)) := hc.c2
                      have f3 : V.cell? ⟨sb, k * 7 + 3, none⟩ = some (.int .i64 (k : Int)) := hc.c3
                      clear hc
                      go_wp2_with fail
                      go_roundw
                      case rel => exact ⟨k + 1, hltk, by go_num, by first | rfl | trivial⟩
                      case measure => simp [intOf]; omega
                    · have hltk1 : ¬ (k : Int) < sc := by omega
                      go_wp2_with fail
                      go_roundw
                      case rel => exact ⟨j + 1, hlt, by go_num, by first | rfl | trivial⟩
                      case measure => simp [intOf]; omega
                · have hlt1 : ¬ (j : Int) < i := by omega
                  have k7 := HV.out.1.c6.2.1
                  have z6 := HV.out.1.c6.2.2.1
                  have z7 := HV.out.1.c6.2.2.2.1
                  have HZ : Hid (∃ τ', SS W X K bv mk ke rm L o A A' τ' 0 0 ((V.setCell ⟨X, 6, none⟩ (.slice none 0 0)).setCell ⟨X, 7, none⟩ (.slice none 0 0)) ∧ Off (fun q => τ q ≠ 0 ∧ τ q ≠ 4) w ((V.setCell ⟨X, 6, none⟩ (.slice none 0 0)).setCell ⟨X, 7, none⟩ (.slice none 0 0)) ∧ ∀ q, τ' q = 0 ∨ τ' q = τ q) := HV.out.1.done HT.out.2.2.2.1 HT.out.2.2.2.2.1 HT.out.2.2.2.2.2.1
                  clear HV
                  go_wp2_with fail
                  go_ret
                  exact ⟨rfl, HZ⟩
end
end Go.Proofs.YtjbkfppibnlmoaaGreatDoor
