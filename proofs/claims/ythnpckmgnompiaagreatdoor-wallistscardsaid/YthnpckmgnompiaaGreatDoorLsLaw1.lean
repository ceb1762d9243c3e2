/-
  The law WalLists, walked.
-/
import Derived.Test.YthnpckmgnompiaaGreatDoorLsFin5
namespace Go.Proofs.YthnpckmgnompiaaGreatDoor
open Go.RowKit Go.BigFrame

theorem take_set {zs bs : List Int} {k : Nat} (h : zs.take k = bs.take k) (h1 : k < zs.length) (h2 : k < bs.length) : (zs.set k (bs.getD k 0)).take (k + 1) = bs.take (k + 1) := by
  rw [List.take_add_one, List.take_add_one, List.getElem?_set_self h1, List.getElem?_eq_getElem h2]
  have e : (zs.set k (bs.getD k 0)).take k = zs.take k := by rw [List.take_set, List.set_eq_of_length_le (by simp; omega)]
  rw [e, h]
  simp [List.getD, h2]
set_option maxRecDepth 100000 in
set_option maxHeartbeats 16000000 in
theorem lists_law {ao so : Option Addr} {cap m sc : Nat} {xs : List Blv} {sn : List Int} (w : World) (hs : Byts w so m sn) (hsr : Rng sn) (hso : so = none → sc = 0) (hm : m ≤ 140737488355328) (h : Bls w ao xs) (hn : xs.length ≤ maxLen) (hp : ∀ y ∈ xs, y.pl ≤ 140737488355328 ∧ (y.po = none → y.pc = 0) ∧ Rng y.bs) (hH : Halves w) (hE : ErrType w) :
    Calls Tryz.prog 3 #[.slice so m sc, .slice ao xs.length cap] w fun e w' => e = .returned (.bool true) ∧ Below w.heap.size w w' := by
  obtain ⟨N, hN⟩ : ∃ n, xs.length = n := ⟨_, rfl⟩
  have b1 : Below w.heap.size w (w.alloc (.cells #[.slice none 0 0, .int .i64 0, .slice none 0 0, .int .i64 0, .int .i64 1, .int .i64 (-1), .int .i64 0, .int .i64 0, .int .i64 0] 72)) := (Below.refl _ _).alloc (Nat.le_refl _) _
  obtain ⟨a1, k1, y, e1, r1, b2⟩ := run_copied (hs.below b1) hso hm
  have HB : Hid (Bls w ao xs ∧ (∀ y ∈ xs, y.pl ≤ 140737488355328 ∧ (y.po = none → y.pc = 0) ∧ Rng y.bs) ∧ Halves w ∧ ErrType w ∧ Byts w so m sn ∧ Rng sn ∧ xs.length = N) := ⟨h, hp, hH, hE, hs, hsr, hN⟩
  have HY : Hid (Below (w.alloc (.cells #[.slice none 0 0, .int .i64 0, .slice none 0 0, .int .i64 0, .int .i64 1, .int .i64 (-1), .int .i64 0, .int .i64 0, .int .i64 0] 72)).heap.size (w.alloc (.cells #[.slice none 0 0, .int .i64 0, .slice none 0 0, .int .i64 0, .int .i64 1, .int .i64 (-1), .int .i64 0, .int .i64 0, .int .i64 0] 72)) y ∧ Row y (w.alloc (.cells #[.slice none 0 0, .int .i64 0, .slice none 0 0, .int .i64 0, .int .i64 1, .int .i64 (-1), .int .i64 0, .int .i64 0, .int .i64 0] 72)).heap.size (.slice a1 m k1) sn ∧ DskS (w.alloc (.cells #[.slice none 0 0, .int .i64 0, .slice none 0 0, .int .i64 0, .int .i64 1, .int .i64 (-1), .int .i64 0, .int .i64 0, .int .i64 0] 72)) w.heap.size w.heap.size (.slice none 0 0) (.slice none 0 0) sgN ∧ Below w.heap.size w y) := ⟨b2, r1, dsk_new w, below_then b1 b2⟩
  rw [hN] at hn ⊢
  unfold maxLen at hn
  have hni : (N : Int) ≤ 9223372036854775807 := by omega
  rw [World.size_alloc] at e1
  clear h hp hH hE hs hsr hN b1 b2 r1 hn
  go_enter Tryz.func3, Tryz.ntmps3
  go_wp2_with fail
  refine (New_any w).mono ?_
  rintro _ w1 ⟨rfl, hw1⟩
  rw [hw1]
  clear hw1
  go_wp2_with (at_builtin; refine wpList_append_run rfl (.tmp 25) (.tmp 26) 22 _ rfl e1 ?_)
  clear e1
  rcases Nat.lt_or_ge 2097152 m with hl | hl
  · have hl1 : (2097152 : Int) < m := by omega
    refine (lFormat_long (HY.out.2.2.1.under HY.out.1) hl).mono ?_
    rintro _ w2 ⟨ev, rfl, b, rfl, hF, hb⟩
    have HC : Hid (Calls Tryz.prog 6 #[.iface 86 (.pointer (some ⟨b, 0, none⟩))] w2 fun e w' => e = .returned (.int .i64 4) ∧ Below w2.heap.size w2 w') := code_fault w2 (errType_below HB.out.2.2.2.1 (below_then HY.out.2.2.2 hb)) hF rfl rfl
    have HD : Hid (Below w.heap.size w w2) := below_then HY.out.2.2.2 hb
    clear hF hb
    go_wp2_with fail
    refine HC.out.mono ?_
    rintro _ w3 ⟨rfl, hb3⟩
    have HF : Hid (Below w.heap.size w w3) := below_then HD.out hb3
    clear hb3 HC HD
    go_wp2_with fail
    go_ret
    exact ⟨rfl, HF.out⟩
  · refine (fm_ok HY.out.1 HY.out.2.1 hl HB.out.2.2.1).mono ?_
    rintro _ w2 ⟨u0, u1, rfl, hd, hb⟩
    have hG : LlG sn [] := LlG.nil (by have := HB.out.2.2.2.2.1.len; omega) HB.out.2.2.2.2.2.1
    have HO : Hid (Calls Tryz.prog 7 #[.pointer (some ⟨w.heap.size, 0, none⟩)] w2 (LlO w2 w.heap.size w.heap.size u0 u1 sn [])) := ll_open hd hb.size (HB.out.2.2.1.under hb) hG (by simp [sizes])
    have HD : Hid (DskS w2 w.heap.size w.heap.size u0 u1 (sgL sn [] (30 + sn.length) 1 1 2) ∧ Below w.heap.size w w2 ∧ LlG sn []) := ⟨hd, hb, hG⟩
    clear hd hb hG HY
    go_wp2_with fail
    refine HO.out.mono ?_
    rintro _ w3 ⟨z0, z1, na, ns, nc, L, a2, n2, k2, v2, vs2, hst, rfl, hlg, _, hvr, hpc, hL, _⟩
    obtain ⟨aw, kw, hv2⟩ : ∃ aw kw, v2 = .slice aw 0 kw := by
      obtain ⟨aw, kw, e, _⟩ := hvr.isSlice
      rw [hpc.1] at e
      exact ⟨aw, kw, e⟩
    subst hv2
    obtain ⟨w4, hmk, hR, hb4⟩ := run_make_bytes (w := w3.alloc (.cells #[.int .u64 1, .slice a2 n2 k2, .slice aw 0 kw, .int .i64 0] 33)) 20001 (by omega)
    rw [show ((20001 : Nat) : Int) = 20001 from rfl] at hmk
    simp only [World.size_alloc] at hmk hR hb4
    have HL : Hid (Lg w3 w.heap.size w.heap.size L z0 z1 (sgL sn [] (30 + sn.length + sizes []) na ns nc) false 1 1 ([] : List (List Int)).length 0 ((30 + sn.length + sizes [] : Nat) : Int) ∧ Below w.heap.size w w3) := ⟨hlg, HD.out.2.1.trans (hst.off.below HD.out.2.1.size (fun q hq => (HD.out.1.foot_lt hq).1))⟩
    have HW : Hid (WlI w w.heap.size L (w3.heap.size + 1) sn [] [] (.slice none 0 0) [] w4 ∧ Below w.heap.size w w4) := by
      have b34 : Below w3.heap.size w3 w4 := below_then ((Below.refl w3.heap.size w3).alloc (Nat.le_refl _) _) (by rw [World.size_alloc]; exact hb4)
      have hLl := HL.out.1.lt
      have hsz := HL.out.2.size
      exact ⟨⟨⟨z0, z1, na, ns, nc, _, 0, HL.out.1.below b34, Int.le_refl _, by simp, Nat.le_refl _, fun q hq => ⟨by have := (HL.out.1.d.foot_lt hq).2; omega, (fun e => by cases e), (fun j u hu => by simp at hu)⟩⟩, below_then HL.out.2 b34, ⟨_, hR.base (by omega)⟩, VRow.nil _ _ _, Rws.nil _ _, ⟨by omega, (fun e => by cases e), (fun j u hu => by simp at hu)⟩, ⟨(fun e => by cases e), (fun j u hu => by simp at hu)⟩, HD.out.2.2⟩, below_then HL.out.2 b34⟩
    clear hst hlg hL HO hvr hpc hR hb4 HL
    go_wp2_with fail
    clear hmk
    obtain ⟨R, hR⟩ : ∃ R, w3.heap.size + 1 = R := ⟨_, rfl⟩
    rw [hR] at HW ⊢
    go_loopw [10, 11, 12, 13, 14] (fun t10 t11 _ _ _ wx => ∃ (i : Nat) (av : Option Addr) (nv cv : Nat), i ≤ N ∧ t11 = .int .i64 i ∧ t10 = .slice av nv cv ∧ Hid (∃ rs vs, WlI w w.heap.size L R sn rs rs (.slice av nv cv) vs wx)) (fun _ t11 _ _ _ _ => N - (intOf t11).toNat)
    case atStart => exact ⟨0, none, 0, 0, Nat.zero_le _, rfl, rfl, [], [], HW.out.1⟩
    case round =>
      obtain ⟨i, av, nv, cv, hi, rfl, rfl, HI⟩ := hrel
      clear HW
      by_cases hlt : i < N
      · have hlt1 : (i : Int) < N := by omega
        obtain ⟨rs, vs, hI⟩ := HI.out
        obtain ⟨y, hy⟩ : ∃ y, xs[i]? = some y := ⟨_, List.getElem?_eq_getElem (by have := HB.out.2.2.2.2.2.2; omega)⟩
        obtain ⟨b, off, rfl, hbl, hc, hby⟩ := HB.out.1 i y hy
        have hpl := HB.out.2.1 y (List.mem_of_getElem? hy)
        obtain ⟨po, pl, pc, bs⟩ := y
        simp only at hc hby hpl
        have hplm := hpl.1
        have HA : Hid (∀ y, Below w.heap.size w y → y.cell? ⟨b, off + i, none⟩ = some (.slice po pl pc) ∧ Byts y po pl bs) := fun y hy => ⟨(hy.cell (p := ⟨b, off + i, none⟩) hbl).trans hc, hby.below hy⟩
        have HP : Hid ((po = none → pc = 0) ∧ Rng bs) := hpl.2
        have HJ : Hid (WlI w w.heap.size L R sn rs rs (.slice av nv cv) vs wr) := hI
        have c1 := (HA.out _ hI.bl).1
        clear hI HI hy hbl hc hby hpl
        rcases Nat.lt_or_ge 20000 pl with hbig | hbig
        · have hbig1 : (20000 : Int) < pl := by omega
          go_wp2_with fail
          clear c1
          go_loopw [13] (fun t13 wx => ∃ k : Nat, k ≤ 20001 ∧ t13 = .int .i64 k ∧ Hid (WlI w w.heap.size L R sn rs rs (.slice av nv cv) vs wx ∧ ∃ zs, Row wx w.heap.size (.slice (some ⟨R, 0, none⟩) 20001 20001) zs ∧ zs.take k = bs.take k)) (fun t13 _ => 20001 - (intOf t13).toNat)
          case atStart =>
            obtain ⟨zs, hz⟩ := HJ.out.rm
            exact ⟨0, Nat.zero_le _, rfl, HJ.out, zs, hz, rfl⟩
          case round =>
            obtain ⟨k, hk, rfl, HK⟩ := hrel
            obtain ⟨hW, zs, hz, ht⟩ := HK.out
            have c1 := (HA.out _ hW.bl).1
            have hzl := hz.len
            by_cases hkl : k < 20001
            · have hkl1 : (k : Int) < 20001 := by omega
              have hbl := (HA.out _ hW.bl).2.len
              obtain ⟨b', o', hpo, _, hcell⟩ := (HA.out _ hW.bl).2.cell k (by omega)
              subst hpo
              have q1 : wr.cell? ⟨R, k, none⟩ = some (.int .u8 (zs.getD k 0)) := hz.slot (by omega)
              have q2 := hz.thaw k
              have HN : Hid (WlI w w.heap.size L R sn rs rs (.slice av nv cv) vs (wr.setCell ⟨R, k, none⟩ (.int .u8 (bs.getD k 0))) ∧ ∃ zs, Row (wr.setCell ⟨R, k, none⟩ (.int .u8 (bs.getD k 0))) w.heap.size (.slice (some ⟨R, 0, none⟩) 20001 20001) zs ∧ zs.take (k + 1) = bs.take (k + 1)) := ⟨hW.room k _, _, hz.stored k _, take_set ht (by omega) (by omega)⟩
              clear hW hz ht hzl hbl HK
              go_wp2_with fail
              go_roundw
              case rel => exact ⟨k + 1, hkl, by go_num, HN.out⟩
              case measure => simp [intOf]; omega
            · have hkl1 : ¬ (k : Int) < 20001 := by omega
              obtain rfl : k = 20001 := by omega
              have HW2 : Hid (WlI w w.heap.size L R sn rs rs (.slice av nv cv) vs wr ∧ Row wr w.heap.size (.slice (some ⟨R, 0, none⟩) 20001 20001) (bs.take 20001)) := ⟨hW, by rw [← ht]; exact hz.prefix (by omega)⟩
              clear hW hz ht hzl HK
              go_wp2_with fail
              refine (wl_bad HW2.out.1 (by omega)).mono ?_
              rintro _ w5 ⟨u, rfl, ⟨bb, rfl, _, _⟩, hW5⟩
              have HW5 : Hid (WlI w w.heap.size L R sn rs rs (.slice av nv cv) vs w5) := hW5
              clear hW5
              go_wp2_with fail
              go_roundw
              case rel => exact ⟨i + 1, av, nv, cv, hlt, by go_num, rfl, rs, vs, HW5.out⟩
              case measure => simp [intOf]; omega
        · have hbig1 : ¬ (20000 : Int) < pl := by omega
          go_wp2_with fail
          clear c1
          go_loopw [13] (fun t13 wx => ∃ k : Nat, k ≤ pl ∧ t13 = .int .i64 k ∧ Hid (WlI w w.heap.size L R sn rs rs (.slice av nv cv) vs wx ∧ ∃ zs, Row wx w.heap.size (.slice (some ⟨R, 0, none⟩) 20001 20001) zs ∧ zs.take k = bs.take k)) (fun t13 _ => pl - (intOf t13).toNat)
          case atStart =>
            obtain ⟨zs, hz⟩ := HJ.out.rm
            exact ⟨0, Nat.zero_le _, rfl, HJ.out, zs, hz, rfl⟩
          case round =>
            obtain ⟨k, hk, rfl, HK⟩ := hrel
            obtain ⟨hW, zs, hz, ht⟩ := HK.out
            have c1 := (HA.out _ hW.bl).1
            have hzl := hz.len
            by_cases hkl : k < pl
            · have hkl1 : (k : Int) < pl := by omega
              have hbl := (HA.out _ hW.bl).2.len
              obtain ⟨b', o', hpo, _, hcell⟩ := (HA.out _ hW.bl).2.cell k (by omega)
              subst hpo
              have q1 : wr.cell? ⟨R, k, none⟩ = some (.int .u8 (zs.getD k 0)) := hz.slot (by omega)
              have q2 := hz.thaw k
              have HN : Hid (WlI w w.heap.size L R sn rs rs (.slice av nv cv) vs (wr.setCell ⟨R, k, none⟩ (.int .u8 (bs.getD k 0))) ∧ ∃ zs, Row (wr.setCell ⟨R, k, none⟩ (.int .u8 (bs.getD k 0))) w.heap.size (.slice (some ⟨R, 0, none⟩) 20001 20001) zs ∧ zs.take (k + 1) = bs.take (k + 1)) := ⟨hW.room k _, _, hz.stored k _, take_set ht (by omega) (by omega)⟩
              clear hW hz ht hzl hbl HK
              go_wp2_with fail
              go_roundw
              case rel => exact ⟨k + 1, hkl, by go_num, HN.out⟩
              case measure => simp [intOf]; omega
            · have hkl1 : ¬ (k : Int) < pl := by omega
              obtain rfl : pl = k := by omega
              have HW2 : Hid (WlI w w.heap.size L R sn rs rs (.slice av nv cv) vs wr ∧ Row wr w.heap.size (.slice (some ⟨R, 0, none⟩) pl 20001) (bs.take pl)) := ⟨hW, by rw [← ht]; exact hz.prefix (by omega)⟩
              clear hW hz ht hzl HK
              go_wp2_with fail
              have hbt : bs.take pl = bs := List.take_of_length_le (by have := (HA.out _ HW2.out.1.bl).2.len; omega)
              rw [hbt] at HW2
              clear hbt
              rcases (by omega : pl = 0 ∨ 0 < pl) with hp0 | hp0
              · have hp1 : ¬ (0 : Int) < pl := by omega
                have hp2 : decide ((0 : Int) < pl) = false := decide_eq_false hp1
                refine (wl_bad HW2.out.1 (Or.inl hp0)).mono ?_
                rintro _ w5 ⟨u, rfl, ⟨bb, rfl, _, _⟩, hW5⟩
                have HW5 : Hid (WlI w w.heap.size L R sn rs rs (.slice av nv cv) vs w5) := hW5
                clear hW5
                go_wp2_with fail
                go_roundw
                case rel => exact ⟨i + 1, av, nv, cv, hlt, by go_num, rfl, rs, vs, HW5.out⟩
                case measure => simp [intOf]; omega
              · have hp1 : (0 : Int) < pl := by omega
                have hp2 : decide ((0 : Int) < pl) = true := decide_eq_true hp1
                have hp3 : (pl : Int) ≤ 20000 := by omega
                have hp4 : decide ((pl : Int) ≤ 20000) = true := decide_eq_true hp3
                by_cases hfit : 30 + sn.length + sizes rs + (pl + 13) ≤ 16777216
                · refine (wl_append HW2.out.1 HW2.out.2.asByts HP.out.2 (fun e => by cases e) HB.out.2.2.1 hp0 hbig hfit).mono ?_
                  rintro _ w5 ⟨rfl, hW5⟩
                  have c5 : (w5.alloc (.cells #[] 5)).cell? ⟨b, off + i, none⟩ = some (.slice po pl pc) := by rw [World.cell?_alloc_lt _ _ ⟨b, off + i, none⟩ (cell_lt (HA.out _ hW5.bl).1)]; exact (HA.out _ hW5.bl).1
                  obtain ⟨a6, k6, w6, e6, r6, b6⟩ := run_copied (HA.out _ hW5.bl).2 HP.out.1 hplm
                  obtain ⟨a7, n7, c7, w7, e7, hW7⟩ := wl_push hW5 b6 r6 (by have := len_sizes rs; omega)
                  have HW7 : Hid (WlI w w.heap.size L R sn (rs ++ [bs]) (rs ++ [bs]) (.slice a7 n7 c7) (vs ++ [.slice a6 pl k6]) w7) := hW7
                  clear hW5 hW7 r6 b6 c1
                  go_wp2_with (at_builtin; first | refine wpList_append_run rfl (.tmp 99) (.tmp 103) 22 _ rfl e6 ?_ | refine wpList_append_run rfl (.tmp 98) (.tmp 105) 23 _ rfl e7 ?_)
                  go_roundw
                  case rel => exact ⟨i + 1, a7, n7, c7, hlt, by go_num, rfl, _, _, HW7.out⟩
                  case measure => simp [intOf]; omega
                · refine (wl_full HW2.out.1 hp0 hbig (by omega)).mono ?_
                  rintro _ w5 ⟨u, rfl, ⟨bb, rfl, hF, _⟩, hW5⟩
                  have HC : Hid (Calls Tryz.prog 6 #[.iface 86 (.pointer (some ⟨bb, 0, none⟩))] w5 fun e w' => e = .returned (.int .i64 7) ∧ Hid (WlI w w.heap.size L R sn rs rs (.slice av nv cv) vs w')) := (code_fault w5 (errType_below HB.out.2.2.2.1 hW5.bl) hF rfl rfl).mono fun e w' ⟨he, hb⟩ => ⟨he, hW5.under hb⟩
                  clear hW5 hF
                  go_wp2_with fail
                  refine HC.out.mono ?_
                  rintro _ w6 ⟨rfl, HW6⟩
                  go_wp2_with fail
                  go_roundw
                  case rel => exact ⟨i + 1, av, nv, cv, hlt, by go_num, rfl, rs, vs, HW6.out⟩
                  case measure => simp [intOf]; omega
      · have hlt1 : ¬ (i : Int) < N := by omega
        obtain ⟨rs, vs, hI⟩ := HI.out
        obtain rfl : nv = rs.length := by have h1 := hI.vr.len; have h2 := hI.rw.len; omega
        have HWa : Hid (type_of% (wa_start (c1 := .slice so m sc) hI)) := wa_start hI
        have HZ : Hid (rs.length ≤ 16777216 ∧ (∀ (j : Nat) (d : List Int), rs[j]? = some d → d.length ≤ 20000)) := ⟨by have := len_sizes rs; have := hI.gd.sz; omega, fun j d hd => (hI.gd.gd d (List.mem_of_getElem? hd)).2.1⟩
        have HSM : Hid (sn.length = m) := HB.out.2.2.2.2.1.len
        clear HI hI
        go_wp2_with fail
        refine wp_loop_rounds 3 ?_
        obtain ⟨WB, hWB⟩ : ∃ x, wr.heap.size = x := ⟨_, rfl⟩
        rw [hWB] at HWa ⊢
        have HE0 : Hid (([] : List Ent).length ≤ 0) := Nat.le_refl 0

        rw [rounds_succ]
        go_wp2_with fail
        refine (wa_open2 HWa.out HB.out.2.2.1).mono ?_
        rintro _ w51 ⟨L1, a1, k1, al1, c1, us1, rfl, hJ1, hr1, hz1, hu1⟩
        have bA1 : Below w51.heap.size w51 (w51.alloc (.cells #[.int .u64 1, .slice a1 sn.length k1, .slice al1 rs.length c1, .int .i64 0] 33)) := (Below.refl _ _).alloc (Nat.le_refl _) _
        have hJ21 := hJ1.under bA1
        have q01 : (w51.alloc (.cells #[.int .u64 1, .slice a1 sn.length k1, .slice al1 rs.length c1, .int .i64 0] 33)).cell? ⟨WB, 0, none⟩ = some (.int .u64 1) := hJ21.i.wc 0
        have q11 : (w51.alloc (.cells #[.int .u64 1, .slice a1 sn.length k1, .slice al1 rs.length c1, .int .i64 0] 33)).cell? ⟨WB, 1, none⟩ = some (.slice so m sc) := hJ21.i.wc 1
        have q21 : (w51.alloc (.cells #[.int .u64 1, .slice a1 sn.length k1, .slice al1 rs.length c1, .int .i64 0] 33)).cell? ⟨WB, 2, none⟩ = some (.slice av rs.length cv) := hJ21.i.wc 2
        have q31 : (w51.alloc (.cells #[.int .u64 1, .slice a1 sn.length k1, .slice al1 rs.length c1, .int .i64 0] 33)).cell? ⟨WB, 3, none⟩ = some (.int .i64 0) := hJ21.i.wc 3
        have HS1 : Hid (Calls Tryz.prog 9 #[.agg #[.int .u64 1, .slice a1 sn.length k1, .slice al1 rs.length c1, .int .i64 0], .agg #[.int .u64 1, .slice so m sc, .slice av rs.length cv, .int .i64 0]] (w51.alloc (.cells #[.int .u64 1, .slice a1 sn.length k1, .slice al1 rs.length c1, .int .i64 0] 33)) fun e w' => e = .returned (.bool true) ∧ Below (w51.alloc (.cells #[.int .u64 1, .slice a1 sn.length k1, .slice al1 rs.length c1, .int .i64 0] 33)).heap.size (w51.alloc (.cells #[.int .u64 1, .slice a1 sn.length k1, .slice al1 rs.length c1, .int .i64 0] 33)) w') := by
          have := HB.out.2.2.2.2.1.below hJ21.i.bl
          rw [← HSM.out] at this ⊢
          exact sameReplay_true (hr1.keep fun g hg => bA1.block g (hr1.lt hg).2).asByts this (by have := HSM.out; omega) hJ21.lr hJ21.ur.pcs hJ21.i.vr hJ21.i.rw.pcs HZ.out.1 HZ.out.2
        have HJ1 : Hid (WaJ w w.heap.size WB (WB + 1) (fun j => (#[.int .u64 1, .slice so m sc, .slice av rs.length cv, .int .i64 0] : Array Value)[j]?) sn rs (.slice av rs.length cv) vs (fun k => if k = WB + 1 then 1 else 0) [] (.slice none 0 0) [] (.slice a1 sn.length k1) (.slice al1 rs.length c1) us1 (w51.alloc (.cells #[.int .u64 1, .slice a1 sn.length k1, .slice al1 rs.length c1, .int .i64 0] 33)) ∧ Row (w51.alloc (.cells #[.int .u64 1, .slice a1 sn.length k1, .slice al1 rs.length c1, .int .i64 0] 33)) w.heap.size (.slice a1 sn.length k1) sn) := ⟨hJ21, hr1.keep fun g hg => bA1.block g (hr1.lt hg).2⟩
        have HR1 : Hid ((fun k => if k = WB + 1 then 1 else 0) w51.heap.size = 0 ∧ w51.heap.size < (w51.alloc (.cells #[.int .u64 1, .slice a1 sn.length k1, .slice al1 rs.length c1, .int .i64 0] 33)).heap.size ∧ (w51.alloc (.cells #[.int .u64 1, .slice a1 sn.length k1, .slice al1 rs.length c1, .int .i64 0] 33)).cell? ⟨w51.heap.size, 1, none⟩ = some (.slice a1 sn.length k1) ∧ (w51.alloc (.cells #[.int .u64 1, .slice a1 sn.length k1, .slice al1 rs.length c1, .int .i64 0] 33)).cell? ⟨w51.heap.size, 2, none⟩ = some (.slice al1 rs.length c1)) := ⟨(hJ1.i.apt (Nat.le_refl _)).1, by simp, World.cell?_alloc_new _ _ _ _, World.cell?_alloc_new _ _ _ _⟩
        have HQ1 : Hid ((∀ q, (Value.slice a1 sn.length k1).ownBlock = some q → (fun k => if k = WB + 1 then 1 else 0) q = 0 ∧ Apt WB (.slice av rs.length cv) vs (.slice none 0 0) [] q) ∧ ∀ (j : Nat) (u : Value), us1[j]? = some u → ∀ q, u.ownBlock = some q → (Value.slice a1 sn.length k1).ownBlock ≠ some q) := ⟨hz1, hu1⟩
        clear hJ1 hJ21 hr1 bA1 hz1 hu1
        go_wp2_with fail
        refine HS1.out.mono ?_
        rintro _ w61 ⟨rfl, hb61⟩
        have c11 : w61.cell? ⟨w51.heap.size, 1, none⟩ = some (.slice a1 sn.length k1) := (hb61.cell (p := ⟨w51.heap.size, 1, none⟩) HR1.out.2.1).trans HR1.out.2.2.1
        have HC1 : Hid (w61.cell? ⟨w51.heap.size, 2, none⟩ = some (.slice al1 rs.length c1) ∧ w51.heap.size < w61.heap.size) := ⟨(hb61.cell (p := ⟨w51.heap.size, 2, none⟩) HR1.out.2.1).trans HR1.out.2.2.2, Nat.lt_of_lt_of_le HR1.out.2.1 hb61.size⟩
        have HK1 : Hid (WaJ w w.heap.size WB (WB + 1) (fun j => (#[.int .u64 1, .slice so m sc, .slice av rs.length cv, .int .i64 0] : Array Value)[j]?) sn rs (.slice av rs.length cv) vs (fun k => if k = WB + 1 then 1 else 0) [] (.slice none 0 0) [] (.slice a1 sn.length k1) (.slice al1 rs.length c1) us1 w61 ∧ Row w61 w.heap.size (.slice a1 sn.length k1) sn) := ⟨HJ1.out.1.under hb61, HJ1.out.2.keep fun g hg => hb61.block g (HJ1.out.2.lt hg).2⟩
        clear hb61 HS1 HJ1 q01 q11 q21 q31
        go_wp2_with fail
        clear c11
        refine (wa_take HK1.out.1 HK1.out.2 HQ1.out.1 HQ1.out.2 (by have := HE0.out; have := HZ.out.1; simp only [List.length_nil] at *; omega)).mono ?_
        rintro _ w71 ⟨rfl, rh1, was1, hJ71, o71⟩
        have c21 : w71.cell? ⟨w51.heap.size, 2, none⟩ = some (.slice al1 rs.length c1) := (o71.cell (p := ⟨w51.heap.size, 2, none⟩) HC1.out.2 (fun p => by have h0 := HR1.out.1; rcases p with p | p | p <;> exact absurd (h0.symm.trans p) (by decide))).trans HC1.out.1
        have HL1 : Hid (type_of% hJ71) := hJ71
        clear o71 HK1 HC1 hJ71
        go_wp2_with fail
        clear c21
        refine (wa_recs HL1.out (by simp) (by have := HE0.out; have := HZ.out.1; simp only [List.length_append, List.length_cons, List.length_nil] at *; omega)).mono ?_
        rintro _ w81 ⟨rfl, rho1, es21, rv1, hI81, hl81⟩
        obtain ⟨E1, hE1⟩ : ∃ e, [] ++ [⟨.slice a1 sn.length k1, was1, sn, sn⟩] ++ es21 = e := ⟨_, rfl⟩
        rw [hE1] at hI81
        have HE1 : Hid (E1.length ≤ 16777217) := (by have := HE0.out; have := HZ.out.1; rw [← hE1]; simp only [List.length_append, List.length_cons, List.length_nil] at *; omega : E1.length ≤ 16777217)
        have HW1 : Hid (type_of% hI81) := hI81
        have HX1 : Hid (∀ q, (Value.slice al1 rs.length c1).ownBlock = some q → Apt WB (.slice av rs.length cv) vs (.slice none 0 0) [] q) := fun q e => (HL1.out.z q (Or.inl e)).2
        clear hI81 HL1 hE1 hl81 HR1 HQ1
        go_wp2_with fail

        rw [rounds_succ]
        go_wp2_with fail
        refine (wa_open2 HW1.out HB.out.2.2.1).mono ?_
        rintro _ w52 ⟨L2, a2, k2, al2, c2, us2, rfl, hJ2, hr2, hz2, hu2⟩
        have bA2 : Below w52.heap.size w52 (w52.alloc (.cells #[.int .u64 1, .slice a2 sn.length k2, .slice al2 rs.length c2, .int .i64 0] 33)) := (Below.refl _ _).alloc (Nat.le_refl _) _
        have hJ22 := hJ2.under bA2
        have q02 : (w52.alloc (.cells #[.int .u64 1, .slice a2 sn.length k2, .slice al2 rs.length c2, .int .i64 0] 33)).cell? ⟨WB, 0, none⟩ = some (.int .u64 1) := hJ22.i.wc 0
        have q12 : (w52.alloc (.cells #[.int .u64 1, .slice a2 sn.length k2, .slice al2 rs.length c2, .int .i64 0] 33)).cell? ⟨WB, 1, none⟩ = some (.slice so m sc) := hJ22.i.wc 1
        have q22 : (w52.alloc (.cells #[.int .u64 1, .slice a2 sn.length k2, .slice al2 rs.length c2, .int .i64 0] 33)).cell? ⟨WB, 2, none⟩ = some (.slice av rs.length cv) := hJ22.i.wc 2
        have q32 : (w52.alloc (.cells #[.int .u64 1, .slice a2 sn.length k2, .slice al2 rs.length c2, .int .i64 0] 33)).cell? ⟨WB, 3, none⟩ = some (.int .i64 0) := hJ22.i.wc 3
        have HS2 : Hid (Calls Tryz.prog 9 #[.agg #[.int .u64 1, .slice a2 sn.length k2, .slice al2 rs.length c2, .int .i64 0], .agg #[.int .u64 1, .slice so m sc, .slice av rs.length cv, .int .i64 0]] (w52.alloc (.cells #[.int .u64 1, .slice a2 sn.length k2, .slice al2 rs.length c2, .int .i64 0] 33)) fun e w' => e = .returned (.bool true) ∧ Below (w52.alloc (.cells #[.int .u64 1, .slice a2 sn.length k2, .slice al2 rs.length c2, .int .i64 0] 33)).heap.size (w52.alloc (.cells #[.int .u64 1, .slice a2 sn.length k2, .slice al2 rs.length c2, .int .i64 0] 33)) w') := by
          have := HB.out.2.2.2.2.1.below hJ22.i.bl
          rw [← HSM.out] at this ⊢
          exact sameReplay_true (hr2.keep fun g hg => bA2.block g (hr2.lt hg).2).asByts this (by have := HSM.out; omega) hJ22.lr hJ22.ur.pcs hJ22.i.vr hJ22.i.rw.pcs HZ.out.1 HZ.out.2
        have HJ2 : Hid (WaJ w w.heap.size WB (WB + 1) (fun j => (#[.int .u64 1, .slice so m sc, .slice av rs.length cv, .int .i64 0] : Array Value)[j]?) sn rs (.slice av rs.length cv) vs rho1 E1 rv1 [.slice al1 rs.length c1] (.slice a2 sn.length k2) (.slice al2 rs.length c2) us2 (w52.alloc (.cells #[.int .u64 1, .slice a2 sn.length k2, .slice al2 rs.length c2, .int .i64 0] 33)) ∧ Row (w52.alloc (.cells #[.int .u64 1, .slice a2 sn.length k2, .slice al2 rs.length c2, .int .i64 0] 33)) w.heap.size (.slice a2 sn.length k2) sn) := ⟨hJ22, hr2.keep fun g hg => bA2.block g (hr2.lt hg).2⟩
        have HR2 : Hid (rho1 w52.heap.size = 0 ∧ w52.heap.size < (w52.alloc (.cells #[.int .u64 1, .slice a2 sn.length k2, .slice al2 rs.length c2, .int .i64 0] 33)).heap.size ∧ (w52.alloc (.cells #[.int .u64 1, .slice a2 sn.length k2, .slice al2 rs.length c2, .int .i64 0] 33)).cell? ⟨w52.heap.size, 1, none⟩ = some (.slice a2 sn.length k2) ∧ (w52.alloc (.cells #[.int .u64 1, .slice a2 sn.length k2, .slice al2 rs.length c2, .int .i64 0] 33)).cell? ⟨w52.heap.size, 2, none⟩ = some (.slice al2 rs.length c2)) := ⟨(hJ2.i.apt (Nat.le_refl _)).1, by simp, World.cell?_alloc_new _ _ _ _, World.cell?_alloc_new _ _ _ _⟩
        have HQ2 : Hid ((∀ q, (Value.slice a2 sn.length k2).ownBlock = some q → rho1 q = 0 ∧ Apt WB (.slice av rs.length cv) vs rv1 [.slice al1 rs.length c1] q) ∧ ∀ (j : Nat) (u : Value), us2[j]? = some u → ∀ q, u.ownBlock = some q → (Value.slice a2 sn.length k2).ownBlock ≠ some q) := ⟨hz2, hu2⟩
        clear hJ2 hJ22 hr2 bA2 hz2 hu2
        go_wp2_with fail
        refine HS2.out.mono ?_
        rintro _ w62 ⟨rfl, hb62⟩
        have c12 : w62.cell? ⟨w52.heap.size, 1, none⟩ = some (.slice a2 sn.length k2) := (hb62.cell (p := ⟨w52.heap.size, 1, none⟩) HR2.out.2.1).trans HR2.out.2.2.1
        have HC2 : Hid (w62.cell? ⟨w52.heap.size, 2, none⟩ = some (.slice al2 rs.length c2) ∧ w52.heap.size < w62.heap.size) := ⟨(hb62.cell (p := ⟨w52.heap.size, 2, none⟩) HR2.out.2.1).trans HR2.out.2.2.2, Nat.lt_of_lt_of_le HR2.out.2.1 hb62.size⟩
        have HK2 : Hid (WaJ w w.heap.size WB (WB + 1) (fun j => (#[.int .u64 1, .slice so m sc, .slice av rs.length cv, .int .i64 0] : Array Value)[j]?) sn rs (.slice av rs.length cv) vs rho1 E1 rv1 [.slice al1 rs.length c1] (.slice a2 sn.length k2) (.slice al2 rs.length c2) us2 w62 ∧ Row w62 w.heap.size (.slice a2 sn.length k2) sn) := ⟨HJ2.out.1.under hb62, HJ2.out.2.keep fun g hg => hb62.block g (HJ2.out.2.lt hg).2⟩
        clear hb62 HS2 HJ2 q02 q12 q22 q32
        go_wp2_with fail
        clear c12
        refine (wa_take HK2.out.1 HK2.out.2 HQ2.out.1 HQ2.out.2 (by have := HE1.out; have := HZ.out.1; simp only [List.length_nil] at *; omega)).mono ?_
        rintro _ w72 ⟨rfl, rh2, was2, hJ72, o72⟩
        have c22 : w72.cell? ⟨w52.heap.size, 2, none⟩ = some (.slice al2 rs.length c2) := (o72.cell (p := ⟨w52.heap.size, 2, none⟩) HC2.out.2 (fun p => by have h0 := HR2.out.1; rcases p with p | p | p <;> exact absurd (h0.symm.trans p) (by decide))).trans HC2.out.1
        have HL2 : Hid (type_of% hJ72) := hJ72
        clear o72 HK2 HC2 hJ72
        go_wp2_with fail
        clear c22
        refine (wa_recs HL2.out (by simp) (by have := HE1.out; have := HZ.out.1; simp only [List.length_append, List.length_cons, List.length_nil] at *; omega)).mono ?_
        rintro _ w82 ⟨rfl, rho2, es22, rv2, hI82, hl82⟩
        obtain ⟨E2, hE2⟩ : ∃ e, E1 ++ [⟨.slice a2 sn.length k2, was2, sn, sn⟩] ++ es22 = e := ⟨_, rfl⟩
        rw [hE2] at hI82
        have HE2 : Hid (E2.length ≤ 33554434) := (by have := HE1.out; have := HZ.out.1; rw [← hE2]; simp only [List.length_append, List.length_cons, List.length_nil] at *; omega : E2.length ≤ 33554434)
        have HW2 : Hid (type_of% hI82) := hI82
        have HX2 : Hid (∀ q, (Value.slice al2 rs.length c2).ownBlock = some q → Apt WB (.slice av rs.length cv) vs rv1 [.slice al1 rs.length c1] q) := fun q e => (HL2.out.z q (Or.inl e)).2
        clear hI82 HL2 hE2 hl82 HR2 HQ2
        go_wp2_with fail

        rw [rounds_succ]
        go_wp2_with fail
        refine (wa_alone HW2.out (fun q e e' => (HX2.out q e').2.2.2.2 (.slice al1 rs.length c1) (by simp) e) (by have := HE2.out; omega)).mono ?_
        rintro _ w9 ⟨rfl, hE9⟩
        have HE9 : Hid (type_of% hE9) := hE9
        clear hE9 HW2 HX2 HX1 HE2 HE1 HE0
        go_wp2_with fail
        refine (wa_last HE9.out HB.out.2.2.1).mono ?_
        rintro _ w10 ⟨L3, a3, k3, al3, c3, us3, rfl, hr3, hv3, hp3, hbl3, hwl3, hwc3, hvr3, hpc3⟩
        have bA3 : Below w10.heap.size w10 (w10.alloc (.cells #[.int .u64 1, .slice a3 sn.length k3, .slice al3 rs.length c3, .int .i64 0] 33)) := (Below.refl _ _).alloc (Nat.le_refl _) _
        have hw0 : ∀ j, (w10.alloc (.cells #[.int .u64 1, .slice a3 sn.length k3, .slice al3 rs.length c3, .int .i64 0] 33)).cell? ⟨WB, j, none⟩ = (fun j => (#[.int .u64 1, .slice so m sc, .slice av rs.length cv, .int .i64 0] : Array Value)[j]?) j := fun j => (bA3.cell (p := ⟨WB, j, none⟩) hwl3).trans (hwc3 j)
        have q03 : (w10.alloc (.cells #[.int .u64 1, .slice a3 sn.length k3, .slice al3 rs.length c3, .int .i64 0] 33)).cell? ⟨WB, 0, none⟩ = some (.int .u64 1) := hw0 0
        have q13 : (w10.alloc (.cells #[.int .u64 1, .slice a3 sn.length k3, .slice al3 rs.length c3, .int .i64 0] 33)).cell? ⟨WB, 1, none⟩ = some (.slice so m sc) := hw0 1
        have q23 : (w10.alloc (.cells #[.int .u64 1, .slice a3 sn.length k3, .slice al3 rs.length c3, .int .i64 0] 33)).cell? ⟨WB, 2, none⟩ = some (.slice av rs.length cv) := hw0 2
        have q33 : (w10.alloc (.cells #[.int .u64 1, .slice a3 sn.length k3, .slice al3 rs.length c3, .int .i64 0] 33)).cell? ⟨WB, 3, none⟩ = some (.int .i64 0) := hw0 3
        have HS3 : Hid (Calls Tryz.prog 9 #[.agg #[.int .u64 1, .slice a3 sn.length k3, .slice al3 rs.length c3, .int .i64 0], .agg #[.int .u64 1, .slice so m sc, .slice av rs.length cv, .int .i64 0]] (w10.alloc (.cells #[.int .u64 1, .slice a3 sn.length k3, .slice al3 rs.length c3, .int .i64 0] 33)) fun e w' => e = .returned (.bool true) ∧ Below (w10.alloc (.cells #[.int .u64 1, .slice a3 sn.length k3, .slice al3 rs.length c3, .int .i64 0] 33)).heap.size (w10.alloc (.cells #[.int .u64 1, .slice a3 sn.length k3, .slice al3 rs.length c3, .int .i64 0] 33)) w') := by
          have := HB.out.2.2.2.2.1.below (below_then hbl3 bA3)
          rw [← HSM.out] at this ⊢
          exact sameReplay_true (hr3.keep fun g hg => bA3.block g (hr3.lt hg).2).asByts this (by have := HSM.out; omega) (hv3.keep fun g hg => bA3.block g (hv3.lt hg).2) (hp3.below bA3) (hvr3.keep fun g hg => bA3.block g (hvr3.lt hg).2) (hpc3.below bA3) HZ.out.1 HZ.out.2
        have HF3 : Hid (Below w.heap.size w (w10.alloc (.cells #[.int .u64 1, .slice a3 sn.length k3, .slice al3 rs.length c3, .int .i64 0] 33))) := below_then hbl3 bA3
        clear hr3 hv3 hp3 hbl3 hwl3 hwc3 hvr3 hpc3 bA3 hw0
        go_wp2_with fail
        refine HS3.out.mono ?_
        rintro _ w11 ⟨rfl, hb11⟩
        have HF4 : Hid (Below w.heap.size w w11) := below_then HF3.out hb11
        clear hb11 HS3 HF3
        go_wp2_with fail
        go_ret
        exact ⟨rfl, HF4.out⟩

end Go.Proofs.YthnpckmgnompiaaGreatDoor
