/-
  The law WalGens, walked.
-/
import Derived.Test.YtgminfbhaclbbaaDoorWGens
namespace Go.Proofs.YtgminfbhaclbbaaDoor
open Go.RowKit Go.BigFrame

set_option maxRecDepth 100000 in
set_option maxHeartbeats 16000000 in
theorem gens_law {ao po : Option Addr} {cap m c : Nat} {xs : List Blv} {bs : List Int} (w : World) (h : Bls w ao xs) (hn : xs.length ≤ maxLen) (hp : ∀ y ∈ xs, y.pl ≤ 140737488355328 ∧ (y.po = none → y.pc = 0) ∧ ∀ z ∈ y.bs, 0 ≤ z ∧ z ≤ 255) (hb : Byts w po m bs) (hbm : m ≤ maxLen) (hpo : po = none → c = 0) (hH : Halves w) :
    Calls Tryd.prog 4 #[.slice ao xs.length cap, .slice po m c] w fun e w' => e = .returned (.bool true) ∧ Below w.heap.size w w' := by
  have HB : Hid (Bls w ao xs ∧ (∀ y ∈ xs, y.pl ≤ 140737488355328 ∧ (y.po = none → y.pc = 0) ∧ ∀ z ∈ y.bs, 0 ≤ z ∧ z ≤ 255) ∧ Halves w ∧ Byts w po m bs ∧ (po = none → c = 0)) := ⟨h, hp, hH, hb, hpo⟩
  have HG : Hid (Calls Tryd.prog 8 #[] w fun e w' => ∃ r K L, e = .returned (.tuple #[.pointer (some ⟨r, 0, none⟩), .bool true]) ∧ GnI w r K L 1 [] w') := gn_start w hH
  have HSh : Hid (∀ wx, Below w.heap.size w wx → Calls Tryd.prog 9 #[.slice ao xs.length cap] wx (ShQ xs wx)) := fun wx hb => short_any wx (h.below hb) hn (fun y hy => (hp y hy).1)
  obtain ⟨N, hN⟩ : ∃ n, xs.length = n := ⟨_, rfl⟩
  have HN : Hid (xs.length = N) := hN
  rw [hN] at hn HSh ⊢
  unfold maxLen at hn hbm
  have hni : (N : Int) ≤ 9223372036854775807 := by omega
  have hmi : (m : Int) ≤ 9223372036854775807 := by omega
  clear h hp hN hH hb hpo hn hbm
  go_enter Tryd.func4, Tryd.ntmps4
  go_wp2_with fail
  refine HG.out.mono ?_
  rintro e w1 ⟨r, K, L, rfl, hI⟩
  have HI : Hid (GnI w r K L 1 [] w1) := hI
  clear hI HG
  by_cases hm0 : m = 0
  · have p1 : ((m : Int) == 0) = true := by simp [hm0]
    have p2 : (m : Int) = 0 := by omega
    subst hm0
    go_wp2_with fail
    go_ret
    exact ⟨rfl, HI.out.bl⟩
  have p1 : ((m : Int) == 0) = false := by simp [hm0]
  have p2 : ¬ (m : Int) = 0 := by omega
  by_cases hm1 : 20000 < m
  · have p3 : decide ((20000 : Int) < m) = true := decide_eq_true (by omega)
    have p4 : (20000 : Int) < m := by omega
    go_wp2_with fail
    go_ret
    exact ⟨rfl, HI.out.bl⟩
  have p3 : decide ((20000 : Int) < m) = false := decide_eq_false (by omega)
  have p4 : ¬ (20000 : Int) < m := by omega
  go_wp2_with fail
  refine (HSh.out _ HI.out.bl).mono ?_
  rintro e w2 ⟨q, rfl, hq, hw2⟩
  rw [hw2]
  clear hw2 HSh
  cases q with
  | false =>
    clear hq
    go_wp2_with fail
    go_ret
    exact ⟨rfl, HI.out.bl⟩
  | true =>
    have HT : Hid (tot xs ≤ 4194304) := hq rfl
    have HM : Hid (0 < m ∧ m ≤ 20000) := ⟨by omega, by omega⟩
    clear hq p1 p2 p3 p4 hm0 hm1
    go_wp2_with fail
    go_loopw [7, 8, 9, 10, 11] (fun t7 _ _ _ _ wx => ∃ (k L : Nat) (sn : List Int), k ≤ N ∧ t7 = .int .i64 k ∧ Hid (GnI w r K L (k + 1) sn wx ∧ (k : Int) * 13 ≤ 4194304)) (fun t7 _ _ _ _ _ => N - (intOf t7).toNat)
    case atStart => exact ⟨0, L, [], by omega, rfl, HI.out, by omega⟩
    case round =>
      obtain ⟨k, L, sn, hk, rfl, HK⟩ := hrel
      by_cases hlt : k < N
      · have hlti : (k : Int) < N := by omega
        obtain ⟨y, hy⟩ : ∃ y, xs[k]? = some y := ⟨_, List.getElem?_eq_getElem (by have := HN.out; omega)⟩
        obtain ⟨b, off, rfl, hl, hc, hby⟩ := HB.out.1 k y hy
        have hpl := HB.out.2.1 y (List.mem_of_getElem? hy)
        have HKK : Hid (((k + 1 : Nat) : Int) * 13 ≤ 4194304) := by
          have h1 := tot_thirteen xs (k + 1) (by have := HN.out; omega)
          have h2 : tot (xs.take (k + 1)) ≤ 4194304 := Nat.le_trans (tot_le _ _) HT.out
          unfold Hid; omega
        have hki : (k : Int) ≤ 322638 := by have := HKK.out; omega
        have c1 : wr.cell? ⟨b, off + k, none⟩ = some (.slice y.po y.pl y.pc) := (HK.out.1.bl.cell (p := ⟨b, off + k, none⟩) hl).trans hc
        have HC : Hid (∀ z, Below w.heap.size w z → z.cell? ⟨b, off + k, none⟩ = some (.slice y.po y.pl y.pc)) := fun z hz => (hz.cell (p := ⟨b, off + k, none⟩) hl).trans hc
        have HBy : Hid (Byts w y.po y.pl y.bs ∧ (y.po = none → y.pc = 0) ∧ Rng y.bs) := ⟨hby, hpl.2.1, hpl.2.2⟩
        have hpi : (y.pl : Int) ≤ 140737488355328 := by have := hpl.1; omega
        have Hbl : Hid (b < w.heap.size) := hl
        obtain ⟨po', pl, pc, bs'⟩ := y
        simp only at c1 HC HBy hpi
        clear hy hl hc hby hpl
        by_cases hbig : 2097152 < pl
        · have p1 : decide ((2097152 : Int) < pl) = true := decide_eq_true (by omega)
          have p2 : (2097152 : Int) < pl := by omega
          go_wp2_with fail
          go_ret
          exact ⟨rfl, HK.out.1.bl⟩
        have p1 : decide ((2097152 : Int) < pl) = false := decide_eq_false (by omega)
        have p2 : ¬ (2097152 : Int) < pl := by omega
        have hr1 := HK.out.1.r1
        have HAp : Hid (Calls Tryd.prog 10 #[.pointer (some ⟨L, 0, none⟩), .slice po m c] wr fun e w' => e = .returned .nilIface ∧ Hid (GnA w r K L (k + 1) w') ∧ w'.cell? ⟨r, 1, none⟩ = some (.pointer (some ⟨L, 0, none⟩)) ∧ w'.cell? ⟨b, off + k, none⟩ = some (.slice po' pl pc)) := (gn_append HK.out.1 (HB.out.2.2.2.1.below HK.out.1.bl) HB.out.2.2.2.2 (HB.out.2.2.1.under' HK.out.1.bl) HM.out.1 HM.out.2).mono fun e w' ⟨he, hg⟩ => ⟨he, hg, hg.r1, HC.out _ hg.bl⟩
        have HAd : Hid (Calls Tryd.prog 10 #[.pointer (some ⟨L, 0, none⟩), .slice po m c] wr.drew fun e w' => e = .returned .nilIface ∧ Hid (GnA w r K L (k + 1) w') ∧ w'.cell? ⟨r, 1, none⟩ = some (.pointer (some ⟨L, 0, none⟩)) ∧ w'.cell? ⟨b, off + k, none⟩ = some (.slice po' pl pc)) :=
          have hI := HK.out.1.below (Below.refl _ _).drew
          (gn_append hI (HB.out.2.2.2.1.below hI.bl) HB.out.2.2.2.2 (HB.out.2.2.1.under' hI.bl) HM.out.1 HM.out.2).mono fun e w' ⟨he, hg⟩ => ⟨he, hg, hg.r1, HC.out _ hg.bl⟩
        have HCo : Hid (∀ z, GnA w r K L (k + 1) z → Calls Tryd.prog 13 #[.pointer (some ⟨L, 0, none⟩), .slice po' pl pc] z fun e w' => e = .returned .nilIface ∧ Hid (GnI w r K L (k + 1 + 1) bs' w') ∧ w'.cell? ⟨r, 1, none⟩ = some (.pointer (some ⟨L, 0, none⟩)) ∧ w'.cell? ⟨b, off + k, none⟩ = some (.slice po' pl pc)) := fun z hz => (gn_compact hz HBy.out.1 HBy.out.2.2 HBy.out.2.1 HB.out.2.2.1 (by omega) (by omega)).mono fun e w' ⟨he, hg⟩ => ⟨he, hg, hg.r1, HC.out _ hg.bl⟩
        go_wp2_with fail
        go_region_held3 (fun z => z.cell? ⟨r, 1, none⟩ = some (.pointer (some ⟨L, 0, none⟩)) ∧ z.cell? ⟨b, off + k, none⟩ = some (.slice po' pl pc)) (simp [*]) (first | (go_at_call 10; (first | refine HAp.out.mono ?_ | refine HAd.out.mono ?_); rintro e w3 ⟨rfl, HA3, a1, a2⟩) | (go_at_call 13; refine (HCo.out _ HA3.out).mono ?_; rintro e w4 ⟨rfl, HI4, b1, b2⟩))
        all_goals
          have HSt : Hid (Calls Tryd.prog 12 #[.pointer (some ⟨L, 0, none⟩)] w4 fun e w' => e = .returned (.agg #[.int .u64 ((k : Int) + 2), .int .i64 ((k : Int) % 2), .int .i64 0, .int .i64 0, .int .i64 (30 + (pl : Int))]) ∧ GnI w r K L (k + 1 + 1) bs' w') := by
            have := gn_stat HI4.out
            have hl := HBy.out.1.len
            rw [show ((k + 1 + 1 : Nat) : Int) = (k : Int) + 2 by omega, show ((k : Int) + 2) % 2 = (k : Int) % 2 by omega, show ((30 + bs'.length : Nat) : Int) = 30 + (pl : Int) by omega] at this
            exact this
          have w1' : IntKind.u64.wrap (k : Int) = k := by simp [IntKind.wrap, IntKind.bits, IntKind.signed]; omega
          have w2' : IntKind.u64.wrap ((k : Int) + 2) = (k : Int) + 2 := by simp [IntKind.wrap, IntKind.bits, IntKind.signed]; omega
          have w3' : IntKind.i64.wrap (30 + (pl : Int)) = 30 + pl := wrap_id (by omega) (by omega)
          have t2' : Int.tmod (k : Int) 2 = (k : Int) % 2 := Int.tmod_eq_emod_of_nonneg (by omega)
          have t3' : Int.tmod (k : Int) 3 = (k : Int) % 3 := Int.tmod_eq_emod_of_nonneg (by omega)
          clear a1 a2 HA3 HAp HAd HCo c1 hr1
          go_wp2_with fail
          refine HSt.out.mono ?_
          rintro e w5 ⟨rfl, hI5⟩
          obtain ⟨W5, hW5⟩ : ∃ W, w5.alloc (.cells #[.int .u64 ((k : Int) + 2), .int .i64 ((k : Int) % 2), .int .i64 0, .int .i64 0, .int .i64 (30 + (pl : Int))] 40) = W := ⟨_, rfl⟩
          have HW5 : Hid (w5.alloc (.cells #[.int .u64 ((k : Int) + 2), .int .i64 ((k : Int) % 2), .int .i64 0, .int .i64 0, .int .i64 (30 + (pl : Int))] 40) = W5) := hW5
          have HI5 : Hid (GnI w r K L (k + 1 + 1) bs' W5 ∧ ∀ q, W5.cell? ⟨w5.heap.size, q, none⟩ = (#[Value.int .u64 ((k : Int) + 2), .int .i64 ((k : Int) % 2), .int .i64 0, .int .i64 0, .int .i64 (30 + (pl : Int))] : Array Value)[q]?) := ⟨by rw [← hW5]; exact hI5.below ((Below.refl _ _).alloc (Nat.le_refl _) _), fun q => by rw [← hW5]; exact World.cell?_alloc_new _ _ _ _⟩
          have c1 : w5.cell? ⟨b, off + k, none⟩ = some (.slice po' pl pc) := HC.out _ hI5.bl
          clear hI5 hW5 b1 b2 HI4 HSt
          go_wp2_with fail
          rw [HW5.out]
          have d0 : W5.cell? ⟨w5.heap.size, 0, none⟩ = some (.int .u64 ((k : Int) + 2)) := HI5.out.2 0
          have d1 : W5.cell? ⟨w5.heap.size, 1, none⟩ = some (.int .i64 ((k : Int) % 2)) := HI5.out.2 1
          have d2 : W5.cell? ⟨w5.heap.size, 2, none⟩ = some (.int .i64 0) := HI5.out.2 2
          have d3 : W5.cell? ⟨w5.heap.size, 3, none⟩ = some (.int .i64 0) := HI5.out.2 3
          have d4 : W5.cell? ⟨w5.heap.size, 4, none⟩ = some (.int .i64 (30 + (pl : Int))) := HI5.out.2 4
          have c2 : W5.cell? ⟨b, off + k, none⟩ = some (.slice po' pl pc) := HC.out _ HI5.out.1.bl
          clear c1 HW5
          go_region_held3 (fun z => z.cell? ⟨w5.heap.size, 0, none⟩ = some (.int .u64 ((k : Int) + 2)) ∧ z.cell? ⟨w5.heap.size, 1, none⟩ = some (.int .i64 ((k : Int) % 2)) ∧ z.cell? ⟨w5.heap.size, 2, none⟩ = some (.int .i64 0) ∧ z.cell? ⟨w5.heap.size, 3, none⟩ = some (.int .i64 0) ∧ z.cell? ⟨w5.heap.size, 4, none⟩ = some (.int .i64 (30 + (pl : Int))) ∧ z.cell? ⟨b, off + k, none⟩ = some (.slice po' pl pc)) (simp [*]) (fail)
          obtain ⟨W6, hW6⟩ : ∃ W, W5.drew = W := ⟨_, rfl⟩
          have b56 : Below W5.heap.size W5 W6 := by rw [← hW6]; exact (Below.refl _ _).drew
          rw [hW6]
          have HI6 : Hid (GnI w r K L (k + 1 + 1) bs' W6 ∧ w5.heap.size < W6.heap.size ∧ ∀ q v, (#[Value.int .u64 ((k : Int) + 2), .int .i64 ((k : Int) % 2), .int .i64 0, .int .i64 0, .int .i64 (30 + (pl : Int))] : Array Value)[q]? = some v → W6.cell? ⟨w5.heap.size, q, none⟩ = some v) := ⟨HI5.out.1.below b56, Nat.lt_of_lt_of_le (cell_lt d0) b56.size, fun q v hv => below_cell b56 ((HI5.out.2 q).trans hv)⟩
          clear d0 d1 d2 d3 d4 c2 hW6 HI5 b56
          by_cases h3 : (k : Int) % 3 = 2
          · have h3b : (((k : Int) % 3) == 2) = true := by simp [h3]
            have c0 := HI6.out.1.r0
            go_wp2_with fail
            refine (gn_open HI6.out.1 HB.out.2.2.1).mono ?_
            rintro e w7 ⟨L', a, n, kk, v0, v1, na, ns, nc, he, hl7, hn7, hby7, hb7, hL7, hf7⟩
            have hlen := HBy.out.1.len
            obtain rfl : n = pl := by omega
            rw [show ((k + 1 + 1 : Nat) : Int) = (k : Int) + 2 by omega] at he
            subst he
            obtain ⟨W8, hW8⟩ : ∃ W, w7.alloc (.cells #[.int .u64 ((k : Int) + 2), .slice a n kk, .slice none 0 0, .int .i64 0] 44) = W := ⟨_, rfl⟩
            have HW8 : Hid (w7.alloc (.cells #[.int .u64 ((k : Int) + 2), .slice a n kk, .slice none 0 0, .int .i64 0] 44) = W8) := hW8
            have b78 : Below w7.heap.size w7 W8 := by rw [← hW8]; exact (Below.refl _ _).alloc (Nat.le_refl _) _
            have b68 : Below W6.heap.size W6 W8 := below_then hb7 b78
            have p8 : ∀ q, W8.cell? ⟨w7.heap.size, q, none⟩ = (#[Value.int .u64 ((k : Int) + 2), .slice a n kk, .slice none 0 0, .int .i64 0] : Array Value)[q]? := fun q => by rw [← hW8]; exact World.cell?_alloc_new _ _ _ _
            have HI8 : Hid (GnI w r K L (k + 1 + 1) bs' W6 ∧ Below W6.heap.size W6 W8 ∧ Lg W8 w.heap.size K L' v0 v1 (sgG (((k + 1 + 1 : Nat) : Int) % 2) (headB ((k + 1 + 1 : Nat) : Int) ++ recB bs') na ns nc) false ((k + 1 + 1 : Nat) : Int) (((k + 1 + 1 : Nat) : Int) % 2) 0 0 ((30 + bs'.length : Nat) : Int) ∧ W6.heap.size ≤ L' ∧ ¬ Foot K v0 v1 r) := ⟨HI6.out.1, b68, hl7.below b78, hL7, hf7⟩
            have HBB : Hid (Byts W8 a n bs') := hby7.below b78
            have HCS : Hid (∀ z, Below W8.heap.size W8 z → z.cell? ⟨w5.heap.size, 0, none⟩ = some (.int .u64 ((k : Int) + 2)) ∧ z.cell? ⟨w5.heap.size, 1, none⟩ = some (.int .i64 ((k : Int) % 2)) ∧ z.cell? ⟨w5.heap.size, 2, none⟩ = some (.int .i64 0) ∧ z.cell? ⟨w5.heap.size, 3, none⟩ = some (.int .i64 0) ∧ z.cell? ⟨w5.heap.size, 4, none⟩ = some (.int .i64 (30 + (n : Int))) ∧ z.cell? ⟨b, off + k, none⟩ = some (.slice po' n pc) ∧ z.cell? ⟨w7.heap.size, 0, none⟩ = some (.int .u64 ((k : Int) + 2)) ∧ z.cell? ⟨w7.heap.size, 1, none⟩ = some (.slice a n kk) ∧ z.cell? ⟨w7.heap.size, 2, none⟩ = some (.slice none 0 0)) := fun z hz =>
              have hxz := below_then b68 hz
              ⟨below_cell hxz (HI6.out.2.2 0 _ rfl), below_cell hxz (HI6.out.2.2 1 _ rfl), below_cell hxz (HI6.out.2.2 2 _ rfl), below_cell hxz (HI6.out.2.2 3 _ rfl), below_cell hxz (HI6.out.2.2 4 _ rfl), HC.out z (below_then HI6.out.1.bl hxz), below_cell hz (p8 0), below_cell hz (p8 1), below_cell hz (p8 2)⟩
            have HSm : Hid (∀ z, Below W8.heap.size W8 z → Calls Tryd.prog 15 #[.slice a n kk, .slice po' n pc] z fun e w' => e = .returned (.bool true) ∧ Below W8.heap.size W8 w' ∧ w'.cell? ⟨w5.heap.size, 0, none⟩ = some (.int .u64 ((k : Int) + 2)) ∧ w'.cell? ⟨w5.heap.size, 1, none⟩ = some (.int .i64 ((k : Int) % 2)) ∧ w'.cell? ⟨w5.heap.size, 2, none⟩ = some (.int .i64 0) ∧ w'.cell? ⟨w5.heap.size, 3, none⟩ = some (.int .i64 0) ∧ w'.cell? ⟨w5.heap.size, 4, none⟩ = some (.int .i64 (30 + (n : Int))) ∧ w'.cell? ⟨b, off + k, none⟩ = some (.slice po' n pc) ∧ w'.cell? ⟨w7.heap.size, 0, none⟩ = some (.int .u64 ((k : Int) + 2)) ∧ w'.cell? ⟨w7.heap.size, 1, none⟩ = some (.slice a n kk) ∧ w'.cell? ⟨w7.heap.size, 2, none⟩ = some (.slice none 0 0)) := fun z hz => (same_true (HBB.out.below hz) (HBy.out.1.below (below_then HI6.out.1.bl (below_then b68 hz))) (by omega)).mono fun e w' ⟨he, q, hq⟩ =>
              have hb' : Below W8.heap.size W8 w' := by rw [hq]; exact hz.trans ⟨rfl, rfl, rfl, Nat.le_refl _, fun _ _ => rfl⟩
              ⟨he, hb', HCS.out _ hb'⟩
            have HSt : Hid (∀ z, Below W8.heap.size W8 z → Calls Tryd.prog 12 #[.pointer (some ⟨L', 0, none⟩)] z fun e w' => e = .returned (.agg #[.int .u64 ((k : Int) + 2), .int .i64 ((k : Int) % 2), .int .i64 0, .int .i64 0, .int .i64 (30 + (n : Int))]) ∧ Below W8.heap.size W8 w' ∧ w'.cell? ⟨w5.heap.size, 0, none⟩ = some (.int .u64 ((k : Int) + 2)) ∧ w'.cell? ⟨w5.heap.size, 1, none⟩ = some (.int .i64 ((k : Int) % 2)) ∧ w'.cell? ⟨w5.heap.size, 2, none⟩ = some (.int .i64 0) ∧ w'.cell? ⟨w5.heap.size, 3, none⟩ = some (.int .i64 0) ∧ w'.cell? ⟨w5.heap.size, 4, none⟩ = some (.int .i64 (30 + (n : Int))) ∧ w'.cell? ⟨b, off + k, none⟩ = some (.slice po' n pc) ∧ w'.cell? ⟨w7.heap.size, 0, none⟩ = some (.int .u64 ((k : Int) + 2)) ∧ w'.cell? ⟨w7.heap.size, 1, none⟩ = some (.slice a n kk) ∧ w'.cell? ⟨w7.heap.size, 2, none⟩ = some (.slice none 0 0)) := fun z hz => by
              have := lStat (HI8.out.2.2.1.below hz)
              rw [show ((k + 1 + 1 : Nat) : Int) = (k : Int) + 2 by omega, show ((k : Int) + 2) % 2 = (k : Int) % 2 by omega, show ((30 + bs'.length : Nat) : Int) = 30 + (n : Int) by omega] at this
              exact this.mono fun e w' ⟨he, hb'⟩ => ⟨he, below_then hz hb', HCS.out _ (below_then hz hb')⟩
            have hB8 : Below W8.heap.size W8 W8 := Below.refl _ _
            obtain ⟨d0, d1, d2, d3, d4, d5, d6, d7, d8⟩ := HCS.out W8 hB8
            clear hl7 hn7 hby7 hb7 hL7 hf7 hlen b78 b68 p8 hW8 HI6
            go_wp2_with fail
            rw [HW8.out]
            go_region_held3 (fun z => z.cell? ⟨w5.heap.size, 0, none⟩ = some (.int .u64 ((k : Int) + 2)) ∧ z.cell? ⟨w5.heap.size, 1, none⟩ = some (.int .i64 ((k : Int) % 2)) ∧ z.cell? ⟨w5.heap.size, 2, none⟩ = some (.int .i64 0) ∧ z.cell? ⟨w5.heap.size, 3, none⟩ = some (.int .i64 0) ∧ z.cell? ⟨w5.heap.size, 4, none⟩ = some (.int .i64 (30 + (n : Int))) ∧ z.cell? ⟨b, off + k, none⟩ = some (.slice po' n pc) ∧ z.cell? ⟨w7.heap.size, 0, none⟩ = some (.int .u64 ((k : Int) + 2)) ∧ z.cell? ⟨w7.heap.size, 1, none⟩ = some (.slice a n kk) ∧ z.cell? ⟨w7.heap.size, 2, none⟩ = some (.slice none 0 0)) (simp [*]) (first | (go_at_call 15; refine (HSm.out _ ?_).mono ?_; (first | assumption | exact Below.drew (by assumption)); rintro e wp ⟨rfl, hp1, f0, f1, f2, f3, f4, f5, f6, f7, f8⟩) | (go_at_call 12; refine (HSt.out _ ?_).mono ?_; (first | assumption | exact Below.drew (by assumption)); rintro e wq ⟨rfl, hq1, g0, g1, g2, g3, g4, g5, g6, g7, g8⟩))
            all_goals
              have b9 : Below W6.heap.size W6 wq := below_then HI8.out.2.1 hq1
              have HF : Hid (GnI w r K L' (k + 1 + 1) bs' (wq.setCell ⟨r, 1, none⟩ (.pointer (some ⟨L', 0, none⟩)))) := gn_name HI8.out.1 b9 (HI8.out.2.2.1.below hq1) HI8.out.2.2.2.1 HI8.out.2.2.2.2
              have rc := below_cell b9 HI8.out.1.r1
              have rz : wq.frozen? ⟨r, 1, none⟩ = false := (b9.frozen (p := ⟨r, 1, none⟩) (cell_lt HI8.out.1.r1)).trans (HI8.out.1.rf 1)
              go_wp2_with fail
              go_roundw
              case rel => exact ⟨k + 1, L', bs', by omega, by go_num, HF.out, HKK.out⟩
              case measure => simp [intOf]; omega
          · have h3b : (((k : Int) % 3) == 2) = false := by simp [h3]
            go_wp2_with fail
            go_roundw
            case rel => exact ⟨k + 1, L, bs', by omega, by go_num, HI6.out.1, HKK.out⟩
            case measure => simp [intOf]; omega
      · have hlti : ¬ (k : Int) < N := by omega
        go_wp2_with fail
        go_ret
        exact ⟨rfl, HK.out.1.bl⟩
/-- The law, as its row hands the arguments. -/
theorem gens_all {ao po : Option Addr} {cap m c : Nat} {xs : List Blv} {bs : List Int} (w : World) (h : Bls w ao xs) (hn : xs.length ≤ maxLen) (hp : ∀ y ∈ xs, y.pl ≤ 140737488355328 ∧ (y.po = none → y.pc = 0) ∧ ∀ z ∈ y.bs, 0 ≤ z ∧ z ≤ 255) (hb : Byts w po m bs) (hbm : m ≤ maxLen) (hpo : po = none → c = 0) (_ : m ≤ c) (_ : m ≤ 140737488355328) (_ : ∀ z ∈ bs, 0 ≤ z ∧ z ≤ 255) (hH : Halves w) :
    Calls Tryd.prog 4 #[.slice ao xs.length cap, .slice po m c] w fun e w' => e = .returned (.bool true) ∧ Below w.heap.size w w' := gens_law w h hn hp hb hbm hpo hH
end Go.Proofs.YtgminfbhaclbbaaDoor
