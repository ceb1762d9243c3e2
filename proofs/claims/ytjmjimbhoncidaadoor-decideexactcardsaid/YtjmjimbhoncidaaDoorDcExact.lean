/-
  DecideExact: the walk.
-/
import Derived.Test.YtjmjimbhoncidaaDoorDcEx4
namespace Go.Proofs.YtjmjimbhoncidaaDoor
open Go.RowKit

set_option maxRecDepth 100000 in
set_option maxHeartbeats 40000000 in
theorem exact_law (D : DecC) (ao : Option Addr) (cap : Nat) (xs : List AskV) (w : World) (hV : PVc w) (hA : Asks w ao xs) (hn : xs.length ≤ 1353245080300) : Calls Tryd.prog 11 #[.slice ao xs.length cap] w fun r w' => r = .returned (.bool true) ∧ Below w.heap.size w w' := by
  have HV : Hid (PVc w ∧ Asks w ao xs) := ⟨hV, hA⟩
  obtain ⟨n, hl⟩ : ∃ n, xs.length = n := ⟨_, rfl⟩
  rw [hl] at hn ⊢
  have HL : Hid (xs.length = n) := hl
  have HN : Hid (n ≤ 1353245080300) := hn
  have hn2 : (n : Int) ≤ 1353245080300 := by omega
  clear hV hA hl hn
  go_enter Tryd.func11, Tryd.ntmps11
  go_wp2_with fail
  go_loopw [3, 4] (fun t3 t4 wx => ∃ (i : Nat) (rho : Nat → Nat) (es : List Ent) (va : Option Addr) (vc : Nat), i ≤ n ∧ t4 = .int .i64 i ∧ t3 = .slice va (3 * i) vc ∧ Hid (HX w.heap.size rho (.slice va (3 * i) vc) es wx ∧ Below w.heap.size w wx ∧ es.length = 3 * i ∧ ∀ y ∈ es, y.k = y.l)) (fun _ t4 _ => n - (intOf t4).toNat)
  case atStart => exact ⟨0, fun _ => 0, [], none, 0, Nat.zero_le _, rfl, rfl, HX.nil _ _, Below.refl _ _, rfl, fun y hy => by cases hy⟩
  case round =>
    obtain ⟨i, rho, es, va, vc, hi, rfl, ht3, HI⟩ := hrel
    subst ht3
    by_cases hlt : i < n
    · have hlt1 : (i : Int) < n := by omega
      go_wp2_with fail
      go_loopw [3, 5] (fun t3 t5 wx => ∃ (k : Nat) (rho : Nat → Nat) (es : List Ent) (va : Option Addr) (vc : Nat), k ≤ 3 ∧ t5 = .int .i64 k ∧ t3 = .slice va (3 * i + k) vc ∧ Hid (HX w.heap.size rho (.slice va (3 * i + k) vc) es wx ∧ Below w.heap.size w wx ∧ es.length = 3 * i + k ∧ ∀ y ∈ es, y.k = y.l)) (fun _ t5 _ => 3 - (intOf t5).toNat)
      case atStart => exact ⟨0, rho, es, va, vc, Nat.zero_le _, rfl, rfl, HI⟩
      case round =>
        clear HI
        obtain ⟨k, rho, es, va, vc, hk, rfl, ht3, HI⟩ := hrel
        subst ht3
        obtain ⟨m, hm⟩ : ∃ m, 3 * i + k = m := ⟨_, rfl⟩
        have HM : Hid (3 * i + k = m) := hm
        rw [hm] at HI
        simp only [hm]
        clear hm
        by_cases hk3 : k < 3
        · have HAs : Hid (Asks wr ao xs) := HV.out.2.below HI.out.2.1
          obtain ⟨y, hy⟩ : ∃ y, xs[i]? = some y := ⟨_, List.getElem?_eq_getElem (by rw [HL.out]; omega)⟩
          obtain ⟨ab, af, ae, al, c0, c1, c2, c3, c4, c5, c6, c7, c8, c9, c10⟩ := HAs.out i _ hy
          subst ae
          by_cases hk1 : k = 1
          · obtain ⟨i2, hi2⟩ : ∃ i2, (i + 1) % n = i2 := ⟨_, rfl⟩
            have hi2n : i2 < n := by rw [← hi2]; exact Nat.mod_lt _ (by omega)
            have hr2 : ((i : Int) + 1) % (n : Int) = (i2 : Int) := by rw [← hi2]; norm_cast
            have hi2i : (i2 : Int) < n := by omega
            clear hi2
            obtain ⟨yz, hyz⟩ : ∃ y, xs[i2]? = some y := ⟨_, List.getElem?_eq_getElem (by rw [HL.out]; omega)⟩
            obtain ⟨abz, afz, aez, alz, cz0, cz1, cz2, cz3, cz4, cz5, cz6, cz7, cz8, cz9, cz10⟩ := HAs.out i2 _ hyz
            obtain ⟨rfl, rfl⟩ : abz = ab ∧ afz = af := by simpa using aez.symm
            subst hk1
            have ca := asked_any D yz.kd yz.e yz.a yz.p yz.st yz.lf yz.d yz.c yz.n yz.on yz.s
            go_wp2_with fail
            refine (ca _ (HV.out.1.below (HI.out.2.1.alloc HI.out.2.1.size _))).mono ?_
            rintro _ w1 ⟨q1, q2, l, rfl, HR⟩
            obtain ⟨qa1, qc1, hq1, -⟩ := HR.one.isSlice
            obtain ⟨qa2, qc2, hq2, -⟩ := HR.two.isSlice
            obtain ⟨ln, hln⟩ : ∃ ln, l.length = ln := ⟨_, rfl⟩
            rw [hln] at hq1 hq2
            subst hq1 hq2
            have HA1 : Hid (AskR (wr.alloc (.cells #[.int .i64 yz.kd, .bool yz.e, .int .i64 yz.a, .int .i64 yz.p, .int .i64 yz.st, .int .i64 yz.lf, .bool yz.d, .string yz.c, .int .i64 yz.n, .bool yz.on, .string yz.s] 94)) (.slice qa1 ln qc1) (.slice qa2 ln qc2) l w1) := HR
            clear HR ca hln
            go_wp2_with fail
            refine (same_true HA1.out.one.acts HA1.out.two.acts (by have := HA1.out.len; omega)).mono ?_
            rintro _ W1 ⟨rfl, dr, hW1⟩
            have HA2 : AskR (wr.alloc (.cells #[.int .i64 yz.kd, .bool yz.e, .int .i64 yz.a, .int .i64 yz.p, .int .i64 yz.st, .int .i64 yz.lf, .bool yz.d, .string yz.c, .int .i64 yz.n, .bool yz.on, .string yz.s] 94)) (.slice qa1 ln qc1) (.slice qa2 ln qc2) l W1 := by rw [hW1]; exact HA1.out.below (below_drewN (Below.refl _ _) dr)
            clear hW1 HA1
            have HX0 : HX w.heap.size rho (.slice va m vc) es (wr.alloc (.cells #[.int .i64 yz.kd, .bool yz.e, .int .i64 yz.a, .int .i64 yz.p, .int .i64 yz.st, .int .i64 yz.lf, .bool yz.d, .string yz.c, .int .i64 yz.n, .bool yz.on, .string yz.s] 94)) := HI.out.1.below ((Below.refl _ _).alloc (Nat.le_refl _) _)
            have HX1 : HX w.heap.size rho (.slice va m vc) es W1 := HX0.below HA2.bel
            have hsz : w.heap.size ≤ W1.heap.size := Nat.le_trans (Nat.le_trans HI.out.2.1.size (by simp)) HA2.bel.size
            have hml : (es.map fun y => (y.v, y.m)).length = m := by rw [List.length_map, HI.out.2.2.1]
            obtain ⟨a3, c3, w2, e3, r3, p3⟩ := run_hpush HX1.row hsz (by rw [hml]; have := HM.out; have := HN.out; omega) (.slice qa1 ln qc1, .slice qa2 ln qc2) (one_slice HA2.one) (one_slice HA2.two)
            obtain ⟨rho', h'⟩ := HX0.push (by have := HI.out.2.1.size; simp; omega) HA2 r3 p3
            rw [hml] at e3 r3 h'
            have HN2 : Hid (HX w.heap.size rho' (.slice a3 (m + 1) c3) (es ++ [⟨.slice qa1 ln qc1, .slice qa2 ln qc2, l, l⟩]) w2 ∧ Below w.heap.size w w2 ∧ (es ++ [(⟨.slice qa1 ln qc1, .slice qa2 ln qc2, l, l⟩ : Ent)]).length = m + 1 ∧ ∀ y ∈ es ++ [(⟨.slice qa1 ln qc1, .slice qa2 ln qc2, l, l⟩ : Ent)], y.k = y.l) := by
              refine ⟨h', ?_, by rw [List.length_append, HI.out.2.2.1]; rfl, fun y hy => ?_⟩
              · exact ((below_then (HI.out.2.1.alloc HI.out.2.1.size _) HA2.bel).alloc hsz _).trans (p3.below (by simp; omega) (fun g hg => (World.ownsRow.lt HX1.row g hg).1))
              · rcases List.mem_append.1 hy with k | k
                · exact HI.out.2.2.2 y k
                · obtain rfl : y = ⟨.slice qa1 ln qc1, .slice qa2 ln qc2, l, l⟩ := by simpa using k
                  rfl
            have e4 : (Builtin.append_ #[92, 92] 92 #[.slice va m vc, .slice (some ⟨W1.heap.size, 0, none⟩) 1 1]).run Tryd.prog (W1.alloc (.cells #[.slice qa1 ln qc1, .slice qa2 ln qc2] 98)) = .ok (.slice a3 (m + 1) c3) w2 := e3
            clear e3 r3 p3 h' HX0 HX1 hsz hml HA2
            go_wp2_with (at_builtin; refine wpList_append_run rfl (.tmp 51) (.tmp 55) 92 _ rfl e4 ?_)
            go_roundw
            case rel => exact ⟨2, rho', _, a3, c3, by omega, by go_num, by first | (rw [← HM.out]; rfl) | rw [← HM.out], by have := HM.out; rw [← this] at HN2; exact HN2⟩
            case measure => simp [intOf]
          · have hk1i : ((k : Int) == 1) = false := by simp; omega
            have hk3i : (k : Int) < 3 := by omega
            have ca := asked_any D y.kd y.e y.a y.p y.st y.lf y.d y.c y.n y.on y.s
            go_wp2_with fail
            refine (ca _ (HV.out.1.below (HI.out.2.1.alloc HI.out.2.1.size _))).mono ?_
            rintro _ w1 ⟨q1, q2, l, rfl, HR⟩
            obtain ⟨qa1, qc1, hq1, -⟩ := HR.one.isSlice
            obtain ⟨qa2, qc2, hq2, -⟩ := HR.two.isSlice
            obtain ⟨ln, hln⟩ : ∃ ln, l.length = ln := ⟨_, rfl⟩
            rw [hln] at hq1 hq2
            subst hq1 hq2
            have HA1 : Hid (AskR (wr.alloc (.cells #[.int .i64 y.kd, .bool y.e, .int .i64 y.a, .int .i64 y.p, .int .i64 y.st, .int .i64 y.lf, .bool y.d, .string y.c, .int .i64 y.n, .bool y.on, .string y.s] 94)) (.slice qa1 ln qc1) (.slice qa2 ln qc2) l w1) := HR
            clear HR ca hln
            go_wp2_with fail
            refine (same_true HA1.out.one.acts HA1.out.two.acts (by have := HA1.out.len; omega)).mono ?_
            rintro _ W1 ⟨rfl, dr, hW1⟩
            have HA2 : AskR (wr.alloc (.cells #[.int .i64 y.kd, .bool y.e, .int .i64 y.a, .int .i64 y.p, .int .i64 y.st, .int .i64 y.lf, .bool y.d, .string y.c, .int .i64 y.n, .bool y.on, .string y.s] 94)) (.slice qa1 ln qc1) (.slice qa2 ln qc2) l W1 := by rw [hW1]; exact HA1.out.below (below_drewN (Below.refl _ _) dr)
            clear hW1 HA1
            have HX0 : HX w.heap.size rho (.slice va m vc) es (wr.alloc (.cells #[.int .i64 y.kd, .bool y.e, .int .i64 y.a, .int .i64 y.p, .int .i64 y.st, .int .i64 y.lf, .bool y.d, .string y.c, .int .i64 y.n, .bool y.on, .string y.s] 94)) := HI.out.1.below ((Below.refl _ _).alloc (Nat.le_refl _) _)
            have HX1 : HX w.heap.size rho (.slice va m vc) es W1 := HX0.below HA2.bel
            have hsz : w.heap.size ≤ W1.heap.size := Nat.le_trans (Nat.le_trans HI.out.2.1.size (by simp)) HA2.bel.size
            have hml : (es.map fun y => (y.v, y.m)).length = m := by rw [List.length_map, HI.out.2.2.1]
            obtain ⟨a3, c3, w2, e3, r3, p3⟩ := run_hpush HX1.row hsz (by rw [hml]; have := HM.out; have := HN.out; omega) (.slice qa1 ln qc1, .slice qa2 ln qc2) (one_slice HA2.one) (one_slice HA2.two)
            obtain ⟨rho', h'⟩ := HX0.push (by have := HI.out.2.1.size; simp; omega) HA2 r3 p3
            rw [hml] at e3 r3 h'
            have HN2 : Hid (HX w.heap.size rho' (.slice a3 (m + 1) c3) (es ++ [⟨.slice qa1 ln qc1, .slice qa2 ln qc2, l, l⟩]) w2 ∧ Below w.heap.size w w2 ∧ (es ++ [(⟨.slice qa1 ln qc1, .slice qa2 ln qc2, l, l⟩ : Ent)]).length = m + 1 ∧ ∀ y ∈ es ++ [(⟨.slice qa1 ln qc1, .slice qa2 ln qc2, l, l⟩ : Ent)], y.k = y.l) := by
              refine ⟨h', ?_, by rw [List.length_append, HI.out.2.2.1]; rfl, fun y hy => ?_⟩
              · exact ((below_then (HI.out.2.1.alloc HI.out.2.1.size _) HA2.bel).alloc hsz _).trans (p3.below (by simp; omega) (fun g hg => (World.ownsRow.lt HX1.row g hg).1))
              · rcases List.mem_append.1 hy with k | k
                · exact HI.out.2.2.2 y k
                · obtain rfl : y = ⟨.slice qa1 ln qc1, .slice qa2 ln qc2, l, l⟩ := by simpa using k
                  rfl
            have e4 : (Builtin.append_ #[92, 92] 92 #[.slice va m vc, .slice (some ⟨W1.heap.size, 0, none⟩) 1 1]).run Tryd.prog (W1.alloc (.cells #[.slice qa1 ln qc1, .slice qa2 ln qc2] 98)) = .ok (.slice a3 (m + 1) c3) w2 := e3
            clear e3 r3 p3 h' HX0 HX1 hsz hml HA2
            go_wp2_with (at_builtin; refine wpList_append_run rfl (.tmp 51) (.tmp 55) 92 _ rfl e4 ?_)
            go_roundw
            case rel => exact ⟨k + 1, rho', _, a3, c3, by omega, by go_num, by first | (rw [← HM.out]; rfl) | rw [← HM.out], by have := HM.out; rw [← this] at HN2; exact HN2⟩
            case measure => simp [intOf]; omega
        · obtain rfl : k = 3 := by omega
          go_wp2_with fail
          go_roundw
          case rel => exact ⟨i + 1, rho, es, va, vc, by omega, by go_num, by rw [← HM.out]; rfl, by have := HM.out; rw [← this] at HI; exact HI⟩
          case measure => simp [intOf]; omega
    · obtain rfl : i = n := by omega
      obtain ⟨N, hN⟩ : ∃ N, 3 * i = N := ⟨_, rfl⟩
      have HNN : Hid (3 * i = N) := hN
      rw [hN] at HI
      simp only [hN]
      clear hN
      go_wp2_with fail
      have HE : Hid (es.length = N ∧ N ≤ 4059735240900 ∧ ∀ y ∈ es, y.k = y.l) := ⟨HI.out.2.2.1, by have := HNN.out; have := HN.out; omega, HI.out.2.2.2⟩
      have hN2 : (N : Int) ≤ 4059735240900 := by have := HE.out.2.1; omega
      have H0 : Hid (HX w.heap.size rho (.slice va N vc) es wr ∧ Below w.heap.size w wr) := ⟨HI.out.1, HI.out.2.1⟩
      clear HI hlt
      go_loopw [9] (fun t9 wx => ∃ j : Nat, j ≤ N ∧ t9 = .int .i64 j ∧ Hid (HX w.heap.size rho (.slice va N vc) es wx ∧ Below w.heap.size w wx)) (fun t9 _ => N - (intOf t9).toNat)
      case atStart => exact ⟨0, Nat.zero_le _, rfl, H0⟩
      case round =>
        clear H0
        obtain ⟨j, hj, rfl, HI⟩ := hrel
        by_cases hjl : j < N
        · have hjl1 : (j : Int) < N := by omega
          obtain ⟨y, hy⟩ : ∃ y, es[j]? = some y := ⟨_, List.getElem?_eq_getElem (by rw [HE.out.1]; exact hjl)⟩
          obtain ⟨gh, hva, hgl, d0, d1⟩ := HRow.at HI.out.1.row (k := j) (x := (y.v, y.m)) (by rw [List.getElem?_map, hy]; rfl)
          subst hva
          have hyk : y.k = y.l := HE.out.2.2 y (List.mem_of_getElem? hy)
          have hm2 := (HI.out.1.em j y hy).1
          rw [hyk] at hm2
          have h1 := same_sub (HI.out.1.el j y hy).1 hm2 (by have := (HI.out.1.el j y hy).2.2; omega)
          obtain ⟨yv, hyv⟩ : ∃ yv, y.v = yv := ⟨_, rfl⟩
          obtain ⟨ym, hym⟩ : ∃ ym, y.m = ym := ⟨_, rfl⟩
          simp only [hyv, hym] at d0 d1 h1
          have s0 : ∀ x : Sub wr, x.1.cell? ⟨gh, j * 2, none⟩ = some yv := fun x => (x.2.cell (p := ⟨gh, j * 2, none⟩) hgl).trans d0
          have s1 : ∀ x : Sub wr, x.1.cell? ⟨gh, j * 2 + 1, none⟩ = some ym := fun x => (x.2.cell (p := ⟨gh, j * 2 + 1, none⟩) hgl).trans d1
          haveI hne : Nonempty (Sub wr) := ⟨⟨wr, Below.refl _ _⟩⟩
          clear d0 d1 hy hyk hm2 hyv hym
          go_wp2_with fail
          refine wp_region_class (V := wr) (Below.refl _ _) (by kernel_rfl) (by kernel_rfl) ?_
          repeat (go_big_quiet_step ((go_at_call 25; exact h1 _)))
          refine wpQuiet_nil ?_
          rintro wd ⟨xwd, hxwd⟩
          have hwd : Below wr.heap.size wr wd := by rw [hxwd]; exact xwd.2
          have H2 : Hid (HX w.heap.size rho (.slice (some ⟨gh, 0, none⟩) N vc) es wd ∧ Below w.heap.size w wd) := ⟨HI.out.1.below hwd, below_then HI.out.2 hwd⟩
          clear hxwd xwd hwd s0 s1 hne h1
          go_wp2_with fail
          go_roundw
          case rel => exact ⟨j + 1, by omega, by go_num, H2⟩
          case measure => simp [intOf]; omega
        · have hjl1 : ¬ (j : Int) < N := by omega
          go_wp2_with fail
          have H1 : Hid (HX w.heap.size rho (.slice va N vc) es wr ∧ Below w.heap.size w wr ∧ es.length = N ∧ ∀ (q : Nat) (y : Ent), es[q]? = some y → q < 0 → y.l = List.replicate y.l.length (zz q)) := ⟨HI.out.1, HI.out.2, HE.out.1, fun q y _ h => by omega⟩
          clear HI hj hjl hjl1
          go_loopw [10] (fun t10 wx => ∃ (i : Nat) (es : List Ent), i ≤ N ∧ t10 = .int .i64 i ∧ Hid (HX w.heap.size rho (.slice va N vc) es wx ∧ Below w.heap.size w wx ∧ es.length = N ∧ ∀ (q : Nat) (y : Ent), es[q]? = some y → q < i → y.l = List.replicate y.l.length (zz q))) (fun t10 _ => N - (intOf t10).toNat)
          case atStart => exact ⟨0, es, Nat.zero_le _, rfl, H1⟩
          case round =>
            clear H1 HE
            obtain ⟨i, es, hi, rfl, HI⟩ := hrel
            by_cases hil : i < N
            · have hil1 : (i : Int) < N := by omega
              obtain ⟨y, hy⟩ : ∃ y, es[i]? = some y := ⟨_, List.getElem?_eq_getElem (by rw [HI.out.2.2.1]; exact hil)⟩
              obtain ⟨ua, uc, hv, huc⟩ := (HI.out.1.el i y hy).1.isSlice
              have hln3 := (HI.out.1.el i y hy).2.2
              obtain ⟨ln, hln⟩ : ∃ ln, y.l.length = ln := ⟨_, rfl⟩
              rw [hln] at hv huc hln3
              have H2 : Hid (HX w.heap.size rho (.slice va N vc) es wr ∧ Below w.heap.size w wr ∧ es.length = N ∧ (∀ (q : Nat) (y : Ent), es[q]? = some y → q < i → y.l = List.replicate y.l.length (zz q)) ∧ ∃ y, es[i]? = some y ∧ y.v = .slice ua ln uc ∧ y.l.length = ln ∧ y.l.take 0 = List.replicate 0 (zz i)) := ⟨HI.out.1, HI.out.2.1, HI.out.2.2.1, HI.out.2.2.2, y, hy, hv, hln, rfl⟩
              clear HI hy hv hln
              go_wp2_with fail
              go_loopw [11] (fun t11 wx => ∃ (k : Nat) (es : List Ent), k ≤ ln ∧ t11 = .int .i64 k ∧ Hid (HX w.heap.size rho (.slice va N vc) es wx ∧ Below w.heap.size w wx ∧ es.length = N ∧ (∀ (q : Nat) (y : Ent), es[q]? = some y → q < i → y.l = List.replicate y.l.length (zz q)) ∧ ∃ y, es[i]? = some y ∧ y.v = .slice ua ln uc ∧ y.l.length = ln ∧ y.l.take k = List.replicate k (zz i))) (fun t11 _ => ln - (intOf t11).toNat)
              case atStart => exact ⟨0, es, Nat.zero_le _, rfl, H2⟩
              case round =>
                clear H2
                obtain ⟨k, es, hk, rfl, HI⟩ := hrel
                obtain ⟨y, hy, hyv, hyl, hyt⟩ := HI.out.2.2.2.2
                obtain ⟨gh, hva, hgl, d0, d1⟩ := HRow.at HI.out.1.row (k := i) (x := (y.v, y.m)) (by rw [List.getElem?_map, hy]; rfl)
                subst hva
                rw [hyv] at d0
                by_cases hkl : k < ln
                · have hkl1 : (k : Int) < ln := by omega
                  have hrow := (HI.out.1.el i y hy).1
                  rw [hyv] at hrow
                  obtain ⟨z, hz⟩ : ∃ z, y.l[k]? = some z := ⟨_, List.getElem?_eq_getElem (by rw [hyl]; exact hkl)⟩
                  obtain ⟨ub, uo, hua, hul, c0, c1⟩ := acts_at hrow.acts hz
                  have hu0 : uo = 0 := by
                    rcases hrow.2 with ⟨e, _⟩ | ⟨g, _, _, e, _⟩
                    · rw [hua] at e; simp at e
                    · rw [hua] at e; simp at e; omega
                  subst hua hu0
                  rw [Nat.zero_add] at c0 c1
                  have hfz : ∀ q, wr.frozen? ⟨ub, q, none⟩ = false := fun q => by
                    have hr2 := hrow
                    unfold ActRow at hr2
                    rw [hyl] at hr2
                    exact World.ownsRow.frozenAt hr2 q
                  have HW : Hid (HX w.heap.size rho (.slice (some ⟨gh, 0, none⟩) N vc) (es.set i { y with l := y.l.set k (zz i) }) ((wr.setCell ⟨ub, k * 2, none⟩ (.int .i64 (-1 - (i : Int)))).setCell ⟨ub, k * 2 + 1, none⟩ (.string ⟨#[]⟩)) ∧ Below w.heap.size w ((wr.setCell ⟨ub, k * 2, none⟩ (.int .i64 (-1 - (i : Int)))).setCell ⟨ub, k * 2 + 1, none⟩ (.string ⟨#[]⟩)) ∧ (es.set i { y with l := y.l.set k (zz i) }).length = N ∧ (∀ (q : Nat) (x : Ent), (es.set i { y with l := y.l.set k (zz i) })[q]? = some x → q < i → x.l = List.replicate x.l.length (zz q)) ∧ ∃ x, (es.set i { y with l := y.l.set k (zz i) })[i]? = some x ∧ x.v = .slice (some ⟨ub, 0, none⟩) ln uc ∧ x.l.length = ln ∧ x.l.take (k + 1) = List.replicate (k + 1) (zz i)) := by
                    have hub : w.heap.size ≤ ub := by have := hrow.ne (g := ub) rfl; exact this
                    refine ⟨HI.out.1.write (zz i) hy hyv, (HI.out.2.1.setCell hub _).setCell hub _, by rw [List.length_set]; exact HI.out.2.2.1, fun q x hx hq => ?_, ⟨{ y with l := y.l.set k (zz i) }, by rw [List.getElem?_set_self (by rw [HI.out.2.2.1]; exact hil)], hyv, by simp [hyl], ?_⟩⟩
                    · rw [List.getElem?_set_ne (by omega)] at hx
                      exact HI.out.2.2.2.1 q x hx hq
                    · show (y.l.set k (zz i)).take (k + 1) = _
                      rw [List.take_add_one, List.take_set_of_le (Nat.le_refl _), hyt, List.getElem?_set_self (by rw [hyl]; exact hkl), List.replicate_succ']
                      rfl
                  clear HI hy hyv hyl hyt hrow hz
                  go_wp2_with fail
                  go_roundw
                  case rel => exact ⟨k + 1, _, by omega, by go_num, HW⟩
                  case measure => simp [intOf]; omega
                · obtain rfl : k = ln := by omega
                  have H3 : Hid (HX w.heap.size rho (.slice (some ⟨gh, 0, none⟩) N vc) es wr ∧ Below w.heap.size w wr ∧ es.length = N ∧ ∀ (q : Nat) (x : Ent), es[q]? = some x → q < i + 1 → x.l = List.replicate x.l.length (zz q)) := by
                    refine ⟨HI.out.1, HI.out.2.1, HI.out.2.2.1, fun q x hx hq => ?_⟩
                    by_cases hqi : q = i
                    · subst hqi
                      obtain rfl : x = y := by rw [hy] at hx; exact (Option.some.inj hx).symm
                      rw [List.take_of_length_le (by rw [hyl]; exact Nat.le_refl _)] at hyt
                      rw [hyl]; exact hyt
                    · exact HI.out.2.2.2.1 q x hx (by omega)
                  clear HI hy hyv hyl hyt
                  go_wp2_with fail
                  go_roundw
                  case rel => exact ⟨i + 1, es, by omega, by go_num, H3⟩
                  case measure => simp [intOf]; omega
            · have hil1 : ¬ (i : Int) < N := by omega
              obtain rfl : i = N := by omega
              have H1 : Hid (DX w.heap.size rho (.slice va i vc) es (.slice none 0 0) [] wr ∧ Below w.heap.size w wr ∧ ([] : List Value).length = 0 ∧ es.length = i) := ⟨DX.start HI.out.1 (fun q y hy => HI.out.2.2.2 q y hy (by have := (List.getElem?_eq_some_iff.1 hy).1; rw [HI.out.2.2.1] at this; exact this)), HI.out.2.1, rfl, HI.out.2.2.1⟩
              clear HI hil hil1 hi
              go_wp2_with fail
              go_loopw [12, 13] (fun t12 t13 wx => ∃ (j : Nat) (rho : Nat → Nat) (gs : List Value) (ga : Option Addr) (gc : Nat), j ≤ i ∧ t13 = .int .i64 j ∧ t12 = .slice ga j gc ∧ Hid (DX w.heap.size rho (.slice va i vc) es (.slice ga j gc) gs wx ∧ Below w.heap.size w wx ∧ gs.length = j ∧ es.length = i)) (fun _ t13 _ => i - (intOf t13).toNat)
              case atStart => exact ⟨0, rho, [], none, 0, Nat.zero_le _, rfl, rfl, H1⟩
              case round =>
                clear H1
                obtain ⟨j, rho, gs, ga, gc, hj, rfl, ht12, HI⟩ := hrel
                subst ht12
                by_cases hjl : j < i
                · have hjl1 : (j : Int) < i := by omega
                  obtain ⟨y, hy⟩ : ∃ y, es[j]? = some y := ⟨_, List.getElem?_eq_getElem (by rw [HI.out.2.2.2]; exact hjl)⟩
                  obtain ⟨gh, hva, hgl, d0, d1⟩ := HRow.at HI.out.1.hx.row (k := j) (x := (y.v, y.m)) (by rw [List.getElem?_map, hy]; rfl)
                  subst hva
                  obtain ⟨ua, uc, hv, huc⟩ := (HI.out.1.hx.el j y hy).1.isSlice
                  have hln3 := (HI.out.1.hx.el j y hy).2.2
                  have hcs := CX.start HI.out.1 hy
                  obtain ⟨ln, hln⟩ : ∃ ln, y.l.length = ln := ⟨_, rfl⟩
                  rw [hln] at hv huc hln3 hcs
                  rw [hv] at d0 hcs
                  have HY : Hid (es[j]? = some y ∧ y.l.length = ln) := ⟨hy, hln⟩
                  have H2 : Hid (DX w.heap.size rho (.slice (some ⟨gh, 0, none⟩) i vc) es (.slice ga j gc) gs wr ∧ CX w.heap.size rho es j (ln + 0) (.slice ua (ln + 0) uc) wr ∧ Below w.heap.size w wr) := ⟨HI.out.1, hcs, HI.out.2.1⟩
                  have HJ : Hid (gs.length = j ∧ es.length = i) := HI.out.2.2
                  clear HI hy hv hln hcs huc
                  go_wp2_with fail
                  go_loopw [14, 15] (fun t14 t15 wx => ∃ (k : Nat) (rho : Nat → Nat) (ca : Option Addr) (cc : Nat), k ≤ 90 ∧ t15 = .int .i64 k ∧ t14 = .slice ca (ln + k) cc ∧ Hid (DX w.heap.size rho (.slice (some ⟨gh, 0, none⟩) i vc) es (.slice ga j gc) gs wx ∧ CX w.heap.size rho es j (ln + k) (.slice ca (ln + k) cc) wx ∧ Below w.heap.size w wx)) (fun _ t15 _ => 90 - (intOf t15).toNat)
                  case atStart => exact ⟨0, rho, ua, uc, Nat.zero_le _, rfl, rfl, H2⟩
                  case round =>
                    clear H2 d0 d1
                    obtain ⟨k, rho, ca, cc, hk, rfl, ht14, HI⟩ := hrel
                    subst ht14
                    obtain ⟨m, hm⟩ : ∃ m, ln + k = m := ⟨_, rfl⟩
                    have HM : Hid (ln + k = m) := hm
                    rw [hm] at HI
                    simp only [hm]
                    clear hm
                    by_cases hk9 : k < 90
                    · have hk91 : (k : Int) < 90 := by omega
                      obtain ⟨a3, c3, w2, e3, r3, p3⟩ := run_apush2 HI.out.2.1.row HI.out.2.2.size (by rw [List.length_replicate]; have := HM.out; omega) (zz j) #[.int .i64 (-1 - (j : Int)), .string ⟨#[]⟩] rfl
                      have HG : ∃ rho', DX w.heap.size rho' (.slice (some ⟨gh, 0, none⟩) i vc) es (.slice ga j gc) gs w2 ∧ CX w.heap.size rho' es j (m + 1) (.slice a3 ((List.replicate m (zz j)).length + 1) c3) w2 := by
                        have hjj := HJ.out.1
                        subst hjj
                        exact HI.out.1.grow HI.out.2.1 HY.out.1 (by rw [HY.out.2]; have := HM.out; omega) r3 p3
                      obtain ⟨rho', hD, hC⟩ := HG
                      rw [List.length_replicate] at hC e3
                      have HN2 : Hid (DX w.heap.size rho' (.slice (some ⟨gh, 0, none⟩) i vc) es (.slice ga j gc) gs w2 ∧ CX w.heap.size rho' es j (m + 1) (.slice a3 (m + 1) c3) w2 ∧ Below w.heap.size w w2) := ⟨hD, hC, (HI.out.2.2.alloc HI.out.2.2.size _).trans (p3.below (by have := HI.out.2.2.size; simp; omega) (fun g hg => HI.out.2.1.row.ne hg))⟩
                      have e4 : (Builtin.append_ #[51, 51] 51 #[.slice ca m cc, .slice (some ⟨wr.heap.size, 0, none⟩) 1 1]).run Tryd.prog (wr.alloc (.cells #[.int .i64 (-1 - (j : Int)), .string ⟨#[]⟩] 85)) = .ok (.slice a3 (m + 1) c3) w2 := e3
                      clear e3 r3 p3 hD hC HI
                      go_wp2_with (at_builtin; refine wpList_append_run rfl (.tmp 116) (.tmp 120) 51 _ rfl e4 ?_)
                      go_roundw
                      case rel => exact ⟨k + 1, rho', a3, c3, by omega, by go_num, by first | (rw [← HM.out]; rfl) | rw [← HM.out], by have := HM.out; rw [← this] at HN2; exact HN2⟩
                      case measure => simp [intOf]; omega
                    · obtain rfl : k = 90 := by omega
                      obtain ⟨a3, c3, w2, e3, r3, p3⟩ := run_gpush HI.out.1.row HI.out.2.2.size (by rw [HJ.out.1]; have := HNN.out; have := HN.out; omega) (.slice ca m cc) rfl
                      have HG : ∃ rho', DX w.heap.size rho' (.slice (some ⟨gh, 0, none⟩) i vc) es (.slice a3 (gs.length + 1) c3) (gs ++ [.slice ca m cc]) w2 := by
                        have hjj := HJ.out.1
                        subst hjj
                        refine HI.out.1.put ?_ HY.out.1 r3 p3
                        rw [HY.out.2, HM.out]
                        exact HI.out.2.1
                      obtain ⟨rho', hD⟩ := HG
                      rw [HJ.out.1] at hD e3
                      have HN2 : Hid (DX w.heap.size rho' (.slice (some ⟨gh, 0, none⟩) i vc) es (.slice a3 (j + 1) c3) (gs ++ [.slice ca m cc]) w2 ∧ Below w.heap.size w w2 ∧ (gs ++ [Value.slice ca m cc]).length = j + 1 ∧ es.length = i) := ⟨hD, (HI.out.2.2.alloc HI.out.2.2.size _).trans (p3.below (by have := HI.out.2.2.size; simp; omega) (fun g hg => (World.ownsRow.lt HI.out.1.row g hg).1)), by rw [List.length_append, HJ.out.1]; rfl, HJ.out.2⟩
                      have e4 : (Builtin.append_ #[99, 99] 99 #[.slice ga j gc, .slice (some ⟨wr.heap.size, 0, none⟩) 1 1]).run Tryd.prog (wr.alloc (.cells #[.slice ca m cc] 51)) = .ok (.slice a3 (j + 1) c3) w2 := e3
                      clear e3 r3 p3 hD HI
                      go_wp2_with (at_builtin; refine wpList_append_run rfl (.tmp 122) (.tmp 124) 99 _ rfl e4 ?_)
                      go_roundw
                      case rel => exact ⟨j + 1, rho', _, a3, c3, by omega, by go_num, rfl, HN2⟩
                      case measure => simp [intOf]; omega
                · have hjl1 : ¬ (j : Int) < i := by omega
                  obtain rfl : j = i := by omega
                  go_wp2_with fail
                  go_loopw [16] (fun t16 wx => ∃ q : Nat, q ≤ j ∧ t16 = .int .i64 q ∧ Hid (DX w.heap.size rho (.slice va j vc) es (.slice ga j gc) gs wx ∧ Below w.heap.size w wx ∧ gs.length = j ∧ es.length = j)) (fun t16 _ => j - (intOf t16).toNat)
                  case atStart => exact ⟨0, Nat.zero_le _, rfl, HI⟩
                  case round =>
                    clear HI hjl hjl1
                    obtain ⟨q, hq, rfl, HI⟩ := hrel
                    by_cases hql : q < j
                    · have hql1 : (q : Int) < j := by omega
                      obtain ⟨u, hu⟩ : ∃ u, gs[q]? = some u := ⟨_, List.getElem?_eq_getElem (by rw [HI.out.2.2.1]; exact hql)⟩
                      obtain ⟨y, hy, hur, -⟩ := HI.out.1.gl q u hu
                      obtain ⟨ua, uc, huv, huc⟩ := hur.isSlice
                      rw [List.length_replicate] at huv huc
                      obtain ⟨la, lc, hlv, hlc⟩ := (HI.out.1.hx.el q y hy).1.isSlice
                      have hln3 := (HI.out.1.hx.el q y hy).2.2
                      obtain ⟨ln, hln⟩ : ∃ ln, y.l.length = ln := ⟨_, rfl⟩
                      rw [hln] at huv huc hlv hlc hln3
                      obtain ⟨gg, hga, hggl, p0⟩ := GRow.at HI.out.1.row (k := q) hu
                      subst hga
                      obtain ⟨M, hM⟩ : ∃ M, ln + 90 = M := ⟨_, rfl⟩
                      rw [hM] at huv huc
                      subst huv
                      have HY : Hid (gs[q]? = some (.slice ua M uc) ∧ es[q]? = some y ∧ y.l.length = ln ∧ y.v = .slice la ln lc ∧ ln + 90 = M) := ⟨hu, hy, hln, hlv, hM⟩
                      have hM1 : (M : Int) ≤ 93 := by omega
                      clear hu hy hur hln hlv hM
                      go_wp2_with fail
                      go_loopw [17] (fun t17 wx => ∃ k : Nat, k ≤ M ∧ t17 = .int .i64 k ∧ Hid (DX w.heap.size rho (.slice va j vc) es (.slice (some ⟨gg, 0, none⟩) j gc) gs wx ∧ Below w.heap.size w wx ∧ gs.length = j ∧ es.length = j)) (fun t17 _ => M - (intOf t17).toNat)
                      case atStart => exact ⟨0, Nat.zero_le _, rfl, HI⟩
                      case round =>
                        clear HI p0 hggl
                        obtain ⟨k, hk, rfl, HI⟩ := hrel
                        obtain ⟨gg2, hga, hggl, p0⟩ := GRow.at HI.out.1.row (k := q) HY.out.1
                        obtain rfl : gg = gg2 := by simpa using hga
                        by_cases hkM : k < M
                        · have hkM1 : (k : Int) < M := by omega
                          obtain ⟨y2, hy2, hur, -⟩ := HI.out.1.gl q _ HY.out.1
                          obtain rfl : y = y2 := by have h1 := HY.out.2.1; rw [hy2] at h1; exact (Option.some.inj h1).symm
                          rw [HY.out.2.2.1, HY.out.2.2.2.2] at hur
                          obtain ⟨ub, uo, hua, hul, b0, b1⟩ := acts_at hur.acts (j := k) (z := zz q) (by rw [List.getElem?_replicate, if_pos hkM])
                          obtain ⟨gh, hva, hgl, d0, d1⟩ := HRow.at HI.out.1.hx.row (k := q) (x := (y.v, y.m)) (by rw [List.getElem?_map, hy2]; rfl)
                          rw [HY.out.2.2.2.1] at d0
                          subst hua hva
                          simp only [zz] at b0 b1
                          have hrow := (HI.out.1.hx.el q y hy2).1
                          rw [HI.out.1.all q y hy2, HY.out.2.2.1, HY.out.2.2.2.1] at hrow
                          by_cases hkl : k < ln
                          · have hkl1 : (k : Int) < ln := by omega
                            obtain ⟨lb, lo, hla, hll, c0, c1⟩ := acts_at hrow.acts (j := k) (z := zz q) (by rw [List.getElem?_replicate, if_pos hkl])
                            subst hla
                            simp only [zz] at c0 c1
                            clear hy2 hur hrow d1 hga
                            go_wp2_with fail
                            go_quiet (fail)
                            go_wp2_with fail
                            go_roundw
                            case rel => exact ⟨k + 1, by omega, by go_num, HI.out.1.below (below_drewN (Below.refl _ _) _), below_drewN HI.out.2.1 _, HI.out.2.2⟩
                            case measure => simp [intOf]; omega
                          · have hkl1 : ¬ (k : Int) < ln := by omega
                            clear hy2 hur hrow d1 hga
                            go_wp2_with fail
                            go_quiet (fail)
                            go_wp2_with fail
                            go_roundw
                            case rel => exact ⟨k + 1, by omega, by go_num, HI.out.1.below (below_drewN (Below.refl _ _) _), below_drewN HI.out.2.1 _, HI.out.2.2⟩
                            case measure => simp [intOf]; omega
                        · have hkM1 : ¬ (k : Int) < M := by omega
                          clear hga
                          go_wp2_with fail
                          go_roundw
                          case rel => exact ⟨q + 1, by omega, by go_num, HI⟩
                          case measure => simp [intOf]; omega
                    · have hql1 : ¬ (q : Int) < j := by omega
                      go_wp2_with fail
                      go_ret
                      exact ⟨rfl, HI.out.2.1⟩
end Go.Proofs.YtjmjimbhoncidaaDoor
