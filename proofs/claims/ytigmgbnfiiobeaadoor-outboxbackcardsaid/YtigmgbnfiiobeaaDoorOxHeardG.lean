/-
  Heard: what layer 11 tells is done.
-/
import Derived.Test.YtigmgbnfiiobeaaDoorOxDue
namespace Go.Proofs.YtigmgbnfiiobeaaDoor
open Go.RowKit

section
variable {w w' : World} {b kb : Nat} {v : Value} {sq : Bool} {tr : Int} {ms : List Msg}
set_option maxRecDepth 100000 in
set_option maxHeartbeats 4000000 in
theorem heard_go {t s : ByteArray} {i : Nat} {m : Msg} {x : Int} {T : Bool} (h : Bx w b kb v sq tr ms) (hV : PVc w) (hf : fi t ms = some i) (hm : ms[i]? = some m) (hu : m.un = true) (hg : x = 0 ∨ nmB x = true) (hT : T = (sq && (x != 0))) (hs : (T && (x == m.nu) && (s.toList == [67, 69] || s.toList == [65, 69])) = false) (hn : (heardS m.e m.a m.p m.st m.lf s T).n = 0) :
    Calls Tryd.prog 14 #[.pointer (some ⟨b, 0, none⟩), .string t, .string s, .int .i64 x] w (DoQ w b kb v sq tr (deedsS m.ct (heardS m.e m.a m.p m.st m.lf s T).l) (doS ms { m with st := (heardS m.e m.a m.p m.st m.lf s T).st, lf := (heardS m.e m.a m.p m.st m.lf s T).lf, un := true } x (heardS m.e m.a m.p m.st m.lf s T).l)) := by
  have HTT : Hid (T = (sq && (x != 0))) := hT
  have HGG : Hid (x = 0 ∨ nmB x = true) := hg
  have hbx := h
  have hun := under_yes h t hf hm hu
  have hdu := fun z hz => ans_yes (heard_ok m.e m.a m.p m.st m.lf s T z hz) hn
  obtain ⟨m0, hm0, he0, _⟩ := fi_some hf
  obtain rfl : m0 = m := by rw [hm] at hm0; exact (Option.some.inj hm0).symm
  have hfm : fi m0.ct ms = some i := by rw [str_of he0]; exact hf
  have hlen := heardS_len m0.e m0.a m0.p m0.st m0.lf s T
  have HSS : Hid ((T && (x == m0.nu) && (s.toList == [67, 69] || s.toList == [65, 69])) = false) := hs
  obtain ⟨X, hX⟩ : ∃ X, heardS m0.e m0.a m0.p m0.st m0.lf s T = X := ⟨_, rfl⟩
  rw [hX] at hdu hlen ⊢
  have HH : Hid (Bx w b kb v sq tr ms ∧ PVc w ∧ fi m0.ct ms = some i ∧ Tx w m0) := ⟨h, hV, hfm, h.2.2 m0 (List.mem_of_getElem? hm)⟩
  have HD : Hid (∀ z, PVc z → Calls Tryd.prog 31 #[.agg #[.bool m0.e, .int .i64 m0.a, .int .i64 m0.p], .agg #[.int .i64 m0.st, .int .i64 m0.lf], .string s, .bool T] z fun r w' => ∃ a c, r = .returned (.tuple #[.agg #[.int .i64 X.st, .int .i64 X.lf], .slice a X.l.length c, .nilIface]) ∧ Hid (Acts w' z.heap.size (.slice a X.l.length c) X.l ∧ Below z.heap.size z w')) := hdu
  rw [hu] at hun
  have HLn : Hid (X.l.length ≤ 3) := hlen
  clear hT hs hg h hV hf hm hn hdu hX hm0 he0 hfm hu hlen
  have HSQ : Hid (Bx w b kb v sq tr ms) := hbx
  clear hbx
  have HCASE : Hid ((x = 0 ∧ T = false) ∨ (x ≠ 0 ∧ nmB x = true ∧ sq = false ∧ T = false) ∨ (x ≠ 0 ∧ nmB x = true ∧ sq = true ∧ T = true ∧ x ≠ m0.nu) ∨ (x ≠ 0 ∧ nmB x = true ∧ sq = true ∧ T = true ∧ x = m0.nu ∧ (s.toList == [67, 69]) = false ∧ (s.toList == [65, 69]) = false)) := by
    have hT := HTT.out
    have hs := HSS.out
    by_cases h0 : x = 0
    · left; refine ⟨h0, ?_⟩; rw [hT, h0]; simp
    right
    have hx : nmB x = true := by rcases HGG.out with g | g
                                 · exact absurd g h0
                                 · exact g
    have hx0 : (x != 0) = true := by simpa using h0
    rw [hx0, Bool.and_true] at hT
    cases sq with
    | false => left; exact ⟨h0, hx, rfl, hT⟩
    | true =>
      right
      by_cases hnu : x = m0.nu
      · right
        rw [hT, show (x == m0.nu) = true by simpa using hnu] at hs
        simp only [Bool.true_and, Bool.or_eq_false_iff] at hs
        exact ⟨h0, hx, rfl, hT, hnu, hs.1, hs.2⟩
      · left; exact ⟨h0, hx, rfl, hT, hnu⟩
  clear HTT HSS HGG
  go_enter Tryd.func14, Tryd.ntmps14
  go_wp2_with fail
  refine hun.mono ?_
  rintro _ w1 ⟨rfl, hb1⟩
  have x2 := Box.new w1 #[.string m0.ct, .slice m0.tp m0.tn m0.tc, .bool m0.e, .int .i64 m0.a, .int .i64 m0.p, .int .i64 m0.nu, .bool m0.nt, .int .i64 m0.st, .int .i64 m0.lf, .bool true] 49
  have HB2 : Hid (Below w.heap.size w (w1.alloc (.cells #[.string m0.ct, .slice m0.tp m0.tn m0.tc, .bool m0.e, .int .i64 m0.a, .int .i64 m0.p, .int .i64 m0.nu, .bool m0.nt, .int .i64 m0.st, .int .i64 m0.lf, .bool true] 49))) := hb1.alloc hb1.size _
  obtain ⟨W2, hW2⟩ : ∃ W, w1.alloc (.cells #[.string m0.ct, .slice m0.tp m0.tn m0.tc, .bool m0.e, .int .i64 m0.a, .int .i64 m0.p, .int .i64 m0.nu, .bool m0.nt, .int .i64 m0.st, .int .i64 m0.lf, .bool true] 49) = W := ⟨_, rfl⟩
  rw [hW2] at x2 HB2
  have HS2 : Hid (W2.heap.size = w1.heap.size + 1 ∧ w.heap.size ≤ w1.heap.size) := ⟨by rw [← hW2]; simp, hb1.size⟩
  have s1 := hcell (HSQ.out.below HB2.out).1 1
  have lb := (HSQ.out.below HB2.out).lt
  have cx2 := x2.cell
  clear hb1
  clear hun
  rcases HCASE.out with ⟨h0, rfl⟩ | ⟨h0, hx, rfl, rfl⟩ | ⟨h0, hx, rfl, rfl, hnu⟩ | ⟨h0, hx, rfl, rfl, hnu, hs1, hs2⟩
  · have g0 : (x != 0) = false := by rw [h0]; rfl
    clear HCASE h0
    cases sq
    all_goals
      go_wp2_with fail
      clear hW2 s1 lb cx2 g0
      refine (HD.out W2 (HH.out.2.1.below HB2.out)).mono ?_
      rintro _ w3 ⟨a, c, rfl, h3⟩
      have x3 := x2.below h3.out.2
      have c3 := x3.cell
      have f3 := x3.free
      have l3 := x3.lt
      have HB3 : Hid (∀ o, Below w.heap.size w (((w3.setCell ⟨w1.heap.size, 7, none⟩ (.int .i64 X.st)).setCell ⟨w1.heap.size, 8, none⟩ (.int .i64 X.lf)).alloc o) ∧ Acts (((w3.setCell ⟨w1.heap.size, 7, none⟩ (.int .i64 X.st)).setCell ⟨w1.heap.size, 8, none⟩ (.int .i64 X.lf)).alloc o) W2.heap.size (.slice a X.l.length c) X.l) := fun o => by
        have hs := HS2.out
        have o1 : Off (fun q => q = w1.heap.size) w3 (((w3.setCell ⟨w1.heap.size, 7, none⟩ (.int .i64 X.st)).setCell ⟨w1.heap.size, 8, none⟩ (.int .i64 X.lf)).alloc o) := Off.alloc (Off.setCell (P := fun q => q = w1.heap.size) (Off.setCell (P := fun q => q = w1.heap.size) (Off.refl _ _) (p := ⟨w1.heap.size, 7, none⟩) rfl _) (p := ⟨w1.heap.size, 8, none⟩) rfl _) o
        exact ⟨(below_then HB2.out h3.out.2).trans (o1.below (Nat.le_trans HB2.out.size h3.out.2.size) (fun k hk => by omega)), h3.out.1.off o1 (fun q hq => by omega)⟩
      clear x3 x2
      go_wp2_with fail
      refine (do_ok (m := { m0 with st := X.st, lf := X.lf, un := true }) (x := x) (i0 := i) (l := X.l) (N := W2.heap.size) (HH.out.1.below (HB3.out _).1) HH.out.2.2.1 ((HH.out.2.2.2.below (HB3.out _).1).same rfl rfl rfl rfl) (HB3.out _).2 HLn.out).mono ?_
      rintro _ w6 ⟨a6, c6, rfl, r6, q6⟩
      have HZ : Hid (DRow w6 w.heap.size (.slice a6 (deedsS m0.ct X.l).length c6) (deedsS m0.ct X.l) ∧ BxQ w b kb v _ tr (doS ms { m0 with st := X.st, lf := X.lf, un := true } x X.l) w6) := ⟨ERow.base r6 (HB3.out _).1.size, q6.of_below (HB3.out _).1⟩
      clear r6 q6 c3 f3
      go_wp2_with fail
      go_ret2
      exact ⟨a6, c6, rfl, HZ.out.1, HZ.out.2⟩
  · have g0 : (x != 0) = true := by simpa using h0
    have hnb : ∀ z, Calls Tryd.prog 26 #[.int .i64 x] z fun e w' => e = .returned (.bool true) ∧ w' = z := fun z => by have := isNumber_any x z; rw [hx] at this; exact this
    clear hx h0 HCASE
    go_wp2_with (first | (go_at_call 26; refine (hnb _).mono ?_; rintro _ w9 ⟨rfl, h9⟩; subst w9))
    clear hW2 s1 lb cx2 hnb g0
    refine (HD.out W2 (HH.out.2.1.below HB2.out)).mono ?_
    rintro _ w3 ⟨a, c, rfl, h3⟩
    have x3 := x2.below h3.out.2
    have c3 := x3.cell
    have f3 := x3.free
    have l3 := x3.lt
    have HB3 : Hid (∀ o, Below w.heap.size w (((w3.setCell ⟨w1.heap.size, 7, none⟩ (.int .i64 X.st)).setCell ⟨w1.heap.size, 8, none⟩ (.int .i64 X.lf)).alloc o) ∧ Acts (((w3.setCell ⟨w1.heap.size, 7, none⟩ (.int .i64 X.st)).setCell ⟨w1.heap.size, 8, none⟩ (.int .i64 X.lf)).alloc o) W2.heap.size (.slice a X.l.length c) X.l) := fun o => by
      have hs := HS2.out
      have o1 : Off (fun q => q = w1.heap.size) w3 (((w3.setCell ⟨w1.heap.size, 7, none⟩ (.int .i64 X.st)).setCell ⟨w1.heap.size, 8, none⟩ (.int .i64 X.lf)).alloc o) := Off.alloc (Off.setCell (P := fun q => q = w1.heap.size) (Off.setCell (P := fun q => q = w1.heap.size) (Off.refl _ _) (p := ⟨w1.heap.size, 7, none⟩) rfl _) (p := ⟨w1.heap.size, 8, none⟩) rfl _) o
      exact ⟨(below_then HB2.out h3.out.2).trans (o1.below (Nat.le_trans HB2.out.size h3.out.2.size) (fun k hk => by omega)), h3.out.1.off o1 (fun q hq => by omega)⟩
    clear x3 x2
    go_wp2_with fail
    refine (do_ok (m := { m0 with st := X.st, lf := X.lf, un := true }) (x := x) (i0 := i) (l := X.l) (N := W2.heap.size) (HH.out.1.below (HB3.out _).1) HH.out.2.2.1 ((HH.out.2.2.2.below (HB3.out _).1).same rfl rfl rfl rfl) (HB3.out _).2 HLn.out).mono ?_
    rintro _ w6 ⟨a6, c6, rfl, r6, q6⟩
    have HZ : Hid (DRow w6 w.heap.size (.slice a6 (deedsS m0.ct X.l).length c6) (deedsS m0.ct X.l) ∧ BxQ w b kb v _ tr (doS ms { m0 with st := X.st, lf := X.lf, un := true } x X.l) w6) := ⟨ERow.base r6 (HB3.out _).1.size, q6.of_below (HB3.out _).1⟩
    clear r6 q6 c3 f3
    go_wp2_with fail
    go_ret2
    exact ⟨a6, c6, rfl, HZ.out.1, HZ.out.2⟩
  · have g0 : (x != 0) = true := by simpa using h0
    have g1 : (x == m0.nu) = false := by simpa using hnu
    have hnb : ∀ z, Calls Tryd.prog 26 #[.int .i64 x] z fun e w' => e = .returned (.bool true) ∧ w' = z := fun z => by have := isNumber_any x z; rw [hx] at this; exact this
    clear hx h0 hnu HCASE
    go_wp2_with (first | (go_at_call 26; refine (hnb _).mono ?_; rintro _ w9 ⟨rfl, h9⟩; subst w9))
    clear hW2 s1 lb cx2 hnb g0 g1
    refine (HD.out W2 (HH.out.2.1.below HB2.out)).mono ?_
    rintro _ w3 ⟨a, c, rfl, h3⟩
    have x3 := x2.below h3.out.2
    have c3 := x3.cell
    have f3 := x3.free
    have l3 := x3.lt
    have HB3 : Hid (∀ o, Below w.heap.size w (((w3.setCell ⟨w1.heap.size, 7, none⟩ (.int .i64 X.st)).setCell ⟨w1.heap.size, 8, none⟩ (.int .i64 X.lf)).alloc o) ∧ Acts (((w3.setCell ⟨w1.heap.size, 7, none⟩ (.int .i64 X.st)).setCell ⟨w1.heap.size, 8, none⟩ (.int .i64 X.lf)).alloc o) W2.heap.size (.slice a X.l.length c) X.l) := fun o => by
      have hs := HS2.out
      have o1 : Off (fun q => q = w1.heap.size) w3 (((w3.setCell ⟨w1.heap.size, 7, none⟩ (.int .i64 X.st)).setCell ⟨w1.heap.size, 8, none⟩ (.int .i64 X.lf)).alloc o) := Off.alloc (Off.setCell (P := fun q => q = w1.heap.size) (Off.setCell (P := fun q => q = w1.heap.size) (Off.refl _ _) (p := ⟨w1.heap.size, 7, none⟩) rfl _) (p := ⟨w1.heap.size, 8, none⟩) rfl _) o
      exact ⟨(below_then HB2.out h3.out.2).trans (o1.below (Nat.le_trans HB2.out.size h3.out.2.size) (fun k hk => by omega)), h3.out.1.off o1 (fun q hq => by omega)⟩
    clear x3 x2
    go_wp2_with fail
    refine (do_ok (m := { m0 with st := X.st, lf := X.lf, un := true }) (x := x) (i0 := i) (l := X.l) (N := W2.heap.size) (HH.out.1.below (HB3.out _).1) HH.out.2.2.1 ((HH.out.2.2.2.below (HB3.out _).1).same rfl rfl rfl rfl) (HB3.out _).2 HLn.out).mono ?_
    rintro _ w6 ⟨a6, c6, rfl, r6, q6⟩
    have HZ : Hid (DRow w6 w.heap.size (.slice a6 (deedsS m0.ct X.l).length c6) (deedsS m0.ct X.l) ∧ BxQ w b kb v _ tr (doS ms { m0 with st := X.st, lf := X.lf, un := true } x X.l) w6) := ⟨ERow.base r6 (HB3.out _).1.size, q6.of_below (HB3.out _).1⟩
    clear r6 q6 c3 f3
    go_wp2_with fail
    go_ret2
    exact ⟨a6, c6, rfl, HZ.out.1, HZ.out.2⟩
  · have g0 : (x != 0) = true := by simpa using h0
    have g1 : (x == m0.nu) = true := by simpa using hnu
    have hnb : ∀ z, Calls Tryd.prog 26 #[.int .i64 x] z fun e w' => e = .returned (.bool true) ∧ w' = z := fun z => by have := isNumber_any x z; rw [hx] at this; exact this
    clear hx h0 hnu HCASE
    go_wp2_with (first | (go_at_call 26; refine (hnb _).mono ?_; rintro _ w9 ⟨rfl, h9⟩; subst w9))
    clear hW2 s1 lb cx2 hnb g0 g1 hs1 hs2
    refine (HD.out W2 (HH.out.2.1.below HB2.out)).mono ?_
    rintro _ w3 ⟨a, c, rfl, h3⟩
    have x3 := x2.below h3.out.2
    have c3 := x3.cell
    have f3 := x3.free
    have l3 := x3.lt
    have HB3 : Hid (∀ o, Below w.heap.size w (((w3.setCell ⟨w1.heap.size, 7, none⟩ (.int .i64 X.st)).setCell ⟨w1.heap.size, 8, none⟩ (.int .i64 X.lf)).alloc o) ∧ Acts (((w3.setCell ⟨w1.heap.size, 7, none⟩ (.int .i64 X.st)).setCell ⟨w1.heap.size, 8, none⟩ (.int .i64 X.lf)).alloc o) W2.heap.size (.slice a X.l.length c) X.l) := fun o => by
      have hs := HS2.out
      have o1 : Off (fun q => q = w1.heap.size) w3 (((w3.setCell ⟨w1.heap.size, 7, none⟩ (.int .i64 X.st)).setCell ⟨w1.heap.size, 8, none⟩ (.int .i64 X.lf)).alloc o) := Off.alloc (Off.setCell (P := fun q => q = w1.heap.size) (Off.setCell (P := fun q => q = w1.heap.size) (Off.refl _ _) (p := ⟨w1.heap.size, 7, none⟩) rfl _) (p := ⟨w1.heap.size, 8, none⟩) rfl _) o
      exact ⟨(below_then HB2.out h3.out.2).trans (o1.below (Nat.le_trans HB2.out.size h3.out.2.size) (fun k hk => by omega)), h3.out.1.off o1 (fun q hq => by omega)⟩
    clear x3 x2
    go_wp2_with fail
    refine (do_ok (m := { m0 with st := X.st, lf := X.lf, un := true }) (x := x) (i0 := i) (l := X.l) (N := W2.heap.size) (HH.out.1.below (HB3.out _).1) HH.out.2.2.1 ((HH.out.2.2.2.below (HB3.out _).1).same rfl rfl rfl rfl) (HB3.out _).2 HLn.out).mono ?_
    rintro _ w6 ⟨a6, c6, rfl, r6, q6⟩
    have HZ : Hid (DRow w6 w.heap.size (.slice a6 (deedsS m0.ct X.l).length c6) (deedsS m0.ct X.l) ∧ BxQ w b kb v _ tr (doS ms { m0 with st := X.st, lf := X.lf, un := true } x X.l) w6) := ⟨ERow.base r6 (HB3.out _).1.size, q6.of_below (HB3.out _).1⟩
    clear r6 q6 c3 f3
    go_wp2_with fail
    go_ret2
    exact ⟨a6, c6, rfl, HZ.out.1, HZ.out.2⟩
end
end Go.Proofs.YtigmgbnfiiobeaaDoor
