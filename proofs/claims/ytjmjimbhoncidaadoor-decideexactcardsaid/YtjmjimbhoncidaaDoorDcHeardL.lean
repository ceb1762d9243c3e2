/-
  The law's heard: what the initiator makes of acts that are sent.
-/
import Derived.Test.YtjmjimbhoncidaaDoorDcHeads2
import Derived.Deep.RegionLaw
import Derived.Deep.CutRange
namespace Go.Proofs.YtjmjimbhoncidaaDoor
open Go.RowKit

def hearF (e : Bool) (a p : Int) (z : Int × Int) (y : Int × ByteArray) : Int × Int := if y.1 = 7 ∨ y.1 = 9 then ((heardS e a p z.1 z.2 y.2 false).st, (heardS e a p z.1 z.2 y.2 false).lf) else z
def hearL (e : Bool) (a p : Int) (z : Int × Int) (l : ActL) : Int × Int := l.foldl (hearF e a p) z
theorem hearL_snoc (e : Bool) (a p : Int) (z : Int × Int) (l : ActL) (y : Int × ByteArray) : hearL e a p z (l ++ [y]) = hearF e a p (hearL e a p z l) y := by unfold hearL; rw [List.foldl_append]; rfl
theorem may_sub (D : DecOk) {e : Bool} {a p : Int} {s : ByteArray} (ok : okB e a p = true) (hs : sentB e a p s = true) {V : World} (hV : PV V) (x : Sub V) : Calls Tryd.prog 21 #[.agg #[.bool e, .int .i64 a, .int .i64 p], .string s] x.1 fun r x' => r = .returned (.tuple #[.bool true, .nilIface]) ∧ ∃ y : Sub V, x' = y.1 :=
  (D.may e a p s x.1 (hV.below x.2)).mono fun r w' ⟨ev, h, he, hb⟩ => by
    unfold errN at he
    rw [if_pos ok] at he
    rw [ok, hs, he.nil] at h
    exact ⟨h, ⟨w', below_then x.2 hb⟩, rfl⟩
/-- The loop's invariant. -/
structure HlI (w W0 : World) (e : Bool) (a p : Int) (z : Int × Int) (wx : World) : Prop where
  bel : Below (w.heap.size + 1) W0 wx
  wbox : Box wx (w.heap.size + 1) #[.int .i64 z.1, .int .i64 z.2]
  rbox : Box wx (w.heap.size + 1 + 1) #[.int .i64 0, .int .i64 0]
  fit : fitB e a p z.1 z.2 = true
theorem HlI.step {w W0 wx w5 : World} {e : Bool} {a p st lf : Int} {r : Ans} (h : HlI w W0 e a p (st, lf) wx) (hr : RunOk e a p st lf r) (hb : Below wx.heap.size wx w5) : HlI w W0 e a p (r.st, r.lf) ((w5.setCell ⟨w.heap.size + 1, 0, none⟩ (.int .i64 r.st)).setCell ⟨w.heap.size + 1, 1, none⟩ (.int .i64 r.lf)) :=
  ⟨((h.bel.trans (hb.mono (by have := h.wbox.lt; omega))).setCell (by simp) _).setCell (by simp) _, (h.wbox.below hb).put2 _ _, ((h.rbox.below hb).off _ (by simp)).off _ (by simp), hr.fit⟩
set_option maxRecDepth 100000 in
set_option maxHeartbeats 8000000 in
theorem heard_any (D : DecOk) (e : Bool) (a p st lf : Int) (l : ActL) (N : Nat) (v : Value) (w : World) (hV : PV w) (ok : okB e a p = true) (hf : fitB e a p st lf = true) (ha : Acts w N v l) (hn : l.length ≤ 3) (hs : ∀ y ∈ l, y.1 = 7 ∨ y.1 = 9 → sentB e a p y.2 = true) :
    Calls Tryd.prog 39 #[.agg #[.bool e, .int .i64 a, .int .i64 p], .agg #[.int .i64 st, .int .i64 lf], v] w fun r w' => r = .returned (.tuple #[.agg #[.int .i64 (hearL e a p (st, lf) l).1, .int .i64 (hearL e a p (st, lf) l).2], .bool true]) ∧ Below w.heap.size w w' := by
  obtain ⟨ao, ac, rfl, hac, ca⟩ := ha
  have HA : Hid (∀ j y, l[j]? = some y → ∃ b o, ao = some ⟨b, o, none⟩ ∧ N ≤ b ∧ b < w.heap.size ∧ w.cell? ⟨b, o + j * 2, none⟩ = some (.int .i64 y.1) ∧ w.cell? ⟨b, o + j * 2 + 1, none⟩ = some (.string y.2)) := ca
  have HH : Hid (PV w ∧ okB e a p = true ∧ fitB e a p st lf = true ∧ ∀ y ∈ l, y.1 = 7 ∨ y.1 = 9 → sentB e a p y.2 = true) := ⟨hV, ok, hf, hs⟩
  obtain ⟨n, hl⟩ : ∃ n, l.length = n := ⟨_, rfl⟩
  rw [hl] at hac hn ⊢
  have HL : Hid (l.length = n) := hl
  clear ca hl hV ok hf hs
  go_enter Tryd.func39, Tryd.ntmps39
  go_wp2_with fail
  have H0 : Hid (Below w.heap.size w (((w.alloc (.cells #[.bool e, .int .i64 a, .int .i64 p] 23)).alloc (.cells #[.int .i64 st, .int .i64 lf] 50)).alloc (.cells #[.int .i64 0, .int .i64 0] 50)) ∧ Box (((w.alloc (.cells #[.bool e, .int .i64 a, .int .i64 p] 23)).alloc (.cells #[.int .i64 st, .int .i64 lf] 50)).alloc (.cells #[.int .i64 0, .int .i64 0] 50)) w.heap.size #[.bool e, .int .i64 a, .int .i64 p] ∧ HlI w (((w.alloc (.cells #[.bool e, .int .i64 a, .int .i64 p] 23)).alloc (.cells #[.int .i64 st, .int .i64 lf] 50)).alloc (.cells #[.int .i64 0, .int .i64 0] 50)) e a p (hearL e a p (st, lf) (l.take 0)) (((w.alloc (.cells #[.bool e, .int .i64 a, .int .i64 p] 23)).alloc (.cells #[.int .i64 st, .int .i64 lf] 50)).alloc (.cells #[.int .i64 0, .int .i64 0] 50))) :=
    ⟨(((Below.refl _ _).alloc (by simp) _).alloc (by simp) _).alloc (by simp; omega) _, ((Box.new' w _ _ _ rfl).alloc _).alloc _, ⟨Below.refl _ _, (Box.new' _ _ _ _ (by simp)).alloc _, Box.new' _ _ _ _ (by simp), HH.out.2.2.1⟩⟩
  obtain ⟨W0, hW0⟩ : ∃ W0, (((w.alloc (.cells #[.bool e, .int .i64 a, .int .i64 p] 23)).alloc (.cells #[.int .i64 st, .int .i64 lf] 50)).alloc (.cells #[.int .i64 0, .int .i64 0] 50)) = W0 := ⟨_, rfl⟩
  rw [hW0] at H0
  simp only [hW0]
  clear hW0
  go_loopw [8] (fun t8 wx => ∃ j : Nat, j ≤ n ∧ t8 = .int .i64 j ∧ Hid (HlI w W0 e a p (hearL e a p (st, lf) (l.take j)) wx)) (fun t8 _ => n - (intOf t8).toNat)
  case atStart => exact ⟨0, Nat.zero_le _, rfl, H0.out.2.2⟩
  case round =>
    obtain ⟨j, hj, rfl, HI⟩ := hrel
    have cbx : Box wr w.heap.size #[.bool e, .int .i64 a, .int .i64 p] := H0.out.2.1.belowB HI.out.bel (by omega) (by have := H0.out.2.1.lt; omega)
    obtain ⟨lC, kC, fC⟩ := cbx
    obtain ⟨lW, kW, fW⟩ := HI.out.wbox
    obtain ⟨lR, kR, fR⟩ := HI.out.rbox
    have HBx : Hid (Below w.heap.size w wr) := H0.out.1.trans (HI.out.bel.mono (by omega))
    by_cases hlt : j < n
    · obtain ⟨⟨k, s⟩, hy⟩ : ∃ y, l[j]? = some y := ⟨_, List.getElem?_eq_getElem (by rw [HL.out]; exact hlt)⟩
      obtain ⟨ab, aof, rfl, _, hal, ka0, ka1⟩ := HA.out j _ hy
      have HS : Hid (hearL e a p (st, lf) (l.take (j + 1)) = hearF e a p (hearL e a p (st, lf) (l.take j)) (k, s)) := by unfold Hid; rw [List.take_add_one, hy]; exact hearL_snoc e a p (st, lf) (l.take j) (k, s)
      have hlt1 : (j : Int) < n := by omega
      have hsent : Hid (k = 7 ∨ k = 9 → sentB e a p s = true) := fun h => HH.out.2.2.2 (k, s) (List.mem_of_getElem? hy) h
      have a0 : wr.cell? ⟨ab, aof + j * 2, none⟩ = some (.int .i64 k) := (HBx.out.cell (p := ⟨ab, aof + j * 2, none⟩) hal).trans ka0
      have a1 : wr.cell? ⟨ab, aof + j * 2 + 1, none⟩ = some (.string s) := (HBx.out.cell (p := ⟨ab, aof + j * 2 + 1, none⟩) hal).trans ka1
      clear hy ka0 ka1
      by_cases hk : k = 7 ∨ k = 9
      · have HK : Hid (sentB e a p s = true) := hsent.out hk
        have h1 := may_sub D HH.out.2.1 HK.out (HH.out.1.below HBx.out)
        have HZ : Hid (hearL e a p (st, lf) (l.take (j + 1)) = ((heardS e a p (hearL e a p (st, lf) (l.take j)).1 (hearL e a p (st, lf) (l.take j)).2 s false).st, (heardS e a p (hearL e a p (st, lf) (l.take j)).1 (hearL e a p (st, lf) (l.take j)).2 s false).lf)) := by unfold Hid; rw [HS.out]; unfold hearF; rw [if_pos hk]
        obtain ⟨⟨z1, z2⟩, hz⟩ : ∃ z, hearL e a p (st, lf) (l.take j) = z := ⟨_, rfl⟩
        rw [hz] at HI kW HZ
        have hr := heardS_run (s := s) (number := false) HH.out.2.1 HI.out.fit
        have cc := D.heard e a p z1 z2 s false
        obtain ⟨r, hre⟩ : ∃ r, heardS e a p z1 z2 s false = r := ⟨_, rfl⟩
        simp only at HZ hr
        rw [hre] at hr cc HZ
        have HR : Hid (RunOk e a p z1 z2 r) := hr
        obtain ⟨st2, lf2, l2, at2, n2⟩ := r
        obtain rfl : n2 = 0 := HR.out.n
        have l0 := sub_box ⟨lC, kC, fC⟩
        have la : ∀ x : Sub wr, x.1.cell? ⟨ab, aof + j * 2 + 1, none⟩ = some (.string s) := fun x => (x.2.cell (p := ⟨ab, aof + j * 2 + 1, none⟩) (cell_lt a1)).trans a1
        haveI hne : Nonempty (Sub wr) := ⟨⟨wr, Below.refl _ _⟩⟩
        clear hz hre hr hsent
        rcases hk with rfl | rfl
        all_goals
          go_wp2_with fail
          refine wp_region_class (V := wr) (Below.refl _ _) (by kernel_rfl) (by kernel_rfl) ?_
          repeat (go_big_quiet_step ((go_at_call 21; exact h1 _)))
          refine wpQuiet_nil ?_
          rintro wd ⟨xwd, hxwd⟩
          have hwd : Below wr.heap.size wr wd := by rw [hxwd]; exact xwd.2
          clear hxwd xwd
          have Bd : Hid (Below wr.heap.size wr wd) := hwd
          have XC : Hid (Box wd w.heap.size #[.bool e, .int .i64 a, .int .i64 p]) := (Box.mk lC kC fC).below hwd
          have XW : Hid (Box wd (w.heap.size + 1) #[.int .i64 z1, .int .i64 z2]) := HI.out.wbox.below hwd
          have XR : Hid (Box wd (w.heap.size + 1 + 1) #[.int .i64 0, .int .i64 0]) := HI.out.rbox.below hwd
          have b1 : wd.cell? ⟨ab, aof + j * 2 + 1, none⟩ = some (.string s) := (hwd.cell (p := ⟨ab, aof + j * 2 + 1, none⟩) (cell_lt a1)).trans a1
          clear hwd l0 la hne h1 lC kC fC lW kW fW lR kR fR a0 a1
          obtain ⟨lC, kC, fC⟩ := XC.out
          obtain ⟨lW, kW, fW⟩ := XW.out
          obtain ⟨lR, kR, fR⟩ := XR.out
          have HCc : Hid (∀ x, Below wd.heap.size wd x → Calls Tryd.prog 34 #[.agg #[.bool e, .int .i64 a, .int .i64 p], .agg #[.int .i64 z1, .int .i64 z2], .string s, .bool false] x fun r x' => ∃ lv, r = .returned (.tuple #[.agg #[.int .i64 st2, .int .i64 lf2], lv, .nilIface]) ∧ Hid (Below wd.heap.size wd x')) := fun x hx => (cc x ((HH.out.1.below HBx.out).below (below_then Bd.out hx))).mono fun r x' ⟨lv, ev, h1, _, h3, h4⟩ => ⟨lv, by rw [h3.nil] at h1; exact h1, below_then hx h4⟩
          clear cc
          go_upto_region 8 with fail
          go_cut [10] from 11 to 62 (fun t10 wx => t10 = .nilIface ∧ Hid (HlI w W0 e a p (st2, lf2) wx))
          case first =>
            go_region_law (go_simp; go_at_call 34; refine (HCc.out _ ?_).mono ?_; (first | exact Below.refl _ _ | exact Below.drew (Below.refl _ _) | assumption | exact Below.drew (by assumption)); rintro _ w5 ⟨v5, rfl, hb5⟩; have hq5 := (fun o => (hb5.out.cell (p := ⟨w.heap.size + 1, o, none⟩) lW)); have hf5 := (fun o => (hb5.out.frozen (p := ⟨w.heap.size + 1, o, none⟩) lW)); go_wp2_with fail)
            all_goals
              go_wp2_with fail
              go_meet
              exact ⟨rfl, HI.out.step HR.out (below_then Bd.out hb5.out)⟩
          case rest =>
            obtain ⟨rfl, HX⟩ := hcut
            go_wp2_with fail
            go_roundw
            case rel => exact ⟨j + 1, hlt, by go_num, by rw [HZ.out]; exact HX⟩
            case measure => simp [intOf]; omega
      · have k7 : (k == 7) = false := by simp; omega
        have k9 : (k == 9) = false := by simp; omega
        have n7 : (k != 7) = true := by simp; omega
        have n9 : (k != 9) = true := by simp; omega
        have HZ : Hid (hearL e a p (st, lf) (l.take (j + 1)) = hearL e a p (st, lf) (l.take j)) := by unfold Hid; rw [HS.out]; unfold hearF; rw [if_neg hk]
        clear hk
        go_wp2_with fail
        go_roundw
        case rel => exact ⟨j + 1, hlt, by go_num, by rw [HZ.out]; exact HI⟩
        case measure => simp [intOf]; omega
    · have hlt1 : ¬ ((j : Int) < n) := by omega
      have HE : Hid (hearL e a p (st, lf) (l.take j) = hearL e a p (st, lf) l) := by unfold Hid; rw [List.take_of_length_le (by rw [HL.out]; omega)]
      obtain ⟨⟨z1, z2⟩, hz⟩ : ∃ z, hearL e a p (st, lf) (l.take j) = z := ⟨_, rfl⟩
      have HE2 : Hid (hearL e a p (st, lf) l = (z1, z2)) := by unfold Hid; rw [← HE.out, hz]
      rw [hz] at HI kW
      clear hz HE
      go_wp2_with fail
      refine bodyPost_ret (v := .tuple #[.agg #[.int .i64 z1, .int .i64 z2], .bool true]) ?_ rfl ⟨by rw [HE2.out], ?_⟩
      · simp [results, Tryd.results39, go_sem, kR]
      · exact (HBx.out.setCell (by simp; omega) _).setCell (by simp; omega) _
end Go.Proofs.YtjmjimbhoncidaaDoor
