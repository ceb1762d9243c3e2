import Derived.Test.YthnpckmgnompiaaGreatDoorWCm1
import Derived.Test.YthnpckmgnompiaaGreatDoorWFol
import Derived.Test.YthnpckmgnompiaaGreatDoorWComp
/-
  WalCommits: Open of such a disk, and what it mends.
-/
namespace Go.Proofs.YthnpckmgnompiaaGreatDoor
open Go.RowKit Go.BigFrame

section
variable {x : World} {B K : Nat} {v0 v1 : Value} {a g : Nat} {X Y sn : List Int} {rs : List (List Int)} {sx sy : Nat} {fu na ns nc : Int}
/-- The log's area holds a generation, the other one none. -/
theorem openT (h : DskS x B K v0 v1 (sgT a X Y sx sy false fu na ns nc)) (hB : B ≤ x.heap.size) (ha : a = 0 ∨ a = 1) (hsx : sx ≤ X.length) (hsy : sy ≤ Y.length) (hX : X.length ≤ 16777216) (hY : Y.length ≤ 16777216) (rX : Rng X) (rY : Rng Y) (hH : Halves x) (pX : psS X (a : Int) = some (g, sn, rs)) (pY : psS Y (1 - (a : Int)) = none) (hg : 1 ≤ g) (hrs : ∀ d ∈ rs, d.length ≤ 20000) (hwh : 30 + sn.length + sizes rs ≤ X.length) (hrl : rs.length ≤ 16777216) :
    Calls Tryz.prog 7 #[.pointer (some ⟨K, 0, none⟩)] x (OpenG x B K v0 v1 (sgT a X Y sx sy false fu na ns nc) (mendOps ⟨g, none, 0, 0, none, 0, 0, X.length, sx, 30 + sn.length + sizes rs⟩ ⟨0, none, 0, 0, none, 0, 0, Y.length, 0, 0⟩) g sn rs ((Y.length : Int) + X.length - ((30 + sn.length + sizes rs : Nat) : Int)) ((30 + sn.length + sizes rs : Nat) : Int)) := by
  rcases ha with rfl | rfl
  · refine lOpen_gen (nb := X) (na := 0) (ns := sx) (os_ := Y.length) h hB rfl ⟨hsx, hsy, hX, hY⟩ rX rY hH hdR (fun w' f0 f1 k0 k1 => ?_) hX hY pX hrs hwh hrl
    have e0 := fnd_gen k0 pX
    have e1 := fnd_none k1 pY
    exact ⟨f0, f1, fun y => choose_first_alone y (by rw [e0.1, e1.1]; omega) (by rw [e0.1]; omega) e1.1, k0, e1.2⟩
  · refine lOpen_gen (nb := X) (na := 1) (ns := sx) (os_ := Y.length) h hB rfl ⟨hsy, hsx, hY, hX⟩ rY rX hH hdR (fun w' f0 f1 k0 k1 => ?_) hX hY pX hrs hwh hrl
    have e0 := fnd_none k0 pY
    have e1 := fnd_gen k1 pX
    exact ⟨f1, f0, fun y => choose_second_alone y (by rw [e0.1, e1.1]; omega) (by rw [e1.1]; omega) e0.1, k1, e0.2⟩
/-- Both areas hold one: the younger. -/
theorem openT_new {tn : List Int} {ds : List (List Int)} (h : DskS x B K v0 v1 (sgT a X Y sx sy false fu na ns nc)) (hB : B ≤ x.heap.size) (ha : a = 0 ∨ a = 1) (hsx : sx ≤ X.length) (hsy : sy ≤ Y.length) (hX : X.length ≤ 16777216) (hY : Y.length ≤ 16777216) (rX : Rng X) (rY : Rng Y) (hH : Halves x) (pX : psS X (a : Int) = some (g, sn, rs)) (pY : psS Y (1 - (a : Int)) = some (g + 1, tn, ds)) (hg : 1 ≤ g) (hg1 : g < 4611686018427387904) (hds : ∀ d ∈ ds, d.length ≤ 20000) (hwh : 30 + tn.length + sizes ds ≤ Y.length) (hrl : ds.length ≤ 16777216) :
    Calls Tryz.prog 7 #[.pointer (some ⟨K, 0, none⟩)] x (OpenG x B K v0 v1 (sgT a X Y sx sy false fu na ns nc) (mendOps ⟨(g + 1 : Nat), none, 0, 0, none, 0, 0, Y.length, sy, 30 + tn.length + sizes ds⟩ ⟨0, none, 0, 0, none, 0, 0, X.length, 0, 0⟩) (g + 1) tn ds ((X.length : Int) + Y.length - ((30 + tn.length + sizes ds : Nat) : Int)) ((30 + tn.length + sizes ds : Nat) : Int)) := by
  have hw : IntKind.u64.wrap ((g : Int) + 1) = ((g + 1 : Nat) : Int) := by
    rw [wrap_u64 (by omega) (by omega)]
    omega
  rcases ha with rfl | rfl
  · refine lOpen_gen (nb := Y) (na := 1) (ns := sy) (os_ := X.length) h hB rfl ⟨hsx, hsy, hX, hY⟩ rX rY hH hdR (fun w' f0 f1 k0 k1 => ?_) hY hX pY hds hwh hrl
    have e0 := fnd_gen k0 pX
    have e1 := fnd_gen k1 pY
    exact ⟨f1, f0, fun y => choose_second y (by rw [e0.1, e1.1]; omega) (by rw [e1.1]; omega) ⟨by rw [e0.1]; omega, by rw [e0.1, e1.1]; exact hw⟩, k1, e0.2⟩
  · refine lOpen_gen (nb := Y) (na := 0) (ns := sy) (os_ := X.length) h hB rfl ⟨hsy, hsx, hY, hX⟩ rY rX hH hdR (fun w' f0 f1 k0 k1 => ?_) hY hX pY hds hwh hrl
    have e0 := fnd_gen k0 pY
    have e1 := fnd_gen k1 pX
    exact ⟨f0, f1, fun y => choose_first y (by rw [e0.1, e1.1]; omega) (by rw [e0.1]; omega) ⟨by rw [e1.1]; omega, by rw [e0.1, e1.1]; exact hw⟩, k0, e1.2⟩
end
section
variable {a g : Nat} {X Y : List Int} {sx sy wh : Nat} {fu na ns nc : Int}
/-- What Open writes behind a crash: nothing is refused. -/
theorem mend_dry (ha : a = 0 ∨ a = 1) (hg : (g : Int) % 2 = a) (hsy : sy ≤ Y.length) (hwh : wh ≤ X.length) :
    ∃ nc', runS (sgT a X Y X.length sy false (-1) na ns nc) (mendOps ⟨g, none, 0, 0, none, 0, 0, X.length, X.length, wh⟩ ⟨0, none, 0, 0, none, 0, 0, Y.length, 0, 0⟩) = (sgT a (X.take wh) [] wh 0 false (-1) na ns nc', 0) := by
  have hb : 1 - a = 0 ∨ 1 - a = 1 := by omega
  have e1 : (1 - (a : Int)) = ((1 - a : Nat) : Int) := by omega
  have z0 : (0 : Int) = ((0 : Nat) : Int) := rfl
  have gg : goesOn false (-1) = true := rfl
  have lf : leftOn (-1) = -1 := rfl
  have ops : mendOps ⟨g, none, 0, 0, none, 0, 0, X.length, X.length, wh⟩ ⟨0, none, 0, 0, none, 0, 0, Y.length, 0, 0⟩ = (if 0 < Y.length then [Dop.cut ((1 - a : Nat) : Int) 0] else []) ++ (if wh < X.length then [Dop.cut (a : Int) wh] else []) := by
    unfold mendOps
    simp only [hg, e1, if_neg (show ¬ X.length < wh by omega), List.append_nil]
  rw [ops]
  have second : ∀ nc, ∃ nc', runS (sgT a X [] X.length 0 false (-1) na ns nc) (if wh < X.length then [Dop.cut (a : Int) wh] else []) = (sgT a (X.take wh) [] wh 0 false (-1) na ns nc', 0) := fun nc => by
    by_cases hw : wh < X.length
    · rw [if_pos hw]
      have s : opC (sgT a X [] X.length 0 false (-1) na ns nc) (.cut (a : Int) wh) = 0 ∧ opS (sgT a X [] X.length 0 false (-1) na ns nc) (.cut (a : Int) wh) = sgT a (X.take wh) [] wh 0 false (-1) na ns (oneMore nc) := by
        constructor
        · show cutC _ _ _ = _
          rw [tC_cut ha hwh, if_pos gg]
        · show cutS _ _ _ = _
          rw [tS_cut ha hwh, if_pos gg, lf, Nat.min_eq_right hwh]
      exact ⟨_, by rw [runS, if_pos s.1, s.2, runS]⟩
    · rw [if_neg hw]
      have : wh = X.length := by omega
      subst this
      exact ⟨nc, by rw [runS, List.take_length]⟩
  by_cases hY : 0 < Y.length
  · rw [if_pos hY]
    have s : opC (sgT a X Y X.length sy false (-1) na ns nc) (.cut ((1 - a : Nat) : Int) 0) = 0 ∧ opS (sgT a X Y X.length sy false (-1) na ns nc) (.cut ((1 - a : Nat) : Int) 0) = sgT a X [] X.length 0 false (-1) na ns (oneMore nc) := by
      constructor
      · show cutC _ _ _ = _
        rw [sgT_swap ha]; exact (tC_cut hb (n := 0) (Nat.zero_le _)).trans (if_pos gg)
      · show cutS _ _ _ = _
        rw [sgT_swap ha, z0, tS_cut hb (Nat.zero_le _), if_pos gg, lf, Nat.min_zero, sgT_swap (a := a) ha]
        rfl
    obtain ⟨nc', h⟩ := second (oneMore nc)
    refine ⟨nc', ?_⟩
    rw [List.singleton_append, runS, if_pos s.1, s.2, h]
  · rw [if_neg hY, List.nil_append]
    have hY0 : Y = [] := List.eq_nil_of_length_eq_zero (by omega)
    subst hY0
    have : sy = 0 := by simpa using hsy
    subst this
    exact second nc
/-- What Open writes while the log is there. -/
theorem mend_wet (ha : a = 0 ∨ a = 1) (hg : (g : Int) % 2 = a) (hsx : sx ≤ X.length) :
    ∃ fu' ns', runS (sgT a X [] sx 0 false fu na ns nc) (mendOps ⟨g, none, 0, 0, none, 0, 0, X.length, sx, X.length⟩ ⟨0, none, 0, 0, none, 0, 0, ([] : List Int).length, 0, 0⟩) = (sgT a X [] X.length 0 false fu' na ns' nc, 0) ∨ runS (sgT a X [] sx 0 false fu na ns nc) (mendOps ⟨g, none, 0, 0, none, 0, 0, X.length, sx, X.length⟩ ⟨0, none, 0, 0, none, 0, 0, ([] : List Int).length, 0, 0⟩) = (sgT a X [] sx 0 true fu' na ns' nc, 8) := by
  have ops : mendOps ⟨g, none, 0, 0, none, 0, 0, X.length, sx, X.length⟩ ⟨0, none, 0, 0, none, 0, 0, ([] : List Int).length, 0, 0⟩ = if sx < X.length then [Dop.syn (a : Int)] else [] := by
    unfold mendOps
    simp [hg]
  rw [ops]
  by_cases hs : sx < X.length
  · rw [if_pos hs]
    by_cases g1 : goesOn false fu = true
    · have s : opC (sgT a X [] sx 0 false fu na ns nc) (.syn (a : Int)) = 0 ∧ opS (sgT a X [] sx 0 false fu na ns nc) (.syn (a : Int)) = sgT a X [] X.length 0 false (leftOn fu) na (oneMore ns) nc := by
        constructor
        · show synC _ _ = _
          rw [tC_syn ha, if_pos g1]
        · show synS _ _ = _
          rw [tS_syn ha, if_pos g1]
      exact ⟨_, _, Or.inl (by rw [runS, if_pos s.1, s.2, runS])⟩
    · have s : opC (sgT a X [] sx 0 false fu na ns nc) (.syn (a : Int)) = 8 ∧ opS (sgT a X [] sx 0 false fu na ns nc) (.syn (a : Int)) = sgT a X [] sx 0 true fu na ns nc := by
        constructor
        · show synC _ _ = _
          rw [tC_syn ha, if_neg g1]
        · show synS _ _ = _
          rw [tS_syn ha, if_neg g1]
      exact ⟨_, _, Or.inr (by rw [runS, if_neg (by rw [s.1]; decide), s.2, s.1])⟩
  · rw [if_neg hs]
    have : sx = X.length := by omega
    subst this
    exact ⟨fu, ns, Or.inl (by rw [runS])⟩
end
end Go.Proofs.YthnpckmgnompiaaGreatDoor

/-
  The log's refusals: an area that is full, a snapshot that is too long.
-/
namespace Go.Proofs.YthnpckmgnompiaaGreatDoor
open Go.RowKit Go.BigFrame

set_option maxRecDepth 100000 in
set_option maxHeartbeats 4000000 in
theorem lAppend_full {x : World} {B K L m k : Nat} {po : Option Addr} {v0 v1 : Value} {σ : Sg} {gn ar rc wt by_ : Int} (h : Lg x B K L v0 v1 σ false gn ar rc wt by_) (hm0 : 0 < m) (hm1 : m ≤ 20000) (hy0 : 0 ≤ by_) (hy2 : by_ ≤ 16777216) (hy1 : 16777216 < by_ + (m + 13)) :
    Calls Tryz.prog 8 #[.pointer (some ⟨L, 0, none⟩), .slice po m k] x fun e w' => ∃ v, e = .returned v ∧ WErr x 7 v w' := by
  have HR : Hid (Calls Tryz.prog 27 #[.pointer (some ⟨L, 0, none⟩)] x fun e w' => e = .returned .nilIface ∧ w' = x) := ready_ok h
  have c0 := h.c0
  have c3 := h.c3
  have c6 := h.c6
  have h0 : ¬ (m : Int) = 0 := by omega
  have h1 : ¬ (20000 : Int) < m := by omega
  have h2 : ¬ m = 0 := by omega
  have hb0 : ((m : Int) == 0) = false := by simp [h2]
  have hb1 : decide ((20000 : Int) < m) = false := by simp; omega
  have h3 : IntKind.i64.wrap (13 + (m : Int)) = 13 + m := wrap_id (by omega) (by omega)
  have h4 : IntKind.i64.wrap (by_ + (13 + (m : Int))) = by_ + (m + 13) := by rw [show by_ + (13 + (m : Int)) = by_ + (m + 13) by omega]; exact wrap_id (by omega) (by omega)
  have h5 : (16777216 : Int) < by_ + (m + 13) := by omega
  clear h
  go_enter Tryz.func8, Tryz.ntmps8
  go_wp2_with fail
  refine HR.out.mono ?_
  rintro e w1 ⟨rfl, hw1⟩
  rw [hw1]
  clear hw1
  go_wp2_with fail
  refine (wfault_any _ _).mono ?_
  rintro e w' ⟨v, rfl, hv⟩
  go_wp2_with fail
  go_ret
  exact ⟨v, rfl, hv⟩
set_option maxRecDepth 100000 in
set_option maxHeartbeats 4000000 in
theorem lFormat_long {x : World} {B K m k : Nat} {po : Option Addr} {v0 v1 : Value} {σ : Sg} (h : DskS x B K v0 v1 σ) (hm : 2097152 < m) :
    Calls Tryz.prog 5 #[.pointer (some ⟨K, 0, none⟩), .slice po m k] x fun e w' => ∃ v, e = .returned v ∧ WErr x 4 v w' := by
  have HL : Hid (Calls Tryz.prog 13 #[.pointer (some ⟨K, 0, none⟩), .int .i64 0] x fun e w' => e = .returned (.tuple #[.int .i64 σ.x0.length, .nilIface]) ∧ w' = x) := Len0_ok h (stOf_any _)
  have hbm2 : (2097152 : Int) < m := by omega
  clear h
  go_enter Tryz.func5, Tryz.ntmps5
  go_wp2_with fail
  refine HL.out.mono ?_
  rintro e w1 ⟨rfl, hw1⟩
  rw [hw1]
  clear hw1 HL
  go_wp2_with fail
  refine (wfault_any _ _).mono ?_
  rintro e w' ⟨v, rfl, hv⟩
  go_wp2_with fail
  go_ret
  exact ⟨v, rfl, hv⟩
end Go.Proofs.YthnpckmgnompiaaGreatDoor

/-
  The log of the law WalLists: a snapshot, records; opened again and again.
-/
namespace Go.Proofs.YthnpckmgnompiaaGreatDoor
open Go.RowKit Go.BigFrame

/-- The disk of the law's log. -/
def sgL (sn : List Int) (rs : List (List Int)) (s : Nat) (na ns nc : Int) : Sg := sgT 1 (genB 1 sn rs) [] s 0 false (-1) na ns nc
/-- What the law asks of its log. -/
structure LlG (sn : List Int) (rs : List (List Int)) : Prop where
  sl : sn.length ≤ 2097152
  sr : Rng sn
  gd : ∀ d ∈ rs, 1 ≤ d.length ∧ d.length ≤ 20000 ∧ Rng d
  sz : 30 + sn.length + sizes rs ≤ 16777216
theorem LlG.nil {sn : List Int} (h1 : sn.length ≤ 2097152) (h2 : Rng sn) : LlG sn [] := ⟨h1, h2, (fun d hd => by cases hd), by simp [sizes]; omega⟩
theorem LlG.snoc {sn d : List Int} {rs : List (List Int)} (h : LlG sn rs) (h1 : 1 ≤ d.length) (h2 : d.length ≤ 20000) (h3 : Rng d) (h4 : 30 + sn.length + sizes rs + (d.length + 13) ≤ 16777216) : LlG sn (rs ++ [d]) :=
  ⟨h.sl, h.sr, fun c hc => by
    rcases List.mem_append.1 hc with q | q
    · exact h.gd c q
    · rw [List.mem_singleton] at q; subst q; exact ⟨h1, h2, h3⟩, by rw [sizes_snoc]; omega⟩
theorem run_fmt {sn : List Int} (h : sn.length ≤ 2097152) : runS sgN (fmtOps sn) = (sgL sn [] (30 + sn.length) 1 1 2, 0) := by
  unfold sgL
  rw [genB_nil]
  obtain ⟨hd, hh⟩ : ∃ l, headB ((1 : Nat) : Int) ++ recB sn = l := ⟨_, rfl⟩
  have h1 : hd.length = 30 + sn.length := by rw [← hh, List.length_append, headB_len, recB_len]; omega
  unfold fmtOps
  rw [show headB 1 ++ recB sn = hd from hh, hh]
  have h2 : ¬ 16777216 < 30 + sn.length := by omega
  simp [runS, opC, opS, cutC, cutS, appC, appS, synC, synS, sgN, Sg.goes, goesOn, Sg.wr, leftOn, oneMore, h1, sgT, h2]
theorem mend_on {X : List Int} {sx : Nat} {na ns nc : Int} (hsx : sx ≤ X.length) :
    ∃ ns', runS (sgT 1 X [] sx 0 false (-1) na ns nc) (mendOps ⟨(1 : Nat), none, 0, 0, none, 0, 0, X.length, sx, X.length⟩ ⟨0, none, 0, 0, none, 0, 0, ([] : List Int).length, 0, 0⟩) = (sgT 1 X [] X.length 0 false (-1) na ns' nc, 0) := by
  have ops : mendOps ⟨(1 : Nat), none, 0, 0, none, 0, 0, X.length, sx, X.length⟩ ⟨0, none, 0, 0, none, 0, 0, ([] : List Int).length, 0, 0⟩ = if sx < X.length then [Dop.syn 1] else [] := by
    unfold mendOps
    simp
  rw [ops]
  by_cases hs : sx < X.length
  · rw [if_pos hs]
    exact ⟨oneMore ns, by simp [runS, opC, opS, synC, synS, Sg.goes, goesOn, Sg.wr, leftOn, sgT]⟩
  · rw [if_neg hs]
    obtain rfl : sx = X.length := by omega
    exact ⟨ns, rfl⟩
/-- What Open answers there. -/
def LlO (x : World) (B K : Nat) (v0 v1 : Value) (sn : List Int) (rs : List (List Int)) (e : Ending) (w' : World) : Prop :=
  ∃ (u0 u1 : Value) (na ns nc : Int) (L : Nat) (a : Option Addr) (n k : Nat) (v2 : Value) (vs : List Value), DStep x w' K v0 v1 u0 u1 ∧ e = .returned (.tuple #[.pointer (some ⟨L, 0, none⟩), .agg #[.int .u64 1, .slice a n k, v2, .int .i64 0], .nilIface]) ∧
    Lg w' B K L u0 u1 (sgL sn rs (30 + sn.length + sizes rs) na ns nc) false 1 1 rs.length 0 ((30 + sn.length + sizes rs : Nat) : Int) ∧ Row w' x.heap.size (.slice a n k) sn ∧ VRow w' x.heap.size 22 v2 vs ∧ Pcs w' vs rs ∧ x.heap.size ≤ L ∧ ∃ D, L < D ∧ (∀ k, Foot K u0 u1 k → k < D) ∧ OwnQ w' D (.slice a n k) v2 sn vs rs
theorem ll_open {x : World} {B K s : Nat} {v0 v1 : Value} {sn : List Int} {rs : List (List Int)} {na ns nc : Int} (h : DskS x B K v0 v1 (sgL sn rs s na ns nc)) (hB : B ≤ x.heap.size) (hH : Halves x) (hG : LlG sn rs) (hs : s ≤ 30 + sn.length + sizes rs) :
    Calls Tryz.prog 7 #[.pointer (some ⟨K, 0, none⟩)] x (LlO x B K v0 v1 sn rs) := by
  have hsz := hG.sz
  have l0 := genB_len 1 sn rs
  have hll := len_sizes rs
  have pX : psS (genB 1 sn rs) ((1 : Nat) : Int) = some (1, sn, rs) := by
    have := ps_recs (g := 1) (sn := sn) (R := []) (rs := rs) (ar := ((1 : Nat) : Int) % 2) (by omega) (by omega) hG.sl rfl (fun r hr => ⟨(hG.gd r hr).1, (hG.gd r hr).2.1⟩) rc_nil
    rw [List.append_nil] at this
    exact this
  have key := openT (a := 1) (g := 1) (sn := sn) (rs := rs) h hB (Or.inr rfl) (by omega) (Nat.le_refl _) (by omega) (by simp) (rng_gen (by omega) hG.sr (fun r hr => (hG.gd r hr).2.2)) (fun q hq => by cases hq) hH pX rfl (by omega) (fun d hd => (hG.gd d hd).2.1) (by omega) (by omega)
  obtain ⟨ns', hrun⟩ := mend_on (X := genB 1 sn rs) (sx := s) (na := na) (ns := ns) (nc := nc) (by omega)
  refine key.mono ?_
  rintro e w' ⟨u0, u1, hst, hr⟩
  rw [← l0, hrun] at hr
  rcases hr with ⟨_, L, a, n, k', v2, us, he, hlg, hrow, hvr, hpc, hL, hD⟩ | ⟨hx, _⟩
  · refine ⟨u0, u1, na, ns', nc, L, a, n, k', v2, us, hst, ?_, ?_, hrow, hvr, hpc, hL, hD⟩
    · rw [he]
      simp
    · rw [l0] at hlg
      exact hlg
  · exact absurd rfl hx
/-- A record is appended. -/
theorem ll_append {x : World} {B K L m c s : Nat} {v0 v1 : Value} {sn d : List Int} {rs : List (List Int)} {na ns nc wt : Int} {po : Option Addr} (h : Lg x B K L v0 v1 (sgL sn rs s na ns nc) false 1 1 rs.length wt ((30 + sn.length + sizes rs : Nat) : Int)) (hw0 : 0 ≤ wt) (hw1 : wt ≤ 16777216) (hb : Byts x po m d) (hpo : po = none → c = 0) (hH : Halves x) (hm0 : 0 < m) (hm1 : m ≤ 20000) (hf : 30 + sn.length + sizes rs + (m + 13) ≤ 16777216) :
    Calls Tryz.prog 8 #[.pointer (some ⟨L, 0, none⟩), .slice po m c] x fun e w' => ∃ u0 u1 na', e = .returned .nilIface ∧ LStep x w' K L v0 v1 u0 u1 ∧ Lg w' B K L u0 u1 (sgL sn (rs ++ [d]) s na' ns nc) false 1 1 ((rs ++ [d]).length) (wt + 1) ((30 + sn.length + sizes (rs ++ [d]) : Nat) : Int) := by
  have hlen : d.length = m := hb.len
  have hls := len_sizes rs
  have l0 := genB_len 1 sn rs
  refine (lAppend_go h hb hpo hH hm0 hm1 (by omega) (by omega) (by omega) (by omega) (by omega) (by omega)).mono ?_
  rintro e w' ⟨u0, u1, hst, ⟨_, he, hl'⟩ | ⟨hc, _⟩⟩
  · have a2 : appS (sgL sn rs s na ns nc) 1 (recB d) = sgL sn (rs ++ [d]) s (oneMore na) ns nc := by
      have := tS_app (a := 1) (A := genB 1 sn rs) (B := []) (sa := s) (sb := 0) (dd := false) (fu := -1) (na := na) (ns := ns) (nc := nc) (Or.inr rfl) (bs := recB d) (by rw [recB_len]; omega)
      rw [if_pos (show goesOn false (-1) = true from rfl), genB_snoc] at this
      exact this
    rw [a2] at hl'
    refine ⟨u0, u1, oneMore na, he, hst, ?_⟩
    rw [show ((rs ++ [d]).length : Int) = (rs.length : Int) + 1 by simp, show ((30 + sn.length + sizes (rs ++ [d]) : Nat) : Int) = ((30 + sn.length + sizes rs : Nat) : Int) + ((m : Int) + 13) by rw [sizes_snoc]; omega]
    exact hl'
  · have := tC_app (a := 1) (A := genB 1 sn rs) (B := []) (sa := s) (sb := 0) (dd := false) (fu := -1) (na := na) (ns := ns) (nc := nc) (Or.inr rfl) (m := d.length + 13) (by omega)
    rw [if_pos (show goesOn false (-1) = true from rfl)] at this
    exact absurd this hc
end Go.Proofs.YthnpckmgnompiaaGreatDoor
