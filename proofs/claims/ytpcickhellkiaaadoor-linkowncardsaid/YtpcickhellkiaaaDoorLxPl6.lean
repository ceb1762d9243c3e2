/-
  The law's plays: Noise.
-/
import Derived.Test.YtpcickhellkiaaaDoorLxPj
import Derived.Deep.RegionHeld3
namespace Go.Proofs.YtpcickhellkiaaaDoor
open Go.RowKit

set_option maxRecDepth 100000 in
set_option maxHeartbeats 4000000 in
theorem pl_6 {w0 X : World} {l : Option Addr} {rb : Nat} {F G : Nat → Prop} {σ : LSt} (h : PR w0 X l rb F G σ σ) (ho : SOk σ) (hE : ErrType w0) (sd ix nn : Int) {po : Option Addr} {m c : Nat} {bs : List Int} (hb : Byts w0 po m bs) (hm : m + 90 ≤ 140737488355328) : Calls Tryd.prog 24 #[.pointer l, .pointer (some ⟨rb, 0, none⟩), .agg #[.int .i64 (6), .int .i64 sd, .int .i64 ix, .int .i64 nn, .slice po m c]] X fun e w' => e = .returned (.bool true) ∧ PRq w0 X l rb F G (cS (fun c => noiseC c bs) σ sd) (cS (fun c => noiseC c bs) σ sd) w' := by
  have HO : Hid (SOk σ ∧ ErrType w0) := ⟨ho, hE⟩
  have HH : Calls Tryd.prog 45 #[.slice po m c] (X.alloc (.cells #[.int .i64 (6), .int .i64 sd, .int .i64 ix, .int .i64 nn, .slice po m c] 45)) fun e w' => e = .returned (.slice (some ⟨X.heap.size + 1, 0, none⟩) m (m + 90)) ∧ Hid (PJ w0 w' l rb F G σ X.heap.size #[.int .i64 (6), .int .i64 sd, .int .i64 ix, .int .i64 nn, .slice po m c] po m bs ∧ Below X.heap.size X w') := by
    have b1 := (Below.refl X.heap.size X).alloc (Nat.le_refl _) (.cells #[.int .i64 (6), .int .i64 sd, .int .i64 ix, .int .i64 nn, .slice po m c] 45)
    have g := Hand_any (c := c) (X.alloc (.cells #[.int .i64 (6), .int .i64 sd, .int .i64 ix, .int .i64 nn, .slice po m c] 45)) (hb.below (below_then h.b b1)) hm
    simp only [World.size_alloc] at g
    refine g.mono fun e w' ⟨e1, e2, e3⟩ => ⟨e1, PJ.make h hb e3 e2, b1.trans (e3.mono (by omega))⟩
  clear h ho hE hb
  go_enter Tryd.func24, Tryd.ntmps24
  go_wp2_with fail
  refine HH.mono ?_
  rintro _ V ⟨rfl, HJ⟩
  have co := HJ.out.1.o
  have HI : Hid (PRq w0 V l rb F G σ σ V) := HJ.out.1.pr.start
  clear HH
  have HR := dNoise (c := c) HI.out (HJ.out.1.args HI.out) sd
  have HS : Hid (∀ z, PRq w0 V l rb F G σ (cS (fun c => noiseC c bs) σ sd) z → Calls Tryd.prog 19 #[.pointer l, .int .i64 sd, .slice (some ⟨X.heap.size + 1, 0, none⟩) m (m + 90)] z fun e w' => ∃ v, e = .returned v ∧ Hid (EJ w0 V l rb F G (cS (fun c => noiseC c bs) σ sd) (cS (fun c => noiseC c bs) σ sd) v (cV (0, 3) (0, 1) (fun c => noiseE c bs) σ sd).1 (cV (0, 3) (0, 1) (fun c => noiseE c bs) σ sd).2 w')) := fun z hz => (jNoise hz (HJ.out.1.inn hz) sd)
  generalize (cV (0, 3) (0, 1) (fun c => noiseE c bs) σ sd).1 = at6 at HR HS
  generalize (cV (0, 3) (0, 1) (fun c => noiseE c bs) σ sd).2 = cd6 at HR HS
  go_wp2_with fail
  refine HR.mono ?_
  rintro _ w1 ⟨rfl, H1⟩
  have s1 := HJ.out.1.cells H1.out
  clear co HI HR
  go_wp2_with fail
  refine (HS.out w1 H1.out).mono ?_
  rintro _ w2 ⟨v2, rfl, H2⟩
  have s2 := HJ.out.1.cells H2.out.2
  clear s1 H1 HS
  go_wp2_with fail
  refine (jIs H2.out.2 HO.out.2 H2.out.1).mono ?_
  rintro _ w5 ⟨rfl, H5⟩
  have s5 := HJ.out.1.cells H5.out
  clear H2 HO s2
  go_wp2_with fail
  refine (Kept_true w5 (HJ.out.1.handed H5.out) (HJ.out.1.args H5.out) hm).mono ?_
  rintro _ wk ⟨rfl, kk, rfl⟩
  have HP : Hid (PE w0 X l rb F G (cS (fun c => noiseC c bs) σ sd) (cS (fun c => noiseC c bs) σ sd) X.heap.size m (w5.drewN kk)) := (HJ.out.1.last HJ.out.2 rfl H5.out).below (below_drewN (Below.refl _ _) kk)
  clear HJ
  generalize w5.drewN kk = wz at *
  go_wp2_with fail
  go_loopw [15] (fun t15 wx => ∃ i : Nat, i ≤ m ∧ t15 = .int .i64 i ∧ Hid (PE w0 X l rb F G (cS (fun c => noiseC c bs) σ sd) (cS (fun c => noiseC c bs) σ sd) X.heap.size m wx)) (fun t15 _ => m - (intOf t15).toNat)
  case atStart => exact ⟨0, Nat.zero_le _, rfl, HP⟩
  case round =>
    obtain ⟨i, hi, rfl, HL⟩ := hrel
    by_cases hlt : i < m
    · have hlt1 : (i : Int) < m := by omega
      obtain ⟨⟨u, k1⟩, k2, k3⟩ := HL.out.put hlt 238
      have HK : Hid (type_of% k3) := k3
      clear k3 HL
      go_wp2_with fail
      go_roundw
      case rel => exact ⟨i + 1, hlt, by go_num, HK⟩
      case measure => simp [intOf]; omega
    · have hlt1 : ¬ (i : Int) < m := by omega
      go_wp2_with fail
      go_ret
      exact ⟨rfl, HL.out.fin⟩
end Go.Proofs.YtpcickhellkiaaaDoor
