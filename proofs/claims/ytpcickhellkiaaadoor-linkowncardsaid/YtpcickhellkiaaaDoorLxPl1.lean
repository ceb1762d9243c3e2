/-
  The law's plays: Send.
-/
import Derived.Test.YtpcickhellkiaaaDoorLxPj
import Derived.Deep.RegionHeld3
namespace Go.Proofs.YtpcickhellkiaaaDoor
open Go.RowKit

set_option maxRecDepth 100000 in
set_option maxHeartbeats 4000000 in
theorem pl_1 {w0 X : World} {l : Option Addr} {rb : Nat} {F G : Nat → Prop} {σ : LSt} (h : PR w0 X l rb F G σ σ) (ho : SOk σ) (hE : ErrType w0) (sd ix nn : Int) {po : Option Addr} {m c : Nat} {bs : List Int} (hb : Byts w0 po m bs) (hm : m + 90 ≤ 140737488355328) : Calls Tryd.prog 24 #[.pointer l, .pointer (some ⟨rb, 0, none⟩), .agg #[.int .i64 (1), .int .i64 sd, .int .i64 ix, .int .i64 nn, .slice po m c]] X fun e w' => e = .returned (.bool true) ∧ PRq w0 X l rb F G (cS (fun c => sendC c bs) σ sd) (cS (fun c => sendC c bs) σ sd) w' := by
  have HO : Hid (SOk σ ∧ ErrType w0) := ⟨ho, hE⟩
  have HH : Calls Tryd.prog 45 #[.slice po m c] (X.alloc (.cells #[.int .i64 (1), .int .i64 sd, .int .i64 ix, .int .i64 nn, .slice po m c] 45)) fun e w' => e = .returned (.slice (some ⟨X.heap.size + 1, 0, none⟩) m (m + 90)) ∧ Hid (PJ w0 w' l rb F G σ X.heap.size #[.int .i64 (1), .int .i64 sd, .int .i64 ix, .int .i64 nn, .slice po m c] po m bs ∧ Below X.heap.size X w') := by
    have b1 := (Below.refl X.heap.size X).alloc (Nat.le_refl _) (.cells #[.int .i64 (1), .int .i64 sd, .int .i64 ix, .int .i64 nn, .slice po m c] 45)
    have g := Hand_any (c := c) (X.alloc (.cells #[.int .i64 (1), .int .i64 sd, .int .i64 ix, .int .i64 nn, .slice po m c] 45)) (hb.below (below_then h.b b1)) hm
    simp only [World.size_alloc] at g
    refine g.mono fun e w' ⟨e1, e2, e3⟩ => ⟨e1, PJ.make h hb e3 e2, b1.trans (e3.mono (by omega))⟩
  clear h ho hE hb
  go_enter Tryd.func24, Tryd.ntmps24
  go_wp2_with fail
  refine HH.mono ?_
  rintro _ V ⟨rfl, HJ⟩
  have co := HJ.out.1.o
  have HI : Hid (PRq w0 V l rb F G σ σ V) := HJ.out.1.pr.start
  clear HH
  have HS : Hid (∀ z, PRq w0 V l rb F G σ σ z → Calls Tryd.prog 11 #[.pointer l, .int .i64 sd, .slice (some ⟨X.heap.size + 1, 0, none⟩) m (m + 90)] z fun e w' => ∃ v, e = .returned v ∧ Hid (EJ w0 V l rb F G (cS (fun c => sendC c bs) σ sd) σ v 0 (cV 3 1 (fun c => sendE c bs) σ sd) w') ∧ (∀ j, w'.cell? ⟨X.heap.size, j, none⟩ = (#[.int .i64 (1), .int .i64 sd, .int .i64 ix, .int .i64 nn, .slice po m c] : Array Value)[j]?)) := fun z hz => (jSend hz (HJ.out.1.inn hz) sd).mono fun e w' ⟨v, e1, e2⟩ => ⟨v, e1, e2.out, HJ.out.1.cells e2.out.2⟩
  have HR : Hid (∀ v z, EJ w0 V l rb F G (cS (fun c => sendC c bs) σ sd) σ v 0 (cV 3 1 (fun c => sendE c bs) σ sd) z → Calls Tryd.prog 46 #[.pointer (some ⟨rb, 0, none⟩), .int .i64 sd, .slice po m c] z fun e w' => e = .returned (.int .i64 (cV 3 1 (fun c => sendE c bs) σ sd)) ∧ Hid (EJ w0 V l rb F G (cS (fun c => sendC c bs) σ sd) (cS (fun c => sendC c bs) σ sd) v 0 (cV 3 1 (fun c => sendE c bs) σ sd) w') ∧ (∀ j, w'.cell? ⟨X.heap.size, j, none⟩ = (#[.int .i64 (1), .int .i64 sd, .int .i64 ix, .int .i64 nn, .slice po m c] : Array Value)[j]?)) := fun v z hz => (dSend hz.2 hz.1 (HJ.out.1.args hz.2) sd).mono fun e w' ⟨e1, e2⟩ => ⟨e1, e2.out, HJ.out.1.cells e2.out.2⟩
  have HF : Hid (∀ v z, EJ w0 V l rb F G (cS (fun c => sendC c bs) σ sd) (cS (fun c => sendC c bs) σ sd) v 0 (cV 3 1 (fun c => sendE c bs) σ sd) z → Calls Tryd.prog 20 #[v, .int .i64 0, .int .i64 (cV 3 1 (fun c => sendE c bs) σ sd)] z fun e w' => e = .returned (.bool true) ∧ Hid (PRq w0 V l rb F G (cS (fun c => sendC c bs) σ sd) (cS (fun c => sendC c bs) σ sd) w') ∧ (∀ j, w'.cell? ⟨X.heap.size, j, none⟩ = (#[.int .i64 (1), .int .i64 sd, .int .i64 ix, .int .i64 nn, .slice po m c] : Array Value)[j]?)) := fun v z hz => (jIs hz.2 HO.out.2 hz.1).mono fun e w' ⟨e1, e2⟩ => ⟨e1, e2.out, HJ.out.1.cells e2.out⟩
  clear HO
  generalize (cV 3 1 (fun c => sendE c bs) σ sd) = cd at HS HR HF
  go_wp2_with fail
  go_region_held3 (fun z => ∀ j, z.cell? ⟨X.heap.size, j, none⟩ = (#[.int .i64 (1), .int .i64 sd, .int .i64 ix, .int .i64 nn, .slice po m c] : Array Value)[j]?) (simp [*]) (first | (go_at_call 11; refine (HS.out _ ?_).mono ?_; (first | (with_reducible exact HI.out) | (with_reducible exact HI.out.drew) | exact HI.out.drewN _); clear HS; rintro _ w1 ⟨v1, rfl, H1, s1⟩) | (go_at_call 46; refine (HR.out v1 _ ?_).mono ?_; (first | (with_reducible exact H1.out) | (with_reducible exact H1.out.drew) | exact H1.out.drewN _); clear HR; rintro _ w2 ⟨rfl, H2, s2⟩) | (go_at_call 20; refine (HF.out _ _ ?_).mono ?_; (first | (with_reducible exact H2.out) | (with_reducible exact H2.out.drew) | exact H2.out.drewN _); clear HF; rintro _ w3 ⟨rfl, H3, s3⟩))
  go_wp2_with fail
  refine (Kept_true w3 (HJ.out.1.handed H3.out) (HJ.out.1.args H3.out) hm).mono ?_
  rintro _ wk ⟨rfl, kk, rfl⟩
  have HP : Hid (PE w0 X l rb F G (cS (fun c => sendC c bs) σ sd) (cS (fun c => sendC c bs) σ sd) X.heap.size m (w3.drewN kk)) := (HJ.out.1.last HJ.out.2 rfl H3.out).below (below_drewN (Below.refl _ _) kk)
  clear HJ
  generalize w3.drewN kk = wz at *
  go_wp2_with fail
  go_loopw [15] (fun t15 wx => ∃ i : Nat, i ≤ m ∧ t15 = .int .i64 i ∧ Hid (PE w0 X l rb F G (cS (fun c => sendC c bs) σ sd) (cS (fun c => sendC c bs) σ sd) X.heap.size m wx)) (fun t15 _ => m - (intOf t15).toNat)
  case atStart => exact ⟨0, Nat.zero_le _, rfl, HP⟩
  case round =>
    obtain ⟨i, hi, rfl, HL⟩ := hrel
    by_cases hlt : i < m
    · have hlt1 : (i : Int) < m := by omega
      obtain ⟨⟨u, k1⟩, k2, k3⟩ := HL.out.put hlt 238
      have HK : Hid (type_of% k3) := k3
      clear k3 HL
      go_wp2_with fail
      go_roundw
      case rel => exact ⟨i + 1, hlt, by go_num, HK⟩
      case measure => simp [intOf]; omega
    · have hlt1 : ¬ (i : Int) < m := by omega
      go_wp2_with fail
      go_ret
      exact ⟨rfl, HL.out.fin⟩
end Go.Proofs.YtpcickhellkiaaaDoor
