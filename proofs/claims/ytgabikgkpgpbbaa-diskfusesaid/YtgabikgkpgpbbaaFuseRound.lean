/-
  DiskFuse: the round whole, the loop, the law.
-/
import Derived.Test.YtgabikgkpgpbbaaFuseA0x
import Derived.Test.YtgabikgkpgpbbaaFuseA0y
import Derived.Test.YtgabikgkpgpbbaaFuseRA0f
import Derived.Test.YtgabikgkpgpbbaaFuseA1x
import Derived.Test.YtgabikgkpgpbbaaFuseA1y
import Derived.Test.YtgabikgkpgpbbaaFuseRA1f
import Derived.Test.YtgabikgkpgpbbaaFuseS0x
import Derived.Test.YtgabikgkpgpbbaaFuseS0y
import Derived.Test.YtgabikgkpgpbbaaFuseS1x
import Derived.Test.YtgabikgkpgpbbaaFuseS1y
import Derived.Test.YtgabikgkpgpbbaaFuseC0x
import Derived.Test.YtgabikgkpgpbbaaFuseC0y
import Derived.Test.YtgabikgkpgpbbaaFuseRC0neg
import Derived.Test.YtgabikgkpgpbbaaFuseRC0big
import Derived.Test.YtgabikgkpgpbbaaFuseC1x
import Derived.Test.YtgabikgkpgpbbaaFuseC1y
import Derived.Test.YtgabikgkpgpbbaaFuseRC1neg
import Derived.Test.YtgabikgkpgpbbaaFuseRC1big
import Derived.Test.YtgabikgkpgpbbaaFuseCont
namespace Go.Proofs.Ytgabikgkpgpbbaa
open Go.RowKit

theorem fuse_round {b off : Nat} {xs : List Opv} {cap : Nat} {F L : Int} {K S : Nat} {W0 wr : World} {k : Nat} {x : Opv} {v0 v1 : Value} {l0 l1 : Nat} {st fu na ns nc : Int} {u : Nat → Value} {Q0 : Exit → Act → World → Prop} (hl : xs.length ≤ 9223372036854775807) (hF : F ≤ 9223372036854775807) (hat : OpAt wr b (off + k * 9) x) (hpl : x.pl ≤ 2147483647) (HPO : Hid (x.po = none → x.pc = 0)) (hlt : k < xs.length) (HK : Hid (W0.heap.size = K)) (HSK : Hid (K ≤ S)) (hs0 : wr.cell? ⟨S, 0, none⟩ = some (.int .i64 l0)) (hs1 : wr.cell? ⟨S, 1, none⟩ = some (.int .i64 l1)) (hfr : ∀ o, wr.frozen? ⟨S, o, none⟩ = false) (hSl : S < wr.heap.size) (HI : Hid (DE wr K K v0 v1 l0 l1 st fu na ns nc ∧ RF F L st fu na ns nc ∧ Below K W0 wr ∧ ¬ Foot K v0 v1 S)) (h6 : u 6 = .int .i64 L) (h8 : u 8 = .int .i64 k) : Code.wp Try.prog fuseBody (Exit.then (fun a' w'' => FuI (some ⟨b, off, none⟩) xs cap F K S W0 a' w'' ∧ FuM xs a' w'' < FuM xs (FuF (some ⟨b, off, none⟩) xs.length cap F K S u) wr) Q0) (FuF (some ⟨b, off, none⟩) xs.length cap F K S u) wr := by
  by_cases g1 : x.kd < 1
  · exact fuse_C1 hl hF hat hpl HPO hlt HK HSK hs0 hs1 hfr hSl HI h6 h8 g1
  by_cases g2 : 3 < x.kd
  · exact fuse_C2 hl hF hat hpl HPO hlt HK HSK hs0 hs1 hfr hSl HI h6 h8 g1 g2
  by_cases g3 : x.ar = 0 ∨ x.ar = 1
  rotate_left
  · exact fuse_C3 hl hF hat hpl HPO hlt HK HSK hs0 hs1 hfr hSl HI h6 h8 g1 g2 g3
  rcases (show x.kd = 1 ∨ x.kd = 2 ∨ x.kd = 3 by omega) with hkd | hkd | hkd
  · rcases g3 with har | har
    · by_cases hfull : 16777216 < (l0 : Int) + x.pl
      · rcases (show (F < 0) ∨ (0 ≤ F ∧ 0 ≤ L) ∨ (0 ≤ F ∧ L < 0) by omega) with hR | hR | hR
        · exact fuse_RA0f1 hl hF hat hpl HPO hlt HK HSK hs0 hs1 hfr hSl HI h6 h8 g1 g2 hkd har hR hfull
        · exact fuse_RA0f2 hl hF hat hpl HPO hlt HK HSK hs0 hs1 hfr hSl HI h6 h8 g1 g2 hkd har hR hfull
        · exact fuse_RA0f3 hl hF hat hpl HPO hlt HK HSK hs0 hs1 hfr hSl HI h6 h8 g1 g2 hkd har hR hfull
      · rcases (show (F < 0) ∨ (0 ≤ F ∧ 0 < L) ∨ (0 ≤ F ∧ L = 0) ∨ (0 ≤ F ∧ L < 0) by omega) with hR | hR | hR | hR
        · exact fuse_BA01 hl hF hat hpl HPO hlt HK HSK hs0 hs1 hfr hSl HI h6 h8 g1 g2 hkd har hR hfull
        · exact fuse_BA02p hl hF hat hpl HPO hlt HK HSK hs0 hs1 hfr hSl HI h6 h8 g1 g2 hkd har hR hfull
        · exact fuse_BA02z hl hF hat hpl HPO hlt HK HSK hs0 hs1 hfr hSl HI h6 h8 g1 g2 hkd har hR hfull
        · exact fuse_BA03 hl hF hat hpl HPO hlt HK HSK hs0 hs1 hfr hSl HI h6 h8 g1 g2 hkd har hR hfull
    · by_cases hfull : 16777216 < (l1 : Int) + x.pl
      · rcases (show (F < 0) ∨ (0 ≤ F ∧ 0 ≤ L) ∨ (0 ≤ F ∧ L < 0) by omega) with hR | hR | hR
        · exact fuse_RA1f1 hl hF hat hpl HPO hlt HK HSK hs0 hs1 hfr hSl HI h6 h8 g1 g2 hkd har hR hfull
        · exact fuse_RA1f2 hl hF hat hpl HPO hlt HK HSK hs0 hs1 hfr hSl HI h6 h8 g1 g2 hkd har hR hfull
        · exact fuse_RA1f3 hl hF hat hpl HPO hlt HK HSK hs0 hs1 hfr hSl HI h6 h8 g1 g2 hkd har hR hfull
      · rcases (show (F < 0) ∨ (0 ≤ F ∧ 0 < L) ∨ (0 ≤ F ∧ L = 0) ∨ (0 ≤ F ∧ L < 0) by omega) with hR | hR | hR | hR
        · exact fuse_BA11 hl hF hat hpl HPO hlt HK HSK hs0 hs1 hfr hSl HI h6 h8 g1 g2 hkd har hR hfull
        · exact fuse_BA12p hl hF hat hpl HPO hlt HK HSK hs0 hs1 hfr hSl HI h6 h8 g1 g2 hkd har hR hfull
        · exact fuse_BA12z hl hF hat hpl HPO hlt HK HSK hs0 hs1 hfr hSl HI h6 h8 g1 g2 hkd har hR hfull
        · exact fuse_BA13 hl hF hat hpl HPO hlt HK HSK hs0 hs1 hfr hSl HI h6 h8 g1 g2 hkd har hR hfull
  · rcases g3 with har | har
    · rcases (show (F < 0) ∨ (0 ≤ F ∧ 0 < L) ∨ (0 ≤ F ∧ L = 0) ∨ (0 ≤ F ∧ L < 0) by omega) with hR | hR | hR | hR
      · exact fuse_BS01 hl hF hat hpl HPO hlt HK HSK hs0 hs1 hfr hSl HI h6 h8 g1 g2 hkd har hR
      · exact fuse_BS02p hl hF hat hpl HPO hlt HK HSK hs0 hs1 hfr hSl HI h6 h8 g1 g2 hkd har hR
      · exact fuse_BS02z hl hF hat hpl HPO hlt HK HSK hs0 hs1 hfr hSl HI h6 h8 g1 g2 hkd har hR
      · exact fuse_BS03 hl hF hat hpl HPO hlt HK HSK hs0 hs1 hfr hSl HI h6 h8 g1 g2 hkd har hR
    · rcases (show (F < 0) ∨ (0 ≤ F ∧ 0 < L) ∨ (0 ≤ F ∧ L = 0) ∨ (0 ≤ F ∧ L < 0) by omega) with hR | hR | hR | hR
      · exact fuse_BS11 hl hF hat hpl HPO hlt HK HSK hs0 hs1 hfr hSl HI h6 h8 g1 g2 hkd har hR
      · exact fuse_BS12p hl hF hat hpl HPO hlt HK HSK hs0 hs1 hfr hSl HI h6 h8 g1 g2 hkd har hR
      · exact fuse_BS12z hl hF hat hpl HPO hlt HK HSK hs0 hs1 hfr hSl HI h6 h8 g1 g2 hkd har hR
      · exact fuse_BS13 hl hF hat hpl HPO hlt HK HSK hs0 hs1 hfr hSl HI h6 h8 g1 g2 hkd har hR
  · rcases g3 with har | har
    · by_cases hneg : x.n < 0
      · rcases (show (F < 0) ∨ (0 ≤ F ∧ 0 ≤ L) ∨ (0 ≤ F ∧ L < 0) by omega) with hR | hR | hR
        · exact fuse_RC0neg1 hl hF hat hpl HPO hlt HK HSK hs0 hs1 hfr hSl HI h6 h8 g1 g2 hkd har hR hneg
        · exact fuse_RC0neg2 hl hF hat hpl HPO hlt HK HSK hs0 hs1 hfr hSl HI h6 h8 g1 g2 hkd har hR hneg
        · exact fuse_RC0neg3 hl hF hat hpl HPO hlt HK HSK hs0 hs1 hfr hSl HI h6 h8 g1 g2 hkd har hR hneg
      · by_cases hbig : (l0 : Int) < x.n
        · rcases (show (F < 0) ∨ (0 ≤ F ∧ 0 ≤ L) ∨ (0 ≤ F ∧ L < 0) by omega) with hR | hR | hR
          · exact fuse_RC0big1 hl hF hat hpl HPO hlt HK HSK hs0 hs1 hfr hSl HI h6 h8 g1 g2 hkd har hR hneg hbig
          · exact fuse_RC0big2 hl hF hat hpl HPO hlt HK HSK hs0 hs1 hfr hSl HI h6 h8 g1 g2 hkd har hR hneg hbig
          · exact fuse_RC0big3 hl hF hat hpl HPO hlt HK HSK hs0 hs1 hfr hSl HI h6 h8 g1 g2 hkd har hR hneg hbig
        · rcases (show (F < 0) ∨ (0 ≤ F ∧ 0 < L) ∨ (0 ≤ F ∧ L = 0) ∨ (0 ≤ F ∧ L < 0) by omega) with hR | hR | hR | hR
          · exact fuse_BC01 hl hF hat hpl HPO hlt HK HSK hs0 hs1 hfr hSl HI h6 h8 g1 g2 hkd har hR hneg hbig
          · exact fuse_BC02p hl hF hat hpl HPO hlt HK HSK hs0 hs1 hfr hSl HI h6 h8 g1 g2 hkd har hR hneg hbig
          · exact fuse_BC02z hl hF hat hpl HPO hlt HK HSK hs0 hs1 hfr hSl HI h6 h8 g1 g2 hkd har hR hneg hbig
          · exact fuse_BC03 hl hF hat hpl HPO hlt HK HSK hs0 hs1 hfr hSl HI h6 h8 g1 g2 hkd har hR hneg hbig
    · by_cases hneg : x.n < 0
      · rcases (show (F < 0) ∨ (0 ≤ F ∧ 0 ≤ L) ∨ (0 ≤ F ∧ L < 0) by omega) with hR | hR | hR
        · exact fuse_RC1neg1 hl hF hat hpl HPO hlt HK HSK hs0 hs1 hfr hSl HI h6 h8 g1 g2 hkd har hR hneg
        · exact fuse_RC1neg2 hl hF hat hpl HPO hlt HK HSK hs0 hs1 hfr hSl HI h6 h8 g1 g2 hkd har hR hneg
        · exact fuse_RC1neg3 hl hF hat hpl HPO hlt HK HSK hs0 hs1 hfr hSl HI h6 h8 g1 g2 hkd har hR hneg
      · by_cases hbig : (l1 : Int) < x.n
        · rcases (show (F < 0) ∨ (0 ≤ F ∧ 0 ≤ L) ∨ (0 ≤ F ∧ L < 0) by omega) with hR | hR | hR
          · exact fuse_RC1big1 hl hF hat hpl HPO hlt HK HSK hs0 hs1 hfr hSl HI h6 h8 g1 g2 hkd har hR hneg hbig
          · exact fuse_RC1big2 hl hF hat hpl HPO hlt HK HSK hs0 hs1 hfr hSl HI h6 h8 g1 g2 hkd har hR hneg hbig
          · exact fuse_RC1big3 hl hF hat hpl HPO hlt HK HSK hs0 hs1 hfr hSl HI h6 h8 g1 g2 hkd har hR hneg hbig
        · rcases (show (F < 0) ∨ (0 ≤ F ∧ 0 < L) ∨ (0 ≤ F ∧ L = 0) ∨ (0 ≤ F ∧ L < 0) by omega) with hR | hR | hR | hR
          · exact fuse_BC11 hl hF hat hpl HPO hlt HK HSK hs0 hs1 hfr hSl HI h6 h8 g1 g2 hkd har hR hneg hbig
          · exact fuse_BC12p hl hF hat hpl HPO hlt HK HSK hs0 hs1 hfr hSl HI h6 h8 g1 g2 hkd har hR hneg hbig
          · exact fuse_BC12z hl hF hat hpl HPO hlt HK HSK hs0 hs1 hfr hSl HI h6 h8 g1 g2 hkd har hR hneg hbig
          · exact fuse_BC13 hl hF hat hpl HPO hlt HK HSK hs0 hs1 hfr hSl HI h6 h8 g1 g2 hkd har hR hneg hbig

theorem FuX_of {ao : Option Addr} {xs : List Opv} {cap : Nat} {F : Int} {K S : Nat} {a : Act} (h : a = FuF ao xs.length cap F K S (fun i => a.tmps.getD i undef)) : ∃ u', a = FuF ao xs.length cap F K S u' ∧ u' 6 = a.tmps.getD 6 undef := ⟨_, h, rfl⟩
set_option maxRecDepth 100000 in
set_option maxHeartbeats 4000000 in
theorem fuse_exit {ao : Option Addr} {xs : List Opv} {cap : Nat} {F : Int} {K S : Nat} {wr : World} {k : Nat} {u : Nat → Value} {Q0 : Exit → Act → World → Prop} {Q1 : Act → World → Prop} (hlt : ¬ k < xs.length) (h8 : u 8 = .int .i64 k) (hexit : ∀ a', (∃ u', a' = FuF ao xs.length cap F K S u' ∧ u' 6 = u 6) → Q0 (.exit 0) a' wr) : Code.wp Try.prog fuseBody (Exit.then Q1 Q0) (FuF ao xs.length cap F K S u) wr := by
  have hlt1 : ¬ ((k : Int) < xs.length) := by omega
  have HX : Hid (∀ a', (∃ u', a' = FuF ao xs.length cap F K S u' ∧ u' 6 = u 6) → Q0 (.exit 0) a' wr) := hexit
  clear hexit
  unfold FuF
  rw [h8]
  conv => arg 2; whnf
  go_wp2_with fail
  refine HX.out _ ?_
  exact FuX_of rfl
/-- What holds behind the loop. -/
def FuX (F : Int) (K : Nat) (W0 : World) (wx : World) : Prop := ∃ (L : Int) (v0 v1 : Value) (l0 l1 : Nat) (st fu na ns nc : Int), DE wx K K v0 v1 l0 l1 st fu na ns nc ∧ RF F L st fu na ns nc ∧ Below K W0 wx
theorem fuse_loop {ao : Option Addr} {xs : List Opv} {cap : Nat} {F : Int} {K S : Nat} {W0 wz : World} {u : Nat → Value} {Q0 : Exit → Act → World → Prop} (hO : Ops W0 ao xs) (hl : xs.length ≤ 9223372036854775807) (hF : F ≤ 9223372036854775807) (hpl : ∀ y ∈ xs, y.pl ≤ 2147483647) (hpn : ∀ y ∈ xs, y.po = none → y.pc = 0) (hK : W0.heap.size = K) (hSK : K ≤ S)
    (h0 : FuR xs F K S W0 (u 6) (u 8) wz) (hexit : ∀ u' wx, FuX F K W0 wx → Q0 (.exit 0) (FuF ao xs.length cap F K S u') wx) : Code.wp Try.prog (Code.loop fuseBody) Q0 (FuF ao xs.length cap F K S u) wz := by
  refine wp_loop (FuI ao xs cap F K S W0) (FuM xs) ⟨u, rfl, h0⟩ ?_
  rintro a wr ⟨u, rfl, k, L, v0, v1, l0, l1, st, fu, na, ns, nc, hk, h8, h6, hs0, hs1, hfr, hSl, HI⟩
  by_cases hlt : k < xs.length
  · obtain ⟨x, hx⟩ : ∃ x, xs[k]? = some x := ⟨_, List.getElem?_eq_getElem hlt⟩
    obtain ⟨b, off, rfl, hat⟩ := hO k x hx
    exact fuse_round hl hF (hat.below (hK ▸ HI.out.2.2.1)) (hpl x (List.mem_of_getElem? hx)) (hpn x (List.mem_of_getElem? hx)) hlt hK hSK hs0 hs1 hfr hSl HI h6 h8
  · refine fuse_exit hlt h8 ?_
    rintro a' ⟨u', rfl, h6'⟩
    exact hexit u' wr ⟨L, v0, v1, l0, l1, st, fu, na, ns, nc, HI.out.1, HI.out.2.1, HI.out.2.2.1⟩
end Go.Proofs.Ytgabikgkpgpbbaa
