/-
  The log's Open, whatever a log's areas hold.
-/
import Derived.Test.YthnpckmgnompiaaGreatDoorWComp
import Derived.Test.YthnpckmgnompiaaGreatDoorWMend
import Derived.Test.YthnpckmgnompiaaGreatDoorWRep2
import Derived.Test.YthnpckmgnompiaaGreatDoorWOpenB
namespace Go.Proofs.YthnpckmgnompiaaGreatDoor
open Go.RowKit Go.BigFrame

/-- What was found stays where blocks ahead of it are written. -/
theorem FndOk.far {w w' : World} {P : Nat → Prop} {N : Nat} {bs : List Int} {ar : Int} {sy : Nat} {f : Fnd} (h : FndOk w N bs ar sy f) (o : Off P w w') (hP : ∀ k, P k → k < N) : FndOk w' N bs ar sy f := by
  obtain ⟨h1, h2, h3⟩ := h
  refine ⟨h1, h2, h3.imp id ?_⟩
  rintro ⟨g, sn, rs, us, e1, e2, e3, e4, hb, hn, hv, hp, hf1, hf2⟩
  refine ⟨g, sn, rs, us, e1, e2, e3, e4, byts_off hb o (fun b q _ e hq => by have := hf1 b q e; have := hP b hq; omega), hn, hv.off o (fun q hq hq' => by have := (hv.lt hq).1; have := hP q hq'; omega), ⟨hp.1, fun j u d hu hd => ?_⟩, hf1, hf2⟩
  obtain ⟨a, c, e, hby, hn'⟩ := hp.2 j u d hu hd
  refine ⟨a, c, e, byts_off hby o (fun b q _ e' hq => ?_), hn'⟩
  subst e
  subst e'
  have := hf2 j b q _ _ hu
  have := hP b hq
  omega
/-- What Open answers: the log, or that the disk refused a write. -/
def OpenG (x : World) (B K : Nat) (v0 v1 : Value) (σ : Sg) (os : List Dop) (g : Nat) (sn : List Int) (rs : List (List Int)) (tn wh : Int) (e : Ending) (w' : World) : Prop :=
  ∃ u0 u1, DStep x w' K v0 v1 u0 u1 ∧ (((runS σ os).2 = 0 ∧ ∃ L a n k v2 vs, e = .returned (.tuple #[.pointer (some ⟨L, 0, none⟩), .agg #[.int .u64 g, .slice a n k, v2, .int .i64 tn], .nilIface]) ∧ Lg w' B K L u0 u1 (runS σ os).1 false g ((g : Int) % 2) rs.length 0 wh ∧ Row w' x.heap.size (.slice a n k) sn ∧ VRow w' x.heap.size 22 v2 vs ∧ Pcs w' vs rs ∧ x.heap.size ≤ L ∧ ∃ D, L < D ∧ (∀ k, Foot K u0 u1 k → k < D) ∧ OwnQ w' D (.slice a n k) v2 sn vs rs) ∨
    ((runS σ os).2 ≠ 0 ∧ ∃ ev, e = .returned (.tuple #[.pointer none, .agg #[.int .u64 0, .slice none 0 0, .slice none 0 0, .int .i64 0], ev]) ∧ WDisk x.heap.size (runS σ os).2 ev w' ∧ DskS w' B K u0 u1 (runS σ os).1))
theorem DStep.past {x y z : World} {K R : Nat} {v0 v1 u0 u1 : Value} (h : DStep x y K v0 v1 u0 u1) (ho : Off (fun k => k = R) y z) (hR : x.heap.size ≤ R) : DStep x z K v0 v1 u0 u1 := ⟨h.off.join ho (fun i hi e => by omega), h.foot⟩
theorem WDisk.low {N N' : Nat} {c : Int} {ev : Value} {y : World} (h : WDisk N c ev y) (hN : N' ≤ N) : WDisk N' c ev y := by
  obtain ⟨b, b', e, c0, c1, c2, c3, hF, l1, l2⟩ := h
  exact ⟨b, b', e, c0, c1, c2, c3, hF, by omega, by omega⟩
section
variable {x : World} {B K : Nat} {v0 v1 : Value} {σ : Sg} {g : Nat} {sn : List Int} {rs : List (List Int)}
theorem play_row {y : World} {C : Nat} {v : Value} {os : List Dop} (h : DskS y B K v0 v1 σ) (hs : SRow y C B K v0 v1 v os) (hC : ∀ k, Foot K v0 v1 k → k < C) (hn : os.length ≤ 100) :
    Calls Tryz.prog 16 #[v] y fun e y' => ∃ ev u0 u1, e = .returned ev ∧ DskS y' B K u0 u1 (runS σ os).1 ∧ DStep y y' K v0 v1 u0 u1 ∧ (((runS σ os).2 = 0 ∧ ev = .nilIface) ∨ ((runS σ os).2 ≠ 0 ∧ WDisk y.heap.size (runS σ os).2 ev y')) := by
  rcases hs.form with ⟨rfl, rfl⟩ | ⟨gb, c, rfl, hg⟩
  · refine (play_nil y).mono ?_
    rintro e y' ⟨rfl, rfl⟩
    exact ⟨_, v0, v1, rfl, h, DStep.refl _ _ _ _, Or.inl ⟨rfl, rfl⟩⟩
  · refine (play_disk h hs.at_ (fun gf => by have := hC _ gf; omega) (by omega)).mono ?_
    rintro e y' ⟨ev, u0, u1, rfl, hd, hst, hr⟩
    exact ⟨ev, u0, u1, rfl, hd, hst, hr.imp id (fun ⟨h0, b, b', r⟩ => ⟨h0, b, b', r⟩)⟩
set_option maxRecDepth 100000 in
set_option maxHeartbeats 16000000 in
theorem lOpen_gen {nb : List Int} {na : Int} {ns os_ : Nat} (h : DskS x B K v0 v1 σ) (hB : B ≤ x.heap.size) (hd : σ.dead = false) (ok : σ.Ok) (hr0 : Rng σ.x0) (hr1 : Rng σ.x1) (hH : Halves x) (hR : HdR)
    (hpick : ∀ w' f0 f1, FndOk w' x.heap.size σ.x0 0 σ.s0 f0 → FndOk w' x.heap.size σ.x1 1 σ.s1 f1 → ∃ fn fo : Fnd, (∀ y, Calls Tryz.prog 24 #[.agg (f0.vals ++ f1.vals).toArray] y fun e w'' => e = .returned (.tuple #[.agg fn.vals.toArray, .agg fo.vals.toArray, .nilIface]) ∧ Below y.heap.size y w'') ∧ FndOk w' x.heap.size nb na ns fn ∧ fo.sz = os_)
    (hnb : nb.length ≤ 16777216) (hob : os_ ≤ 16777216) (hp : psS nb na = some (g, sn, rs)) (hrs : ∀ d ∈ rs, d.length ≤ 20000) (hwh : 30 + sn.length + sizes rs ≤ nb.length) (hrl : rs.length ≤ 16777216) :
    Calls Tryz.prog 7 #[.pointer (some ⟨K, 0, none⟩)] x (OpenG x B K v0 v1 σ (mendOps ⟨g, none, 0, 0, none, 0, 0, nb.length, ns, 30 + sn.length + sizes rs⟩ ⟨0, none, 0, 0, none, 0, 0, os_, 0, 0⟩) g sn rs ((os_ : Int) + nb.length - ((30 + sn.length + sizes rs : Nat) : Int)) ((30 + sn.length + sizes rs : Nat) : Int)) := by
  obtain ⟨OS, hOS⟩ : ∃ l, mendOps ⟨g, none, 0, 0, none, 0, 0, nb.length, ns, 30 + sn.length + sizes rs⟩ ⟨0, none, 0, 0, none, 0, 0, os_, 0, 0⟩ = l := ⟨_, rfl⟩
  have HSc : Hid (∀ y, Below x.heap.size x y → Calls Tryz.prog 23 #[.pointer (some ⟨K, 0, none⟩)] y fun e w' => ∃ f0 f1 fn fo : Fnd, e = .returned (.tuple #[.agg (f0.vals ++ f1.vals).toArray, .nilIface]) ∧ (∀ y, Calls Tryz.prog 24 #[.agg (f0.vals ++ f1.vals).toArray] y fun e w'' => e = .returned (.tuple #[.agg fn.vals.toArray, .agg fo.vals.toArray, .nilIface]) ∧ Below y.heap.size y w'') ∧ FndOk w' x.heap.size nb na ns fn ∧ fo.sz = os_ ∧ Below y.heap.size y w') := fun y hy => by
    refine (scan_ok (h.under hy) hd ok hr0 hr1 (hH.under hy) hR).mono ?_
    rintro e w' ⟨f0, f1, rfl, k0, k1, hb⟩
    obtain ⟨fn, fo, hc, hf, ho⟩ := hpick w' f0 f1 (k0.low hy.size) (k1.low hy.size)
    exact ⟨f0, f1, fn, fo, rfl, hc, hf, ho, hb⟩
  have HL : Hid (DskS x B K v0 v1 σ ∧ nb.length ≤ 16777216 ∧ os_ ≤ 16777216 ∧ psS nb na = some (g, sn, rs) ∧ (∀ d ∈ rs, d.length ≤ 20000) ∧ 30 + sn.length + sizes rs ≤ nb.length ∧ rs.length ≤ 16777216 ∧ B ≤ x.heap.size) := ⟨h, hnb, hob, hp, hrs, hwh, hrl, hB⟩
  have HOS : Hid (mendOps ⟨g, none, 0, 0, none, 0, 0, nb.length, ns, 30 + sn.length + sizes rs⟩ ⟨0, none, 0, 0, none, 0, 0, os_, 0, 0⟩ = OS) := hOS
  rw [hOS]
  clear h hd ok hr0 hr1 hH hR hpick hnb hob hp hrs hwh hrl hB hOS
  go_enter Tryz.func7, Tryz.ntmps7
  go_wp2_with fail
  refine (HSc.out _ ((Below.refl _ _).alloc (Nat.le_refl _) _)).mono ?_
  rintro e w1 ⟨⟨g0, sa0, sl0, sc0, ra0, rn0, rc0, sz0, sy0, wh0⟩, ⟨g1, sa1, sl1, sc1, ra1, rn1, rc1, sz1, sy1, wh1⟩, ⟨gn, san, sln, scn, ran, rnn, rcn, szn, syn, whn⟩, ⟨go, sao, slo, sco, rao, rno, rco, szo, syo, who⟩, rfl, hch, hfn, hfo, b1⟩
  have HFn : Hid (FndOk w1 x.heap.size nb na ns ⟨gn, san, sln, scn, ran, rnn, rcn, szn, syn, whn⟩ ∧ szo = os_) := ⟨hfn, hfo⟩
  have HEq : Hid (gn = g ∧ szn = nb.length ∧ syn = ns ∧ whn = 30 + sn.length + sizes rs ∧ sln = sn.length) := by
    obtain ⟨e1, e2, e3⟩ := hfn
    rcases e3 with ⟨e4, _⟩ | ⟨g', sn', rs', us', e4, e5, e6, e7, _⟩
    · rw [HL.out.2.2.2.1] at e4; cases e4
    · rw [HL.out.2.2.2.1] at e4
      simp only [Option.some.injEq, Prod.mk.injEq] at e4
      obtain ⟨rfl, rfl, rfl⟩ := e4
      exact ⟨e5, e1, e2, e6, e7⟩
  have HCh : Hid (∀ y, Calls Tryz.prog 24 #[.agg #[.int .u64 g0, .slice sa0 sl0 sc0, .slice ra0 rn0 rc0, .int .i64 sz0, .int .i64 sy0, .int .i64 wh0, .int .u64 g1, .slice sa1 sl1 sc1, .slice ra1 rn1 rc1, .int .i64 sz1, .int .i64 sy1, .int .i64 wh1]] y fun e w' => e = .returned (.tuple #[.agg #[.int .u64 gn, .slice san sln scn, .slice ran rnn rcn, .int .i64 szn, .int .i64 syn, .int .i64 whn], .agg #[.int .u64 go, .slice sao slo sco, .slice rao rno rco, .int .i64 szo, .int .i64 syo, .int .i64 who], .nilIface]) ∧ Below y.heap.size y w') := hch
  have HMe : Hid (∀ y, Below x.heap.size x y → Calls Tryz.prog 25 #[.pointer (some ⟨K, 0, none⟩), .agg #[.int .u64 gn, .slice san sln scn, .slice ran rnn rcn, .int .i64 szn, .int .i64 syn, .int .i64 whn], .agg #[.int .u64 go, .slice sao slo sco, .slice rao rno rco, .int .i64 szo, .int .i64 syo, .int .i64 who]] y fun e w' => ∃ v, e = .returned v ∧ SRow w' y.heap.size B K v0 v1 v OS ∧ Below y.heap.size y w') := fun y hy => by
    obtain ⟨e1, e2, e3, e4, e5⟩ := HEq.out
    have := mend_any (f0 := ⟨gn, san, sln, scn, ran, rnn, rcn, szn, syn, whn⟩) (f1 := ⟨go, sao, slo, sco, rao, rno, rco, szo, syo, who⟩) (HL.out.1.under hy) (by simp only; omega)
    have em : mendOps ⟨gn, san, sln, scn, ran, rnn, rcn, szn, syn, whn⟩ ⟨go, sao, slo, sco, rao, rno, rco, szo, syo, who⟩ = OS := by
      rw [← HOS.out]
      simp only [mendOps, e1, e2, e3, e4, HFn.out.2]
    rw [em] at this
    exact this
  have HRp : Hid (∀ y, FndOk y x.heap.size nb na ns ⟨gn, san, sln, scn, ran, rnn, rcn, szn, syn, whn⟩ → Calls Tryz.prog 26 #[.agg #[.int .u64 gn, .slice san sln scn, .slice ran rnn rcn, .int .i64 szn, .int .i64 syn, .int .i64 whn], .agg #[.int .u64 go, .slice sao slo sco, .slice rao rno rco, .int .i64 szo, .int .i64 syo, .int .i64 who]] y (RplQ y gn ((szo : Int) + szn - whn) sn rs)) := fun y hy => by
    obtain ⟨_, hnb, hob, hp, hrs, hwh, hrl, _⟩ := HL.out
    obtain ⟨q1, q2, q3, q4, q5⟩ := HEq.out
    obtain ⟨e1, e2, e3⟩ := hy
    rcases e3 with ⟨e4, _⟩ | ⟨g', sn', rs', us', e4, e5, e6, e7, e8, e9, e10, e11, _, _⟩
    · rw [hp] at e4; cases e4
    · rw [hp] at e4
      simp only [Option.some.injEq, Prod.mk.injEq] at e4
      obtain ⟨rfl, rfl, rfl⟩ := e4
      have hs := HFn.out.2
      exact replay_any (f0 := ⟨gn, san, sln, scn, ran, rnn, rcn, szn, syn, whn⟩) (f1 := ⟨go, sao, slo, sco, rao, rno, rco, szo, syo, who⟩) y e8 e9 e10 e11 hrl (fun d hd => by have := hrs d hd; omega) (by simp only; omega) (by simp only; omega) (by simp only; omega) (by simp only; omega)
  have HRn : Hid (rnn = rs.length) := by
    obtain ⟨e1, e2, e3⟩ := hfn
    rcases e3 with ⟨e4, _⟩ | ⟨g', sn', rs', us', e4, e5, e6, e7, e8, e9, e10, e11, _, _⟩
    · rw [HL.out.2.2.2.1] at e4; cases e4
    · rw [HL.out.2.2.2.1] at e4
      simp only [Option.some.injEq, Prod.mk.injEq] at e4
      obtain ⟨rfl, rfl, rfl⟩ := e4
      obtain ⟨a', c', e, _⟩ := e10.isSlice
      simp at e
      have := e11.1
      unfold Hid
      omega
  have hgb : 0 ≤ gn := by have := HEq.out.1; omega
  clear hch hfn hfo
  have HW1 : Hid (Below x.heap.size x w1) := ((Below.refl _ _).alloc (Nat.le_refl _) _).trans (b1.mono (by simp))
  have HR0 : Hid ((∀ q, w1.cell? ⟨x.heap.size, q, none⟩ = (#[Value.int .u64 0, Value.slice none 0 0, Value.slice none 0 0, Value.int .i64 0] : Array Value)[q]?) ∧ (∀ q, w1.frozen? ⟨x.heap.size, q, none⟩ = false) ∧ x.heap.size < w1.heap.size) := ⟨fun q => (b1.cell (p := ⟨x.heap.size, q, none⟩) (by simp)).trans (World.cell?_alloc_new _ _ _ _), fun q => (b1.frozen (p := ⟨x.heap.size, q, none⟩) (by simp)).trans (World.frozen?_alloc_new _ _ _ _), by have := b1.size; simp at this; omega⟩
  clear b1 HSc
  simp only [Fnd.vals, List.cons_append, List.nil_append]
  obtain ⟨xsz0, hxsz0⟩ : ∃ z : Int, ((sz0 : Nat) : Int) = z := ⟨_, rfl⟩
  rw [hxsz0] at HCh ⊢
  clear hxsz0
  obtain ⟨xsy0, hxsy0⟩ : ∃ z : Int, ((sy0 : Nat) : Int) = z := ⟨_, rfl⟩
  rw [hxsy0] at HCh ⊢
  clear hxsy0
  obtain ⟨xwh0, hxwh0⟩ : ∃ z : Int, ((wh0 : Nat) : Int) = z := ⟨_, rfl⟩
  rw [hxwh0] at HCh ⊢
  clear hxwh0
  obtain ⟨xsz1, hxsz1⟩ : ∃ z : Int, ((sz1 : Nat) : Int) = z := ⟨_, rfl⟩
  rw [hxsz1] at HCh ⊢
  clear hxsz1
  obtain ⟨xsy1, hxsy1⟩ : ∃ z : Int, ((sy1 : Nat) : Int) = z := ⟨_, rfl⟩
  rw [hxsy1] at HCh ⊢
  clear hxsy1
  obtain ⟨xwh1, hxwh1⟩ : ∃ z : Int, ((wh1 : Nat) : Int) = z := ⟨_, rfl⟩
  rw [hxwh1] at HCh ⊢
  clear hxwh1
  obtain ⟨xszn, hxszn⟩ : ∃ z : Int, ((szn : Nat) : Int) = z := ⟨_, rfl⟩
  rw [hxszn] at HCh HMe HRp
  have HXszn : Hid (((szn : Nat) : Int) = xszn) := hxszn
  clear hxszn
  obtain ⟨xsyn, hxsyn⟩ : ∃ z : Int, ((syn : Nat) : Int) = z := ⟨_, rfl⟩
  rw [hxsyn] at HCh HMe HRp
  have HXsyn : Hid (((syn : Nat) : Int) = xsyn) := hxsyn
  clear hxsyn
  obtain ⟨xwhn, hxwhn⟩ : ∃ z : Int, ((whn : Nat) : Int) = z := ⟨_, rfl⟩
  rw [hxwhn] at HCh HMe HRp
  have HXwhn : Hid (((whn : Nat) : Int) = xwhn) := hxwhn
  clear hxwhn
  obtain ⟨xszo, hxszo⟩ : ∃ z : Int, ((szo : Nat) : Int) = z := ⟨_, rfl⟩
  rw [hxszo] at HCh HMe HRp
  have HXszo : Hid (((szo : Nat) : Int) = xszo) := hxszo
  clear hxszo
  obtain ⟨xsyo, hxsyo⟩ : ∃ z : Int, ((syo : Nat) : Int) = z := ⟨_, rfl⟩
  rw [hxsyo] at HCh HMe HRp
  have HXsyo : Hid (((syo : Nat) : Int) = xsyo) := hxsyo
  clear hxsyo
  obtain ⟨xwho, hxwho⟩ : ∃ z : Int, ((who : Nat) : Int) = z := ⟨_, rfl⟩
  rw [hxwho] at HCh HMe HRp
  have HXwho : Hid (((who : Nat) : Int) = xwho) := hxwho
  clear hxwho
  go_wp2_with fail
  refine (HCh.out _).mono ?_
  rintro e w2 ⟨rfl, b2⟩
  have HW2 : Hid (Below w1.heap.size w1 w2) := ((Below.refl _ _).alloc (Nat.le_refl _) _).trans (b2.mono (by simp))
  clear b2 HCh
  have HY : Hid (Below x.heap.size x ((w2.alloc (.cells #[.int .u64 gn, .slice san sln scn, .slice ran rnn rcn, .int .i64 xszn, .int .i64 xsyn, .int .i64 xwhn] 93)).alloc (.cells #[.int .u64 go, .slice sao slo sco, .slice rao rno rco, .int .i64 xszo, .int .i64 xsyo, .int .i64 xwho] 93))) := below_then HW1.out (below_then HW2.out (((Below.refl _ _).alloc (Nat.le_refl _) _).alloc (by simp) _))
  go_wp2_with fail
  refine (HMe.out _ HY.out).mono ?_
  rintro e w3 ⟨pv, rfl, hsr, b3⟩
  have hw3 : w2.heap.size + 2 ≤ w3.heap.size := by have := b3.size; simp at this; omega
  have C7 : Hid (∀ q, w3.cell? ⟨w2.heap.size, q, none⟩ = (#[Value.int .u64 gn, Value.slice san sln scn, Value.slice ran rnn rcn, Value.int .i64 xszn, Value.int .i64 xsyn, Value.int .i64 xwhn] : Array Value)[q]?) := fun q =>
    (b3.cell (p := ⟨w2.heap.size, q, none⟩) (by simp; omega)).trans ((World.cell?_alloc_lt _ _ ⟨w2.heap.size, q, none⟩ (by simp)).trans (World.cell?_alloc_new _ _ _ _))
  have C8 : Hid (∀ q, w3.cell? ⟨w2.heap.size + 1, q, none⟩ = (#[Value.int .u64 go, Value.slice sao slo sco, Value.slice rao rno rco, Value.int .i64 xszo, Value.int .i64 xsyo, Value.int .i64 xwho] : Array Value)[q]?) := fun q =>
    (b3.cell (p := ⟨w2.heap.size + 1, q, none⟩) (by simp)).trans (two_snd _ _ _ _ _ _)
  have HW3 : Hid (Below w2.heap.size w2 w3) := (((Below.refl _ _).alloc (Nat.le_refl _) _).alloc (by simp) _).trans (b3.mono (by simp; omega))
  have hxw : x.heap.size < w2.heap.size := Nat.lt_of_lt_of_le HR0.out.2.2 HW2.out.size
  have HPl : Hid (Calls Tryz.prog 16 #[pv] w3 fun e y' => ∃ ev u0 u1, e = .returned ev ∧ DskS y' B K u0 u1 (runS σ OS).1 ∧ DStep w3 y' K v0 v1 u0 u1 ∧ (((runS σ OS).2 = 0 ∧ ev = .nilIface) ∨ ((runS σ OS).2 ≠ 0 ∧ WDisk w3.heap.size (runS σ OS).2 ev y'))) := play_row (HL.out.1.under (below_then HY.out b3)) hsr (fun k hk => by have := (HL.out.1.foot_lt hk).2; have := HY.out.size; omega) (by
    rw [← HOS.out]; unfold mendOps; split <;> split <;> split <;> simp)
  clear b3 HMe hsr
  go_wp2_with fail
  refine HPl.out.mono ?_
  rintro e w4 ⟨ev, u0, u1, rfl, hd4, hst4, hr4⟩
  have hnF : ∀ k, x.heap.size ≤ k → ¬ Foot K v0 v1 k := fun k hk gf => by have := (HL.out.1.foot_lt gf).2; omega
  have HB13 : Hid (Below w1.heap.size w1 w3) := below_then HW2.out HW3.out
  have HD4 : Hid (DskS w4 B K u0 u1 (runS σ OS).1 ∧ DStep x w4 K v0 v1 u0 u1 ∧ FndOk w4 x.heap.size nb na ns ⟨gn, san, sln, scn, ran, rnn, rcn, szn, syn, whn⟩ ∧ w3.heap.size ≤ w4.heap.size ∧ x.heap.size ≤ w3.heap.size) := ⟨hd4, (DStep.of_below K v0 v1 (below_then HW1.out HB13.out)).trans hst4, (HFn.out.1.below HB13.out).far hst4.off (fun k hk => (HL.out.1.foot_lt hk).2), hst4.off.size, by have h1 := HW1.out.size; have h2 := HB13.out.size; omega⟩
  have hk7 : ∀ q, w4.cell? ⟨w2.heap.size, q, none⟩ = w3.cell? ⟨w2.heap.size, q, none⟩ := fun q => hst4.off.cell (p := ⟨w2.heap.size, q, none⟩) (by simp only; omega) (hnF w2.heap.size (by omega))
  have hk8 : ∀ q, w4.cell? ⟨w2.heap.size + 1, q, none⟩ = w3.cell? ⟨w2.heap.size + 1, q, none⟩ := fun q => hst4.off.cell (p := ⟨w2.heap.size + 1, q, none⟩) (by simp only; omega) (hnF (w2.heap.size + 1) (by omega))
  have hR4 : ∀ q, w4.cell? ⟨x.heap.size, q, none⟩ = (#[Value.int .u64 0, Value.slice none 0 0, Value.slice none 0 0, Value.int .i64 0] : Array Value)[q]? := fun q => (hst4.off.cell (p := ⟨x.heap.size, q, none⟩) (by have := HB13.out.size; have := HR0.out.2.2; simp only; omega) (hnF _ (Nat.le_refl _))).trans ((HB13.out.cell (p := ⟨x.heap.size, q, none⟩) HR0.out.2.2).trans (HR0.out.1 q))
  have hF4 : ∀ q, w4.frozen? ⟨x.heap.size, q, none⟩ = false := fun q => (hst4.off.frozen (p := ⟨x.heap.size, q, none⟩) (by have := HB13.out.size; have := HR0.out.2.2; simp only; omega) (hnF _ (Nat.le_refl _))).trans ((HB13.out.frozen (p := ⟨x.heap.size, q, none⟩) HR0.out.2.2).trans (HR0.out.2.1 q))
  have HK4 : Hid ((∀ q, w4.cell? ⟨w2.heap.size, q, none⟩ = (#[Value.int .u64 gn, Value.slice san sln scn, Value.slice ran rnn rcn, Value.int .i64 xszn, Value.int .i64 xsyn, Value.int .i64 xwhn] : Array Value)[q]?) ∧ (∀ q, w4.cell? ⟨w2.heap.size + 1, q, none⟩ = (#[Value.int .u64 go, Value.slice sao slo sco, Value.slice rao rno rco, Value.int .i64 xszo, Value.int .i64 xsyo, Value.int .i64 xwho] : Array Value)[q]?) ∧ (∀ q, w4.cell? ⟨x.heap.size, q, none⟩ = (#[Value.int .u64 0, Value.slice none 0 0, Value.slice none 0 0, Value.int .i64 0] : Array Value)[q]?) ∧ (∀ q, w4.frozen? ⟨x.heap.size, q, none⟩ = false)) := ⟨fun q => (hk7 q).trans (C7.out q), fun q => (hk8 q).trans (C8.out q), hR4, hF4⟩
  have HFt : Hid (∀ k, k < w3.heap.size → Foot K u0 u1 k → Foot K v0 v1 k) := hst4.foot
  have HRF : Hid (¬ Foot K u0 u1 x.heap.size) := fun gf => by
    have h1 := HB13.out.size
    have h2 := HR0.out.2.2
    have := (HL.out.1.foot_lt (HFt.out _ (by omega) gf)).2
    omega
  clear hd4 hst4 hk7 hk8 hR4 hF4 hnF HPl C7 C8
  rcases hr4 with ⟨hc0, rfl⟩ | ⟨hc0, hwd⟩
  · have d0 : w4.cell? ⟨w2.heap.size, 0, none⟩ = some (.int .u64 gn) := HK4.out.1 0
    have d1 : w4.cell? ⟨w2.heap.size, 1, none⟩ = some (.slice san sln scn) := HK4.out.1 1
    have d2 : w4.cell? ⟨w2.heap.size, 2, none⟩ = some (.slice ran rnn rcn) := HK4.out.1 2
    have d3 : w4.cell? ⟨w2.heap.size, 3, none⟩ = some (.int .i64 xszn) := HK4.out.1 3
    have d4 : w4.cell? ⟨w2.heap.size, 4, none⟩ = some (.int .i64 xsyn) := HK4.out.1 4
    have d5 : w4.cell? ⟨w2.heap.size, 5, none⟩ = some (.int .i64 xwhn) := HK4.out.1 5
    have hl7 : w2.heap.size < w4.heap.size := cell_lt d0
    have hAr : ∀ y, Calls Tryz.prog 20 #[.int .u64 gn] y fun e w' => e = .returned (.int .i64 (gn % 2)) ∧ w' = y := fun y => areaOf_any y hgb
    go_wp2_with fail
    go_region_held3 (fun x => x.cell? ⟨w2.heap.size, 0, none⟩ = some (.int .u64 gn) ∧ x.cell? ⟨w2.heap.size, 2, none⟩ = some (.slice ran rnn rcn) ∧ x.cell? ⟨w2.heap.size, 5, none⟩ = some (.int .i64 xwhn)) (simp [*, World.cell?_alloc_lt _ _ ⟨w2.heap.size, 0, none⟩ hl7, World.cell?_alloc_lt _ _ ⟨w2.heap.size, 2, none⟩ hl7, World.cell?_alloc_lt _ _ ⟨w2.heap.size, 5, none⟩ hl7]) (first | (go_at_call 20; refine (hAr _).mono ?_; rintro e wx ⟨rfl, hwx⟩; rw [hwx]))
    have bA : Below w4.heap.size w4 ((w4.alloc (.cells #[.pointer (some ⟨K, 0, none⟩), .bool false, .int .u64 gn, .int .i64 (gn % 2), .int .i64 (rnn : Int), .int .i64 0, .int .i64 xwhn] 103)).drew) := below_drewN' ((Below.refl _ _).alloc (Nat.le_refl _) _)
    have HLc : Hid ((∀ q, ((w4.alloc (.cells #[.pointer (some ⟨K, 0, none⟩), .bool false, .int .u64 gn, .int .i64 (gn % 2), .int .i64 (rnn : Int), .int .i64 0, .int .i64 xwhn] 103)).drew).cell? ⟨w4.heap.size, q, none⟩ = (#[Value.pointer (some ⟨K, 0, none⟩), .bool false, .int .u64 gn, .int .i64 (gn % 2), .int .i64 (rnn : Int), .int .i64 0, .int .i64 xwhn] : Array Value)[q]?) ∧ (∀ q, ((w4.alloc (.cells #[.pointer (some ⟨K, 0, none⟩), .bool false, .int .u64 gn, .int .i64 (gn % 2), .int .i64 (rnn : Int), .int .i64 0, .int .i64 xwhn] 103)).drew).frozen? ⟨w4.heap.size, q, none⟩ = false)) := ⟨fun q => World.cell?_alloc_new _ _ _ _, fun q => World.frozen?_alloc_new _ _ _ _⟩
    obtain ⟨W5, hW5⟩ : ∃ W, (w4.alloc (.cells #[.pointer (some ⟨K, 0, none⟩), .bool false, .int .u64 gn, .int .i64 (gn % 2), .int .i64 (rnn : Int), .int .i64 0, .int .i64 xwhn] 103)).drew = W := ⟨_, rfl⟩
    have h5s : W5.heap.size = w4.heap.size + 1 := by rw [← hW5]; simp
    rw [hW5] at bA HLc ⊢
    clear hW5 d0 d1 d2 d3 d4 d5 hAr
    have d0 : W5.cell? ⟨w2.heap.size, 0, none⟩ = some (.int .u64 gn) := below_cell bA (HK4.out.1 0)
    have d1 : W5.cell? ⟨w2.heap.size, 1, none⟩ = some (.slice san sln scn) := below_cell bA (HK4.out.1 1)
    have d2 : W5.cell? ⟨w2.heap.size, 2, none⟩ = some (.slice ran rnn rcn) := below_cell bA (HK4.out.1 2)
    have d3 : W5.cell? ⟨w2.heap.size, 3, none⟩ = some (.int .i64 xszn) := below_cell bA (HK4.out.1 3)
    have d4 : W5.cell? ⟨w2.heap.size, 4, none⟩ = some (.int .i64 xsyn) := below_cell bA (HK4.out.1 4)
    have d5 : W5.cell? ⟨w2.heap.size, 5, none⟩ = some (.int .i64 xwhn) := below_cell bA (HK4.out.1 5)
    have e0 : W5.cell? ⟨w2.heap.size + 1, 0, none⟩ = some (.int .u64 go) := below_cell bA (HK4.out.2.1 0)
    have e1 : W5.cell? ⟨w2.heap.size + 1, 1, none⟩ = some (.slice sao slo sco) := below_cell bA (HK4.out.2.1 1)
    have e2 : W5.cell? ⟨w2.heap.size + 1, 2, none⟩ = some (.slice rao rno rco) := below_cell bA (HK4.out.2.1 2)
    have e3 : W5.cell? ⟨w2.heap.size + 1, 3, none⟩ = some (.int .i64 xszo) := below_cell bA (HK4.out.2.1 3)
    have e4 : W5.cell? ⟨w2.heap.size + 1, 4, none⟩ = some (.int .i64 xsyo) := below_cell bA (HK4.out.2.1 4)
    have e5 : W5.cell? ⟨w2.heap.size + 1, 5, none⟩ = some (.int .i64 xwho) := below_cell bA (HK4.out.2.1 5)
    have HBA : Hid (Below w4.heap.size w4 W5 ∧ FndOk W5 x.heap.size nb na ns ⟨gn, san, sln, scn, ran, rnn, rcn, szn, syn, whn⟩) := ⟨bA, HD4.out.2.2.1.below bA⟩
    clear bA
    go_wp2_with fail
    refine (HRp.out _ HBA.out.2).mono ?_
    rintro e w6 ⟨a, n, kk, v2, vs, rfl, hrow, hvr, hpcs, b6⟩
    obtain ⟨va, vc, hv2, _⟩ := hvr.isSlice
    subst hv2
    have b46 : Below w4.heap.size w4 w6 := below_then HBA.out.1 b6
    have hx4 : x.heap.size < w4.heap.size := by have := HD4.out.2.2.2.1; omega
    have HB46 : Hid (Below w4.heap.size w4 w6 ∧ w4.heap.size < w6.heap.size) := ⟨b46, by have := b6.size; omega⟩
    have HL6 : Hid ((∀ q, w6.cell? ⟨w4.heap.size, q, none⟩ = (#[Value.pointer (some ⟨K, 0, none⟩), .bool false, .int .u64 gn, .int .i64 (gn % 2), .int .i64 (rnn : Int), .int .i64 0, .int .i64 xwhn] : Array Value)[q]?) ∧ (∀ q, w6.frozen? ⟨w4.heap.size, q, none⟩ = false)) := ⟨fun q => (b6.cell (p := ⟨w4.heap.size, q, none⟩) (by rw [h5s]; exact Nat.lt_succ_self _)).trans (HLc.out.1 q), fun q => (b6.frozen (p := ⟨w4.heap.size, q, none⟩) (by rw [h5s]; exact Nat.lt_succ_self _)).trans (HLc.out.2 q)⟩
    have HRow : Hid (Row w6 W5.heap.size (.slice a n kk) sn ∧ VRow w6 W5.heap.size 22 (.slice va vs.length vc) vs ∧ Pcs w6 vs rs ∧ PFar W5.heap.size vs ∧ OwnQ w6 W5.heap.size (.slice a n kk) (.slice va vs.length vc) sn vs rs) := ⟨hrow, hvr, hpcs.1.1, hpcs.2, hpcs.1.2⟩
    have f0 : w6.cell? ⟨x.heap.size, 0, none⟩ = some (.int .u64 0) := below_cell b46 (HK4.out.2.2.1 0)
    have f1 : w6.cell? ⟨x.heap.size, 1, none⟩ = some (.slice none 0 0) := below_cell b46 (HK4.out.2.2.1 1)
    have f2 : w6.cell? ⟨x.heap.size, 2, none⟩ = some (.slice none 0 0) := below_cell b46 (HK4.out.2.2.1 2)
    have f3 : w6.cell? ⟨x.heap.size, 3, none⟩ = some (.int .i64 0) := below_cell b46 (HK4.out.2.2.1 3)
    have hz6 : ∀ q, w6.frozen? ⟨x.heap.size, q, none⟩ = false := fun q => (b46.frozen (p := ⟨x.heap.size, q, none⟩) (show x.heap.size < w4.heap.size by omega)).trans (HK4.out.2.2.2 q)
    have z0 := hz6 0
    have z1 := hz6 1
    have z2 := hz6 2
    have z3 := hz6 3
    obtain ⟨ho, q0, q1, q2, q3⟩ := set_four f0 f1 f2 f3 (.int .u64 gn) (.slice a n kk) (.slice va vs.length vc) (.int .i64 (xszo + xszn - xwhn))
    clear hrow hvr hpcs b6 b46 hz6 d0 d1 d2 d3 d4 d5 e0 e1 e2 e3 e4 e5
    have HO : Hid (Off (fun k => k = x.heap.size) w6 ((((w6.setCell ⟨x.heap.size, 0, none⟩ (.int .u64 gn)).setCell ⟨x.heap.size, 1, none⟩ (.slice a n kk)).setCell ⟨x.heap.size, 2, none⟩ (.slice va vs.length vc)).setCell ⟨x.heap.size, 3, none⟩ (.int .i64 (xszo + xszn - xwhn)))) := ho
    clear ho
    go_wp2_with fail
    refine bodyPost_ret (v := .tuple #[.pointer (some ⟨w4.heap.size, 0, none⟩), .agg #[.int .u64 gn, .slice a n kk, .slice va vs.length vc, .int .i64 (xszo + xszn - xwhn)], .nilIface]) (by simp [results, Tryz.results7, go_sem, q0, q1, q2, q3]) rfl ?_
    obtain ⟨hd4, hst, _, h34, hx3⟩ := HD4.out
    obtain ⟨eg, e1, e2, e3, _⟩ := HEq.out
    have es := HFn.out.2
    have x1 := HXszn.out
    have x2 := HXwhn.out
    have x3 := HXszo.out
    have hxw3 : x.heap.size < w3.heap.size := by omega
    have hn4 : ¬ w4.heap.size = x.heap.size := by omega
    have hc : ∀ q, ((((w6.setCell ⟨x.heap.size, 0, none⟩ (.int .u64 gn)).setCell ⟨x.heap.size, 1, none⟩ (.slice a n kk)).setCell ⟨x.heap.size, 2, none⟩ (.slice va vs.length vc)).setCell ⟨x.heap.size, 3, none⟩ (.int .i64 (xszo + xszn - xwhn))).cell? ⟨w4.heap.size, q, none⟩ = (#[Value.pointer (some ⟨K, 0, none⟩), .bool false, .int .u64 gn, .int .i64 (gn % 2), .int .i64 (rnn : Int), .int .i64 0, .int .i64 xwhn] : Array Value)[q]? := fun q => (HO.out.cell (p := ⟨w4.heap.size, q, none⟩) HB46.out.2 hn4).trans (HL6.out.1 q)
    have etn : (os_ : Int) + nb.length - ((30 + sn.length + sizes rs : Nat) : Int) = xszo + xszn - xwhn := by omega
    have ewh : ((30 + sn.length + sizes rs : Nat) : Int) = xwhn := by omega
    have ern : (rs.length : Int) = ((rnn : Nat) : Int) := by rw [HRn.out]
    rw [etn, ewh]
    refine ⟨u0, u1, (hst.trans (DStep.of_below K u0 u1 HB46.out.1)).past HO.out (Nat.le_refl _), Or.inl ⟨hc0, w4.heap.size, a, n, kk, _, vs, by rw [eg], ⟨(hd4.under HB46.out.1).off HO.out (fun k hk e => HRF.out (e ▸ hk)), hc 0, hc 1, by rw [← eg]; exact hc 2, by rw [← eg]; exact hc 3, by rw [ern]; exact hc 4, hc 5, hc 6, fun q => (HO.out.frozen (p := ⟨w4.heap.size, q, none⟩) HB46.out.2 hn4).trans (HL6.out.2 q), fun gf => by have := (hd4.foot_lt gf).2; omega, ?_⟩, ?_, ?_, ?_, by omega, W5.heap.size, by rw [h5s]; exact Nat.lt_succ_self _, fun k hk => by have := (hd4.foot_lt hk).2; omega, HRow.out.2.2.2.2.off HO.out (fun g hg _ e => by omega)⟩⟩
    · have := HL.out.2.2.2.2.2.2.2; omega
    · exact (HRow.out.1.off HO.out (fun k hk e => by have := (HRow.out.1.lt hk).1; omega)).base (by omega)
    · exact (HRow.out.2.1.off HO.out (fun k hk e => by have := (HRow.out.2.1.lt hk).1; omega)).low (by omega)
    · refine ⟨HRow.out.2.2.1.1, fun j u d hu hd => ?_⟩
      obtain ⟨ua, uc, e, hb, hn⟩ := HRow.out.2.2.1.2 j u d hu hd
      refine ⟨ua, uc, e, byts_off hb HO.out (fun b o _ e' g => ?_), hn⟩
      subst e
      subst e'
      have := HRow.out.2.2.2.1 j b o _ _ hu
      omega
  · obtain ⟨eb, heb⟩ : ∃ b, ev = .iface 86 (.pointer (some ⟨b, 0, none⟩)) := by obtain ⟨b, b', e, _⟩ := hwd; exact ⟨b, e⟩
    subst heb
    have f0 : w4.cell? ⟨x.heap.size, 0, none⟩ = some (.int .u64 0) := HK4.out.2.2.1 0
    have f1 : w4.cell? ⟨x.heap.size, 1, none⟩ = some (.slice none 0 0) := HK4.out.2.2.1 1
    have f2 : w4.cell? ⟨x.heap.size, 2, none⟩ = some (.slice none 0 0) := HK4.out.2.2.1 2
    have f3 : w4.cell? ⟨x.heap.size, 3, none⟩ = some (.int .i64 0) := HK4.out.2.2.1 3
    have z0 := HK4.out.2.2.2 0
    have z1 := HK4.out.2.2.2 1
    have z2 := HK4.out.2.2.2 2
    have z3 := HK4.out.2.2.2 3
    have HWd : Hid (WDisk w3.heap.size (runS σ OS).2 (.iface 86 (.pointer (some ⟨eb, 0, none⟩))) w4) := hwd
    clear hwd
    go_wp2_with fail
    obtain ⟨ho, q0, q1, q2, q3⟩ := set_four f0 f1 f2 f3 (.int .u64 0) (.slice none 0 0) (.slice none 0 0) (.int .i64 0)
    refine bodyPost_ret (v := .tuple #[.pointer none, .agg #[.int .u64 0, .slice none 0 0, .slice none 0 0, .int .i64 0], .iface 86 (.pointer (some ⟨eb, 0, none⟩))]) (by simp [results, Tryz.results7, go_sem, q0, q1, q2, q3]) rfl ?_
    have hxw3 : x.heap.size < w3.heap.size := by omega
    exact ⟨u0, u1, HD4.out.2.1.past ho (Nat.le_refl _), Or.inr ⟨hc0, _, rfl, (HWd.out.off ho (fun k hk e => by omega)).low (by omega), HD4.out.1.off ho (fun k hk e => HRF.out (e ▸ hk))⟩⟩
end
end Go.Proofs.YthnpckmgnompiaaGreatDoor
