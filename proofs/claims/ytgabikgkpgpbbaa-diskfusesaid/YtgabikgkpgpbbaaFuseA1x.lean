/-
  DiskFuse's rounds: kind A, area 1.
-/
import Derived.Test.YtgabikgkpgpbbaaFuseBase
namespace Go.Proofs.Ytgabikgkpgpbbaa
open Go.RowKit

set_option maxRecDepth 100000 in
set_option maxHeartbeats 4000000 in
theorem fuse_BA11 {b off : Nat} {xs : List Opv} {cap : Nat} {F L : Int} {K S : Nat} {W0 wr : World} {k : Nat} {x : Opv} {v0 v1 : Value} {l0 l1 : Nat} {st fu na ns nc : Int} {u : Nat → Value} {Q0 : Exit → Act → World → Prop} (hl : xs.length ≤ 9223372036854775807) (hF : F ≤ 9223372036854775807) (hat : OpAt wr b (off + k * 9) x) (hpl : x.pl ≤ 2147483647) (HPO : Hid (x.po = none → x.pc = 0)) (hlt : k < xs.length) (HK : Hid (W0.heap.size = K)) (HSK : Hid (K ≤ S)) (hs0 : wr.cell? ⟨S, 0, none⟩ = some (.int .i64 l0)) (hs1 : wr.cell? ⟨S, 1, none⟩ = some (.int .i64 l1)) (hfr : ∀ o, wr.frozen? ⟨S, o, none⟩ = false) (hSl : S < wr.heap.size) (HI : Hid (DE wr K K v0 v1 l0 l1 st fu na ns nc ∧ RF F L st fu na ns nc ∧ Below K W0 wr ∧ ¬ Foot K v0 v1 S)) (h6 : u 6 = .int .i64 L) (h8 : u 8 = .int .i64 k) (g1 : ¬ x.kd < 1) (g2 : ¬ 3 < x.kd) (hkd : x.kd = 1) (har : x.ar = 1) (hR : F < 0) (hfull : ¬ 16777216 < (l1 : Int) + x.pl) : Code.wp Try.prog fuseBody (Exit.then (fun a' w'' => FuI (some ⟨b, off, none⟩) xs cap F K S W0 a' w'' ∧ FuM xs a' w'' < FuM xs (FuF (some ⟨b, off, none⟩) xs.length cap F K S u) wr) Q0) (FuF (some ⟨b, off, none⟩) xs.length cap F K S u) wr := by
  have HUSE := And.intro hF (And.intro hpl (And.intro HPO (And.intro HSK (And.intro hl (And.intro hlt (And.intro g1 (And.intro g2 (And.intro hkd (And.intro har (And.intro hR (hfull)))))))))))
  clear HUSE
  have HBy : Hid (Byts wr x.po x.pl x.bs) := hat.p
  have c0 := hat.c0
  have c1 := hat.c1
  have c2 := hat.c2
  have c3 := hat.c3
  have c4 := hat.c4
  have c5 := hat.c5
  have c6 := hat.c6
  have c7 := hat.c7
  have c8 := hat.c8
  clear hat
  have hlt1 : (k : Int) < xs.length := by omega
  have hKs : K ≤ wr.heap.size := by have := HI.out.2.2.1.size; have := HK.out; omega
  have HM : Hid (FuM xs (FuF (some ⟨b, off, none⟩) xs.length cap F K S u) wr = xs.length - k) := by show xs.length - (intOf (u 8)).toNat = _; rw [h8]; simp [intOf]
  unfold FuF at HM ⊢
  rw [h6, h8] at HM ⊢
  conv => arg 2; whnf
  have HNO : Hid (¬ Foot K v0 v1 wr.heap.size) := fun e => by have := (HI.out.1.foot_lt e).2; omega
  have HI1 : Hid (DE (wr.alloc (.cells #[.int .i64 x.kd, .int .i64 x.ar, .int .i64 x.at_, .int .i64 x.n, .slice x.po x.pl x.pc, .int .i64 x.t0, .int .i64 x.t1, .int .i64 x.t2, .int .i64 x.t3] 35)) K K v0 v1 l0 l1 st fu na ns nc) := HI.out.1.below ((Below.refl _ _).alloc (Nat.le_refl _) _)
  have hcnt := HI.out.1.cnt
  obtain ⟨hFn, rfl, rfl⟩ : F < 0 ∧ st = 1 ∧ fu = -1 := by rcases HI.out.2.1 with h | h | h <;> omega
  have HI1' := HI1.out
  rw [hkd, har] at HI1'
  have HI2 : Hid (DE (wr.alloc (.cells #[.int .i64 1, .int .i64 1, .int .i64 x.at_, .int .i64 x.n, .slice x.po x.pl x.pc, .int .i64 x.t0, .int .i64 x.t1, .int .i64 x.t2, .int .i64 x.t3] 35)) K K v0 v1 l0 l1 1 (-1) na ns nc) := HI1'
  clear HI1'
  have HByB : Hid (Byts (wr.alloc (.cells #[.int .i64 1, .int .i64 1, .int .i64 x.at_, .int .i64 x.n, .slice x.po x.pl x.pc, .int .i64 x.t0, .int .i64 x.t1, .int .i64 x.t2, .int .i64 x.t3] 35)) x.po x.pl x.bs) := HBy.out.below ((Below.refl _ _).alloc (Nat.le_refl _) _)
  have hfit : l1 + x.pl ≤ 16777216 := by omega
  have hfb : decide (16777216 < (l1 : Int) + x.pl) = false := by simp; omega
  clear g1 g2
  go_wp2_with fail
  go_quiet (fail)
  go_wp2_with fail
  have HByD : Hid (Byts ((wr.alloc (.cells #[.int .i64 1, .int .i64 1, .int .i64 x.at_, .int .i64 x.n, .slice x.po x.pl x.pc, .int .i64 x.t0, .int .i64 x.t1, .int .i64 x.t2, .int .i64 x.t3] 35)).drewN nq) x.po x.pl x.bs) := HByB.out.drew nq
  have HD1 : Hid (DE ((wr.alloc (.cells #[.int .i64 1, .int .i64 1, .int .i64 x.at_, .int .i64 x.n, .slice x.po x.pl x.pc, .int .i64 x.t0, .int .i64 x.t1, .int .i64 x.t2, .int .i64 x.t3] 35)).drewN nq) K K v0 v1 l0 l1 1 (-1) na ns nc) := HI2.out.off (P := fun _ => False) ((Off.refl _ _).drewN _) (fun _ _ => id)
  have hdoes := doesA1_ok (x := x) hkd har HByD.out HPO.out (by omega) HD1.out (by omega) hfit
  rw [hkd, har] at hdoes
  refine hdoes.mono ?_
  clear hdoes
  rintro e w3 ⟨rfl, u, d3, t3⟩
  rw [show fz (-1) = -1 from rfl] at d3
  have HD2 : Hid (DE w3 K K v0 u l0 (l1 + x.pl) 1 (-1) (ct na) ns nc) := d3
  have hF2 : ∀ o, w3.cell? ⟨wr.heap.size, o, none⟩ = (wr.alloc (.cells #[.int .i64 1, .int .i64 1, .int .i64 x.at_, .int .i64 x.n, .slice x.po x.pl x.pc, .int .i64 x.t0, .int .i64 x.t1, .int .i64 x.t2, .int .i64 x.t3] 35)).cell? ⟨wr.heap.size, o, none⟩ := fun o => t3.off.cell (p := ⟨wr.heap.size, o, none⟩) (by simp) HNO.out
  have hS2 : ∀ o, w3.cell? ⟨S, o, none⟩ = wr.cell? ⟨S, o, none⟩ := fun o => (t3.off.cell (p := ⟨S, o, none⟩) (by show S < _; simp; omega) HI.out.2.2.2).trans (World.cell?_alloc_lt _ _ ⟨S, o, none⟩ hSl)
  have p0 : w3.cell? ⟨S, 0, none⟩ = some (.int .i64 l0) := (hS2 0).trans hs0
  have p1 : w3.cell? ⟨S, 1, none⟩ = some (.int .i64 l1) := (hS2 1).trans hs1
  have hS2f : ∀ o, w3.frozen? ⟨S, o, none⟩ = false := fun o => (t3.off.frozen (p := ⟨S, o, none⟩) (by show S < _; simp; omega) HI.out.2.2.2).trans ((((Off.refl (fun _ => False) wr).alloc _).frozen (p := ⟨S, o, none⟩) hSl id).trans (hfr o))
  have hS2l : S < w3.heap.size := Nat.lt_of_lt_of_le hSl (by have := t3.off.size; simp at this; omega)
  have HN2 : Hid (¬ Foot K v0 u S) := fun e => HI.out.2.2.2 (t3.foot S (by simp; omega) e)
  have HB2 : Hid (Below K W0 w3) := (below_drewN (HI.out.2.2.1.alloc hKs _) nq).trans (t3.off.below (by simp; omega) (fun k g => (HI.out.1.foot_lt g).1))
  clear d3 t3
  go_wp2_with fail
  go_region
  have HD4 : Hid (DE (w3.setCell ⟨S, 1, none⟩ (.int .i64 ((l1 : Int) + x.pl))).drew K K v0 u l0 (l1 + x.pl) 1 (-1) (ct na) ns nc) := HD2.out.off (P := fun k => k = S) ((Off.setCell (P := fun k => k = S) (Off.refl _ _) (p := ⟨S, 1, none⟩) rfl _).drew) (fun k hk e => HN2.out (by rw [← e]; exact hk))
  have s1' : (w3.setCell ⟨S, 1, none⟩ (.int .i64 ((l1 : Int) + x.pl))).drew.cell? ⟨S, 1, none⟩ = some (.int .i64 ((l1 : Int) + x.pl)) := World.cell?_setCell_same _ _ _ p1
  have s0' : (w3.setCell ⟨S, 1, none⟩ (.int .i64 ((l1 : Int) + x.pl))).drew.cell? ⟨S, 0, none⟩ = some (.int .i64 l0) := (by show (w3.setCell _ _).cell? _ = _; rw [World.cell?_setCell_other _ _ _ _ (by simp)]; exact p0)
  clear hS2 p0 p1
  obtain ⟨z0, z1, z2, z3, hz, ez0, ez1⟩ := HD4.out
  have HZ4 : Hid (Dsk _ K K v0 u z0 z1 z2 z3 1 (-1) (ct na) ns nc) := hz
  have HEZ : Hid (z0.length = l0 ∧ z1.length = (l1 + x.pl)) := ⟨ez0, ez1⟩
  clear hz ez0 ez1
  go_wp2_with fail
  refine (Alive_ok HZ4.out).mono ?_
  rintro e w5 ⟨rfl, rfl⟩
  go_wp2_with fail
  refine (Len1_ok HZ4.out (by omega)).mono ?_
  rintro e w5 ⟨he, rfl⟩
  rw [HEZ.out.2] at he
  subst he
  go_wp2_with fail
  refine ⟨FuI_of rfl ⟨k + 1, L, v0, u, l0, (l1 + x.pl), 1, (-1), (ct na), ns, nc, hlt, by go_num, by go_num, s0', s1', (fun o => by simp [hS2f]), (by simpa using hS2l), HD4.out, (Or.inl ⟨hFn, rfl, rfl⟩), (HB2.out.trans (((Off.setCell (P := fun k => k = S) (Off.refl _ _) (p := ⟨S, 1, none⟩) rfl _).drew).below (by have := HB2.out.size; have := HK.out; omega) (fun k e => by rw [e]; exact HSK.out))), HN2.out⟩, ?_⟩
  rw [HM.out]
  show xs.length - (intOf (.int .i64 _)).toNat < _
  simp [intOf]
  omega
set_option maxRecDepth 100000 in
set_option maxHeartbeats 4000000 in
theorem fuse_BA12p {b off : Nat} {xs : List Opv} {cap : Nat} {F L : Int} {K S : Nat} {W0 wr : World} {k : Nat} {x : Opv} {v0 v1 : Value} {l0 l1 : Nat} {st fu na ns nc : Int} {u : Nat → Value} {Q0 : Exit → Act → World → Prop} (hl : xs.length ≤ 9223372036854775807) (hF : F ≤ 9223372036854775807) (hat : OpAt wr b (off + k * 9) x) (hpl : x.pl ≤ 2147483647) (HPO : Hid (x.po = none → x.pc = 0)) (hlt : k < xs.length) (HK : Hid (W0.heap.size = K)) (HSK : Hid (K ≤ S)) (hs0 : wr.cell? ⟨S, 0, none⟩ = some (.int .i64 l0)) (hs1 : wr.cell? ⟨S, 1, none⟩ = some (.int .i64 l1)) (hfr : ∀ o, wr.frozen? ⟨S, o, none⟩ = false) (hSl : S < wr.heap.size) (HI : Hid (DE wr K K v0 v1 l0 l1 st fu na ns nc ∧ RF F L st fu na ns nc ∧ Below K W0 wr ∧ ¬ Foot K v0 v1 S)) (h6 : u 6 = .int .i64 L) (h8 : u 8 = .int .i64 k) (g1 : ¬ x.kd < 1) (g2 : ¬ 3 < x.kd) (hkd : x.kd = 1) (har : x.ar = 1) (hR : 0 ≤ F ∧ 0 < L) (hfull : ¬ 16777216 < (l1 : Int) + x.pl) : Code.wp Try.prog fuseBody (Exit.then (fun a' w'' => FuI (some ⟨b, off, none⟩) xs cap F K S W0 a' w'' ∧ FuM xs a' w'' < FuM xs (FuF (some ⟨b, off, none⟩) xs.length cap F K S u) wr) Q0) (FuF (some ⟨b, off, none⟩) xs.length cap F K S u) wr := by
  have HUSE := And.intro hF (And.intro hpl (And.intro HPO (And.intro HSK (And.intro hl (And.intro hlt (And.intro g1 (And.intro g2 (And.intro hkd (And.intro har (And.intro hR (hfull)))))))))))
  clear HUSE
  have HBy : Hid (Byts wr x.po x.pl x.bs) := hat.p
  have c0 := hat.c0
  have c1 := hat.c1
  have c2 := hat.c2
  have c3 := hat.c3
  have c4 := hat.c4
  have c5 := hat.c5
  have c6 := hat.c6
  have c7 := hat.c7
  have c8 := hat.c8
  clear hat
  have hlt1 : (k : Int) < xs.length := by omega
  have hKs : K ≤ wr.heap.size := by have := HI.out.2.2.1.size; have := HK.out; omega
  have HM : Hid (FuM xs (FuF (some ⟨b, off, none⟩) xs.length cap F K S u) wr = xs.length - k) := by show xs.length - (intOf (u 8)).toNat = _; rw [h8]; simp [intOf]
  unfold FuF at HM ⊢
  rw [h6, h8] at HM ⊢
  conv => arg 2; whnf
  have HNO : Hid (¬ Foot K v0 v1 wr.heap.size) := fun e => by have := (HI.out.1.foot_lt e).2; omega
  have HI1 : Hid (DE (wr.alloc (.cells #[.int .i64 x.kd, .int .i64 x.ar, .int .i64 x.at_, .int .i64 x.n, .slice x.po x.pl x.pc, .int .i64 x.t0, .int .i64 x.t1, .int .i64 x.t2, .int .i64 x.t3] 35)) K K v0 v1 l0 l1 st fu na ns nc) := HI.out.1.below ((Below.refl _ _).alloc (Nat.le_refl _) _)
  have hcnt := HI.out.1.cnt
  obtain ⟨hFp, hLp, hLF, rfl, rfl, hcc⟩ : 0 ≤ F ∧ 0 < L ∧ L ≤ F ∧ st = 1 ∧ L = fu ∧ na + ns + nc ≤ F - L := by rcases HI.out.2.1 with h | h | h <;> omega
  have hLq1 : 1 ≤ L := by omega
  have hLq2 : decide (0 ≤ L - 1) = true := by simp; omega
  have hLq3 : decide (1 ≤ L) = true := by simp; omega
  have HI1' := HI1.out
  rw [hkd, har] at HI1'
  have HI2 : Hid (DE (wr.alloc (.cells #[.int .i64 1, .int .i64 1, .int .i64 x.at_, .int .i64 x.n, .slice x.po x.pl x.pc, .int .i64 x.t0, .int .i64 x.t1, .int .i64 x.t2, .int .i64 x.t3] 35)) K K v0 v1 l0 l1 1 L na ns nc) := HI1'
  clear HI1'
  have HByB : Hid (Byts (wr.alloc (.cells #[.int .i64 1, .int .i64 1, .int .i64 x.at_, .int .i64 x.n, .slice x.po x.pl x.pc, .int .i64 x.t0, .int .i64 x.t1, .int .i64 x.t2, .int .i64 x.t3] 35)) x.po x.pl x.bs) := HBy.out.below ((Below.refl _ _).alloc (Nat.le_refl _) _)
  have hfit : l1 + x.pl ≤ 16777216 := by omega
  have hfb : decide (16777216 < (l1 : Int) + x.pl) = false := by simp; omega
  clear g1 g2
  go_wp2_with fail
  go_quiet (fail)
  go_wp2_with fail
  have HByD : Hid (Byts ((wr.alloc (.cells #[.int .i64 1, .int .i64 1, .int .i64 x.at_, .int .i64 x.n, .slice x.po x.pl x.pc, .int .i64 x.t0, .int .i64 x.t1, .int .i64 x.t2, .int .i64 x.t3] 35)).drewN nq) x.po x.pl x.bs) := HByB.out.drew nq
  have HD1 : Hid (DE ((wr.alloc (.cells #[.int .i64 1, .int .i64 1, .int .i64 x.at_, .int .i64 x.n, .slice x.po x.pl x.pc, .int .i64 x.t0, .int .i64 x.t1, .int .i64 x.t2, .int .i64 x.t3] 35)).drewN nq) K K v0 v1 l0 l1 1 L na ns nc) := HI2.out.off (P := fun _ => False) ((Off.refl _ _).drewN _) (fun _ _ => id)
  have hdoes := doesA1_ok (x := x) hkd har HByD.out HPO.out (by omega) HD1.out (by omega) hfit
  rw [hkd, har] at hdoes
  refine hdoes.mono ?_
  clear hdoes
  rintro e w3 ⟨rfl, u, d3, t3⟩
  rw [show fz L = L - 1 by unfold fz; rw [if_pos hLp]] at d3
  have HD2 : Hid (DE w3 K K v0 u l0 (l1 + x.pl) 1 (L - 1) (ct na) ns nc) := d3
  have hF2 : ∀ o, w3.cell? ⟨wr.heap.size, o, none⟩ = (wr.alloc (.cells #[.int .i64 1, .int .i64 1, .int .i64 x.at_, .int .i64 x.n, .slice x.po x.pl x.pc, .int .i64 x.t0, .int .i64 x.t1, .int .i64 x.t2, .int .i64 x.t3] 35)).cell? ⟨wr.heap.size, o, none⟩ := fun o => t3.off.cell (p := ⟨wr.heap.size, o, none⟩) (by simp) HNO.out
  have hS2 : ∀ o, w3.cell? ⟨S, o, none⟩ = wr.cell? ⟨S, o, none⟩ := fun o => (t3.off.cell (p := ⟨S, o, none⟩) (by show S < _; simp; omega) HI.out.2.2.2).trans (World.cell?_alloc_lt _ _ ⟨S, o, none⟩ hSl)
  have p0 : w3.cell? ⟨S, 0, none⟩ = some (.int .i64 l0) := (hS2 0).trans hs0
  have p1 : w3.cell? ⟨S, 1, none⟩ = some (.int .i64 l1) := (hS2 1).trans hs1
  have hS2f : ∀ o, w3.frozen? ⟨S, o, none⟩ = false := fun o => (t3.off.frozen (p := ⟨S, o, none⟩) (by show S < _; simp; omega) HI.out.2.2.2).trans ((((Off.refl (fun _ => False) wr).alloc _).frozen (p := ⟨S, o, none⟩) hSl id).trans (hfr o))
  have hS2l : S < w3.heap.size := Nat.lt_of_lt_of_le hSl (by have := t3.off.size; simp at this; omega)
  have HN2 : Hid (¬ Foot K v0 u S) := fun e => HI.out.2.2.2 (t3.foot S (by simp; omega) e)
  have HB2 : Hid (Below K W0 w3) := (below_drewN (HI.out.2.2.1.alloc hKs _) nq).trans (t3.off.below (by simp; omega) (fun k g => (HI.out.1.foot_lt g).1))
  clear d3 t3
  go_wp2_with fail
  go_region
  have HD4 : Hid (DE (w3.setCell ⟨S, 1, none⟩ (.int .i64 ((l1 : Int) + x.pl))).drew K K v0 u l0 (l1 + x.pl) 1 (L - 1) (ct na) ns nc) := HD2.out.off (P := fun k => k = S) ((Off.setCell (P := fun k => k = S) (Off.refl _ _) (p := ⟨S, 1, none⟩) rfl _).drew) (fun k hk e => HN2.out (by rw [← e]; exact hk))
  have s1' : (w3.setCell ⟨S, 1, none⟩ (.int .i64 ((l1 : Int) + x.pl))).drew.cell? ⟨S, 1, none⟩ = some (.int .i64 ((l1 : Int) + x.pl)) := World.cell?_setCell_same _ _ _ p1
  have s0' : (w3.setCell ⟨S, 1, none⟩ (.int .i64 ((l1 : Int) + x.pl))).drew.cell? ⟨S, 0, none⟩ = some (.int .i64 l0) := (by show (w3.setCell _ _).cell? _ = _; rw [World.cell?_setCell_other _ _ _ _ (by simp)]; exact p0)
  clear hS2 p0 p1
  obtain ⟨z0, z1, z2, z3, hz, ez0, ez1⟩ := HD4.out
  have HZ4 : Hid (Dsk _ K K v0 u z0 z1 z2 z3 1 (L - 1) (ct na) ns nc) := hz
  have HEZ : Hid (z0.length = l0 ∧ z1.length = (l1 + x.pl)) := ⟨ez0, ez1⟩
  clear hz ez0 ez1
  go_wp2_with fail
  refine (Alive_ok HZ4.out).mono ?_
  rintro e w5 ⟨rfl, rfl⟩
  go_wp2_with fail
  refine (Len1_ok HZ4.out (by omega)).mono ?_
  rintro e w5 ⟨he, rfl⟩
  rw [HEZ.out.2] at he
  subst he
  go_wp2_with fail
  refine ⟨FuI_of rfl ⟨k + 1, (L - 1), v0, u, l0, (l1 + x.pl), 1, (L - 1), (ct na), ns, nc, hlt, by go_num, by go_num, s0', s1', (fun o => by simp [hS2f]), (by simpa using hS2l), HD4.out, (Or.inr (Or.inl (by have := ct_le na; have := ct_le ns; have := ct_le nc; omega))), (HB2.out.trans (((Off.setCell (P := fun k => k = S) (Off.refl _ _) (p := ⟨S, 1, none⟩) rfl _).drew).below (by have := HB2.out.size; have := HK.out; omega) (fun k e => by rw [e]; exact HSK.out))), HN2.out⟩, ?_⟩
  rw [HM.out]
  show xs.length - (intOf (.int .i64 _)).toNat < _
  simp [intOf]
  omega
end Go.Proofs.Ytgabikgkpgpbbaa
