/-
  DiskFuse's rounds: Ops that are no write.
-/
import Derived.Test.YtgabikgkpgpbbaaFuseBase
namespace Go.Proofs.Ytgabikgkpgpbbaa
open Go.RowKit

set_option maxRecDepth 100000 in
set_option maxHeartbeats 4000000 in
theorem fuse_C1 {b off : Nat} {xs : List Opv} {cap : Nat} {F L : Int} {K S : Nat} {W0 wr : World} {k : Nat} {x : Opv} {v0 v1 : Value} {l0 l1 : Nat} {st fu na ns nc : Int} {u : Nat → Value} {Q0 : Exit → Act → World → Prop} (hl : xs.length ≤ 9223372036854775807) (hF : F ≤ 9223372036854775807) (hat : OpAt wr b (off + k * 9) x) (hpl : x.pl ≤ 2147483647) (HPO : Hid (x.po = none → x.pc = 0)) (hlt : k < xs.length) (HK : Hid (W0.heap.size = K)) (HSK : Hid (K ≤ S)) (hs0 : wr.cell? ⟨S, 0, none⟩ = some (.int .i64 l0)) (hs1 : wr.cell? ⟨S, 1, none⟩ = some (.int .i64 l1)) (hfr : ∀ o, wr.frozen? ⟨S, o, none⟩ = false) (hSl : S < wr.heap.size) (HI : Hid (DE wr K K v0 v1 l0 l1 st fu na ns nc ∧ RF F L st fu na ns nc ∧ Below K W0 wr ∧ ¬ Foot K v0 v1 S)) (h6 : u 6 = .int .i64 L) (h8 : u 8 = .int .i64 k) (g1 : x.kd < 1) : Code.wp Try.prog fuseBody (Exit.then (fun a' w'' => FuI (some ⟨b, off, none⟩) xs cap F K S W0 a' w'' ∧ FuM xs a' w'' < FuM xs (FuF (some ⟨b, off, none⟩) xs.length cap F K S u) wr) Q0) (FuF (some ⟨b, off, none⟩) xs.length cap F K S u) wr := by
  have HUSE := And.intro hF (And.intro hpl (And.intro HPO (And.intro HSK (And.intro hl (And.intro hlt (g1))))))
  clear HUSE
  have HBy : Hid (Byts wr x.po x.pl x.bs) := hat.p
  have c0 := hat.c0
  have c1 := hat.c1
  have c2 := hat.c2
  have c3 := hat.c3
  have c4 := hat.c4
  have c5 := hat.c5
  have c6 := hat.c6
  have c7 := hat.c7
  have c8 := hat.c8
  clear hat
  have hlt1 : (k : Int) < xs.length := by omega
  have hKs : K ≤ wr.heap.size := by have := HI.out.2.2.1.size; have := HK.out; omega
  have HM : Hid (FuM xs (FuF (some ⟨b, off, none⟩) xs.length cap F K S u) wr = xs.length - k) := by show xs.length - (intOf (u 8)).toNat = _; rw [h8]; simp [intOf]
  unfold FuF at HM ⊢
  rw [h6, h8] at HM ⊢
  conv => arg 2; whnf
  go_wp2_with fail
  refine ⟨FuI_of rfl ⟨k + 1, L, v0, v1, l0, l1, st, fu, na, ns, nc, hlt, by go_num, rfl, by rw [World.cell?_alloc_lt _ _ ⟨S, 0, none⟩ hSl]; exact hs0, by rw [World.cell?_alloc_lt _ _ ⟨S, 1, none⟩ hSl]; exact hs1, fun o => (((Off.refl (fun _ => False) wr).alloc _).frozen (p := ⟨S, o, none⟩) hSl id).trans (hfr o), by simp; omega, HI.out.1.below ((Below.refl _ _).alloc (Nat.le_refl _) _), HI.out.2.1, HI.out.2.2.1.alloc hKs _, HI.out.2.2.2⟩, ?_⟩
  rw [HM.out]
  show xs.length - (intOf (.int .i64 _)).toNat < _
  simp [intOf]
  omega
set_option maxRecDepth 100000 in
set_option maxHeartbeats 4000000 in
theorem fuse_C2 {b off : Nat} {xs : List Opv} {cap : Nat} {F L : Int} {K S : Nat} {W0 wr : World} {k : Nat} {x : Opv} {v0 v1 : Value} {l0 l1 : Nat} {st fu na ns nc : Int} {u : Nat → Value} {Q0 : Exit → Act → World → Prop} (hl : xs.length ≤ 9223372036854775807) (hF : F ≤ 9223372036854775807) (hat : OpAt wr b (off + k * 9) x) (hpl : x.pl ≤ 2147483647) (HPO : Hid (x.po = none → x.pc = 0)) (hlt : k < xs.length) (HK : Hid (W0.heap.size = K)) (HSK : Hid (K ≤ S)) (hs0 : wr.cell? ⟨S, 0, none⟩ = some (.int .i64 l0)) (hs1 : wr.cell? ⟨S, 1, none⟩ = some (.int .i64 l1)) (hfr : ∀ o, wr.frozen? ⟨S, o, none⟩ = false) (hSl : S < wr.heap.size) (HI : Hid (DE wr K K v0 v1 l0 l1 st fu na ns nc ∧ RF F L st fu na ns nc ∧ Below K W0 wr ∧ ¬ Foot K v0 v1 S)) (h6 : u 6 = .int .i64 L) (h8 : u 8 = .int .i64 k) (g1 : ¬ x.kd < 1) (g2 : 3 < x.kd) : Code.wp Try.prog fuseBody (Exit.then (fun a' w'' => FuI (some ⟨b, off, none⟩) xs cap F K S W0 a' w'' ∧ FuM xs a' w'' < FuM xs (FuF (some ⟨b, off, none⟩) xs.length cap F K S u) wr) Q0) (FuF (some ⟨b, off, none⟩) xs.length cap F K S u) wr := by
  have HUSE := And.intro hF (And.intro hpl (And.intro HPO (And.intro HSK (And.intro hl (And.intro hlt (And.intro g1 (g2)))))))
  clear HUSE
  have HBy : Hid (Byts wr x.po x.pl x.bs) := hat.p
  have c0 := hat.c0
  have c1 := hat.c1
  have c2 := hat.c2
  have c3 := hat.c3
  have c4 := hat.c4
  have c5 := hat.c5
  have c6 := hat.c6
  have c7 := hat.c7
  have c8 := hat.c8
  clear hat
  have hlt1 : (k : Int) < xs.length := by omega
  have hKs : K ≤ wr.heap.size := by have := HI.out.2.2.1.size; have := HK.out; omega
  have HM : Hid (FuM xs (FuF (some ⟨b, off, none⟩) xs.length cap F K S u) wr = xs.length - k) := by show xs.length - (intOf (u 8)).toNat = _; rw [h8]; simp [intOf]
  unfold FuF at HM ⊢
  rw [h6, h8] at HM ⊢
  conv => arg 2; whnf
  go_wp2_with fail
  refine ⟨FuI_of rfl ⟨k + 1, L, v0, v1, l0, l1, st, fu, na, ns, nc, hlt, by go_num, rfl, by rw [World.cell?_alloc_lt _ _ ⟨S, 0, none⟩ hSl]; exact hs0, by rw [World.cell?_alloc_lt _ _ ⟨S, 1, none⟩ hSl]; exact hs1, fun o => (((Off.refl (fun _ => False) wr).alloc _).frozen (p := ⟨S, o, none⟩) hSl id).trans (hfr o), by simp; omega, HI.out.1.below ((Below.refl _ _).alloc (Nat.le_refl _) _), HI.out.2.1, HI.out.2.2.1.alloc hKs _, HI.out.2.2.2⟩, ?_⟩
  rw [HM.out]
  show xs.length - (intOf (.int .i64 _)).toNat < _
  simp [intOf]
  omega
set_option maxRecDepth 100000 in
set_option maxHeartbeats 4000000 in
theorem fuse_C3 {b off : Nat} {xs : List Opv} {cap : Nat} {F L : Int} {K S : Nat} {W0 wr : World} {k : Nat} {x : Opv} {v0 v1 : Value} {l0 l1 : Nat} {st fu na ns nc : Int} {u : Nat → Value} {Q0 : Exit → Act → World → Prop} (hl : xs.length ≤ 9223372036854775807) (hF : F ≤ 9223372036854775807) (hat : OpAt wr b (off + k * 9) x) (hpl : x.pl ≤ 2147483647) (HPO : Hid (x.po = none → x.pc = 0)) (hlt : k < xs.length) (HK : Hid (W0.heap.size = K)) (HSK : Hid (K ≤ S)) (hs0 : wr.cell? ⟨S, 0, none⟩ = some (.int .i64 l0)) (hs1 : wr.cell? ⟨S, 1, none⟩ = some (.int .i64 l1)) (hfr : ∀ o, wr.frozen? ⟨S, o, none⟩ = false) (hSl : S < wr.heap.size) (HI : Hid (DE wr K K v0 v1 l0 l1 st fu na ns nc ∧ RF F L st fu na ns nc ∧ Below K W0 wr ∧ ¬ Foot K v0 v1 S)) (h6 : u 6 = .int .i64 L) (h8 : u 8 = .int .i64 k) (g1 : ¬ x.kd < 1) (g2 : ¬ 3 < x.kd) (g3 : ¬ (x.ar = 0 ∨ x.ar = 1)) : Code.wp Try.prog fuseBody (Exit.then (fun a' w'' => FuI (some ⟨b, off, none⟩) xs cap F K S W0 a' w'' ∧ FuM xs a' w'' < FuM xs (FuF (some ⟨b, off, none⟩) xs.length cap F K S u) wr) Q0) (FuF (some ⟨b, off, none⟩) xs.length cap F K S u) wr := by
  have HUSE := And.intro hF (And.intro hpl (And.intro HPO (And.intro HSK (And.intro hl (And.intro hlt (And.intro g1 (And.intro g2 (g3))))))))
  clear HUSE
  have HBy : Hid (Byts wr x.po x.pl x.bs) := hat.p
  have c0 := hat.c0
  have c1 := hat.c1
  have c2 := hat.c2
  have c3 := hat.c3
  have c4 := hat.c4
  have c5 := hat.c5
  have c6 := hat.c6
  have c7 := hat.c7
  have c8 := hat.c8
  clear hat
  have hlt1 : (k : Int) < xs.length := by omega
  have hKs : K ≤ wr.heap.size := by have := HI.out.2.2.1.size; have := HK.out; omega
  have HM : Hid (FuM xs (FuF (some ⟨b, off, none⟩) xs.length cap F K S u) wr = xs.length - k) := by show xs.length - (intOf (u 8)).toNat = _; rw [h8]; simp [intOf]
  unfold FuF at HM ⊢
  rw [h6, h8] at HM ⊢
  conv => arg 2; whnf
  have g3a : (x.ar == 0) = false := by simp; exact fun e => g3 (Or.inl e)
  have g3b : (x.ar == 1) = false := by simp; exact fun e => g3 (Or.inr e)
  have g3e : (x.ar != 0) = true := by simp; exact fun e => g3 (Or.inl e)
  have g3f : (x.ar != 1) = true := by simp; exact fun e => g3 (Or.inr e)
  have g3c : ¬ x.ar = 0 := fun e => g3 (Or.inl e)
  have g3d : ¬ x.ar = 1 := fun e => g3 (Or.inr e)
  clear g3
  go_wp2_with fail
  refine ⟨FuI_of rfl ⟨k + 1, L, v0, v1, l0, l1, st, fu, na, ns, nc, hlt, by go_num, rfl, by rw [World.cell?_alloc_lt _ _ ⟨S, 0, none⟩ hSl]; exact hs0, by rw [World.cell?_alloc_lt _ _ ⟨S, 1, none⟩ hSl]; exact hs1, fun o => (((Off.refl (fun _ => False) wr).alloc _).frozen (p := ⟨S, o, none⟩) hSl id).trans (hfr o), by simp; omega, HI.out.1.below ((Below.refl _ _).alloc (Nat.le_refl _) _), HI.out.2.1, HI.out.2.2.1.alloc hKs _, HI.out.2.2.2⟩, ?_⟩
  rw [HM.out]
  show xs.length - (intOf (.int .i64 _)).toNat < _
  simp [intOf]
  omega
end Go.Proofs.Ytgabikgkpgpbbaa
