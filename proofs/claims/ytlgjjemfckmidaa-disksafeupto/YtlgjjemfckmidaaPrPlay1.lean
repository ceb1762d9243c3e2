import Derived.Test.YtlgjjemfckmidaaPrTold
/-
  The law's 'plays': one call, by its kind.
-/
namespace Go.Proofs.Ytlgjjemfckmidaa
open Go.RowKit Go.BigFrame

/-- A block that is none of a pair's and none of the book's. -/
def Alien (K R : Nat) (v0 v1 : Value) (v : Nat → Value) (ρ : Nat → Nat) (k : Nat) : Prop := ¬ (Foot K v0 v1 k ∨ RFoot R v k) ∧ ρ k = 0
/-- Such a block stays as it is, and stays such. -/
def Keep (w w' : World) (K R : Nat) (v0 v1 : Value) (v : Nat → Value) (ρ : Nat → Nat) (v0' v1' : Value) (v' : Nat → Value) (ρ' : Nat → Nat) : Prop := ∀ k, k < w.heap.size → Alien K R v0 v1 v ρ k → w'.heap[k]? = w.heap[k]? ∧ Alien K R v0' v1' v' ρ' k
theorem Keep.step {w T w' : World} {K R : Nat} {v0 v1 v0' v1' : Value} {v v' : Nat → Value} (ρ : Nat → Nat) (bT : Below w.heap.size w T) (hs : PStep T w' K R v0 v1 v v0' v1' v') : Keep w w' K R v0 v1 v ρ v0' v1' v' ρ := fun k hk ha =>
  ⟨(hs.off.block k (Nat.lt_of_lt_of_le hk bT.size) ha.1).trans (bT.block k hk), fun g => ha.1 (hs.foot k (Nat.lt_of_lt_of_le hk bT.size) g), ha.2⟩
theorem Keep.book {w T w' : World} {K R : Nat} {v0 v1 : Value} {v : Nat → Value} {ρ ρ' : Nat → Nat} (bT : Below w.heap.size w T) (ho : Off (fun k => ρ k = 1 ∨ ρ k = 2 ∨ ρ k = 3) T w') (hr : ∀ k, k < T.heap.size → ρ' k = ρ k) : Keep w w' K R v0 v1 v ρ v0 v1 v ρ' := fun k hk ha =>
  ⟨(ho.block k (Nat.lt_of_lt_of_le hk bT.size) (by have := ha.2; omega)).trans (bT.block k hk), ha.1, by rw [hr k (Nat.lt_of_lt_of_le hk bT.size)]; exact ha.2⟩
theorem Keep.below {w w' : World} (K R : Nat) (v0 v1 : Value) (v : Nat → Value) (ρ : Nat → Nat) (b : Below w.heap.size w w') : Keep w w' K R v0 v1 v ρ v0 v1 v ρ := fun k hk ha => ⟨b.block k hk, ha⟩
theorem Jt.play {w w' : World} {B K R : Nat} {v0 v1 v0' v1' : Value} {v v' : Nat → Value} {σ σ' : Sg} {Q : Nat} {ρ : Nat → Nat} {vb vw : Value} {es : List Ent} (h : Jt w B K R v0 v1 v σ Q ρ vb vw es) (hp : Pr w' B K R v0' v1' v' σ') (hs : PStep w w' K R v0 v1 v v0' v1' v') (ok : σ'.Ok) : Jt w' B K R v0' v1' v' σ' Q ρ vb vw es ∧ Below B w w' := by
  refine ⟨⟨hp, ok, h.bk.off hs.off (fun k p => h.ze k p), fun k hk => ?_, h.eq, h.hQ, h.lo⟩, hs.off.below h.hB (fun k p => ?_)⟩
  · rcases Nat.lt_or_ge k w.heap.size with q | q
    · exact h.ze k (hs.foot k q hk)
    · exact h.bk.new k q
  · rcases p with p | p
    · exact (h.pr.d.foot_lt p).1
    · exact (h.pr.r.foot_lt p).1
end Go.Proofs.Ytlgjjemfckmidaa

/-
  The law's 'plays', by kinds: Append, Read, what is told, Len, Fuse, Crash, and kinds that there are none of.
-/
namespace Go.Proofs.Ytlgjjemfckmidaa
open Go.RowKit

set_option maxRecDepth 100000 in
set_option maxHeartbeats 4000000 in
theorem plays_append {w : World} {B K R : Nat} {v0 v1 : Value} {v : Nat → Value} {σ : Sg} {Q : Nat} {ρ : Nat → Nat} {vb vw : Value} {es : List Ent} (h : Jt w B K R v0 v1 v σ Q ρ vb vw es) (ar at_ n t0 t1 t2 t3 : Int) (po : Option Addr) (pl pc : Nat) (bs : List Int) (hb : Byts w po pl bs) (hpo : po = none → pc = 0) (hpl : pl + 90 ≤ 140737488355328) (hfar : 0 < pl → ∀ b o, po = some ⟨b, o, none⟩ → ¬ (Foot K v0 v1 b ∨ RFoot R v b)) (_hm : es.length + 4 ≤ 1099511627776) :
    Calls Try.prog 17 #[.agg #[.pointer (some ⟨K, 0, none⟩), .pointer (some ⟨R, 0, none⟩)], .agg #[.int .i64 1, .int .i64 ar, .int .i64 at_, .int .i64 n, .slice po pl pc, .int .i64 t0, .int .i64 t1, .int .i64 t2, .int .i64 t3], .pointer (some ⟨Q, 0, none⟩)] w fun e w' => e = .returned (.bool true) ∧ ∃ v0' v1' v' σ' ρ' vb' vw' es', Jt w' B K R v0' v1' v' σ' Q ρ' vb' vw' es' ∧ es'.length ≤ es.length + 4 ∧ Below B w w' ∧ Keep w w' K R v0 v1 v ρ v0' v1' v' ρ' := by
  obtain ⟨T, hT⟩ : ∃ y, (w.alloc (.cells #[.pointer (some ⟨K, 0, none⟩), .pointer (some ⟨R, 0, none⟩)] 45)).alloc (.cells #[.int .i64 1, .int .i64 ar, .int .i64 at_, .int .i64 n, .slice po pl pc, .int .i64 t0, .int .i64 t1, .int .i64 t2, .int .i64 t3] 34) = y := ⟨_, rfl⟩
  have HW : Hid ((w.alloc (.cells #[.pointer (some ⟨K, 0, none⟩), .pointer (some ⟨R, 0, none⟩)] 45)).alloc (.cells #[.int .i64 1, .int .i64 ar, .int .i64 at_, .int .i64 n, .slice po pl pc, .int .i64 t0, .int .i64 t1, .int .i64 t2, .int .i64 t3] 34) = T) := hT
  have bT : Below w.heap.size w T := by rw [← hT]; exact ((Below.refl _ _).alloc (Nat.le_refl _) _).alloc (by simp) _
  have sT : T.heap.size = w.heap.size + 2 := by rw [← hT]; simp
  have hb0 : ∀ o, T.cell? ⟨w.heap.size, o, none⟩ = (#[.pointer (some ⟨K, 0, none⟩), .pointer (some ⟨R, 0, none⟩)] : Array Value)[o]? := fun o => by
    rw [← hT, World.cell?_alloc_lt _ _ ⟨w.heap.size, o, none⟩ (by simp)]; exact cell_new _ _ _ _ _
  have hb1 : ∀ o, T.cell? ⟨w.heap.size + 1, o, none⟩ = (#[.int .i64 1, .int .i64 ar, .int .i64 at_, .int .i64 n, .slice po pl pc, .int .i64 t0, .int .i64 t1, .int .i64 t2, .int .i64 t3] : Array Value)[o]? := fun o => by
    rw [← hT]; simp
  have HJ : Hid (Jt T B K R v0 v1 v σ Q ρ vb vw es ∧ Below w.heap.size w T ∧ T.heap.size = w.heap.size + 2 ∧ B ≤ w.heap.size ∧ (∀ k, (Foot K v0 v1 k ∨ RFoot R v k) → k < w.heap.size)) := ⟨h.below bT, bT, sT, h.hB, fun k hk => h.pr.foot_lt hk⟩
  have HB : Hid ((∀ o, T.cell? ⟨w.heap.size, o, none⟩ = (#[.pointer (some ⟨K, 0, none⟩), .pointer (some ⟨R, 0, none⟩)] : Array Value)[o]?) ∧ (∀ o, T.cell? ⟨w.heap.size + 1, o, none⟩ = (#[.int .i64 1, .int .i64 ar, .int .i64 at_, .int .i64 n, .slice po pl pc, .int .i64 t0, .int .i64 t1, .int .i64 t2, .int .i64 t3] : Array Value)[o]?)) := ⟨hb0, hb1⟩
  have HP : Hid (Byts T po pl bs ∧ (po = none → pc = 0) ∧ (0 < pl → ∀ b o, po = some ⟨b, o, none⟩ → ¬ (Foot K v0 v1 b ∨ RFoot R v b))) := ⟨hb.below bT, hpo, hfar⟩
  clear hb hpo hfar
  clear h hT bT sT hb0 hb1
  go_enter Try.func17, Try.ntmps17
  go_wp2_with fail
  rw [HW.out]
  refine (appends_any HJ.out.1.pr HJ.out.1.ok ar HP.out.1 HP.out.2.1 hpl HP.out.2.2).mono ?_
  rintro e w1 ⟨rfl, v0', v1', v', p1, s1⟩
  have H1 : Hid (Pr w1 B K R v0' v1' v' (appS σ ar bs) ∧ PStep T w1 K R v0 v1 v v0' v1' v') := ⟨p1, s1⟩
  clear p1 s1
  go_wp2_with fail
  go_ret
  obtain ⟨j, bb⟩ := HJ.out.1.play H1.out.1 H1.out.2 (appS_ok HJ.out.1.ok ar bs)
  exact ⟨rfl, v0', v1', v', _, ρ, vb, vw, es, j, by omega, (HJ.out.2.1.mono HJ.out.2.2.2.1).trans bb, Keep.step ρ HJ.out.2.1 H1.out.2⟩
set_option maxRecDepth 100000 in
set_option maxHeartbeats 4000000 in
theorem plays_read {w : World} {B K R : Nat} {v0 v1 : Value} {v : Nat → Value} {σ : Sg} {Q : Nat} {ρ : Nat → Nat} {vb vw : Value} {es : List Ent} (h : Jt w B K R v0 v1 v σ Q ρ vb vw es) (ar at_ n t0 t1 t2 t3 : Int) (po : Option Addr) (pl pc : Nat) (hp : -9223372036854775808 ≤ at_ ∧ at_ ≤ 9223372036854775807) (_hm : es.length + 4 ≤ 1099511627776) :
    Calls Try.prog 17 #[.agg #[.pointer (some ⟨K, 0, none⟩), .pointer (some ⟨R, 0, none⟩)], .agg #[.int .i64 4, .int .i64 ar, .int .i64 at_, .int .i64 n, .slice po pl pc, .int .i64 t0, .int .i64 t1, .int .i64 t2, .int .i64 t3], .pointer (some ⟨Q, 0, none⟩)] w fun e w' => e = .returned (.bool true) ∧ ∃ v0' v1' v' σ' ρ' vb' vw' es', Jt w' B K R v0' v1' v' σ' Q ρ' vb' vw' es' ∧ es'.length ≤ es.length + 4 ∧ Below B w w' ∧ Keep w w' K R v0 v1 v ρ v0' v1' v' ρ' := by
  obtain ⟨T, hT⟩ : ∃ y, (w.alloc (.cells #[.pointer (some ⟨K, 0, none⟩), .pointer (some ⟨R, 0, none⟩)] 45)).alloc (.cells #[.int .i64 4, .int .i64 ar, .int .i64 at_, .int .i64 n, .slice po pl pc, .int .i64 t0, .int .i64 t1, .int .i64 t2, .int .i64 t3] 34) = y := ⟨_, rfl⟩
  have HW : Hid ((w.alloc (.cells #[.pointer (some ⟨K, 0, none⟩), .pointer (some ⟨R, 0, none⟩)] 45)).alloc (.cells #[.int .i64 4, .int .i64 ar, .int .i64 at_, .int .i64 n, .slice po pl pc, .int .i64 t0, .int .i64 t1, .int .i64 t2, .int .i64 t3] 34) = T) := hT
  have bT : Below w.heap.size w T := by rw [← hT]; exact ((Below.refl _ _).alloc (Nat.le_refl _) _).alloc (by simp) _
  have sT : T.heap.size = w.heap.size + 2 := by rw [← hT]; simp
  have hb0 : ∀ o, T.cell? ⟨w.heap.size, o, none⟩ = (#[.pointer (some ⟨K, 0, none⟩), .pointer (some ⟨R, 0, none⟩)] : Array Value)[o]? := fun o => by
    rw [← hT, World.cell?_alloc_lt _ _ ⟨w.heap.size, o, none⟩ (by simp)]; exact cell_new _ _ _ _ _
  have hb1 : ∀ o, T.cell? ⟨w.heap.size + 1, o, none⟩ = (#[.int .i64 4, .int .i64 ar, .int .i64 at_, .int .i64 n, .slice po pl pc, .int .i64 t0, .int .i64 t1, .int .i64 t2, .int .i64 t3] : Array Value)[o]? := fun o => by
    rw [← hT]; simp
  have HJ : Hid (Jt T B K R v0 v1 v σ Q ρ vb vw es ∧ Below w.heap.size w T ∧ T.heap.size = w.heap.size + 2 ∧ B ≤ w.heap.size ∧ (∀ k, (Foot K v0 v1 k ∨ RFoot R v k) → k < w.heap.size)) := ⟨h.below bT, bT, sT, h.hB, fun k hk => h.pr.foot_lt hk⟩
  have HB : Hid ((∀ o, T.cell? ⟨w.heap.size, o, none⟩ = (#[.pointer (some ⟨K, 0, none⟩), .pointer (some ⟨R, 0, none⟩)] : Array Value)[o]?) ∧ (∀ o, T.cell? ⟨w.heap.size + 1, o, none⟩ = (#[.int .i64 4, .int .i64 ar, .int .i64 at_, .int .i64 n, .slice po pl pc, .int .i64 t0, .int .i64 t1, .int .i64 t2, .int .i64 t3] : Array Value)[o]?)) := ⟨hb0, hb1⟩
  clear h hT bT sT hb0 hb1
  go_enter Try.func17, Try.ntmps17
  go_wp2_with fail
  rw [HW.out]
  refine (reads_any HJ.out.1 ar at_ n hp (by omega)).mono ?_
  rintro e w1 ⟨rfl, ρ', vb', vw', es', j1, l1, b1, o1, p1⟩
  have H1 : Hid (Jt w1 B K R v0 v1 v σ Q ρ' vb' vw' es' ∧ es'.length = es.length + 2 ∧ Below B T w1 ∧ Off (fun k => ρ k = 1 ∨ ρ k = 2 ∨ ρ k = 3) T w1 ∧ (∀ k, k < T.heap.size → ρ' k = ρ k)) := ⟨j1, l1, b1, o1, p1⟩
  clear j1 l1 b1 o1 p1
  go_wp2_with fail
  go_ret
  exact ⟨rfl, v0, v1, v, σ, ρ', vb', vw', es', H1.out.1, by have := H1.out.2.1; omega, (HJ.out.2.1.mono HJ.out.2.2.2.1).trans H1.out.2.2.1, Keep.book HJ.out.2.1 H1.out.2.2.2.1 H1.out.2.2.2.2⟩
set_option maxRecDepth 100000 in
set_option maxHeartbeats 4000000 in
theorem plays_told {w : World} {B K R : Nat} {v0 v1 : Value} {v : Nat → Value} {σ : Sg} {Q : Nat} {ρ : Nat → Nat} {vb vw : Value} {es : List Ent} (h : Jt w B K R v0 v1 v σ Q ρ vb vw es) (ar at_ n t0 t1 t2 t3 : Int) (po : Option Addr) (pl pc : Nat) (_hm : es.length + 4 ≤ 1099511627776) :
    Calls Try.prog 17 #[.agg #[.pointer (some ⟨K, 0, none⟩), .pointer (some ⟨R, 0, none⟩)], .agg #[.int .i64 8, .int .i64 ar, .int .i64 at_, .int .i64 n, .slice po pl pc, .int .i64 t0, .int .i64 t1, .int .i64 t2, .int .i64 t3], .pointer (some ⟨Q, 0, none⟩)] w fun e w' => e = .returned (.bool true) ∧ ∃ v0' v1' v' σ' ρ' vb' vw' es', Jt w' B K R v0' v1' v' σ' Q ρ' vb' vw' es' ∧ es'.length ≤ es.length + 4 ∧ Below B w w' ∧ Keep w w' K R v0 v1 v ρ v0' v1' v' ρ' := by
  obtain ⟨T, hT⟩ : ∃ y, (w.alloc (.cells #[.pointer (some ⟨K, 0, none⟩), .pointer (some ⟨R, 0, none⟩)] 45)).alloc (.cells #[.int .i64 8, .int .i64 ar, .int .i64 at_, .int .i64 n, .slice po pl pc, .int .i64 t0, .int .i64 t1, .int .i64 t2, .int .i64 t3] 34) = y := ⟨_, rfl⟩
  have HW : Hid ((w.alloc (.cells #[.pointer (some ⟨K, 0, none⟩), .pointer (some ⟨R, 0, none⟩)] 45)).alloc (.cells #[.int .i64 8, .int .i64 ar, .int .i64 at_, .int .i64 n, .slice po pl pc, .int .i64 t0, .int .i64 t1, .int .i64 t2, .int .i64 t3] 34) = T) := hT
  have bT : Below w.heap.size w T := by rw [← hT]; exact ((Below.refl _ _).alloc (Nat.le_refl _) _).alloc (by simp) _
  have sT : T.heap.size = w.heap.size + 2 := by rw [← hT]; simp
  have hb0 : ∀ o, T.cell? ⟨w.heap.size, o, none⟩ = (#[.pointer (some ⟨K, 0, none⟩), .pointer (some ⟨R, 0, none⟩)] : Array Value)[o]? := fun o => by
    rw [← hT, World.cell?_alloc_lt _ _ ⟨w.heap.size, o, none⟩ (by simp)]; exact cell_new _ _ _ _ _
  have hb1 : ∀ o, T.cell? ⟨w.heap.size + 1, o, none⟩ = (#[.int .i64 8, .int .i64 ar, .int .i64 at_, .int .i64 n, .slice po pl pc, .int .i64 t0, .int .i64 t1, .int .i64 t2, .int .i64 t3] : Array Value)[o]? := fun o => by
    rw [← hT]; simp
  have HJ : Hid (Jt T B K R v0 v1 v σ Q ρ vb vw es ∧ Below w.heap.size w T ∧ T.heap.size = w.heap.size + 2 ∧ B ≤ w.heap.size ∧ (∀ k, (Foot K v0 v1 k ∨ RFoot R v k) → k < w.heap.size)) := ⟨h.below bT, bT, sT, h.hB, fun k hk => h.pr.foot_lt hk⟩
  have HB : Hid ((∀ o, T.cell? ⟨w.heap.size, o, none⟩ = (#[.pointer (some ⟨K, 0, none⟩), .pointer (some ⟨R, 0, none⟩)] : Array Value)[o]?) ∧ (∀ o, T.cell? ⟨w.heap.size + 1, o, none⟩ = (#[.int .i64 8, .int .i64 ar, .int .i64 at_, .int .i64 n, .slice po pl pc, .int .i64 t0, .int .i64 t1, .int .i64 t2, .int .i64 t3] : Array Value)[o]?)) := ⟨hb0, hb1⟩
  clear h hT bT sT hb0 hb1
  go_enter Try.func17, Try.ntmps17
  go_wp2_with fail
  rw [HW.out]
  refine (told_any HJ.out.1 _hm).mono ?_
  rintro e w1 ⟨rfl, ρ', vb', vw', es', j1, l1, b1, o1, p1⟩
  have H1 : Hid (Jt w1 B K R v0 v1 v σ Q ρ' vb' vw' es' ∧ es'.length = es.length + 4 ∧ Below B T w1 ∧ Off (fun k => ρ k = 1 ∨ ρ k = 2 ∨ ρ k = 3) T w1 ∧ (∀ k, k < T.heap.size → ρ' k = ρ k)) := ⟨j1, l1, b1, o1, p1⟩
  clear j1 l1 b1 o1 p1
  go_wp2_with fail
  go_ret
  exact ⟨rfl, v0, v1, v, σ, ρ', vb', vw', es', H1.out.1, by have := H1.out.2.1; omega, (HJ.out.2.1.mono HJ.out.2.2.2.1).trans H1.out.2.2.1, Keep.book HJ.out.2.1 H1.out.2.2.2.1 H1.out.2.2.2.2⟩
theorem fusS_ok {σ : Sg} (ok : σ.Ok) (n : Int) : (fusS σ n).Ok := by
  unfold fusS; split
  · exact ok
  · exact ⟨ok.s0, ok.s1, ok.l0, ok.l1⟩
theorem torn_le (xs : List Int) (s : Nat) (a b : Int) (hs : s ≤ xs.length) : (torn xs s (betw a ((xs.length - s : Nat) : Int)).toNat (betw b ((xs.length - s - (betw a ((xs.length - s : Nat) : Int)).toNat : Nat) : Int)).toNat).length ≤ xs.length := by
  unfold torn betw; simp; omega
theorem crS_ok {σ : Sg} (ok : σ.Ok) (a b c d : Int) : (crS σ a b c d).Ok := by
  have h0 := torn_le σ.x0 σ.s0 a b ok.s0
  have h1 := torn_le σ.x1 σ.s1 c d ok.s1
  have l0 := ok.l0
  have l1 := ok.l1
  exact ⟨Nat.le_refl _, Nat.le_refl _, Nat.le_trans h0 l0, Nat.le_trans h1 l1⟩
set_option maxRecDepth 100000 in
set_option maxHeartbeats 4000000 in
theorem plays_fuse {w : World} {B K R : Nat} {v0 v1 : Value} {v : Nat → Value} {σ : Sg} {Q : Nat} {ρ : Nat → Nat} {vb vw : Value} {es : List Ent} (h : Jt w B K R v0 v1 v σ Q ρ vb vw es) (ar at_ n t0 t1 t2 t3 : Int) (po : Option Addr) (pl pc : Nat) (hn : -9223372036854775808 ≤ n ∧ n ≤ 9223372036854775807) (_hm : es.length + 4 ≤ 1099511627776) :
    Calls Try.prog 17 #[.agg #[.pointer (some ⟨K, 0, none⟩), .pointer (some ⟨R, 0, none⟩)], .agg #[.int .i64 6, .int .i64 ar, .int .i64 at_, .int .i64 n, .slice po pl pc, .int .i64 t0, .int .i64 t1, .int .i64 t2, .int .i64 t3], .pointer (some ⟨Q, 0, none⟩)] w fun e w' => e = .returned (.bool true) ∧ ∃ v0' v1' v' σ' ρ' vb' vw' es', Jt w' B K R v0' v1' v' σ' Q ρ' vb' vw' es' ∧ es'.length ≤ es.length + 4 ∧ Below B w w' ∧ Keep w w' K R v0 v1 v ρ v0' v1' v' ρ' := by
  obtain ⟨T, hT⟩ : ∃ y, (w.alloc (.cells #[.pointer (some ⟨K, 0, none⟩), .pointer (some ⟨R, 0, none⟩)] 45)).alloc (.cells #[.int .i64 6, .int .i64 ar, .int .i64 at_, .int .i64 n, .slice po pl pc, .int .i64 t0, .int .i64 t1, .int .i64 t2, .int .i64 t3] 34) = y := ⟨_, rfl⟩
  have HW : Hid ((w.alloc (.cells #[.pointer (some ⟨K, 0, none⟩), .pointer (some ⟨R, 0, none⟩)] 45)).alloc (.cells #[.int .i64 6, .int .i64 ar, .int .i64 at_, .int .i64 n, .slice po pl pc, .int .i64 t0, .int .i64 t1, .int .i64 t2, .int .i64 t3] 34) = T) := hT
  have bT : Below w.heap.size w T := by rw [← hT]; exact ((Below.refl _ _).alloc (Nat.le_refl _) _).alloc (by simp) _
  have sT : T.heap.size = w.heap.size + 2 := by rw [← hT]; simp
  have hb0 : ∀ o, T.cell? ⟨w.heap.size, o, none⟩ = (#[.pointer (some ⟨K, 0, none⟩), .pointer (some ⟨R, 0, none⟩)] : Array Value)[o]? := fun o => by
    rw [← hT, World.cell?_alloc_lt _ _ ⟨w.heap.size, o, none⟩ (by simp)]; exact cell_new _ _ _ _ _
  have hb1 : ∀ o, T.cell? ⟨w.heap.size + 1, o, none⟩ = (#[.int .i64 6, .int .i64 ar, .int .i64 at_, .int .i64 n, .slice po pl pc, .int .i64 t0, .int .i64 t1, .int .i64 t2, .int .i64 t3] : Array Value)[o]? := fun o => by
    rw [← hT]; simp
  have HJ : Hid (Jt T B K R v0 v1 v σ Q ρ vb vw es ∧ Below w.heap.size w T ∧ T.heap.size = w.heap.size + 2 ∧ B ≤ w.heap.size ∧ (∀ k, (Foot K v0 v1 k ∨ RFoot R v k) → k < w.heap.size)) := ⟨h.below bT, bT, sT, h.hB, fun k hk => h.pr.foot_lt hk⟩
  have HB : Hid ((∀ o, T.cell? ⟨w.heap.size, o, none⟩ = (#[.pointer (some ⟨K, 0, none⟩), .pointer (some ⟨R, 0, none⟩)] : Array Value)[o]?) ∧ (∀ o, T.cell? ⟨w.heap.size + 1, o, none⟩ = (#[.int .i64 6, .int .i64 ar, .int .i64 at_, .int .i64 n, .slice po pl pc, .int .i64 t0, .int .i64 t1, .int .i64 t2, .int .i64 t3] : Array Value)[o]?)) := ⟨hb0, hb1⟩
  clear h hT bT sT hb0 hb1
  go_enter Try.func17, Try.ntmps17
  go_wp2_with fail
  rw [HW.out]
  refine (dFuse HJ.out.1.pr.d n hn.2).mono ?_
  rintro e w1 ⟨rfl, d1, s1⟩
  obtain ⟨r1, _, go1⟩ := HJ.out.1.pr.step (τ := fusS σ n) d1 s1
  have H1 : Hid (RkS w1 B R v σ ∧ (∀ w2 v', RkS w2 B R v' (fusS σ n) → RStep w1 w2 R v v' → Pr w2 B K R v0 v1 v' (fusS σ n) ∧ PStep T w2 K R v0 v1 v v0 v1 v')) := ⟨r1, go1⟩
  have hp1 : w1.cell? ⟨w.heap.size, 1, none⟩ = some (.pointer (some ⟨R, 0, none⟩)) := (s1.off.cell (p := ⟨w.heap.size, 1, none⟩) (by have := HJ.out.2.2.1; simp only; omega) (fun p => by have := HJ.out.2.2.2.2 _ (Or.inl p); simp only at this; omega)).trans (HB.out.1 1)
  have hp2 : ∀ o, w1.cell? ⟨w.heap.size + 1, o, none⟩ = T.cell? ⟨w.heap.size + 1, o, none⟩ := fun o => s1.off.cell (p := ⟨w.heap.size + 1, o, none⟩) (by have := HJ.out.2.2.1; simp only; omega) (fun p => by have := HJ.out.2.2.2.2 _ (Or.inl p); simp only at this; omega)
  have hp3 : w1.cell? ⟨w.heap.size + 1, 3, none⟩ = some (.int .i64 n) := (hp2 3).trans (HB.out.2 3)
  clear d1 s1 r1 go1 hp2
  go_wp2_with fail
  refine (rFuse H1.out.1 n hn).mono ?_
  rintro e w2 ⟨rfl, r2, tt2⟩
  have H2 : Hid (Pr w2 B K R v0 v1 v (fusS σ n) ∧ PStep T w2 K R v0 v1 v v0 v1 v) := H1.out.2 w2 v r2 tt2
  clear r2 tt2
  go_wp2_with fail
  go_ret
  obtain ⟨j, bb⟩ := HJ.out.1.play H2.out.1 H2.out.2 (fusS_ok HJ.out.1.ok n)
  exact ⟨rfl, v0, v1, v, _, ρ, vb, vw, es, j, by omega, (HJ.out.2.1.mono HJ.out.2.2.2.1).trans bb, Keep.step ρ HJ.out.2.1 H2.out.2⟩
set_option maxRecDepth 100000 in
set_option maxHeartbeats 4000000 in
theorem plays_crash {w : World} {B K R : Nat} {v0 v1 : Value} {v : Nat → Value} {σ : Sg} {Q : Nat} {ρ : Nat → Nat} {vb vw : Value} {es : List Ent} (h : Jt w B K R v0 v1 v σ Q ρ vb vw es) (ar at_ n t0 t1 t2 t3 : Int) (po : Option Addr) (pl pc : Nat) (_hm : es.length + 4 ≤ 1099511627776) :
    Calls Try.prog 17 #[.agg #[.pointer (some ⟨K, 0, none⟩), .pointer (some ⟨R, 0, none⟩)], .agg #[.int .i64 7, .int .i64 ar, .int .i64 at_, .int .i64 n, .slice po pl pc, .int .i64 t0, .int .i64 t1, .int .i64 t2, .int .i64 t3], .pointer (some ⟨Q, 0, none⟩)] w fun e w' => e = .returned (.bool true) ∧ ∃ v0' v1' v' σ' ρ' vb' vw' es', Jt w' B K R v0' v1' v' σ' Q ρ' vb' vw' es' ∧ es'.length ≤ es.length + 4 ∧ Below B w w' ∧ Keep w w' K R v0 v1 v ρ v0' v1' v' ρ' := by
  obtain ⟨T, hT⟩ : ∃ y, (w.alloc (.cells #[.pointer (some ⟨K, 0, none⟩), .pointer (some ⟨R, 0, none⟩)] 45)).alloc (.cells #[.int .i64 7, .int .i64 ar, .int .i64 at_, .int .i64 n, .slice po pl pc, .int .i64 t0, .int .i64 t1, .int .i64 t2, .int .i64 t3] 34) = y := ⟨_, rfl⟩
  have HW : Hid ((w.alloc (.cells #[.pointer (some ⟨K, 0, none⟩), .pointer (some ⟨R, 0, none⟩)] 45)).alloc (.cells #[.int .i64 7, .int .i64 ar, .int .i64 at_, .int .i64 n, .slice po pl pc, .int .i64 t0, .int .i64 t1, .int .i64 t2, .int .i64 t3] 34) = T) := hT
  have bT : Below w.heap.size w T := by rw [← hT]; exact ((Below.refl _ _).alloc (Nat.le_refl _) _).alloc (by simp) _
  have sT : T.heap.size = w.heap.size + 2 := by rw [← hT]; simp
  have hb0 : ∀ o, T.cell? ⟨w.heap.size, o, none⟩ = (#[.pointer (some ⟨K, 0, none⟩), .pointer (some ⟨R, 0, none⟩)] : Array Value)[o]? := fun o => by
    rw [← hT, World.cell?_alloc_lt _ _ ⟨w.heap.size, o, none⟩ (by simp)]; exact cell_new _ _ _ _ _
  have hb1 : ∀ o, T.cell? ⟨w.heap.size + 1, o, none⟩ = (#[.int .i64 7, .int .i64 ar, .int .i64 at_, .int .i64 n, .slice po pl pc, .int .i64 t0, .int .i64 t1, .int .i64 t2, .int .i64 t3] : Array Value)[o]? := fun o => by
    rw [← hT]; simp
  have HJ : Hid (Jt T B K R v0 v1 v σ Q ρ vb vw es ∧ Below w.heap.size w T ∧ T.heap.size = w.heap.size + 2 ∧ B ≤ w.heap.size ∧ (∀ k, (Foot K v0 v1 k ∨ RFoot R v k) → k < w.heap.size)) := ⟨h.below bT, bT, sT, h.hB, fun k hk => h.pr.foot_lt hk⟩
  have HB : Hid ((∀ o, T.cell? ⟨w.heap.size, o, none⟩ = (#[.pointer (some ⟨K, 0, none⟩), .pointer (some ⟨R, 0, none⟩)] : Array Value)[o]?) ∧ (∀ o, T.cell? ⟨w.heap.size + 1, o, none⟩ = (#[.int .i64 7, .int .i64 ar, .int .i64 at_, .int .i64 n, .slice po pl pc, .int .i64 t0, .int .i64 t1, .int .i64 t2, .int .i64 t3] : Array Value)[o]?)) := ⟨hb0, hb1⟩
  clear h hT bT sT hb0 hb1
  go_enter Try.func17, Try.ntmps17
  go_wp2_with fail
  rw [HW.out]
  refine (dCrash HJ.out.1.pr.d HJ.out.1.ok t0 t1 t2 t3).mono ?_
  rintro e w1 ⟨rfl, v0', v1', d1, s1⟩
  obtain ⟨r1, _, go1⟩ := HJ.out.1.pr.step (τ := crS σ t0 t1 t2 t3) d1 s1
  have H1 : Hid (RkS w1 B R v σ ∧ (∀ w2 v', RkS w2 B R v' (crS σ t0 t1 t2 t3) → RStep w1 w2 R v v' → Pr w2 B K R v0' v1' v' (crS σ t0 t1 t2 t3) ∧ PStep T w2 K R v0 v1 v v0' v1' v')) := ⟨r1, go1⟩
  have hp1 : w1.cell? ⟨w.heap.size, 1, none⟩ = some (.pointer (some ⟨R, 0, none⟩)) := (s1.off.cell (p := ⟨w.heap.size, 1, none⟩) (by have := HJ.out.2.2.1; simp only; omega) (fun p => by have := HJ.out.2.2.2.2 _ (Or.inl p); simp only at this; omega)).trans (HB.out.1 1)
  have hp2 : ∀ o, w1.cell? ⟨w.heap.size + 1, o, none⟩ = T.cell? ⟨w.heap.size + 1, o, none⟩ := fun o => s1.off.cell (p := ⟨w.heap.size + 1, o, none⟩) (by have := HJ.out.2.2.1; simp only; omega) (fun p => by have := HJ.out.2.2.2.2 _ (Or.inl p); simp only at this; omega)
  have hq0 : w1.cell? ⟨w.heap.size + 1, 5, none⟩ = some (.int .i64 t0) := (hp2 5).trans (HB.out.2 5)
  have hq1 : w1.cell? ⟨w.heap.size + 1, 6, none⟩ = some (.int .i64 t1) := (hp2 6).trans (HB.out.2 6)
  have hq2 : w1.cell? ⟨w.heap.size + 1, 7, none⟩ = some (.int .i64 t2) := (hp2 7).trans (HB.out.2 7)
  have hq3 : w1.cell? ⟨w.heap.size + 1, 8, none⟩ = some (.int .i64 t3) := (hp2 8).trans (HB.out.2 8)
  clear d1 s1 r1 go1 hp2
  go_wp2_with fail
  refine (rCrash H1.out.1 HJ.out.1.ok t0 t1 t2 t3).mono ?_
  rintro e w2 ⟨rfl, v', r2, tt2⟩
  have H2 : Hid (Pr w2 B K R v0' v1' v' (crS σ t0 t1 t2 t3) ∧ PStep T w2 K R v0 v1 v v0' v1' v') := H1.out.2 w2 v' r2 tt2
  clear r2 tt2
  go_wp2_with fail
  go_ret
  obtain ⟨j, bb⟩ := HJ.out.1.play H2.out.1 H2.out.2 (crS_ok HJ.out.1.ok t0 t1 t2 t3)
  exact ⟨rfl, v0', v1', v', _, ρ, vb, vw, es, j, by omega, (HJ.out.2.1.mono HJ.out.2.2.2.1).trans bb, Keep.step ρ HJ.out.2.1 H2.out.2⟩
set_option maxRecDepth 100000 in
set_option maxHeartbeats 4000000 in
theorem plays_len {w : World} {B K R : Nat} {v0 v1 : Value} {v : Nat → Value} {σ : Sg} {Q : Nat} {ρ : Nat → Nat} {vb vw : Value} {es : List Ent} (h : Jt w B K R v0 v1 v σ Q ρ vb vw es) (ar at_ n t0 t1 t2 t3 : Int) (po : Option Addr) (pl pc : Nat) (_hm : es.length + 4 ≤ 1099511627776) :
    Calls Try.prog 17 #[.agg #[.pointer (some ⟨K, 0, none⟩), .pointer (some ⟨R, 0, none⟩)], .agg #[.int .i64 5, .int .i64 ar, .int .i64 at_, .int .i64 n, .slice po pl pc, .int .i64 t0, .int .i64 t1, .int .i64 t2, .int .i64 t3], .pointer (some ⟨Q, 0, none⟩)] w fun e w' => e = .returned (.bool true) ∧ ∃ v0' v1' v' σ' ρ' vb' vw' es', Jt w' B K R v0' v1' v' σ' Q ρ' vb' vw' es' ∧ es'.length ≤ es.length + 4 ∧ Below B w w' ∧ Keep w w' K R v0 v1 v ρ v0' v1' v' ρ' := by
  obtain ⟨T, hT⟩ : ∃ y, (w.alloc (.cells #[.pointer (some ⟨K, 0, none⟩), .pointer (some ⟨R, 0, none⟩)] 45)).alloc (.cells #[.int .i64 5, .int .i64 ar, .int .i64 at_, .int .i64 n, .slice po pl pc, .int .i64 t0, .int .i64 t1, .int .i64 t2, .int .i64 t3] 34) = y := ⟨_, rfl⟩
  have HW : Hid ((w.alloc (.cells #[.pointer (some ⟨K, 0, none⟩), .pointer (some ⟨R, 0, none⟩)] 45)).alloc (.cells #[.int .i64 5, .int .i64 ar, .int .i64 at_, .int .i64 n, .slice po pl pc, .int .i64 t0, .int .i64 t1, .int .i64 t2, .int .i64 t3] 34) = T) := hT
  have bT : Below w.heap.size w T := by rw [← hT]; exact ((Below.refl _ _).alloc (Nat.le_refl _) _).alloc (by simp) _
  have sT : T.heap.size = w.heap.size + 2 := by rw [← hT]; simp
  have hb0 : ∀ o, T.cell? ⟨w.heap.size, o, none⟩ = (#[.pointer (some ⟨K, 0, none⟩), .pointer (some ⟨R, 0, none⟩)] : Array Value)[o]? := fun o => by
    rw [← hT, World.cell?_alloc_lt _ _ ⟨w.heap.size, o, none⟩ (by simp)]; exact cell_new _ _ _ _ _
  have hb1 : ∀ o, T.cell? ⟨w.heap.size + 1, o, none⟩ = (#[.int .i64 5, .int .i64 ar, .int .i64 at_, .int .i64 n, .slice po pl pc, .int .i64 t0, .int .i64 t1, .int .i64 t2, .int .i64 t3] : Array Value)[o]? := fun o => by
    rw [← hT]; simp
  have HJ : Hid (Jt T B K R v0 v1 v σ Q ρ vb vw es ∧ Below w.heap.size w T ∧ T.heap.size = w.heap.size + 2 ∧ B ≤ w.heap.size ∧ (∀ k, (Foot K v0 v1 k ∨ RFoot R v k) → k < w.heap.size)) := ⟨h.below bT, bT, sT, h.hB, fun k hk => h.pr.foot_lt hk⟩
  have HB : Hid ((∀ o, T.cell? ⟨w.heap.size, o, none⟩ = (#[.pointer (some ⟨K, 0, none⟩), .pointer (some ⟨R, 0, none⟩)] : Array Value)[o]?) ∧ (∀ o, T.cell? ⟨w.heap.size + 1, o, none⟩ = (#[.int .i64 5, .int .i64 ar, .int .i64 at_, .int .i64 n, .slice po pl pc, .int .i64 t0, .int .i64 t1, .int .i64 t2, .int .i64 t3] : Array Value)[o]?)) := ⟨hb0, hb1⟩
  clear h hT bT sT hb0 hb1
  go_enter Try.func17, Try.ntmps17
  go_wp2_with fail
  rw [HW.out]
  refine (dLen HJ.out.1.pr.d ar).mono ?_
  rintro e w1 ⟨ev1, rfl, e1, b1⟩
  have H1 : Hid (EvD w1 T.heap.size ev1 (lnC ar) ∧ Below T.heap.size T w1) := ⟨e1, b1⟩
  have hc1 : ∀ b o, b < T.heap.size → w1.cell? ⟨b, o, none⟩ = T.cell? ⟨b, o, none⟩ := fun b o hb => b1.cell (p := ⟨b, o, none⟩) hb
  have k1 : w1.cell? ⟨w.heap.size, 0, none⟩ = some (.pointer (some ⟨K, 0, none⟩)) := (hc1 _ _ (by have := HJ.out.2.2.1; omega)).trans (HB.out.1 0)
  have k2 : w1.cell? ⟨w.heap.size + 1, 1, none⟩ = some (.int .i64 ar) := (hc1 _ _ (by have := HJ.out.2.2.1; omega)).trans (HB.out.2 1)
  clear e1 b1 hc1
  go_wp2_with fail
  refine (dSynced (HJ.out.1.below H1.out.2).pr.d ar).mono ?_
  rintro e w2 ⟨ev2, rfl, e2, b2⟩
  have q2 : Below T.heap.size T w2 := H1.out.2.trans (b2.mono H1.out.2.size)
  have H2 : Hid (EvD w2 T.heap.size ev1 (lnC ar) ∧ EvD w2 w1.heap.size ev2 (lnC ar) ∧ Below T.heap.size T w2 ∧ T.heap.size ≤ w1.heap.size) := ⟨H1.out.1.off (Off.of_below (P := fun _ => False) b2) (fun _ _ => id), e2, q2, H1.out.2.size⟩
  have hc2 : ∀ b o, b < T.heap.size → w2.cell? ⟨b, o, none⟩ = T.cell? ⟨b, o, none⟩ := fun b o hb => q2.cell (p := ⟨b, o, none⟩) hb
  have k3 : w2.cell? ⟨w.heap.size, 1, none⟩ = some (.pointer (some ⟨R, 0, none⟩)) := (hc2 _ _ (by have := HJ.out.2.2.1; omega)).trans (HB.out.1 1)
  have k4 : w2.cell? ⟨w.heap.size + 1, 1, none⟩ = some (.int .i64 ar) := (hc2 _ _ (by have := HJ.out.2.2.1; omega)).trans (HB.out.2 1)
  clear e2 b2 q2 hc2 k1 k2
  go_wp2_with fail
  refine (rSize (HJ.out.1.below H2.out.2.2.1).pr.r ar).mono ?_
  rintro e w3 ⟨rfl, b3⟩
  have q3 : Below T.heap.size T w3 := H2.out.2.2.1.trans (b3.mono H2.out.2.2.1.size)
  have H3 : Hid (EvD w3 T.heap.size ev1 (lnC ar) ∧ EvD w3 w1.heap.size ev2 (lnC ar) ∧ Below T.heap.size T w3) := ⟨H2.out.1.off (Off.of_below (P := fun _ => False) b3) (fun _ _ => id), H2.out.2.1.off (Off.of_below (P := fun _ => False) b3) (fun _ _ => id), q3⟩
  have hc3 : ∀ b o, b < T.heap.size → w3.cell? ⟨b, o, none⟩ = T.cell? ⟨b, o, none⟩ := fun b o hb => q3.cell (p := ⟨b, o, none⟩) hb
  have k5 : w3.cell? ⟨w.heap.size, 1, none⟩ = some (.pointer (some ⟨R, 0, none⟩)) := (hc3 _ _ (by have := HJ.out.2.2.1; omega)).trans (HB.out.1 1)
  have k6 : w3.cell? ⟨w.heap.size + 1, 1, none⟩ = some (.int .i64 ar) := (hc3 _ _ (by have := HJ.out.2.2.1; omega)).trans (HB.out.2 1)
  clear b3 q3 hc3 k3 k4
  go_wp2_with fail
  refine (rSafe (HJ.out.1.below H3.out.2.2).pr.r HJ.out.1.ok ar).mono ?_
  rintro e w4 ⟨rfl, b4⟩
  have H4 : Hid (EvD w4 T.heap.size ev1 (lnC ar) ∧ EvD w4 w1.heap.size ev2 (lnC ar) ∧ Below T.heap.size T w4) := ⟨H3.out.1.off (Off.of_below (P := fun _ => False) b4) (fun _ _ => id), H3.out.2.1.off (Off.of_below (P := fun _ => False) b4) (fun _ _ => id), H3.out.2.2.trans (b4.mono H3.out.2.2.size)⟩
  clear b4 k5 k6
  go_wp2_with fail
  refine (refused_any H4.out.1).mono ?_
  rintro e w5 ⟨rfl, hw5⟩
  rw [hw5]
  clear hw5 w5
  go_wp2_with fail
  refine (refused_any H4.out.2.1).mono ?_
  rintro e w5 ⟨rfl, hw5⟩
  rw [hw5]
  clear hw5 w5
  go_wp2_with fail
  go_ret
  exact ⟨rfl, v0, v1, v, σ, ρ, vb, vw, es, HJ.out.1.below H4.out.2.2, by omega, (HJ.out.2.1.trans (H4.out.2.2.mono HJ.out.2.1.size)).mono HJ.out.2.2.2.1, Keep.below K R v0 v1 v ρ (HJ.out.2.1.trans (H4.out.2.2.mono HJ.out.2.1.size))⟩
set_option maxRecDepth 100000 in
set_option maxHeartbeats 4000000 in
theorem plays_none {w : World} {B K R : Nat} {v0 v1 : Value} {v : Nat → Value} {σ : Sg} {Q : Nat} {ρ : Nat → Nat} {vb vw : Value} {es : List Ent} (h : Jt w B K R v0 v1 v σ Q ρ vb vw es) (ar at_ n t0 t1 t2 t3 : Int) (po : Option Addr) (pl pc : Nat) (kd : Int) (hk : kd ≠ 1 ∧ kd ≠ 2 ∧ kd ≠ 3 ∧ kd ≠ 4 ∧ kd ≠ 5 ∧ kd ≠ 6 ∧ kd ≠ 7 ∧ kd ≠ 8 ∧ kd ≠ 9 ∧ kd ≠ 10) (_hm : es.length + 4 ≤ 1099511627776) :
    Calls Try.prog 17 #[.agg #[.pointer (some ⟨K, 0, none⟩), .pointer (some ⟨R, 0, none⟩)], .agg #[.int .i64 kd, .int .i64 ar, .int .i64 at_, .int .i64 n, .slice po pl pc, .int .i64 t0, .int .i64 t1, .int .i64 t2, .int .i64 t3], .pointer (some ⟨Q, 0, none⟩)] w fun e w' => e = .returned (.bool true) ∧ ∃ v0' v1' v' σ' ρ' vb' vw' es', Jt w' B K R v0' v1' v' σ' Q ρ' vb' vw' es' ∧ es'.length ≤ es.length + 4 ∧ Below B w w' ∧ Keep w w' K R v0 v1 v ρ v0' v1' v' ρ' := by
  obtain ⟨T, hT⟩ : ∃ y, (w.alloc (.cells #[.pointer (some ⟨K, 0, none⟩), .pointer (some ⟨R, 0, none⟩)] 45)).alloc (.cells #[.int .i64 kd, .int .i64 ar, .int .i64 at_, .int .i64 n, .slice po pl pc, .int .i64 t0, .int .i64 t1, .int .i64 t2, .int .i64 t3] 34) = y := ⟨_, rfl⟩
  have HW : Hid ((w.alloc (.cells #[.pointer (some ⟨K, 0, none⟩), .pointer (some ⟨R, 0, none⟩)] 45)).alloc (.cells #[.int .i64 kd, .int .i64 ar, .int .i64 at_, .int .i64 n, .slice po pl pc, .int .i64 t0, .int .i64 t1, .int .i64 t2, .int .i64 t3] 34) = T) := hT
  have bT : Below w.heap.size w T := by rw [← hT]; exact ((Below.refl _ _).alloc (Nat.le_refl _) _).alloc (by simp) _
  have sT : T.heap.size = w.heap.size + 2 := by rw [← hT]; simp
  have hb0 : ∀ o, T.cell? ⟨w.heap.size, o, none⟩ = (#[.pointer (some ⟨K, 0, none⟩), .pointer (some ⟨R, 0, none⟩)] : Array Value)[o]? := fun o => by
    rw [← hT, World.cell?_alloc_lt _ _ ⟨w.heap.size, o, none⟩ (by simp)]; exact cell_new _ _ _ _ _
  have hb1 : ∀ o, T.cell? ⟨w.heap.size + 1, o, none⟩ = (#[.int .i64 kd, .int .i64 ar, .int .i64 at_, .int .i64 n, .slice po pl pc, .int .i64 t0, .int .i64 t1, .int .i64 t2, .int .i64 t3] : Array Value)[o]? := fun o => by
    rw [← hT]; simp
  have HJ : Hid (Jt T B K R v0 v1 v σ Q ρ vb vw es ∧ Below w.heap.size w T ∧ T.heap.size = w.heap.size + 2 ∧ B ≤ w.heap.size ∧ (∀ k, (Foot K v0 v1 k ∨ RFoot R v k) → k < w.heap.size)) := ⟨h.below bT, bT, sT, h.hB, fun k hk => h.pr.foot_lt hk⟩
  have HB : Hid ((∀ o, T.cell? ⟨w.heap.size, o, none⟩ = (#[.pointer (some ⟨K, 0, none⟩), .pointer (some ⟨R, 0, none⟩)] : Array Value)[o]?) ∧ (∀ o, T.cell? ⟨w.heap.size + 1, o, none⟩ = (#[.int .i64 kd, .int .i64 ar, .int .i64 at_, .int .i64 n, .slice po pl pc, .int .i64 t0, .int .i64 t1, .int .i64 t2, .int .i64 t3] : Array Value)[o]?)) := ⟨hb0, hb1⟩
  obtain ⟨g1, g2, g3, g4, g5, g6, g7, g8, g9, g10⟩ := hk
  have f1 : (kd == 1) = false := by simpa using g1
  have f2 : (kd == 2) = false := by simpa using g2
  have f3 : (kd == 3) = false := by simpa using g3
  have f4 : (kd == 4) = false := by simpa using g4
  have f5 : (kd == 5) = false := by simpa using g5
  have f6 : (kd == 6) = false := by simpa using g6
  have f7 : (kd == 7) = false := by simpa using g7
  have f8 : (kd == 8) = false := by simpa using g8
  have f9 : (kd == 9) = false := by simpa using g9
  have f10 : (kd == 10) = false := by simpa using g10
  clear g1 g2 g3 g4 g5 g6 g7 g8 g9 g10 h hT bT sT hb0 hb1
  go_enter Try.func17, Try.ntmps17
  go_wp2_with fail
  rw [HW.out]
  go_ret
  exact ⟨rfl, v0, v1, v, σ, ρ, vb, vw, es, HJ.out.1, by omega, HJ.out.2.1.mono HJ.out.2.2.2.1, Keep.below K R v0 v1 v ρ HJ.out.2.1⟩
end Go.Proofs.Ytlgjjemfckmidaa
