import Derived.Test.YtoijhecphgdfnaaGreatDoorHsTri
import Derived.Test.YtoijhecphgdfnaaGreatDoorOxOpenU
import Derived.Test.YtoijhecphgdfnaaGreatDoorDcPa
import Derived.Carry
/-
  OutboxPair, walked.
-/
namespace Go.Proofs.YtoijhecphgdfnaaGreatDoor
open Go.RowKit

/-- Turns that came in. -/
def TurnAt (w : World) (b o : Nat) (x : Int × Opv) : Prop := w.cell? ⟨b, o, none⟩ = some (.int .i64 x.1) ∧ OpAt w b (o + 1) x.2
def Turns (w : World) (ao : Option Addr) (xs : List (Int × Opv)) : Prop := ∀ (j : Nat) (x : Int × Opv), xs[j]? = some x → ∃ b off, ao = some ⟨b, off, none⟩ ∧ TurnAt w b (off + j * 9) x
/-- One of the three, as it came in. -/
structure MdA (W : World) (ao : Option Addr) (xs : List Msg) : Prop where
  ho : Outs W ao xs
  hp : ∀ x ∈ xs, Plain x
  hl : xs.length ≤ 1048576
  ht : ∀ x ∈ xs, x.tn ≤ 1048576
/-- Of three things the j-th. -/
def pick3 {α : Type} (a b c : α) (j : Nat) : α := if j = 0 then a else if j = 1 then b else c
theorem T3.off {P : Nat → Prop} {w w' : World} {n : Nat} {F : Fam} {D : Dyn} (h : T3 w n F D) (o : Off P w w') (hP : ∀ j, j < n → ∀ q, FtT F D j q → ¬ P q) : T3 w' n F D :=
  ⟨fun j hj => ⟨(h.pr j hj).pb.off o (hP j hj), (h.pr j hj).wis, (h.pr j hj).ok⟩, h.di⟩
/-- So many of the three are made. -/
structure MkI (W : World) (xb lb : Nat) (L9 : Array Value) (i : Nat) (w : World) : Prop where
  st : ∃ F D, T3 w i F D ∧ ArG W F xb i w
  lx : Box w lb L9
  hx : W.heap.size ≤ xb ∧ xb ≠ lb
theorem MkI.next {W w w2 : World} {xb lb i K b kb r : Nat} {L9 : Array Value} {v L : Value} {sq : Bool} {tr : Int} {ms rs : List Msg} (h : MkI W xb lb L9 i w) (hi : i < 3) (h2 : Below w.heap.size w w2) (hp : Pr w2 K b kb r v L sq tr ms rs) (hK : w.heap.size ≤ K) :
    MkI W xb lb L9 (i + 1) ((w2.setCell ⟨xb, i * 2, none⟩ (.pointer (some ⟨b, 0, none⟩))).setCell ⟨xb, i * 2 + 1, none⟩ (.pointer (some ⟨r, 0, none⟩))) := by
  obtain ⟨F, D, h3, hg⟩ := h.st
  have hg2 := hg.below h2
  have h32 := h3.snoc h2 hp hK
  obtain ⟨cs, hc, hs⟩ := hg2.ty
  have o : Off (fun q => q = xb) w2 ((w2.setCell ⟨xb, i * 2, none⟩ (.pointer (some ⟨b, 0, none⟩))).setCell ⟨xb, i * 2 + 1, none⟩ (.pointer (some ⟨r, 0, none⟩))) := ((Off.refl (fun q => q = xb) w2).setCell (p := ⟨xb, i * 2, none⟩) rfl _).setCell (p := ⟨xb, i * 2 + 1, none⟩) rfl _
  have c1 := set_heap hc (i * 2) (.pointer (some ⟨b, 0, none⟩))
  have c2 := set_heap c1 (i * 2 + 1) (.pointer (some ⟨r, 0, none⟩))
  have hne : ∀ p q : Nat, p ≠ q → (⟨xb, p, none⟩ : Addr) ≠ ⟨xb, q, none⟩ := fun p q hpq e => by injection e; omega
  refine ⟨⟨_, _, h32.off o fun j hj q hq e => ?_, ⟨⟨_, c2, by simpa using hs⟩, fun j hj => ?_, Off.behind hg2.bel o fun q hq => by rw [hq]; exact h.hx.1, fun j hj => ?_⟩⟩, (h.lx.below h2).off o fun e => h.hx.2 e.symm, h.hx⟩
  · subst e
    exact ft_arr (h32.pr j hj).pb hc hq
  · by_cases e : j = i
    · subst e
      simp only [if_true]
      refine ⟨?_, ?_⟩
      · rw [World.cell?_setCell_other _ _ _ _ (hne (j * 2 + 1) (j * 2) (by omega))]
        refine World.cell?_setCell_same _ _ _ (u := cs[j * 2]'(by omega)) ?_
        simp [World.cell?, hc]
      · refine World.cell?_setCell_same _ _ _ (u := cs[j * 2 + 1]'(by omega)) ?_
        rw [World.cell?_setCell_other _ _ _ _ (hne (j * 2) (j * 2 + 1) (by omega))]
        simp [World.cell?, hc]
    · simp only [if_neg e]
      have hcl := hg2.cl j (by omega)
      refine ⟨?_, ?_⟩
      · rw [World.cell?_setCell_other _ _ _ _ (hne (i * 2 + 1) (j * 2) (by omega)), World.cell?_setCell_other _ _ _ _ (hne (i * 2) (j * 2) (by omega))]
        exact hcl.1
      · rw [World.cell?_setCell_other _ _ _ _ (hne (i * 2 + 1) (j * 2 + 1) (by omega)), World.cell?_setCell_other _ _ _ _ (hne (i * 2) (j * 2 + 1) (by omega))]
        exact hcl.2
  · by_cases e : j = i
    · subst e
      simp only [if_true]
      exact Nat.le_trans hg.bel.size hK
    · simp only [if_neg e]
      exact hg.lK j (by omega)
/-- (of % 3 + 3) % 3 is one of three. -/
theorem mod3 (x : Int) : ∃ k : Nat, k < 3 ∧ (x.tmod 3 + 3).tmod 3 = (k : Int) := by
  have h1 : -3 < x.tmod 3 := Int.lt_tmod_of_pos x (by decide)
  have h2 : x.tmod 3 < 3 := Int.tmod_lt_of_pos x (by decide)
  have h3 : 0 ≤ (x.tmod 3 + 3).tmod 3 := Int.tmod_nonneg _ (by omega)
  have h4 : (x.tmod 3 + 3).tmod 3 < 3 := Int.tmod_lt_of_pos _ (by decide)
  exact ⟨((x.tmod 3 + 3).tmod 3).toNat, by omega, by omega⟩
section
set_option maxRecDepth 100000 in
set_option maxHeartbeats 16000000 in
theorem pair_law (ao0 : Option Addr) (cap0 : Nat) (xs0 : List Msg) (sq0 : Bool) (tr0 : Int) (ao1 : Option Addr) (cap1 : Nat) (xs1 : List Msg) (sq1 : Bool) (tr1 : Int) (ao2 : Option Addr) (cap2 : Nat) (xs2 : List Msg) (sq2 : Bool) (tr2 : Int) (bo : Option Addr) (bc : Nat) (ys : List (Int × Opv)) (W : World) (hV : PVc W) (hO0 : Outs W ao0 xs0) (hP0 : ∀ x ∈ xs0, Plain x) (hy0 : xs0.length ≤ 1048576) (hq0 : ∀ x ∈ xs0, x.tn ≤ 1048576) (hO1 : Outs W ao1 xs1) (hP1 : ∀ x ∈ xs1, Plain x) (hy1 : xs1.length ≤ 1048576) (hq1 : ∀ x ∈ xs1, x.tn ≤ 1048576) (hO2 : Outs W ao2 xs2) (hP2 : ∀ x ∈ xs2, Plain x) (hy2 : xs2.length ≤ 1048576) (hq2 : ∀ x ∈ xs2, x.tn ≤ 1048576) (hO : Turns W bo ys) (hm : ys.length ≤ 1048576) (hq : ∀ y ∈ ys, y.2.tn ≤ 1048576) :
    Calls Tryz.prog 5 #[.agg #[.slice ao0 xs0.length cap0, .bool sq0, .int .i64 tr0], .agg #[.slice ao1 xs1.length cap1, .bool sq1, .int .i64 tr1], .agg #[.slice ao2 xs2.length cap2, .bool sq2, .int .i64 tr2], .slice bo ys.length bc] W fun e w' => e = .returned (.bool true) ∧ Below W.heap.size W w' := by
  obtain ⟨N, hN⟩ : ∃ N, ys.length = N := ⟨_, rfl⟩
  have HH : Hid (PVc W ∧ Turns W bo ys ∧ N ≤ 1048576 ∧ (∀ y ∈ ys, y.2.tn ≤ 1048576) ∧ ys.length = N) := ⟨hV, hO, by omega, hq, hN⟩
  have HMd : Hid (∀ j, j < 3 → MdA W (pick3 ao0 ao1 ao2 j) (pick3 xs0 xs1 xs2 j)) := fun j hj => by
    rcases j with _ | _ | _ | j
    · exact ⟨hO0, hP0, hy0, hq0⟩
    · exact ⟨hO1, hP1, hy1, hq1⟩
    · exact ⟨hO2, hP2, hy2, hq2⟩
    · omega
  have hNi : (N : Int) ≤ 1048576 := by omega
  rw [hN]
  obtain ⟨n0, hn0⟩ : ∃ n, xs0.length = n := ⟨_, rfl⟩
  obtain ⟨n1, hn1⟩ : ∃ n, xs1.length = n := ⟨_, rfl⟩
  obtain ⟨n2, hn2⟩ : ∃ n, xs2.length = n := ⟨_, rfl⟩
  have HNn : Hid (xs0.length = n0 ∧ xs1.length = n1 ∧ xs2.length = n2) := ⟨hn0, hn1, hn2⟩
  rw [hn0, hn1, hn2]
  have bA0 : Below W.heap.size W (W.alloc (.cells #[.slice ao0 n0 cap0, .bool sq0, .int .i64 tr0] 24)) := (Below.refl _ _).alloc (Nat.le_refl _) _
  have xA0 := Box.new W #[.slice ao0 n0 cap0, .bool sq0, .int .i64 tr0] 24
  obtain ⟨V0, hV0⟩ : ∃ V0, W.alloc (.cells #[.slice ao0 n0 cap0, .bool sq0, .int .i64 tr0] 24) = V0 := ⟨_, rfl⟩
  rw [hV0] at bA0 xA0
  have bA1 : Below V0.heap.size V0 (V0.alloc (.cells #[.slice ao1 n1 cap1, .bool sq1, .int .i64 tr1] 24)) := (Below.refl _ _).alloc (Nat.le_refl _) _
  have xA1 := Box.new V0 #[.slice ao1 n1 cap1, .bool sq1, .int .i64 tr1] 24
  obtain ⟨V1, hV1⟩ : ∃ V1, V0.alloc (.cells #[.slice ao1 n1 cap1, .bool sq1, .int .i64 tr1] 24) = V1 := ⟨_, rfl⟩
  rw [hV1] at bA1 xA1
  have bA2 : Below V1.heap.size V1 (V1.alloc (.cells #[.slice ao2 n2 cap2, .bool sq2, .int .i64 tr2] 24)) := (Below.refl _ _).alloc (Nat.le_refl _) _
  have xA2 := Box.new V1 #[.slice ao2 n2 cap2, .bool sq2, .int .i64 tr2] 24
  obtain ⟨V2, hV2⟩ : ∃ V2, V1.alloc (.cells #[.slice ao2 n2 cap2, .bool sq2, .int .i64 tr2] 24) = V2 := ⟨_, rfl⟩
  rw [hV2] at bA2 xA2
  have bA3 : Below V2.heap.size V2 (V2.alloc (.cells #[.pointer none, .pointer none, .pointer none, .pointer none, .pointer none, .pointer none] 52)) := (Below.refl _ _).alloc (Nat.le_refl _) _
  have hA3 : (V2.alloc (.cells #[.pointer none, .pointer none, .pointer none, .pointer none, .pointer none, .pointer none] 52)).heap[V2.heap.size]? = some (.cells #[.pointer none, .pointer none, .pointer none, .pointer none, .pointer none, .pointer none] 52 (0, 0)) := heap_alloc_new _ _
  obtain ⟨V3, hV3⟩ : ∃ V3, V2.alloc (.cells #[.pointer none, .pointer none, .pointer none, .pointer none, .pointer none, .pointer none] 52) = V3 := ⟨_, rfl⟩
  rw [hV3] at bA3 hA3
  have y0 := xA0.below (below_then bA1 (below_then bA2 bA3))
  have y1 := xA1.below (below_then bA2 bA3)
  have y2 := xA2.below bA3
  have a00 : V3.cell? ⟨W.heap.size, 0, none⟩ = some (.slice ao0 n0 cap0) := y0.cell 0
  have a01 : V3.cell? ⟨W.heap.size, 1, none⟩ = some (.bool sq0) := y0.cell 1
  have a02 : V3.cell? ⟨W.heap.size, 2, none⟩ = some (.int .i64 tr0) := y0.cell 2
  have a10 : V3.cell? ⟨V0.heap.size, 0, none⟩ = some (.slice ao1 n1 cap1) := y1.cell 0
  have a11 : V3.cell? ⟨V0.heap.size, 1, none⟩ = some (.bool sq1) := y1.cell 1
  have a12 : V3.cell? ⟨V0.heap.size, 2, none⟩ = some (.int .i64 tr1) := y1.cell 2
  have a20 : V3.cell? ⟨V1.heap.size, 0, none⟩ = some (.slice ao2 n2 cap2) := y2.cell 0
  have a21 : V3.cell? ⟨V1.heap.size, 1, none⟩ = some (.bool sq2) := y2.cell 1
  have a22 : V3.cell? ⟨V1.heap.size, 2, none⟩ = some (.int .i64 tr2) := y2.cell 2
  have bA4 : Below V3.heap.size V3 (V3.alloc (.cells #[.slice ao0 n0 cap0, .bool sq0, .int .i64 tr0, .slice ao1 n1 cap1, .bool sq1, .int .i64 tr1, .slice ao2 n2 cap2, .bool sq2, .int .i64 tr2] 53)) := (Below.refl _ _).alloc (Nat.le_refl _) _
  have xA4 := Box.new V3 #[.slice ao0 n0 cap0, .bool sq0, .int .i64 tr0, .slice ao1 n1 cap1, .bool sq1, .int .i64 tr1, .slice ao2 n2 cap2, .bool sq2, .int .i64 tr2] 53
  obtain ⟨V4, hV4⟩ : ∃ V4, V3.alloc (.cells #[.slice ao0 n0 cap0, .bool sq0, .int .i64 tr0, .slice ao1 n1 cap1, .bool sq1, .int .i64 tr1, .slice ao2 n2 cap2, .bool sq2, .int .i64 tr2] 53) = V4 := ⟨_, rfl⟩
  rw [hV4] at bA4 xA4
  clear hV hO0 hP0 hy0 hq0 hO1 hP1 hy1 hq1 hO2 hP2 hy2 hq2 hO hm hq hN hn0 hn1 hn2 xA0 xA1 xA2 y0 y1 y2
  have HB : Hid (Below W.heap.size W V4 ∧ Box V4 V3.heap.size #[.slice ao0 n0 cap0, .bool sq0, .int .i64 tr0, .slice ao1 n1 cap1, .bool sq1, .int .i64 tr1, .slice ao2 n2 cap2, .bool sq2, .int .i64 tr2] ∧ V4.heap[V2.heap.size]? = some (.cells #[.pointer none, .pointer none, .pointer none, .pointer none, .pointer none, .pointer none] 52 (0, 0)) ∧ V2.heap.size < V4.heap.size) := ⟨below_then bA0 (below_then bA1 (below_then bA2 (below_then bA3 bA4))), xA4, (bA4.block _ (blk_lt hA3)).trans hA3, Nat.lt_of_lt_of_le (blk_lt hA3) bA4.size⟩
  clear bA0 bA1 bA2 bA3 bA4 xA4 hA3
  go_enter Tryz.func5, Tryz.ntmps5
  go_upto_region 4 with fail
  obtain ⟨xb, hxb⟩ : ∃ xb, V2.heap.size = xb := ⟨_, rfl⟩
  obtain ⟨lb, hlb⟩ : ∃ lb, V3.heap.size = lb := ⟨_, rfl⟩
  obtain ⟨L9, hL9⟩ : ∃ L9, #[Value.slice ao0 n0 cap0, .bool sq0, .int .i64 tr0, .slice ao1 n1 cap1, .bool sq1, .int .i64 tr1, .slice ao2 n2 cap2, .bool sq2, .int .i64 tr2] = L9 := ⟨_, rfl⟩
  have HL9 : Hid (#[Value.slice ao0 n0 cap0, .bool sq0, .int .i64 tr0, .slice ao1 n1 cap1, .bool sq1, .int .i64 tr1, .slice ao2 n2 cap2, .bool sq2, .int .i64 tr2] = L9) := hL9
  have HI0 : Hid (MkI W xb lb L9 0 V4) := by
    obtain ⟨h1, h2, h3, h4⟩ := HB.out
    have hv23 : V2.heap.size < V3.heap.size := by rw [← hV3]; simp
    have hw2 : W.heap.size ≤ V2.heap.size := by rw [← hV2, ← hV1, ← hV0]; simp; omega
    rw [hL9, hlb] at h2
    rw [hxb] at h3
    exact ⟨⟨⟨fun _ => 0, fun _ => 0, fun _ => 0, fun _ => 0, fun _ => false, fun _ => 0⟩, ⟨fun _ => .slice none 0 0, fun _ => .slice none 0 0, fun _ => [], fun _ => []⟩, ⟨fun j hj => by omega, fun i j hi => by omega⟩, ⟨⟨_, h3, rfl⟩, fun j hj => by omega, h1, fun j hj => by omega⟩⟩, h2, by omega, by omega⟩
  rw [hxb, hlb]
  clear hV0 hV1 hV2 hV3 hV4 a00 a01 a02 a10 a11 a12 a20 a21 a22 hxb hlb hL9 HB
  go_loopw [8, 11] (fun u t wx => u = .bool false ∧ ∃ i : Nat, i ≤ 3 ∧ t = .int .i64 i ∧ Hid (MkI W xb lb L9 i wx)) (fun _ t _ => 3 - (intOf t).toNat)
  case atStart => exact ⟨rfl, 0, Nat.zero_le _, rfl, HI0⟩
  case round =>
  obtain ⟨rfl, i, hi, rfl, HI⟩ := hrel
  clear HI0
  by_cases hlt : i < 3
  · have hlt1 : (i : Int) < 3 := by omega
    obtain ⟨F, D, h3, hg⟩ := HI.out.st
    obtain ⟨cs, hcs, hcz⟩ := hg.ty
    have hmd0 := HMd.out i hlt
    obtain ⟨ao, hao⟩ : ∃ x, pick3 ao0 ao1 ao2 i = x := ⟨_, rfl⟩
    obtain ⟨xs, hxs⟩ : ∃ x, pick3 xs0 xs1 xs2 i = x := ⟨_, rfl⟩
    obtain ⟨cap, hcap⟩ : ∃ x, pick3 cap0 cap1 cap2 i = x := ⟨_, rfl⟩
    obtain ⟨sq, hsq⟩ : ∃ x, pick3 sq0 sq1 sq2 i = x := ⟨_, rfl⟩
    obtain ⟨tr, htr⟩ : ∃ x, pick3 tr0 tr1 tr2 i = x := ⟨_, rfl⟩
    rw [hao, hxs] at hmd0
    have k012 : wr.cell? ⟨lb, i * 3, none⟩ = some (.slice ao xs.length cap) ∧ wr.cell? ⟨lb, i * 3 + 1, none⟩ = some (.bool sq) ∧ wr.cell? ⟨lb, i * 3 + 2, none⟩ = some (.int .i64 tr) := by
      obtain ⟨e0, e1, e2⟩ := HNn.out
      have hc := HI.out.lx.cell
      rw [← HL9.out] at hc
      rw [hc, hc, hc, ← hao, ← hxs, ← hcap, ← hsq, ← htr]
      rcases i with _ | _ | _ | i
      · rw [← e0]; exact ⟨rfl, rfl, rfl⟩
      · rw [← e1]; exact ⟨rfl, rfl, rfl⟩
      · rw [← e2]; exact ⟨rfl, rfl, rfl⟩
      · omega
    obtain ⟨k0, k1, k2⟩ := k012
    have hmd := made_any ao cap xs sq tr wr (HH.out.1.below hg.bel) (hmd0.ho.below hg.bel) hmd0.hp (by have := hmd0.hl; omega) (fun x hx => by have := hmd0.ht x hx; omega)
    obtain ⟨M, hM⟩ : ∃ M, xs.length = M := ⟨_, rfl⟩
    have HP0 : Hid (∀ x ∈ xs, Plain x) := hmd0.hp
    have HG : Hid (Below W.heap.size W wr ∧ wr.heap[xb]? = some (.cells cs 52 (0, 0)) ∧ cs.size = 6 ∧ i < 3) := ⟨hg.bel, hcs, hcz, hlt⟩
    rw [hM] at hmd k0
    clear hao hxs hcap hsq htr hmd0 h3 hg hcs hcz hM
    go_upto_region 7 with (go_at_call 6; refine hmd.mono ?_; rintro _ w1 hmq; obtain ⟨pb, pr, rfl, H1⟩ := hmq.ptr; clear hmq)
    clear hmd k0 k1 k2
    obtain ⟨K, hK, hMr, hb1⟩ := H1.out
    rcases hMr.pr HP0.out with ⟨e1, e2⟩ | ⟨b, kb, v, ms, r, L, rs, e1, e2, hP⟩
    · obtain rfl : pb = none := by injection e1
      obtain rfl : pr = none := by injection e2
      clear e1 e2
      have xA := Box.new w1 #[.pointer none, .pointer none] 29
      have bA : Below w1.heap.size w1 (w1.alloc (.cells #[.pointer none, .pointer none] 29)) := (Below.refl _ _).alloc (Nat.le_refl _) _
      have HB1 : Hid (Below W.heap.size W (w1.alloc (.cells #[.pointer none, .pointer none] 29))) := below_then (below_then HG.out.1 hb1) bA
      have c0 : (w1.alloc (.cells #[.pointer none, .pointer none] 29)).cell? ⟨w1.heap.size, 0, none⟩ = some (.pointer none) := xA.cell 0
      clear hMr hb1 H1 hK xA bA HI
      go_wp2_with fail
      go_ret
      exact ⟨rfl, HB1.out⟩
    · obtain rfl : pb = some ⟨b, 0, none⟩ := by injection e1
      obtain rfl : pr = some ⟨r, 0, none⟩ := by injection e2
      clear e1 e2
      have xA := Box.new w1 #[.pointer (some ⟨b, 0, none⟩), .pointer (some ⟨r, 0, none⟩)] 29
      have bA : Below w1.heap.size w1 (w1.alloc (.cells #[.pointer (some ⟨b, 0, none⟩), .pointer (some ⟨r, 0, none⟩)] 29)) := (Below.refl _ _).alloc (Nat.le_refl _) _
      obtain ⟨V1, hV1⟩ : ∃ V1, w1.alloc (.cells #[.pointer (some ⟨b, 0, none⟩), .pointer (some ⟨r, 0, none⟩)] 29) = V1 := ⟨_, rfl⟩
      have c0 : (w1.alloc (.cells #[.pointer (some ⟨b, 0, none⟩), .pointer (some ⟨r, 0, none⟩)] 29)).cell? ⟨w1.heap.size, 0, none⟩ = some (.pointer (some ⟨b, 0, none⟩)) := xA.cell 0
      have c1 : (w1.alloc (.cells #[.pointer (some ⟨b, 0, none⟩), .pointer (some ⟨r, 0, none⟩)] 29)).cell? ⟨w1.heap.size, 1, none⟩ = some (.pointer (some ⟨r, 0, none⟩)) := xA.cell 1
      rw [hV1] at xA bA c0 c1 ⊢
      have b2 := below_then hb1 bA
      have hcx := (b2.block _ (blk_lt HG.out.2.1)).trans HG.out.2.1
      have z0 : V1.cell? ⟨xb, i * 2, none⟩ = some (cs[i * 2]'(by have := HG.out.2.2.1; omega)) := by
        simp [World.cell?, hcx]
      have z1 : V1.cell? ⟨xb, i * 2 + 1, none⟩ = some (cs[i * 2 + 1]'(by have := HG.out.2.2.1; omega)) := by
        simp [World.cell?, hcx]
      obtain ⟨u0, hu0⟩ : ∃ u, cs[i * 2]'(by have := HG.out.2.2.1; omega) = u := ⟨_, rfl⟩
      obtain ⟨u1, hu1⟩ : ∃ u, cs[i * 2 + 1]'(by have := HG.out.2.2.1; omega) = u := ⟨_, rfl⟩
      rw [hu0] at z0
      rw [hu1] at z1
      have f0 := hfroz hcx (i * 2)
      have f1 := hfroz hcx (i * 2 + 1)
      have HX : Hid (MkI W xb lb L9 (i + 1) ((V1.setCell ⟨xb, i * 2, none⟩ (.pointer (some ⟨b, 0, none⟩))).setCell ⟨xb, i * 2 + 1, none⟩ (.pointer (some ⟨r, 0, none⟩)))) := HI.out.next hlt b2 (hP.below bA) hK
      clear hMr hb1 H1 hK xA bA HI hP b2 hcx hu0 hu1 hV1
      go_wp2_with fail
      go_roundw
      case rel => exact ⟨rfl, i + 1, hlt, by go_num, HX⟩
      case measure => simp [intOf]; omega
  have hl3 : ¬ (i : Int) < 3 := by omega
  obtain rfl : i = 3 := by omega
  obtain ⟨F, D, h3, hg⟩ := HI.out.st
  have bH : Below wr.heap.size wr (wr.alloc (.cells #[.slice none 0 0, .slice none 0 0, .slice none 0 0, .slice none 0 0, .slice none 0 0, .slice none 0 0, .slice none 0 0, .slice none 0 0, .slice none 0 0, .slice none 0 0] 41)) := (Below.refl _ _).alloc (Nat.le_refl _) _
  obtain ⟨σ0, hk, hk2⟩ := hs_new (w := wr) (n := 66 * 0) hg.bel.size
  obtain ⟨V2, hV2⟩ : ∃ V2, wr.alloc (.cells #[.slice none 0 0, .slice none 0 0, .slice none 0 0, .slice none 0 0, .slice none 0 0, .slice none 0 0, .slice none 0 0, .slice none 0 0, .slice none 0 0, .slice none 0 0] 41) = V2 := ⟨_, rfl⟩
  rw [hV2] at bH hk
  obtain ⟨hb, hhb⟩ : ∃ hb, wr.heap.size = hb := ⟨_, rfl⟩
  rw [hhb] at hk hk2
  have HC : Hid (TaI W F hb xb (66 * 0) V2) := by
    obtain ⟨cs, hcs, _⟩ := hg.ty
    have hxl := blk_lt hcs
    exact ⟨⟨D, σ0, ⟨h3.below bH, hk, fun j hj q hf hq => by have := (h3.lt hj hf).2; have := hk2 q hq; omega⟩, fun e => by have := hk2 xb e; omega⟩, hg.below bH⟩
  clear HI h3 hg bH hk hk2
  go_upto_region 12 with fail
  try rw [hhb]
  clear hV2 hhb hl3
  go_loopw [8, 15] (fun u t wx => u = .bool false ∧ ∃ i : Nat, i ≤ N ∧ t = .int .i64 i ∧ Hid (TaI W F hb xb (66 * i) wx)) (fun _ t _ => N - (intOf t).toNat)
  case atStart => exact ⟨rfl, 0, Nat.zero_le _, rfl, HC⟩
  case round =>
  obtain ⟨rfl, i, hi, rfl, HI⟩ := hrel
  clear HC
  by_cases hlt : i < N
  · have hlt1 : (i : Int) < N := by omega
    obtain ⟨x, hx⟩ : ∃ x, ys[i]? = some x := ⟨_, List.getElem?_eq_getElem (by have := HH.out.2.2.2.2; omega)⟩
    obtain ⟨ob, oo, rfl, hof, hatW⟩ := HH.out.2.1 i x hx
    have hxl := HH.out.2.2.2.1 x (List.mem_of_getElem? hx)
    have hi1 : 66 * i + 200 ≤ 1000000000 := by have := HH.out.2.2.1; omega
    have q0 : wr.cell? ⟨ob, oo + i * 9, none⟩ = some (.int .i64 x.1) := (HI.out.g.bel.cell (p := ⟨ob, oo + i * 9, none⟩) hatW.lt).trans hof
    obtain ⟨d0l, d0, d1, d2, d3, d4, d5, d6, d7, dp, dq⟩ := hatW.below HI.out.g.bel
    have HP : Hid (∀ k, k < 3 → ∀ z, Below wr.heap.size wr z → Calls Tryz.prog 7 #[.agg #[.pointer (some ⟨F.b k, 0, none⟩), .pointer (some ⟨F.r k, 0, none⟩)], .agg #[.int .i64 x.2.kd, .string x.2.ct, .slice x.2.tp x.2.tn x.2.tc, .bool x.2.e, .int .i64 x.2.a, .int .i64 x.2.p, .string x.2.cd, .int .i64 x.2.n], .pointer (some ⟨hb, 0, none⟩)] z fun e w' => e = .returned (.bool true) ∧ Hid (TaI W F hb xb (66 * (i + 1)) w')) := fun k hk z hz => ((HI.out.below hz).plays hk HH.out.1 hi1 x.2 hatW.p hatW.q hxl).mono fun e w' ⟨e1, h1⟩ => ⟨e1, h1.out.more (by omega)⟩
    have HG : Hid (ArG W F xb 3 wr) := HI.out.g
    clear HI dp dq hatW hxl hi1 d0l hof hx
    go_upto_region 14 with fail
    go_cut [16] from 45 to 69 (fun t wx => ∃ k : Nat, k < 3 ∧ t = .int .i64 (k : Int) ∧ wx = wr)
    case first =>
      obtain ⟨k, hk3, hke⟩ := mod3 x.1
      have h1 : -3 < x.1.tmod 3 := Int.lt_tmod_of_pos x.1 (by decide)
      have h2 : x.1.tmod 3 < 3 := Int.tmod_lt_of_pos x.1 (by decide)
      go_wp2_with fail
      go_meet
      exact ⟨k, hk3, by first | rfl | rw [hke], by first | trivial | rfl⟩
    case rest =>
    obtain ⟨k, hk3, rfl, hw⟩ := hcut
    rw [hw]
    clear hw
    have hk31 : (k : Int) < 3 := by omega
    obtain ⟨z0, z1⟩ := HG.out.cl k hk3
    have HPk := fun z hz => HP.out k hk3 z hz
    have HPk2 : Hid (∀ z, Below wr.heap.size wr z → Calls Tryz.prog 7 #[.agg #[.pointer (some ⟨F.b k, 0, none⟩), .pointer (some ⟨F.r k, 0, none⟩)], .agg #[.int .i64 x.2.kd, .string x.2.ct, .slice x.2.tp x.2.tn x.2.tc, .bool x.2.e, .int .i64 x.2.a, .int .i64 x.2.p, .string x.2.cd, .int .i64 x.2.n], .pointer (some ⟨hb, 0, none⟩)] z fun e w' => e = .returned (.bool true) ∧ Hid (TaI W F hb xb (66 * (i + 1)) w')) := HPk
    clear HPk HP HG q0
    go_upto_region 15 with fail
    go_region_law (go_simp; go_at_call 7; refine (HPk2.out _ (Below.drew (Below.refl _ _))).mono ?_; rintro _ w6 ⟨rfl, H6⟩; go_wp2_with fail)
    all_goals
      go_wp2_with fail
      go_roundw
      case rel => exact ⟨rfl, i + 1, hlt, by go_num, H6⟩
      case measure => simp [intOf]; omega
  have hlN : ¬ (i : Int) < N := by omega
  have hi0 : i ≤ 1048576 := by have := HH.out.2.2.1; omega
  have A0 : Hid (∀ z, TaI W F hb xb (66 * i) z → Calls Tryz.prog 8 #[.agg #[.pointer (some ⟨F.b 0, 0, none⟩), .pointer (some ⟨F.r 0, 0, none⟩)], .pointer (some ⟨hb, 0, none⟩)] z fun e w' => e = .returned (.bool true) ∧ Hid (TaI W F hb xb (66 * i + 66) w')) := fun z hz => hz.all (by decide) (by omega)
  have A1 : Hid (∀ z, TaI W F hb xb (66 * i + 66) z → Calls Tryz.prog 8 #[.agg #[.pointer (some ⟨F.b 1, 0, none⟩), .pointer (some ⟨F.r 1, 0, none⟩)], .pointer (some ⟨hb, 0, none⟩)] z fun e w' => e = .returned (.bool true) ∧ Hid (TaI W F hb xb (66 * i + 132) w')) := fun z hz => hz.all (by decide) (by omega)
  have A2 : Hid (∀ z, TaI W F hb xb (66 * i + 132) z → Calls Tryz.prog 8 #[.agg #[.pointer (some ⟨F.b 2, 0, none⟩), .pointer (some ⟨F.r 2, 0, none⟩)], .pointer (some ⟨hb, 0, none⟩)] z fun e w' => e = .returned (.bool true) ∧ Hid (TaI W F hb xb (66 * i + 198) w')) := fun z hz => hz.all (by decide) (by omega)
  have A3 : Hid (∀ z, TaI W F hb xb (66 * i + 198) z → Calls Tryz.prog 9 #[.pointer (some ⟨hb, 0, none⟩)] z fun e w' => e = .returned (.bool true) ∧ Hid (TaI W F hb xb (66 * i + 198) w')) := fun z hz => hz.alone (by omega)
  have A4 : Hid (∀ z, TaI W F hb xb (66 * i + 198) z → Calls Tryz.prog 8 #[.agg #[.pointer (some ⟨F.b 0, 0, none⟩), .pointer (some ⟨F.r 0, 0, none⟩)], .pointer (some ⟨hb, 0, none⟩)] z fun e w' => e = .returned (.bool true) ∧ Hid (TaI W F hb xb (66 * i + 264) w')) := fun z hz => hz.all (by decide) (by omega)
  have A5 : Hid (∀ z, TaI W F hb xb (66 * i + 264) z → Calls Tryz.prog 8 #[.agg #[.pointer (some ⟨F.b 1, 0, none⟩), .pointer (some ⟨F.r 1, 0, none⟩)], .pointer (some ⟨hb, 0, none⟩)] z fun e w' => e = .returned (.bool true) ∧ Hid (TaI W F hb xb (66 * i + 330) w')) := fun z hz => hz.all (by decide) (by omega)
  have A6 : Hid (∀ z, TaI W F hb xb (66 * i + 330) z → Calls Tryz.prog 8 #[.agg #[.pointer (some ⟨F.b 2, 0, none⟩), .pointer (some ⟨F.r 2, 0, none⟩)], .pointer (some ⟨hb, 0, none⟩)] z fun e w' => e = .returned (.bool true) ∧ Hid (Below W.heap.size W w')) := fun z hz => (hz.all (by decide) (by omega)).mono fun e w' ⟨e1, h1⟩ => ⟨e1, h1.out.g.bel⟩
  have x0 : wr.cell? ⟨xb, 0, none⟩ = some (.pointer (some ⟨F.b 0, 0, none⟩)) := (HI.out.g.cl 0 (by decide)).1
  have x1 : wr.cell? ⟨xb, 1, none⟩ = some (.pointer (some ⟨F.r 0, 0, none⟩)) := (HI.out.g.cl 0 (by decide)).2
  go_upto_region 17 with fail
  go_wp2_with (first
    | (go_at_call 8; refine (A0.out _ HI.out).mono ?_; clear A0; rintro _ w1 ⟨rfl, I1⟩; have x2 : w1.cell? ⟨xb, 2, none⟩ = some (.pointer (some ⟨F.b 1, 0, none⟩)) := (I1.out.g.cl 1 (by decide)).1; have x3 : w1.cell? ⟨xb, 3, none⟩ = some (.pointer (some ⟨F.r 1, 0, none⟩)) := (I1.out.g.cl 1 (by decide)).2)
    | (go_at_call 8; refine (A1.out _ I1.out).mono ?_; clear A1; rintro _ w2 ⟨rfl, I2⟩; have x4 : w2.cell? ⟨xb, 4, none⟩ = some (.pointer (some ⟨F.b 2, 0, none⟩)) := (I2.out.g.cl 2 (by decide)).1; have x5 : w2.cell? ⟨xb, 5, none⟩ = some (.pointer (some ⟨F.r 2, 0, none⟩)) := (I2.out.g.cl 2 (by decide)).2)
    | (go_at_call 8; refine (A2.out _ I2.out).mono ?_; clear A2; rintro _ w3 ⟨rfl, I3⟩)
    | (go_at_call 9; refine (A3.out _ I3.out).mono ?_; clear A3; rintro _ w4 ⟨rfl, I4⟩; have x6 : w4.cell? ⟨xb, 0, none⟩ = some (.pointer (some ⟨F.b 0, 0, none⟩)) := (I4.out.g.cl 0 (by decide)).1; have x7 : w4.cell? ⟨xb, 1, none⟩ = some (.pointer (some ⟨F.r 0, 0, none⟩)) := (I4.out.g.cl 0 (by decide)).2)
    | (go_at_call 8; refine (A4.out _ I4.out).mono ?_; clear A4; rintro _ w5 ⟨rfl, I5⟩; have x8 : w5.cell? ⟨xb, 2, none⟩ = some (.pointer (some ⟨F.b 1, 0, none⟩)) := (I5.out.g.cl 1 (by decide)).1; have x9 : w5.cell? ⟨xb, 3, none⟩ = some (.pointer (some ⟨F.r 1, 0, none⟩)) := (I5.out.g.cl 1 (by decide)).2)
    | (go_at_call 8; refine (A5.out _ I5.out).mono ?_; clear A5; rintro _ w6 ⟨rfl, I6⟩; have xa : w6.cell? ⟨xb, 4, none⟩ = some (.pointer (some ⟨F.b 2, 0, none⟩)) := (I6.out.g.cl 2 (by decide)).1; have xc : w6.cell? ⟨xb, 5, none⟩ = some (.pointer (some ⟨F.r 2, 0, none⟩)) := (I6.out.g.cl 2 (by decide)).2)
    | (go_at_call 8; refine (A6.out _ I6.out).mono ?_; clear A6; rintro _ w7 ⟨rfl, I7⟩))
  go_ret
  exact ⟨rfl, I7.out⟩
end
end Go.Proofs.YtoijhecphgdfnaaGreatDoor

/-
  Arguments opened under the second form's bound: Turns.
-/
namespace Go.Proofs.YtoijhecphgdfnaaGreatDoor
open Go.ChangeShapes Go.WideShapes Go.ChangeAt Go.RowKit Go.Deep

theorem cellsTurn : Tryz.prog.cellsOf 55 = 9 := by kernel_rfl
section
variable {H : Type} {enc : TypeId × Value → H} {W : World} {base : Nat} {spare : Nat → Bool} {held : Bool}
set_option maxRecDepth 100000 in
set_option maxHeartbeats 1000000 in
theorem open_turnu {n : Nat} {cs : List Value} {x : DataW H × List MemPlace} {b o : Nat} (h : DataW.trod enc Tryz.prog W base spare held n 55 cs = some x) (hc : ∀ j v, cs[j]? = some v → W.cell? ⟨b, o + j, none⟩ = some v) :
    ∃ y : Int × Opv, TurnAt W b o y ∧ y.2.tn ≤ Rows.uptoBulk x.1 := by
  obtain ⟨xs, m, _, hxe, hcl, hlen, hfl⟩ := DataW.trod_struct Tryz.underlying55 h
  obtain ⟨c0, c1, c2, c3, c4, c5, c6, c7, c8, rfl⟩ := nine (l := cs) (by rw [hcl, cellsTurn])
  obtain ⟨x0, x1, rfl⟩ := two (l := xs) hlen
  have g0 : DataW.trod enc Tryz.prog W base spare held m 3 [c0] = some x0 := by simpa [cellsInt] using hfl 0 _ rfl
  have g1 : DataW.trod enc Tryz.prog W base spare held m 47 [c1, c2, c3, c4, c5, c6, c7, c8] = some x1 := by simpa [cellsOp, cellsInt] using hfl 1 _ rfl
  obtain ⟨of, rfl, _⟩ := one_int g0
  obtain ⟨y, hy, hp⟩ := open_opu (b := b) (o := o + 1) g1 (fun j v hv => by
    have := hc (j + 1) v (by simpa using hv)
    rw [show o + 1 + j = o + (j + 1) by omega]
    exact this)
  refine ⟨(of, y), ⟨hc 0 _ rfl, hy⟩, ?_⟩
  rw [hxe]
  simp only [Rows.uptoBulk, List.map_cons, List.map_nil, Rows.uptoBulkAll]
  omega
set_option maxRecDepth 100000 in
set_option maxHeartbeats 1000000 in
theorem open_turnsu {n : Nat} {cs : List Value} {x : DataW H × List MemPlace} (h : DataW.trod enc Tryz.prog W base spare held n 51 cs = some x) :
    ∃ ao cap xs, cs = [.slice ao xs.length cap] ∧ Turns W ao xs ∧ xs.length ≤ Rows.uptoBulk x.1 ∧ ∀ y ∈ xs, y.2.tn ≤ Rows.uptoBulk x.1 := by
  rcases open_slice Tryz.underlying51 h with ⟨rfl, _⟩ | ⟨a, len, cap, m, n', D, Pl, rfl, _, hl, hm, hmm, hxe, hx⟩
  · exact ⟨none, 0, [], rfl, fun k x hk => (by simp at hk), by simp, fun y hy => (by cases hy)⟩
  · have hlm : len ≤ m := by rw [hmm]; split <;> omega
    have key : ∀ k, k < len → ∃ y : Int × Opv, (∃ b off, a = ⟨b, off, none⟩ ∧ TurnAt W b (off + k * 9) y) ∧ y.2.tn ≤ Rows.uptoBulk (D k) := by
      have hsp : 0 < len → a.spot = none := fun h0 => by
        obtain ⟨cs', h1, _⟩ := hx 0 (by omega)
        rw [Nat.zero_mul] at h1
        obtain ⟨b, o, e, _⟩ := cells_at h1 (by rw [cellsTurn]; decide)
        have : a.add 0 = a := rfl
        rw [this] at e; rw [e]
      intro k hk
      obtain ⟨b, off, sp⟩ := a
      obtain rfl : sp = none := hsp (by omega)
      obtain ⟨cs', h1, h2⟩ := hx k (by omega)
      rw [cellsTurn] at h1
      obtain ⟨b', o', e, hc⟩ := cells_at h1 (by decide)
      rw [Addr.add_lit] at e
      obtain ⟨rfl, rfl⟩ : b = b' ∧ off + k * 9 = o' := by simpa using e
      obtain ⟨y, hy, hp⟩ := open_turnu h2 hc
      exact ⟨y, ⟨b, off, rfl, hy⟩, hp⟩
    haveI : Inhabited (Int × Opv) := ⟨(0, ⟨0, ⟨#[]⟩, none, 0, 0, [], false, 0, 0, ⟨#[]⟩, 0⟩)⟩
    obtain ⟨Y, hY⟩ := choose_lt (α := Int × Opv) (p := fun k y => (∃ b off, a = ⟨b, off, none⟩ ∧ TurnAt W b (off + k * 9) y) ∧ y.2.tn ≤ Rows.uptoBulk (D k)) key
    refine ⟨some a, cap, (List.range len).map Y, by simp, fun k x hk => ?_, ?_, fun y hy => ?_⟩
    · simp only [List.getElem?_map, Option.map_eq_some_iff] at hk
      obtain ⟨i, hi, rfl⟩ := hk
      obtain ⟨hi1, hi2⟩ := List.getElem?_eq_some_iff.1 hi
      simp at hi1 hi2
      subst hi2
      obtain ⟨⟨b, off, e, ho⟩, _⟩ := hY k hi1
      exact ⟨b, off, by rw [e], ho⟩
    · rw [hxe]
      simp only [Rows.uptoBulk]
      have h3 := bulk_len ((List.range len).map D)
      simp only [List.length_map, List.length_range] at h3 ⊢
      omega
    · obtain ⟨i, hi, rfl⟩ := List.mem_map.1 hy
      have hy2 := (hY i (List.mem_range.1 hi)).2
      rw [hxe]
      simp only [Rows.uptoBulk]
      have h3 := bulk_mem (List.mem_map_of_mem (f := D) hi)
      omega
end
end Go.Proofs.YtoijhecphgdfnaaGreatDoor

/-
  OutboxPair: the row out of its walk.
-/
namespace Go.Proofs.YtoijhecphgdfnaaGreatDoor.outboxPairUpto
open Go.ChangeShapes Go.WideShapes Go.ChangeAt Go.RowKit

theorem laidOut : laidOutB Tryz.prog = true := by kernel_rfl
theorem given {W : World} (h : laidMetH Tryz.prog Rows.outboxPairUptoRow.laid W) : PVc W := codes_of (show laidMet Tryz.prog [("courier/decide.codes", Rows.laid_courier_decide_codes)] W from h)
theorem trod_block {H : Type} {enc : TypeId × Value → H} {P : Program} {W : World} {base : Nat} {spare : Nat → Bool} {held : Bool} {t : TypeId} {v : Value} {d : DataW H} {ps : List MemPlace} (h : DataW.Trod enc P W base spare held t v d ps) : ∀ x ∈ ps, x.block < W.heap.size := by
  obtain ⟨fuel, hf⟩ := h
  exact fun x hx => DataW.trod_lt _ _ _ _ hf x hx
set_option maxRecDepth 100000 in
theorem contract (H : Type) (enc : TypeId × Value → H) (W : World) (base : Nat) (args : Array Value) (ds gs : List (DataW H)) (before : List MemPlace)
    (hval : ∀ (j : Nat) t v, Tryz.f5.params[j]? = some t → args[j]? = some v → Value.okWide Tryz.prog W .any base t v)
    (hW : DataW.Whole enc Tryz.prog Tryz.f5.params.toList Rows.outboxPairSpec.vars false W args.toList ds gs before)
    (hK : Rows.uptoSmall H (ds ++ gs) = true) (hL : laidMetH Tryz.prog Rows.outboxPairUptoRow.laid W) :
    Calls Tryz.prog 5 args W fun e W' => ∃ v, e = .returned v ∧ Rows.outboxPairSpec.post enc Tryz.prog Tryz.f5 false true false false W args v W' := by
  have hW' := hW
  obtain ⟨p, q, hA0, hV, rfl, hfz, hnd⟩ := hW
  have hA : DataW.TrodAll enc Tryz.prog W 0 (fun _ => true) true Tryz.f5.params.toList args.toList ds p := hA0
  rw [Tryz.params5] at hA hval
  obtain ⟨v0, vs0, d0, ds0, p0, q0, hargs, rfl, rfl, h0, r0⟩ := trodAll_cons hA
  obtain ⟨v1, vs1, d1, ds1, p1, q1, rfl, rfl, rfl, h1, r1⟩ := trodAll_cons r0
  obtain ⟨v2, vs2, d2, ds2, p2, q2, rfl, rfl, rfl, h2, r2⟩ := trodAll_cons r1
  obtain ⟨v3, vs3, d3, ds3, p3, q3, rfl, rfl, rfl, h3, r3⟩ := trodAll_cons r2
  obtain ⟨rfl, rfl, rfl⟩ := trodAll_nil r3
  obtain rfl : args = #[v0, v1, v2, v3] := by cases args; simp_all
  obtain ⟨rfl, rfl⟩ := trodVars_none hV
  have hbk : Rows.uptoBulkAll ([d0, d1, d2, d3] ++ ([] : List (DataW H))) ≤ 1048576 := of_decide_eq_true hK
  simp only [List.append_nil, Rows.uptoBulkAll] at hbk
  have ht0 := h0
  obtain ⟨ao0, cap0, xs0, sq0, tr0, rfl, hO0, hP0, hL0, hT0⟩ := open_madeu (hval 0 24 v0 rfl rfl) h0
  have hy0 : xs0.length ≤ 1048576 := by omega
  have hq0 : ∀ y ∈ xs0, y.tn ≤ 1048576 := fun y hy => by have := hT0 y hy; omega
  have ht1 := h1
  obtain ⟨ao1, cap1, xs1, sq1, tr1, rfl, hO1, hP1, hL1, hT1⟩ := open_madeu (hval 1 24 v1 rfl rfl) h1
  have hy1 : xs1.length ≤ 1048576 := by omega
  have hq1 : ∀ y ∈ xs1, y.tn ≤ 1048576 := fun y hy => by have := hT1 y hy; omega
  have ht2 := h2
  obtain ⟨ao2, cap2, xs2, sq2, tr2, rfl, hO2, hP2, hL2, hT2⟩ := open_madeu (hval 2 24 v2 rfl rfl) h2
  have hy2 : xs2.length ≤ 1048576 := by omega
  have hq2 : ∀ y ∈ xs2, y.tn ≤ 1048576 := fun y hy => by have := hT2 y hy; omega
  have ht3 := h3
  obtain ⟨a3, l3, c3, rfl⟩ := okWide_slice Tryz.underlying51 (hval 3 51 v3 rfl rfl)
  obtain ⟨fu3, hf3⟩ := h3
  obtain ⟨ao3, cap3, xs3, e3, hO3, hz3, hp3⟩ := open_turnsu hf3
  obtain ⟨rfl, rfl, rfl⟩ : a3 = ao3 ∧ l3 = xs3.length ∧ c3 = cap3 := by simpa [Value.cells] using e3
  have hd3 : Rows.uptoBulk d3 ≤ 1048576 := by omega
  have hy3 : xs3.length ≤ 1048576 := Nat.le_trans hz3 hd3
  have hq3 : ∀ y ∈ xs3, y.2.tn ≤ 1048576 := fun y hy => Nat.le_trans (hp3 y hy) hd3
  clear hA0
  refine (pair_law ao0 cap0 xs0 sq0 tr0 ao1 cap1 xs1 sq1 tr1 ao2 cap2 xs2 sq2 tr2 a3 c3 xs3 W (given hL) hO0 hP0 hy0 hq0 hO1 hP1 hy1 hq1 hO2 hP2 hy2 hq2 hO3 hy3 hq3).mono fun e W' ⟨he, hg⟩ => ?_
  subst he
  have e1 : Rows.outboxPairSpec.fn H ([d0, d1, d2, d3] ++ []) = { results := [.lit (.bool true)], args := [d0, d1, d2, d3] } := by simp [Rows.outboxPairSpec]
  refine ⟨_, rfl, _, _, _, [], (p0 ++ (p1 ++ (p2 ++ (p3 ++ [])))), [], hW', ?_, ?_, ?_, hg.frame _, fun h => by cases h⟩
  · rw [e1]; exact trodAll_cons_mk (shut_bool Tryz.underlying4 true) trodAll_mk0
  · rw [e1]; exact trodAll_cons_mk (Below.trod laidOut (show Tryz.prog.readableRec 24 = true by kernel_rfl) (show 24 < Tryz.prog.types.size by rw [typesSize]; decide) ht0 hg (trod_block ht0)) (trodAll_cons_mk (Below.trod laidOut (show Tryz.prog.readableRec 24 = true by kernel_rfl) (show 24 < Tryz.prog.types.size by rw [typesSize]; decide) ht1 hg (trod_block ht1)) (trodAll_cons_mk (Below.trod laidOut (show Tryz.prog.readableRec 24 = true by kernel_rfl) (show 24 < Tryz.prog.types.size by rw [typesSize]; decide) ht2 hg (trod_block ht2)) (trodAll_cons_mk (Below.trod laidOut (show Tryz.prog.readableRec 51 = true by kernel_rfl) (show 51 < Tryz.prog.types.size by rw [typesSize]; decide) ht3 hg (trod_block ht3)) (trodAll_mk0))))
  · rw [e1]; rfl
theorem reads (os : Os) {H : Type} (enc : TypeId × Value → H) : ∃ places, DataW.whole enc Tryz.prog ((World.doorLaid Tryz.prog 400 os).forCall (fun _ _ => 0) ⟨#[], #[.agg #[.slice none 0 0, .bool false, .int .i64 0], .agg #[.slice none 0 0, .bool false, .int .i64 0], .agg #[.slice none 0 0, .bool false, .int .i64 0], .slice none 0 0], []⟩).memory Tryz.f5.params.toList Rows.outboxPairSpec.vars false #[Value.agg #[.slice none 0 0, .bool false, .int .i64 0], Value.agg #[.slice none 0 0, .bool false, .int .i64 0], Value.agg #[.slice none 0 0, .bool false, .int .i64 0], Value.slice none 0 0].toList 8 = some ([.agg [.nil, .lit (.bool false), .lit (.int .i64 0)], .agg [.nil, .lit (.bool false), .lit (.int .i64 0)], .agg [.nil, .lit (.bool false), .lit (.int .i64 0)], .nil], [], places) :=
  ⟨[], by kernel_rfl⟩
theorem door_met (os : Os) : laidMetH Tryz.prog Rows.outboxPairUptoRow.laid ((World.doorLaid Tryz.prog 400 os).forCall (fun _ _ => 0) ⟨#[], #[.agg #[.slice none 0 0, .bool false, .int .i64 0], .agg #[.slice none 0 0, .bool false, .int .i64 0], .agg #[.slice none 0 0, .bool false, .int .i64 0], .slice none 0 0], []⟩).memory :=
  laidMetH_of_parts3 (fuel := 8) (laidMet_of_run' 8 (by kernel_rfl) (by kernel_rfl)) (by kernel_rfl) (by kernel_rfl)
set_option maxRecDepth 100000 in
theorem lifted (os : Os) (started : os.Started) (H : Type) (enc : TypeId × Value → H) (F : Stop.Interp) :
    ReturnsInHanded {} Tryz.checked os 5 .any ((Rows.OpenSpec.upto Rows.outboxPairSpec).preRow enc Tryz.prog Tryz.f5 Rows.outboxPairUptoRow.domain false Rows.outboxPairUptoRow.laid) (((Rows.OpenSpec.upto Rows.outboxPairSpec).at F).post enc Tryz.prog Tryz.f5 false true false false) := by
  obtain ⟨places, hx⟩ := reads os enc
  refine returnsInHanded_of_row (C := Tryz.checked) (s := Rows.OpenSpec.upto Rows.outboxPairSpec) own started (by kernel_rfl) Tryz.func5
    (witness_row_at (enc := enc) (C := Tryz.checked) false (World.doorLaid Tryz.prog 400 os) #[.agg #[.slice none 0 0, .bool false, .int .i64 0], .agg #[.slice none 0 0, .bool false, .int .i64 0], .agg #[.slice none 0 0, .bool false, .int .i64 0], .slice none 0 0] rfl (by kernel_rfl) (by kernel_rfl) (by kernel_rfl)
      (OpenSpec.preRow_of_cond 8 hx (by kernel_rfl) (fun k hk => by cases hk; kernel_rfl) (by kernel_rfl) (door_met os))) ?_
  intro W base args ds gs before hval hW _ hcond _ hL _ _
  exact contract H enc W base args ds gs before hval hW (hcond _ rfl) hL
theorem said : Rows.OutboxPairUptoSaid :=
  OpenClaim.holds_of_cond 5 Tryz.f5 rfl rfl rfl rfl rfl rfl rfl ⟨rfl, rfl, rfl, rfl, rfl⟩ rfl rfl rfl rfl rfl (by kernel_rfl) Tryz.func5 (by kernel_rfl)
    (of_decide_eq_true (by kernel_rfl)) (by unfold Func.isWrapper; first | (rw [if_pos (by decide +kernel)]; kernel_rfl) | (rw [if_neg (by decide +kernel)]; exact ⟨rfl, rfl⟩))
    (fun os started H enc _ F => by rw [OpenClaim.pre_eq_preRow]; exact lifted os started H enc F)
theorem plain (f : FuncId) (fn : Func) (hf : Tryz.pinned.checked.prog.funcNamed "courier/courierlaw14.OutboxPair" = some f) (hfn : Tryz.pinned.checked.prog.funcs[f]? = some fn) :
    true = Tryz.pinned.checked.prog.looks [] ∧ ∀ (j : Nat) t, fn.params[j]? = some t → Tryz.pinned.checked.prog.wantsStandIn t = false := by
  obtain rfl : f = 5 := Option.some.inj ((show Tryz.prog.funcNamed "courier/courierlaw14.OutboxPair" = some 5 by kernel_rfl).symm.trans hf) |>.symm
  obtain rfl : fn = Tryz.f5 := (Option.some.inj (Tryz.func5.symm.trans hfn)).symm
  refine ⟨by kernel_rfl, fun j t ht => ?_⟩
  rw [Tryz.params5] at ht
  have hm : t ∈ [24, 24, 24, 51] := by simpa using Array.mem_of_getElem? ht
  have hall : ([24, 24, 24, 51].all fun u => !Tryz.prog.wantsStandIn u) = true := by kernel_rfl
  exact (show Tryz.prog.wantsStandIn t = false by simpa using List.all_eq_true.1 hall t hm)

theorem card : Rows.OutboxPairUptoCardSaid :=
  Claim7.holds_tied_plain_at .later [] _ _ _ _ said (fun _ h => by cases h) (by kernel_rfl) (fun _ h => by cases h) outboxPairUpto_row_tie rfl ⟨rfl, rfl⟩ (by kernel_rfl) rfl plain (by kernel_rfl)
end Go.Proofs.YtoijhecphgdfnaaGreatDoor.outboxPairUpto

namespace Go.Proofs.YtoijhecphgdfnaaGreatDoor
theorem outboxPair_upto : Rows.OutboxPairUptoCardSaid := outboxPairUpto.card
#print axioms outboxPair_upto
end Go.Proofs.YtoijhecphgdfnaaGreatDoor
