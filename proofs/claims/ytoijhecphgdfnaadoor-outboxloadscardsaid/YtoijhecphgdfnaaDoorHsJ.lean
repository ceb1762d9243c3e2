import Derived.Test.YtoijhecphgdfnaaDoorOrAl
import Derived.Test.YtoijhecphgdfnaaDoorOxHeard2
import Derived.Test.YtoijhecphgdfnaaDoorHsAct
/-
  The law's all: walked.
-/
namespace Go.Proofs.YtoijhecphgdfnaaDoor
open Go.RowKit

section
variable {w w' : World} {K b kb r B hb n : Nat} {v L : Value} {f : Nat → Value} {sq : Bool} {tr : Int} {ms rs ls : List Msg}
set_option maxRecDepth 100000 in
set_option maxHeartbeats 8000000 in
theorem all_any (h : Pr w K b kb r v L sq tr ms rs) (hw : HW w B hb n f) (hn : n + 200 ≤ 1000000000) :
    Calls Tryd.prog 5 #[.agg #[.pointer (some ⟨b, 0, none⟩), .pointer (some ⟨r, 0, none⟩)], .pointer (some ⟨hb, 0, none⟩)] w fun e w' => e = .returned (.bool true) ∧ Hid (PlH w K b kb r B hb (n + 200) v L f sq tr ms rs w') := by
  have bv : Below w.heap.size w (w.alloc (.cells #[.pointer (some ⟨b, 0, none⟩), .pointer (some ⟨r, 0, none⟩)] 28)) := (Below.refl _ _).alloc (Nat.le_refl _) _
  have bx := Box.new w #[.pointer (some ⟨b, 0, none⟩), .pointer (some ⟨r, 0, none⟩)] 28
  obtain ⟨V, hVV⟩ : ∃ V, (w.alloc (.cells #[.pointer (some ⟨b, 0, none⟩), .pointer (some ⟨r, 0, none⟩)] 28)) = V := ⟨_, rfl⟩
  rw [hVV] at bv bx
  have HH : Hid (Pr w K b kb r v L sq tr ms rs ∧ HW w B hb n f ∧ n + 200 ≤ 1000000000 ∧ Below w.heap.size w V ∧ Box V w.heap.size #[.pointer (some ⟨b, 0, none⟩), .pointer (some ⟨r, 0, none⟩)]) := ⟨h, hw, hn, bv, bx⟩
  have hl := list_s (h.below bv).pb.bx
  have c0 : V.cell? ⟨w.heap.size, 0, none⟩ = some (.pointer (some ⟨b, 0, none⟩)) := bx.cell 0
  clear h hw hn bv bx
  go_enter Tryd.func5, Tryd.ntmps5
  go_upto_region 2 with (go_at_call 13; refine hl.mono ?_; rintro _ w1 ⟨l1, a1, c1, rfl, g1, g2, g3⟩)
  have hl2 := list_s ((HH.out.1.below (below_then HH.out.2.2.2.1 g3))).pb.bx
  have c0 : w1.cell? ⟨w.heap.size, 0, none⟩ = some (.pointer (some ⟨b, 0, none⟩)) := (HH.out.2.2.2.2.below g3).cell 0
  have H1 : Hid (ERow w1 V.heap.size 74 10 encM (.slice a1 ms.length c1) l1 ∧ CpF w1 V.heap.size l1 ms ∧ Below V.heap.size V w1) := ⟨g1, g2, g3⟩
  clear hl g1 g2 g3 hVV
  go_upto_region 3 with (go_at_call 13; refine hl2.mono ?_; rintro _ w2 ⟨l2, a2, c2, rfl, g1, g2, g3⟩)
  have H2 : Hid (ERow w2 w1.heap.size 74 10 encM (.slice a2 ms.length c2) l2 ∧ CpF w2 w1.heap.size l2 ms ∧ Below w1.heap.size w1 w2) := ⟨g1, g2, g3⟩
  have hBV2 := below_then H1.out.2.2 g3
  have hP2 := HH.out.1.below (below_then HH.out.2.2.2.1 hBV2)
  have hra := rAll_any hP2.pb.rb
  have z1 : w2.cell? ⟨w.heap.size, 1, none⟩ = some (.pointer (some ⟨r, 0, none⟩)) := (HH.out.2.2.2.2.below hBV2).cell 1
  clear hl2 g1 g2 g3 c0 hBV2 hP2
  go_upto_region 4 with (go_at_call 14; refine hra.mono ?_; rintro _ w3 ⟨l3, a3, c3, rfl, g1, g2, g3⟩)
  have H3 : Hid (ERow w3 w2.heap.size 74 10 encM (.slice a3 rs.length c3) l3 ∧ CpF w3 w2.heap.size l3 rs ∧ Below w2.heap.size w2 w3) := ⟨g1, g2, g3⟩
  have h32 : ms.length ≤ 32 := HH.out.1.pb.bx.2.1.2.2
  have htn : ∀ m ∈ ms, m.tn ≤ 8192 := fun m hm => (HH.out.1.pb.bx.2.2 m hm).2
  have hB3 := below_then H2.out.2.2 g3
  have hBW3 := below_then HH.out.2.2.2.1 (below_then H1.out.2.2 hB3)
  have hl1 : l1.length = ms.length := H1.out.2.1.wis.1
  have hl2 : l2.length = ms.length := H2.out.2.1.wis.1
  have hs1 := sents_any (HH.out.2.1.below hBW3) (ERow.below H1.out.1 hB3) (by have := HH.out.2.2.1; omega) (by omega) (by have := HH.out.2.2.1; omega) (cpf_tx (H1.out.2.1.below hB3) htn)
  clear hra z1 g1 g2 g3
  go_upto_region 5 with (go_at_call 15; refine hs1.mono ?_; rintro _ w4 ⟨rfl, H4⟩)
  obtain ⟨f4, hw4, hft4, o4⟩ := H4.out
  have hs2 := sents_any hw4 (sent_held (HH.out.2.1.below hBW3) o4 (ERow.below H2.out.1 H3.out.2.2)) (by have := HH.out.2.2.1; omega) (by omega) (by have := HH.out.2.2.1; omega) (cpf_tx (cpf_held (HH.out.2.1.below hBW3) o4 (H2.out.2.1.below H3.out.2.2)) htn)
  clear hs1
  go_upto_region 6 with (go_at_call 15; refine hs2.mono ?_; rintro _ w5 ⟨rfl, H5⟩)
  obtain ⟨f5, hw5, hft5, o5⟩ := H5.out
  have hw3 := HH.out.2.1.below hBW3
  have hP5 : Pb w5 K b kb r v L sq tr ms rs := ((HH.out.1.pb.below hBW3).off o4 fun q hq => hft_ne (HH.out.1.pb.below hBW3) hw3 hq).off o5 fun q hq => hft_ne ((HH.out.1.pb.below hBW3).off o4 fun q hq => hft_ne (HH.out.1.pb.below hBW3) hw3 hq) hw4 hq
  have rl : rs.length = ms.length := HH.out.1.wis.1.symm
  have r1 := sent_held hw4 o5 (sent_held hw3 o4 (ERow.below H1.out.1 hB3))
  have p1 := cpf_held hw4 o5 (cpf_held hw3 o4 (H1.out.2.1.below hB3))
  have r2 := sent_held hw4 o5 (sent_held hw3 o4 (ERow.below H2.out.1 H3.out.2.2))
  have p2 := cpf_held hw4 o5 (cpf_held hw3 o4 (H2.out.2.1.below H3.out.2.2))
  have r3 := sent_held hw4 o5 (sent_held hw3 o4 H3.out.1)
  have p3 := cpf_held hw4 o5 (cpf_held hw3 o4 H3.out.2.1)
  have p3' : CpF w5 w2.heap.size l3 ms := ⟨p3.wis.trans HH.out.1.wis.swap, p3.own, p3.sep⟩
  rw [rl] at r3 ⊢
  have HS1 : Hid (∀ z, Below w5.heap.size w5 z → Calls Tryd.prog 16 #[.slice a1 ms.length c1, .slice a3 ms.length c3] z fun e w' => e = .returned (.bool true) ∧ Hid (Below w5.heap.size w5 w')) := fun z hz => (sameList_true (ERow.below r1 hz) (ERow.below r3 hz) (p1.below hz).cps (p3'.below hz).cps htn).mono fun e w' ⟨e1, h1⟩ => ⟨e1, below_then hz h1⟩
  have HS2 : Hid (∀ z, Below w5.heap.size w5 z → Calls Tryd.prog 16 #[.slice a2 ms.length c2, .slice a3 ms.length c3] z fun e w' => e = .returned (.bool true) ∧ Hid (Below w5.heap.size w5 w')) := fun z hz => (sameList_true (ERow.below r2 hz) (ERow.below r3 hz) (p2.below hz).cps (p3'.below hz).cps htn).mono fun e w' ⟨e1, h1⟩ => ⟨e1, below_then hz h1⟩
  have HL1 : Hid (∀ z, Below w5.heap.size w5 z → Calls Tryd.prog 17 #[.pointer (some ⟨b, 0, none⟩)] z fun e w' => e = .returned (.int .i64 (ms.length : Int)) ∧ Hid (Below w5.heap.size w5 w')) := fun z hz => (len_any (hP5.below hz).bx).mono fun e w' ⟨e1, h1⟩ => ⟨e1, by rw [h1]; exact hz⟩
  have HL2 : Hid (∀ z, Below w5.heap.size w5 z → Calls Tryd.prog 18 #[.pointer (some ⟨r, 0, none⟩)] z fun e w' => e = .returned (.int .i64 (ms.length : Int)) ∧ Hid (Below w5.heap.size w5 w')) := fun z hz => (rlen_any (hP5.below hz).rb).mono fun e w' ⟨e1, h1⟩ => ⟨by rw [← rl]; exact e1, by rw [h1]; exact hz⟩
  have hlt : ∀ q, HFt hb f q → q < w.heap.size := fun q hq => by
    rcases hq with e | ⟨j, hj, e⟩
    · subst e; exact HH.out.2.1.lt
    · obtain ⟨xs, _, hr⟩ := HH.out.2.1.row j hj
      exact (ERow.lt hr e).2
  have hx3 := HH.out.2.2.2.2.below (below_then H1.out.2.2 hB3)
  have hq : ∀ q, w5.cell? ⟨w.heap.size, q, none⟩ = w3.cell? ⟨w.heap.size, q, none⟩ := fun q => (o5.cell (p := ⟨w.heap.size, q, none⟩) (Nat.lt_of_lt_of_le hx3.lt o4.size) fun h1 => by
    rcases hft4 w.heap.size h1 with g | g
    · have := hlt _ g; omega
    · have := hx3.lt; omega).trans (o4.cell (p := ⟨w.heap.size, q, none⟩) hx3.lt fun h1 => by have := hlt w.heap.size h1; omega)
  have d0 : w5.cell? ⟨w.heap.size, 0, none⟩ = some (.pointer (some ⟨b, 0, none⟩)) := (hq 0).trans (hx3.cell 0)
  have d1 : w5.cell? ⟨w.heap.size, 1, none⟩ = some (.pointer (some ⟨r, 0, none⟩)) := (hq 1).trans (hx3.cell 1)
  have hxl : w.heap.size < w5.heap.size := Nat.lt_of_lt_of_le (Nat.lt_of_lt_of_le hx3.lt o4.size) o5.size
  have gc : ∀ {z : World}, Below w5.heap.size w5 z → z.cell? ⟨w.heap.size, 0, none⟩ = some (.pointer (some ⟨b, 0, none⟩)) ∧ z.cell? ⟨w.heap.size, 1, none⟩ = some (.pointer (some ⟨r, 0, none⟩)) := fun {z} hz => ⟨(hz.cell (p := ⟨w.heap.size, 0, none⟩) hxl).trans d0, (hz.cell (p := ⟨w.heap.size, 1, none⟩) hxl).trans d1⟩
  have HE : Hid (∀ z, Below w5.heap.size w5 z → PlH w K b kb r B hb (n + 200) v L f sq tr ms rs z) := fun z hz => by
    have k2 : ∀ q, HFt hb f5 q → HFt hb f q ∨ w.heap.size ≤ q := fun q h1 => by
      rcases hft5 q h1 with g | g
      · rcases hft4 q g with g2 | g2
        · exact Or.inl g2
        · exact Or.inr (Nat.le_trans hBW3.size g2)
      · exact Or.inr (Nat.le_trans hBW3.size (Nat.le_trans o4.size g))
    have o45 : Off (HFt hb f) w3 w5 := o4.join o5 fun k hl hk => by
      rcases hft4 k hk with g | g
      · exact g
      · omega
    exact ⟨v, L, ms, rs, f5, ⟨hP5.below hz, HH.out.1.wis, HH.out.1.ok⟩, (hw5.more (by omega)).below hz, fun q h1 => Or.inl h1, k2, ((Off.of_below hBW3).trans (o45.trans (Off.of_below hz))).mono fun q h1 => Or.inr h1⟩
  clear hq hlt hx3 H4 H5 H1 H2 H3 HH hw3 hw4 hw5 hft4 hft5 o4 o5 hP5 rl r1 r2 r3 p1 p2 p3 p3' h32 htn hB3 hBW3 hl1 hl2 hs2
  go_region_held3 (fun z => z.cell? ⟨w.heap.size, 0, none⟩ = some (.pointer (some ⟨b, 0, none⟩)) ∧ z.cell? ⟨w.heap.size, 1, none⟩ = some (.pointer (some ⟨r, 0, none⟩))) ((refine gc ?_; (repeat' (first | (with_reducible exact Below.refl _ _) | (with_reducible exact Hid.out (by assumption)) | (with_reducible refine Below.drew ?_))))) (first | (go_at_call 16; refine (HS1.out _ (Below.drew (Below.refl _ _))).mono ?_; clear HS1; rintro _ w6 ⟨rfl, HB6⟩) | (go_at_call 16; refine (HS2.out _ HB6.out).mono ?_; clear HS2; rintro _ w7 ⟨rfl, HB7⟩) | (go_at_call 17; refine (HL1.out _ HB7.out).mono ?_; rintro _ w8 ⟨rfl, HB8⟩) | (go_at_call 18; refine (HL2.out _ HB8.out).mono ?_; rintro _ w9 ⟨rfl, HB9⟩))
  all_goals
    go_wp2_with fail
    go_ret
    exact ⟨rfl, HE.out _ HB9.out⟩
end
end Go.Proofs.YtoijhecphgdfnaaDoor

/-
  Next and Get of both boxes: what they answer, whatever the box.
-/
namespace Go.Proofs.YtoijhecphgdfnaaDoor
open Go.RowKit

theorem start_len (e : Bool) (a p t : Int) (nt : Bool) : (startS e a p t nt).l.length ≤ 3 := by
  unfold startS
  repeat' split
  all_goals simp
theorem due_len (e : Bool) (a p st lf : Int) : (dueS e a p st lf).l.length ≤ 3 := by
  unfold dueS
  repeat' split
  all_goals simp
theorem heard_len (e : Bool) (a p st lf : Int) (s : ByteArray) (b : Bool) : (heardS e a p st lf s b).l.length ≤ 3 := by
  unfold heardS
  repeat' split
  all_goals simp
theorem deeds_len (c : ByteArray) (l : ActL) : (deedsS c l).length = l.length := by simp [deedsS]
theorem goA_len (sq : Bool) (tr : Int) (ms : List Msg) : (goA sq tr ms).ds.length ≤ 1000000000 := by
  unfold goA
  split
  · simp
  split
  · simp
  · split
    · simp
    · show (deedsS _ _).length ≤ _
      rw [deeds_len]
      exact Nat.le_trans (start_len _ _ _ _ _) (by decide)
theorem dueA_len (ms : List Msg) (s : ByteArray) : (dueA ms s).ds.length ≤ 1000000000 := by
  unfold dueA
  split
  · simp
  split
  · simp
  · split
    · simp
    · show (deedsS _ _).length ≤ _
      rw [deeds_len]
      exact Nat.le_trans (due_len _ _ _ _ _) (by decide)
theorem heardA_len (sq : Bool) (ms : List Msg) (s cd : ByteArray) (x : Int) : (heardA sq ms s cd x).ds.length ≤ 1000000000 := by
  unfold heardA
  split
  · simp
  split
  · simp
  · split
    · simp
    split
    · simp
    split
    · show (deedsS _ _).length ≤ _
      rw [deeds_len]
      simp
    · show (deedsS _ _).length ≤ _
      rw [deeds_len]
      exact Nat.le_trans (heard_len _ _ _ _ _ _ _) (by decide)
section
variable {w w' : World} {K b kb r : Nat} {v L : Value} {sq : Bool} {tr : Int} {ms rs : List Msg}
/-- What a Get tells: a Sent, an error. -/
def GtQ (w : World) (m : Msg) (cd : Int) (e : Ending) (w' : World) : Prop := ∃ a c ev, e = .returned (.tuple #[.agg #[.string m.ct, .slice a m.tn c, .bool m.e, .int .i64 m.a, .int .i64 m.p, .int .i64 m.nu, .bool m.nt, .int .i64 m.st, .int .i64 m.lf, .bool m.un], ev]) ∧ Hid (BRow w' w.heap.size (.slice a m.tn c) m.tx ∧ OEv w' w.heap.size ev 0 cd ∧ Below w.heap.size w w')
end
end Go.Proofs.YtoijhecphgdfnaaDoor

/-
  The boxes and Held, strongly, in one state.
-/
namespace Go.Proofs.YtoijhecphgdfnaaDoor
open Go.RowKit

structure JS (w : World) (K b kb r B hb n : Nat) (v L : Value) (σ : Hs) (sq : Bool) (tr : Int) (ms rs : List Msg) : Prop where
  pr : Pr w K b kb r v L sq tr ms rs
  hs : HS w B hb n σ
  ap : ∀ q, Ft b kb r v L ms rs q → ¬ HsFt σ q
/-- What a call of the law's leaves of boxes and Held. -/
def PlJ (w : World) (K b kb r B hb n : Nat) (v L : Value) (σ : Hs) (sq : Bool) (tr : Int) (ms rs : List Msg) (w' : World) : Prop :=
  ∃ v' L' ms' rs' σ', JS w' K b kb r B hb n v' L' σ' sq tr ms' rs' ∧ (∀ q, Ft b kb r v' L' ms' rs' q → Ft b kb r v L ms rs q ∨ w.heap.size ≤ q) ∧ (∀ q, HsFt σ' q → HsFt σ q ∨ w.heap.size ≤ q) ∧ Off (fun q => Ft b kb r v L ms rs q ∨ HsFt σ q) w w'
section
variable {w w1 w3 w4 w' z : World} {K b kb r B hb n m : Nat} {v L : Value} {σ : Hs} {sq : Bool} {tr : Int} {ms rs : List Msg} {T : Nat → Prop}
theorem JS.below (h : JS w K b kb r B hb n v L σ sq tr ms rs) (h9 : Below w.heap.size w w') : JS w' K b kb r B hb n v L σ sq tr ms rs := ⟨h.pr.below h9, h.hs.below h9, h.ap⟩
theorem JS.more (h : JS w K b kb r B hb n v L σ sq tr ms rs) (hm : n ≤ m) : JS w K b kb r B hb m v L σ sq tr ms rs := ⟨h.pr, h.hs.more hm, h.ap⟩
theorem PlJ.more (h : PlJ w K b kb r B hb n v L σ sq tr ms rs w') (hm : n ≤ m) : PlJ w K b kb r B hb m v L σ sq tr ms rs w' := by
  obtain ⟨v', L', ms', rs', σ', p1, p2⟩ := h
  exact ⟨v', L', ms', rs', σ', p1.more hm, p2⟩
theorem PlJ.back (h1 : Below w.heap.size w w1) (h : PlJ w1 K b kb r B hb m v L σ sq tr ms rs w') : PlJ w K b kb r B hb m v L σ sq tr ms rs w' := by
  obtain ⟨v', L', ms', rs', σ', p1, p3, p4, p5⟩ := h
  exact ⟨v', L', ms', rs', σ', p1, fun q hq => (p3 q hq).imp id fun g => Nat.le_trans h1.size g, fun q hq => (p4 q hq).imp id fun g => Nat.le_trans h1.size g, (Off.of_below h1).trans p5⟩
/-- A list of deeds is none of the boxes' blocks. -/
theorem drow_nft (h : Pb w K b kb r v L sq tr ms rs) {C : Nat} {u : Value} {ds : List Deed} (hd : DRow w C u ds) {q : Nat} (hq : u.ownBlock = some q) : ¬ Ft b kb r v L ms rs q := fun h1 => by
  have key : ∃ cs t, w.heap[q]? = some (.cells cs t (0, 0)) ∧ t ≠ 70 := by
    rcases h1 with e | e | e | e | e | ⟨m, hm, e⟩ | ⟨m, hm, e⟩
    · subst e; exact ⟨_, _, h.bx.1, by decide⟩
    · subst e; exact ⟨_, _, h.bx.2.1.1, by decide⟩
    · subst e; exact ⟨_, _, h.rb.blk, by decide⟩
    · obtain ⟨cs, hc⟩ := msrow_type h.bx.2.1.2.1 e
      exact ⟨_, _, hc, by decide⟩
    · obtain ⟨cs, hc⟩ := msrow_type h.rb.row e
      exact ⟨_, _, hc, by decide⟩
    · obtain ⟨cs, hc⟩ := brow_type (h.bx.2.2 m hm).1 e
      exact ⟨_, _, hc, by decide⟩
    · obtain ⟨cs, hc⟩ := brow_type (h.rb.own m hm).1 e
      exact ⟨_, _, hc, by decide⟩
  obtain ⟨cs, t, hc, ht⟩ := key
  obtain ⟨cs', hc'⟩ := own_type hd hq
  rw [hc] at hc'
  simp only [Option.some.injEq, Obj.cells.injEq] at hc'
  exact ht hc'.2.1
/-- The boxes have moved, then Held has been told of T. -/
theorem PlJ.of (h : JS w K b kb r B hb m v L σ sq tr ms rs) (hp : PlR w K b kb r v L sq tr ms rs (fun _ => False) w1) (hq : HSQ w1 B hb n σ T w') (hT : ∀ q, T q → w.heap.size ≤ q ∧ ∀ v' L' ms' rs', Pb w1 K b kb r v' L' sq tr ms' rs' → ¬ Ft b kb r v' L' ms' rs' q) : PlJ w K b kb r B hb n v L σ sq tr ms rs w' := by
  obtain ⟨v', L', ms', rs', p1, p2, p3⟩ := hp
  obtain ⟨σ', q1, q2, q3, _⟩ := hq
  have hap : ∀ q, Ft b kb r v' L' ms' rs' q → ¬ HsFt σ q := fun q hf hk => by
    rcases p2 q hf with g | g
    · exact h.ap q g hk
    · have := (h.hs.lt hk).2; omega
  refine ⟨v', L', ms', rs', σ', ⟨⟨p1.pb.off q3 fun q hf hk => hap q hf hk.ft, p1.wis, p1.ok⟩, q1, fun q hf hk => ?_⟩, p2, fun q hk => ?_, (p3.mono fun q hk => ?_).trans (q3.mono fun q hk => Or.inr hk.ft)⟩
  · rcases q2 q hk with g | g | g
    · exact hap q hf g
    · exact (hT q g).2 _ _ _ _ p1.pb hf
    · have := (p1.pb.lt hf).2; omega
  · rcases q2 q hk with g | g | g
    · exact Or.inl g
    · exact Or.inr (hT q g).1
    · exact Or.inr (Nat.le_trans p3.size g)
  · rcases hk with g | g
    · exact Or.inl g
    · exact g.elim
theorem PlR.toJ (h : JS w K b kb r B hb n v L σ sq tr ms rs) (hp : PlR w K b kb r v L sq tr ms rs (fun _ => False) w') : PlJ w K b kb r B hb n v L σ sq tr ms rs w' := by
  have hw1 : HS w' B hb n σ := by
    obtain ⟨_, _, _, _, _, _, o⟩ := hp
    exact h.hs.off o fun k hk hf => by
      rcases hf with g | g
      · exact h.ap k g hk
      · exact g
  exact PlJ.of (T := fun _ => False) h hp ⟨σ, hw1, fun g hg => Or.inl hg, Off.refl _ _, fun g hg => Or.inl hg⟩ fun q e => e.elim
/-- Looked at alone; then Held has been told of T. -/
theorem PlJ.looked (h : JS w K b kb r B hb n v L σ sq tr ms rs) (h3 : Below w.heap.size w w3) (hq : HSQ w3 B hb m σ T w4) (hT : ∀ q, T q → w.heap.size ≤ q) (hz : Below w4.heap.size w4 z) : PlJ w K b kb r B hb m v L σ sq tr ms rs z := by
  have p3 := h.pr.pb.below h3
  obtain ⟨σ', q1, q2, q3, _⟩ := hq
  refine ⟨v, L, ms, rs, σ', ⟨⟨(p3.off q3 fun q hf hk => h.ap q hf hk.ft).below hz, h.pr.wis, h.pr.ok⟩, q1.below hz, fun q hf hk => ?_⟩, fun q h1 => Or.inl h1, fun q h1 => ?_, ((Off.of_below h3).trans (q3.trans (Off.of_below hz))).mono fun q h1 => Or.inr h1.ft⟩
  · have hl := (h.pr.pb.lt hf).2
    rcases q2 q hk with g | g | g
    · exact h.ap q hf g
    · have := hT q g; omega
    · have := h3.size; omega
  · rcases q2 q h1 with g | g | g
    · exact Or.inl g
    · exact Or.inr (hT q g)
    · exact Or.inr (Nat.le_trans h3.size g)
theorem goA_len2 (sq : Bool) (tr : Int) (ms : List Msg) : (goA sq tr ms).ds.length ≤ 100000 := by
  unfold goA
  split
  · simp
  split
  · simp
  · split
    · simp
    · show (deedsS _ _).length ≤ _
      rw [deeds_len]
      exact Nat.le_trans (start_len _ _ _ _ _) (by decide)
theorem dueA_len2 (ms : List Msg) (s : ByteArray) : (dueA ms s).ds.length ≤ 100000 := by
  unfold dueA
  split
  · simp
  split
  · simp
  · split
    · simp
    · show (deedsS _ _).length ≤ _
      rw [deeds_len]
      exact Nat.le_trans (due_len _ _ _ _ _) (by decide)
theorem heardA_len2 (sq : Bool) (ms : List Msg) (s cd : ByteArray) (x : Int) : (heardA sq ms s cd x).ds.length ≤ 100000 := by
  unfold heardA
  split
  · simp
  split
  · simp
  · split
    · simp
    split
    · simp
    split
    · show (deedsS _ _).length ≤ _
      rw [deeds_len]
      simp
    · show (deedsS _ _).length ≤ _
      rw [deeds_len]
      exact Nat.le_trans (heard_len _ _ _ _ _ _ _) (by decide)
end
end Go.Proofs.YtoijhecphgdfnaaDoor
