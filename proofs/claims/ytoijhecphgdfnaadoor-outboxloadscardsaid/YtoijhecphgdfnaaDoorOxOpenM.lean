import Derived.Test.YtoijhecphgdfnaaDoorJsAx
import Derived.Test.YtoijhecphgdfnaaDoorHsAlone
import Derived.Test.YtoijhecphgdfnaaDoorOrTwo
import Derived.Test.YtoijhecphgdfnaaDoorOrMade
import Derived.Test.YtoijhecphgdfnaaDoorDkRow
import Derived.Test.YtoijhecphgdfnaaDoorOrHw
import Derived.Test.YtoijhecphgdfnaaDoorOxLoad
/-
  The law's all and alone behind its own box (JsPlA without plays).
-/
namespace Go.Proofs.YtoijhecphgdfnaaDoor
open Go.RowKit

section
variable {w w' : World} {K b kb r B hb n : Nat} {v L : Value} {σ : Hs} {sq : Bool} {tr : Int} {ms rs : List Msg}
/-- What a call writes lies behind the world in which the law began. -/
theorem Off.behind {P : Nat → Prop} {W : World} (hW : Below W.heap.size W w) (o : Off P w w') (hP : ∀ q, P q → W.heap.size ≤ q) : Below W.heap.size W w' := hW.trans (o.below hW.size fun q hq => hP q hq)
theorem ft_two0 (h : Pb w K b kb r v L sq tr ms rs) {q : Nat} {cs : Array Value} (hc : w.heap[q]? = some (.cells cs 28 (0, 0))) : ¬ Ft b kb r v L ms rs q := fun h1 => by
  have key : ∃ cs t, w.heap[q]? = some (.cells cs t (0, 0)) ∧ t ≠ 28 := by
    rcases h1 with e | e | e | e | e | ⟨m, hm, e⟩ | ⟨m, hm, e⟩
    · subst e; exact ⟨_, _, h.bx.1, by decide⟩
    · subst e; exact ⟨_, _, h.bx.2.1.1, by decide⟩
    · subst e; exact ⟨_, _, h.rb.blk, by decide⟩
    · obtain ⟨cs, hc⟩ := msrow_type h.bx.2.1.2.1 e
      exact ⟨_, _, hc, by decide⟩
    · obtain ⟨cs, hc⟩ := msrow_type h.rb.row e
      exact ⟨_, _, hc, by decide⟩
    · obtain ⟨cs, hc⟩ := brow_type (h.bx.2.2 m hm).1 e
      exact ⟨_, _, hc, by decide⟩
    · obtain ⟨cs, hc⟩ := brow_type (h.rb.own m hm).1 e
      exact ⟨_, _, hc, by decide⟩
  obtain ⟨cs', t, hc', ht⟩ := key
  rw [hc] at hc'
  simp only [Option.some.injEq, Obj.cells.injEq] at hc'
  exact ht hc'.2.1.symm
/-- The law's own box of both, behind the world in which the law began. -/
structure JaG (W : World) (b r xb : Nat) (w : World) : Prop where
  bx : w.heap[xb]? = some (.cells #[.pointer (some ⟨b, 0, none⟩), .pointer (some ⟨r, 0, none⟩)] 28 (0, 0))
  bel : Below W.heap.size W w
/-- Between two calls. -/
structure JaI (W : World) (K b kb r hb xb : Nat) (sq : Bool) (tr : Int) (m : Nat) (w : World) : Prop where
  st : ∃ v L ms rs σ, JS w K b kb r W.heap.size hb m v L σ sq tr ms rs ∧ ¬ HsFt σ xb
  g : JaG W b r xb w
variable {W : World} {xb m : Nat}
theorem JaG.below (h : JaG W b r xb w) (h9 : Below w.heap.size w w') : JaG W b r xb w' := ⟨(h9.block _ (blk_lt h.bx)).trans h.bx, below_then h.bel h9⟩
theorem JaG.drew (h : JaG W b r xb w) : JaG W b r xb w.drew := h.below (Below.drew (Below.refl _ _))
theorem JaG.cells (h : JaG W b r xb w) : w.cell? ⟨xb, 0, none⟩ = some (.pointer (some ⟨b, 0, none⟩)) ∧ w.cell? ⟨xb, 1, none⟩ = some (.pointer (some ⟨r, 0, none⟩)) := by
  have hbx := h.bx
  exact ⟨by simp [World.cell?, hbx], by simp [World.cell?, hbx]⟩
theorem JaI.below (h : JaI W K b kb r hb xb sq tr m w) (h9 : Below w.heap.size w w') : JaI W K b kb r hb xb sq tr m w' := by
  obtain ⟨v, L, ms, rs, σ, h1, h2⟩ := h.st
  exact ⟨⟨v, L, ms, rs, σ, h1.below h9, h2⟩, h.g.below h9⟩
theorem JaI.more {k : Nat} (h : JaI W K b kb r hb xb sq tr m w) (hm : m ≤ k) : JaI W K b kb r hb xb sq tr k w := by
  obtain ⟨v, L, ms, rs, σ, h1, h2⟩ := h.st
  exact ⟨⟨v, L, ms, rs, σ, h1.more hm, h2⟩, h.g⟩
theorem PlJ.ja {k : Nat} (hg : JaG W b r xb w) (hK : W.heap.size ≤ K) (h0 : JS w K b kb r W.heap.size hb m v L σ sq tr ms rs) (hx : ¬ HsFt σ xb) (h : PlJ w K b kb r W.heap.size hb k v L σ sq tr ms rs w') : JaI W K b kb r hb xb sq tr k w' := by
  obtain ⟨v', L', ms', rs', σ', p1, p2, p3, p5⟩ := h
  have hxl := blk_lt hg.bx
  refine ⟨⟨v', L', ms', rs', σ', p1, fun e => ?_⟩, (p5.block _ hxl fun e => ?_).trans hg.bx, Off.behind hg.bel p5 fun q hq => ?_⟩
  · rcases p3 xb e with g | g
    · exact hx g
    · omega
  · rcases e with e | e
    · exact ft_two0 h0.pr.pb hg.bx e
    · exact hx e
  · rcases hq with e | e
    · exact Nat.le_trans hK (h0.pr.pb.lt e).1
    · exact (h0.hs.lt e).1
/-- One call of all. -/
theorem JaI.all (h : JaI W K b kb r hb xb sq tr m w) (hK : W.heap.size ≤ K) (hn : m + 200 ≤ 1000000000) :
    Calls Tryd.prog 5 #[.agg #[.pointer (some ⟨b, 0, none⟩), .pointer (some ⟨r, 0, none⟩)], .pointer (some ⟨hb, 0, none⟩)] w fun e w' => e = .returned (.bool true) ∧ Hid (JaI W K b kb r hb xb sq tr (m + 66) w') := by
  obtain ⟨v, L, ms, rs, σ, h1, h2⟩ := h.st
  exact (all_anyJ h1 hn).mono fun e w' ⟨e1, g⟩ => ⟨e1, g.out.ja h.g hK h1 h2⟩
/-- One call of alone. -/
theorem JaI.alone (h : JaI W K b kb r hb xb sq tr m w) (hn : m ≤ 300000000) :
    Calls Tryd.prog 6 #[.pointer (some ⟨hb, 0, none⟩)] w fun e w' => e = .returned (.bool true) ∧ Hid (JaI W K b kb r hb xb sq tr m w') := by
  obtain ⟨v, L, ms, rs, σ, h1, h2⟩ := h.st
  refine (alone_s h1.hs hn).mono fun e w' ⟨e1, g⟩ => ⟨e1, ?_⟩
  obtain ⟨σ', q1, q2, q3⟩ := g.out
  have hhb : HsFt σ hb := Or.inl h1.hs.h0.hr.hbl.2
  refine ⟨⟨v, L, ms, rs, σ', ⟨⟨h1.pr.pb.off q3 fun q hf hk => h1.ap q hf hk, h1.pr.wis, h1.pr.ok⟩, q1.more (Nat.zero_le _), fun q hf hk => ?_⟩, fun e => ?_⟩, (q3.block _ (blk_lt h.g.bx) h2).trans h.g.bx, Off.behind h.g.bel q3 fun q hq => (h1.hs.lt hq).1⟩
  · rw [q2 q hk] at hf; exact h1.ap hb hf hhb
  · rw [q2 xb e] at h2; exact h2 hhb
/-- Held, new, strongly. -/
theorem hs_new {w : World} {B n : Nat} (hB : B ≤ w.heap.size) : ∃ σ, HS (w.alloc (.cells #[.slice none 0 0, .slice none 0 0, .slice none 0 0, .slice none 0 0, .slice none 0 0, .slice none 0 0, .slice none 0 0, .slice none 0 0, .slice none 0 0, .slice none 0 0] 40)) B w.heap.size n σ ∧ ∀ g, HsFt σ g → g = w.heap.size := by
  have bx := Box.new w #[.slice none 0 0, .slice none 0 0, .slice none 0 0, .slice none 0 0, .slice none 0 0, .slice none 0 0, .slice none 0 0, .slice none 0 0, .slice none 0 0, .slice none 0 0] 40
  refine ⟨⟨fun _ => .slice none 0 0, rho0 w.heap.size, [], [], []⟩, ⟨⟨⟨⟨_, _, Bo.Bk.empty (fun q hq => ?_) (fun q hq => ?_) (fun q => bx.free q) (by simp; omega)⟩, fun q hq => ?_, fun i j g _ _ _ h => (by cases h), fun q g _ h => (by cases h), fun g hg => by rw [rho0_of hg]; exact hB⟩, LB.nil _ _ _ _ _, LB.nil _ _ _ _ _, fun g hg => ?_, fun i e he => (by simp at he)⟩, fun x hx => (by cases hx), Nat.zero_le _, Nat.zero_le _, Nat.zero_le _, fun x hx => (by cases hx), fun x hx => (by cases hx)⟩, fun g hg => ?_⟩
  · rw [bx.cell (q + 4)]
    rcases q with _ | _ | _ | _ | _ | _ | q
    · rfl
    · rfl
    · rfl
    · rfl
    · rfl
    · rfl
    · omega
  · rw [bx.cell q]
    rcases q with _ | _ | _ | _ | q
    · rfl
    · rfl
    · rfl
    · rfl
    · omega
  · have e : Hs.X ⟨fun _ => .slice none 0 0, rho0 w.heap.size, [], [], []⟩ q = [] := by
      rcases q with _ | _ | _ | _ | q
      · rfl
      · rfl
      · rfl
      · rfl
      · omega
    rw [e]
    exact ERow.nil _ _ _ _ _
  · rcases hg with ⟨x, hx, _⟩ | ⟨x, hx, _⟩ <;> cases hx
  · rcases hg with (e | ⟨q, hq, e⟩) | ⟨x, hx, _⟩ | ⟨x, hx, _⟩
    · exact rho0_of e
    · cases e
    · cases hx
    · cases hx
end
end Go.Proofs.YtoijhecphgdfnaaDoor

/-
  OutboxLoads, walked.
-/
namespace Go.Proofs.YtoijhecphgdfnaaDoor
open Go.RowKit

/-- What made answers are pointers. -/
theorem MadeQ.ptr {W : World} {sq : Bool} {tr : Int} {xs : List Msg} {e : Ending} {w' : World} (h : MadeQ W sq tr xs e w') : ∃ pb pr, e = .returned (.tuple #[.agg #[.pointer pb, .pointer pr], .bool true]) ∧ Hid (∃ K, W.heap.size ≤ K ∧ MRes K sq tr xs (.pointer pb) (.pointer pr) w' ∧ Below W.heap.size W w') := by
  obtain ⟨bv, rv, e1, h1⟩ := h
  obtain ⟨K, hK, hM, hb⟩ := h1.out
  have key : ∃ pb pr, bv = .pointer pb ∧ rv = .pointer pr := by
    rcases hM with ⟨h2, h3⟩ | ⟨b, kb, v, ms, r, L, rs, h2, h3, _⟩
    · exact ⟨_, _, h2, h3⟩
    · exact ⟨_, _, h2, h3⟩
  obtain ⟨pb, pr, rfl, rfl⟩ := key
  exact ⟨pb, pr, e1, K, hK, hM, hb⟩
section
set_option maxRecDepth 100000 in
set_option maxHeartbeats 16000000 in
theorem loads_law (ao : Option Addr) (cap : Nat) (xs : List Msg) (sq : Bool) (tr : Int) (W : World) (hV : PVc W) (ho : Outs W ao xs) (hp : ∀ x ∈ xs, Plain x) (hl : xs.length ≤ 1759218604390) (hw : ∀ x ∈ xs, x.tn ≤ 140737488351232) :
    Calls Tryd.prog 3 #[.agg #[.slice ao xs.length cap, .bool sq, .int .i64 tr]] W fun e w' => e = .returned (.bool true) ∧ Below W.heap.size W w' := by
  have b0 : Below W.heap.size W (W.alloc (.cells #[.slice ao xs.length cap, .bool sq, .int .i64 tr] 24)) := (Below.refl _ _).alloc (Nat.le_refl _) _
  have x0 := Box.new W #[.slice ao xs.length cap, .bool sq, .int .i64 tr] 24
  obtain ⟨V, hVV⟩ : ∃ V, W.alloc (.cells #[.slice ao xs.length cap, .bool sq, .int .i64 tr] 24) = V := ⟨_, rfl⟩
  rw [hVV] at b0 x0
  have hmd := made_any ao cap xs sq tr V (hV.below b0) (ho.below b0) hp (by omega) (fun x hx => by have := hw x hx; omega)
  obtain ⟨M, hM⟩ : ∃ M, xs.length = M := ⟨_, rfl⟩
  rw [hM] at hmd x0 hVV
  have HH : Hid ((∀ x ∈ xs, Plain x) ∧ Below W.heap.size W V) := ⟨hp, b0⟩
  have c0 : V.cell? ⟨W.heap.size, 0, none⟩ = some (.slice ao M cap) := x0.cell 0
  have c1 : V.cell? ⟨W.heap.size, 1, none⟩ = some (.bool sq) := x0.cell 1
  have c2 : V.cell? ⟨W.heap.size, 2, none⟩ = some (.int .i64 tr) := x0.cell 2
  rw [hM]
  clear hV ho hp hl hw hM b0 x0
  go_enter Tryd.func3, Tryd.ntmps3
  go_upto_region 2 with (go_at_call 4; refine hmd.mono ?_; rintro _ w1 hmq; obtain ⟨pb, pr, rfl, H1⟩ := hmq.ptr; clear hmq)
  clear hmd hVV c0 c1 c2
  obtain ⟨K, hK, hM, hb1⟩ := H1.out
  have HK : Hid (V.heap.size ≤ K ∧ Below V.heap.size V w1) := ⟨hK, hb1⟩
  rcases hM.pr HH.out.1 with ⟨e1, e2⟩ | ⟨b, kb, v, ms, r, L, rs, e1, e2, hP⟩
  · obtain rfl : pb = none := by injection e1
    obtain rfl : pr = none := by injection e2
    clear e1 e2
    have xA := Box.new w1 #[.pointer none, .pointer none] 28
    have bA : Below w1.heap.size w1 (w1.alloc (.cells #[.pointer none, .pointer none] 28)) := (Below.refl _ _).alloc (Nat.le_refl _) _
    have HB : Hid (Below W.heap.size W (w1.alloc (.cells #[.pointer none, .pointer none] 28))) := below_then (below_then HH.out.2 hb1) bA
    have c0 : (w1.alloc (.cells #[.pointer none, .pointer none] 28)).cell? ⟨w1.heap.size, 0, none⟩ = some (.pointer none) := xA.cell 0
    clear hM hb1 H1 hK xA bA
    go_wp2_with fail
    go_ret
    exact ⟨rfl, HB.out⟩
  · obtain rfl : pb = some ⟨b, 0, none⟩ := by injection e1
    obtain rfl : pr = some ⟨r, 0, none⟩ := by injection e2
    clear e1 e2
    have xA := Box.new w1 #[.pointer (some ⟨b, 0, none⟩), .pointer (some ⟨r, 0, none⟩)] 28
    have bA : Below w1.heap.size w1 (w1.alloc (.cells #[.pointer (some ⟨b, 0, none⟩), .pointer (some ⟨r, 0, none⟩)] 28)) := (Below.refl _ _).alloc (Nat.le_refl _) _
    have hA : (w1.alloc (.cells #[.pointer (some ⟨b, 0, none⟩), .pointer (some ⟨r, 0, none⟩)] 28)).heap[w1.heap.size]? = some (.cells #[.pointer (some ⟨b, 0, none⟩), .pointer (some ⟨r, 0, none⟩)] 28 (0, 0)) := heap_alloc_new _ _
    obtain ⟨V1, hV1⟩ : ∃ V1, w1.alloc (.cells #[.pointer (some ⟨b, 0, none⟩), .pointer (some ⟨r, 0, none⟩)] 28) = V1 := ⟨_, rfl⟩
    have c0 : (w1.alloc (.cells #[.pointer (some ⟨b, 0, none⟩), .pointer (some ⟨r, 0, none⟩)] 28)).cell? ⟨w1.heap.size, 0, none⟩ = some (.pointer (some ⟨b, 0, none⟩)) := xA.cell 0
    obtain ⟨xb, hxb⟩ : ∃ xb, w1.heap.size = xb := ⟨_, rfl⟩
    rw [hV1] at xA bA hA c0 ⊢
    rw [hxb] at xA hA c0 ⊢
    have bW1 : Below W.heap.size W V1 := below_then (below_then HH.out.2 hb1) bA
    have hWK : W.heap.size ≤ K := Nat.le_trans HH.out.2.size hK
    have bH : Below V1.heap.size V1 (V1.alloc (.cells #[.slice none 0 0, .slice none 0 0, .slice none 0 0, .slice none 0 0, .slice none 0 0, .slice none 0 0, .slice none 0 0, .slice none 0 0, .slice none 0 0, .slice none 0 0] 40)) := (Below.refl _ _).alloc (Nat.le_refl _) _
    obtain ⟨σ0, hk, hk2⟩ := hs_new (w := V1) (n := 0) bW1.size
    obtain ⟨V2, hV2⟩ : ∃ V2, V1.alloc (.cells #[.slice none 0 0, .slice none 0 0, .slice none 0 0, .slice none 0 0, .slice none 0 0, .slice none 0 0, .slice none 0 0, .slice none 0 0, .slice none 0 0, .slice none 0 0] 40) = V2 := ⟨_, rfl⟩
    rw [hV2] at bH hk
    obtain ⟨hb, hhb⟩ : ∃ hb, V1.heap.size = hb := ⟨_, rfl⟩
    rw [hhb] at hk hk2
    have hPA := hP.below bA
    have HC : Hid (JaI W K b kb r hb xb sq tr (0) V2 ∧ W.heap.size ≤ K) := ⟨⟨⟨v, L, ms, rs, σ0, ⟨hPA.below bH, hk, fun q hf hq => by have := (hPA.pb.lt hf).2; have := hk2 q hq; omega⟩, fun e => by have := hk2 xb e; have := xA.lt; omega⟩, ⟨(bH.block _ (by have := xA.lt; omega)).trans hA, below_then bW1 bH⟩⟩, hWK⟩
    clear hP hM hb1 H1 hK HK bA xA hA bH hk hk2 bW1 hWK hV1 hPA
    have A0 : Hid (∀ z, Below V2.heap.size V2 z → Calls Tryd.prog 5 #[.agg #[.pointer (some ⟨b, 0, none⟩), .pointer (some ⟨r, 0, none⟩)], .pointer (some ⟨hb, 0, none⟩)] z fun e w' => e = .returned (.bool true) ∧ Hid (JaI W K b kb r hb xb sq tr (0 + 66) w')) := fun z hz => (HC.out.1.below hz).all HC.out.2 (by omega)
    have A1 : Hid (∀ z, JaI W K b kb r hb xb sq tr (0 + 66) z → Calls Tryd.prog 6 #[.pointer (some ⟨hb, 0, none⟩)] z fun e w' => e = .returned (.bool true) ∧ Hid (JaI W K b kb r hb xb sq tr (0 + 66) w')) := fun z hz => hz.alone (by omega)
    have A2 : Hid (∀ z, JaI W K b kb r hb xb sq tr (0 + 66) z → Calls Tryd.prog 5 #[.agg #[.pointer (some ⟨b, 0, none⟩), .pointer (some ⟨r, 0, none⟩)], .pointer (some ⟨hb, 0, none⟩)] z fun e w' => e = .returned (.bool true) ∧ Hid (Below W.heap.size W w')) := fun z hz => (hz.all HC.out.2 (by omega)).mono fun e w' ⟨e1, h1⟩ => ⟨e1, h1.out.g.bel⟩
    obtain ⟨x0, x1⟩ := HC.out.1.g.cells
    clear HC
    go_upto_region 5 with fail
    try rw [hhb]
    try rw [hxb]
    clear hV2 c0 hhb hxb
    go_wp2_with (first
      | (go_at_call 5; refine (A0.out _ (by first | exact Below.refl _ _ | exact below_drewN (Below.refl _ _) _)).mono ?_; clear A0; rintro _ w6 ⟨rfl, I1⟩)
      | (go_at_call 6; refine (A1.out _ I1.out).mono ?_; clear A1; rintro _ w7 ⟨rfl, I2⟩; obtain ⟨y0, y1⟩ := I2.out.g.cells)
      | (go_at_call 5; refine (A2.out _ I2.out).mono ?_; clear A2; rintro _ w8 ⟨rfl, H8⟩))
    go_ret
    exact ⟨rfl, H8.out⟩
end
end Go.Proofs.YtoijhecphgdfnaaDoor

/-
  Arguments opened: Picks.
-/
namespace Go.Proofs.YtoijhecphgdfnaaDoor
open Go.ChangeShapes Go.WideShapes Go.ChangeAt Go.RowKit Go.Deep

section
variable {H : Type} {enc : TypeId × Value → H} {W : World} {base : Nat} {spare : Nat → Bool} {held : Bool}
end
end Go.Proofs.YtoijhecphgdfnaaDoor

/-
  Arguments opened: lists of Outs, Made.
-/
namespace Go.Proofs.YtoijhecphgdfnaaDoor
open Go.ChangeShapes Go.WideShapes Go.ChangeAt Go.RowKit Go.Deep

theorem cellsOut : Tryd.prog.cellsOf 48 = 7 := by kernel_rfl
theorem cellsOuts : Tryd.prog.cellsOf 22 = 1 := by kernel_rfl
theorem cellsMade : Tryd.prog.cellsOf 24 = 3 := by kernel_rfl
theorem bytesOut : Tryd.prog.bytesOf 48 = 80 := by kernel_rfl
theorem fiveL {α : Type} {l : List α} (h : l.length = 5) : ∃ c0 c1 c2 c3 c4, l = [c0, c1, c2, c3, c4] := by
  match l, h with
  | [c0, c1, c2, c3, c4], _ => exact ⟨c0, c1, c2, c3, c4, rfl⟩
theorem sevenL {α : Type} {l : List α} (h : l.length = 7) : ∃ c0 c1 c2 c3 c4 c5 c6, l = [c0, c1, c2, c3, c4, c5, c6] := by
  match l, h with
  | [c0, c1, c2, c3, c4, c5, c6], _ => exact ⟨c0, c1, c2, c3, c4, c5, c6, rfl⟩
section
variable {H : Type} {enc : TypeId × Value → H} {W : World} {base : Nat} {spare : Nat → Bool} {held : Bool}
set_option maxRecDepth 100000 in
set_option maxHeartbeats 1000000 in
theorem open_out {n : Nat} {cs : List Value} {x : DataW H × List MemPlace} {b o : Nat} (h : DataW.trod enc Tryd.prog W base spare held n 48 cs = some x) (hc : ∀ j v, cs[j]? = some v → W.cell? ⟨b, o + j, none⟩ = some v) :
    ∃ y : Msg, OutAt W b o y ∧ Plain y := by
  obtain ⟨xs, m, _, hxe, hcl, hlen, hfl⟩ := DataW.trod_struct Tryd.underlying48 h
  obtain ⟨c0, c1, c2, c3, c4, c5, c6, rfl⟩ := sevenL (l := cs) (by rw [hcl, cellsOut])
  obtain ⟨x0, x1, x2, x3, x4, rfl⟩ := fiveL (l := xs) hlen
  have g0 : DataW.trod enc Tryd.prog W base spare held m 9 [c0] = some x0 := by simpa [cellsString] using hfl 0 _ rfl
  have g1 : DataW.trod enc Tryd.prog W base spare held m 44 [c1] = some x1 := by simpa [cellsBytes] using hfl 1 _ rfl
  have g2 : DataW.trod enc Tryd.prog W base spare held m 46 [c2, c3, c4] = some x2 := by simpa [cellsCond] using hfl 2 _ rfl
  have g3 : DataW.trod enc Tryd.prog W base spare held m 3 [c5] = some x3 := by simpa [cellsInt] using hfl 3 _ rfl
  have g4 : DataW.trod enc Tryd.prog W base spare held m 4 [c6] = some x4 := by simpa [cellsBool] using hfl 4 _ rfl
  obtain ⟨ct, rfl, _⟩ := one_string g0
  obtain ⟨po, pl, pc, bs, e2, hB, hpc, _⟩ := open_bytes g1
  obtain rfl := List.head_eq_of_cons_eq e2
  obtain ⟨ys, m3, _, _, _, hlen3, hfl3⟩ := DataW.trod_struct Tryd.underlying46 g2
  obtain ⟨y0, y1, y2, rfl⟩ := three (l := ys) hlen3
  have k0 : DataW.trod enc Tryd.prog W base spare held m3 4 [c2] = some y0 := by simpa [cellsBool] using hfl3 0 _ rfl
  have k1 : DataW.trod enc Tryd.prog W base spare held m3 3 [c3] = some y1 := by simpa [cellsInt] using hfl3 1 _ rfl
  have k2 : DataW.trod enc Tryd.prog W base spare held m3 3 [c4] = some y2 := by simpa [cellsInt] using hfl3 2 _ rfl
  obtain ⟨ee, rfl, _⟩ := one_bool k0
  obtain ⟨aa, rfl, _⟩ := one_int k1
  obtain ⟨pp, rfl, _⟩ := one_int k2
  obtain ⟨nu, rfl, _⟩ := one_int g3
  obtain ⟨nt, rfl, _⟩ := one_bool g4
  exact ⟨⟨ct, po, pl, pc, bs, ee, aa, pp, nu, nt, 0, 0, false⟩, ⟨cell_lt (hc 0 _ rfl), hc 0 _ rfl, hc 1 _ rfl, hc 2 _ rfl, hc 3 _ rfl, hc 4 _ rfl, hc 5 _ rfl, hc 6 _ rfl, hB, hpc⟩, rfl, rfl, rfl⟩
set_option maxRecDepth 100000 in
set_option maxHeartbeats 1000000 in
theorem open_outs {n : Nat} {cs : List Value} {x : DataW H × List MemPlace} (h : DataW.trod enc Tryd.prog W base spare held n 22 cs = some x) :
    ∃ ao cap xs, cs = [.slice ao xs.length cap] ∧ Outs W ao xs ∧ (∀ y ∈ xs, Plain y) ∧ (xs.length = 0 ∨ ∃ el sp, x.1 = .slice el sp ∧ el.length = xs.length) := by
  rcases open_slice Tryd.underlying22 h with ⟨rfl, _⟩ | ⟨a, len, cap, m, n', D, Pl, rfl, _, hl, hm, hmm, hxe, hx⟩
  · exact ⟨none, 0, [], rfl, fun k x hk => (by simp at hk), fun y hy => (by cases hy), Or.inl rfl⟩
  · have hlm : len ≤ m := by rw [hmm]; split <;> omega
    have key : ∀ k, k < len → ∃ y : Msg, (∃ b off, a = ⟨b, off, none⟩ ∧ OutAt W b (off + k * 7) y) ∧ Plain y := by
      have hsp : 0 < len → a.spot = none := fun h0 => by
        obtain ⟨cs', h1, _⟩ := hx 0 (by omega)
        rw [Nat.zero_mul] at h1
        obtain ⟨b, o, e, _⟩ := cells_at h1 (by rw [cellsOut]; decide)
        have : a.add 0 = a := rfl
        rw [this] at e; rw [e]
      intro k hk
      obtain ⟨b, off, sp⟩ := a
      obtain rfl : sp = none := hsp (by omega)
      obtain ⟨cs', h1, h2⟩ := hx k (by omega)
      rw [cellsOut] at h1
      obtain ⟨b', o', e, hc⟩ := cells_at h1 (by decide)
      rw [Addr.add_lit] at e
      obtain ⟨rfl, rfl⟩ : b = b' ∧ off + k * 7 = o' := by simpa using e
      obtain ⟨y, hy, hp⟩ := open_out h2 hc
      exact ⟨y, ⟨b, off, rfl, hy⟩, hp⟩
    haveI : Inhabited Msg := ⟨zM⟩
    obtain ⟨Y, hY⟩ := choose_lt (α := Msg) (p := fun k y => (∃ b off, a = ⟨b, off, none⟩ ∧ OutAt W b (off + k * 7) y) ∧ Plain y) key
    refine ⟨some a, cap, (List.range len).map Y, by simp, fun k x hk => ?_, fun y hy => ?_, Or.inr ⟨_, _, by rw [hxe], by simp⟩⟩
    · simp only [List.getElem?_map, Option.map_eq_some_iff] at hk
      obtain ⟨i, hi, rfl⟩ := hk
      obtain ⟨hi1, hi2⟩ := List.getElem?_eq_some_iff.1 hi
      simp at hi1 hi2
      subst hi2
      obtain ⟨⟨b, off, e, ho⟩, _⟩ := hY k hi1
      exact ⟨b, off, by rw [e], ho⟩
    · obtain ⟨i, hi, rfl⟩ := List.mem_map.1 hy
      exact (hY i (List.mem_range.1 hi)).2
set_option maxRecDepth 100000 in
set_option maxHeartbeats 1000000 in
theorem open_made {r : Reach} {b0 : Nat} {v : Value} {d : DataW H} {p : List MemPlace}
    (hv : Value.okWide Tryd.prog W r b0 24 v) (h : DataW.Trod enc Tryd.prog W base spare held 24 v d p) :
    ∃ ao cap xs sq tr, v = .agg #[.slice ao (List.length xs) cap, .bool sq, .int .i64 tr] ∧ Outs W ao xs ∧ (∀ y ∈ xs, Plain y) ∧ ((∀ n ∈ d.weights Tryd.prog 24, n ≤ reachBytes) → xs.length ≤ 140737488355328) := by
  obtain ⟨cs, rfl, hsz⟩ := okWide_struct Tryd.underlying24 hv
  obtain ⟨l⟩ := cs
  obtain ⟨c0, c1, c2, rfl⟩ := three (l := l) (by simpa [cellsMade] using hsz)
  obtain ⟨fuel, hf⟩ := h
  obtain ⟨xs, n, _, hx, hl, hlen, hfl⟩ := DataW.trod_struct Tryd.underlying24 hf
  obtain ⟨x0, x1, x2, rfl⟩ := three (l := xs) hlen
  have g0 : DataW.trod enc Tryd.prog W base spare held n 22 [c0] = some x0 := by simpa [Value.cells, cellsOuts] using hfl 0 _ rfl
  have g1 : DataW.trod enc Tryd.prog W base spare held n 4 [c1] = some x1 := by simpa [Value.cells, cellsBool] using hfl 1 _ rfl
  have g2 : DataW.trod enc Tryd.prog W base spare held n 3 [c2] = some x2 := by simpa [Value.cells, cellsInt] using hfl 2 _ rfl
  obtain ⟨ao, cap, ys, e0, hO, hP, hW⟩ := open_outs g0
  obtain rfl := List.head_eq_of_cons_eq e0
  obtain ⟨k1, rfl, _⟩ := one_bool g1
  obtain ⟨k2, rfl, _⟩ := one_int g2
  refine ⟨ao, cap, ys, k1, k2, rfl, hO, hP, fun hw => ?_⟩
  rcases hW with h0 | ⟨el, sp, e4, hel⟩
  · omega
  · have hr := reachBytes_lt
    have := hw ((el.length + sp.length) * Tryd.prog.bytesOf 48) (by
      have hd : d = .agg ([x0, x1, x2].map (·.1)) := congrArg Prod.fst hx
      rw [hd]
      simp only [DataW.weights, Tryd.underlying24]
      refine DataW.weights_mem_each (j := 0) (t := 22) (d := x0.1) rfl rfl _ ?_
      rw [e4]
      simp [DataW.weights, Tryd.underlying22])
    rw [bytesOut] at this
    omega
end
end Go.Proofs.YtoijhecphgdfnaaDoor
