import Derived.Test.YthnpckmgnompiaaGreatDoorWApp
import Derived.Test.YthnpckmgnompiaaGreatDoorWShort
import Derived.Test.YthnpckmgnompiaaGreatDoorDkRow
import Derived.Lib.LaidTab
/-
  A list of writes, played: what the disk is then, and whether one was refused.
-/
namespace Go.Proofs.YthnpckmgnompiaaGreatDoor
open Go.RowKit Go.BigFrame

/-- A write of the disk. -/
inductive Dop where
  | cut (ar n : Int)
  | syn (ar : Int)
  | app (ar : Int) (bs : List Int)
def opC (σ : Sg) : Dop → Int
  | .cut ar n => cutC σ ar n
  | .syn ar => synC σ ar
  | .app ar bs => appC σ ar bs.length
def opS (σ : Sg) : Dop → Sg
  | .cut ar n => cutS σ ar n
  | .syn ar => synS σ ar
  | .app ar bs => appS σ ar bs
/-- What the writes leave, and the number of the refusal (0: none). -/
def runS (σ : Sg) : List Dop → Sg × Int
  | [] => (σ, 0)
  | o :: os => if opC σ o = 0 then runS (opS σ o) os else (opS σ o, opC σ o)
/-- A function value that is this write, in this world and in every one that writes of the disk lead to. -/
def StepF (y : World) (B K : Nat) (v0 v1 : Value) (o : Dop) (f : Nat) (caps : Array Value) : Prop :=
  ∀ y' u0 u1 σ, DStep y y' K v0 v1 u0 u1 → DskS y' B K u0 u1 σ → Calls Tryz.prog f caps y' (StepQ y' B K u0 u1 (opS σ o) (opC σ o))
/-- A list of such function values in memory. -/
def StepsAt (y : World) (B K g : Nat) (v0 v1 : Value) (os : List Dop) : Prop :=
  ∀ j o, os[j]? = some o → ∃ f caps, y.cell? ⟨g, j, none⟩ = some (.func (.func f) #[] caps) ∧ Enters Tryz.prog f ∧ StepF y B K v0 v1 o f caps
theorem foot_kept {y y' : World} {K : Nat} {v0 v1 u0 u1 : Value} (s : DStep y y' K v0 v1 u0 u1) {b : Nat} (hb : b < y.heap.size) (hn : ¬ Foot K v0 v1 b) : ¬ Foot K u0 u1 b := fun g => hn (s.foot b hb g)
theorem cell_kept {y y' : World} {K : Nat} {v0 v1 u0 u1 : Value} (s : DStep y y' K v0 v1 u0 u1) {b o : Nat} {u : Value} (hc : y.cell? ⟨b, o, none⟩ = some u) (hn : ¬ Foot K v0 v1 b) : y'.cell? ⟨b, o, none⟩ = some u := (s.off.cell (p := ⟨b, o, none⟩) (cell_lt hc) hn).trans hc
section
variable {y : World} {B K : Nat} {v0 v1 : Value} {σ : Sg} {b1 b2 b3 : Nat} {ar : Int}
theorem stepF_cut {n : Int} (c1 : y.cell? ⟨b1, 0, none⟩ = some (.pointer (some ⟨K, 0, none⟩))) (c2 : y.cell? ⟨b2, 0, none⟩ = some (.int .i64 ar)) (c3 : y.cell? ⟨b3, 0, none⟩ = some (.int .i64 n)) (f1 : ¬ Foot K v0 v1 b1) (f2 : ¬ Foot K v0 v1 b2) (f3 : ¬ Foot K v0 v1 b3) :
    StepF y B K v0 v1 (.cut ar n) 51 #[.pointer (some ⟨b1, 0, none⟩), .pointer (some ⟨b2, 0, none⟩), .pointer (some ⟨b3, 0, none⟩)] := fun _ _ _ _ s d =>
  cutF d (cell_kept s c1 f1) (cell_kept s c2 f2) (cell_kept s c3 f3) (foot_kept s (cell_lt c1) f1) (foot_kept s (cell_lt c2) f2) (foot_kept s (cell_lt c3) f3)
theorem stepF_syn (c1 : y.cell? ⟨b1, 0, none⟩ = some (.pointer (some ⟨K, 0, none⟩))) (c2 : y.cell? ⟨b2, 0, none⟩ = some (.int .i64 ar)) (f1 : ¬ Foot K v0 v1 b1) (f2 : ¬ Foot K v0 v1 b2) :
    StepF y B K v0 v1 (.syn ar) 57 #[.pointer (some ⟨b1, 0, none⟩), .pointer (some ⟨b2, 0, none⟩)] := fun _ _ _ _ s d =>
  syncF d (cell_kept s c1 f1) (cell_kept s c2 f2) (foot_kept s (cell_lt c1) f1) (foot_kept s (cell_lt c2) f2)
theorem runS_drop {os : List Dop} {j : Nat} {o : Dop} (ho : os[j]? = some o) : os.drop j = o :: os.drop (j + 1) := by
  obtain ⟨hl, he⟩ := List.getElem?_eq_some_iff.1 ho
  rw [List.drop_eq_getElem_cons hl, he]
theorem play_disk {g cap : Nat} {os : List Dop} (h : DskS y B K v0 v1 σ) (hs : StepsAt y B K g v0 v1 os) (hg : ¬ Foot K v0 v1 g) (hn : os.length ≤ 1048576) :
    Calls Tryz.prog 16 #[.slice (some ⟨g, 0, none⟩) os.length cap] y fun e y' => ∃ ev u0 u1, e = .returned ev ∧ DskS y' B K u0 u1 (runS σ os).1 ∧ DStep y y' K v0 v1 u0 u1 ∧ (((runS σ os).2 = 0 ∧ ev = .nilIface) ∨ ((runS σ os).2 ≠ 0 ∧ ∃ b b', ev = .iface 86 (.pointer (some ⟨b, 0, none⟩)) ∧ y'.cell? ⟨b, 0, none⟩ = some (.string ⟨#[119, 97, 108]⟩) ∧ y'.cell? ⟨b, 1, none⟩ = some (.int .i64 0) ∧ y'.cell? ⟨b, 2, none⟩ = some (.int .i64 63) ∧ y'.cell? ⟨b, 3, none⟩ = some (.iface 86 (.pointer (some ⟨b', 0, none⟩))) ∧ FaultAt y' b' 0 (runS σ os).2 ∧ y.heap.size ≤ b ∧ y.heap.size ≤ b')) := by
  refine (play_any (I := fun j z => ∃ u0 u1 τ, DskS z B K u0 u1 τ ∧ DStep y z K v0 v1 u0 u1 ∧ runS σ os = runS τ (os.drop j)) (F := fun _ b z => ∃ u0 u1, DskS z B K u0 u1 (runS σ os).1 ∧ DStep y z K v0 v1 u0 u1 ∧ (runS σ os).2 ≠ 0 ∧ FaultAt z b 0 (runS σ os).2 ∧ y.heap.size ≤ b) ?_ hn ⟨v0, v1, σ, h, DStep.refl _ _ _ _, by simp⟩).mono ?_
  · rintro j z hj ⟨u0, u1, τ, hd, hst, hr⟩
    obtain ⟨o, ho⟩ : ∃ o, os[j]? = some o := ⟨_, List.getElem?_eq_getElem hj⟩
    obtain ⟨f, caps, hc, hen, hf⟩ := hs j o ho
    refine ⟨f, caps, cell_kept hst hc hg, hen, (hf z u0 u1 τ hst hd).mono ?_⟩
    rintro e z' ⟨ev, w0, w1, rfl, hv, hd', hst'⟩
    rw [runS_drop ho] at hr
    rcases hv with ⟨rfl, h0⟩ | ⟨b, rfl, hF, h0, hb⟩
    · refine Or.inl ⟨rfl, w0, w1, _, hd', hst.trans hst', ?_⟩
      rw [hr, runS, if_pos h0]
    · have h0' : opC τ o ≠ 0 := by simpa using h0
      have e1 : runS σ os = (opS τ o, opC τ o) := by rw [hr, runS, if_neg h0']
      refine Or.inr ⟨b, rfl, w0, w1, ?_, hst.trans hst', ?_, ?_, Nat.le_trans hst.off.size hb⟩
      · rw [e1]; exact hd'
      · rw [e1]; exact h0'
      · rw [e1]; exact hF
  · rintro e z (⟨rfl, u0, u1, τ, hd, hst, hr⟩ | ⟨j, b, z0, _, ⟨u0, u1, hd, hst, h0, hF, hb⟩, rfl, rfl⟩)
    · rw [List.drop_length] at hr
      have e1 : runS σ os = (τ, 0) := by rw [hr, runS]
      refine ⟨_, u0, u1, rfl, by rw [e1]; exact hd, hst, Or.inl ⟨by rw [e1], rfl⟩⟩
    · have hbl : Below z0.heap.size z0 (z0.alloc (.cells #[.string ⟨#[119, 97, 108]⟩, .int .i64 0, .int .i64 63, .iface 86 (.pointer (some ⟨b, 0, none⟩))] 90)) := (Below.refl _ _).alloc (Nat.le_refl _) _
      refine ⟨_, u0, u1, rfl, hd.off (P := fun _ => False) (Off.of_below hbl) (fun _ _ => id), hst.trans (DStep.of_below K u0 u1 hbl), Or.inr ⟨h0, z0.heap.size, b, rfl, by simp, by simp, by simp, by simp, hF.off (P := fun _ => False) (Off.of_below hbl) id, hst.off.size, hb⟩⟩
end
end Go.Proofs.YthnpckmgnompiaaGreatDoor

/-
  The law WalSizes, walked.
-/
namespace Go.Proofs.YthnpckmgnompiaaGreatDoor
open Go.RowKit Go.BigFrame

/-- Bools that came in. -/
def Bos (w : World) (ao : Option Addr) (xs : List Bool) : Prop := ∀ k y, xs[k]? = some y → ∃ b off, ao = some ⟨b, off, none⟩ ∧ b < w.heap.size ∧ w.cell? ⟨b, off + k, none⟩ = some (.bool y)
/-- A log of generation 1 with a disk that takes every write, named by a block r. -/
structure SzI (w : World) (r K L : Nat) (n wt by_ : Int) (wx : World) : Prop where
  lg : ∃ v0 v1 σ, Lg wx w.heap.size K L v0 v1 σ false 1 1 n wt by_ ∧ σ.dead = false ∧ σ.fuse = -1 ∧ (σ.x1.length : Int) = by_ ∧ ¬ Foot K v0 v1 r
  bl : Below w.heap.size w wx
  rl : wx.cell? ⟨r, 1, none⟩ = some (.pointer (some ⟨L, 0, none⟩))
  rn : r ≠ L
  rg : w.heap.size ≤ r
/-- What begin answers. -/
def BeginQ (w : World) (e : Ending) (w' : World) : Prop := ∃ r K L, e = .returned (.tuple #[.pointer (some ⟨r, 0, none⟩), .bool true]) ∧ SzI w r K L 0 0 30 w'
section
variable {w wx w' : World} {r K L : Nat} {n wt by_ : Int}
theorem SzI.below (h : SzI w r K L n wt by_ wx) (hb : Below wx.heap.size wx w') : SzI w r K L n wt by_ w' := by
  obtain ⟨v0, v1, σ, hl, h1, h2, h3, h4⟩ := h.lg
  exact ⟨⟨v0, v1, σ, hl.below hb, h1, h2, h3, h4⟩, below_then h.bl hb, (hb.cell (p := ⟨r, 1, none⟩) (cell_lt h.rl)).trans h.rl, h.rn, h.rg⟩
theorem SzI.step {v0 v1 u0 u1 : Value} {σ τ : Sg} {n' wt' by' : Int} (h : SzI w r K L n wt by_ wx) (hl : Lg wx w.heap.size K L v0 v1 σ false 1 1 n wt by_) (hf : ¬ Foot K v0 v1 r) (hs : LStep wx w' K L v0 v1 u0 u1) (hl' : Lg w' w.heap.size K L u0 u1 τ false 1 1 n' wt' by') (h1 : τ.dead = false) (h2 : τ.fuse = -1) (h3 : (τ.x1.length : Int) = by') : SzI w r K L n' wt' by' w' := by
  have hr : r < wx.heap.size := cell_lt h.rl
  have hn : ¬ (Foot K v0 v1 r ∨ r = L) := fun g => g.elim hf h.rn
  refine ⟨⟨u0, u1, τ, hl', h1, h2, h3, fun g => hf (hs.foot r hr g)⟩, h.bl.trans (hs.off.below h.bl.size (fun k g => ?_)), (hs.off.cell (p := ⟨r, 1, none⟩) hr hn).trans h.rl, h.rn, h.rg⟩
  rcases g with g | rfl
  · exact (hl.d.foot_lt g).1
  · exact hl.ge
theorem goes_of {σ : Sg} (h1 : σ.dead = false) (h2 : σ.fuse = -1) : σ.goes = true := (goes_iff σ).2 ⟨h1, by omega⟩
theorem app_good {σ : Sg} {m : Nat} (h1 : σ.dead = false) (h2 : σ.fuse = -1) (h3 : σ.x1.length + m ≤ 16777216) : appC σ 1 m = 0 := by
  unfold appC; simp only [if_neg (show ¬ (1 : Int) = 0 by decide), if_true, goes_of h1 h2, if_neg (show ¬ 16777216 < σ.x1.length + m by omega)]
theorem app_sg {σ : Sg} {bs : List Int} (h1 : σ.dead = false) (h2 : σ.fuse = -1) (h3 : σ.x1.length + bs.length ≤ 16777216) : (appS σ 1 bs).dead = false ∧ (appS σ 1 bs).fuse = -1 ∧ (appS σ 1 bs).x1.length = σ.x1.length + bs.length := by
  unfold appS; simp only [if_neg (show ¬ (1 : Int) = 0 by decide), if_true, goes_of h1 h2, if_neg (show ¬ 16777216 < σ.x1.length + bs.length by omega)]
  refine ⟨h1, ?_, by simp⟩
  show leftOn σ.fuse = -1
  unfold leftOn; rw [h2]; rfl
theorem syn_good {σ : Sg} (h1 : σ.dead = false) (h2 : σ.fuse = -1) : synC σ 1 = 0 := by
  unfold synC; simp [goes_of h1 h2]
theorem syn_sg {σ : Sg} (h1 : σ.dead = false) (h2 : σ.fuse = -1) : (synS σ 1).dead = false ∧ (synS σ 1).fuse = -1 ∧ (synS σ 1).x1.length = σ.x1.length := by
  unfold synS; simp only [if_neg (show ¬ (1 : Int) = 0 by decide), if_true, goes_of h1 h2]
  refine ⟨h1, ?_, rfl⟩
  show leftOn σ.fuse = -1
  unfold leftOn; rw [h2]; rfl
/-- Append of a record that may be, of one that may not; Sync; Stat. -/
theorem sz_append {po : Option Addr} {m c : Nat} {bs : List Int} (h : SzI w r K L n wt by_ wx) (hb : Byts wx po m bs) (hpo : po = none → c = 0) (hH : Halves wx) (hm0 : 0 < m) (hm1 : m ≤ 20000) (hy0 : 0 ≤ by_) (hy1 : by_ + (m + 13) ≤ 16777216) (hr0 : 0 ≤ n) (hr1 : n ≤ 1099511627776) (ht0 : 0 ≤ wt) (ht1 : wt ≤ 1099511627776) :
    Calls Tryz.prog 8 #[.pointer (some ⟨L, 0, none⟩), .slice po m c] wx fun e w' => e = .returned .nilIface ∧ SzI w r K L (n + 1) (wt + 1) (by_ + (m + 13)) w' := by
  obtain ⟨v0, v1, σ, hl, h1, h2, h3, h4⟩ := h.lg
  have hlen : bs.length = m := hb.len
  refine (lAppend_go hl hb hpo hH hm0 hm1 hy0 hy1 hr0 hr1 ht0 ht1).mono ?_
  rintro e w' ⟨u0, u1, hs, ⟨_, he, hl'⟩ | ⟨hc, _⟩⟩
  · obtain ⟨e1, e2, e3⟩ := app_sg (bs := recB bs) h1 h2 (by rw [recB_len]; omega)
    exact ⟨he, h.step hl h4 hs hl' e1 e2 (by rw [e3, recB_len]; omega)⟩
  · exact absurd (app_good h1 h2 (by omega)) hc
theorem sz_bad {po : Option Addr} {m c : Nat} (h : SzI w r K L n wt by_ wx) (hm : m = 0 ∨ 20000 < m) :
    Calls Tryz.prog 8 #[.pointer (some ⟨L, 0, none⟩), .slice po m c] wx fun e w' => ∃ b, e = .returned (.iface 86 (.pointer (some ⟨b, 0, none⟩))) ∧ SzI w r K L n wt by_ w' := by
  obtain ⟨v0, v1, σ, hl, h1, h2, h3, h4⟩ := h.lg
  refine (lAppend_bad hl hm).mono ?_
  rintro e w' ⟨v, rfl, b, rfl, _, hb⟩
  exact ⟨b, rfl, h.below hb⟩
end
end Go.Proofs.YthnpckmgnompiaaGreatDoor

/-
  Arguments opened: lists of byte strings, lists of bools; the table of the sum.
-/
namespace Go.Proofs.YthnpckmgnompiaaGreatDoor
open Go.ChangeShapes Go.WideShapes Go.ChangeAt Go.RowKit Go.Deep

theorem gHalves : Tryz.prog.globalNamed "courier/wal.halves" = some 1 := by kernel_rfl
theorem tHalves : (Tryz.prog.globals[1]?).map (·.type) = some 219 := by kernel_rfl
theorem cellsU32 : Tryz.prog.cellsOf 195 = 1 := by kernel_rfl
theorem cellsHalves : Tryz.prog.cellsOf 219 = 16 := by kernel_rfl
theorem cellsBytes1 : Tryz.prog.cellsOf 22 = 1 := by kernel_rfl
theorem cellsBool1 : Tryz.prog.cellsOf 4 = 1 := by kernel_rfl
theorem halves_of {W : World} {rest : List (String × DataW Unit)} (h : laidMet Tryz.prog (("courier/wal.halves", Rows.laid_courier_wal_halves) :: rest) W) : Halves W := by
  have ht : Lib.TabIs Tryz.prog W "courier/wal.halves" .u32 halvesTab :=
    Lib.tabIs_of_head (rest := rest) gHalves tHalves Tryz.underlying219 Tryz.underlying195 cellsU32 cellsHalves h
  intro j hj
  rcases (by omega : j = 0 ∨ j = 1 ∨ j = 2 ∨ j = 3 ∨ j = 4 ∨ j = 5 ∨ j = 6 ∨ j = 7 ∨ j = 8 ∨ j = 9 ∨ j = 10 ∨ j = 11 ∨ j = 12 ∨ j = 13 ∨ j = 14 ∨ j = 15) with rfl | rfl | rfl | rfl | rfl | rfl | rfl | rfl | rfl | rfl | rfl | rfl | rfl | rfl | rfl | rfl
  all_goals exact ht.cell gHalves _ (by decide)
theorem weights_mem_all {H : Type} {P : Program} {e : TypeId} : ∀ {ds : List (DataW H)} {d : DataW H}, d ∈ ds → ∀ n ∈ d.weights P e, n ∈ DataW.weightsAll P e ds
  | d0 :: ds, d, hd, n, hn => by
    simp only [DataW.weightsAll, List.mem_append]
    rcases List.mem_cons.1 hd with rfl | h
    · exact Or.inl hn
    · exact Or.inr (weights_mem_all h n hn)
section
variable {H : Type} {enc : TypeId × Value → H} {W : World} {base : Nat} {spare : Nat → Bool} {held : Bool}
theorem open_lists {n : Nat} {cs : List Value} {x : DataW H × List MemPlace} (h : DataW.trod enc Tryz.prog W base spare held n 23 cs = some x) :
    ∃ ao cap xs, cs = [.slice ao xs.length cap] ∧ Bls W ao xs ∧ xs.length ≤ maxLen ∧ ∀ y ∈ xs, (y.po = none → y.pc = 0) ∧ ((∀ n ∈ x.1.weights Tryz.prog 23, n ≤ reachBytes) → y.pl ≤ 140737488355328) := by
  rcases open_slice1 Tryz.underlying23 cellsBytes1 h with ⟨rfl, _⟩ | ⟨a, len, cap, m, n', V, D, Pl, rfl, _, hl, hm, hmm, hxe, hx⟩
  · exact ⟨none, 0, [], rfl, fun k x hk => (by simp at hk), Nat.zero_le _, fun y hy => (by cases hy)⟩
  · have hlm : len ≤ m := by rw [hmm]; split <;> omega
    have key : ∀ k, k < len → ∃ y : Blv, (∃ b off, a = ⟨b, off, none⟩ ∧ b < W.heap.size ∧ W.cell? ⟨b, off + k, none⟩ = some (.slice y.po y.pl y.pc) ∧ Byts W y.po y.pl y.bs) ∧ (y.po = none → y.pc = 0) ∧ ((∀ n ∈ (D k).weights Tryz.prog 22, n ≤ reachBytes) → y.pl ≤ 140737488355328) := by
      intro k hk
      obtain ⟨h1, h2⟩ := hx k (by omega)
      obtain ⟨b, off, sp⟩ := a
      have hs : sp = none := by
        have h0 := (hx 0 (by omega)).1
        simpa [Addr.add] using World.cell?_spot h0
      subst hs
      rw [Addr.add_lit] at h1
      obtain ⟨po, pl, pc, bs, e4, hB, hpl, hpc, _, hw4, _⟩ := open_bytes h2
      have e5 : V k = .slice po pl pc := by simpa using e4
      rw [e5] at h1
      refine ⟨⟨po, pl, pc, bs⟩, ⟨b, off, rfl, cell_lt h1, h1, hB⟩, hpc, fun hw => ?_⟩
      rcases hw4 with h0 | ⟨el, sp, e4, hel⟩
      · show pl ≤ _
        omega
      · show pl ≤ _
        have hr : reachBytes = 140737488351232 := rfl
        have e6 : D k = .slice el sp := e4
        have := hw ((el.length + sp.length) * Tryz.prog.bytesOf 5) (by
          rw [e6]
          simp [DataW.weights, Tryz.underlying22])
        rw [bytesU8] at this
        omega
    haveI : Inhabited Blv := ⟨⟨none, 0, 0, []⟩⟩
    obtain ⟨Y, hY⟩ := choose_lt (α := Blv) (p := fun k y => (∃ b off, a = ⟨b, off, none⟩ ∧ b < W.heap.size ∧ W.cell? ⟨b, off + k, none⟩ = some (.slice y.po y.pl y.pc) ∧ Byts W y.po y.pl y.bs) ∧ (y.po = none → y.pc = 0) ∧ ((∀ n ∈ (D k).weights Tryz.prog 22, n ≤ reachBytes) → y.pl ≤ 140737488355328)) key
    refine ⟨some a, cap, (List.range len).map Y, by simp, fun k x hk => ?_, by simp; omega, fun y hy => ?_⟩
    · simp only [List.getElem?_map, Option.map_eq_some_iff] at hk
      obtain ⟨i, hi, rfl⟩ := hk
      obtain ⟨hi1, hi2⟩ := List.getElem?_eq_some_iff.1 hi
      simp at hi1 hi2
      subst hi2
      obtain ⟨⟨b, off, e, ho⟩, _⟩ := hY k hi1
      exact ⟨b, off, by rw [e], ho⟩
    · obtain ⟨i, hi, rfl⟩ := List.mem_map.1 hy
      have hy2 := (hY i (List.mem_range.1 hi)).2
      refine ⟨hy2.1, fun hw => hy2.2 fun n hn => hw n ?_⟩
      rw [hxe]
      simp only [DataW.weights, Tryz.underlying23]
      exact List.mem_cons_of_mem _ (List.mem_append_left _ (weights_mem_all (List.mem_map_of_mem hi) n hn))
end
end Go.Proofs.YthnpckmgnompiaaGreatDoor

/-
  An opening of [][]byte that tells that the bytes are bytes.
-/
namespace Go.Proofs.YthnpckmgnompiaaGreatDoor
open Go.ChangeShapes Go.WideShapes Go.ChangeAt Go.RowKit Go.Deep

section
variable {H : Type} {enc : TypeId × Value → H} {W : World} {base : Nat} {spare : Nat → Bool} {held : Bool}
theorem open_lists2 {n : Nat} {cs : List Value} {x : DataW H × List MemPlace} (h : DataW.trod enc Tryz.prog W base spare held n 23 cs = some x) :
    ∃ ao cap xs, cs = [.slice ao xs.length cap] ∧ Bls W ao xs ∧ xs.length ≤ maxLen ∧ ∀ y ∈ xs, (y.po = none → y.pc = 0) ∧ ((∀ n ∈ x.1.weights Tryz.prog 23, n ≤ reachBytes) → y.pl ≤ 140737488355328) ∧ ∀ z ∈ y.bs, 0 ≤ z ∧ z ≤ 255 := by
  rcases open_slice1 Tryz.underlying23 cellsBytes1 h with ⟨rfl, _⟩ | ⟨a, len, cap, m, n', V, D, Pl, rfl, _, hl, hm, hmm, hxe, hx⟩
  · exact ⟨none, 0, [], rfl, fun k x hk => (by simp at hk), Nat.zero_le _, fun y hy => (by cases hy)⟩
  · have hlm : len ≤ m := by rw [hmm]; split <;> omega
    have key : ∀ k, k < len → ∃ y : Blv, (∃ b off, a = ⟨b, off, none⟩ ∧ b < W.heap.size ∧ W.cell? ⟨b, off + k, none⟩ = some (.slice y.po y.pl y.pc) ∧ Byts W y.po y.pl y.bs) ∧ (y.po = none → y.pc = 0) ∧ ((∀ n ∈ (D k).weights Tryz.prog 22, n ≤ reachBytes) → y.pl ≤ 140737488355328) ∧ ∀ z ∈ y.bs, 0 ≤ z ∧ z ≤ 255 := by
      intro k hk
      obtain ⟨h1, h2⟩ := hx k (by omega)
      obtain ⟨b, off, sp⟩ := a
      have hs : sp = none := by
        have h0 := (hx 0 (by omega)).1
        simpa [Addr.add] using World.cell?_spot h0
      subst hs
      rw [Addr.add_lit] at h1
      obtain ⟨po, pl, pc, bs, e4, hB, hpl, hpc, _, hw4, hrr⟩ := open_bytes h2
      have e5 : V k = .slice po pl pc := by simpa using e4
      rw [e5] at h1
      refine ⟨⟨po, pl, pc, bs⟩, ⟨b, off, rfl, cell_lt h1, h1, hB⟩, hpc, fun hw => ?_, hrr⟩
      rcases hw4 with h0 | ⟨el, sp, e4, hel⟩
      · show pl ≤ _
        omega
      · show pl ≤ _
        have hr : reachBytes = 140737488351232 := rfl
        have e6 : D k = .slice el sp := e4
        have := hw ((el.length + sp.length) * Tryz.prog.bytesOf 5) (by
          rw [e6]
          simp [DataW.weights, Tryz.underlying22])
        rw [bytesU8] at this
        omega
    haveI : Inhabited Blv := ⟨⟨none, 0, 0, []⟩⟩
    obtain ⟨Y, hY⟩ := choose_lt (α := Blv) (p := fun k y => (∃ b off, a = ⟨b, off, none⟩ ∧ b < W.heap.size ∧ W.cell? ⟨b, off + k, none⟩ = some (.slice y.po y.pl y.pc) ∧ Byts W y.po y.pl y.bs) ∧ (y.po = none → y.pc = 0) ∧ ((∀ n ∈ (D k).weights Tryz.prog 22, n ≤ reachBytes) → y.pl ≤ 140737488355328) ∧ ∀ z ∈ y.bs, 0 ≤ z ∧ z ≤ 255) key
    refine ⟨some a, cap, (List.range len).map Y, by simp, fun k x hk => ?_, by simp; omega, fun y hy => ?_⟩
    · simp only [List.getElem?_map, Option.map_eq_some_iff] at hk
      obtain ⟨i, hi, rfl⟩ := hk
      obtain ⟨hi1, hi2⟩ := List.getElem?_eq_some_iff.1 hi
      simp at hi1 hi2
      subst hi2
      obtain ⟨⟨b, off, e, ho⟩, _⟩ := hY k hi1
      exact ⟨b, off, by rw [e], ho⟩
    · obtain ⟨i, hi, rfl⟩ := List.mem_map.1 hy
      have hy2 := (hY i (List.mem_range.1 hi)).2
      refine ⟨hy2.1, fun hw => hy2.2.1 fun n hn => hw n ?_, hy2.2.2⟩
      rw [hxe]
      simp only [DataW.weights, Tryz.underlying23]
      exact List.mem_cons_of_mem _ (List.mem_append_left _ (weights_mem_all (List.mem_map_of_mem hi) n hn))
end
end Go.Proofs.YthnpckmgnompiaaGreatDoor
