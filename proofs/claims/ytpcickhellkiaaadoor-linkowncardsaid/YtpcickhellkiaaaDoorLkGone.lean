/-
  The document's link: gone (a piece is taken out).
-/
import Derived.Test.YtpcickhellkiaaaDoorLkRef
namespace Go.Proofs.YtpcickhellkiaaaDoor
open Go.RowKit

theorem era_snoc {α : Type} {l : List α} {i k : Nat} {x : α} (hx : l[i]? = some x) : (l.take (i + 1)).eraseIdx k = if i = k then (l.take i).eraseIdx k else (l.take i).eraseIdx k ++ [x] := by
  have hi := (List.getElem?_eq_some_iff.1 hx).1
  have hl : (l.take i).length = i := by rw [List.length_take]; omega
  have e : l.take (i + 1) = l.take i ++ [x] := by
    obtain ⟨hi', rfl⟩ := List.getElem?_eq_some_iff.1 hx
    exact List.take_succ_eq_append_getElem hi'
  rw [e]
  by_cases h1 : i = k
  · subst h1
    rw [if_pos rfl, List.eraseIdx_append_of_length_le (by omega), hl, Nat.sub_self, List.eraseIdx_of_length_le (l := l.take i) (by omega)]
    simp
  · rw [if_neg h1]
    by_cases h2 : i < k
    · rw [List.eraseIdx_of_length_le (by simp; omega), List.eraseIdx_of_length_le (by omega)]
    · rw [List.eraseIdx_append_of_lt_length (by omega)]
/-- The new list is stored, then the broken place. -/
theorem gone_end {w wr : World} {rb o : Nat} {cs : Array Value} {z : Wy} (h : WAt w rb o cs z) {k : Nat} {a4 : Option Addr} {n4 c4 : Nat} (hr : PcRow wr w.heap.size (.slice a4 n4 c4) (z.ps.eraseIdx k)) (hb : Below w.heap.size w wr) (h' : Int) :
    wr.cell? ⟨rb, o, none⟩ = some (.slice z.a z.n z.c) ∧ wr.frozen? ⟨rb, o, none⟩ = false ∧ wr.cell? ⟨rb, o + 1, none⟩ = some (.int .i64 z.h) ∧ wr.frozen? ⟨rb, o + 1, none⟩ = false ∧
      WQ w rb o cs z ⟨a4, n4, c4, z.ps.eraseIdx k, h'⟩ ((wr.setCell ⟨rb, o, none⟩ (.slice a4 n4 c4)).setCell ⟨rb, o + 1, none⟩ (.int .i64 h')) ∧ WQ w rb o cs z ⟨a4, n4, c4, z.ps.eraseIdx k, z.h⟩ (wr.setCell ⟨rb, o, none⟩ (.slice a4 n4 c4)) := by
  have h1 := h.below hb
  have hrl := blk_lt h.blk
  have hs := hb.size
  have e1 : (cs.set! o (.slice a4 n4 c4)).set! (o + 1) (.int .i64 z.h) = cs.set! o (.slice a4 n4 c4) := set_same (by rw [Array.set!_eq_setIfInBounds, Array.getElem?_setIfInBounds_ne (by omega)]; exact h.c1)
  have b1 := set_heap h1.blk o (.slice a4 n4 c4)
  have o1 : Off (fun q => q = rb) wr (wr.setCell ⟨rb, o, none⟩ (.slice a4 n4 c4)) := Off.setCell (P := fun q => q = rb) (Off.refl _ _) (p := ⟨rb, o, none⟩) rfl _
  have o2 : Off (fun q => q = rb) wr ((wr.setCell ⟨rb, o, none⟩ (.slice a4 n4 c4)).setCell ⟨rb, o + 1, none⟩ (.int .i64 h')) := Off.setCell (P := fun q => q = rb) o1 (p := ⟨rb, o + 1, none⟩) rfl _
  have ow : ∀ W, Off (fun q => q = rb) wr W → Off (fun q => q = rb ∨ wyOwn z = some q) w W := fun W oo => (Off.of_below hb).trans (oo.mono fun q e => Or.inl e)
  have key : ∀ W hh, Off (fun q => q = rb) wr W → WyOk W (rb + 1) ⟨a4, n4, c4, z.ps.eraseIdx k, hh⟩ := fun W hh oo => by
    refine ⟨ERow.base (ERow.off hr oo fun g hg e => ?_) (by omega), fun p hp => ((h1.ok.pcs p (List.mem_of_mem_eraseIdx hp)).off oo fun q cs' hq e => ?_), ?_⟩
    · have := (ERow.lt hr hg).1; omega
    · rw [e, h1.blk] at hq
      simp at hq
    · exact Nat.le_trans (List.length_eraseIdx_le _ _) h.ok.len
  have nw : ∀ hh g, wyOwn ⟨a4, n4, c4, z.ps.eraseIdx k, hh⟩ = some g → wyOwn z = some g ∨ w.heap.size ≤ g := fun hh g hg => Or.inr (ERow.lt hr hg).1
  refine ⟨(hcell h1.blk o).trans h.c0, hfroz h1.blk o, (hcell h1.blk _).trans h.c1, hfroz h1.blk _, ⟨?_, key _ _ o2, ow _ o2, nw _, fun p hp => Or.inl (List.mem_of_mem_eraseIdx hp)⟩, ?_, key _ _ o1, ow _ o1, nw _, fun p hp => Or.inl (List.mem_of_mem_eraseIdx hp)⟩
  · exact set_heap b1 (o + 1) _
  · rw [e1]; exact b1
set_option maxRecDepth 100000 in
set_option maxHeartbeats 4000000 in
theorem rgone_ok {w : World} {rb o : Nat} {cs : Array Value} {z : Wy} (h : WAt w rb o cs z) {k : Nat} (hk : k < z.ps.length) (hz : z.h ≤ 256) : Calls Tryd.prog 72 #[.pointer (some ⟨rb, o, none⟩), .int .i64 (k : Int)] w fun e w' => e = .returned (.tuple #[]) ∧ Hid (∃ a n c, WQ w rb o cs z ⟨a, n, c, z.ps.eraseIdx k, goneH z.h k⟩ w') := by
  have HW : Hid (WAt w rb o cs z ∧ z.n = z.ps.length ∧ z.ps.length ≤ 256) := ⟨h, h.ok.row.len, h.ok.len⟩
  obtain ⟨za, zn, zc, zp, zh⟩ := z
  have hn6 : zn ≤ 256 := by have := HW.out.2; simp only at this; omega
  have hk6 : k < 256 := by have := HW.out.2.2; simp only at this hk; omega
  simp only at hz
  clear h hk
  go_enter Tryd.func72, Tryd.ntmps72
  go_wp2_with fail
  go_loopw [4, 5] (fun t4 t5 wx => ∃ i : Nat, i ≤ zn ∧ t5 = .int .i64 i ∧ Hid (PcRow wx w.heap.size t4 ((zp.take i).eraseIdx k) ∧ Below w.heap.size w wx)) (fun _ t5 _ => zn - (intOf t5).toNat)
  case atStart => exact ⟨0, Nat.zero_le _, rfl, by simpa using ERow.nil _ _ _ _ _, Below.refl _ _⟩
  case round =>
    obtain ⟨i, hi, rfl, HI⟩ := hrel
    have h1 := HW.out.1.below HI.out.2
    have d0 : wr.cell? ⟨rb, o, none⟩ = some (.slice za zn zc) := (hcell h1.blk o).trans h1.c0
    by_cases hlt : i < zn
    · have hlt1 : (i : Int) < zn := by omega
      obtain ⟨p, hp⟩ : ∃ p, zp[i]? = some p := ⟨_, List.getElem?_eq_getElem (by have : zn = zp.length := HW.out.2.1; omega)⟩
      obtain ⟨g, eg, hg, hc⟩ := ERow.at_ encPc_len h1.ok.row hp
      simp only at eg
      subst eg
      have d1 := hc 0 (by decide)
      simp only [encPc, List.getElem?_cons_zero, Nat.mul_one, Nat.add_zero] at d1
      have HT := era_snoc (k := k) hp
      clear hc hg h1
      by_cases hik : i = k
      · have hik1 : ((i : Int) != (k : Int)) = false := by simp; omega
        have HI2 : Hid (PcRow wr w.heap.size u4 ((zp.take (i + 1)).eraseIdx k) ∧ Below w.heap.size w wr) := by
          rw [if_pos hik] at HT
          exact ⟨by rw [HT]; exact HI.out.1, HI.out.2⟩
        clear HT HI hp hik
        go_wp2_with fail
        go_roundw
        case rel => exact ⟨i + 1, hlt, by go_num, HI2⟩
        case measure => simp [intOf]; omega
      · have hik1 : ((i : Int) != (k : Int)) = true := by simp; omega
        rw [if_neg hik] at HT
        obtain ⟨a3, c3, e3, _⟩ := ERow.isSlice HI.out.1
        have hol : ((zp.take i).eraseIdx k).length ≤ 256 := Nat.le_trans (List.length_eraseIdx_le _ _) (by have : zp.length ≤ 256 := HW.out.2.2; rw [List.length_take]; omega)
        obtain ⟨a2, c2, W2, hap, r2, o2, _⟩ := run_epush (P := Tryd.prog) (t := 22) Tryd.underlying22 celPc encPc_len encPc_one (w := wr) HI.out.1 p #[.slice p.a p.n p.c] rfl (by omega) (by decide) HI.out.2.size
        have HI2 : Hid (PcRow W2 w.heap.size (.slice a2 (((zp.take i).eraseIdx k).length + 1) c2) ((zp.take (i + 1)).eraseIdx k) ∧ Below w.heap.size w W2) := by
          refine ⟨by rw [HT]; exact r2, HI.out.2.trans (o2.below HI.out.2.size fun q hq => (ERow.lt HI.out.1 hq).1)⟩
        rw [e3] at hap ⊢
        clear e3 r2 o2 HT HI hp hik hol
        go_wp2_with (at_builtin; refine wpList_append_run rfl (.tmp 18) (.tmp 26) 22 _ rfl hap ?_)
        go_roundw
        case rel => exact ⟨i + 1, hlt, by go_num, HI2⟩
        case measure => simp [intOf]; omega
    · have hlt1 : ¬ (i : Int) < zn := by omega
      obtain ⟨a4, c4, e4, _⟩ := ERow.isSlice HI.out.1
      have hr4 := HI.out.1
      rw [List.take_of_length_le (by have : zn = zp.length := HW.out.2.1; omega)] at hr4 e4
      have HZ := fun h' => gone_end HW.out.1 (k := k) (by rw [e4] at hr4; exact hr4) HI.out.2 h'
      obtain ⟨_, f0, d1, f1, _, _⟩ := HZ 0
      have HE : Hid (∀ h', WQ w rb o cs ⟨za, zn, zc, zp, zh⟩ ⟨a4, (zp.eraseIdx k).length, c4, zp.eraseIdx k, h'⟩ ((wr.setCell ⟨rb, o, none⟩ (.slice a4 (zp.eraseIdx k).length c4)).setCell ⟨rb, o + 1, none⟩ (.int .i64 h'))) := fun h' => (HZ h').2.2.2.2.1
      have HE2 : Hid (WQ w rb o cs ⟨za, zn, zc, zp, zh⟩ ⟨a4, (zp.eraseIdx k).length, c4, zp.eraseIdx k, zh⟩ (wr.setCell ⟨rb, o, none⟩ (.slice a4 (zp.eraseIdx k).length c4))) := (HZ 0).2.2.2.2.2
      subst e4
      simp only at d1
      clear HZ HI hr4 h1
      by_cases g1 : zh = k
      · subst g1
        go_wp2_with fail
        go_end0
        exact ⟨rfl, _, _, _, by unfold goneH; rw [if_pos rfl]; exact HE.out (-1)⟩
      · have g1' : (zh == (k : Int)) = false := by simp; exact g1
        by_cases g2 : (k : Int) < zh
        · have g2' : zh > (k : Int) := g2
          go_wp2_with fail
          go_end0
          exact ⟨rfl, _, _, _, by unfold goneH; rw [if_neg g1, if_pos g2]; exact HE.out (zh - 1)⟩
        · have g2' : ¬ zh > (k : Int) := g2
          have g3 := g2
          go_wp2_with fail
          go_end0
          exact ⟨rfl, _, _, _, by unfold goneH; rw [if_neg g1, if_neg (by omega)]; exact HE2.out⟩
end Go.Proofs.YtpcickhellkiaaaDoor
