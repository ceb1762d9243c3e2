/-
  The law WalSizes, walked.
-/
import Derived.Test.YtfkcnnjkflomkaaDoorWShort
import Derived.Test.YtfkcnnjkflomkaaDoorWApp
import Derived.Test.YtfkcnnjkflomkaaDoorWRun
namespace Go.Proofs.YtfkcnnjkflomkaaDoor
open Go.RowKit Go.BigFrame

/-- Bools that came in. -/
def Bos (w : World) (ao : Option Addr) (xs : List Bool) : Prop := ∀ k y, xs[k]? = some y → ∃ b off, ao = some ⟨b, off, none⟩ ∧ b < w.heap.size ∧ w.cell? ⟨b, off + k, none⟩ = some (.bool y)
/-- A log of generation 1 with a disk that takes every write, named by a block r. -/
structure SzI (w : World) (r K L : Nat) (n wt by_ : Int) (wx : World) : Prop where
  lg : ∃ v0 v1 σ, Lg wx w.heap.size K L v0 v1 σ false 1 1 n wt by_ ∧ σ.dead = false ∧ σ.fuse = -1 ∧ (σ.x1.length : Int) = by_ ∧ ¬ Foot K v0 v1 r
  bl : Below w.heap.size w wx
  rl : wx.cell? ⟨r, 1, none⟩ = some (.pointer (some ⟨L, 0, none⟩))
  rn : r ≠ L
  rg : w.heap.size ≤ r
/-- What begin answers. -/
def BeginQ (w : World) (e : Ending) (w' : World) : Prop := ∃ r K L, e = .returned (.tuple #[.pointer (some ⟨r, 0, none⟩), .bool true]) ∧ SzI w r K L 0 0 30 w'
section
variable {w wx w' : World} {r K L : Nat} {n wt by_ : Int}
theorem SzI.below (h : SzI w r K L n wt by_ wx) (hb : Below wx.heap.size wx w') : SzI w r K L n wt by_ w' := by
  obtain ⟨v0, v1, σ, hl, h1, h2, h3, h4⟩ := h.lg
  exact ⟨⟨v0, v1, σ, hl.below hb, h1, h2, h3, h4⟩, below_then h.bl hb, (hb.cell (p := ⟨r, 1, none⟩) (cell_lt h.rl)).trans h.rl, h.rn, h.rg⟩
theorem SzI.step {v0 v1 u0 u1 : Value} {σ τ : Sg} {n' wt' by' : Int} (h : SzI w r K L n wt by_ wx) (hl : Lg wx w.heap.size K L v0 v1 σ false 1 1 n wt by_) (hf : ¬ Foot K v0 v1 r) (hs : LStep wx w' K L v0 v1 u0 u1) (hl' : Lg w' w.heap.size K L u0 u1 τ false 1 1 n' wt' by') (h1 : τ.dead = false) (h2 : τ.fuse = -1) (h3 : (τ.x1.length : Int) = by') : SzI w r K L n' wt' by' w' := by
  have hr : r < wx.heap.size := cell_lt h.rl
  have hn : ¬ (Foot K v0 v1 r ∨ r = L) := fun g => g.elim hf h.rn
  refine ⟨⟨u0, u1, τ, hl', h1, h2, h3, fun g => hf (hs.foot r hr g)⟩, h.bl.trans (hs.off.below h.bl.size (fun k g => ?_)), (hs.off.cell (p := ⟨r, 1, none⟩) hr hn).trans h.rl, h.rn, h.rg⟩
  rcases g with g | rfl
  · exact (hl.d.foot_lt g).1
  · exact hl.ge
theorem goes_of {σ : Sg} (h1 : σ.dead = false) (h2 : σ.fuse = -1) : σ.goes = true := (goes_iff σ).2 ⟨h1, by omega⟩
theorem app_good {σ : Sg} {m : Nat} (h1 : σ.dead = false) (h2 : σ.fuse = -1) (h3 : σ.x1.length + m ≤ 16777216) : appC σ 1 m = 0 := by
  unfold appC; simp only [if_neg (show ¬ (1 : Int) = 0 by decide), if_true, goes_of h1 h2, if_neg (show ¬ 16777216 < σ.x1.length + m by omega)]
theorem app_sg {σ : Sg} {bs : List Int} (h1 : σ.dead = false) (h2 : σ.fuse = -1) (h3 : σ.x1.length + bs.length ≤ 16777216) : (appS σ 1 bs).dead = false ∧ (appS σ 1 bs).fuse = -1 ∧ (appS σ 1 bs).x1.length = σ.x1.length + bs.length := by
  unfold appS; simp only [if_neg (show ¬ (1 : Int) = 0 by decide), if_true, goes_of h1 h2, if_neg (show ¬ 16777216 < σ.x1.length + bs.length by omega)]
  refine ⟨h1, ?_, by simp⟩
  show leftOn σ.fuse = -1
  unfold leftOn; rw [h2]; rfl
theorem syn_good {σ : Sg} (h1 : σ.dead = false) (h2 : σ.fuse = -1) : synC σ 1 = 0 := by
  unfold synC; simp [goes_of h1 h2]
theorem syn_sg {σ : Sg} (h1 : σ.dead = false) (h2 : σ.fuse = -1) : (synS σ 1).dead = false ∧ (synS σ 1).fuse = -1 ∧ (synS σ 1).x1.length = σ.x1.length := by
  unfold synS; simp only [if_neg (show ¬ (1 : Int) = 0 by decide), if_true, goes_of h1 h2]
  refine ⟨h1, ?_, rfl⟩
  show leftOn σ.fuse = -1
  unfold leftOn; rw [h2]; rfl
/-- Append of a record that may be, of one that may not; Sync; Stat. -/
theorem sz_append {po : Option Addr} {m c : Nat} {bs : List Int} (h : SzI w r K L n wt by_ wx) (hb : Byts wx po m bs) (hpo : po = none → c = 0) (hH : Halves wx) (hm0 : 0 < m) (hm1 : m ≤ 20000) (hy0 : 0 ≤ by_) (hy1 : by_ + (m + 13) ≤ 16777216) (hr0 : 0 ≤ n) (hr1 : n ≤ 1099511627776) (ht0 : 0 ≤ wt) (ht1 : wt ≤ 1099511627776) :
    Calls Tryd.prog 10 #[.pointer (some ⟨L, 0, none⟩), .slice po m c] wx fun e w' => e = .returned .nilIface ∧ SzI w r K L (n + 1) (wt + 1) (by_ + (m + 13)) w' := by
  obtain ⟨v0, v1, σ, hl, h1, h2, h3, h4⟩ := h.lg
  have hlen : bs.length = m := hb.len
  refine (lAppend_go hl hb hpo hH hm0 hm1 hy0 hy1 hr0 hr1 ht0 ht1).mono ?_
  rintro e w' ⟨u0, u1, hs, ⟨_, he, hl'⟩ | ⟨hc, _⟩⟩
  · obtain ⟨e1, e2, e3⟩ := app_sg (bs := recB bs) h1 h2 (by rw [recB_len]; omega)
    exact ⟨he, h.step hl h4 hs hl' e1 e2 (by rw [e3, recB_len]; omega)⟩
  · exact absurd (app_good h1 h2 (by omega)) hc
theorem sz_bad {po : Option Addr} {m c : Nat} (h : SzI w r K L n wt by_ wx) (hm : m = 0 ∨ 20000 < m) :
    Calls Tryd.prog 10 #[.pointer (some ⟨L, 0, none⟩), .slice po m c] wx fun e w' => ∃ b, e = .returned (.iface 98 (.pointer (some ⟨b, 0, none⟩))) ∧ SzI w r K L n wt by_ w' := by
  obtain ⟨v0, v1, σ, hl, h1, h2, h3, h4⟩ := h.lg
  refine (lAppend_bad hl hm).mono ?_
  rintro e w' ⟨v, rfl, b, rfl, _, hb⟩
  exact ⟨b, rfl, h.below hb⟩
theorem sz_sync (h : SzI w r K L n wt by_ wx) :
    Calls Tryd.prog 11 #[.pointer (some ⟨L, 0, none⟩)] wx fun e w' => e = .returned (.tuple #[.int .i64 wt, .nilIface]) ∧ SzI w r K L n 0 by_ w' := by
  obtain ⟨v0, v1, σ, hl, h1, h2, h3, h4⟩ := h.lg
  refine (lSync hl).mono ?_
  rintro e w' ⟨u0, u1, hs, ⟨_, he, hl'⟩ | ⟨hc, _⟩⟩
  · obtain ⟨e1, e2, e3⟩ := syn_sg h1 h2
    exact ⟨he, h.step hl h4 hs hl' e1 e2 (by rw [e3]; exact h3)⟩
  · exact absurd (syn_good h1 h2) hc
theorem sz_stat (h : SzI w r K L n wt by_ wx) :
    Calls Tryd.prog 12 #[.pointer (some ⟨L, 0, none⟩)] wx fun e w' => e = .returned (.agg #[.int .u64 1, .int .i64 1, .int .i64 n, .int .i64 wt, .int .i64 by_]) ∧ SzI w r K L n wt by_ w' := by
  obtain ⟨v0, v1, σ, hl, h1, h2, h3, h4⟩ := h.lg
  refine (lStat hl).mono ?_
  rintro e w' ⟨rfl, hb⟩
  exact ⟨rfl, h.below hb⟩
end
set_option maxRecDepth 100000 in
set_option maxHeartbeats 8000000 in
theorem sizes_law {ao so : Option Addr} {cap sc : Nat} {xs : List Blv} {ys : List Bool} (w : World) (h : Bls w ao xs) (hn : xs.length ≤ maxLen) (hp : ∀ y ∈ xs, y.pl ≤ 140737488355328 ∧ (y.po = none → y.pc = 0)) (hs : Bos w so ys) (hsn : ys.length ≤ maxLen) (hH : Halves w) (hBg : Calls Tryd.prog 8 #[] w (BeginQ w)) :
    Calls Tryd.prog 3 #[.slice ao xs.length cap, .slice so ys.length sc] w fun e w' => e = .returned (.bool true) ∧ Below w.heap.size w w' := by
  have HB : Hid (Bls w ao xs ∧ (∀ y ∈ xs, y.pl ≤ 140737488355328 ∧ (y.po = none → y.pc = 0)) ∧ Halves w ∧ Bos w so ys) := ⟨h, hp, hH, hs⟩
  have HG : Hid (Calls Tryd.prog 8 #[] w (BeginQ w)) := hBg
  have HSh : Hid (∀ wx, Below w.heap.size w wx → Calls Tryd.prog 9 #[.slice ao xs.length cap] wx (ShQ xs wx)) := fun wx hb => short_any wx (h.below hb) hn (fun y hy => (hp y hy).1)
  obtain ⟨N, hN⟩ : ∃ n, xs.length = n := ⟨_, rfl⟩
  obtain ⟨M, hM⟩ : ∃ n, ys.length = n := ⟨_, rfl⟩
  have HN : Hid (xs.length = N ∧ ys.length = M) := ⟨hN, hM⟩
  rw [hN] at hn HSh ⊢
  rw [hM] at hsn ⊢
  unfold maxLen at hn hsn
  have hni : (N : Int) ≤ 9223372036854775807 := by omega
  have hmi : (M : Int) ≤ 9223372036854775807 := by omega
  clear h hp hs hN hM hH hBg hn hsn
  go_enter Tryd.func3, Tryd.ntmps3
  go_wp2_with fail
  refine HG.out.mono ?_
  rintro e w1 ⟨r, K, L, rfl, hI⟩
  have HI : Hid (SzI w r K L 0 0 30 w1) := hI
  clear hI HG
  go_wp2_with fail
  refine (HSh.out _ HI.out.bl).mono ?_
  rintro e w2 ⟨q, rfl, hq, hw2⟩
  rw [hw2]
  clear hw2 HSh
  cases q with
  | false =>
    clear hq
    go_wp2_with fail
    go_ret
    exact ⟨rfl, HI.out.bl⟩
  | true =>
    have HT : Hid (tot xs ≤ 4194304) := hq rfl
    clear hq
    go_wp2_with fail
    go_loopw [7, 8, 9, 10, 11, 12, 13, 14, 15] (fun t7 t8 t9 t10 _ _ _ _ _ wx => ∃ (k : Nat) (by_ n wt : Int), k ≤ N ∧ 0 ≤ by_ ∧ by_ ≤ 4194334 ∧ 0 ≤ n ∧ n ≤ k ∧ 0 ≤ wt ∧ wt ≤ k ∧ t7 = .int .i64 by_ ∧ t8 = .int .i64 n ∧ t9 = .int .i64 wt ∧ t10 = .int .i64 k ∧ Hid (SzI w r K L n wt by_ wx ∧ by_ ≤ 30 + (tot (xs.take k) : Int) ∧ (k : Int) * 13 ≤ 4194304)) (fun _ _ _ t10 _ _ _ _ _ _ => N - (intOf t10).toNat)
    case atStart => exact ⟨0, 30, 0, 0, by omega, by omega, by omega, by omega, by omega, by omega, by omega, rfl, rfl, rfl, rfl, HI.out, by simp [tot], by omega⟩
    case round =>
      obtain ⟨k, by_, n, wt, hk, hb0, hb1, hn0, hn1, hw0, hw1, rfl, rfl, rfl, rfl, HK⟩ := hrel
      by_cases hlt : k < N
      · have hlti : (k : Int) < N := by omega
        obtain ⟨y, hy⟩ : ∃ y, xs[k]? = some y := ⟨_, List.getElem?_eq_getElem (by have := HN.out.1; omega)⟩
        obtain ⟨b, off, rfl, hl, hc, hby⟩ := HB.out.1 k y hy
        have hpl := HB.out.2.1 y (List.mem_of_getElem? hy)
        have HTk : Hid (tot (xs.take (k + 1)) = tot (xs.take k) + y.pl + 13 ∧ tot (xs.take (k + 1)) ≤ 4194304) := ⟨tot_snoc hy, Nat.le_trans (tot_le _ _) HT.out⟩
        have HKK : Hid (((k + 1 : Nat) : Int) * 13 ≤ 4194304) := by
          have h1 := tot_thirteen xs (k + 1) (by have := HN.out.1; omega)
          have h2 := HTk.out.2
          unfold Hid; omega
        have hki : (k : Int) ≤ 322638 := by have := HKK.out; omega
        have c1 : wr.cell? ⟨b, off + k, none⟩ = some (.slice y.po y.pl y.pc) := (HK.out.1.bl.cell (p := ⟨b, off + k, none⟩) hl).trans hc
        have c2 := HK.out.1.rl
        have HBy : Hid (Byts wr y.po y.pl y.bs ∧ (y.po = none → y.pc = 0) ∧ Halves wr) := ⟨hby.below HK.out.1.bl, hpl.2, HB.out.2.2.1.under' HK.out.1.bl⟩
        obtain ⟨po, pl, pc, bs⟩ := y
        simp only at c1 HTk HBy
        clear hy hl hc hby hpl
        by_cases hg : 0 < pl ∧ pl ≤ 20000
        · have HG1 : Hid (0 < pl ∧ pl ≤ 20000) := hg
          have p1 : decide ((1 : Int) ≤ pl) = true := decide_eq_true (by omega)
          have p2 : decide ((pl : Int) ≤ 20000) = true := decide_eq_true (by omega)
          have p3 : (1 : Int) ≤ pl := by omega
          have p4 : (pl : Int) ≤ 20000 := by omega
          have hbn : by_ + pl + 13 ≤ 4194334 := by have h1 := HK.out.2.1; have h2 := HTk.out.1; have h3 := HTk.out.2; omega
          have HAp : Hid (Calls Tryd.prog 10 #[.pointer (some ⟨L, 0, none⟩), .slice po pl pc] wr fun e w' => e = .returned .nilIface ∧ SzI w r K L (n + 1) (wt + 1) (by_ + pl + 13) w') := by
            have := sz_append HK.out.1 HBy.out.1 HBy.out.2.1 HBy.out.2.2 HG1.out.1 HG1.out.2 hb0 (by omega) hn0 (by omega) hw0 (by omega)
            rw [show by_ + ((pl : Nat) + 13 : Int) = by_ + pl + 13 by omega] at this
            exact this
          clear hg
          go_wp2_with fail
          refine HAp.out.mono ?_
          rintro e w3 ⟨rfl, hI3⟩
          have HI3 : Hid (SzI w r K L (n + 1) (wt + 1) (by_ + pl + 13) w3) := hI3
          clear hI3 HAp c1 c2
          have c2 := HI3.out.rl
          by_cases hsl : k < M
          · have hsli : (k : Int) < M := by omega
            obtain ⟨z, hz2⟩ : ∃ z, ys[k]? = some z := ⟨_, List.getElem?_eq_getElem (by have := HN.out.2; omega)⟩
            obtain ⟨sb, soff, hso, hsb, hscl⟩ := HB.out.2.2.2 k z hz2
            subst hso
            have c5 : w3.cell? ⟨sb, soff + k, none⟩ = some (.bool z) := (HI3.out.bl.cell (p := ⟨sb, soff + k, none⟩) hsb).trans hscl
            clear hz2 hsb hscl
            cases z with
            | true =>
              go_wp2_with fail
              refine (sz_sync HI3.out).mono ?_
              rintro e w4 ⟨rfl, hI4⟩
              have HI4 : Hid (SzI w r K L (n + 1) 0 (by_ + pl + 13) w4) := hI4
              clear hI4 c2 c5
              have c2 := HI4.out.rl
              go_wp2_with fail
              refine (sz_stat HI4.out).mono ?_
              rintro e w5 ⟨rfl, hI5⟩
              have HI5 : Hid (SzI w r K L (n + 1) (0) (by_ + pl + 13) (w5.alloc (.cells #[.int .u64 1, .int .i64 1, .int .i64 (n + 1), .int .i64 (0), .int .i64 (by_ + pl + 13)] 40))) := hI5.below ((Below.refl _ _).alloc (Nat.le_refl _) _)
              clear hI5
              go_wp2_with fail
              go_roundw
              case rel => exact ⟨k + 1, by_ + pl + 13, n + 1, 0, by omega, by omega, by omega, by omega, by omega, by omega, by omega, rfl, rfl, rfl, by go_num, HI5.out, by have h1 := HK.out.2.1; have h2 := HTk.out.1; omega, HKK.out⟩
              case measure => simp [intOf]; omega
            | false =>
              go_wp2_with fail
              refine (sz_stat HI3.out).mono ?_
              rintro e w5 ⟨rfl, hI5⟩
              have HI5 : Hid (SzI w r K L (n + 1) (wt + 1) (by_ + pl + 13) (w5.alloc (.cells #[.int .u64 1, .int .i64 1, .int .i64 (n + 1), .int .i64 (wt + 1), .int .i64 (by_ + pl + 13)] 40))) := hI5.below ((Below.refl _ _).alloc (Nat.le_refl _) _)
              clear hI5
              go_wp2_with fail
              go_roundw
              case rel => exact ⟨k + 1, by_ + pl + 13, n + 1, wt + 1, by omega, by omega, by omega, by omega, by omega, by omega, by omega, rfl, rfl, rfl, by go_num, HI5.out, by have h1 := HK.out.2.1; have h2 := HTk.out.1; omega, HKK.out⟩
              case measure => simp [intOf]; omega
          · have hsli : ¬ (k : Int) < M := by omega
            go_wp2_with fail
            refine (sz_stat HI3.out).mono ?_
            rintro e w5 ⟨rfl, hI5⟩
            have HI5 : Hid (SzI w r K L (n + 1) (wt + 1) (by_ + pl + 13) (w5.alloc (.cells #[.int .u64 1, .int .i64 1, .int .i64 (n + 1), .int .i64 (wt + 1), .int .i64 (by_ + pl + 13)] 40))) := hI5.below ((Below.refl _ _).alloc (Nat.le_refl _) _)
            clear hI5
            go_wp2_with fail
            go_roundw
            case rel => exact ⟨k + 1, by_ + pl + 13, n + 1, wt + 1, by omega, by omega, by omega, by omega, by omega, by omega, by omega, rfl, rfl, rfl, by go_num, HI5.out, by have h1 := HK.out.2.1; have h2 := HTk.out.1; omega, HKK.out⟩
            case measure => simp [intOf]; omega
        · have HG1 : Hid (¬ (0 < pl ∧ pl ≤ 20000)) := hg
          have HAp : Hid (Calls Tryd.prog 10 #[.pointer (some ⟨L, 0, none⟩), .slice po pl pc] wr fun e w' => ∃ b, e = .returned (.iface 98 (.pointer (some ⟨b, 0, none⟩))) ∧ SzI w r K L n wt by_ w') := sz_bad HK.out.1 (by have := HG1.out; omega)
          by_cases hz : pl = 0
          · subst hz
            clear hg
            go_wp2_with fail
            refine HAp.out.mono ?_
            rintro e w3 ⟨fb, rfl, hI3⟩
            have HI3 : Hid (SzI w r K L n wt by_ w3) := hI3
            clear hI3 HAp c1 c2
            have c2 := HI3.out.rl
            by_cases hsl : k < M
            · have hsli : (k : Int) < M := by omega
              obtain ⟨z, hz2⟩ : ∃ z, ys[k]? = some z := ⟨_, List.getElem?_eq_getElem (by have := HN.out.2; omega)⟩
              obtain ⟨sb, soff, hso, hsb, hscl⟩ := HB.out.2.2.2 k z hz2
              subst hso
              have c5 : w3.cell? ⟨sb, soff + k, none⟩ = some (.bool z) := (HI3.out.bl.cell (p := ⟨sb, soff + k, none⟩) hsb).trans hscl
              clear hz2 hsb hscl
              cases z with
              | true =>
                go_wp2_with fail
                refine (sz_sync HI3.out).mono ?_
                rintro e w4 ⟨rfl, hI4⟩
                have HI4 : Hid (SzI w r K L (n) 0 (by_) w4) := hI4
                clear hI4 c2 c5
                have c2 := HI4.out.rl
                go_wp2_with fail
                refine (sz_stat HI4.out).mono ?_
                rintro e w5 ⟨rfl, hI5⟩
                have HI5 : Hid (SzI w r K L (n) (0) (by_) (w5.alloc (.cells #[.int .u64 1, .int .i64 1, .int .i64 (n), .int .i64 (0), .int .i64 (by_)] 40))) := hI5.below ((Below.refl _ _).alloc (Nat.le_refl _) _)
                clear hI5
                go_wp2_with fail
                go_roundw
                case rel => exact ⟨k + 1, by_, n, 0, by omega, by omega, by omega, by omega, by omega, by omega, by omega, rfl, rfl, rfl, by go_num, HI5.out, by have h1 := HK.out.2.1; have h2 := HTk.out.1; omega, HKK.out⟩
                case measure => simp [intOf]; omega
              | false =>
                go_wp2_with fail
                refine (sz_stat HI3.out).mono ?_
                rintro e w5 ⟨rfl, hI5⟩
                have HI5 : Hid (SzI w r K L (n) (wt) (by_) (w5.alloc (.cells #[.int .u64 1, .int .i64 1, .int .i64 (n), .int .i64 (wt), .int .i64 (by_)] 40))) := hI5.below ((Below.refl _ _).alloc (Nat.le_refl _) _)
                clear hI5
                go_wp2_with fail
                go_roundw
                case rel => exact ⟨k + 1, by_, n, wt, by omega, by omega, by omega, by omega, by omega, by omega, by omega, rfl, rfl, rfl, by go_num, HI5.out, by have h1 := HK.out.2.1; have h2 := HTk.out.1; omega, HKK.out⟩
                case measure => simp [intOf]; omega
            · have hsli : ¬ (k : Int) < M := by omega
              go_wp2_with fail
              refine (sz_stat HI3.out).mono ?_
              rintro e w5 ⟨rfl, hI5⟩
              have HI5 : Hid (SzI w r K L (n) (wt) (by_) (w5.alloc (.cells #[.int .u64 1, .int .i64 1, .int .i64 (n), .int .i64 (wt), .int .i64 (by_)] 40))) := hI5.below ((Below.refl _ _).alloc (Nat.le_refl _) _)
              clear hI5
              go_wp2_with fail
              go_roundw
              case rel => exact ⟨k + 1, by_, n, wt, by omega, by omega, by omega, by omega, by omega, by omega, by omega, rfl, rfl, rfl, by go_num, HI5.out, by have h1 := HK.out.2.1; have h2 := HTk.out.1; omega, HKK.out⟩
              case measure => simp [intOf]; omega
          · have p1 : decide ((1 : Int) ≤ pl) = true := decide_eq_true (by omega)
            have p2 : decide ((pl : Int) ≤ 20000) = false := decide_eq_false (by omega)
            have p3 : (1 : Int) ≤ pl := by omega
            clear hg hz
            go_wp2_with fail
            refine HAp.out.mono ?_
            rintro e w3 ⟨fb, rfl, hI3⟩
            have HI3 : Hid (SzI w r K L n wt by_ w3) := hI3
            clear hI3 HAp c1 c2
            have c2 := HI3.out.rl
            by_cases hsl : k < M
            · have hsli : (k : Int) < M := by omega
              obtain ⟨z, hz2⟩ : ∃ z, ys[k]? = some z := ⟨_, List.getElem?_eq_getElem (by have := HN.out.2; omega)⟩
              obtain ⟨sb, soff, hso, hsb, hscl⟩ := HB.out.2.2.2 k z hz2
              subst hso
              have c5 : w3.cell? ⟨sb, soff + k, none⟩ = some (.bool z) := (HI3.out.bl.cell (p := ⟨sb, soff + k, none⟩) hsb).trans hscl
              clear hz2 hsb hscl
              cases z with
              | true =>
                go_wp2_with fail
                refine (sz_sync HI3.out).mono ?_
                rintro e w4 ⟨rfl, hI4⟩
                have HI4 : Hid (SzI w r K L (n) 0 (by_) w4) := hI4
                clear hI4 c2 c5
                have c2 := HI4.out.rl
                go_wp2_with fail
                refine (sz_stat HI4.out).mono ?_
                rintro e w5 ⟨rfl, hI5⟩
                have HI5 : Hid (SzI w r K L (n) (0) (by_) (w5.alloc (.cells #[.int .u64 1, .int .i64 1, .int .i64 (n), .int .i64 (0), .int .i64 (by_)] 40))) := hI5.below ((Below.refl _ _).alloc (Nat.le_refl _) _)
                clear hI5
                go_wp2_with fail
                go_roundw
                case rel => exact ⟨k + 1, by_, n, 0, by omega, by omega, by omega, by omega, by omega, by omega, by omega, rfl, rfl, rfl, by go_num, HI5.out, by have h1 := HK.out.2.1; have h2 := HTk.out.1; omega, HKK.out⟩
                case measure => simp [intOf]; omega
              | false =>
                go_wp2_with fail
                refine (sz_stat HI3.out).mono ?_
                rintro e w5 ⟨rfl, hI5⟩
                have HI5 : Hid (SzI w r K L (n) (wt) (by_) (w5.alloc (.cells #[.int .u64 1, .int .i64 1, .int .i64 (n), .int .i64 (wt), .int .i64 (by_)] 40))) := hI5.below ((Below.refl _ _).alloc (Nat.le_refl _) _)
                clear hI5
                go_wp2_with fail
                go_roundw
                case rel => exact ⟨k + 1, by_, n, wt, by omega, by omega, by omega, by omega, by omega, by omega, by omega, rfl, rfl, rfl, by go_num, HI5.out, by have h1 := HK.out.2.1; have h2 := HTk.out.1; omega, HKK.out⟩
                case measure => simp [intOf]; omega
            · have hsli : ¬ (k : Int) < M := by omega
              go_wp2_with fail
              refine (sz_stat HI3.out).mono ?_
              rintro e w5 ⟨rfl, hI5⟩
              have HI5 : Hid (SzI w r K L (n) (wt) (by_) (w5.alloc (.cells #[.int .u64 1, .int .i64 1, .int .i64 (n), .int .i64 (wt), .int .i64 (by_)] 40))) := hI5.below ((Below.refl _ _).alloc (Nat.le_refl _) _)
              clear hI5
              go_wp2_with fail
              go_roundw
              case rel => exact ⟨k + 1, by_, n, wt, by omega, by omega, by omega, by omega, by omega, by omega, by omega, rfl, rfl, rfl, by go_num, HI5.out, by have h1 := HK.out.2.1; have h2 := HTk.out.1; omega, HKK.out⟩
              case measure => simp [intOf]; omega
      · have hlti : ¬ (k : Int) < N := by omega
        go_wp2_with fail
        go_ret
        exact ⟨rfl, HK.out.1.bl⟩
end Go.Proofs.YtfkcnnjkflomkaaDoor
