/-
  List, Len.
-/
import Derived.Test.YtigmgbnfiiobeaaDoorOxDo2
namespace Go.Proofs.YtigmgbnfiiobeaaDoor
open Go.RowKit

/-- A text that lies by itself. -/
def Tb (w : World) (m : Msg) : Prop := BRow w 0 (.slice m.tp m.tn m.tc) m.tx
/-- Copies of messages: their texts elsewhere. -/
def Cps (w : World) (ls ms : List Msg) : Prop := ls.length = ms.length ∧ ∀ (i : Nat) (l m : Msg), ls[i]? = some l → ms[i]? = some m → (∃ a c, l = m.wi a c) ∧ Tb w l
theorem Cps.nil (w : World) : Cps w [] [] := ⟨rfl, fun i l m h => by simp at h⟩
theorem Cps.snoc {w : World} {ls ms : List Msg} {l m : Msg} (h : Cps w ls ms) (h1 : ∃ a c, l = m.wi a c) (h2 : Tb w l) : Cps w (ls ++ [l]) (ms ++ [m]) := by
  refine ⟨by simp [h.1], fun i x y hx hy => ?_⟩
  by_cases hi : i < ls.length
  · rw [List.getElem?_append_left hi] at hx
    rw [List.getElem?_append_left (by rw [← h.1]; exact hi)] at hy
    exact h.2 i x y hx hy
  · have hxi := (List.getElem?_eq_some_iff.1 hx).1
    simp only [List.length_append, List.length_singleton] at hxi
    obtain rfl : i = ls.length := by omega
    rw [List.getElem?_append_right (Nat.le_refl _), Nat.sub_self] at hx
    rw [List.getElem?_append_right (by rw [h.1]; exact Nat.le_refl _), h.1, Nat.sub_self] at hy
    simp only [List.getElem?_cons_zero, Option.some.injEq] at hx hy
    subst hx; subst hy
    exact ⟨h1, h2⟩
theorem Cps.keep {w w' : World} {ls ms : List Msg} (h : Cps w ls ms) (hk : ∀ l ∈ ls, Tb w l → Tb w' l) : Cps w' ls ms := ⟨h.1, fun i l m hl hm => ⟨(h.2 i l m hl hm).1, hk l (List.mem_of_getElem? hl) (h.2 i l m hl hm).2⟩⟩
theorem Cps.below {w w' : World} {ls ms : List Msg} (h : Cps w ls ms) (hb : Below w.heap.size w w') : Cps w' ls ms := h.keep fun _ _ ht => ERow.below ht hb
theorem run_make_sents {w : World} (n : Nat) (hn : n ≤ 1000) : ∃ w', (Instr.makeSlice 42 (.int .i64 (n : Int)) (.int .i64 (n : Int))).run Tryd.prog w = .ok (.slice (some ⟨w.heap.size, 0, none⟩) n n) w' ∧ ERow w' w.heap.size 49 10 encM (.slice (some ⟨w.heap.size, 0, none⟩) n n) (List.replicate n zM) ∧ Below w.heap.size w w' := by
  have h : (Tryd.prog.info? 49).map (fun i => (i.zero, i.size, i.bytes)) = some (some (.agg #[.string ⟨#[]⟩, .slice none 0 0, .bool false, .int .i64 0, .int .i64 0, .int .i64 0, .bool false, .int .i64 0, .int .i64 0, .bool false]), 10, 104) := by kernel_rfl
  obtain ⟨i, hi, e⟩ := Option.map_eq_some_iff.1 h
  simp only [Prod.mk.injEq] at e
  obtain ⟨hz, hs, hby⟩ := e
  obtain ⟨w', h1, h2, h3⟩ := run_make_full (P := Tryd.prog) w w.heap.size 42 49 i _ 10 Tryd.underlying42 hi hz hs .i64 .i64 n (by rw [hby]; omega) (by unfold maxLen; omega) (Nat.le_refl _)
  refine ⟨w', h1, ?_, (Off.of_grown h3).below (Nat.le_refl _) (fun k e => by cases e)⟩
  unfold ERow
  rw [List.length_replicate]
  have e : (madeCells (Value.agg #[.string ⟨#[]⟩, .slice none 0 0, .bool false, .int .i64 0, .int .i64 0, .int .i64 0, .bool false, .int .i64 0, .int .i64 0, .bool false]).cells (n * 10)).toList = (List.replicate n zM).flatMap encM := made_flat encM_len (by decide) zM n
  rw [← e]
  exact h2
/-- In the midst of List. -/
structure LsI (w : World) (g n : Nat) (ms : List Msg) (i : Nat) (wx : World) : Prop where
  ex : ∃ ls, ls.length = i ∧ ERow wx w.heap.size 49 10 encM (.slice (some ⟨g, 0, none⟩) n n) (ls ++ List.replicate (n - i) zM) ∧ Cps wx ls (ms.take i)
  bel : Below w.heap.size w wx
/-- List's answer: the copies ls. -/
def LsQ (w : World) (ms : List Msg) (e : Ending) (w' : World) : Prop := ∃ ls a c, e = .returned (.slice a ms.length c) ∧ ERow w' w.heap.size 49 10 encM (.slice a ms.length c) ls ∧ Cps w' ls ms ∧ Below w.heap.size w w'
section
variable {w w' : World} {b kb : Nat} {v : Value} {sq : Bool} {tr : Int} {ms : List Msg}
set_option maxRecDepth 100000 in
set_option maxHeartbeats 4000000 in
theorem list_any (h : Bx w b kb v sq tr ms) : Calls Tryd.prog 7 #[.pointer (some ⟨b, 0, none⟩)] w (LsQ w ms) := by
  have hmk := made_yes h
  have hct := count_any h.2.1
  have c0 := hcell h.1 0
  have lb := h.lt
  obtain ⟨a, c, rfl, _⟩ := h.2.1.2.1.isSlice
  obtain ⟨n, hn⟩ : ∃ n, ms.length = n := ⟨_, rfl⟩
  have q2 : n ≤ 32 := by rw [← hn]; exact h.2.1.2.2
  obtain ⟨w1, hmk1, hR, hB1⟩ := run_make_sents (w := w) n (by omega)
  have HI : Hid (LsI w w.heap.size n ms 0 w1) := ⟨⟨[], rfl, by simpa using hR, by simpa using Cps.nil _⟩, hB1⟩
  have HHw : Hid (Bx w b kb (.slice a n c) sq tr ms) := by rw [hn] at h; exact h
  have c1 : ∀ o, w1.cell? ⟨b, o, none⟩ = w.cell? ⟨b, o, none⟩ := fun o => hB1.cell (p := ⟨b, o, none⟩) lb
  have k1 := hcell (HHw.out.2.1.below hB1).1 1
  have lk := blk_lt (HHw.out.2.1.below hB1).1
  have HL : Hid (ms.length = n) := hn
  rw [hn] at hct
  clear hn h hR hB1
  go_enter Tryd.func7, Tryd.ntmps7
  go_wp2_with (first | (go_at_call 21; refine hmk.mono ?_; rintro _ w9 ⟨rfl, h9⟩; subst w9) | (go_at_call 22; refine hct.mono ?_; rintro _ w9 ⟨rfl, h9⟩; subst w9))
  clear hmk hct hmk1 c1 k1 lk c0 lb
  go_loopw [23] (fun t wx => ∃ i : Nat, i ≤ n ∧ t = .int .i64 i ∧ Hid (LsI w w.heap.size n ms i wx)) (fun t _ => n - (intOf t).toNat)
  case atStart => exact ⟨0, Nat.zero_le _, rfl, HI⟩
  case round =>
    obtain ⟨i, hi, rfl, HR⟩ := hrel
    by_cases hlt : i < n
    · have hlt1 : (i : Int) < n := by omega
      obtain ⟨m, hm⟩ : ∃ m, ms[i]? = some m := ⟨_, List.getElem?_eq_getElem (by rw [HL.out]; exact hlt)⟩
      have HHr : Hid (Bx wr b kb (.slice a n c) sq tr ms) := HHw.out.below HR.out.bel
      obtain ⟨g, rfl, hg, hc⟩ := erow_cells HHr.out.2.1.2.1 hm
      obtain ⟨d0, d1, d2, d3, d4, d5, d6, d7, d8, d9⟩ := hc
      have HM : Hid (ms[i]? = some m) := hm
      have htx := HHr.out.2.2 m (List.mem_of_getElem? hm)
      have hcp := fun o => copied_any m (wr.alloc o) ((htx.1.byts).below ((Below.refl _ _).alloc (Nat.le_refl _) _)) htx.1.nilcap (by have := htx.2; omega)
      clear hm htx
      go_wp2_with fail
      refine (hcp _).mono ?_
      rintro _ w5 ⟨a5, c5, rfl, hr5, hb5⟩
      have HB5 : Hid (Below w.heap.size w w5 ∧ Below wr.heap.size wr w5) := ⟨below_then (HR.out.bel.alloc HR.out.bel.size _) hb5, below_then ((Below.refl _ _).alloc (Nat.le_refl _) _) hb5⟩
      obtain ⟨ls, hls, hrow, hcps⟩ := HR.out.ex
      have hrow5 := hrow.below HB5.out.2
      have hll : (ls ++ List.replicate (n - i) zM).length = n := by simp; omega
      obtain ⟨z0, hz0⟩ : ∃ z0, (ls ++ List.replicate (n - i) zM)[i]? = some z0 := ⟨_, List.getElem?_eq_getElem (by rw [hll]; exact hlt)⟩
      obtain ⟨g', eg, hgl, hgc⟩ := erow_cells hrow5 hz0
      obtain rfl : w.heap.size = g' := by simpa using eg
      obtain ⟨e0, e1, e2, e3, e4, e5, e6, e7, e8, e9⟩ := hgc
      have hfz := ERow.thaw hrow5
      have HZ : Hid (LsI w w.heap.size n ms (i + 1) (w5.setCells w.heap.size (i * 10) (encM (m.wi a5 c5)))) := by
        have o1 : Off (fun q => q = w.heap.size) w5 (w5.setCells w.heap.size (i * 10) (encM (m.wi a5 c5))) := Off.setCells (P := fun q => q = w.heap.size) rfl _ _ _ (Off.refl _ _)
        have hset := erow_set hrow5 (m.wi a5 c5) (i := i) (by rw [hll]; exact hlt)
        have hse : (ls ++ List.replicate (n - i) zM).set i (m.wi a5 c5) = (ls ++ [m.wi a5 c5]) ++ List.replicate (n - (i + 1)) zM := by
          obtain ⟨k, hk⟩ : ∃ k, n - i = k + 1 := ⟨n - i - 1, by omega⟩
          rw [hk, List.replicate_succ, List.set_append_right _ _ (by omega), hls, Nat.sub_self, List.set_cons_zero, show n - (i + 1) = k by omega]
          simp
        have hapart : ∀ l, Tb w5 l → Tb (w5.setCells w.heap.size (i * 10) (encM (m.wi a5 c5))) l := fun l hl => ERow.off hl o1 fun q hq e => own_ne hl hrow5 (by decide) q hq (by rw [e]; rfl)
        refine ⟨⟨ls ++ [m.wi a5 c5], by simp [hls], by rw [← hse]; exact hset, ?_⟩, HB5.out.1.trans (o1.below HB5.out.1.size (fun k hk => by omega))⟩
        rw [List.take_succ_eq_append_getElem (by rw [HL.out]; exact hlt), show ms[i]'(by rw [HL.out]; exact hlt) = m by have := HM.out; rw [List.getElem?_eq_getElem (by rw [HL.out]; exact hlt)] at this; exact Option.some.inj this]
        exact ((hcps.below HB5.out.2).keep fun l _ hl => hapart l hl).snoc ⟨a5, c5, rfl⟩ (hapart _ (ERow.base hr5 (Nat.zero_le _)))
      clear hcp hr5 hb5 hls hrow hcps hrow5 hll hz0 eg d0 d1 d2 d3 d4 d5 d6 d7 d8 d9
      go_wp2_with fail
      go_roundw
      case rel => exact ⟨i + 1, hlt, by go_num, HZ⟩
      case measure => simp [intOf]; omega
    · have hlt1 : ¬ (i : Int) < n := by omega
      have hin : i = n := by omega
      have HZ : Hid (∃ ls, ERow wr w.heap.size 49 10 encM (.slice (some ⟨w.heap.size, 0, none⟩) n n) ls ∧ Cps wr ls ms) := by
        obtain ⟨ls, hls, hrow, hcps⟩ := HR.out.ex
        rw [List.take_of_length_le (by rw [HL.out]; omega)] at hcps
        rw [hin, Nat.sub_self, List.replicate_zero, List.append_nil] at hrow
        exact ⟨ls, hrow, hcps⟩
      clear hin
      go_wp2_with fail
      go_ret
      obtain ⟨ls, hrow, hcps⟩ := HZ.out
      exact ⟨ls, some ⟨w.heap.size, 0, none⟩, n, by rw [HL.out]; rfl, by rw [HL.out]; exact hrow, hcps, HR.out.bel⟩
end
end Go.Proofs.YtigmgbnfiiobeaaDoor
