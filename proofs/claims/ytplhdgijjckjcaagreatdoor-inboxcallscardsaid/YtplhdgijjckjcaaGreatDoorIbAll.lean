/-
  Lists of entries: allCopied.
-/
import Derived.Test.YtplhdgijjckjcaaGreatDoorIbCopy
namespace Go.Proofs.YtplhdgijjckjcaaGreatDoor
open Go.RowKit

/-- The seven cells of an entry. -/
structure Cells (w : World) (g o : Nat) (m : Ent) : Prop where
  c0 : w.cell? ⟨g, o, none⟩ = some (.string m.ct)
  c1 : w.cell? ⟨g, o + 1, none⟩ = some (.slice m.tp m.tn m.tc)
  c2 : w.cell? ⟨g, o + 2, none⟩ = some (.int .i64 m.nu)
  c3 : w.cell? ⟨g, o + 3, none⟩ = some (.int .i64 m.tk)
  c4 : w.cell? ⟨g, o + 4, none⟩ = some (.slice m.cp m.cn m.cc)
  c5 : w.cell? ⟨g, o + 5, none⟩ = some (.string m.cd)
  c6 : w.cell? ⟨g, o + 6, none⟩ = some (.slice m.ap m.an m.ac)
theorem Cells.of {w : World} {g o : Nat} {m : Ent} (h : ∀ q, q < 7 → w.cell? ⟨g, o + q, none⟩ = (encE m)[q]?) : Cells w g o m :=
  ⟨h 0 (by decide), h 1 (by decide), h 2 (by decide), h 3 (by decide), h 4 (by decide), h 5 (by decide), h 6 (by decide)⟩
theorem Cells.keep {w w' : World} {g o : Nat} {m : Ent} (h : Cells w g o m) (hk : ∀ q, w'.cell? ⟨g, q, none⟩ = w.cell? ⟨g, q, none⟩) : Cells w' g o m :=
  ⟨by rw [hk]; exact h.c0, by rw [hk]; exact h.c1, by rw [hk]; exact h.c2, by rw [hk]; exact h.c3, by rw [hk]; exact h.c4, by rw [hk]; exact h.c5, by rw [hk]; exact h.c6⟩
theorem Cells.below {w w' : World} {g o : Nat} {m : Ent} (h : Cells w g o m) (hb : Below w.heap.size w w') : Cells w' g o m := by
  have hl : g < w.heap.size := cell_lt h.c0
  exact h.keep fun q => hb.cell (p := ⟨g, q, none⟩) hl
/-- A row of entries. -/
abbrev NRow (w : World) (B : Nat) (v : Value) (es : List Ent) : Prop := ERow w B 29 7 encE v es
theorem nrow_cells {w : World} {B : Nat} {a : Option Addr} {n c : Nat} {ms : List Ent} (h : NRow w B (.slice a n c) ms) {j : Nat} {m : Ent} (hm : ms[j]? = some m) : ∃ g, a = some ⟨g, 0, none⟩ ∧ g < w.heap.size ∧ Cells w g (j * 7) m := by
  obtain ⟨g, h1, h2, h3⟩ := h.at_ encE_len hm
  exact ⟨g, h1, h2, Cells.of h3⟩
theorem celE : Cel Tryz.prog 29 7 120 := cel_of (by kernel_rfl)
/-- Copies of entries: their lists elsewhere. -/
def Cps (w : World) (B : Nat) (ls ms : List Ent) : Prop := ls.length = ms.length ∧ ∀ (i : Nat) (l m : Ent), ls[i]? = some l → ms[i]? = some m → (∃ a c a' c' a'' c'', l = m.wi a c a' c' a'' c'') ∧ Own w B l
theorem Cps.nil (w : World) (B : Nat) : Cps w B [] [] := ⟨rfl, fun i l m h => by simp at h⟩
theorem Cps.snoc {w : World} {B : Nat} {ls ms : List Ent} {l m : Ent} (h : Cps w B ls ms) (h1 : ∃ a c a' c' a'' c'', l = m.wi a c a' c' a'' c'') (h2 : Own w B l) : Cps w B (ls ++ [l]) (ms ++ [m]) := by
  refine ⟨by simp [h.1], fun i x y hx hy => ?_⟩
  by_cases hi : i < ls.length
  · rw [List.getElem?_append_left hi] at hx
    rw [List.getElem?_append_left (by rw [← h.1]; exact hi)] at hy
    exact h.2 i x y hx hy
  · have hxi := (List.getElem?_eq_some_iff.1 hx).1
    simp only [List.length_append, List.length_singleton] at hxi
    obtain rfl : i = ls.length := by omega
    rw [List.getElem?_append_right (Nat.le_refl _), Nat.sub_self] at hx
    rw [List.getElem?_append_right (by rw [h.1]; exact Nat.le_refl _), h.1, Nat.sub_self] at hy
    simp only [List.getElem?_cons_zero, Option.some.injEq] at hx hy
    subst hx; subst hy
    exact ⟨h1, h2⟩
theorem Cps.keep {w w' : World} {B : Nat} {ls ms : List Ent} (h : Cps w B ls ms) (hk : ∀ l ∈ ls, Own w B l → Own w' B l) : Cps w' B ls ms := ⟨h.1, fun i l m hl hm => ⟨(h.2 i l m hl hm).1, hk l (List.mem_of_getElem? hl) (h.2 i l m hl hm).2⟩⟩
theorem Cps.below {w w' : World} {B : Nat} {ls ms : List Ent} (h : Cps w B ls ms) (hb : Below w.heap.size w w') : Cps w' B ls ms := h.keep fun _ _ ht => ht.below hb
theorem Cps.base {w : World} {B C : Nat} {ls ms : List Ent} (h : Cps w B ls ms) (hb : C ≤ B) : Cps w C ls ms := ⟨h.1, fun i l m hl hm => ⟨(h.2 i l m hl hm).1, (h.2 i l m hl hm).2.base hb⟩⟩
/-- Each of its entries lies somewhere and is no longer than may be copied. -/
def Lie (w : World) (e : Ent) : Prop := Lies w e ∧ e.tn ≤ 1000000 ∧ e.cn ≤ 1000000 ∧ e.an ≤ 1000000
theorem Lie.below {w w' : World} {e : Ent} (h : Lie w e) (hb : Below w.heap.size w w') : Lie w' e := ⟨h.1.below hb, h.2⟩
theorem run_make_ents {w : World} (n : Nat) (hn : n ≤ 1000000) : ∃ w', (Instr.makeSlice 39 (.int .i64 (n : Int)) (.int .i64 (n : Int))).run Tryz.prog w = .ok (.slice (some ⟨w.heap.size, 0, none⟩) n n) w' ∧ NRow w' w.heap.size (.slice (some ⟨w.heap.size, 0, none⟩) n n) (List.replicate n zE) ∧ Below w.heap.size w w' := by
  have h : (Tryz.prog.info? 29).map (fun i => (i.zero, i.size, i.bytes)) = some (some (.agg #[.string ⟨#[]⟩, .slice none 0 0, .int .i64 0, .int .i64 0, .slice none 0 0, .string ⟨#[]⟩, .slice none 0 0]), 7, 120) := by kernel_rfl
  obtain ⟨i, hi, e⟩ := Option.map_eq_some_iff.1 h
  simp only [Prod.mk.injEq] at e
  obtain ⟨hz, hs, hby⟩ := e
  obtain ⟨w', h1, h2, h3⟩ := run_make_full (P := Tryz.prog) w w.heap.size 39 29 i _ 7 Tryz.underlying39 hi hz hs .i64 .i64 n (by rw [hby]; omega) (by unfold maxLen; omega) (Nat.le_refl _)
  refine ⟨w', h1, ?_, (Off.of_grown h3).below (Nat.le_refl _) (fun k e => by cases e)⟩
  unfold NRow ERow
  rw [List.length_replicate]
  have e : (madeCells (Value.agg #[.string ⟨#[]⟩, .slice none 0 0, .int .i64 0, .int .i64 0, .slice none 0 0, .string ⟨#[]⟩, .slice none 0 0]).cells (n * 7)).toList = (List.replicate n zE).flatMap encE := made_flat encE_len (by decide) zE n
  rw [← e]
  exact h2
/-- In the midst of allCopied. -/
structure LsI (w : World) (g n : Nat) (ms : List Ent) (i : Nat) (wx : World) : Prop where
  ex : ∃ ls, ls.length = i ∧ NRow wx w.heap.size (.slice (some ⟨g, 0, none⟩) n n) (ls ++ List.replicate (n - i) zE) ∧ Cps wx w.heap.size ls (ms.take i)
  bel : Below w.heap.size w wx
/-- A list of copies ls. -/
def LsQ (w : World) (ms : List Ent) (e : Ending) (w' : World) : Prop := ∃ ls a c, e = .returned (.slice a ms.length c) ∧ NRow w' w.heap.size (.slice a ms.length c) ls ∧ Cps w' w.heap.size ls ms ∧ Below w.heap.size w w'
set_option maxRecDepth 100000 in
set_option maxHeartbeats 4000000 in
theorem allCopied_any {w : World} {B n c : Nat} {a : Option Addr} {ms : List Ent} (h : NRow w B (.slice a n c) ms) (hl : ∀ m ∈ ms, Lie w m) (hn6 : n ≤ 1000000) : Calls Tryz.prog 49 #[.slice a n c] w (LsQ w ms) := by
  have hn : ms.length = n := h.len.symm
  obtain ⟨w1, hmk1, hR, hB1⟩ := run_make_ents (w := w) n hn6
  have HI : Hid (LsI w w.heap.size n ms 0 w1) := ⟨⟨[], rfl, by simpa using hR, by simpa using Cps.nil _ _⟩, hB1⟩
  have HHw : Hid (NRow w B (.slice a n c) ms ∧ ∀ m ∈ ms, Lie w m) := ⟨h, hl⟩
  have HL : Hid (ms.length = n) := hn
  clear hn h hR hB1 hl
  go_enter Tryz.func49, Tryz.ntmps49
  go_wp2_with fail
  clear hmk1
  go_loopw [11] (fun t wx => ∃ i : Nat, i ≤ n ∧ t = .int .i64 i ∧ Hid (LsI w w.heap.size n ms i wx)) (fun t _ => n - (intOf t).toNat)
  case atStart => exact ⟨0, Nat.zero_le _, rfl, HI⟩
  case round =>
    obtain ⟨i, hi, rfl, HR⟩ := hrel
    by_cases hlt : i < n
    · have hlt1 : (i : Int) < n := by omega
      obtain ⟨m, hm⟩ : ∃ m, ms[i]? = some m := ⟨_, List.getElem?_eq_getElem (by rw [HL.out]; exact hlt)⟩
      have HHr : Hid (NRow wr B (.slice a n c) ms) := HHw.out.1.below (HR.out.bel)
      obtain ⟨g, rfl, hg, hc⟩ := nrow_cells HHr.out hm
      obtain ⟨d0, d1, d2, d3, d4, d5, d6⟩ := hc
      have HM : Hid (ms[i]? = some m) := hm
      have htx := (HHw.out.2 m (List.mem_of_getElem? hm)).below HR.out.bel
      have hcp := fun o => copied_any m (wr.alloc o) (htx.1.below ((Below.refl _ _).alloc (Nat.le_refl _) _)) htx.2.1 htx.2.2.1 htx.2.2.2
      clear hm htx
      go_wp2_with fail
      refine (hcp _).mono ?_
      rintro _ w5 ⟨a5, c5, a6, c6, a7, c7, rfl, hr5, hb5⟩
      have HB5 : Hid (Below w.heap.size w w5 ∧ Below wr.heap.size wr w5) := ⟨below_then (HR.out.bel.alloc HR.out.bel.size _) hb5, below_then ((Below.refl _ _).alloc (Nat.le_refl _) _) hb5⟩
      obtain ⟨ls, hls, hrow, hcps⟩ := HR.out.ex
      have hrow5 := hrow.below HB5.out.2
      have hll : (ls ++ List.replicate (n - i) zE).length = n := by simp; omega
      obtain ⟨z0, hz0⟩ : ∃ z0, (ls ++ List.replicate (n - i) zE)[i]? = some z0 := ⟨_, List.getElem?_eq_getElem (by rw [hll]; exact hlt)⟩
      obtain ⟨g', eg, hgl, hgc⟩ := nrow_cells hrow5 hz0
      obtain rfl : w.heap.size = g' := by simpa using eg
      obtain ⟨e0, e1, e2, e3, e4, e5, e6⟩ := hgc
      have hfz := ERow.thaw hrow5
      have HZ : Hid (LsI w w.heap.size n ms (i + 1) (w5.setCells w.heap.size (i * 7) (encE (m.wi a5 c5 a6 c6 a7 c7)))) := by
        have o1 : Off (fun q => q = w.heap.size) w5 (w5.setCells w.heap.size (i * 7) (encE (m.wi a5 c5 a6 c6 a7 c7))) := Off.setCells (P := fun q => q = w.heap.size) rfl _ _ _ (Off.refl _ _)
        have hset := erow_set encE_len hrow5 (m.wi a5 c5 a6 c6 a7 c7) (i := i) (by rw [hll]; exact hlt)
        have hse : (ls ++ List.replicate (n - i) zE).set i (m.wi a5 c5 a6 c6 a7 c7) = (ls ++ [m.wi a5 c5 a6 c6 a7 c7]) ++ List.replicate (n - (i + 1)) zE := by
          obtain ⟨k, hk⟩ : ∃ k, n - i = k + 1 := ⟨n - i - 1, by omega⟩
          rw [hk, List.replicate_succ, List.set_append_right _ _ (by omega), hls, Nat.sub_self, List.set_cons_zero, show n - (i + 1) = k by omega]
          simp
        have hapart : ∀ l, Own w5 w.heap.size l → Own (w5.setCells w.heap.size (i * 7) (encE (m.wi a5 c5 a6 c6 a7 c7))) w.heap.size l := fun l hl => hl.byType o1 fun q cs hq e => by
          rcases hrow5.2 with ⟨e1, _⟩ | ⟨g1, c1, u1, e1, _, b1, _⟩
          · cases e1
          · simp only [Value.slice.injEq, Option.some.injEq, Addr.mk.injEq, and_true] at e1
            rw [e, e1.1, b1] at hq
            simp at hq
        refine ⟨⟨ls ++ [m.wi a5 c5 a6 c6 a7 c7], by simp [hls], by rw [← hse]; exact hset, ?_⟩, HB5.out.1.trans (o1.below HB5.out.1.size (fun k hk => by omega))⟩
        rw [List.take_succ_eq_append_getElem (by rw [HL.out]; exact hlt), show ms[i]'(by rw [HL.out]; exact hlt) = m by have := HM.out; rw [List.getElem?_eq_getElem (by rw [HL.out]; exact hlt)] at this; exact Option.some.inj this]
        exact ((hcps.below HB5.out.2).keep fun l _ hl => hapart l hl).snoc ⟨a5, c5, a6, c6, a7, c7, rfl⟩ (hapart _ (hr5.base (by have := HR.out.bel.size; simp; omega)))
      clear hcp hr5 hb5 hls hrow hcps hrow5 hll hz0 eg d0 d1 d2 d3 d4 d5 d6
      go_wp2_with fail
      go_roundw
      case rel => exact ⟨i + 1, hlt, by go_num, HZ⟩
      case measure => simp [intOf]; omega
    · have hlt1 : ¬ (i : Int) < n := by omega
      have hin : i = n := by omega
      have HZ : Hid (∃ ls, NRow wr w.heap.size (.slice (some ⟨w.heap.size, 0, none⟩) n n) ls ∧ Cps wr w.heap.size ls ms) := by
        obtain ⟨ls, hls, hrow, hcps⟩ := HR.out.ex
        rw [List.take_of_length_le (by rw [HL.out]; omega)] at hcps
        rw [hin, Nat.sub_self, List.replicate_zero, List.append_nil] at hrow
        exact ⟨ls, hrow, hcps⟩
      clear hin
      go_wp2_with fail
      go_ret
      obtain ⟨ls, hrow, hcps⟩ := HZ.out
      exact ⟨ls, some ⟨w.heap.size, 0, none⟩, n, by rw [HL.out]; rfl, by rw [HL.out]; exact hrow, hcps, HR.out.bel⟩
end Go.Proofs.YtplhdgijjckjcaaGreatDoor
