import Derived.Test.YtplhdgijjckjcaaGreatDoorIbRb4
import Derived.Test.YtplhdgijjckjcaaGreatDoorIbKeepM
import Derived.Test.YtplhdgijjckjcaaGreatDoorIbDcd
/-
  The document's box: Find.
-/
namespace Go.Proofs.YtplhdgijjckjcaaGreatDoor
open Go.RowKit

section
variable {w w' : World} {B X : Nat} {v : Value} {K R : Int} {es : List Ent}
set_option maxRecDepth 100000 in
set_option maxHeartbeats 2000000 in
theorem rfind_no (h : RBx w B X v K R es) (s : ByteArray) (hf : fi s es = none) : Calls Tryz.prog 33 #[.pointer (some ⟨X, 1, none⟩), .string s] w (EnQ w zE false) := by
  have bv : Below w.heap.size w (w.alloc (.cells #[.string ⟨#[]⟩, .slice none 0 0, .int .i64 0, .int .i64 0, .slice none 0 0, .string ⟨#[]⟩, .slice none 0 0] 29)) := (Below.refl _ _).alloc (Nat.le_refl _) _
  have bx := Box.new w #[.string ⟨#[]⟩, .slice none 0 0, .int .i64 0, .int .i64 0, .slice none 0 0, .string ⟨#[]⟩, .slice none 0 0] 29
  obtain ⟨V, hV⟩ : ∃ V, w.alloc (.cells #[.string ⟨#[]⟩, .slice none 0 0, .int .i64 0, .int .i64 0, .slice none 0 0, .string ⟨#[]⟩, .slice none 0 0] 29) = V := ⟨_, rfl⟩
  rw [hV] at bv bx
  have hat := rat_any (h.below bv) s (by have := h.inv.len; omega)
  rw [show fiI s es = -1 by unfold fiI; rw [hf]] at hat
  obtain ⟨xb, hxb⟩ : ∃ xb, w.heap.size = xb := ⟨_, rfl⟩
  have HB : Hid (Below w.heap.size w V) := bv
  rw [hxb] at bx
  have cx := bx.cell
  have fx := bx.free
  clear h hf bv bx
  go_enter Tryz.func33, Tryz.ntmps33
  go_wp2_with fail
  clear hV
  refine hat.mono ?_
  rintro _ w9 ⟨rfl, h9⟩
  subst w9
  go_wp2_with fail
  refine bodyPost_ret (v := .tuple #[.agg #[.string ⟨#[]⟩, .slice none 0 0, .int .i64 0, .int .i64 0, .slice none 0 0, .string ⟨#[]⟩, .slice none 0 0], .bool false]) ?_ rfl ⟨none, 0, none, 0, none, 0, rfl, zE_own _ _, ?_⟩
  · simp [results, Tryz.results33, go_sem, cx]
  · have hle := HB.out
    refine hle.trans (Off.below (P := fun q => q = xb) ?_ hle.size fun k hk => by omega)
    iterate 7 (refine Off.setCell (P := fun q => q = xb) ?_ (by exact rfl) _)
    exact Off.refl _ _
set_option maxRecDepth 100000 in
set_option maxHeartbeats 4000000 in
theorem rfind_yes (h : RBx w B X v K R es) (s : ByteArray) {i : Nat} {l : Ent} (hf : fi s es = some i) (hl : es[i]? = some l) (ht : l.tn ≤ 140737488355328 ∧ l.cn ≤ 140737488355328 ∧ l.an ≤ 140737488355328) : Calls Tryz.prog 33 #[.pointer (some ⟨X, 1, none⟩), .string s] w (EnQ w l true) := by
  have bv : Below w.heap.size w (w.alloc (.cells #[.string ⟨#[]⟩, .slice none 0 0, .int .i64 0, .int .i64 0, .slice none 0 0, .string ⟨#[]⟩, .slice none 0 0] 29)) := (Below.refl _ _).alloc (Nat.le_refl _) _
  have bx := Box.new w #[.string ⟨#[]⟩, .slice none 0 0, .int .i64 0, .int .i64 0, .slice none 0 0, .string ⟨#[]⟩, .slice none 0 0] 29
  obtain ⟨V, hV⟩ : ∃ V, w.alloc (.cells #[.string ⟨#[]⟩, .slice none 0 0, .int .i64 0, .int .i64 0, .slice none 0 0, .string ⟨#[]⟩, .slice none 0 0] 29) = V := ⟨_, rfl⟩
  rw [hV] at bv bx
  have h1 := h.below bv
  have hat := rat_any h1 s (by have := h.inv.len; omega)
  rw [show fiI s es = (i : Int) by unfold fiI; rw [hf]] at hat
  obtain ⟨a, c, e1, _⟩ := ERow.isSlice h1.row
  subst e1
  obtain ⟨g, rfl, lg, d0, d1, d2, d3, d4, d5, d6⟩ := nrow_cells h1.row hl
  have x4 := h1.c4
  have hil := (List.getElem?_eq_some_iff.1 hl).1
  obtain ⟨n, hn⟩ : ∃ n, es.length = n := ⟨_, rfl⟩
  rw [hn] at x4 hil
  have hi1 : (i : Int) < n := by omega
  have hi2 : ¬ (i : Int) < 0 := by omega
  obtain ⟨xb, hxb⟩ : ∃ xb, w.heap.size = xb := ⟨_, rfl⟩
  have HB : Hid (Below w.heap.size w V ∧ w.heap.size = xb ∧ xb < V.heap.size) := ⟨bv, hxb, by rw [← hxb]; exact bx.lt⟩
  rw [hxb] at bx
  have htw := (rtwin_any l V (h1.own l (List.mem_of_getElem? hl)).lies ht.1 ht.2.1 ht.2.2)
  have HX : Hid (Box V xb #[.string ⟨#[]⟩, .slice none 0 0, .int .i64 0, .int .i64 0, .slice none 0 0, .string ⟨#[]⟩, .slice none 0 0]) := bx
  clear bv h h1 hl ht hf bx lg hn
  go_enter Tryz.func33, Tryz.ntmps33
  go_wp2_with fail
  clear hV
  refine hat.mono ?_
  rintro _ w9 ⟨rfl, h9⟩
  subst w9
  go_wp2_with fail
  refine htw.mono ?_
  rintro _ w1 ⟨a1, c1, a2, c2, a3, c3, rfl, ho, hb⟩
  have hx3 := HX.out.below hb
  have cx3 := hx3.cell
  have fx3 := hx3.free
  have HE : Hid (∀ W', Off (fun q => q = xb) w1 W' → Own W' w.heap.size (l.wi a1 c1 a2 c2 a3 c3) ∧ Below w.heap.size w W') := fun W' ho' => by
    obtain ⟨q1, q2, q3⟩ := HB.out
    exact ⟨(ho.off ho' fun q hq e => by omega).base q1.size, (below_then q1 hb).trans (ho'.below (Nat.le_trans q1.size hb.size) fun k hk => by omega)⟩
  clear htw hat ho hb hx3 d0 d1 d2 d3 d4 d5 d6 x4
  go_wp2_with fail
  refine bodyPost_ret ?_ rfl ⟨a1, c1, a2, c2, a3, c3, rfl, HE.out _ ?_⟩
  · simp [results, Tryz.results33, go_sem, cx3]
  · iterate 7 (refine Off.setCell ?_ (by exact rfl) _)
    exact Off.refl _ _
end
end Go.Proofs.YtplhdgijjckjcaaGreatDoor

/-
  The document's box: Decide, refused.
-/
namespace Go.Proofs.YtplhdgijjckjcaaGreatDoor
open Go.RowKit

section
variable {w w' : World} {B X : Nat} {v : Value} {K R : Int} {es : List Ent}
set_option maxRecDepth 100000 in
set_option maxHeartbeats 4000000 in
theorem rdec_no (h : RBx w B X v K R es) (s cd : ByteArray) (p : Option Addr) (n c : Nat) (hz : decC es s cd n ≠ 0) : Calls Tryz.prog 27 #[.pointer (some ⟨X, 1, none⟩), .string s, .string cd, .slice p n c] w fun r w' => r = .returned (.tuple #[.slice none 0 0, .int .i64 (decC es s cd n)]) ∧ w' = w := by
  have c1 := h.c1
  have hvd := rVerdict_any cd w
  have hat := rat_any h s (by have := h.inv.len; omega)
  cases hv : vdB cd with
  | false =>
    have HC : Hid (decC es s cd n = 302) := by unfold Hid decC; rw [if_pos hv]
    rw [hv] at hvd
    clear hv hz h hat
    go_enter Tryz.func27, Tryz.ntmps27
    go_wp2_with fail
    refine hvd.mono ?_
    rintro _ w9 ⟨rfl, h9⟩
    subst w9
    go_wp2_with fail
    go_ret2
    exact ⟨by rw [HC.out]; rfl, rfl⟩
  | true =>
    rw [hv] at hvd
    by_cases hn : 2048 < n
    · have HC : Hid (decC es s cd n = 4) := by unfold Hid decC; rw [if_neg (by rw [hv]; decide), if_pos hn]
      have hn1 : (n : Int) > 2048 := by omega
      clear hv hz h hat hn
      go_enter Tryz.func27, Tryz.ntmps27
      go_wp2_with fail
      refine hvd.mono ?_
      rintro _ w9 ⟨rfl, h9⟩
      subst w9
      go_wp2_with fail
      go_ret2
      exact ⟨by rw [HC.out]; rfl, rfl⟩
    · have hn1 : ¬ (n : Int) > 2048 := by omega
      cases hf : fi s es with
      | none =>
        have HC : Hid (decC es s cd n = 11) := by unfold Hid decC; rw [if_neg (by rw [hv]; decide), if_neg hn, hf]
        rw [show fiI s es = -1 by unfold fiI; rw [hf]] at hat
        clear hv hz h hn hf
        go_enter Tryz.func27, Tryz.ntmps27
        go_wp2_with fail
        refine hvd.mono ?_
        rintro _ w9 ⟨rfl, h9⟩
        subst w9
        go_wp2_with fail
        refine hat.mono ?_
        rintro _ w9 ⟨rfl, h9⟩
        subst w9
        go_wp2_with fail
        go_ret2
        exact ⟨by rw [HC.out]; rfl, rfl⟩
      | some i =>
        obtain ⟨x, hx, _, _⟩ := fi_some hf
        have hg : es.getD i zE = x := by rw [List.getD_eq_getElem?_getD, hx]; rfl
        have hd : dcB x = true := by
          cases hq : dcB x with
          | true => rfl
          | false =>
            refine absurd ?_ hz
            unfold decC
            rw [if_neg (by rw [hv]; decide), if_neg hn, hf]
            show (if dcB (es.getD i zE) = true then (6 : Int) else 0) = 0
            rw [hg, hq]
            rfl
        have HC : Hid (decC es s cd n = 6) := by
          unfold Hid decC
          rw [if_neg (by rw [hv]; decide), if_neg hn, hf]
          show (if dcB (es.getD i zE) = true then (6 : Int) else 0) = 6
          rw [hg, hd]
          rfl
        rw [show fiI s es = (i : Int) by unfold fiI; rw [hf]] at hat
        obtain ⟨a, c', e1, _⟩ := ERow.isSlice h.row
        subst e1
        obtain ⟨g, rfl, lg, d0, d1, d2, d3, d4, d5, d6⟩ := nrow_cells h.row hx
        have x4 := h.c4
        have hil := (List.getElem?_eq_some_iff.1 hx).1
        obtain ⟨k, hk⟩ : ∃ k, es.length = k := ⟨_, rfl⟩
        rw [hk] at x4 hil
        have hi1 : (i : Int) < k := by omega
        have hi2 : ¬ (i : Int) < 0 := by omega
        have hce : x.cd.toList.isEmpty = false := by unfold dcB at hd; simpa using hd
        clear hv hz h hn hf hg hd lg hx hk d0 d1 d2 d3 d4 d6
        go_enter Tryz.func27, Tryz.ntmps27
        go_wp2_with fail
        refine hvd.mono ?_
        rintro _ w9 ⟨rfl, h9⟩
        subst w9
        go_wp2_with fail
        refine hat.mono ?_
        rintro _ w9 ⟨rfl, h9⟩
        subst w9
        go_wp2_with fail
        go_ret2
        exact ⟨by rw [HC.out]; rfl, rfl⟩
end
end Go.Proofs.YtplhdgijjckjcaaGreatDoor
