import Derived.Test.YtjbkfppibnlmoaaGreatDoorIbRb4
import Derived.Test.YtjbkfppibnlmoaaGreatDoorIbOff
import Derived.Test.YtjbkfppibnlmoaaGreatDoorIbDcd
import Derived.Test.YtjbkfppibnlmoaaGreatDoorLgMap
import Derived.Deep.DeepCutAuto
/-
  The document's box: Find.
-/
namespace Go.Proofs.YtjbkfppibnlmoaaGreatDoor
open Go.RowKit

section
variable {w w' : World} {B X : Nat} {v : Value} {K R : Int} {es : List Ent}
set_option maxRecDepth 100000 in
set_option maxHeartbeats 2000000 in
theorem rfind_no (h : RBx w B X v K R es) (s : ByteArray) (hf : fi s es = none) : Calls Tryz.prog 59 #[.pointer (some ⟨X, 1, none⟩), .string s] w (EnQ w zE false) := by
  have bv : Below w.heap.size w (w.alloc (.cells #[.string ⟨#[]⟩, .slice none 0 0, .int .i64 0, .int .i64 0, .slice none 0 0, .string ⟨#[]⟩, .slice none 0 0] 30)) := (Below.refl _ _).alloc (Nat.le_refl _) _
  have bx := Box.new w #[.string ⟨#[]⟩, .slice none 0 0, .int .i64 0, .int .i64 0, .slice none 0 0, .string ⟨#[]⟩, .slice none 0 0] 30
  obtain ⟨V, hV⟩ : ∃ V, w.alloc (.cells #[.string ⟨#[]⟩, .slice none 0 0, .int .i64 0, .int .i64 0, .slice none 0 0, .string ⟨#[]⟩, .slice none 0 0] 30) = V := ⟨_, rfl⟩
  rw [hV] at bv bx
  have hat := rat_any (h.below bv) s (by have := h.inv.len; omega)
  rw [show fiI s es = -1 by unfold fiI; rw [hf]] at hat
  obtain ⟨xb, hxb⟩ : ∃ xb, w.heap.size = xb := ⟨_, rfl⟩
  have HB : Hid (Below w.heap.size w V) := bv
  rw [hxb] at bx
  have cx := bx.cell
  have fx := bx.free
  clear h hf bv bx
  go_enter Tryz.func59, Tryz.ntmps59
  go_wp2_with fail
  clear hV
  refine hat.mono ?_
  rintro _ w9 ⟨rfl, h9⟩
  subst w9
  go_wp2_with fail
  refine bodyPost_ret (v := .tuple #[.agg #[.string ⟨#[]⟩, .slice none 0 0, .int .i64 0, .int .i64 0, .slice none 0 0, .string ⟨#[]⟩, .slice none 0 0], .bool false]) ?_ rfl ⟨none, 0, none, 0, none, 0, rfl, zE_own _ _, ?_⟩
  · simp [results, Tryz.results59, go_sem, cx]
  · have hle := HB.out
    refine hle.trans (Off.below (P := fun q => q = xb) ?_ hle.size fun k hk => by omega)
    iterate 7 (refine Off.setCell (P := fun q => q = xb) ?_ (by exact rfl) _)
    exact Off.refl _ _
set_option maxRecDepth 100000 in
set_option maxHeartbeats 4000000 in
theorem rfind_yes (h : RBx w B X v K R es) (s : ByteArray) {i : Nat} {l : Ent} (hf : fi s es = some i) (hl : es[i]? = some l) (ht : l.tn ≤ 140737488355328 ∧ l.cn ≤ 140737488355328 ∧ l.an ≤ 140737488355328) : Calls Tryz.prog 59 #[.pointer (some ⟨X, 1, none⟩), .string s] w (EnQ w l true) := by
  have bv : Below w.heap.size w (w.alloc (.cells #[.string ⟨#[]⟩, .slice none 0 0, .int .i64 0, .int .i64 0, .slice none 0 0, .string ⟨#[]⟩, .slice none 0 0] 30)) := (Below.refl _ _).alloc (Nat.le_refl _) _
  have bx := Box.new w #[.string ⟨#[]⟩, .slice none 0 0, .int .i64 0, .int .i64 0, .slice none 0 0, .string ⟨#[]⟩, .slice none 0 0] 30
  obtain ⟨V, hV⟩ : ∃ V, w.alloc (.cells #[.string ⟨#[]⟩, .slice none 0 0, .int .i64 0, .int .i64 0, .slice none 0 0, .string ⟨#[]⟩, .slice none 0 0] 30) = V := ⟨_, rfl⟩
  rw [hV] at bv bx
  have h1 := h.below bv
  have hat := rat_any h1 s (by have := h.inv.len; omega)
  rw [show fiI s es = (i : Int) by unfold fiI; rw [hf]] at hat
  obtain ⟨a, c, e1, _⟩ := ERow.isSlice h1.row
  subst e1
  obtain ⟨g, rfl, lg, d0, d1, d2, d3, d4, d5, d6⟩ := nrow_cells h1.row hl
  have x4 := h1.c4
  have hil := (List.getElem?_eq_some_iff.1 hl).1
  obtain ⟨n, hn⟩ : ∃ n, es.length = n := ⟨_, rfl⟩
  rw [hn] at x4 hil
  have hi1 : (i : Int) < n := by omega
  have hi2 : ¬ (i : Int) < 0 := by omega
  obtain ⟨xb, hxb⟩ : ∃ xb, w.heap.size = xb := ⟨_, rfl⟩
  have HB : Hid (Below w.heap.size w V ∧ w.heap.size = xb ∧ xb < V.heap.size) := ⟨bv, hxb, by rw [← hxb]; exact bx.lt⟩
  rw [hxb] at bx
  have htw := (rtwin_any l V (h1.own l (List.mem_of_getElem? hl)).lies ht.1 ht.2.1 ht.2.2)
  have HX : Hid (Box V xb #[.string ⟨#[]⟩, .slice none 0 0, .int .i64 0, .int .i64 0, .slice none 0 0, .string ⟨#[]⟩, .slice none 0 0]) := bx
  clear bv h h1 hl ht hf bx lg hn
  go_enter Tryz.func59, Tryz.ntmps59
  go_wp2_with fail
  clear hV
  refine hat.mono ?_
  rintro _ w9 ⟨rfl, h9⟩
  subst w9
  go_wp2_with fail
  refine htw.mono ?_
  rintro _ w1 ⟨a1, c1, a2, c2, a3, c3, rfl, ho, hb⟩
  have hx3 := HX.out.below hb
  have cx3 := hx3.cell
  have fx3 := hx3.free
  have HE : Hid (∀ W', Off (fun q => q = xb) w1 W' → Own W' w.heap.size (l.wi a1 c1 a2 c2 a3 c3) ∧ Below w.heap.size w W') := fun W' ho' => by
    obtain ⟨q1, q2, q3⟩ := HB.out
    exact ⟨(ho.off ho' fun q hq e => by omega).base q1.size, (below_then q1 hb).trans (ho'.below (Nat.le_trans q1.size hb.size) fun k hk => by omega)⟩
  clear htw hat ho hb hx3 d0 d1 d2 d3 d4 d5 d6 x4
  go_wp2_with fail
  refine bodyPost_ret ?_ rfl ⟨a1, c1, a2, c2, a3, c3, rfl, HE.out _ ?_⟩
  · simp [results, Tryz.results59, go_sem, cx3]
  · iterate 7 (refine Off.setCell ?_ (by exact rfl) _)
    exact Off.refl _ _
end
end Go.Proofs.YtjbkfppibnlmoaaGreatDoor

/-
  The document's box: Decide, refused.
-/
namespace Go.Proofs.YtjbkfppibnlmoaaGreatDoor
open Go.RowKit

section
variable {w w' : World} {B X : Nat} {v : Value} {K R : Int} {es : List Ent}
set_option maxRecDepth 100000 in
set_option maxHeartbeats 4000000 in
theorem rdec_no (h : RBx w B X v K R es) (s cd : ByteArray) (p : Option Addr) (n c : Nat) (hz : decC es s cd n ≠ 0) : Calls Tryz.prog 57 #[.pointer (some ⟨X, 1, none⟩), .string s, .string cd, .slice p n c] w fun r w' => r = .returned (.tuple #[.slice none 0 0, .int .i64 (decC es s cd n)]) ∧ w' = w := by
  have c1 := h.c1
  have hvd := rVerdict_any cd w
  have hat := rat_any h s (by have := h.inv.len; omega)
  cases hv : vdB cd with
  | false =>
    have HC : Hid (decC es s cd n = 302) := by unfold Hid decC; rw [if_pos hv]
    rw [hv] at hvd
    clear hv hz h hat
    go_enter Tryz.func57, Tryz.ntmps57
    go_wp2_with fail
    refine hvd.mono ?_
    rintro _ w9 ⟨rfl, h9⟩
    subst w9
    go_wp2_with fail
    go_ret2
    exact ⟨by rw [HC.out]; rfl, rfl⟩
  | true =>
    rw [hv] at hvd
    by_cases hn : 2048 < n
    · have HC : Hid (decC es s cd n = 4) := by unfold Hid decC; rw [if_neg (by rw [hv]; decide), if_pos hn]
      have hn1 : (n : Int) > 2048 := by omega
      clear hv hz h hat hn
      go_enter Tryz.func57, Tryz.ntmps57
      go_wp2_with fail
      refine hvd.mono ?_
      rintro _ w9 ⟨rfl, h9⟩
      subst w9
      go_wp2_with fail
      go_ret2
      exact ⟨by rw [HC.out]; rfl, rfl⟩
    · have hn1 : ¬ (n : Int) > 2048 := by omega
      cases hf : fi s es with
      | none =>
        have HC : Hid (decC es s cd n = 11) := by unfold Hid decC; rw [if_neg (by rw [hv]; decide), if_neg hn, hf]
        rw [show fiI s es = -1 by unfold fiI; rw [hf]] at hat
        clear hv hz h hn hf
        go_enter Tryz.func57, Tryz.ntmps57
        go_wp2_with fail
        refine hvd.mono ?_
        rintro _ w9 ⟨rfl, h9⟩
        subst w9
        go_wp2_with fail
        refine hat.mono ?_
        rintro _ w9 ⟨rfl, h9⟩
        subst w9
        go_wp2_with fail
        go_ret2
        exact ⟨by rw [HC.out]; rfl, rfl⟩
      | some i =>
        obtain ⟨x, hx, _, _⟩ := fi_some hf
        have hg : es.getD i zE = x := by rw [List.getD_eq_getElem?_getD, hx]; rfl
        have hd : dcB x = true := by
          cases hq : dcB x with
          | true => rfl
          | false =>
            refine absurd ?_ hz
            unfold decC
            rw [if_neg (by rw [hv]; decide), if_neg hn, hf]
            show (if dcB (es.getD i zE) = true then (6 : Int) else 0) = 0
            rw [hg, hq]
            rfl
        have HC : Hid (decC es s cd n = 6) := by
          unfold Hid decC
          rw [if_neg (by rw [hv]; decide), if_neg hn, hf]
          show (if dcB (es.getD i zE) = true then (6 : Int) else 0) = 6
          rw [hg, hd]
          rfl
        rw [show fiI s es = (i : Int) by unfold fiI; rw [hf]] at hat
        obtain ⟨a, c', e1, _⟩ := ERow.isSlice h.row
        subst e1
        obtain ⟨g, rfl, lg, d0, d1, d2, d3, d4, d5, d6⟩ := nrow_cells h.row hx
        have x4 := h.c4
        have hil := (List.getElem?_eq_some_iff.1 hx).1
        obtain ⟨k, hk⟩ : ∃ k, es.length = k := ⟨_, rfl⟩
        rw [hk] at x4 hil
        have hi1 : (i : Int) < k := by omega
        have hi2 : ¬ (i : Int) < 0 := by omega
        have hce : x.cd.toList.isEmpty = false := by unfold dcB at hd; simpa using hd
        clear hv hz h hn hf hg hd lg hx hk d0 d1 d2 d3 d4 d6
        go_enter Tryz.func57, Tryz.ntmps57
        go_wp2_with fail
        refine hvd.mono ?_
        rintro _ w9 ⟨rfl, h9⟩
        subst w9
        go_wp2_with fail
        refine hat.mono ?_
        rintro _ w9 ⟨rfl, h9⟩
        subst w9
        go_wp2_with fail
        go_ret2
        exact ⟨by rw [HC.out]; rfl, rfl⟩
end
end Go.Proofs.YtjbkfppibnlmoaaGreatDoor

/-
  The document's box: an entry's verdict written down in its place.
-/
namespace Go.Proofs.YtjbkfppibnlmoaaGreatDoor
open Go.RowKit

theorem flat_cd (cd : ByteArray) : ∀ (es : List Ent) (i : Nat) (x : Ent), es[i]? = some x → setAll (es.flatMap encE) (i * 7 + 5) [.string cd] = (es.set i { x with cd := cd }).flatMap encE
  | [], i, x, h => by simp at h
  | y :: r, 0, x, h => by
    simp only [List.getElem?_cons_zero, Option.some.injEq] at h
    subst h
    rw [List.flatMap_cons, List.set_cons_zero, List.flatMap_cons]
    simp [encE, setAll]
  | y :: r, i + 1, x, h => by
    rw [List.getElem?_cons_succ] at h
    rw [List.flatMap_cons, List.set_cons_succ, List.flatMap_cons, show (i + 1) * 7 + 5 = (encE y).length + (i * 7 + 5) by rw [encE_len]; omega, setAll_app, flat_cd cd r i x h]
theorem flat_an (p : Option Addr) (n c : Nat) (bs : List Int) : ∀ (es : List Ent) (i : Nat) (x : Ent), es[i]? = some x → setAll (es.flatMap encE) (i * 7 + 6) [.slice p n c] = (es.set i { x with ap := p, an := n, ac := c, ax := bs }).flatMap encE
  | [], i, x, h => by simp at h
  | y :: r, 0, x, h => by
    simp only [List.getElem?_cons_zero, Option.some.injEq] at h
    subst h
    rw [List.flatMap_cons, List.set_cons_zero, List.flatMap_cons]
    simp [encE, setAll]
  | y :: r, i + 1, x, h => by
    rw [List.getElem?_cons_succ] at h
    rw [List.flatMap_cons, List.set_cons_succ, List.flatMap_cons, show (i + 1) * 7 + 6 = (encE y).length + (i * 7 + 6) by rw [encE_len]; omega, setAll_app, flat_an p n c bs r i x h]
section
variable {w : World} {B g k c i : Nat} {es : List Ent} {x : Ent}
theorem row_cd (h : NRow w B (.slice (some ⟨g, 0, none⟩) k c) es) (hx : es[i]? = some x) (cd : ByteArray) : NRow (w.setCell ⟨g, i * 7 + 5, none⟩ (.string cd)) B (.slice (some ⟨g, 0, none⟩) k c) (es.set i { x with cd := cd }) := by
  have hk : k = es.length := ERow.len h
  subst hk
  have := own_setCells [.string cd] (i * 7 + 5) w _ h
  unfold NRow ERow
  rw [← flat_cd cd es i x hx, List.length_set]
  exact this
theorem row_an (h : NRow w B (.slice (some ⟨g, 0, none⟩) k c) es) (hx : es[i]? = some x) (p : Option Addr) (n c2 : Nat) (bs : List Int) : NRow (w.setCell ⟨g, i * 7 + 6, none⟩ (.slice p n c2)) B (.slice (some ⟨g, 0, none⟩) k c) (es.set i { x with ap := p, an := n, ac := c2, ax := bs }) := by
  have hk : k = es.length := ERow.len h
  subst hk
  have := own_setCells [.slice p n c2] (i * 7 + 6) w _ h
  unfold NRow ERow
  rw [← flat_an p n c2 bs es i x hx, List.length_set]
  exact this
end
end Go.Proofs.YtjbkfppibnlmoaaGreatDoor

/-
  The document's box: Decide, none goes.
-/
namespace Go.Proofs.YtjbkfppibnlmoaaGreatDoor
open Go.RowKit

section
variable {w w' : World} {B X : Nat} {v : Value} {K R : Int} {es : List Ent}
set_option maxRecDepth 100000 in
set_option maxHeartbeats 8000000 in
theorem rdec_stay (h : RBx w B X v K R es) (hXt : ∃ cs t cur, w.heap[X]? = some (.cells cs t cur) ∧ t ≠ 5 ∧ t ≠ 30) (hB : B ≤ w.heap.size) (s cd : ByteArray) (p : Option Addr) (n c : Nat) (bs : List Int) (hb : Byts w p n bs) (hpB : ∀ b o, p = some ⟨b, o, none⟩ → 0 < n → b < B) (hvd : vdB cd = true) (hn : n ≤ 2048) {i : Nat} {x : Ent} (hf : fi s es = some i) (hx : es[i]? = some x) (ho : opB x = true) (hm : ∀ a k, manyB K (es.set i (x.vd cd a n k bs)) = false) (hinv : ∀ a k, Inv K R (es.set i (x.vd cd a n k bs))) :
    Calls Tryz.prog 57 #[.pointer (some ⟨X, 1, none⟩), .string s, .string cd, .slice p n c] w fun r w' => r = .returned (.tuple #[.slice none 0 0, .int .i64 0]) ∧ Hid (∃ a k, RBQ w B X v K R (es.set i (x.vd cd a n k bs)) w' ∧ BRow w' w.heap.size (.slice a n k) bs) := by
  have hv0 := rVerdict_any cd w
  rw [hvd] at hv0
  have hat := rat_any h s (by have := h.inv.len; omega)
  rw [show fiI s es = (i : Int) by unfold fiI; rw [hf]] at hat
  obtain ⟨a, c', e1, _⟩ := ERow.isSlice h.row
  subst e1
  obtain ⟨g, rfl, lg, d0, d1, d2, d3, d4, d5, d6⟩ := nrow_cells h.row hx
  have hil := (List.getElem?_eq_some_iff.1 hx).1
  obtain ⟨m, hm0⟩ : ∃ m, es.length = m := ⟨_, rfl⟩
  have hm97 : m ≤ 97 := by rw [← hm0]; exact h.inv.len
  rw [hm0] at h hil
  have x4 := h.c4
  have c1 := h.c1
  have hn1 : ¬ (n : Int) > 2048 := by omega
  have hi1 : (i : Int) < m := by omega
  have hi2 : ¬ (i : Int) < 0 := by omega
  have hce : x.cd.toList.isEmpty = true := ho
  have fz := ERow.thaw h.row
  obtain ⟨W1, hW1⟩ : ∃ W, w.setCell ⟨g, i * 7 + 5, none⟩ (.string cd) = W := ⟨_, rfl⟩
  have r1 : NRow W1 B (.slice (some ⟨g, 0, none⟩) m c') (es.set i { x with cd := cd }) := by rw [← hW1]; exact row_cd h.row hx cd
  have o1 : Off (fun q => q = g) w W1 := by rw [← hW1]; exact Off.setCell (P := fun q => q = g) (Off.refl _ _) (p := ⟨g, i * 7 + 5, none⟩) rfl _
  obtain ⟨xcs, xt, xcur, hX0, hX1, hX2⟩ := hXt
  have nX : ¬ X = g := fun e2 => by
    obtain ⟨cs', hc⟩ := row_type h.row (g := g) rfl
    rw [← e2, hX0] at hc
    simp only [Option.some.injEq, Obj.cells.injEq] at hc
    exact hX2 hc.2.1
  have hgB : B ≤ g := (ERow.lt h.row (g := g) rfl).1
  have bytg : ∀ {z : World}, NRow z B (.slice (some ⟨g, 0, none⟩) m c') (es.set i { x with cd := cd }) → ∀ q cs, z.heap[q]? = some (.cells cs 5 (0, 0)) → ¬ q = g := fun {z} hr q cs hc e2 => by
    obtain ⟨cs', hc'⟩ := row_type hr (g := g) rfl
    rw [← e2, hc] at hc'
    simp at hc'
  have bytw : ∀ q cs, w.heap[q]? = some (.cells cs 5 (0, 0)) → ¬ q = g := fun q cs hc e2 => by
    obtain ⟨cs', hc'⟩ := row_type h.row (g := g) rfl
    rw [← e2, hc] at hc'
    simp at hc'
  have y4 : W1.cell? ⟨X, 4, none⟩ = some (.slice (some ⟨g, 0, none⟩) m c') := (o1.cell (p := ⟨X, 4, none⟩) h.lt nX).trans x4
  have HCp : Hid (∀ z, Below W1.heap.size W1 z → Calls Tryz.prog 76 #[.slice p n c] z fun r z' => ∃ a k, r = .returned (.slice a n k) ∧ z'.cell? ⟨X, 4, none⟩ = some (.slice (some ⟨g, 0, none⟩) m c') ∧ z'.cell? ⟨g, i * 7 + 6, none⟩ = some (.slice x.ap x.an x.ac) ∧ z'.frozen? ⟨g, i * 7 + 6, none⟩ = false ∧ Hid (RBQ w B X (.slice (some ⟨g, 0, none⟩) m c') K R (es.set i (x.vd cd a n k bs)) (z'.setCell ⟨g, i * 7 + 6, none⟩ (.slice a n k)) ∧ BRow (z'.setCell ⟨g, i * 7 + 6, none⟩ (.slice a n k)) w.heap.size (.slice a n k) bs)) := fun z hz => by
    have hbz : Byts z p n bs := by
      rcases Nat.eq_zero_or_pos n with h0 | h0
      · exact ⟨hb.len, fun j hj => by omega⟩
      · exact (hb.off o1 fun b o e2 _ e3 => by have := hpB b o e2 h0; omega).below hz
    refine (rcop_any (c := c) z hbz (by omega)).mono ?_
    rintro r z' ⟨a, k, e2, br, bz⟩
    have hz' : Below W1.heap.size W1 z' := below_then hz bz
    have r2 := ERow.below r1 hz'
    have hx1 : (es.set i { x with cd := cd })[i]? = some { x with cd := cd } := by rw [List.getElem?_set_self (by rw [hm0]; exact hil)]
    obtain ⟨g', eg, _, _, _, _, _, _, _, k6⟩ := nrow_cells r2 hx1
    obtain rfl : g = g' := by simpa using eg
    refine ⟨a, k, e2, ?_, k6, ERow.thaw r2 _, ?_⟩
    · rw [hz'.cell (p := ⟨X, 4, none⟩) (Nat.lt_of_lt_of_le h.lt o1.size)]; exact y4
    have o3 : Off (fun q => q = g) z' (z'.setCell ⟨g, i * 7 + 6, none⟩ (.slice a n k)) := Off.setCell (P := fun q => q = g) (Off.refl _ _) (p := ⟨g, i * 7 + 6, none⟩) rfl _
    have oall : Off (fun q => q = g) w (z'.setCell ⟨g, i * 7 + 6, none⟩ (.slice a n k)) := o1.trans ((Off.of_below hz').trans o3)
    have r3 := row_an r2 hx1 a n k bs
    rw [List.set_set] at r3
    have ec : ∀ o, (z'.setCell ⟨g, i * 7 + 6, none⟩ (.slice a n k)).cell? ⟨X, o, none⟩ = w.cell? ⟨X, o, none⟩ := fun o => oall.cell (p := ⟨X, o, none⟩) h.lt nX
    have key : ∀ {u : Value} {l : List Int}, BRow w B u l → BRow (z'.setCell ⟨g, i * 7 + 6, none⟩ (.slice a n k)) B u l := fun {u l} hu => ERow.off hu oall fun q hq e3 => by
      obtain ⟨cs', hc'⟩ := (show ∃ cs, w.heap[q]? = some (.cells cs 5 (0, 0)) by
        rcases hu.2 with ⟨rfl, _⟩ | ⟨g1, c1, u1, rfl, _, b1, _⟩
        · cases hq
        · simp only [Value.ownBlock, Option.some.injEq] at hq
          subst hq
          exact ⟨_, b1⟩)
      exact bytw q cs' hc' e3
    have hbr : BRow (z'.setCell ⟨g, i * 7 + 6, none⟩ (.slice a n k)) w.heap.size (.slice a n k) bs := ERow.base (ERow.off br o3 fun q hq e3 => by
      have := (ERow.lt br hq).1
      have := hz.size
      have := o1.size
      omega) (Nat.le_trans o1.size hz.size)
    refine ⟨⟨_, ⟨Nat.lt_of_lt_of_le h.lt oall.size, by rw [ec]; exact h.c1, by rw [ec]; exact h.c2, by rw [ec]; exact h.c3, by rw [ec]; exact x4, by rw [oall.frozen (p := ⟨X, 4, none⟩) h.lt nX]; exact h.fz, r3, fun y hy => ?_, hinv a k⟩, oall.mono fun q e3 => Or.inr (by rw [e3]; rfl), fun q e3 => Or.inl e3, XK.of_off oall nX⟩, hbr⟩
    rcases List.mem_or_eq_of_mem_set hy with g1 | rfl
    · exact ⟨key (h.own y g1).t, key (h.own y g1).c, key (h.own y g1).a⟩
    · have hox := h.own x (List.mem_of_getElem? hx)
      refine ⟨key hox.t, key hox.c, ?_⟩
      exact ERow.base hbr hB
  have HM : Hid (∀ a k, manyB K (es.set i (x.vd cd a n k bs)) = false ∧ (es.set i (x.vd cd a n k bs)).length = m) := fun a k => ⟨hm a k, by rw [List.length_set]; exact hm0⟩
  have HK : Hid (1 ≤ K ∧ K ≤ 64) := ⟨h.inv.k1, h.inv.k2⟩
  have f5 := fz (i * 7 + 5)
  have hW2 : Hid (w.setCell ⟨g, i * 7 + 5, none⟩ (.string cd) = W1) := hW1
  rw [hm0]
  clear h hX0 hX1 hX2 r1 o1 bytg bytw hb hpB hvd hf hx ho hm hinv hB lg hgB nX hm0 d0 d1 d2 d3 d4 d6 fz hil
  go_enter Tryz.func57, Tryz.ntmps57
  go_wp2_with fail
  refine hv0.mono ?_
  rintro _ w9 ⟨rfl, h9⟩
  subst w9
  go_wp2_with fail
  refine hat.mono ?_
  rintro _ w9 ⟨rfl, h9⟩
  subst w9
  clear hv0 hat
  go_upto_region 13 with fail
  go_cut [] (fun wx => Hid (∃ a k, RBQ w B X (.slice (some ⟨g, 0, none⟩) m c') K R (es.set i (x.vd cd a n k bs)) wx ∧ BRow wx w.heap.size (.slice a n k) bs))
  case first =>
    clear HM HK hW2 x4 c1 d5 f5
    go_region_law (go_simp; go_at_call 76; refine (HCp.out _ ?_).mono ?_; (first | exact Below.refl _ _ | exact (Below.refl _ _).drew); rintro _ y1 ⟨a1, k1, rfl, g1, g2, g3, HF⟩)
    all_goals
      go_wp2_with fail
      go_meet
      exact ⟨a1, k1, HF.out⟩
  case rest =>
    obtain ⟨a1, k1, hq, _⟩ := hcut.out
    have HF : Hid (∃ a k, RBQ w B X (.slice (some ⟨g, 0, none⟩) m c') K R (es.set i (x.vd cd a n k bs)) wc ∧ BRow wc w.heap.size (.slice a n k) bs) := hcut
    obtain ⟨v', hb', _, _⟩ := hq
    obtain ⟨hmm, hll⟩ := HM.out a1 k1
    generalize es.set i (x.vd cd a1 n k1 bs) = es1 at hb' hmm hll
    obtain ⟨a3, c3, e3, _⟩ := ERow.isSlice hb'.row
    have HO : Hid (∀ j, Calls Tryz.prog 49 #[.pointer (some ⟨X, 1, none⟩)] (wc.drewN j) fun r w' => r = .returned (.int .i64 (nOp es1 : Int)) ∧ w' = wc.drewN j) := fun j => ropen_any (hb'.below (below_drewN (Below.refl _ _) j)) (by omega)
    have k4 := hb'.c4
    have k2 := hb'.c2
    rw [e3, hll] at k4
    have hno := nOp_add es1
    rw [hll] at hno
    obtain ⟨q, hq0⟩ : ∃ q, nOp es1 = q := ⟨_, rfl⟩
    rw [hq0] at HO hno
    have hsub : IntKind.i64.wrap ((m : Int) - (q : Int)) = (nDc es1 : Int) := by rw [IntKind.wrap_i64]; omega
    have hadd : IntKind.i64.wrap (K + 1) = K + 1 := by have := HK.out; rw [IntKind.wrap_i64]; omega
    have hle : (nDc es1 : Int) ≤ K + 1 := by
      unfold manyB at hmm
      have := of_decide_eq_false hmm
      omega
    obtain ⟨dn, hdn⟩ : ∃ d, (nDc es1 : Int) = d := ⟨_, rfl⟩
    rw [hdn] at hsub hle
    clear hcut hb' hmm hll e3 hno hq0 hdn HM HK HCp y4 x4 c1 d5 f5 hW2 hW1
    go_wp2_with fail
    go_quiet ((go_at_call 49; exact Calls.quiet_of_same (HO.out _)))
    go_wp2_with fail
    go_ret2
    obtain ⟨a2, k2', ⟨v2, hb2, ho2, hs2, hx2⟩, hr2⟩ := HF.out
    exact ⟨rfl, a2, k2', ⟨v2, hb2.below (below_drewN (Below.refl _ _) _), ho2.drewN _, hs2, fun cs t h => hx2 cs t h⟩, ERow.below hr2 (below_drewN (Below.refl _ _) _)⟩
end
end Go.Proofs.YtjbkfppibnlmoaaGreatDoor
