import Derived.Test.YtjbkfppibnlmoaaGreatDoorIbLeaf
/-
  Bytes that lie somewhere, rows of bytes; an entry copied.
-/
namespace Go.Proofs.YtjbkfppibnlmoaaGreatDoor
open Go.RowKit

/-- The bytes that a byte string holds. -/
structure Byts (w : World) (po : Option Addr) (n : Nat) (bs : List Int) : Prop where
  len : bs.length = n
  cell : ∀ j, j < n → ∃ b o, po = some ⟨b, o, none⟩ ∧ b < w.heap.size ∧ w.cell? ⟨b, o + j, none⟩ = some (.int .u8 (bs.getD j 0))
theorem Byts.off {P : Nat → Prop} {w w' : World} {po : Option Addr} {n : Nat} {bs : List Int} (h : Byts w po n bs) (ho : Off P w w') (hP : ∀ b o, po = some ⟨b, o, none⟩ → b < w.heap.size → ¬ P b) : Byts w' po n bs :=
  ⟨h.len, fun j hj => by
    obtain ⟨b, o, e, hl, hc⟩ := h.cell j hj
    exact ⟨b, o, e, Nat.lt_of_lt_of_le hl ho.size, by rw [ho.cell (p := ⟨b, o + j, none⟩) hl (hP b o e hl)]; exact hc⟩⟩
theorem Byts.below {w w' : World} {po : Option Addr} {n : Nat} {bs : List Int} (h : Byts w po n bs) (hb : Below w.heap.size w w') : Byts w' po n bs := h.off (P := fun _ => False) (Off.of_below hb) (fun _ _ _ _ => id)
theorem Byts.nil (w : World) (po : Option Addr) : Byts w po 0 [] := ⟨rfl, fun j hj => by omega⟩
theorem Byts.uniq {w : World} {po : Option Addr} {n : Nat} {bs cs : List Int} (h : Byts w po n bs) (g : Byts w po n cs) : bs = cs := by
  apply List.ext_getElem (by rw [h.len, g.len])
  intro j hj hj'
  obtain ⟨b, o, e, _, hc⟩ := h.cell j (by have := h.len; omega)
  obtain ⟨b', o', e', _, hc'⟩ := g.cell j (by have := h.len; omega)
  rw [e] at e'
  simp only [Option.some.injEq, Addr.mk.injEq, and_true] at e'
  obtain ⟨rfl, rfl⟩ := e'
  rw [hc] at hc'
  simp only [Option.some.injEq, Value.int.injEq, true_and] at hc'
  rw [List.getD_eq_getElem?_getD, List.getD_eq_getElem?_getD, List.getElem?_eq_getElem hj, List.getElem?_eq_getElem hj'] at hc'
  exact hc'
def encB (z : Int) : List Value := [.int .u8 z]
theorem encB_len (z : Int) : (encB z).length = 1 := rfl
theorem encB_one (z : Int) : ∀ u ∈ encB z, u.oneCell' = true := fun u hu => by
  simp only [encB, List.mem_cons, List.not_mem_nil, or_false] at hu; rw [hu]; rfl
theorem celB : Cel Tryz.prog 5 1 1 := cel_of (by kernel_rfl)
theorem flatB (bs : List Int) {j : Nat} {u : Value} (h : (bs.flatMap encB)[j]? = some u) : j < bs.length ∧ u = .int .u8 (bs.getD j 0) := by
  have hj : j < bs.length := by
    have := (List.getElem?_eq_some_iff.1 h).1
    rwa [flat_len encB_len, Nat.mul_one] at this
  refine ⟨hj, ?_⟩
  have := flat_get encB_len bs j bs[j] 0 (List.getElem?_eq_getElem hj) (by decide)
  rw [Nat.mul_one, Nat.add_zero, h] at this
  simp only [encB, List.getElem?_cons_zero, Option.some.injEq] at this
  rw [this, List.getD_eq_getElem?_getD, List.getElem?_eq_getElem hj]
  rfl
/-- A text of one's own. -/
def BRow (w : World) (B : Nat) (v : Value) (bs : List Int) : Prop := ERow w B 5 1 encB v bs
theorem BRow.byts {w : World} {B : Nat} {a : Option Addr} {n c : Nat} {bs : List Int} (h : BRow w B (.slice a n c) bs) : Byts w a n bs := by
  refine ⟨(ERow.len h).symm, fun j hj => ?_⟩
  have hn := ERow.len h
  obtain ⟨g, e, hl, hc⟩ := ERow.at_ encB_len h (List.getElem?_eq_getElem (l := bs) (i := j) (by omega))
  refine ⟨g, 0, e, hl, ?_⟩
  have := hc 0 (by decide)
  rw [Nat.mul_one, Nat.add_zero] at this
  have hjl : j < bs.length := by omega
  rw [Nat.zero_add, this, List.getD_eq_getElem?_getD, List.getElem?_eq_getElem hjl]
  rfl
theorem run_bapp {w : World} {B : Nat} {v : Value} {po : Option Addr} {m c : Nat} {bs : List Int} (h : BRow w B v []) (hb : Byts w po m bs) (hl : m ≤ 140737488355328) (hB : B ≤ w.heap.size) :
    ∃ a' c' w', (Builtin.append_ #[28, 28] 28 #[v, .slice po m c]).run Tryz.prog w = .ok (.slice a' m c') w' ∧ BRow w' B (.slice a' m c') bs ∧ Off (fun q => v.ownBlock = some q) w w' := by
  obtain ⟨i, z, hi, hz, hzs, hs, hby⟩ := celB
  have hm := hb.len
  have hbn : ((0 + bs.length) + (0 + bs.length) / 4 + 192) * 1 ≤ 281474976710656 := by omega
  have hh : w.ownsRow B 5 1 v 0 ([] : List Value) := h
  obtain ⟨v', w', hr, r, o, l⟩ := run_append_k (P := Tryz.prog) w B 28 28 5 i z 1 1 Tryz.underlying28 hi hz hs hby hzs v 0 [] hh po bs.length c (bs.flatMap encB) (flat_len encB_len bs) (fun e => by
    rcases Nat.eq_zero_or_pos m with g | g
    · omega
    · obtain ⟨_, _, e', _⟩ := hb.cell 0 g
      rw [e] at e'; cases e') (fun a' ha j u hu => by
    obtain ⟨hj, rfl⟩ := flatB bs hu
    obtain ⟨b, o, e, _, hc⟩ := hb.cell j (by omega)
    rw [ha] at e
    obtain rfl : a' = ⟨b, o, none⟩ := by simpa using e
    rw [Addr.add_lit]; exact hc) (fun u hu => by
    obtain ⟨x, _, hx⟩ := List.mem_flatMap.1 hu
    exact encB_one x u hx) (by unfold maxLen; omega) hbn hB
  have hR : BRow w' B v' bs := by
    unfold BRow ERow
    rw [Nat.zero_add, List.nil_append] at r
    exact r
  obtain ⟨a', c', e1, _⟩ := ERow.isSlice hR
  rw [hm] at e1 hr
  subst e1
  exact ⟨a', c', w', hr, hR, o⟩
set_option maxRecDepth 100000 in
set_option maxHeartbeats 1000000 in
theorem fresh_any {po : Option Addr} {m c : Nat} {bs : List Int} (w : World) (hb : Byts w po m bs) (hm : m ≤ 1000000) :
    Calls Tryz.prog 83 #[.slice po m c] w fun e w' => ∃ a k, e = .returned (.slice a m k) ∧ BRow w' w.heap.size (.slice a m k) bs ∧ Below w.heap.size w w' := by
  obtain ⟨a', c', w', hr, r1, o1⟩ := run_bapp (v := .slice none 0 0) (c := c) (B := w.heap.size) (ERow.nil _ _ _ _ _) hb (by omega) (Nat.le_refl _)
  have HE : Hid (BRow w' w.heap.size (.slice a' m c') bs ∧ Below w.heap.size w w') := ⟨r1, o1.below (Nat.le_refl _) (fun k e => by simp [Value.ownBlock] at e)⟩
  clear hb r1 o1
  go_enter Tryz.func83, Tryz.ntmps83
  go_wp2_with (at_builtin; refine wpList_append_run rfl (.const (.slice none 0 0)) (.tmp 3) 28 _ rfl hr ?_)
  go_ret
  exact ⟨a', c', rfl, HE.out.1, HE.out.2⟩
/-- What of an entry lies elsewhere, and may be copied. -/
structure Lies (w : World) (e : Ent) : Prop where
  t : Byts w e.tp e.tn e.tx
  c : Byts w e.cp e.cn e.cx
  a : Byts w e.ap e.an e.ax
theorem Lies.below {w w' : World} {e : Ent} (h : Lies w e) (hb : Below w.heap.size w w') : Lies w' e := ⟨h.t.below hb, h.c.below hb, h.a.below hb⟩
theorem Lies.zero (w : World) : Lies w zE := ⟨Byts.nil _ _, Byts.nil _ _, Byts.nil _ _⟩
/-- An entry whose lists are its own. -/
structure Own (w : World) (B : Nat) (e : Ent) : Prop where
  t : BRow w B (.slice e.tp e.tn e.tc) e.tx
  c : BRow w B (.slice e.cp e.cn e.cc) e.cx
  a : BRow w B (.slice e.ap e.an e.ac) e.ax
theorem Own.lies {w : World} {B : Nat} {e : Ent} (h : Own w B e) : Lies w e := ⟨h.t.byts, h.c.byts, h.a.byts⟩
theorem Own.below {w w' : World} {B : Nat} {e : Ent} (h : Own w B e) (hb : Below w.heap.size w w') : Own w' B e := ⟨ERow.below h.t hb, ERow.below h.c hb, ERow.below h.a hb⟩
theorem Own.base {w : World} {B C : Nat} {e : Ent} (h : Own w B e) (hb : C ≤ B) : Own w C e := ⟨ERow.base h.t hb, ERow.base h.c hb, ERow.base h.a hb⟩
theorem Own.off {P : Nat → Prop} {w w' : World} {B : Nat} {e : Ent} (h : Own w B e) (ho : Off P w w') (hP : ∀ q, B ≤ q → ¬ P q) : Own w' B e :=
  ⟨ERow.off h.t ho fun g hg => hP g (ERow.lt h.t hg).1, ERow.off h.c ho fun g hg => hP g (ERow.lt h.c hg).1, ERow.off h.a ho fun g hg => hP g (ERow.lt h.a hg).1⟩
/-- Its blocks are blocks of bytes: what touches none of those keeps it. -/
theorem Own.byType {P : Nat → Prop} {w w' : World} {B : Nat} {e : Ent} (h : Own w B e) (ho : Off P w w') (hP : ∀ q cs, w.heap[q]? = some (.cells cs 5 (0, 0)) → ¬ P q) : Own w' B e := by
  have key : ∀ {v : Value} {bs : List Int}, BRow w B v bs → BRow w' B v bs := fun {v bs} hr => ERow.off hr ho fun g hg => by
    rcases hr.2 with ⟨rfl, _⟩ | ⟨g1, c1, u1, rfl, _, b1, _⟩
    · cases hg
    · simp only [Value.ownBlock, Option.some.injEq] at hg
      subst hg
      exact hP _ _ b1
  exact ⟨key h.t, key h.c, key h.a⟩
set_option maxRecDepth 100000 in
set_option maxHeartbeats 4000000 in
theorem copied_any (e : Ent) (w : World) (hl : Lies w e) (h1 : e.tn ≤ 1000000) (h2 : e.cn ≤ 1000000) (h3 : e.an ≤ 1000000) :
    Calls Tryz.prog 62 #[.agg #[.string e.ct, .slice e.tp e.tn e.tc, .int .i64 e.nu, .int .i64 e.tk, .slice e.cp e.cn e.cc, .string e.cd, .slice e.ap e.an e.ac]] w fun r w' => ∃ a c a' c' a'' c'', r = .returned (.agg #[.string e.ct, .slice a e.tn c, .int .i64 e.nu, .int .i64 e.tk, .slice a' e.cn c', .string e.cd, .slice a'' e.an c'']) ∧ Own w' w.heap.size (e.wi a c a' c' a'' c'') ∧ Below w.heap.size w w' := by
  have bv : Below w.heap.size w ((w.alloc (.cells #[.string e.ct, .slice e.tp e.tn e.tc, .int .i64 e.nu, .int .i64 e.tk, .slice e.cp e.cn e.cc, .string e.cd, .slice e.ap e.an e.ac] 30)).alloc (.cells #[.string ⟨#[]⟩, .slice none 0 0, .int .i64 0, .int .i64 0, .slice none 0 0, .string ⟨#[]⟩, .slice none 0 0] 30)) := ((Below.refl _ _).alloc (Nat.le_refl _) _).alloc (by simp) _
  have bx := (Box.new w #[.string e.ct, .slice e.tp e.tn e.tc, .int .i64 e.nu, .int .i64 e.tk, .slice e.cp e.cn e.cc, .string e.cd, .slice e.ap e.an e.ac] 30).alloc (.cells #[.string ⟨#[]⟩, .slice none 0 0, .int .i64 0, .int .i64 0, .slice none 0 0, .string ⟨#[]⟩, .slice none 0 0] 30)
  have by_ := Box.new (w.alloc (.cells #[.string e.ct, .slice e.tp e.tn e.tc, .int .i64 e.nu, .int .i64 e.tk, .slice e.cp e.cn e.cc, .string e.cd, .slice e.ap e.an e.ac] 30)) #[.string ⟨#[]⟩, .slice none 0 0, .int .i64 0, .int .i64 0, .slice none 0 0, .string ⟨#[]⟩, .slice none 0 0] 30
  rw [World.size_alloc] at by_
  obtain ⟨V, hV⟩ : ∃ V, ((w.alloc (.cells #[.string e.ct, .slice e.tp e.tn e.tc, .int .i64 e.nu, .int .i64 e.tk, .slice e.cp e.cn e.cc, .string e.cd, .slice e.ap e.an e.ac] 30)).alloc (.cells #[.string ⟨#[]⟩, .slice none 0 0, .int .i64 0, .int .i64 0, .slice none 0 0, .string ⟨#[]⟩, .slice none 0 0] 30)) = V := ⟨_, rfl⟩
  have HZ : Hid (V.heap.size = w.heap.size + 1 + 1) := by unfold Hid; rw [← hV]; simp
  rw [hV] at bx by_ bv
  have HL : Hid (Lies V e) := hl.below bv
  have HB0 : Hid (Below w.heap.size w V) := bv
  have HF : Hid (∀ (p : Option Addr) (n c : Nat) (z : World), (∃ bs, Byts V p n bs) → n ≤ 1000000 → Below V.heap.size V z → Calls Tryz.prog 83 #[.slice p n c] z fun r z' => ∃ a k, r = .returned (.slice a n k) ∧ Hid ((∀ bs, Byts V p n bs → BRow z' V.heap.size (.slice a n k) bs) ∧ Below z.heap.size z z') ∧ Hid (Below V.heap.size V z')) := fun p n c z ⟨bs, hb⟩ hn hz =>
    (fresh_any z (hb.below hz) hn).mono fun r z' ⟨a, k, g1, g2, g3⟩ => ⟨a, k, g1, ⟨fun bs' hb' => by rw [hb'.uniq hb]; exact ERow.base g2 hz.size, g3⟩, below_then hz g3⟩
  have HV0 : Hid (Below V.heap.size V V.drew) := Below.drew (Below.refl _ _)
  have cx := bx.cell
  have cy := by_.cell
  have fx := bx.free
  have fy := by_.free
  have lx := bx.lt
  have ly := by_.lt
  have HN : Hid (e.tn ≤ 1000000 ∧ e.cn ≤ 1000000 ∧ e.an ≤ 1000000) := ⟨h1, h2, h3⟩
  clear hl bv h1 h2 h3 bx by_
  go_enter Tryz.func62, Tryz.ntmps62
  go_wp2_with fail
  clear hV
  go_region_law (go_simp; go_at_call 83; refine (HF.out _ _ _ _ ?_ ?_ ?_).mono ?_; (first | exact ⟨_, HL.out.t⟩ | exact ⟨_, HL.out.c⟩ | exact ⟨_, HL.out.a⟩); (first | exact HN.out.1 | exact HN.out.2.1 | exact HN.out.2.2); (first | exact Hid.out (by assumption) | exact Below.refl _ _ | exact Below.drew (Below.refl _ _)); rintro _ w5 ⟨a5, c5, rfl, hh5, hb5⟩; have hc5 := (held_of hb5.out).cell; have hf5 := (held_of hb5.out).froz; go_wp2_with fail)
  all_goals
    rename_i wA aA cA hA hbA hcA hfA wB aB cB hB hbB hcB hfB
    have HE : Hid (∀ W', Off (fun q => q = w.heap.size ∨ q = w.heap.size + 1) w5 W' → Own W' w.heap.size (e.wi aA cA aB cB a5 c5) ∧ Below w.heap.size w W') := fun W' ho => by
      have hz := HZ.out
      have hn : ∀ q, V.heap.size ≤ q → ¬ (q = w.heap.size ∨ q = w.heap.size + 1) := fun q hq h => by omega
      have key : ∀ {v : Value} {bs : List Int}, BRow w5 V.heap.size v bs → BRow W' w.heap.size v bs := fun hr => ERow.base (ERow.off hr ho fun g hg => hn g (ERow.lt hr hg).1) (by omega)
      exact ⟨⟨key (ERow.below (ERow.below (hA.out.1 _ HL.out.t) hB.out.2) hh5.out.2), key (ERow.below (hB.out.1 _ HL.out.c) hh5.out.2), key (hh5.out.1 _ HL.out.a)⟩, (below_then HB0.out hb5.out).trans (ho.below (Nat.le_trans HB0.out.size hb5.out.size) fun k hk => by omega)⟩
    have kx : ∀ o, w5.cell? ⟨w.heap.size, o, none⟩ = _ := fun o => (hc5 _ o lx).trans (cx o)
    have ky : ∀ o, w5.cell? ⟨w.heap.size + 1, o, none⟩ = _ := fun o => (hc5 _ o ly).trans (cy o)
    have jx : ∀ o, w5.frozen? ⟨w.heap.size, o, none⟩ = false := fun o => (hf5 _ o lx).trans (fx o)
    have jy : ∀ o, w5.frozen? ⟨w.heap.size + 1, o, none⟩ = false := fun o => (hf5 _ o ly).trans (fy o)
    clear hA hbA hcA hfA hB hbB hcB hfB hh5 hb5 hc5 hf5 cx cy fx fy HF HL HV0 HB0
    go_wp2_with fail
    refine bodyPost_ret ?_ rfl ⟨aA, cA, aB, cB, a5, c5, rfl, HE.out _ ?_⟩
    · simp [results, Tryz.results62, go_sem, ky]
    · iterate 10 (refine Off.setCell ?_ (by first | exact Or.inl rfl | exact Or.inr rfl) _)
      exact Off.refl _ _
end Go.Proofs.YtjbkfppibnlmoaaGreatDoor

/-
  Lists of entries: allCopied.
-/
namespace Go.Proofs.YtjbkfppibnlmoaaGreatDoor
open Go.RowKit

/-- The seven cells of an entry. -/
structure Cells (w : World) (g o : Nat) (m : Ent) : Prop where
  c0 : w.cell? ⟨g, o, none⟩ = some (.string m.ct)
  c1 : w.cell? ⟨g, o + 1, none⟩ = some (.slice m.tp m.tn m.tc)
  c2 : w.cell? ⟨g, o + 2, none⟩ = some (.int .i64 m.nu)
  c3 : w.cell? ⟨g, o + 3, none⟩ = some (.int .i64 m.tk)
  c4 : w.cell? ⟨g, o + 4, none⟩ = some (.slice m.cp m.cn m.cc)
  c5 : w.cell? ⟨g, o + 5, none⟩ = some (.string m.cd)
  c6 : w.cell? ⟨g, o + 6, none⟩ = some (.slice m.ap m.an m.ac)
theorem Cells.of {w : World} {g o : Nat} {m : Ent} (h : ∀ q, q < 7 → w.cell? ⟨g, o + q, none⟩ = (encE m)[q]?) : Cells w g o m :=
  ⟨h 0 (by decide), h 1 (by decide), h 2 (by decide), h 3 (by decide), h 4 (by decide), h 5 (by decide), h 6 (by decide)⟩
theorem Cells.keep {w w' : World} {g o : Nat} {m : Ent} (h : Cells w g o m) (hk : ∀ q, w'.cell? ⟨g, q, none⟩ = w.cell? ⟨g, q, none⟩) : Cells w' g o m :=
  ⟨by rw [hk]; exact h.c0, by rw [hk]; exact h.c1, by rw [hk]; exact h.c2, by rw [hk]; exact h.c3, by rw [hk]; exact h.c4, by rw [hk]; exact h.c5, by rw [hk]; exact h.c6⟩
theorem Cells.below {w w' : World} {g o : Nat} {m : Ent} (h : Cells w g o m) (hb : Below w.heap.size w w') : Cells w' g o m := by
  have hl : g < w.heap.size := cell_lt h.c0
  exact h.keep fun q => hb.cell (p := ⟨g, q, none⟩) hl
/-- A row of entries. -/
abbrev NRow (w : World) (B : Nat) (v : Value) (es : List Ent) : Prop := ERow w B 30 7 encE v es
theorem nrow_cells {w : World} {B : Nat} {a : Option Addr} {n c : Nat} {ms : List Ent} (h : NRow w B (.slice a n c) ms) {j : Nat} {m : Ent} (hm : ms[j]? = some m) : ∃ g, a = some ⟨g, 0, none⟩ ∧ g < w.heap.size ∧ Cells w g (j * 7) m := by
  obtain ⟨g, h1, h2, h3⟩ := h.at_ encE_len hm
  exact ⟨g, h1, h2, Cells.of h3⟩
theorem celE : Cel Tryz.prog 30 7 120 := cel_of (by kernel_rfl)
/-- Copies of entries: their lists elsewhere. -/
def Cps (w : World) (B : Nat) (ls ms : List Ent) : Prop := ls.length = ms.length ∧ ∀ (i : Nat) (l m : Ent), ls[i]? = some l → ms[i]? = some m → (∃ a c a' c' a'' c'', l = m.wi a c a' c' a'' c'') ∧ Own w B l
theorem Cps.nil (w : World) (B : Nat) : Cps w B [] [] := ⟨rfl, fun i l m h => by simp at h⟩
theorem Cps.snoc {w : World} {B : Nat} {ls ms : List Ent} {l m : Ent} (h : Cps w B ls ms) (h1 : ∃ a c a' c' a'' c'', l = m.wi a c a' c' a'' c'') (h2 : Own w B l) : Cps w B (ls ++ [l]) (ms ++ [m]) := by
  refine ⟨by simp [h.1], fun i x y hx hy => ?_⟩
  by_cases hi : i < ls.length
  · rw [List.getElem?_append_left hi] at hx
    rw [List.getElem?_append_left (by rw [← h.1]; exact hi)] at hy
    exact h.2 i x y hx hy
  · have hxi := (List.getElem?_eq_some_iff.1 hx).1
    simp only [List.length_append, List.length_singleton] at hxi
    obtain rfl : i = ls.length := by omega
    rw [List.getElem?_append_right (Nat.le_refl _), Nat.sub_self] at hx
    rw [List.getElem?_append_right (by rw [h.1]; exact Nat.le_refl _), h.1, Nat.sub_self] at hy
    simp only [List.getElem?_cons_zero, Option.some.injEq] at hx hy
    subst hx; subst hy
    exact ⟨h1, h2⟩
theorem Cps.keep {w w' : World} {B : Nat} {ls ms : List Ent} (h : Cps w B ls ms) (hk : ∀ l ∈ ls, Own w B l → Own w' B l) : Cps w' B ls ms := ⟨h.1, fun i l m hl hm => ⟨(h.2 i l m hl hm).1, hk l (List.mem_of_getElem? hl) (h.2 i l m hl hm).2⟩⟩
theorem Cps.below {w w' : World} {B : Nat} {ls ms : List Ent} (h : Cps w B ls ms) (hb : Below w.heap.size w w') : Cps w' B ls ms := h.keep fun _ _ ht => ht.below hb
theorem Cps.base {w : World} {B C : Nat} {ls ms : List Ent} (h : Cps w B ls ms) (hb : C ≤ B) : Cps w C ls ms := ⟨h.1, fun i l m hl hm => ⟨(h.2 i l m hl hm).1, (h.2 i l m hl hm).2.base hb⟩⟩
/-- Each of its entries lies somewhere and is no longer than may be copied. -/
def Lie (w : World) (e : Ent) : Prop := Lies w e ∧ e.tn ≤ 1000000 ∧ e.cn ≤ 1000000 ∧ e.an ≤ 1000000
theorem Lie.below {w w' : World} {e : Ent} (h : Lie w e) (hb : Below w.heap.size w w') : Lie w' e := ⟨h.1.below hb, h.2⟩
theorem run_make_ents {w : World} (n : Nat) (hn : n ≤ 1000000) : ∃ w', (Instr.makeSlice 22 (.int .i64 (n : Int)) (.int .i64 (n : Int))).run Tryz.prog w = .ok (.slice (some ⟨w.heap.size, 0, none⟩) n n) w' ∧ NRow w' w.heap.size (.slice (some ⟨w.heap.size, 0, none⟩) n n) (List.replicate n zE) ∧ Below w.heap.size w w' := by
  have h : (Tryz.prog.info? 30).map (fun i => (i.zero, i.size, i.bytes)) = some (some (.agg #[.string ⟨#[]⟩, .slice none 0 0, .int .i64 0, .int .i64 0, .slice none 0 0, .string ⟨#[]⟩, .slice none 0 0]), 7, 120) := by kernel_rfl
  obtain ⟨i, hi, e⟩ := Option.map_eq_some_iff.1 h
  simp only [Prod.mk.injEq] at e
  obtain ⟨hz, hs, hby⟩ := e
  obtain ⟨w', h1, h2, h3⟩ := run_make_full (P := Tryz.prog) w w.heap.size 22 30 i _ 7 Tryz.underlying22 hi hz hs .i64 .i64 n (by rw [hby]; omega) (by unfold maxLen; omega) (Nat.le_refl _)
  refine ⟨w', h1, ?_, (Off.of_grown h3).below (Nat.le_refl _) (fun k e => by cases e)⟩
  unfold NRow ERow
  rw [List.length_replicate]
  have e : (madeCells (Value.agg #[.string ⟨#[]⟩, .slice none 0 0, .int .i64 0, .int .i64 0, .slice none 0 0, .string ⟨#[]⟩, .slice none 0 0]).cells (n * 7)).toList = (List.replicate n zE).flatMap encE := made_flat encE_len (by decide) zE n
  rw [← e]
  exact h2
/-- In the midst of allCopied. -/
structure LsI (w : World) (g n : Nat) (ms : List Ent) (i : Nat) (wx : World) : Prop where
  ex : ∃ ls, ls.length = i ∧ NRow wx w.heap.size (.slice (some ⟨g, 0, none⟩) n n) (ls ++ List.replicate (n - i) zE) ∧ Cps wx w.heap.size ls (ms.take i)
  bel : Below w.heap.size w wx
/-- A list of copies ls. -/
def LsQ (w : World) (ms : List Ent) (e : Ending) (w' : World) : Prop := ∃ ls a c, e = .returned (.slice a ms.length c) ∧ NRow w' w.heap.size (.slice a ms.length c) ls ∧ Cps w' w.heap.size ls ms ∧ Below w.heap.size w w'
set_option maxRecDepth 100000 in
set_option maxHeartbeats 4000000 in
theorem allCopied_any {w : World} {B n c : Nat} {a : Option Addr} {ms : List Ent} (h : NRow w B (.slice a n c) ms) (hl : ∀ m ∈ ms, Lie w m) (hn6 : n ≤ 1000000) : Calls Tryz.prog 45 #[.slice a n c] w (LsQ w ms) := by
  have hn : ms.length = n := h.len.symm
  obtain ⟨w1, hmk1, hR, hB1⟩ := run_make_ents (w := w) n hn6
  have HI : Hid (LsI w w.heap.size n ms 0 w1) := ⟨⟨[], rfl, by simpa using hR, by simpa using Cps.nil _ _⟩, hB1⟩
  have HHw : Hid (NRow w B (.slice a n c) ms ∧ ∀ m ∈ ms, Lie w m) := ⟨h, hl⟩
  have HL : Hid (ms.length = n) := hn
  clear hn h hR hB1 hl
  go_enter Tryz.func45, Tryz.ntmps45
  go_wp2_with fail
  clear hmk1
  go_loopw [11] (fun t wx => ∃ i : Nat, i ≤ n ∧ t = .int .i64 i ∧ Hid (LsI w w.heap.size n ms i wx)) (fun t _ => n - (intOf t).toNat)
  case atStart => exact ⟨0, Nat.zero_le _, rfl, HI⟩
  case round =>
    obtain ⟨i, hi, rfl, HR⟩ := hrel
    by_cases hlt : i < n
    · have hlt1 : (i : Int) < n := by omega
      obtain ⟨m, hm⟩ : ∃ m, ms[i]? = some m := ⟨_, List.getElem?_eq_getElem (by rw [HL.out]; exact hlt)⟩
      have HHr : Hid (NRow wr B (.slice a n c) ms) := HHw.out.1.below (HR.out.bel)
      obtain ⟨g, rfl, hg, hc⟩ := nrow_cells HHr.out hm
      obtain ⟨d0, d1, d2, d3, d4, d5, d6⟩ := hc
      have HM : Hid (ms[i]? = some m) := hm
      have htx := (HHw.out.2 m (List.mem_of_getElem? hm)).below HR.out.bel
      have hcp := fun o => copied_any m (wr.alloc o) (htx.1.below ((Below.refl _ _).alloc (Nat.le_refl _) _)) htx.2.1 htx.2.2.1 htx.2.2.2
      clear hm htx
      go_wp2_with fail
      refine (hcp _).mono ?_
      rintro _ w5 ⟨a5, c5, a6, c6, a7, c7, rfl, hr5, hb5⟩
      have HB5 : Hid (Below w.heap.size w w5 ∧ Below wr.heap.size wr w5) := ⟨below_then (HR.out.bel.alloc HR.out.bel.size _) hb5, below_then ((Below.refl _ _).alloc (Nat.le_refl _) _) hb5⟩
      obtain ⟨ls, hls, hrow, hcps⟩ := HR.out.ex
      have hrow5 := hrow.below HB5.out.2
      have hll : (ls ++ List.replicate (n - i) zE).length = n := by simp; omega
      obtain ⟨z0, hz0⟩ : ∃ z0, (ls ++ List.replicate (n - i) zE)[i]? = some z0 := ⟨_, List.getElem?_eq_getElem (by rw [hll]; exact hlt)⟩
      obtain ⟨g', eg, hgl, hgc⟩ := nrow_cells hrow5 hz0
      obtain rfl : w.heap.size = g' := by simpa using eg
      obtain ⟨e0, e1, e2, e3, e4, e5, e6⟩ := hgc
      have hfz := ERow.thaw hrow5
      have HZ : Hid (LsI w w.heap.size n ms (i + 1) (w5.setCells w.heap.size (i * 7) (encE (m.wi a5 c5 a6 c6 a7 c7)))) := by
        have o1 : Off (fun q => q = w.heap.size) w5 (w5.setCells w.heap.size (i * 7) (encE (m.wi a5 c5 a6 c6 a7 c7))) := Off.setCells (P := fun q => q = w.heap.size) rfl _ _ _ (Off.refl _ _)
        have hset := erow_set encE_len hrow5 (m.wi a5 c5 a6 c6 a7 c7) (i := i) (by rw [hll]; exact hlt)
        have hse : (ls ++ List.replicate (n - i) zE).set i (m.wi a5 c5 a6 c6 a7 c7) = (ls ++ [m.wi a5 c5 a6 c6 a7 c7]) ++ List.replicate (n - (i + 1)) zE := by
          obtain ⟨k, hk⟩ : ∃ k, n - i = k + 1 := ⟨n - i - 1, by omega⟩
          rw [hk, List.replicate_succ, List.set_append_right _ _ (by omega), hls, Nat.sub_self, List.set_cons_zero, show n - (i + 1) = k by omega]
          simp
        have hapart : ∀ l, Own w5 w.heap.size l → Own (w5.setCells w.heap.size (i * 7) (encE (m.wi a5 c5 a6 c6 a7 c7))) w.heap.size l := fun l hl => hl.byType o1 fun q cs hq e => by
          rcases hrow5.2 with ⟨e1, _⟩ | ⟨g1, c1, u1, e1, _, b1, _⟩
          · cases e1
          · simp only [Value.slice.injEq, Option.some.injEq, Addr.mk.injEq, and_true] at e1
            rw [e, e1.1, b1] at hq
            simp at hq
        refine ⟨⟨ls ++ [m.wi a5 c5 a6 c6 a7 c7], by simp [hls], by rw [← hse]; exact hset, ?_⟩, HB5.out.1.trans (o1.below HB5.out.1.size (fun k hk => by omega))⟩
        rw [List.take_succ_eq_append_getElem (by rw [HL.out]; exact hlt), show ms[i]'(by rw [HL.out]; exact hlt) = m by have := HM.out; rw [List.getElem?_eq_getElem (by rw [HL.out]; exact hlt)] at this; exact Option.some.inj this]
        exact ((hcps.below HB5.out.2).keep fun l _ hl => hapart l hl).snoc ⟨a5, c5, a6, c6, a7, c7, rfl⟩ (hapart _ (hr5.base (by have := HR.out.bel.size; simp; omega)))
      clear hcp hr5 hb5 hls hrow hcps hrow5 hll hz0 eg d0 d1 d2 d3 d4 d5 d6
      go_wp2_with fail
      go_roundw
      case rel => exact ⟨i + 1, hlt, by go_num, HZ⟩
      case measure => simp [intOf]; omega
    · have hlt1 : ¬ (i : Int) < n := by omega
      have hin : i = n := by omega
      have HZ : Hid (∃ ls, NRow wr w.heap.size (.slice (some ⟨w.heap.size, 0, none⟩) n n) ls ∧ Cps wr w.heap.size ls ms) := by
        obtain ⟨ls, hls, hrow, hcps⟩ := HR.out.ex
        rw [List.take_of_length_le (by rw [HL.out]; omega)] at hcps
        rw [hin, Nat.sub_self, List.replicate_zero, List.append_nil] at hrow
        exact ⟨ls, hrow, hcps⟩
      clear hin
      go_wp2_with fail
      go_ret
      obtain ⟨ls, hrow, hcps⟩ := HZ.out
      exact ⟨ls, some ⟨w.heap.size, 0, none⟩, n, by rw [HL.out]; rfl, by rw [HL.out]; exact hrow, hcps, HR.out.bel⟩
end Go.Proofs.YtjbkfppibnlmoaaGreatDoor
