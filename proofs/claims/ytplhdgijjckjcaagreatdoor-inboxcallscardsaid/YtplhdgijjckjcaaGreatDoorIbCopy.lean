/-
  Bytes that lie somewhere, rows of bytes; an entry copied.
-/
import Derived.Test.YtplhdgijjckjcaaGreatDoorIbLeaf
namespace Go.Proofs.YtplhdgijjckjcaaGreatDoor
open Go.RowKit

/-- The bytes that a byte string holds. -/
structure Byts (w : World) (po : Option Addr) (n : Nat) (bs : List Int) : Prop where
  len : bs.length = n
  cell : ∀ j, j < n → ∃ b o, po = some ⟨b, o, none⟩ ∧ b < w.heap.size ∧ w.cell? ⟨b, o + j, none⟩ = some (.int .u8 (bs.getD j 0))
theorem Byts.off {P : Nat → Prop} {w w' : World} {po : Option Addr} {n : Nat} {bs : List Int} (h : Byts w po n bs) (ho : Off P w w') (hP : ∀ b o, po = some ⟨b, o, none⟩ → b < w.heap.size → ¬ P b) : Byts w' po n bs :=
  ⟨h.len, fun j hj => by
    obtain ⟨b, o, e, hl, hc⟩ := h.cell j hj
    exact ⟨b, o, e, Nat.lt_of_lt_of_le hl ho.size, by rw [ho.cell (p := ⟨b, o + j, none⟩) hl (hP b o e hl)]; exact hc⟩⟩
theorem Byts.below {w w' : World} {po : Option Addr} {n : Nat} {bs : List Int} (h : Byts w po n bs) (hb : Below w.heap.size w w') : Byts w' po n bs := h.off (P := fun _ => False) (Off.of_below hb) (fun _ _ _ _ => id)
theorem Byts.nil (w : World) (po : Option Addr) : Byts w po 0 [] := ⟨rfl, fun j hj => by omega⟩
theorem Byts.uniq {w : World} {po : Option Addr} {n : Nat} {bs cs : List Int} (h : Byts w po n bs) (g : Byts w po n cs) : bs = cs := by
  apply List.ext_getElem (by rw [h.len, g.len])
  intro j hj hj'
  obtain ⟨b, o, e, _, hc⟩ := h.cell j (by have := h.len; omega)
  obtain ⟨b', o', e', _, hc'⟩ := g.cell j (by have := h.len; omega)
  rw [e] at e'
  simp only [Option.some.injEq, Addr.mk.injEq, and_true] at e'
  obtain ⟨rfl, rfl⟩ := e'
  rw [hc] at hc'
  simp only [Option.some.injEq, Value.int.injEq, true_and] at hc'
  rw [List.getD_eq_getElem?_getD, List.getD_eq_getElem?_getD, List.getElem?_eq_getElem hj, List.getElem?_eq_getElem hj'] at hc'
  exact hc'
def encB (z : Int) : List Value := [.int .u8 z]
theorem encB_len (z : Int) : (encB z).length = 1 := rfl
theorem encB_one (z : Int) : ∀ u ∈ encB z, u.oneCell' = true := fun u hu => by
  simp only [encB, List.mem_cons, List.not_mem_nil, or_false] at hu; rw [hu]; rfl
theorem celB : Cel Tryz.prog 5 1 1 := cel_of (by kernel_rfl)
theorem flatB (bs : List Int) {j : Nat} {u : Value} (h : (bs.flatMap encB)[j]? = some u) : j < bs.length ∧ u = .int .u8 (bs.getD j 0) := by
  have hj : j < bs.length := by
    have := (List.getElem?_eq_some_iff.1 h).1
    rwa [flat_len encB_len, Nat.mul_one] at this
  refine ⟨hj, ?_⟩
  have := flat_get encB_len bs j bs[j] 0 (List.getElem?_eq_getElem hj) (by decide)
  rw [Nat.mul_one, Nat.add_zero, h] at this
  simp only [encB, List.getElem?_cons_zero, Option.some.injEq] at this
  rw [this, List.getD_eq_getElem?_getD, List.getElem?_eq_getElem hj]
  rfl
/-- A text of one's own. -/
def BRow (w : World) (B : Nat) (v : Value) (bs : List Int) : Prop := ERow w B 5 1 encB v bs
theorem BRow.byts {w : World} {B : Nat} {a : Option Addr} {n c : Nat} {bs : List Int} (h : BRow w B (.slice a n c) bs) : Byts w a n bs := by
  refine ⟨(ERow.len h).symm, fun j hj => ?_⟩
  have hn := ERow.len h
  obtain ⟨g, e, hl, hc⟩ := ERow.at_ encB_len h (List.getElem?_eq_getElem (l := bs) (i := j) (by omega))
  refine ⟨g, 0, e, hl, ?_⟩
  have := hc 0 (by decide)
  rw [Nat.mul_one, Nat.add_zero] at this
  have hjl : j < bs.length := by omega
  rw [Nat.zero_add, this, List.getD_eq_getElem?_getD, List.getElem?_eq_getElem hjl]
  rfl
theorem run_bapp {w : World} {B : Nat} {v : Value} {po : Option Addr} {m c : Nat} {bs : List Int} (h : BRow w B v []) (hb : Byts w po m bs) (hl : m ≤ 140737488355328) (hB : B ≤ w.heap.size) :
    ∃ a' c' w', (Builtin.append_ #[27, 27] 27 #[v, .slice po m c]).run Tryz.prog w = .ok (.slice a' m c') w' ∧ BRow w' B (.slice a' m c') bs ∧ Off (fun q => v.ownBlock = some q) w w' := by
  obtain ⟨i, z, hi, hz, hzs, hs, hby⟩ := celB
  have hm := hb.len
  have hbn : ((0 + bs.length) + (0 + bs.length) / 4 + 192) * 1 ≤ 281474976710656 := by omega
  have hh : w.ownsRow B 5 1 v 0 ([] : List Value) := h
  obtain ⟨v', w', hr, r, o, l⟩ := run_append_k (P := Tryz.prog) w B 27 27 5 i z 1 1 Tryz.underlying27 hi hz hs hby hzs v 0 [] hh po bs.length c (bs.flatMap encB) (flat_len encB_len bs) (fun e => by
    rcases Nat.eq_zero_or_pos m with g | g
    · omega
    · obtain ⟨_, _, e', _⟩ := hb.cell 0 g
      rw [e] at e'; cases e') (fun a' ha j u hu => by
    obtain ⟨hj, rfl⟩ := flatB bs hu
    obtain ⟨b, o, e, _, hc⟩ := hb.cell j (by omega)
    rw [ha] at e
    obtain rfl : a' = ⟨b, o, none⟩ := by simpa using e
    rw [Addr.add_lit]; exact hc) (fun u hu => by
    obtain ⟨x, _, hx⟩ := List.mem_flatMap.1 hu
    exact encB_one x u hx) (by unfold maxLen; omega) hbn hB
  have hR : BRow w' B v' bs := by
    unfold BRow ERow
    rw [Nat.zero_add, List.nil_append] at r
    exact r
  obtain ⟨a', c', e1, _⟩ := ERow.isSlice hR
  rw [hm] at e1 hr
  subst e1
  exact ⟨a', c', w', hr, hR, o⟩
set_option maxRecDepth 100000 in
set_option maxHeartbeats 1000000 in
theorem fresh_any {po : Option Addr} {m c : Nat} {bs : List Int} (w : World) (hb : Byts w po m bs) (hm : m ≤ 1000000) :
    Calls Tryz.prog 61 #[.slice po m c] w fun e w' => ∃ a k, e = .returned (.slice a m k) ∧ BRow w' w.heap.size (.slice a m k) bs ∧ Below w.heap.size w w' := by
  obtain ⟨a', c', w', hr, r1, o1⟩ := run_bapp (v := .slice none 0 0) (c := c) (B := w.heap.size) (ERow.nil _ _ _ _ _) hb (by omega) (Nat.le_refl _)
  have HE : Hid (BRow w' w.heap.size (.slice a' m c') bs ∧ Below w.heap.size w w') := ⟨r1, o1.below (Nat.le_refl _) (fun k e => by simp [Value.ownBlock] at e)⟩
  clear hb r1 o1
  go_enter Tryz.func61, Tryz.ntmps61
  go_wp2_with (at_builtin; refine wpList_append_run rfl (.const (.slice none 0 0)) (.tmp 3) 27 _ rfl hr ?_)
  go_ret
  exact ⟨a', c', rfl, HE.out.1, HE.out.2⟩
/-- What of an entry lies elsewhere, and may be copied. -/
structure Lies (w : World) (e : Ent) : Prop where
  t : Byts w e.tp e.tn e.tx
  c : Byts w e.cp e.cn e.cx
  a : Byts w e.ap e.an e.ax
theorem Lies.below {w w' : World} {e : Ent} (h : Lies w e) (hb : Below w.heap.size w w') : Lies w' e := ⟨h.t.below hb, h.c.below hb, h.a.below hb⟩
theorem Lies.zero (w : World) : Lies w zE := ⟨Byts.nil _ _, Byts.nil _ _, Byts.nil _ _⟩
/-- An entry whose lists are its own. -/
structure Own (w : World) (B : Nat) (e : Ent) : Prop where
  t : BRow w B (.slice e.tp e.tn e.tc) e.tx
  c : BRow w B (.slice e.cp e.cn e.cc) e.cx
  a : BRow w B (.slice e.ap e.an e.ac) e.ax
theorem Own.lies {w : World} {B : Nat} {e : Ent} (h : Own w B e) : Lies w e := ⟨h.t.byts, h.c.byts, h.a.byts⟩
theorem Own.below {w w' : World} {B : Nat} {e : Ent} (h : Own w B e) (hb : Below w.heap.size w w') : Own w' B e := ⟨ERow.below h.t hb, ERow.below h.c hb, ERow.below h.a hb⟩
theorem Own.base {w : World} {B C : Nat} {e : Ent} (h : Own w B e) (hb : C ≤ B) : Own w C e := ⟨ERow.base h.t hb, ERow.base h.c hb, ERow.base h.a hb⟩
theorem Own.off {P : Nat → Prop} {w w' : World} {B : Nat} {e : Ent} (h : Own w B e) (ho : Off P w w') (hP : ∀ q, B ≤ q → ¬ P q) : Own w' B e :=
  ⟨ERow.off h.t ho fun g hg => hP g (ERow.lt h.t hg).1, ERow.off h.c ho fun g hg => hP g (ERow.lt h.c hg).1, ERow.off h.a ho fun g hg => hP g (ERow.lt h.a hg).1⟩
/-- Its blocks are blocks of bytes: what touches none of those keeps it. -/
theorem Own.byType {P : Nat → Prop} {w w' : World} {B : Nat} {e : Ent} (h : Own w B e) (ho : Off P w w') (hP : ∀ q cs, w.heap[q]? = some (.cells cs 5 (0, 0)) → ¬ P q) : Own w' B e := by
  have key : ∀ {v : Value} {bs : List Int}, BRow w B v bs → BRow w' B v bs := fun {v bs} hr => ERow.off hr ho fun g hg => by
    rcases hr.2 with ⟨rfl, _⟩ | ⟨g1, c1, u1, rfl, _, b1, _⟩
    · cases hg
    · simp only [Value.ownBlock, Option.some.injEq] at hg
      subst hg
      exact hP _ _ b1
  exact ⟨key h.t, key h.c, key h.a⟩
set_option maxRecDepth 100000 in
set_option maxHeartbeats 4000000 in
theorem copied_any (e : Ent) (w : World) (hl : Lies w e) (h1 : e.tn ≤ 1000000) (h2 : e.cn ≤ 1000000) (h3 : e.an ≤ 1000000) :
    Calls Tryz.prog 53 #[.agg #[.string e.ct, .slice e.tp e.tn e.tc, .int .i64 e.nu, .int .i64 e.tk, .slice e.cp e.cn e.cc, .string e.cd, .slice e.ap e.an e.ac]] w fun r w' => ∃ a c a' c' a'' c'', r = .returned (.agg #[.string e.ct, .slice a e.tn c, .int .i64 e.nu, .int .i64 e.tk, .slice a' e.cn c', .string e.cd, .slice a'' e.an c'']) ∧ Own w' w.heap.size (e.wi a c a' c' a'' c'') ∧ Below w.heap.size w w' := by
  have bv : Below w.heap.size w ((w.alloc (.cells #[.string e.ct, .slice e.tp e.tn e.tc, .int .i64 e.nu, .int .i64 e.tk, .slice e.cp e.cn e.cc, .string e.cd, .slice e.ap e.an e.ac] 29)).alloc (.cells #[.string ⟨#[]⟩, .slice none 0 0, .int .i64 0, .int .i64 0, .slice none 0 0, .string ⟨#[]⟩, .slice none 0 0] 29)) := ((Below.refl _ _).alloc (Nat.le_refl _) _).alloc (by simp) _
  have bx := (Box.new w #[.string e.ct, .slice e.tp e.tn e.tc, .int .i64 e.nu, .int .i64 e.tk, .slice e.cp e.cn e.cc, .string e.cd, .slice e.ap e.an e.ac] 29).alloc (.cells #[.string ⟨#[]⟩, .slice none 0 0, .int .i64 0, .int .i64 0, .slice none 0 0, .string ⟨#[]⟩, .slice none 0 0] 29)
  have by_ := Box.new (w.alloc (.cells #[.string e.ct, .slice e.tp e.tn e.tc, .int .i64 e.nu, .int .i64 e.tk, .slice e.cp e.cn e.cc, .string e.cd, .slice e.ap e.an e.ac] 29)) #[.string ⟨#[]⟩, .slice none 0 0, .int .i64 0, .int .i64 0, .slice none 0 0, .string ⟨#[]⟩, .slice none 0 0] 29
  rw [World.size_alloc] at by_
  obtain ⟨V, hV⟩ : ∃ V, ((w.alloc (.cells #[.string e.ct, .slice e.tp e.tn e.tc, .int .i64 e.nu, .int .i64 e.tk, .slice e.cp e.cn e.cc, .string e.cd, .slice e.ap e.an e.ac] 29)).alloc (.cells #[.string ⟨#[]⟩, .slice none 0 0, .int .i64 0, .int .i64 0, .slice none 0 0, .string ⟨#[]⟩, .slice none 0 0] 29)) = V := ⟨_, rfl⟩
  have HZ : Hid (V.heap.size = w.heap.size + 1 + 1) := by unfold Hid; rw [← hV]; simp
  rw [hV] at bx by_ bv
  have HL : Hid (Lies V e) := hl.below bv
  have HB0 : Hid (Below w.heap.size w V) := bv
  have HF : Hid (∀ (p : Option Addr) (n c : Nat) (z : World), (∃ bs, Byts V p n bs) → n ≤ 1000000 → Below V.heap.size V z → Calls Tryz.prog 61 #[.slice p n c] z fun r z' => ∃ a k, r = .returned (.slice a n k) ∧ Hid ((∀ bs, Byts V p n bs → BRow z' V.heap.size (.slice a n k) bs) ∧ Below z.heap.size z z') ∧ Hid (Below V.heap.size V z')) := fun p n c z ⟨bs, hb⟩ hn hz =>
    (fresh_any z (hb.below hz) hn).mono fun r z' ⟨a, k, g1, g2, g3⟩ => ⟨a, k, g1, ⟨fun bs' hb' => by rw [hb'.uniq hb]; exact ERow.base g2 hz.size, g3⟩, below_then hz g3⟩
  have HV0 : Hid (Below V.heap.size V V.drew) := Below.drew (Below.refl _ _)
  have cx := bx.cell
  have cy := by_.cell
  have fx := bx.free
  have fy := by_.free
  have lx := bx.lt
  have ly := by_.lt
  have HN : Hid (e.tn ≤ 1000000 ∧ e.cn ≤ 1000000 ∧ e.an ≤ 1000000) := ⟨h1, h2, h3⟩
  clear hl bv h1 h2 h3 bx by_
  go_enter Tryz.func53, Tryz.ntmps53
  go_wp2_with fail
  clear hV
  go_region_law (go_simp; go_at_call 61; refine (HF.out _ _ _ _ ?_ ?_ ?_).mono ?_; (first | exact ⟨_, HL.out.t⟩ | exact ⟨_, HL.out.c⟩ | exact ⟨_, HL.out.a⟩); (first | exact HN.out.1 | exact HN.out.2.1 | exact HN.out.2.2); (first | exact Hid.out (by assumption) | exact Below.refl _ _ | exact Below.drew (Below.refl _ _)); rintro _ w5 ⟨a5, c5, rfl, hh5, hb5⟩; have hc5 := (held_of hb5.out).cell; have hf5 := (held_of hb5.out).froz; go_wp2_with fail)
  all_goals
    rename_i wA aA cA hA hbA hcA hfA wB aB cB hB hbB hcB hfB
    have HE : Hid (∀ W', Off (fun q => q = w.heap.size ∨ q = w.heap.size + 1) w5 W' → Own W' w.heap.size (e.wi aA cA aB cB a5 c5) ∧ Below w.heap.size w W') := fun W' ho => by
      have hz := HZ.out
      have hn : ∀ q, V.heap.size ≤ q → ¬ (q = w.heap.size ∨ q = w.heap.size + 1) := fun q hq h => by omega
      have key : ∀ {v : Value} {bs : List Int}, BRow w5 V.heap.size v bs → BRow W' w.heap.size v bs := fun hr => ERow.base (ERow.off hr ho fun g hg => hn g (ERow.lt hr hg).1) (by omega)
      exact ⟨⟨key (ERow.below (ERow.below (hA.out.1 _ HL.out.t) hB.out.2) hh5.out.2), key (ERow.below (hB.out.1 _ HL.out.c) hh5.out.2), key (hh5.out.1 _ HL.out.a)⟩, (below_then HB0.out hb5.out).trans (ho.below (Nat.le_trans HB0.out.size hb5.out.size) fun k hk => by omega)⟩
    have kx : ∀ o, w5.cell? ⟨w.heap.size, o, none⟩ = _ := fun o => (hc5 _ o lx).trans (cx o)
    have ky : ∀ o, w5.cell? ⟨w.heap.size + 1, o, none⟩ = _ := fun o => (hc5 _ o ly).trans (cy o)
    have jx : ∀ o, w5.frozen? ⟨w.heap.size, o, none⟩ = false := fun o => (hf5 _ o lx).trans (fx o)
    have jy : ∀ o, w5.frozen? ⟨w.heap.size + 1, o, none⟩ = false := fun o => (hf5 _ o ly).trans (fy o)
    clear hA hbA hcA hfA hB hbB hcB hfB hh5 hb5 hc5 hf5 cx cy fx fy HF HL HV0 HB0
    go_wp2_with fail
    refine bodyPost_ret ?_ rfl ⟨aA, cA, aB, cB, a5, c5, rfl, HE.out _ ?_⟩
    · simp [results, Tryz.results53, go_sem, ky]
    · iterate 10 (refine Off.setCell ?_ (by first | exact Or.inl rfl | exact Or.inr rfl) _)
      exact Off.refl _ _
end Go.Proofs.YtplhdgijjckjcaaGreatDoor
