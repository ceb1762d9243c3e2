/-
  What Last and List hand out: each list of bytes in a block of its own.
-/
import Derived.Test.YtjbkfppibnlmoaaGreatDoorIlLd
import Derived.Test.YtjbkfppibnlmoaaGreatDoorIcHd
namespace Go.Proofs.YtjbkfppibnlmoaaGreatDoor
open Go.RowKit

/-- An entry's three lists share no block. -/
def Sep (e : Ent) : Prop := (∀ q, (Value.slice e.tp e.tn e.tc).ownBlock = some q → (Value.slice e.cp e.cn e.cc).ownBlock ≠ some q ∧ (Value.slice e.ap e.an e.ac).ownBlock ≠ some q) ∧ ∀ q, (Value.slice e.cp e.cn e.cc).ownBlock = some q → (Value.slice e.ap e.an e.ac).ownBlock ≠ some q
theorem zE_sep : Sep zE := ⟨fun q h => (by cases h), fun q h => (by cases h)⟩
/-- So do the entries of a list. -/
def SepL (ls : List Ent) : Prop := ∀ (i : Nat) (l : Ent), ls[i]? = some l → Sep l ∧ ∀ (j : Nat) (m : Ent), j < i → ls[j]? = some m → ∀ q, Blk m q → ¬ Blk l q
theorem SepL.nil : SepL [] := fun i l h => by simp at h
theorem SepL.snoc {ls : List Ent} {l : Ent} {n : Nat} (h : SepL ls) (hs : Sep l) (h1 : ∀ m ∈ ls, ∀ q, Blk m q → q < n) (h2 : ∀ q, Blk l q → n ≤ q) : SepL (ls ++ [l]) := fun i x hx => by
  rcases Nat.lt_or_ge i ls.length with g | g
  · rw [List.getElem?_append_left g] at hx
    refine ⟨(h i x hx).1, fun j m hj hm => ?_⟩
    rw [List.getElem?_append_left (by omega)] at hm
    exact (h i x hx).2 j m hj hm
  · have hi := (List.getElem?_eq_some_iff.1 hx).1
    simp only [List.length_append, List.length_singleton] at hi
    obtain rfl : i = ls.length := by omega
    rw [List.getElem?_append_right (Nat.le_refl _), Nat.sub_self] at hx
    simp only [List.getElem?_cons_zero, Option.some.injEq] at hx
    subst hx
    refine ⟨hs, fun j m hj hm q hq hq' => ?_⟩
    rw [List.getElem?_append_left hj] at hm
    have := h1 m (List.mem_of_getElem? hm) q hq
    have := h2 q hq'
    omega
/-- An entry handed out, each list in a block of its own. -/
def EnS (w : World) (m : Ent) (t : Bool) (r : Ending) (w' : World) : Prop := ∃ a c a' c' a'' c'', r = .returned (.tuple #[.agg #[.string m.ct, .slice a m.tn c, .int .i64 m.nu, .int .i64 m.tk, .slice a' m.cn c', .string m.cd, .slice a'' m.an c''], .bool t]) ∧ Own w' w.heap.size (m.wi a c a' c' a'' c'') ∧ Below w.heap.size w w' ∧ Sep (m.wi a c a' c' a'' c'')
theorem EnS.tw {w w' : World} {x y : Ent} {t : Bool} {r : Ending} (h : Tw x y) (hq : EnS w x t r w') : EnS w y t r w' := by
  obtain ⟨a, c, a', c', a'', c'', rfl⟩ := h
  obtain ⟨p, d, p', d', p'', d'', h1, h2, h3, h4⟩ := hq
  exact ⟨p, d, p', d', p'', d'', h1, h2, h3, h4⟩
theorem sep_of {e : Ent} {n1 n2 : Nat} (h1 : ∀ q, (Value.slice e.tp e.tn e.tc).ownBlock = some q → q < n1) (h2 : ∀ q, (Value.slice e.cp e.cn e.cc).ownBlock = some q → n1 ≤ q) (h3 : ∀ q, (Value.slice e.cp e.cn e.cc).ownBlock = some q → q < n2) (h4 : ∀ q, (Value.slice e.ap e.an e.ac).ownBlock = some q → n2 ≤ q) (h12 : n1 ≤ n2) : Sep e :=
  ⟨fun q hq => ⟨fun hq' => by have := h1 q hq; have := h2 q hq'; omega, fun hq' => by have := h1 q hq; have := h4 q hq'; omega⟩, fun q hq hq' => by have := h3 q hq; have := h4 q hq'; omega⟩
set_option maxRecDepth 100000 in
set_option maxHeartbeats 4000000 in
theorem copied_sep (e : Ent) (w : World) (hl : Lies w e) (h1 : e.tn ≤ 1000000) (h2 : e.cn ≤ 1000000) (h3 : e.an ≤ 1000000) :
    Calls Tryz.prog 62 #[.agg #[.string e.ct, .slice e.tp e.tn e.tc, .int .i64 e.nu, .int .i64 e.tk, .slice e.cp e.cn e.cc, .string e.cd, .slice e.ap e.an e.ac]] w fun r w' => ∃ a c a' c' a'' c'', r = .returned (.agg #[.string e.ct, .slice a e.tn c, .int .i64 e.nu, .int .i64 e.tk, .slice a' e.cn c', .string e.cd, .slice a'' e.an c'']) ∧ Own w' w.heap.size (e.wi a c a' c' a'' c'') ∧ Below w.heap.size w w' ∧ Sep (e.wi a c a' c' a'' c'') := by
  have bv : Below w.heap.size w ((w.alloc (.cells #[.string e.ct, .slice e.tp e.tn e.tc, .int .i64 e.nu, .int .i64 e.tk, .slice e.cp e.cn e.cc, .string e.cd, .slice e.ap e.an e.ac] 30)).alloc (.cells #[.string ⟨#[]⟩, .slice none 0 0, .int .i64 0, .int .i64 0, .slice none 0 0, .string ⟨#[]⟩, .slice none 0 0] 30)) := ((Below.refl _ _).alloc (Nat.le_refl _) _).alloc (by simp) _
  have bx := (Box.new w #[.string e.ct, .slice e.tp e.tn e.tc, .int .i64 e.nu, .int .i64 e.tk, .slice e.cp e.cn e.cc, .string e.cd, .slice e.ap e.an e.ac] 30).alloc (.cells #[.string ⟨#[]⟩, .slice none 0 0, .int .i64 0, .int .i64 0, .slice none 0 0, .string ⟨#[]⟩, .slice none 0 0] 30)
  have by_ := Box.new (w.alloc (.cells #[.string e.ct, .slice e.tp e.tn e.tc, .int .i64 e.nu, .int .i64 e.tk, .slice e.cp e.cn e.cc, .string e.cd, .slice e.ap e.an e.ac] 30)) #[.string ⟨#[]⟩, .slice none 0 0, .int .i64 0, .int .i64 0, .slice none 0 0, .string ⟨#[]⟩, .slice none 0 0] 30
  rw [World.size_alloc] at by_
  obtain ⟨V, hV⟩ : ∃ V, ((w.alloc (.cells #[.string e.ct, .slice e.tp e.tn e.tc, .int .i64 e.nu, .int .i64 e.tk, .slice e.cp e.cn e.cc, .string e.cd, .slice e.ap e.an e.ac] 30)).alloc (.cells #[.string ⟨#[]⟩, .slice none 0 0, .int .i64 0, .int .i64 0, .slice none 0 0, .string ⟨#[]⟩, .slice none 0 0] 30)) = V := ⟨_, rfl⟩
  have HZ : Hid (V.heap.size = w.heap.size + 1 + 1) := by unfold Hid; rw [← hV]; simp
  rw [hV] at bx by_ bv
  have HL : Hid (Lies V e) := hl.below bv
  have HB0 : Hid (Below w.heap.size w V) := bv
  have HF : Hid (∀ (p : Option Addr) (n c : Nat) (z : World), (∃ bs, Byts V p n bs) → n ≤ 1000000 → Below V.heap.size V z → Calls Tryz.prog 83 #[.slice p n c] z fun r z' => ∃ a k, r = .returned (.slice a n k) ∧ Hid ((∀ bs, Byts V p n bs → BRow z' V.heap.size (.slice a n k) bs) ∧ Below z.heap.size z z' ∧ (∀ q, (Value.slice a n k).ownBlock = some q → z.heap.size ≤ q ∧ q < z'.heap.size)) ∧ Hid (Below V.heap.size V z')) := fun p n c z ⟨bs, hb⟩ hn hz =>
    (fresh_any z (hb.below hz) hn).mono fun r z' ⟨a, k, g1, g2, g3⟩ => ⟨a, k, g1, ⟨fun bs' hb' => by rw [hb'.uniq hb]; exact ERow.base g2 hz.size, g3, fun q hq => ERow.lt g2 hq⟩, below_then hz g3⟩
  have HV0 : Hid (Below V.heap.size V V.drew) := Below.drew (Below.refl _ _)
  have cx := bx.cell
  have cy := by_.cell
  have fx := bx.free
  have fy := by_.free
  have lx := bx.lt
  have ly := by_.lt
  have HN : Hid (e.tn ≤ 1000000 ∧ e.cn ≤ 1000000 ∧ e.an ≤ 1000000) := ⟨h1, h2, h3⟩
  clear hl bv h1 h2 h3 bx by_
  go_enter Tryz.func62, Tryz.ntmps62
  go_wp2_with fail
  clear hV
  go_region_law (go_simp; go_at_call 83; refine (HF.out _ _ _ _ ?_ ?_ ?_).mono ?_; (first | exact ⟨_, HL.out.t⟩ | exact ⟨_, HL.out.c⟩ | exact ⟨_, HL.out.a⟩); (first | exact HN.out.1 | exact HN.out.2.1 | exact HN.out.2.2); (first | exact Hid.out (by assumption) | exact Below.refl _ _ | exact Below.drew (Below.refl _ _)); rintro _ w5 ⟨a5, c5, rfl, hh5, hb5⟩; have hc5 := (held_of hb5.out).cell; have hf5 := (held_of hb5.out).froz; go_wp2_with fail)
  all_goals
    rename_i wA aA cA hA hbA hcA hfA wB aB cB hB hbB hcB hfB
    have HE : Hid (∀ W', Off (fun q => q = w.heap.size ∨ q = w.heap.size + 1) w5 W' → Own W' w.heap.size (e.wi aA cA aB cB a5 c5) ∧ Below w.heap.size w W' ∧ Sep (e.wi aA cA aB cB a5 c5)) := fun W' ho => by
      have hz := HZ.out
      have hn : ∀ q, V.heap.size ≤ q → ¬ (q = w.heap.size ∨ q = w.heap.size + 1) := fun q hq h => by omega
      have key : ∀ {v : Value} {bs : List Int}, BRow w5 V.heap.size v bs → BRow W' w.heap.size v bs := fun hr => ERow.base (ERow.off hr ho fun g hg => hn g (ERow.lt hr hg).1) (by omega)
      exact ⟨⟨key (ERow.below (ERow.below (hA.out.1 _ HL.out.t) hB.out.2.1) hh5.out.2.1), key (ERow.below (hB.out.1 _ HL.out.c) hh5.out.2.1), key (hh5.out.1 _ HL.out.a)⟩, (below_then HB0.out hb5.out).trans (ho.below (Nat.le_trans HB0.out.size hb5.out.size) fun k hk => by omega), sep_of (fun q hq => (hA.out.2.2 q hq).2) (fun q hq => (by have := (hB.out.2.2 q hq).1; (try simp at this); omega)) (fun q hq => (hB.out.2.2 q hq).2) (fun q hq => (by have := (hh5.out.2.2 q hq).1; (try simp at this); omega)) hB.out.2.1.size⟩
    have kx : ∀ o, w5.cell? ⟨w.heap.size, o, none⟩ = _ := fun o => (hc5 _ o lx).trans (cx o)
    have ky : ∀ o, w5.cell? ⟨w.heap.size + 1, o, none⟩ = _ := fun o => (hc5 _ o ly).trans (cy o)
    have jx : ∀ o, w5.frozen? ⟨w.heap.size, o, none⟩ = false := fun o => (hf5 _ o lx).trans (fx o)
    have jy : ∀ o, w5.frozen? ⟨w.heap.size + 1, o, none⟩ = false := fun o => (hf5 _ o ly).trans (fy o)
    clear hA hbA hcA hfA hB hbB hcB hfB hh5 hb5 hc5 hf5 cx cy fx fy HF HL HV0 HB0
    go_wp2_with fail
    refine bodyPost_ret ?_ rfl ⟨aA, cA, aB, cB, a5, c5, rfl, HE.out _ ?_⟩
    · simp [results, Tryz.results62, go_sem, ky]
    · iterate 10 (refine Off.setCell ?_ (by first | exact Or.inl rfl | exact Or.inr rfl) _)
      exact Off.refl _ _
/-- In the midst of allCopied; each list in a block of its own. -/
structure LsJ (w : World) (g n : Nat) (ms : List Ent) (i : Nat) (wx : World) : Prop where
  ex : ∃ ls, ls.length = i ∧ NRow wx w.heap.size (.slice (some ⟨g, 0, none⟩) n n) (ls ++ List.replicate (n - i) zE) ∧ Cps wx w.heap.size ls (ms.take i) ∧ SepL ls
  bel : Below w.heap.size w wx
/-- A list of copies ls, each list in a block of its own; no room behind it. -/
def LsS (w : World) (ms : List Ent) (e : Ending) (w' : World) : Prop := ∃ ls a, e = .returned (.slice a ms.length ms.length) ∧ NRow w' w.heap.size (.slice a ms.length ms.length) ls ∧ Cps w' w.heap.size ls ms ∧ Below w.heap.size w w' ∧ SepL ls
set_option maxRecDepth 100000 in
set_option maxHeartbeats 4000000 in
theorem allCopied_sep {w : World} {B n c : Nat} {a : Option Addr} {ms : List Ent} (h : NRow w B (.slice a n c) ms) (hl : ∀ m ∈ ms, Lie w m) (hn6 : n ≤ 1000000) : Calls Tryz.prog 45 #[.slice a n c] w (LsS w ms) := by
  have hn : ms.length = n := h.len.symm
  obtain ⟨w1, hmk1, hR, hB1⟩ := run_make_ents (w := w) n hn6
  have HI : Hid (LsJ w w.heap.size n ms 0 w1) := ⟨⟨[], rfl, by simpa using hR, by simpa using Cps.nil _ _, SepL.nil⟩, hB1⟩
  have HHw : Hid (NRow w B (.slice a n c) ms ∧ ∀ m ∈ ms, Lie w m) := ⟨h, hl⟩
  have HL : Hid (ms.length = n) := hn
  clear hn h hR hB1 hl
  go_enter Tryz.func45, Tryz.ntmps45
  go_wp2_with fail
  clear hmk1
  go_loopw [11] (fun t wx => ∃ i : Nat, i ≤ n ∧ t = .int .i64 i ∧ Hid (LsJ w w.heap.size n ms i wx)) (fun t _ => n - (intOf t).toNat)
  case atStart => exact ⟨0, Nat.zero_le _, rfl, HI⟩
  case round =>
    obtain ⟨i, hi, rfl, HR⟩ := hrel
    by_cases hlt : i < n
    · have hlt1 : (i : Int) < n := by omega
      obtain ⟨m, hm⟩ : ∃ m, ms[i]? = some m := ⟨_, List.getElem?_eq_getElem (by rw [HL.out]; exact hlt)⟩
      have HHr : Hid (NRow wr B (.slice a n c) ms) := HHw.out.1.below (HR.out.bel)
      obtain ⟨g, rfl, hg, hc⟩ := nrow_cells HHr.out hm
      obtain ⟨d0, d1, d2, d3, d4, d5, d6⟩ := hc
      have HM : Hid (ms[i]? = some m) := hm
      have htx := (HHw.out.2 m (List.mem_of_getElem? hm)).below HR.out.bel
      have hcp := fun o => copied_sep m (wr.alloc o) (htx.1.below ((Below.refl _ _).alloc (Nat.le_refl _) _)) htx.2.1 htx.2.2.1 htx.2.2.2
      clear hm htx
      go_wp2_with fail
      refine (hcp _).mono ?_
      rintro _ w5 ⟨a5, c5, a6, c6, a7, c7, rfl, hr5, hb5, hs5⟩
      have HB5 : Hid (Below w.heap.size w w5 ∧ Below wr.heap.size wr w5) := ⟨below_then (HR.out.bel.alloc HR.out.bel.size _) hb5, below_then ((Below.refl _ _).alloc (Nat.le_refl _) _) hb5⟩
      obtain ⟨ls, hls, hrow, hcps, hsep⟩ := HR.out.ex
      have hrow5 := hrow.below HB5.out.2
      have hll : (ls ++ List.replicate (n - i) zE).length = n := by simp; omega
      obtain ⟨z0, hz0⟩ : ∃ z0, (ls ++ List.replicate (n - i) zE)[i]? = some z0 := ⟨_, List.getElem?_eq_getElem (by rw [hll]; exact hlt)⟩
      obtain ⟨g', eg, hgl, hgc⟩ := nrow_cells hrow5 hz0
      obtain rfl : w.heap.size = g' := by simpa using eg
      obtain ⟨e0, e1, e2, e3, e4, e5, e6⟩ := hgc
      have hfz := ERow.thaw hrow5
      have HZ : Hid (LsJ w w.heap.size n ms (i + 1) (w5.setCells w.heap.size (i * 7) (encE (m.wi a5 c5 a6 c6 a7 c7)))) := by
        have o1 : Off (fun q => q = w.heap.size) w5 (w5.setCells w.heap.size (i * 7) (encE (m.wi a5 c5 a6 c6 a7 c7))) := Off.setCells (P := fun q => q = w.heap.size) rfl _ _ _ (Off.refl _ _)
        have hset := erow_set encE_len hrow5 (m.wi a5 c5 a6 c6 a7 c7) (i := i) (by rw [hll]; exact hlt)
        have hse : (ls ++ List.replicate (n - i) zE).set i (m.wi a5 c5 a6 c6 a7 c7) = (ls ++ [m.wi a5 c5 a6 c6 a7 c7]) ++ List.replicate (n - (i + 1)) zE := by
          obtain ⟨k, hk⟩ : ∃ k, n - i = k + 1 := ⟨n - i - 1, by omega⟩
          rw [hk, List.replicate_succ, List.set_append_right _ _ (by omega), hls, Nat.sub_self, List.set_cons_zero, show n - (i + 1) = k by omega]
          simp
        have hapart : ∀ l, Own w5 w.heap.size l → Own (w5.setCells w.heap.size (i * 7) (encE (m.wi a5 c5 a6 c6 a7 c7))) w.heap.size l := fun l hl => hl.byType o1 fun q cs hq e => by
          rcases hrow5.2 with ⟨e1, _⟩ | ⟨g1, c1, u1, e1, _, b1, _⟩
          · cases e1
          · simp only [Value.slice.injEq, Option.some.injEq, Addr.mk.injEq, and_true] at e1
            rw [e, e1.1, b1] at hq
            simp at hq
        refine ⟨⟨ls ++ [m.wi a5 c5 a6 c6 a7 c7], by simp [hls], by rw [← hse]; exact hset, ?_, hsep.snoc hs5 (fun m hm q hq => ((hcps.own m hm).blk hq).2) (fun q hq => (by have := (hr5.blk hq).1; (try simp at this); omega))⟩, HB5.out.1.trans (o1.below HB5.out.1.size (fun k hk => by omega))⟩
        rw [List.take_succ_eq_append_getElem (by rw [HL.out]; exact hlt), show ms[i]'(by rw [HL.out]; exact hlt) = m by have := HM.out; rw [List.getElem?_eq_getElem (by rw [HL.out]; exact hlt)] at this; exact Option.some.inj this]
        exact ((hcps.below HB5.out.2).keep fun l _ hl => hapart l hl).snoc ⟨a5, c5, a6, c6, a7, c7, rfl⟩ (hapart _ (hr5.base (by have := HR.out.bel.size; simp; omega)))
      clear hcp hr5 hb5 hs5 hsep hls hrow hcps hrow5 hll hz0 eg d0 d1 d2 d3 d4 d5 d6
      go_wp2_with fail
      go_roundw
      case rel => exact ⟨i + 1, hlt, by go_num, HZ⟩
      case measure => simp [intOf]; omega
    · have hlt1 : ¬ (i : Int) < n := by omega
      have hin : i = n := by omega
      have HZ : Hid (∃ ls, NRow wr w.heap.size (.slice (some ⟨w.heap.size, 0, none⟩) n n) ls ∧ Cps wr w.heap.size ls ms ∧ SepL ls) := by
        obtain ⟨ls, hls, hrow, hcps, hsep⟩ := HR.out.ex
        rw [List.take_of_length_le (by rw [HL.out]; omega)] at hcps
        rw [hin, Nat.sub_self, List.replicate_zero, List.append_nil] at hrow
        exact ⟨ls, hrow, hcps, hsep⟩
      clear hin
      go_wp2_with fail
      go_ret
      obtain ⟨ls, hrow, hcps, hsep⟩ := HZ.out
      exact ⟨ls, some ⟨w.heap.size, 0, none⟩, by rw [HL.out]; rfl, by rw [HL.out]; exact hrow, hcps, HR.out.bel, hsep⟩
section
variable {w w' : World} {B b sb M : Nat} {v : Value} {K R : Int} {es : List Ent}
set_option maxRecDepth 100000 in
set_option maxHeartbeats 2000000 in
theorem blast_sep (h : Bx w B b sb M v K R es) {l : Ent} (hl : lasE es = l) {t : Bool} (ht : decide (0 < es.length) = t) : Calls Tryz.prog 26 #[.pointer (some ⟨b, 0, none⟩)] w (EnS w l t) := by
  have bv : Below w.heap.size w (w.alloc (.cells #[.string ⟨#[]⟩, .slice none 0 0, .int .i64 0, .int .i64 0, .slice none 0 0, .string ⟨#[]⟩, .slice none 0 0] 30)) := (Below.refl _ _).alloc (Nat.le_refl _) _
  have bx := Box.new w #[.string ⟨#[]⟩, .slice none 0 0, .int .i64 0, .int .i64 0, .slice none 0 0, .string ⟨#[]⟩, .slice none 0 0] 30
  obtain ⟨V, hV⟩ : ∃ V, w.alloc (.cells #[.string ⟨#[]⟩, .slice none 0 0, .int .i64 0, .int .i64 0, .slice none 0 0, .string ⟨#[]⟩, .slice none 0 0] 30) = V := ⟨_, rfl⟩
  rw [hV] at bv bx
  have h1 := h.below bv
  have hmk := made_yes h1
  have c0 := hcell h1.blk 0
  have hls := last_any h1.sh hl
  rw [ht] at hls
  have HL : Hid (Lie V l) := by
    unfold Hid
    rcases Nat.eq_zero_or_pos es.length with h0 | h0
    · obtain rfl : es = [] := List.eq_nil_of_length_eq_zero h0
      rw [← hl]
      exact lie_zero V
    · have := lasE_at (es := es) (n := es.length - 1) (by omega)
      rw [hl] at this
      exact h1.lie l (List.mem_of_getElem? this)
  have HX : Hid (Box V w.heap.size #[.string ⟨#[]⟩, .slice none 0 0, .int .i64 0, .int .i64 0, .slice none 0 0, .string ⟨#[]⟩, .slice none 0 0]) := bx
  have HB : Hid (Below w.heap.size w V) := bv
  obtain ⟨xb, hxb⟩ : ∃ xb, w.heap.size = xb := ⟨_, rfl⟩
  clear bv h h1 bx hl ht
  go_enter Tryz.func26, Tryz.ntmps26
  go_wp2_with (go_at_call 60; refine hmk.mono ?_; rintro _ w9 ⟨rfl, h9⟩; subst w9)
  clear hV
  refine hls.mono ?_
  rintro _ w1 ⟨rfl, hb1⟩
  have HB1 : Hid (Below w.heap.size w w1) := below_then HB.out hb1
  have HX1 : Hid (Box w1 w.heap.size #[.string ⟨#[]⟩, .slice none 0 0, .int .i64 0, .int .i64 0, .slice none 0 0, .string ⟨#[]⟩, .slice none 0 0]) := HX.out.below hb1
  have HL1 : Hid (Lie w1 l) := HL.out.below hb1
  clear hls hb1 HB HX HL c0 hmk
  go_wp2_with fail
  have bv2 : Below w1.heap.size w1 (w1.alloc (.cells #[.string l.ct, .slice l.tp l.tn l.tc, .int .i64 l.nu, .int .i64 l.tk, .slice l.cp l.cn l.cc, .string l.cd, .slice l.ap l.an l.ac] 30)) := (Below.refl _ _).alloc (Nat.le_refl _) _
  have by2 := Box.new w1 #[.string l.ct, .slice l.tp l.tn l.tc, .int .i64 l.nu, .int .i64 l.tk, .slice l.cp l.cn l.cc, .string l.cd, .slice l.ap l.an l.ac] 30
  generalize w1.alloc (.cells #[.string l.ct, .slice l.tp l.tn l.tc, .int .i64 l.nu, .int .i64 l.tk, .slice l.cp l.cn l.cc, .string l.cd, .slice l.ap l.an l.ac] 30) = V2 at bv2 by2 ⊢
  have HB2 : Hid (Below w.heap.size w V2) := below_then HB1.out bv2
  have HX2 : Hid (Box V2 w.heap.size #[.string ⟨#[]⟩, .slice none 0 0, .int .i64 0, .int .i64 0, .slice none 0 0, .string ⟨#[]⟩, .slice none 0 0]) := HX1.out.below bv2
  have hl2 := HL1.out.below bv2
  have hcp := copied_sep l V2 hl2.1 hl2.2.1 hl2.2.2.1 hl2.2.2.2
  have cy := by2.cell
  clear bv2 HB1 HX1 HL1 hl2 by2
  go_wp2_with fail
  refine hcp.mono ?_
  rintro _ w3 ⟨a1, c1, a2, c2, a3, c3, rfl, ho, hb, hs⟩
  have hx3 := HX2.out.below hb
  rw [hxb] at hx3
  have cx3 := hx3.cell
  have fx3 := hx3.free
  have HE : Hid (∀ W', Off (fun q => q = xb) w3 W' → Own W' w.heap.size (l.wi a1 c1 a2 c2 a3 c3) ∧ Below w.heap.size w W' ∧ Sep (l.wi a1 c1 a2 c2 a3 c3)) := fun W' ho' => by
    have hlt := HX2.out.lt
    refine ⟨(ho.off ho' fun q hq e => by omega).base HB2.out.size, (below_then HB2.out hb).trans (ho'.below (Nat.le_trans HB2.out.size hb.size) fun k hk => by omega), hs⟩
  clear hcp ho hb hs hx3 cy
  go_wp2_with fail
  refine bodyPost_ret ?_ rfl ⟨a1, c1, a2, c2, a3, c3, rfl, HE.out _ ?_⟩
  · simp [results, Tryz.results26, go_sem, cx3]
  · iterate 7 (refine Off.setCell ?_ (by exact rfl) _)
    exact Off.refl _ _
set_option maxRecDepth 100000 in
set_option maxHeartbeats 2000000 in
theorem list_sep (h : Bx w B b sb M v K R es) : Calls Tryz.prog 32 #[.pointer (some ⟨b, 0, none⟩)] w (LsS w es) := by
  have hmk := made_yes h
  have c0 := hcell h.blk 0
  have k2 := h.sh.cells.2.2.1
  obtain ⟨a, c, hv, _⟩ := h.sh.row.isSlice
  have hrow := h.sh.row
  rw [hv] at hrow k2
  have hal := allCopied_sep hrow h.lie h.sh.len
  clear h hv hrow
  go_enter Tryz.func32, Tryz.ntmps32
  go_wp2_with (go_at_call 60; refine hmk.mono ?_; rintro _ w9 ⟨rfl, h9⟩; subst w9)
  refine hal.mono ?_
  rintro _ w1 ⟨ls, a1, rfl, h1, h2, h3, h4⟩
  have HE : Hid (NRow w1 w.heap.size (.slice a1 es.length es.length) ls ∧ Cps w1 w.heap.size ls es ∧ Below w.heap.size w w1 ∧ SepL ls) := ⟨h1, h2, h3, h4⟩
  clear hal hmk c0 k2 h1 h2 h3 h4
  go_wp2_with fail
  go_ret
  exact ⟨ls, a1, rfl, HE.out.1, HE.out.2.1, HE.out.2.2.1, HE.out.2.2.2⟩
end
section
variable {w : World} {x : Value}
set_option maxRecDepth 100000 in
set_option maxHeartbeats 2000000 in
theorem last_uns (h : Un w x) : Calls Tryz.prog 26 #[x] w (EnS w zE false) := by
  have bv : Below w.heap.size w (w.alloc (.cells #[.string ⟨#[]⟩, .slice none 0 0, .int .i64 0, .int .i64 0, .slice none 0 0, .string ⟨#[]⟩, .slice none 0 0] 30)) := (Below.refl _ _).alloc (Nat.le_refl _) _
  have bx := Box.new w #[.string ⟨#[]⟩, .slice none 0 0, .int .i64 0, .int .i64 0, .slice none 0 0, .string ⟨#[]⟩, .slice none 0 0] 30
  obtain ⟨V, hV⟩ : ∃ V, w.alloc (.cells #[.string ⟨#[]⟩, .slice none 0 0, .int .i64 0, .int .i64 0, .slice none 0 0, .string ⟨#[]⟩, .slice none 0 0] 30) = V := ⟨_, rfl⟩
  rw [hV] at bv bx
  have hmk := made_no (h.below bv)
  have cx := bx.cell
  have fx := bx.free
  have HB : Hid (Below w.heap.size w V) := bv
  clear bv h bx
  go_enter Tryz.func26, Tryz.ntmps26
  go_wp2_with (go_at_call 60; refine hmk.mono ?_; rintro _ w9 ⟨rfl, h9⟩; subst w9)
  clear hV
  refine bodyPost_ret ?_ rfl ⟨none, 0, none, 0, none, 0, rfl, zE_own _ _, ?_, zE_sep⟩
  · simp [results, Tryz.results26, go_sem, cx, zE]
  · repeat' (first | (with_reducible exact HB.out) | (with_reducible refine Below.setCell ?_ (by exact Nat.le_refl _) _) | (with_reducible refine Below.alloc ?_ (by simp; omega) _))
end
/-- A list of copies, each list of bytes in a block of its own, no room behind it. -/
def LtS (w : World) (A : List Ent) (r : Ending) (w' : World) : Prop := ∃ ls a, r = .returned (.slice a A.length A.length) ∧ NRow w' w.heap.size (.slice a A.length A.length) ls ∧ (∀ l ∈ ls, Own w' w.heap.size l) ∧ Tws ls A ∧ Below w.heap.size w w' ∧ SepL ls
section
variable {W w w' : World} {X K n C D E : Nat} {bv mk ke rm L : Value} {o : Option (Int × Int)} {A A' : List Ent}
theorem s_last (h : LS W X K bv mk ke rm L C D E o A A' n w) : Calls Tryz.prog 26 #[bv] w (EnS w (lasE A) (decide (0 < A.length))) := by
  rcases o with _ | ⟨K0, R⟩
  · obtain ⟨rfl, _, _, _, _, rfl, _⟩ := h.sd
    exact last_uns (Or.inl rfl)
  · obtain ⟨rfl, rfl, rfl, b, sb, M, v, es, es', hbv, hs⟩ := h.sd
    rw [hbv]
    exact (blast_sep hs.bx rfl (t := decide (0 < A.length)) (by rw [hs.t.1])).mono fun r w' hq => EnS.tw hs.t.las hq
theorem s_list (h : LS W X K bv mk ke rm L C D E o A A' n w) : Calls Tryz.prog 32 #[bv] w (LtS w A) := by
  rcases o with _ | ⟨K0, R⟩
  · obtain ⟨rfl, _, _, _, _, rfl, _⟩ := h.sd
    exact (list_un (Or.inl rfl)).mono fun r w' ⟨hr, hw⟩ => ⟨[], none, hr, ERow.nil _ _ _ _ _, fun l hl => (by cases hl), Tws.refl _, by rw [hw]; exact Below.refl _ _, SepL.nil⟩
  · obtain ⟨rfl, rfl, rfl, b, sb, M, v, es, es', hbv, hs⟩ := h.sd
    rw [hbv]
    refine (list_sep hs.bx).mono fun r w' ⟨ls, a, hr, h1, h2, h3, h4⟩ => ?_
    rw [hs.t.1] at hr h1
    refine ⟨ls, a, hr, h1, fun l hl => ?_, h2.tws.trans hs.t, h3, h4⟩
    obtain ⟨i, hi, rfl⟩ := List.getElem_of_mem hl
    exact (h2.2 i _ _ (List.getElem?_eq_getElem hi) (List.getElem?_eq_getElem (by rw [← h2.1]; exact hi))).2
end
end Go.Proofs.YtjbkfppibnlmoaaGreatDoor
