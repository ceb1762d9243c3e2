/-
  The document's box that holds entries: copies, open, Open, Count, Last.
-/
import Derived.Test.YtjbkfppibnlmoaaDoorIbSame
import Derived.Test.YtjbkfppibnlmoaaDoorIbOpn
import Derived.Deep.RegionHeld3
namespace Go.Proofs.YtjbkfppibnlmoaaDoor
open Go.RowKit

/-- An empty slice made, bytes appended: the copy, and what it leaves. -/
theorem copy_step {W : World} {po : Option Addr} {n c : Nat} {bs : List Int} (h : Byts W po n bs) (hn : n ≤ 140737488355328) :
    ∃ a' c' W', (Builtin.append_ #[28, 28] 28 #[.slice (some ⟨W.heap.size, 0, none⟩) 0 0, .slice po n c]).run Tryd.prog (W.alloc (.cells #[] 5)) = .ok (.slice a' n c') W' ∧ Hid (BRow W' W.heap.size (.slice a' n c') bs ∧ Below W.heap.size W W') := by
  have b1 := (Below.refl W.heap.size W).alloc (Nat.le_refl _) (.cells #[] 5)
  have h0 : BRow (W.alloc (.cells #[] 5)) W.heap.size (.slice (some ⟨W.heap.size, 0, none⟩) 0 0) [] := ⟨rfl, Or.inr ⟨W.heap.size, 0, #[], rfl, Nat.le_refl _, heap_alloc_new _ _, Nat.le_refl _, Nat.zero_le _, rfl, rfl⟩⟩
  obtain ⟨a', c', W', hr, r1, o1⟩ := run_bapp (c := c) h0 (h.below b1) hn b1.size
  exact ⟨a', c', W', hr, r1, b1.trans (o1.below b1.size fun q hq => by simp [Value.ownBlock] at hq; omega)⟩
set_option maxRecDepth 100000 in
set_option maxHeartbeats 1000000 in
theorem rcop_any {po : Option Addr} {m c : Nat} {bs : List Int} (w : World) (hb : Byts w po m bs) (hm : m ≤ 140737488355328) :
    Calls Tryd.prog 59 #[.slice po m c] w fun e w' => ∃ a k, e = .returned (.slice a m k) ∧ BRow w' w.heap.size (.slice a m k) bs ∧ Below w.heap.size w w' := by
  obtain ⟨a1, c1, W1, hr, HE⟩ := copy_step (c := c) hb hm
  clear hb
  go_enter Tryd.func59, Tryd.ntmps59
  go_wp2_with (at_builtin; refine wpList_append_run rfl (.tmp 3) (.tmp 4) 28 _ rfl hr ?_)
  go_ret
  exact ⟨a1, c1, rfl, HE.out.1, HE.out.2⟩
set_option maxRecDepth 100000 in
set_option maxHeartbeats 4000000 in
theorem rtwin_any (e : Ent) (w : World) (hl : Lies w e) (h1 : e.tn ≤ 140737488355328) (h2 : e.cn ≤ 140737488355328) (h3 : e.an ≤ 140737488355328) :
    Calls Tryd.prog 31 #[.agg #[.string e.ct, .slice e.tp e.tn e.tc, .int .i64 e.nu, .int .i64 e.tk, .slice e.cp e.cn e.cc, .string e.cd, .slice e.ap e.an e.ac]] w fun r w' => ∃ a c a' c' a'' c'', r = .returned (.agg #[.string e.ct, .slice a e.tn c, .int .i64 e.nu, .int .i64 e.tk, .slice a' e.cn c', .string e.cd, .slice a'' e.an c'']) ∧ Own w' w.heap.size (e.wi a c a' c' a'' c'') ∧ Below w.heap.size w w' := by
  have bv : Below w.heap.size w ((w.alloc (.cells #[.string e.ct, .slice e.tp e.tn e.tc, .int .i64 e.nu, .int .i64 e.tk, .slice e.cp e.cn e.cc, .string e.cd, .slice e.ap e.an e.ac] 30)).alloc (.cells #[.string ⟨#[]⟩, .slice none 0 0, .int .i64 0, .int .i64 0, .slice none 0 0, .string ⟨#[]⟩, .slice none 0 0] 30)) := ((Below.refl _ _).alloc (Nat.le_refl _) _).alloc (by simp) _
  have bx := (Box.new w #[.string e.ct, .slice e.tp e.tn e.tc, .int .i64 e.nu, .int .i64 e.tk, .slice e.cp e.cn e.cc, .string e.cd, .slice e.ap e.an e.ac] 30).alloc (.cells #[.string ⟨#[]⟩, .slice none 0 0, .int .i64 0, .int .i64 0, .slice none 0 0, .string ⟨#[]⟩, .slice none 0 0] 30)
  have by_ := Box.new (w.alloc (.cells #[.string e.ct, .slice e.tp e.tn e.tc, .int .i64 e.nu, .int .i64 e.tk, .slice e.cp e.cn e.cc, .string e.cd, .slice e.ap e.an e.ac] 30)) #[.string ⟨#[]⟩, .slice none 0 0, .int .i64 0, .int .i64 0, .slice none 0 0, .string ⟨#[]⟩, .slice none 0 0] 30
  rw [World.size_alloc] at by_
  obtain ⟨V, hV⟩ : ∃ V, ((w.alloc (.cells #[.string e.ct, .slice e.tp e.tn e.tc, .int .i64 e.nu, .int .i64 e.tk, .slice e.cp e.cn e.cc, .string e.cd, .slice e.ap e.an e.ac] 30)).alloc (.cells #[.string ⟨#[]⟩, .slice none 0 0, .int .i64 0, .int .i64 0, .slice none 0 0, .string ⟨#[]⟩, .slice none 0 0] 30)) = V := ⟨_, rfl⟩
  have HZ : Hid (V.heap.size = w.heap.size + 1 + 1) := by unfold Hid; rw [← hV]; simp
  rw [hV] at bx by_ bv
  obtain ⟨xb, hxb⟩ : ∃ xb, w.heap.size = xb := ⟨_, rfl⟩
  have HXB : Hid (w.heap.size = xb) := hxb
  have HB0 : Hid (Below w.heap.size w V) := bv
  have HX : Hid (Box V xb #[.string e.ct, .slice e.tp e.tn e.tc, .int .i64 e.nu, .int .i64 e.tk, .slice e.cp e.cn e.cc, .string e.cd, .slice e.ap e.an e.ac] ∧ Box V (xb + 1) #[.string ⟨#[]⟩, .slice none 0 0, .int .i64 0, .int .i64 0, .slice none 0 0, .string ⟨#[]⟩, .slice none 0 0]) := by rw [← hxb]; exact ⟨bx, by_⟩
  have HL : Hid (Lies w e) := hl
  have HN : Hid (e.tn ≤ 140737488355328 ∧ e.cn ≤ 140737488355328 ∧ e.an ≤ 140737488355328) := ⟨h1, h2, h3⟩
  have hd1 := rcop_any (c := e.tc) V (hl.below bv).t h1
  have cx := HX.out.1.cell
  clear bv bx by_ hl h1 h2 h3
  go_enter Tryd.func31, Tryd.ntmps31
  go_wp2_with fail
  clear hV
  refine hd1.mono ?_
  rintro _ w1 ⟨g1, k1, rfl, r1, b1⟩
  have HW1 : Hid (Box (w1.setCell ⟨xb, 1, none⟩ (.slice g1 e.tn k1)) xb #[.string e.ct, .slice g1 e.tn k1, .int .i64 e.nu, .int .i64 e.tk, .slice e.cp e.cn e.cc, .string e.cd, .slice e.ap e.an e.ac] ∧ Box (w1.setCell ⟨xb, 1, none⟩ (.slice g1 e.tn k1)) (xb + 1) #[.string ⟨#[]⟩, .slice none 0 0, .int .i64 0, .int .i64 0, .slice none 0 0, .string ⟨#[]⟩, .slice none 0 0] ∧ Below w.heap.size w (w1.setCell ⟨xb, 1, none⟩ (.slice g1 e.tn k1)) ∧ BRow (w1.setCell ⟨xb, 1, none⟩ (.slice g1 e.tn k1)) (xb + 2) (.slice g1 e.tn k1) e.tx) := by
    have o1 : Off (fun q => q = xb) w1 (w1.setCell ⟨xb, 1, none⟩ (.slice g1 e.tn k1)) := Off.setCell (P := fun q => q = xb) (Off.refl _ _) (p := ⟨xb, 1, none⟩) rfl _
    have hz := HZ.out
    have hxx := HXB.out
    exact ⟨(HX.out.1.below b1).pPut (j := 1) (by simp) _, (HX.out.2.below b1).pOff (p := ⟨xb, 1, none⟩) (by simp) _, (below_then HB0.out b1).trans (o1.below (Nat.le_trans HB0.out.size b1.size) fun q hq => by omega), ERow.base (ERow.off r1 o1 fun q hq e2 => by have := (ERow.lt r1 hq).1; omega) (by omega)⟩
  have c1 := (HX.out.1.below b1).cell
  have f1 := (HX.out.1.below b1).free
  obtain ⟨W1, hW1⟩ : ∃ W1, w1.setCell ⟨xb, 1, none⟩ (.slice g1 e.tn k1) = W1 := ⟨_, rfl⟩
  rw [hW1] at HW1
  have hd2 := rcop_any (c := e.cc) W1 (HL.out.below HW1.out.2.2.1).c HN.out.2.1
  have cx1 := HW1.out.1.cell
  clear hd1 r1 b1 cx HX
  go_wp2_with fail
  clear hW1 c1 f1
  refine hd2.mono ?_
  rintro _ w2 ⟨g2, k2, rfl, r2, b2⟩
  have HW2 : Hid (Box (w2.setCell ⟨xb, 4, none⟩ (.slice g2 e.cn k2)) xb #[.string e.ct, .slice g1 e.tn k1, .int .i64 e.nu, .int .i64 e.tk, .slice g2 e.cn k2, .string e.cd, .slice e.ap e.an e.ac] ∧ Box (w2.setCell ⟨xb, 4, none⟩ (.slice g2 e.cn k2)) (xb + 1) #[.string ⟨#[]⟩, .slice none 0 0, .int .i64 0, .int .i64 0, .slice none 0 0, .string ⟨#[]⟩, .slice none 0 0] ∧ Below w.heap.size w (w2.setCell ⟨xb, 4, none⟩ (.slice g2 e.cn k2)) ∧ BRow (w2.setCell ⟨xb, 4, none⟩ (.slice g2 e.cn k2)) (xb + 2) (.slice g1 e.tn k1) e.tx ∧ BRow (w2.setCell ⟨xb, 4, none⟩ (.slice g2 e.cn k2)) (xb + 2) (.slice g2 e.cn k2) e.cx) := by
    have o1 : Off (fun q => q = xb) w2 (w2.setCell ⟨xb, 4, none⟩ (.slice g2 e.cn k2)) := Off.setCell (P := fun q => q = xb) (Off.refl _ _) (p := ⟨xb, 4, none⟩) rfl _
    have hxx := HXB.out
    have hs : xb + 2 ≤ W1.heap.size := by have := HW1.out.2.1.lt; omega
    have t1 := ERow.below HW1.out.2.2.2 b2
    exact ⟨(HW1.out.1.below b2).pPut (j := 4) (by simp) _, (HW1.out.2.1.below b2).pOff (p := ⟨xb, 4, none⟩) (by simp) _, (below_then HW1.out.2.2.1 b2).trans (o1.below (Nat.le_trans HW1.out.2.2.1.size b2.size) fun q hq => by omega), ERow.off t1 o1 fun q hq e2 => by { have := (ERow.lt t1 hq).1; omega }, ERow.base (ERow.off r2 o1 fun q hq e2 => by { have := (ERow.lt r2 hq).1; omega }) hs⟩
  have c2 := (HW1.out.1.below b2).cell
  have f2 := (HW1.out.1.below b2).free
  obtain ⟨W2, hW2⟩ : ∃ W2, w2.setCell ⟨xb, 4, none⟩ (.slice g2 e.cn k2) = W2 := ⟨_, rfl⟩
  rw [hW2] at HW2
  have hd3 := rcop_any (c := e.ac) W2 (HL.out.below HW2.out.2.2.1).a HN.out.2.2
  have cx2 := HW2.out.1.cell
  clear hd2 r2 b2 cx1 HW1
  go_wp2_with fail
  clear hW2 c2 f2
  refine hd3.mono ?_
  rintro _ w3 ⟨g3, k3, rfl, r3, b3⟩
  have HE : Hid (∀ W', Off (fun q => q = xb ∨ q = xb + 1) w3 W' → Own W' w.heap.size (e.wi g1 k1 g2 k2 g3 k3) ∧ Below w.heap.size w W') := fun W' ho => by
    have hxx := HXB.out
    have hs : xb + 2 ≤ W2.heap.size := by have := HW2.out.2.1.lt; omega
    have key : ∀ {v : Value} {bs : List Int}, BRow w3 (xb + 2) v bs → BRow W' w.heap.size v bs := fun hr => ERow.base (ERow.off hr ho fun g hg h => by have := (ERow.lt hr hg).1; omega) (by omega)
    exact ⟨⟨key (ERow.below HW2.out.2.2.2.1 b3), key (ERow.below HW2.out.2.2.2.2 b3), key (ERow.base r3 hs)⟩, (below_then HW2.out.2.2.1 b3).trans (ho.below (Nat.le_trans HW2.out.2.2.1.size b3.size) fun k hk => by omega)⟩
  have c3 := (HW2.out.1.below b3).cell
  have f3 := (HW2.out.1.below b3).free
  have c4 := (HW2.out.2.1.below b3).cell
  have f4 := (HW2.out.2.1.below b3).free
  clear hd3 r3 b3 cx2 HW2
  go_wp2_with fail
  refine bodyPost_ret ?_ rfl ⟨g1, k1, g2, k2, g3, k3, rfl, HE.out _ ?_⟩
  · simp [results, Tryd.results31, go_sem, c4]
  · iterate 8 (refine Off.setCell ?_ (by first | exact Or.inl rfl | exact Or.inr rfl) _)
    exact Off.refl _ _
theorem take_one {α : Type} {l : List α} {i : Nat} {x : α} (hx : l[i]? = some x) : l.take (i + 1) = l.take i ++ [x] := by
  rw [List.take_add_one, hx]; rfl
/-- The document's box within a block X: its cells from 1 on. -/
structure RBx (w : World) (B X : Nat) (v : Value) (K R : Int) (es : List Ent) : Prop where
  lt : X < w.heap.size
  c1 : w.cell? ⟨X, 1, none⟩ = some (.bool true)
  c2 : w.cell? ⟨X, 2, none⟩ = some (.int .i64 K)
  c3 : w.cell? ⟨X, 3, none⟩ = some (.int .i64 R)
  c4 : w.cell? ⟨X, 4, none⟩ = some v
  fz : w.frozen? ⟨X, 4, none⟩ = false
  row : NRow w B v es
  own : ∀ e ∈ es, Own w B e
  inv : Inv K R es
section
variable {w w' : World} {B X : Nat} {v : Value} {K R : Int} {es : List Ent}
theorem RBx.below (h : RBx w B X v K R es) (hb : Below w.heap.size w w') : RBx w' B X v K R es := by
  have e : ∀ o, w'.cell? ⟨X, o, none⟩ = w.cell? ⟨X, o, none⟩ := fun o => hb.cell (p := ⟨X, o, none⟩) h.lt
  exact ⟨Nat.lt_of_lt_of_le h.lt hb.size, by rw [e]; exact h.c1, by rw [e]; exact h.c2, by rw [e]; exact h.c3, by rw [e]; exact h.c4, by rw [hb.frozen (p := ⟨X, 4, none⟩) h.lt]; exact h.fz, ERow.below h.row hb, fun x hx => (h.own x hx).below hb, h.inv⟩
theorem nOp_tk {i : Nat} {e : Ent} (h : es[i]? = some e) : nOp (es.take (i + 1)) = nOp (es.take i) + (if opB e = true then 1 else 0) := by
  rw [take_one h]
  unfold nOp
  rw [List.countP_append]
  by_cases g : opB e = true <;> simp [g]
set_option maxRecDepth 100000 in
set_option maxHeartbeats 2000000 in
theorem ropen_row (hc4 : w.cell? ⟨X, 4, none⟩ = some v) (hrow : NRow w B v es) (hn6 : es.length ≤ 1000000) : Calls Tryd.prog 30 #[.pointer (some ⟨X, 1, none⟩)] w fun r w' => r = .returned (.int .i64 (nOp es : Int)) ∧ w' = w := by
  obtain ⟨a, c, e1, _⟩ := ERow.isSlice hrow
  subst e1
  obtain ⟨n, hn⟩ : ∃ n, es.length = n := ⟨_, rfl⟩
  have c4 := hc4
  rw [hn] at c4 hn6
  have HH : Hid (NRow w B (.slice a n c) es ∧ es.length = n) := ⟨by have := hrow; rw [hn] at this; exact this, hn⟩
  clear hc4 hrow hn
  go_enter Tryd.func30, Tryd.ntmps30
  go_wp2_with fail
  go_loopw [3, 4] (fun t3 t4 wx => ∃ i : Nat, i ≤ n ∧ t3 = .int .i64 (nOp (es.take i) : Int) ∧ t4 = .int .i64 i ∧ wx = w) (fun _ t4 _ => n - (intOf t4).toNat)
  case atStart => exact ⟨0, Nat.zero_le _, by simp [nOp], rfl, rfl⟩
  case round =>
    obtain ⟨i, hi, rfl, rfl, hw⟩ := hrel
    subst hw
    by_cases hlt : i < n
    · have hlt1 : (i : Int) < n := by omega
      obtain ⟨e, he⟩ : ∃ e, es[i]? = some e := ⟨_, List.getElem?_eq_getElem (by rw [HH.out.2]; exact hlt)⟩
      obtain ⟨g, rfl, hg, d0, d1, d2, d3, d4, d5, d6⟩ := nrow_cells HH.out.1 he
      have HT : Hid (nOp (es.take (i + 1)) = nOp (es.take i) + (if opB e = true then 1 else 0) ∧ nOp (es.take i) ≤ i) := ⟨nOp_tk he, Nat.le_trans List.countP_le_length (by rw [List.length_take]; omega)⟩
      obtain ⟨m, hm⟩ : ∃ m, nOp (es.take i) = m := ⟨_, rfl⟩
      rw [hm] at HT ⊢
      have hm6 : m ≤ 1000000 := by have := HT.out.2; omega
      clear he hg d0 d1 d2 d3 d4 d6 hm
      cases hd : e.cd.toList.isEmpty with
      | true =>
        have HT2 : Hid (nOp (es.take (i + 1)) = m + 1) := by unfold Hid; rw [HT.out.1, if_pos (show opB e = true from hd)]
        clear HT
        go_wp2_with fail
        go_roundw
        case rel => exact ⟨i + 1, hlt, by rw [HT2.out]; go_num, by go_num, by first | rfl | trivial⟩
        case measure => simp [intOf]; omega
      | false =>
        have HT2 : Hid (nOp (es.take (i + 1)) = m) := by unfold Hid; rw [HT.out.1, if_neg (by show ¬ e.cd.toList.isEmpty = true; rw [hd]; decide)]; rfl
        clear HT
        go_wp2_with fail
        go_roundw
        case rel => exact ⟨i + 1, hlt, by rw [HT2.out], by go_num, by first | rfl | trivial⟩
        case measure => simp [intOf]; omega
    · have hlt1 : ¬ (i : Int) < n := by omega
      have HF : Hid (nOp (es.take i) = nOp es) := by unfold Hid; rw [List.take_of_length_le (by rw [HH.out.2]; omega)]
      rw [HF.out]
      go_wp2_with fail
      go_ret
      exact ⟨rfl, rfl⟩
theorem ropen_any (h : RBx w B X v K R es) (hn6 : es.length ≤ 1000000) : Calls Tryd.prog 30 #[.pointer (some ⟨X, 1, none⟩)] w fun r w' => r = .returned (.int .i64 (nOp es : Int)) ∧ w' = w := ropen_row h.c4 h.row hn6
end
end Go.Proofs.YtjbkfppibnlmoaaDoor
