import Derived.Test.YtjbkfppibnlmoaaGreatDoorIbOpen
import Derived.Test.YtjbkfppibnlmoaaGreatDoorIbOpn
import Derived.Deep.RegionHeld3
/-
  The document's box that holds entries: copies, open, Open, Count, Last.
-/
namespace Go.Proofs.YtjbkfppibnlmoaaGreatDoor
open Go.RowKit

/-- An empty slice made, bytes appended: the copy, and what it leaves. -/
theorem copy_step {W : World} {po : Option Addr} {n c : Nat} {bs : List Int} (h : Byts W po n bs) (hn : n ≤ 140737488355328) :
    ∃ a' c' W', (Builtin.append_ #[28, 28] 28 #[.slice (some ⟨W.heap.size, 0, none⟩) 0 0, .slice po n c]).run Tryz.prog (W.alloc (.cells #[] 5)) = .ok (.slice a' n c') W' ∧ Hid (BRow W' W.heap.size (.slice a' n c') bs ∧ Below W.heap.size W W') := by
  have b1 := (Below.refl W.heap.size W).alloc (Nat.le_refl _) (.cells #[] 5)
  have h0 : BRow (W.alloc (.cells #[] 5)) W.heap.size (.slice (some ⟨W.heap.size, 0, none⟩) 0 0) [] := ⟨rfl, Or.inr ⟨W.heap.size, 0, #[], rfl, Nat.le_refl _, heap_alloc_new _ _, Nat.le_refl _, Nat.zero_le _, rfl, rfl⟩⟩
  obtain ⟨a', c', W', hr, r1, o1⟩ := run_bapp (c := c) h0 (h.below b1) hn b1.size
  exact ⟨a', c', W', hr, r1, b1.trans (o1.below b1.size fun q hq => by simp [Value.ownBlock] at hq; omega)⟩
set_option maxRecDepth 100000 in
set_option maxHeartbeats 1000000 in
theorem rcop_any {po : Option Addr} {m c : Nat} {bs : List Int} (w : World) (hb : Byts w po m bs) (hm : m ≤ 140737488355328) :
    Calls Tryz.prog 76 #[.slice po m c] w fun e w' => ∃ a k, e = .returned (.slice a m k) ∧ BRow w' w.heap.size (.slice a m k) bs ∧ Below w.heap.size w w' := by
  obtain ⟨a1, c1, W1, hr, HE⟩ := copy_step (c := c) hb hm
  clear hb
  go_enter Tryz.func76, Tryz.ntmps76
  go_wp2_with (at_builtin; refine wpList_append_run rfl (.tmp 3) (.tmp 4) 28 _ rfl hr ?_)
  go_ret
  exact ⟨a1, c1, rfl, HE.out.1, HE.out.2⟩
set_option maxRecDepth 100000 in
set_option maxHeartbeats 4000000 in
theorem rtwin_any (e : Ent) (w : World) (hl : Lies w e) (h1 : e.tn ≤ 140737488355328) (h2 : e.cn ≤ 140737488355328) (h3 : e.an ≤ 140737488355328) :
    Calls Tryz.prog 50 #[.agg #[.string e.ct, .slice e.tp e.tn e.tc, .int .i64 e.nu, .int .i64 e.tk, .slice e.cp e.cn e.cc, .string e.cd, .slice e.ap e.an e.ac]] w fun r w' => ∃ a c a' c' a'' c'', r = .returned (.agg #[.string e.ct, .slice a e.tn c, .int .i64 e.nu, .int .i64 e.tk, .slice a' e.cn c', .string e.cd, .slice a'' e.an c'']) ∧ Own w' w.heap.size (e.wi a c a' c' a'' c'') ∧ Below w.heap.size w w' := by
  have bv : Below w.heap.size w ((w.alloc (.cells #[.string e.ct, .slice e.tp e.tn e.tc, .int .i64 e.nu, .int .i64 e.tk, .slice e.cp e.cn e.cc, .string e.cd, .slice e.ap e.an e.ac] 30)).alloc (.cells #[.string ⟨#[]⟩, .slice none 0 0, .int .i64 0, .int .i64 0, .slice none 0 0, .string ⟨#[]⟩, .slice none 0 0] 30)) := ((Below.refl _ _).alloc (Nat.le_refl _) _).alloc (by simp) _
  have bx := (Box.new w #[.string e.ct, .slice e.tp e.tn e.tc, .int .i64 e.nu, .int .i64 e.tk, .slice e.cp e.cn e.cc, .string e.cd, .slice e.ap e.an e.ac] 30).alloc (.cells #[.string ⟨#[]⟩, .slice none 0 0, .int .i64 0, .int .i64 0, .slice none 0 0, .string ⟨#[]⟩, .slice none 0 0] 30)
  have by_ := Box.new (w.alloc (.cells #[.string e.ct, .slice e.tp e.tn e.tc, .int .i64 e.nu, .int .i64 e.tk, .slice e.cp e.cn e.cc, .string e.cd, .slice e.ap e.an e.ac] 30)) #[.string ⟨#[]⟩, .slice none 0 0, .int .i64 0, .int .i64 0, .slice none 0 0, .string ⟨#[]⟩, .slice none 0 0] 30
  rw [World.size_alloc] at by_
  obtain ⟨V, hV⟩ : ∃ V, ((w.alloc (.cells #[.string e.ct, .slice e.tp e.tn e.tc, .int .i64 e.nu, .int .i64 e.tk, .slice e.cp e.cn e.cc, .string e.cd, .slice e.ap e.an e.ac] 30)).alloc (.cells #[.string ⟨#[]⟩, .slice none 0 0, .int .i64 0, .int .i64 0, .slice none 0 0, .string ⟨#[]⟩, .slice none 0 0] 30)) = V := ⟨_, rfl⟩
  have HZ : Hid (V.heap.size = w.heap.size + 1 + 1) := by unfold Hid; rw [← hV]; simp
  rw [hV] at bx by_ bv
  obtain ⟨xb, hxb⟩ : ∃ xb, w.heap.size = xb := ⟨_, rfl⟩
  have HXB : Hid (w.heap.size = xb) := hxb
  have HB0 : Hid (Below w.heap.size w V) := bv
  have HX : Hid (Box V xb #[.string e.ct, .slice e.tp e.tn e.tc, .int .i64 e.nu, .int .i64 e.tk, .slice e.cp e.cn e.cc, .string e.cd, .slice e.ap e.an e.ac] ∧ Box V (xb + 1) #[.string ⟨#[]⟩, .slice none 0 0, .int .i64 0, .int .i64 0, .slice none 0 0, .string ⟨#[]⟩, .slice none 0 0]) := by rw [← hxb]; exact ⟨bx, by_⟩
  have HL : Hid (Lies w e) := hl
  have HN : Hid (e.tn ≤ 140737488355328 ∧ e.cn ≤ 140737488355328 ∧ e.an ≤ 140737488355328) := ⟨h1, h2, h3⟩
  have hd1 := rcop_any (c := e.tc) V (hl.below bv).t h1
  have cx := HX.out.1.cell
  clear bv bx by_ hl h1 h2 h3
  go_enter Tryz.func50, Tryz.ntmps50
  go_wp2_with fail
  clear hV
  refine hd1.mono ?_
  rintro _ w1 ⟨g1, k1, rfl, r1, b1⟩
  have HW1 : Hid (Box (w1.setCell ⟨xb, 1, none⟩ (.slice g1 e.tn k1)) xb #[.string e.ct, .slice g1 e.tn k1, .int .i64 e.nu, .int .i64 e.tk, .slice e.cp e.cn e.cc, .string e.cd, .slice e.ap e.an e.ac] ∧ Box (w1.setCell ⟨xb, 1, none⟩ (.slice g1 e.tn k1)) (xb + 1) #[.string ⟨#[]⟩, .slice none 0 0, .int .i64 0, .int .i64 0, .slice none 0 0, .string ⟨#[]⟩, .slice none 0 0] ∧ Below w.heap.size w (w1.setCell ⟨xb, 1, none⟩ (.slice g1 e.tn k1)) ∧ BRow (w1.setCell ⟨xb, 1, none⟩ (.slice g1 e.tn k1)) (xb + 2) (.slice g1 e.tn k1) e.tx) := by
    have o1 : Off (fun q => q = xb) w1 (w1.setCell ⟨xb, 1, none⟩ (.slice g1 e.tn k1)) := Off.setCell (P := fun q => q = xb) (Off.refl _ _) (p := ⟨xb, 1, none⟩) rfl _
    have hz := HZ.out
    have hxx := HXB.out
    exact ⟨(HX.out.1.below b1).pPut (j := 1) (by simp) _, (HX.out.2.below b1).pOff (p := ⟨xb, 1, none⟩) (by simp) _, (below_then HB0.out b1).trans (o1.below (Nat.le_trans HB0.out.size b1.size) fun q hq => by omega), ERow.base (ERow.off r1 o1 fun q hq e2 => by have := (ERow.lt r1 hq).1; omega) (by omega)⟩
  have c1 := (HX.out.1.below b1).cell
  have f1 := (HX.out.1.below b1).free
  obtain ⟨W1, hW1⟩ : ∃ W1, w1.setCell ⟨xb, 1, none⟩ (.slice g1 e.tn k1) = W1 := ⟨_, rfl⟩
  rw [hW1] at HW1
  have hd2 := rcop_any (c := e.cc) W1 (HL.out.below HW1.out.2.2.1).c HN.out.2.1
  have cx1 := HW1.out.1.cell
  clear hd1 r1 b1 cx HX
  go_wp2_with fail
  clear hW1 c1 f1
  refine hd2.mono ?_
  rintro _ w2 ⟨g2, k2, rfl, r2, b2⟩
  have HW2 : Hid (Box (w2.setCell ⟨xb, 4, none⟩ (.slice g2 e.cn k2)) xb #[.string e.ct, .slice g1 e.tn k1, .int .i64 e.nu, .int .i64 e.tk, .slice g2 e.cn k2, .string e.cd, .slice e.ap e.an e.ac] ∧ Box (w2.setCell ⟨xb, 4, none⟩ (.slice g2 e.cn k2)) (xb + 1) #[.string ⟨#[]⟩, .slice none 0 0, .int .i64 0, .int .i64 0, .slice none 0 0, .string ⟨#[]⟩, .slice none 0 0] ∧ Below w.heap.size w (w2.setCell ⟨xb, 4, none⟩ (.slice g2 e.cn k2)) ∧ BRow (w2.setCell ⟨xb, 4, none⟩ (.slice g2 e.cn k2)) (xb + 2) (.slice g1 e.tn k1) e.tx ∧ BRow (w2.setCell ⟨xb, 4, none⟩ (.slice g2 e.cn k2)) (xb + 2) (.slice g2 e.cn k2) e.cx) := by
    have o1 : Off (fun q => q = xb) w2 (w2.setCell ⟨xb, 4, none⟩ (.slice g2 e.cn k2)) := Off.setCell (P := fun q => q = xb) (Off.refl _ _) (p := ⟨xb, 4, none⟩) rfl _
    have hxx := HXB.out
    have hs : xb + 2 ≤ W1.heap.size := by have := HW1.out.2.1.lt; omega
    have t1 := ERow.below HW1.out.2.2.2 b2
    exact ⟨(HW1.out.1.below b2).pPut (j := 4) (by simp) _, (HW1.out.2.1.below b2).pOff (p := ⟨xb, 4, none⟩) (by simp) _, (below_then HW1.out.2.2.1 b2).trans (o1.below (Nat.le_trans HW1.out.2.2.1.size b2.size) fun q hq => by omega), ERow.off t1 o1 fun q hq e2 => by { have := (ERow.lt t1 hq).1; omega }, ERow.base (ERow.off r2 o1 fun q hq e2 => by { have := (ERow.lt r2 hq).1; omega }) hs⟩
  have c2 := (HW1.out.1.below b2).cell
  have f2 := (HW1.out.1.below b2).free
  obtain ⟨W2, hW2⟩ : ∃ W2, w2.setCell ⟨xb, 4, none⟩ (.slice g2 e.cn k2) = W2 := ⟨_, rfl⟩
  rw [hW2] at HW2
  have hd3 := rcop_any (c := e.ac) W2 (HL.out.below HW2.out.2.2.1).a HN.out.2.2
  have cx2 := HW2.out.1.cell
  clear hd2 r2 b2 cx1 HW1
  go_wp2_with fail
  clear hW2 c2 f2
  refine hd3.mono ?_
  rintro _ w3 ⟨g3, k3, rfl, r3, b3⟩
  have HE : Hid (∀ W', Off (fun q => q = xb ∨ q = xb + 1) w3 W' → Own W' w.heap.size (e.wi g1 k1 g2 k2 g3 k3) ∧ Below w.heap.size w W') := fun W' ho => by
    have hxx := HXB.out
    have hs : xb + 2 ≤ W2.heap.size := by have := HW2.out.2.1.lt; omega
    have key : ∀ {v : Value} {bs : List Int}, BRow w3 (xb + 2) v bs → BRow W' w.heap.size v bs := fun hr => ERow.base (ERow.off hr ho fun g hg h => by have := (ERow.lt hr hg).1; omega) (by omega)
    exact ⟨⟨key (ERow.below HW2.out.2.2.2.1 b3), key (ERow.below HW2.out.2.2.2.2 b3), key (ERow.base r3 hs)⟩, (below_then HW2.out.2.2.1 b3).trans (ho.below (Nat.le_trans HW2.out.2.2.1.size b3.size) fun k hk => by omega)⟩
  have c3 := (HW2.out.1.below b3).cell
  have f3 := (HW2.out.1.below b3).free
  have c4 := (HW2.out.2.1.below b3).cell
  have f4 := (HW2.out.2.1.below b3).free
  clear hd3 r3 b3 cx2 HW2
  go_wp2_with fail
  refine bodyPost_ret ?_ rfl ⟨g1, k1, g2, k2, g3, k3, rfl, HE.out _ ?_⟩
  · simp [results, Tryz.results50, go_sem, c4]
  · iterate 8 (refine Off.setCell ?_ (by first | exact Or.inl rfl | exact Or.inr rfl) _)
    exact Off.refl _ _
theorem take_one {α : Type} {l : List α} {i : Nat} {x : α} (hx : l[i]? = some x) : l.take (i + 1) = l.take i ++ [x] := by
  rw [List.take_add_one, hx]; rfl
/-- The document's box within a block X: its cells from 1 on. -/
structure RBx (w : World) (B X : Nat) (v : Value) (K R : Int) (es : List Ent) : Prop where
  lt : X < w.heap.size
  c1 : w.cell? ⟨X, 1, none⟩ = some (.bool true)
  c2 : w.cell? ⟨X, 2, none⟩ = some (.int .i64 K)
  c3 : w.cell? ⟨X, 3, none⟩ = some (.int .i64 R)
  c4 : w.cell? ⟨X, 4, none⟩ = some v
  fz : w.frozen? ⟨X, 4, none⟩ = false
  row : NRow w B v es
  own : ∀ e ∈ es, Own w B e
  inv : Inv K R es
section
variable {w w' : World} {B X : Nat} {v : Value} {K R : Int} {es : List Ent}
theorem RBx.below (h : RBx w B X v K R es) (hb : Below w.heap.size w w') : RBx w' B X v K R es := by
  have e : ∀ o, w'.cell? ⟨X, o, none⟩ = w.cell? ⟨X, o, none⟩ := fun o => hb.cell (p := ⟨X, o, none⟩) h.lt
  exact ⟨Nat.lt_of_lt_of_le h.lt hb.size, by rw [e]; exact h.c1, by rw [e]; exact h.c2, by rw [e]; exact h.c3, by rw [e]; exact h.c4, by rw [hb.frozen (p := ⟨X, 4, none⟩) h.lt]; exact h.fz, ERow.below h.row hb, fun x hx => (h.own x hx).below hb, h.inv⟩
theorem nOp_tk {i : Nat} {e : Ent} (h : es[i]? = some e) : nOp (es.take (i + 1)) = nOp (es.take i) + (if opB e = true then 1 else 0) := by
  rw [take_one h]
  unfold nOp
  rw [List.countP_append]
  by_cases g : opB e = true <;> simp [g]
set_option maxRecDepth 100000 in
set_option maxHeartbeats 2000000 in
theorem ropen_row (hc4 : w.cell? ⟨X, 4, none⟩ = some v) (hrow : NRow w B v es) (hn6 : es.length ≤ 1000000) : Calls Tryz.prog 49 #[.pointer (some ⟨X, 1, none⟩)] w fun r w' => r = .returned (.int .i64 (nOp es : Int)) ∧ w' = w := by
  obtain ⟨a, c, e1, _⟩ := ERow.isSlice hrow
  subst e1
  obtain ⟨n, hn⟩ : ∃ n, es.length = n := ⟨_, rfl⟩
  have c4 := hc4
  rw [hn] at c4 hn6
  have HH : Hid (NRow w B (.slice a n c) es ∧ es.length = n) := ⟨by have := hrow; rw [hn] at this; exact this, hn⟩
  clear hc4 hrow hn
  go_enter Tryz.func49, Tryz.ntmps49
  go_wp2_with fail
  go_loopw [3, 4] (fun t3 t4 wx => ∃ i : Nat, i ≤ n ∧ t3 = .int .i64 (nOp (es.take i) : Int) ∧ t4 = .int .i64 i ∧ wx = w) (fun _ t4 _ => n - (intOf t4).toNat)
  case atStart => exact ⟨0, Nat.zero_le _, by simp [nOp], rfl, rfl⟩
  case round =>
    obtain ⟨i, hi, rfl, rfl, hw⟩ := hrel
    subst hw
    by_cases hlt : i < n
    · have hlt1 : (i : Int) < n := by omega
      obtain ⟨e, he⟩ : ∃ e, es[i]? = some e := ⟨_, List.getElem?_eq_getElem (by rw [HH.out.2]; exact hlt)⟩
      obtain ⟨g, rfl, hg, d0, d1, d2, d3, d4, d5, d6⟩ := nrow_cells HH.out.1 he
      have HT : Hid (nOp (es.take (i + 1)) = nOp (es.take i) + (if opB e = true then 1 else 0) ∧ nOp (es.take i) ≤ i) := ⟨nOp_tk he, Nat.le_trans List.countP_le_length (by rw [List.length_take]; omega)⟩
      obtain ⟨m, hm⟩ : ∃ m, nOp (es.take i) = m := ⟨_, rfl⟩
      rw [hm] at HT ⊢
      have hm6 : m ≤ 1000000 := by have := HT.out.2; omega
      clear he hg d0 d1 d2 d3 d4 d6 hm
      cases hd : e.cd.toList.isEmpty with
      | true =>
        have HT2 : Hid (nOp (es.take (i + 1)) = m + 1) := by unfold Hid; rw [HT.out.1, if_pos (show opB e = true from hd)]
        clear HT
        go_wp2_with fail
        go_roundw
        case rel => exact ⟨i + 1, hlt, by rw [HT2.out]; go_num, by go_num, by first | rfl | trivial⟩
        case measure => simp [intOf]; omega
      | false =>
        have HT2 : Hid (nOp (es.take (i + 1)) = m) := by unfold Hid; rw [HT.out.1, if_neg (by show ¬ e.cd.toList.isEmpty = true; rw [hd]; decide)]; rfl
        clear HT
        go_wp2_with fail
        go_roundw
        case rel => exact ⟨i + 1, hlt, by rw [HT2.out], by go_num, by first | rfl | trivial⟩
        case measure => simp [intOf]; omega
    · have hlt1 : ¬ (i : Int) < n := by omega
      have HF : Hid (nOp (es.take i) = nOp es) := by unfold Hid; rw [List.take_of_length_le (by rw [HH.out.2]; omega)]
      rw [HF.out]
      go_wp2_with fail
      go_ret
      exact ⟨rfl, rfl⟩
theorem ropen_any (h : RBx w B X v K R es) (hn6 : es.length ≤ 1000000) : Calls Tryz.prog 49 #[.pointer (some ⟨X, 1, none⟩)] w fun r w' => r = .returned (.int .i64 (nOp es : Int)) ∧ w' = w := ropen_row h.c4 h.row hn6
end
end Go.Proofs.YtjbkfppibnlmoaaGreatDoor

/-
  The document's box: Open, Count.
-/
namespace Go.Proofs.YtjbkfppibnlmoaaGreatDoor
open Go.RowKit

section
variable {w w' : World} {B X : Nat} {v : Value} {K R : Int} {es : List Ent}
set_option maxRecDepth 100000 in
set_option maxHeartbeats 2000000 in
theorem rcount_any (h : RBx w B X v K R es) (hn6 : es.length ≤ 1000000) : Calls Tryz.prog 36 #[.pointer (some ⟨X, 1, none⟩)] w fun r w' => r = .returned (.tuple #[.int .i64 (es.length : Int), .int .i64 (nOp es : Int)]) ∧ Below w.heap.size w w' := by
  have HO : Hid (∀ k, Calls Tryz.prog 49 #[.pointer (some ⟨X, 1, none⟩)] (w.drewN k) fun r w' => r = .returned (.int .i64 (nOp es : Int)) ∧ w' = w.drewN k) := fun k => ropen_any (h.below (below_drewN (Below.refl _ _) k)) hn6
  obtain ⟨a, c, e1, _⟩ := ERow.isSlice h.row
  subst e1
  have c4 := h.c4
  obtain ⟨n, hn⟩ : ∃ n, es.length = n := ⟨_, rfl⟩
  obtain ⟨m, hm⟩ : ∃ m, nOp es = m := ⟨_, rfl⟩
  rw [hn] at c4 ⊢
  rw [hm] at HO ⊢
  clear h hn hm
  go_enter Tryz.func36, Tryz.ntmps36
  go_wp2_with fail
  go_quiet ((go_at_call 49; exact Calls.quiet_of_same (HO.out _)))
  go_wp2_with fail
  refine bodyPost_ret (v := .tuple #[.int .i64 n, .int .i64 m]) ?_ rfl ⟨rfl, below_drewN (Below.refl _ _) _⟩
  simp [results, Tryz.results36, go_sem]
set_option maxRecDepth 100000 in
set_option maxHeartbeats 4000000 in
theorem ropens_any (h : RBx w B X v K R es) (hn6 : es.length ≤ 100000) : Calls Tryz.prog 20 #[.pointer (some ⟨X, 1, none⟩)] w (OpQ w es) := by
  obtain ⟨a, c, e1, _⟩ := ERow.isSlice h.row
  subst e1
  obtain ⟨n, hn⟩ : ∃ n, es.length = n := ⟨_, rfl⟩
  have HH : Hid (RBx w B X (.slice a n c) K R es ∧ es.length = n) := ⟨by rw [hn] at h; exact h, hn⟩
  rw [hn] at hn6
  clear h hn
  go_enter Tryz.func20, Tryz.ntmps20
  go_wp2_with fail
  go_loopw [3, 4] (fun t3 t4 wx => ∃ i : Nat, i ≤ n ∧ t4 = .int .i64 i ∧ Hid (TRow wx w.heap.size t3 (opS (es.take i)) ∧ Below w.heap.size w wx)) (fun _ t4 _ => n - (intOf t4).toNat)
  case atStart => exact ⟨0, Nat.zero_le _, rfl, by simpa [opS] using ERow.nil _ _ _ _ _, Below.refl _ _⟩
  case round =>
    obtain ⟨i, hi, rfl, HI⟩ := hrel
    have c4 := (HH.out.1.below HI.out.2).c4
    by_cases hlt : i < n
    · have hlt1 : (i : Int) < n := by omega
      obtain ⟨e, he⟩ : ∃ e, es[i]? = some e := ⟨_, List.getElem?_eq_getElem (by rw [HH.out.2]; exact hlt)⟩
      obtain ⟨g, rfl, hg, d0, d1, d2, d3, d4, d5, d6⟩ := nrow_cells (HH.out.1.below HI.out.2).row he
      have HT : Hid (opS (es.take (i + 1)) = opS (es.take i) ++ (if dcB e = true then [] else [e.ct])) := by unfold Hid; rw [take_one he, opS_snoc]
      have hol : (opS (es.take i)).length ≤ 100000 := by
        unfold opS
        rw [List.length_map]
        exact Nat.le_trans (List.length_filter_le _ _) (by rw [List.length_take]; omega)
      clear he hg d1 d2 d3 d4 d6
      cases hd : e.cd.toList.isEmpty with
      | false =>
        have HI2 : Hid (TRow wr w.heap.size u3 (opS (es.take (i + 1))) ∧ Below w.heap.size w wr) := by
          refine ⟨?_, HI.out.2⟩
          rw [HT.out, if_pos (by unfold dcB; rw [hd]; rfl)]
          simpa using HI.out.1
        clear HT HI
        go_wp2_with fail
        go_roundw
        case rel => exact ⟨i + 1, hlt, by go_num, HI2⟩
        case measure => simp [intOf]; omega
      | true =>
        have HT2 : Hid (opS (es.take (i + 1)) = opS (es.take i) ++ [e.ct]) := by unfold Hid; rw [HT.out, if_neg (by unfold dcB; rw [hd]; decide)]
        obtain ⟨a3, c3, e3, _⟩ := ERow.isSlice HI.out.1
        obtain ⟨a2, c2, W2, hap, r2, o2, _⟩ := run_epush (P := Tryz.prog) (t := 66) Tryz.underlying66 celSt encS_len encS_one (w := wr) HI.out.1 e.ct #[.string e.ct] rfl (by omega) (by decide) HI.out.2.size
        have HI2 : Hid (TRow W2 w.heap.size (.slice a2 ((opS (es.take i)).length + 1) c2) (opS (es.take (i + 1))) ∧ Below w.heap.size w W2) := by
          refine ⟨by rw [HT2.out]; exact r2, HI.out.2.trans (o2.below HI.out.2.size fun q hq => (HI.out.1.lt hq).1)⟩
        rw [e3] at hap ⊢
        clear e3 r2 o2 HT HT2 HI
        obtain ⟨sl, hsl⟩ : ∃ q, (opS (es.take i)).length + 1 = q := ⟨_, rfl⟩
        rw [hsl] at hap HI2
        clear hsl
        go_wp2_with (at_builtin; refine wpList_append_run rfl (.tmp 23) (.tmp 32) 66 _ rfl hap ?_)
        go_roundw
        case rel => exact ⟨i + 1, hlt, by go_num, HI2⟩
        case measure => simp [intOf]; omega
    · have hlt1 : ¬ (i : Int) < n := by omega
      have HF : Hid (TRow wr w.heap.size u3 (opS es) ∧ Below w.heap.size w wr) := by
        have := HI.out
        rw [List.take_of_length_le (by rw [HH.out.2]; omega)] at this
        exact this
      obtain ⟨a3, c3, e3, _⟩ := ERow.isSlice HF.out.1
      clear HI
      subst e3
      go_wp2_with fail
      go_ret
      exact ⟨_, rfl, HF.out.1, HF.out.2⟩
end
end Go.Proofs.YtjbkfppibnlmoaaGreatDoor

/-
  The document's box: Last.
-/
namespace Go.Proofs.YtjbkfppibnlmoaaGreatDoor
open Go.RowKit

section
variable {w w' : World} {B X : Nat} {v : Value} {K R : Int} {es : List Ent}
set_option maxRecDepth 100000 in
set_option maxHeartbeats 4000000 in
theorem rlast_yes (h : RBx w B X v K R es) {n : Nat} {l : Ent} (hn : es.length = n + 1) (hl : es[n]? = some l) (hn6 : n ≤ 1000000) (ht : l.tn ≤ 140737488355328 ∧ l.cn ≤ 140737488355328 ∧ l.an ≤ 140737488355328) : Calls Tryz.prog 22 #[.pointer (some ⟨X, 1, none⟩)] w (EnQ w l true) := by
  have bv : Below w.heap.size w (w.alloc (.cells #[.string ⟨#[]⟩, .slice none 0 0, .int .i64 0, .int .i64 0, .slice none 0 0, .string ⟨#[]⟩, .slice none 0 0] 30)) := (Below.refl _ _).alloc (Nat.le_refl _) _
  have bx := Box.new w #[.string ⟨#[]⟩, .slice none 0 0, .int .i64 0, .int .i64 0, .slice none 0 0, .string ⟨#[]⟩, .slice none 0 0] 30
  obtain ⟨V, hV⟩ : ∃ V, w.alloc (.cells #[.string ⟨#[]⟩, .slice none 0 0, .int .i64 0, .int .i64 0, .slice none 0 0, .string ⟨#[]⟩, .slice none 0 0] 30) = V := ⟨_, rfl⟩
  rw [hV] at bv bx
  have h1 := h.below bv
  obtain ⟨a, c, e1, _⟩ := ERow.isSlice h1.row
  have q1 : (((n + 1 : Nat) : Int) == 0) = false := by rw [beq_eq_false_iff_ne]; omega
  have q2 : IntKind.i64.wrap (((n + 1 : Nat) : Int) - 1) = (n : Int) := by rw [IntKind.wrap_i64]; omega
  have q3 : (n : Int) < ((n + 1 : Nat) : Int) := by omega
  obtain ⟨m, hm⟩ : ∃ m, n + 1 = m := ⟨_, rfl⟩
  rw [hn, hm] at e1
  rw [hm] at q1 q2 q3
  subst e1
  have lg0 : ∃ g, a = some ⟨g, 0, none⟩ ∧ g < w.heap.size := by
    obtain ⟨g, e2, lg, _⟩ := nrow_cells h.row hl
    exact ⟨g, e2, lg⟩
  obtain ⟨g, rfl, lg, d0, d1, d2, d3, d4, d5, d6⟩ := nrow_cells h1.row hl
  have x4 := h1.c4
  have lX := h1.lt
  obtain ⟨xb, hxb⟩ : ∃ xb, w.heap.size = xb := ⟨_, rfl⟩
  have nX : ¬ X = xb := by have := h.lt; omega
  have ng : ¬ g = xb := by
    obtain ⟨g', e2, lg'⟩ := lg0
    obtain rfl : g = g' := by simpa using e2
    omega
  have HB : Hid (Below w.heap.size w V ∧ w.heap.size = xb ∧ xb < V.heap.size) := ⟨bv, hxb, by rw [← hxb]; exact bx.lt⟩
  rw [hxb] at bx
  have HTW : Hid (∀ z, Below V.heap.size V z → Calls Tryz.prog 50 #[.agg #[.string l.ct, .slice l.tp l.tn l.tc, .int .i64 l.nu, .int .i64 l.tk, .slice l.cp l.cn l.cc, .string l.cd, .slice l.ap l.an l.ac]] z fun r z' => ∃ a c a' c' a'' c'', r = .returned (.agg #[.string l.ct, .slice a l.tn c, .int .i64 l.nu, .int .i64 l.tk, .slice a' l.cn c', .string l.cd, .slice a'' l.an c'']) ∧ Hid (Own z' V.heap.size (l.wi a c a' c' a'' c'')) ∧ Hid (Below V.heap.size V z') ∧ Hid (Off (fun q => q = xb) V z') ∧ Box z' xb #[.string ⟨#[]⟩, .slice none 0 0, .int .i64 0, .int .i64 0, .slice none 0 0, .string ⟨#[]⟩, .slice none 0 0]) := fun z hz =>
    (rtwin_any l z ((h1.own l (List.mem_of_getElem? hl)).lies.below hz) ht.1 ht.2.1 ht.2.2).mono fun r z' ⟨a, c, a', c', a'', c'', e1, e2, e3⟩ => ⟨a, c, a', c', a'', c'', e1, e2.base hz.size, below_then hz e3, Off.of_below (below_then hz e3), bx.below (below_then hz e3)⟩
  have gs : ∀ {z : World}, Off (fun q => q = xb) V z → z.cell? ⟨X, 4, none⟩ = some (.slice (some ⟨g, 0, none⟩) m c) ∧ z.cell? ⟨g, n * 7, none⟩ = some (.string l.ct) ∧ z.cell? ⟨g, n * 7 + 1, none⟩ = some (.slice l.tp l.tn l.tc) ∧ z.cell? ⟨g, n * 7 + 2, none⟩ = some (.int .i64 l.nu) ∧ z.cell? ⟨g, n * 7 + 3, none⟩ = some (.int .i64 l.tk) ∧ z.cell? ⟨g, n * 7 + 4, none⟩ = some (.slice l.cp l.cn l.cc) ∧ z.cell? ⟨g, n * 7 + 5, none⟩ = some (.string l.cd) ∧ z.cell? ⟨g, n * 7 + 6, none⟩ = some (.slice l.ap l.an l.ac) := fun {z} hz => ⟨(hz.cell (p := ⟨X, 4, none⟩) lX nX).trans x4, (hz.cell (p := ⟨g, n * 7, none⟩) lg ng).trans d0, (hz.cell (p := ⟨g, n * 7 + 1, none⟩) lg ng).trans d1, (hz.cell (p := ⟨g, n * 7 + 2, none⟩) lg ng).trans d2, (hz.cell (p := ⟨g, n * 7 + 3, none⟩) lg ng).trans d3, (hz.cell (p := ⟨g, n * 7 + 4, none⟩) lg ng).trans d4, (hz.cell (p := ⟨g, n * 7 + 5, none⟩) lg ng).trans d5, (hz.cell (p := ⟨g, n * 7 + 6, none⟩) lg ng).trans d6⟩
  have k4 := (gs (Off.refl _ _)).1
  have HE : Hid (∀ w1 W' a1 c1 a2 c2 a3 c3, Below V.heap.size V w1 → Own w1 V.heap.size (l.wi a1 c1 a2 c2 a3 c3) → Off (fun q => q = xb) w1 W' → Own W' w.heap.size (l.wi a1 c1 a2 c2 a3 c3) ∧ Below w.heap.size w W') := fun w1 W' a1 c1 a2 c2 a3 c3 hb ho ho' => by
    obtain ⟨q1, q2, q3⟩ := HB.out
    exact ⟨(ho.off ho' fun q hq e => by omega).base q1.size, (below_then q1 hb).trans (ho'.below (Nat.le_trans q1.size hb.size) fun k hk => by omega)⟩
  clear bv h h1 hl ht hn x4 lX d0 d1 d2 d3 d4 d5 d6 lg bx nX ng HB lg0 hm
  go_enter Tryz.func22, Tryz.ntmps22
  go_wp2_with fail
  clear hV
  obtain ⟨_, d0, d1, d2, d3, d4, d5, d6⟩ := gs (Off.refl _ _)
  clear gs
  go_region_law (go_simp; go_at_call 50; refine (HTW.out _ ?_).mono ?_; (first | exact Below.refl _ _ | exact (Below.refl _ _).drew); rintro _ w1 ⟨a1, c1, a2, c2, a3, c3, rfl, ho1, hb1, hof1, bx1⟩; have s0 : w1.cell? ⟨xb, 0, none⟩ = some (.string ⟨#[]⟩) := bx1.cell 0; have f0 : w1.frozen? ⟨xb, 0, none⟩ = false := bx1.free 0; have s1 : w1.cell? ⟨xb, 1, none⟩ = some (.slice none 0 0) := bx1.cell 1; have f1 : w1.frozen? ⟨xb, 1, none⟩ = false := bx1.free 1; have s2 : w1.cell? ⟨xb, 2, none⟩ = some (.int .i64 0) := bx1.cell 2; have f2 : w1.frozen? ⟨xb, 2, none⟩ = false := bx1.free 2; have s3 : w1.cell? ⟨xb, 3, none⟩ = some (.int .i64 0) := bx1.cell 3; have f3 : w1.frozen? ⟨xb, 3, none⟩ = false := bx1.free 3; have s4 : w1.cell? ⟨xb, 4, none⟩ = some (.slice none 0 0) := bx1.cell 4; have f4 : w1.frozen? ⟨xb, 4, none⟩ = false := bx1.free 4; have s5 : w1.cell? ⟨xb, 5, none⟩ = some (.string ⟨#[]⟩) := bx1.cell 5; have f5 : w1.frozen? ⟨xb, 5, none⟩ = false := bx1.free 5; have s6 : w1.cell? ⟨xb, 6, none⟩ = some (.slice none 0 0) := bx1.cell 6; have f6 : w1.frozen? ⟨xb, 6, none⟩ = false := bx1.free 6)
  all_goals
    go_wp2_with fail
    refine bodyPost_ret ?_ rfl ⟨a1, c1, a2, c2, a3, c3, rfl, HE.out _ _ _ _ _ _ _ _ hb1.out ho1.out ?_⟩
    · simp [results, Tryz.results22, go_sem, s0, s1, s2, s3, s4, s5, s6]
    · (repeat' (first | (with_reducible exact Off.refl _ _) | (with_reducible exact Hid.out (by assumption)) | (with_reducible refine Off.drew ?_) | refine Off.setCell (P := fun q => q = xb) ?_ (by exact rfl) _))
end
end Go.Proofs.YtjbkfppibnlmoaaGreatDoor

/-
  The document's box: at, before.
-/
namespace Go.Proofs.YtjbkfppibnlmoaaGreatDoor
open Go.RowKit

def fiI (s : ByteArray) (es : List Ent) : Int := match fi s es with | some i => (i : Int) | none => -1
theorem fi_here {s : ByteArray} {es : List Ent} {i : Nat} {e : Ent} (he : es[i]? = some e) (hq : (e.ct.toList == s.toList) = true) (hb : ∀ (j : Nat) (m : Ent), j < i → es[j]? = some m → (m.ct.toList == s.toList) = false) : fi s es = some i := by
  obtain ⟨hi, e1⟩ := List.getElem?_eq_some_iff.1 he
  refine List.findIdx?_eq_some_iff_getElem.2 ⟨hi, by rw [e1]; exact hq, fun j hj => ?_⟩
  rw [hb j _ hj (List.getElem?_eq_getElem (by omega))]
  decide
theorem fi_nowhere {s : ByteArray} {es : List Ent} (hb : ∀ (j : Nat) (m : Ent), es[j]? = some m → (m.ct.toList == s.toList) = false) : fi s es = none := by
  refine List.findIdx?_eq_none_iff.2 fun m hm => ?_
  obtain ⟨j, hj, e1⟩ := List.getElem_of_mem hm
  exact hb j m (by rw [List.getElem?_eq_getElem hj, e1])
section
variable {w w' : World} {B X : Nat} {v : Value} {K R : Int} {es : List Ent}
set_option maxRecDepth 100000 in
set_option maxHeartbeats 2000000 in
theorem rat_any (h : RBx w B X v K R es) (s : ByteArray) (hn6 : es.length ≤ 1000000) : Calls Tryz.prog 48 #[.pointer (some ⟨X, 1, none⟩), .string s] w fun r w' => r = .returned (.int .i64 (fiI s es)) ∧ w' = w := by
  obtain ⟨a, c, e1, _⟩ := ERow.isSlice h.row
  subst e1
  obtain ⟨n, hn⟩ : ∃ n, es.length = n := ⟨_, rfl⟩
  have c4 := h.c4
  rw [hn] at c4 hn6
  have HH : Hid (NRow w B (.slice a n c) es ∧ es.length = n) := ⟨by have := h.row; rw [hn] at this; exact this, hn⟩
  clear h hn
  go_enter Tryz.func48, Tryz.ntmps48
  go_wp2_with fail
  go_loopw [5] (fun t5 wx => ∃ i : Nat, i ≤ n ∧ t5 = .int .i64 i ∧ wx = w ∧ Hid (∀ (j : Nat) (m : Ent), j < i → es[j]? = some m → (m.ct.toList == s.toList) = false)) (fun t5 _ => n - (intOf t5).toNat)
  case atStart => exact ⟨0, Nat.zero_le _, rfl, rfl, fun j m hj => by omega⟩
  case round =>
    obtain ⟨i, hi, rfl, hw, HI⟩ := hrel
    subst hw
    by_cases hlt : i < n
    · have hlt1 : (i : Int) < n := by omega
      obtain ⟨e, he⟩ : ∃ e, es[i]? = some e := ⟨_, List.getElem?_eq_getElem (by rw [HH.out.2]; exact hlt)⟩
      obtain ⟨g, rfl, hg, d0, d1, d2, d3, d4, d5, d6⟩ := nrow_cells HH.out.1 he
      have HE : Hid (es[i]? = some e) := he
      clear he hg d1 d2 d3 d4 d5 d6
      cases hq : (e.ct.toList == s.toList) with
      | true =>
        have HF : Hid ((i : Int) = fiI s es) := by unfold Hid fiI; rw [fi_here HE.out hq HI.out]
        clear HI HE
        go_wp2_with fail
        go_ret
        exact ⟨by rw [← HF.out]; rfl, rfl⟩
      | false =>
        have HI2 : Hid (∀ (j : Nat) (m : Ent), j < i + 1 → es[j]? = some m → (m.ct.toList == s.toList) = false) := fun j m hj hm => by
          by_cases e2 : j < i
          · exact HI.out j m e2 hm
          · obtain rfl : j = i := by omega
            have := HE.out
            rw [hm] at this
            obtain rfl := Option.some.inj this
            exact hq
        clear HI HE
        go_wp2_with fail
        go_roundw
        case rel => exact ⟨i + 1, hlt, by go_num, by first | rfl | trivial, HI2⟩
        case measure => simp [intOf]; omega
    · have hlt1 : ¬ (i : Int) < n := by omega
      have HF : Hid ((-1 : Int) = fiI s es) := by
        unfold Hid fiI
        rw [fi_nowhere fun j m hm => HI.out j m (by have := (List.getElem?_eq_some_iff.1 hm).1; have := HH.out.2; omega) hm]
      clear HI
      go_wp2_with fail
      go_ret
      exact ⟨by rw [← HF.out]; rfl, rfl⟩
set_option maxRecDepth 100000 in
set_option maxHeartbeats 2000000 in
theorem rbefore_any (h : RBx w B X v K R es) (t : Int) (hn6 : es.length ≤ 1000000) : Calls Tryz.prog 47 #[.pointer (some ⟨X, 1, none⟩), .int .i64 t] w fun r w' => r = .returned (.bool (decide (0 < es.length) && decide (t < lastT es))) ∧ Below w.heap.size w w' := by
  obtain ⟨a, c, e1, _⟩ := ERow.isSlice h.row
  subst e1
  have c4 := h.c4
  rcases Nat.eq_zero_or_pos es.length with h0 | h0
  · rw [h0] at c4 ⊢
    clear h h0
    have hd : decide ((0 : Int) > 0) = false := by decide
    go_enter Tryz.func47, Tryz.ntmps47
    go_wp2_with fail
    go_quiet (fail)
    go_wp2_with fail
    go_ret
    exact ⟨rfl, below_drewN (Below.refl _ _) _⟩
  · obtain ⟨n, hn⟩ : ∃ n, es.length = n + 1 := ⟨es.length - 1, by omega⟩
    have hat := lasE_at hn
    obtain ⟨g, rfl, hg, d0, d1, d2, d3, d4, d5, d6⟩ := nrow_cells h.row hat
    have hlt : lastT es = (lasE es).tk := lastT_eq es
    rw [hlt, decide_eq_true h0, Bool.true_and]
    have q2 : IntKind.i64.wrap (((n + 1 : Nat) : Int) - 1) = (n : Int) := by rw [IntKind.wrap_i64]; omega
    have q3 : (n : Int) < ((n + 1 : Nat) : Int) := by omega
    have q4 : decide (0 < n + 1) = true := decide_eq_true (by omega)
    have q5 : 0 < n + 1 := by omega
    rw [hn] at c4
    obtain ⟨m, hm⟩ : ∃ m, n + 1 = m := ⟨_, rfl⟩
    rw [hm] at c4 q2 q3 q4 q5
    obtain ⟨tk, htk⟩ : ∃ q, (lasE es).tk = q := ⟨_, rfl⟩
    rw [htk] at d3 ⊢
    clear h h0 hat hg d0 d1 d2 d4 d5 d6 hlt hn hm hn6 htk
    go_enter Tryz.func47, Tryz.ntmps47
    go_wp2_with fail
    go_quiet (fail)
    go_wp2_with fail
    go_ret
    exact ⟨rfl, below_drewN (Below.refl _ _) _⟩
end
end Go.Proofs.YtjbkfppibnlmoaaGreatDoor
