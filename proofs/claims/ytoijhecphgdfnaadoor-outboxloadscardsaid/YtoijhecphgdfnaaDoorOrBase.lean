import Derived.Test.YtoijhecphgdfnaaDoorOxOnceS
import Derived.Test.YtoijhecphgdfnaaDoorDcOpen
import Derived.Test.YtoijhecphgdfnaaDoorOxLoad
import Derived.Deep.DeepCutAuto
/-
  A text copied by append, whatever its length.
-/
namespace Go.Proofs.YtoijhecphgdfnaaDoor
open Go.RowKit

theorem run_bapp {w : World} {B n : Nat} {po : Option Addr} {m c : Nat} {bs : List Int} (h : BRow w B (.slice (some ⟨n, 0, none⟩) 0 0) []) (hb : Byts w po m bs) (hl : m ≤ 140737488355328) (hB : B ≤ w.heap.size) :
    ∃ a' c' w', (Builtin.append_ #[44, 44] 44 #[.slice (some ⟨n, 0, none⟩) 0 0, .slice po m c]).run Tryd.prog w = .ok (.slice a' m c') w' ∧ BRow w' B (.slice a' m c') bs ∧ Off (fun q => q = n) w w' := by
  obtain ⟨i, z, hi, hz, hzs, hs, hby⟩ := celB
  have hm := hb.len
  have hbn : ((0 + bs.length) + (0 + bs.length) / 4 + 192) * 1 ≤ 281474976710656 := by omega
  have hh : w.ownsRow B 5 1 (.slice (some ⟨n, 0, none⟩) 0 0) 0 ([] : List Value) := h
  obtain ⟨v', w', hr, r, o, l⟩ := run_append_k (P := Tryd.prog) w B 44 44 5 i z 1 1 Tryd.underlying44 hi hz hs hby hzs (.slice (some ⟨n, 0, none⟩) 0 0) 0 [] hh po bs.length c (bs.flatMap encB) (flat_len encB_len bs) (fun e => by
    rcases Nat.eq_zero_or_pos m with g | g
    · omega
    · obtain ⟨_, _, e', _⟩ := hb.cell 0 g
      rw [e] at e'; cases e') (fun a' ha j u hu => by
    obtain ⟨hj, rfl⟩ := flatB bs hu
    obtain ⟨b, o, e, _, hc⟩ := hb.cell j (by omega)
    rw [ha] at e
    obtain rfl : a' = ⟨b, o, none⟩ := by simpa using e
    rw [Addr.add_lit]; exact hc) (fun u hu => by
    obtain ⟨x, _, hx⟩ := List.mem_flatMap.1 hu
    exact encB_one x u hx) (by unfold maxLen; omega) hbn hB
  have hR : BRow w' B v' bs := by
    unfold BRow ERow
    rw [Nat.zero_add, List.nil_append] at r
    exact r
  obtain ⟨a', c', e1, _⟩ := ERow.isSlice hR
  rw [hm] at e1 hr
  subst e1
  exact ⟨a', c', w', hr, hR, o.mono fun k e => by simp [Value.ownBlock] at e; exact e.symm⟩
/-- A copy by append, as a step of a region that draws. -/
theorem step_copy {w0 w : World} {ops : Array Oper} {o : Oper} {a : Act} {K : Act → World → Prop} {Q : Exit → Act → World → Prop} {E : Prop} {n : Nat} {po : Option Addr} {m c : Nat} {bs : List Int} (hgd : o.guard = none) (s x : Operand)
    (ho : o.op = .call { callee := .builtin .append, args := #[s, x], argTypes := #[44, 44] }) (hty : o.type = 44) (hs : a.eval s = .slice (some ⟨n, 0, none⟩) 0 0) (hx : a.eval x = .slice po m c)
    (hb : Byts w0 po m bs) (hl : m ≤ 140737488355328) (ha : Off (fun _ => False) w0 w) (hn : w0.heap.size ≤ n) (hg : w.heap[n]? = some (.cells #[] 5))
    (h : ∀ a' c' w', BRow w' w0.heap.size (.slice a' m c') bs → Below w0.heap.size w0 w' → K (a.put o.dst (.slice a' m c')) w') :
    if Region.wanted o (yielded ops a.tmps) = true then Oper.wp Tryd.prog o a w K Q else E := by
  have hw : Region.wanted o (yielded ops a.tmps) = true := by simp [Region.wanted, hgd]
  have h0 : BRow w w0.heap.size (.slice (some ⟨n, 0, none⟩) 0 0) [] := ⟨rfl, Or.inr ⟨n, 0, #[], rfl, hn, hg, Nat.le_refl _, Nat.zero_le _, rfl, rfl⟩⟩
  obtain ⟨a', c', w', hr, r1, o1⟩ := run_bapp (c := c) h0 (hb.off ha (fun _ _ _ _ => id)) hl ha.size
  rw [if_pos hw]
  unfold Oper.wp execOp
  simp only [ho, hty, resolve, invoke, builtin, Sem.run_bind, Sem.run_pure, Result.andThen_ok, List.map_toArray, List.map_cons, List.map_nil, hs, hx, hr]
  exact h _ _ _ r1 ((ha.below (Nat.le_refl _) (fun _ g => g.elim)).trans (o1.below ha.size (fun k e => by omega)))
end Go.Proofs.YtoijhecphgdfnaaDoor

/-
  The document's fits.
-/
namespace Go.Proofs.YtoijhecphgdfnaaDoor
open Go.RowKit

end Go.Proofs.YtoijhecphgdfnaaDoor

/-
  The document's Mode, Texts, Refuse, Owes, May.
-/
namespace Go.Proofs.YtoijhecphgdfnaaDoor
open Go.RowKit

theorem ret_two {a b : Value} {c d : Value} (h : a = c) (g : b = d) : Ending.returned (.tuple #[a, b]) = .returned (.tuple #[c, d]) := by rw [h, g]
theorem excl {s : ByteArray} {l m : List UInt8} (h : (s.toList == l) = true) (hn : l ≠ m) : (s.toList == m) = false := by
  rw [beq_iff_eq] at h; rw [h]; exact beq_eq_false_iff_ne.2 hn
theorem empt {s : ByteArray} {l : List UInt8} (h : (s.toList == l) = true) (hn : l.isEmpty = false) : s.toList.isEmpty = false := by
  rw [beq_iff_eq] at h; rw [h]; exact hn
theorem emp0 {s : ByteArray} {l : List UInt8} (h : s.toList.isEmpty = true) (hn : l.isEmpty = false) : (s.toList == l) = false := by
  rw [List.isEmpty_iff] at h; rw [h]; cases l <;> first | rfl | cases hn
theorem ret_three {a b c d x y : Value} (h : a = d) (g : b = x) (k : c = y) : Ending.returned (.tuple #[a, b, c]) = .returned (.tuple #[d, x, y]) := by rw [h, g, k]
set_option maxHeartbeats 2000000 in
theorem rMay_any (e : Bool) (a p : Int) (s : ByteArray) (w : World) : Calls Tryd.prog 49 #[.agg #[.bool e, .int .i64 a, .int .i64 p], .string s] w fun r w' => r = .returned (.tuple #[.bool (okB e a p && sentB e a p s), .int .i64 (errN e a p)]) ∧ Below w.heap.size w w' := by
  unfold errN
  cases q1 : okB e a p with
  | false =>
    have c1 : ∀ w, Calls Tryd.prog 28 #[.agg #[.bool e, .int .i64 a, .int .i64 p]] w fun r w' => r = .returned (.bool false) ∧ Below w.heap.size w w' := fun w => by have := rRight_any e a p w; rw [q1] at this; exact this
    clear q1
    go_enter Tryd.func49, Tryd.ntmps49
    go_wp2_with fail
    refine (c1 _).mono ?_
    rintro _ w1 ⟨rfl, b1⟩
    have HB1 : Hid (Below w.heap.size w w1) := below_then ((Below.refl _ _).alloc (Nat.le_refl _) _) b1
    clear b1 c1
    go_wp2_with fail
    go_ret2
    exact ⟨rfl, HB1.out⟩
  | true =>
    have c1 : ∀ w, Calls Tryd.prog 28 #[.agg #[.bool e, .int .i64 a, .int .i64 p]] w fun r w' => r = .returned (.bool true) ∧ Below w.heap.size w w' := fun w => by have := rRight_any e a p w; rw [q1] at this; exact this
    obtain ⟨q, hq⟩ : ∃ q, sentB e a p s = q := ⟨_, rfl⟩
    have c2 : ∀ w, Calls Tryd.prog 57 #[.agg #[.bool e, .int .i64 a, .int .i64 p], .string s] w fun r w' => r = .returned (.bool q) ∧ Below w.heap.size w w' := fun w => by have := rSent_any e a p s w; rw [hq] at this; exact this
    rw [hq]
    clear q1 hq
    go_enter Tryd.func49, Tryd.ntmps49
    go_wp2_with fail
    refine (c1 _).mono ?_
    rintro _ w1 ⟨rfl, b1⟩
    have HB1 : Hid (Below w.heap.size w w1) := below_then ((Below.refl _ _).alloc (Nat.le_refl _) _) b1
    obtain ⟨l1, k1, _⟩ := (Box.new w #[.bool e, .int .i64 a, .int .i64 p] 46).below b1
    clear b1 c1
    go_wp2_with fail
    refine (c2 _).mono ?_
    rintro _ w2 ⟨rfl, b2⟩
    have HB2 : Hid (Below w.heap.size w w2) := below_then HB1.out b2
    clear b2 c2 HB1 k1 l1
    go_wp2_with fail
    go_ret2
    exact ⟨rfl, HB2.out⟩
end Go.Proofs.YtoijhecphgdfnaaDoor

/-
  The document's box in memory; a message copied: own, ownSent.
-/
namespace Go.Proofs.YtoijhecphgdfnaaDoor
open Go.RowKit

/-- An empty slice made, bytes appended: the copy, and what it leaves. -/
theorem copy_step {W : World} {po : Option Addr} {n c : Nat} {bs : List Int} (h : Byts W po n bs) (hn : n ≤ 140737488355328) :
    ∃ a' c' W', (Builtin.append_ #[44, 44] 44 #[.slice (some ⟨W.heap.size, 0, none⟩) 0 0, .slice po n c]).run Tryd.prog (W.alloc (.cells #[] 5)) = .ok (.slice a' n c') W' ∧ Hid (BRow W' W.heap.size (.slice a' n c') bs ∧ Below W.heap.size W W') := by
  have b1 := (Below.refl W.heap.size W).alloc (Nat.le_refl _) (.cells #[] 5)
  have h0 : BRow (W.alloc (.cells #[] 5)) W.heap.size (.slice (some ⟨W.heap.size, 0, none⟩) 0 0) [] := ⟨rfl, Or.inr ⟨W.heap.size, 0, #[], rfl, Nat.le_refl _, heap_alloc_new _ _, Nat.le_refl _, Nat.zero_le _, rfl, rfl⟩⟩
  obtain ⟨a', c', W', hr, r1, o1⟩ := run_bapp (c := c) h0 (h.below b1) hn b1.size
  exact ⟨a', c', W', hr, r1, b1.trans (o1.below b1.size fun q hq => by omega)⟩
set_option maxRecDepth 100000 in
set_option maxHeartbeats 4000000 in
theorem rown_any (m : Msg) (w : World) (hb : Byts w m.tp m.tn m.tx) (hm : m.tn ≤ 140737488355328) :
    Calls Tryd.prog 30 #[.agg #[.string m.ct, .slice m.tp m.tn m.tc, .bool m.e, .int .i64 m.a, .int .i64 m.p, .int .i64 m.nu, .bool m.nt]] w fun r w' => ∃ a c, r = .returned (.agg #[.string m.ct, .slice a m.tn c, .bool m.e, .int .i64 m.a, .int .i64 m.p, .int .i64 m.nu, .bool m.nt]) ∧ BRow w' w.heap.size (.slice a m.tn c) m.tx ∧ Below w.heap.size w w' := by
  have bv : Below w.heap.size w ((w.alloc (.cells #[.string m.ct, .slice m.tp m.tn m.tc, .bool m.e, .int .i64 m.a, .int .i64 m.p, .int .i64 m.nu, .bool m.nt] 48)).alloc (.cells #[.string ⟨#[]⟩, .slice none 0 0, .bool false, .int .i64 0, .int .i64 0, .int .i64 0, .bool false] 48)) := ((Below.refl _ _).alloc (Nat.le_refl _) _).alloc (by simp) _
  have bx := (Box.new w #[.string m.ct, .slice m.tp m.tn m.tc, .bool m.e, .int .i64 m.a, .int .i64 m.p, .int .i64 m.nu, .bool m.nt] 48).alloc (.cells #[.string ⟨#[]⟩, .slice none 0 0, .bool false, .int .i64 0, .int .i64 0, .int .i64 0, .bool false] 48)
  have by_ := Box.new (w.alloc (.cells #[.string m.ct, .slice m.tp m.tn m.tc, .bool m.e, .int .i64 m.a, .int .i64 m.p, .int .i64 m.nu, .bool m.nt] 48)) #[.string ⟨#[]⟩, .slice none 0 0, .bool false, .int .i64 0, .int .i64 0, .int .i64 0, .bool false] 48
  rw [World.size_alloc] at by_
  obtain ⟨V, hV⟩ : ∃ V, ((w.alloc (.cells #[.string m.ct, .slice m.tp m.tn m.tc, .bool m.e, .int .i64 m.a, .int .i64 m.p, .int .i64 m.nu, .bool m.nt] 48)).alloc (.cells #[.string ⟨#[]⟩, .slice none 0 0, .bool false, .int .i64 0, .int .i64 0, .int .i64 0, .bool false] 48)) = V := ⟨_, rfl⟩
  have HZ : Hid (V.heap.size = w.heap.size + 1 + 1) := by unfold Hid; rw [← hV]; simp
  rw [hV] at bx by_ bv
  obtain ⟨xb, hxb⟩ : ∃ xb, w.heap.size = xb := ⟨_, rfl⟩
  have HXB : Hid (w.heap.size = xb) := hxb
  have HB0 : Hid (Below w.heap.size w V) := bv
  have HX : Hid (Box V xb #[.string m.ct, .slice m.tp m.tn m.tc, .bool m.e, .int .i64 m.a, .int .i64 m.p, .int .i64 m.nu, .bool m.nt] ∧ Box V (xb + 1) #[.string ⟨#[]⟩, .slice none 0 0, .bool false, .int .i64 0, .int .i64 0, .int .i64 0, .bool false]) := by rw [← hxb]; exact ⟨bx, by_⟩
  obtain ⟨a1, c1, W1, hr, HE⟩ := copy_step (c := m.tc) (hb.below bv) hm
  have cx := (HX.out.1.alloc (.cells #[] 5)).cell
  have kx := (HX.out.1.below HE.out.2).cell
  have fx := (HX.out.1.below HE.out.2).free
  have ky := (HX.out.2.below HE.out.2).cell
  have fy := (HX.out.2.below HE.out.2).free
  have HF : Hid (∀ W', Off (fun q => q = xb ∨ q = xb + 1) W1 W' → BRow W' w.heap.size (.slice a1 m.tn c1) m.tx ∧ Below w.heap.size w W') := fun W' ho => by
    have hz := HZ.out
    have hxx := HXB.out
    have r1 := HE.out.1
    have b1 := HE.out.2
    exact ⟨ERow.base (ERow.off r1 ho fun g hg h => by have := (ERow.lt r1 hg).1; omega) (by omega), (below_then HB0.out b1).trans (ho.below (Nat.le_trans HB0.out.size b1.size) fun k hk => by omega)⟩
  clear bv bx by_ hb hm HX HE HB0 HZ
  go_enter Tryd.func30, Tryd.ntmps30
  go_wp2_with (at_builtin; refine wpList_append_run rfl (.tmp 3) (.tmp 5) 44 _ rfl hr ?_)
  refine bodyPost_ret ?_ rfl ⟨a1, c1, rfl, HF.out _ ?_⟩
  · simp [results, Tryd.results30, go_sem, ky]
  · (repeat' (first | (with_reducible exact Off.refl _ _) | refine Off.setCell ?_ (by first | exact Or.inl rfl | exact Or.inr rfl) _))
end Go.Proofs.YtoijhecphgdfnaaDoor
