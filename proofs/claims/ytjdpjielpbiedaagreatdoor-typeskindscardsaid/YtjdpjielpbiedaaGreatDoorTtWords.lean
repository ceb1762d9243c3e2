/-
  The document's words: a text cut at its blanks; lists of strings of a call's own.
-/
import Derived.Test.YtjdpjielpbiedaaGreatDoorTtPrimT
import Derived.OwnWalk
import Derived.Laws.AppendOwn
namespace Go.Proofs.YtjdpjielpbiedaaGreatDoor.Td
open Go.RowKit

abbrev mkS (x : List UInt8) : ByteArray := ⟨x.toArray⟩
def SRow (w : World) (B : Nat) (v : Value) (l : List (List UInt8)) : Prop := w.ownsRow B 9 1 v l.length (l.map fun x => Value.string (mkS x))
theorem strinfo : ∃ i z, Tryz.prog.info? 9 = some i ∧ i.zero = some z ∧ z.cells.size = 1 ∧ i.size = 1 ∧ i.bytes = 16 := by
  have h : (Tryz.prog.info? 9).map (fun i => (i.zero.map (fun z => z.cells.size), i.size, i.bytes)) = some (some 1, 1, 16) := by kernel_rfl
  obtain ⟨i, hi, e⟩ := Option.map_eq_some_iff.1 h
  simp only [Prod.mk.injEq] at e
  obtain ⟨z, hz, e1⟩ := Option.map_eq_some_iff.1 e.1
  exact ⟨i, z, hi, hz, e1, e.2.1, e.2.2⟩
theorem SRow.nil (w : World) (B : Nat) : SRow w B (.slice none 0 0) [] := World.ownsRow_nil w B _ 1
theorem SRow.isSlice {w : World} {B : Nat} {v : Value} {xs : List (List UInt8)} (h : SRow w B v xs) : ∃ a c, v = .slice a xs.length c ∧ xs.length ≤ c := by
  rcases h.2 with ⟨rfl, h0⟩ | ⟨g, cap, cur, rfl, _, _, hc, _⟩
  · exact ⟨none, 0, by rw [h0], by omega⟩
  · exact ⟨_, _, rfl, hc⟩
theorem SRow.below {w w' : World} {B : Nat} {v : Value} {xs : List (List UInt8)} (h : SRow w B v xs) (hk : Below w.heap.size w w') : SRow w' B v xs := by
  refine ⟨h.1, ?_⟩
  rcases h.2 with h | ⟨g, cap, cur, hv, hbg, hg, r⟩
  · exact Or.inl h
  · refine Or.inr ⟨g, cap, cur, hv, hbg, ?_, r⟩
    rw [hk.block g (by rcases Nat.lt_or_ge g w.heap.size with q | q
                       · exact q
                       · rw [Array.getElem?_eq_none q] at hg; cases hg)]
    exact hg
theorem SRow.strs {w : World} {B : Nat} {v : Value} {xs : List (List UInt8)} (h : SRow w B v xs) (h0 : 0 < xs.length) : ∃ g c, v = .slice (some ⟨g, 0, none⟩) xs.length c ∧ Strs w g xs := by
  have hcl := fun g e => World.ownsRow.cells h (g := g) e
  rcases h.2 with ⟨e, h1⟩ | ⟨g, cap, cur, rfl, hbg, hg, r⟩
  · omega
  · refine ⟨g, cap, rfl, fun j hj => ?_⟩
    have := hcl g rfl j (.string (mkS (xs.getD j []))) (by simp [List.getD, hj])
    rw [Addr.add_lit, Nat.zero_add] at this
    exact this
theorem below_grown {w w' : World} {B : Nat} {row : Option Nat} (h : w.grownBy w' row) (hB : B ≤ w.heap.size) (hr : ∀ g, row = some g → B ≤ g) : Below B w w' :=
  ⟨h.os, h.tape, h.output, h.size, fun k hk => h.block k (by omega) (fun e => by have := hr k e.symm; omega)⟩
/-- One more string. -/
theorem run_spush {w : World} {B : Nat} {v : Value} {xs : List (List UInt8)} (h : SRow w B v xs) (hB : B ≤ w.heap.size) (hl : xs.length + 1 ≤ 1000) (y : List UInt8) (Y : ByteArray) (hY : Y = mkS y) :
    ∃ a c w', (Builtin.append_ #[28, 28] 28 #[v, .slice (some ⟨w.heap.size, 0, none⟩) 1 1]).run Tryz.prog (w.alloc (.cells #[.string Y] 9)) = .ok (.slice a (xs.length + 1) c) w' ∧ SRow w' B (.slice a (xs.length + 1) c) (xs ++ [y]) ∧ Below B w w' := by
  subst hY
  obtain ⟨i, z, hi, hz, hzs, hs, hby⟩ := strinfo
  have bW : Below w.heap.size w (w.alloc (.cells #[.string (mkS y)] 9)) := (Below.refl _ _).alloc (Nat.le_refl _) _
  have hrow : SRow (w.alloc (.cells #[.string (mkS y)] 9)) B v xs := h.below bW
  obtain ⟨v', w', hr, r, hg, _⟩ := run_append_own (P := Tryz.prog) (w.alloc (.cells #[.string (mkS y)] 9)) B 28 28 9 i z 1 16 Tryz.underlying28 hi hz hs hby hzs (by omega) v xs.length (xs.map fun x => Value.string (mkS x)) hrow ⟨w.heap.size, 0, none⟩ 1 1 [.string (mkS y)] rfl (fun j u hu => by
      rw [show (⟨w.heap.size, 0, none⟩ : Addr).add j = ⟨w.heap.size, j, none⟩ by rw [Addr.add_lit, Nat.zero_add], cell_new]
      simpa using hu) (fun u hu => by simp only [List.mem_cons, List.not_mem_nil, or_false] at hu; subst hu; rfl) (by unfold maxLen; omega) (by omega) (by simp; omega)
  have hR : SRow w' B v' (xs ++ [y]) := by
    unfold SRow
    simpa using r
  obtain ⟨a, c, rfl, _⟩ := hR.isSlice
  simp only [List.length_append, List.length_singleton] at hr hR
  refine ⟨a, c, w', hr, hR, ?_⟩
  refine Below.trans ⟨bW.os, bW.tape, bW.output, bW.size, fun k hk => bW.block k (by omega)⟩ (below_grown hg (by simp; omega) (fun g e => ?_))
  rcases h.2 with ⟨rfl, h0⟩ | ⟨g', cap, cur, rfl, hbg, _⟩
  · cases e
  · simp [Value.ownBlock] at e; omega
/-- append, in the walk, by an equation of its run. -/
theorem wpList_append_run {P : Program} {w w' : World} {ops : Array Oper} {rest : List Oper} {o : Oper} {a : Act} {Q : Exit → Act → World → Prop} (hgd : o.guard = none) (s x : Operand) (t : TypeId) (v' : Value)
    (ho : o.op = .call { callee := .builtin .append, args := #[s, x], argTypes := #[t, t] }) (hr : (Builtin.append_ #[t, t] o.type #[a.eval s, a.eval x]).run P w = .ok v' w') (h : wpList P ops Q rest (a.put o.dst v') w') : wpList P ops Q (o :: rest) a w :=
  wpList_plain hgd fun _ hK => by
    unfold Oper.wp execOp
    simp only [ho, resolve, invoke, builtin, Sem.run_bind, Sem.run_pure, Result.andThen_ok, List.map_toArray, List.map_cons, List.map_nil, hr]
    exact hK _ _ h
/-- Where the word begins that is being read, and the words before it, behind i bytes. -/
def wst (l : List UInt8) : Nat → Nat × List (List UInt8)
  | 0 => (0, [])
  | i + 1 => if i = l.length ∨ l[i]? = some 32 then (i + 1, if (wst l i).1 < i then (wst l i).2 ++ [(l.drop (wst l i).1).take (i - (wst l i).1)] else (wst l i).2) else wst l i
theorem wst_end {l : List UInt8} {i p : Nat} {L : List (List UInt8)} (h : wst l i = (p, L)) (hi : i = l.length ∨ l[i]? = some 32) : wst l (i + 1) = (i + 1, if p < i then L ++ [(l.drop p).take (i - p)] else L) := by
  show (if i = l.length ∨ l[i]? = some 32 then (i + 1, if (wst l i).1 < i then (wst l i).2 ++ [(l.drop (wst l i).1).take (i - (wst l i).1)] else (wst l i).2) else wst l i) = _
  rw [if_pos hi, h]
theorem wst_on {l : List UInt8} {i p : Nat} {L : List (List UInt8)} (h : wst l i = (p, L)) (hi : ¬ (i = l.length ∨ l[i]? = some 32)) : wst l (i + 1) = (p, L) := by
  show (if i = l.length ∨ l[i]? = some 32 then (i + 1, if (wst l i).1 < i then (wst l i).2 ++ [(l.drop (wst l i).1).take (i - (wst l i).1)] else (wst l i).2) else wst l i) = _
  rw [if_neg hi, h]
theorem cut_mk (s : ByteArray) (p i : Nat) : s.extract p i = mkS (((bl s).drop p).take (i - p)) := bl_inj (by rw [bl_extract])
def WdQ (s : ByteArray) (w : World) (e : Ending) (w' : World) : Prop := ∃ v, e = .returned v ∧ SRow w' w.heap.size v (wst (bl s) (s.size + 1)).2 ∧ Below w.heap.size w w'
set_option maxRecDepth 100000 in
set_option maxHeartbeats 2000000 in
theorem words_any (s : ByteArray) (w : World) (hs : s.size ≤ 90) : Calls Tryz.prog 21 #[.string s] w (WdQ s w) := by
  go_enter Tryz.func21, Tryz.ntmps21
  go_wp2_with fail
  go_loopw [3, 4, 5] (fun t3 t4 t5 wx => ∃ (i p : Nat) (L : List (List UInt8)), i ≤ s.size + 1 ∧ p ≤ i ∧ t5 = .int .i64 i ∧ t4 = .int .i64 p ∧ Hid (wst (bl s) i = (p, L)) ∧ Hid (L.length ≤ i) ∧ Hid (SRow wx w.heap.size t3 L) ∧ Hid (Below w.heap.size w wx)) (fun _ _ t5 _ => s.size + 1 - (intOf t5).toNat)
  case atStart => exact ⟨0, 0, [], Nat.zero_le _, Nat.le_refl _, rfl, rfl, rfl, Nat.zero_le _, SRow.nil _ _, Below.refl _ _⟩
  case round =>
    obtain ⟨i, p, L, hi, hp, rfl, rfl, HK, HL, HR, HB⟩ := hrel
    by_cases hout : i = s.size + 1
    · have hli : ¬ (i : Int) ≤ s.size := by omega
      have HE : Hid ((wst (bl s) (s.size + 1)).2 = L) := by unfold Hid; rw [← hout, HK.out]
      clear hout
      go_wp2_with fail
      go_ret
      exact ⟨_, rfl, by rw [HE.out]; exact HR.out, HB.out⟩
    · have hli : (i : Int) ≤ s.size := by omega
      have hsp : (i = s.size ∨ ∃ h : i < s.size, s[i] = 32) ∨ (∃ h : i < s.size, s[i] ≠ 32) := by
        rcases (by omega : i = s.size ∨ i < s.size) with h | h
        · exact Or.inl (Or.inl h)
        · by_cases h2 : s[i] = 32
          · exact Or.inl (Or.inr ⟨h, h2⟩)
          · exact Or.inr ⟨h, h2⟩
      rcases hsp with (he | ⟨hlt, h32⟩) | ⟨hlt, h32⟩
      · have q1 : ((i : Int) == s.size) = true := by simp; omega
        have HS : Hid (i = (bl s).length ∨ (bl s)[i]? = some 32) := Or.inl (by rw [bl_len]; exact he)
        have hile : i ≤ s.size := by omega
        clear he
        by_cases hg : p < i
        · have hgi : (p : Int) < i := by omega
          have HK2 : Hid (wst (bl s) (i + 1) = (i + 1, L ++ [((bl s).drop p).take (i - p)])) := by unfold Hid; rw [wst_end HK.out HS.out, if_pos hg]
          obtain ⟨a0, c0, rfl, hc0⟩ := HR.out.isSlice
          obtain ⟨a3, c3, w3, e3, r3, b3⟩ := run_spush HR.out HB.out.size (by have := HL.out; omega) (((bl s).drop p).take (i - p)) (s.extract p i) (cut_mk s p i)
          have HR3 : Hid (SRow w3 w.heap.size (.slice a3 (L.length + 1) c3) (L ++ [((bl s).drop p).take (i - p)]) ∧ Below w.heap.size w w3) := ⟨r3, HB.out.trans b3⟩
          clear r3 b3 hc0
          go_wp2_with (at_builtin; refine wpList_append_run rfl (.tmp 25) (.tmp 30) 28 _ rfl e3 ?_)
          go_roundw
          case rel => exact ⟨i + 1, i + 1, _, by omega, Nat.le_refl _, by go_num, by go_num, HK2, (by have := HL.out; unfold Hid; simp; omega), HR3.out.1, HR3.out.2⟩
          case measure => simp [intOf]; omega
        · have hgi : ¬ (p : Int) < i := by omega
          have HK2 : Hid (wst (bl s) (i + 1) = (i + 1, L)) := by unfold Hid; rw [wst_end HK.out HS.out, if_neg hg]
          go_wp2_with fail
          go_roundw
          case rel => exact ⟨i + 1, i + 1, _, by omega, Nat.le_refl _, by go_num, by go_num, HK2, (by have := HL.out; unfold Hid; omega), HR, HB⟩
          case measure => simp [intOf]; omega
      · have q1 : ((i : Int) == s.size) = false := by simp; omega
        have hlti : (i : Int) < s.size := by omega
        have q2 : ((s[i].toNat : Int) == 32) = true := by rw [h32]; rfl
        have HS : Hid (i = (bl s).length ∨ (bl s)[i]? = some 32) := Or.inr (by rw [bl_at hlt, h32])
        have hile : i ≤ s.size := by omega
        clear h32
        by_cases hg : p < i
        · have hgi : (p : Int) < i := by omega
          have HK2 : Hid (wst (bl s) (i + 1) = (i + 1, L ++ [((bl s).drop p).take (i - p)])) := by unfold Hid; rw [wst_end HK.out HS.out, if_pos hg]
          obtain ⟨a0, c0, rfl, hc0⟩ := HR.out.isSlice
          obtain ⟨a3, c3, w3, e3, r3, b3⟩ := run_spush HR.out HB.out.size (by have := HL.out; omega) (((bl s).drop p).take (i - p)) (s.extract p i) (cut_mk s p i)
          have HR3 : Hid (SRow w3 w.heap.size (.slice a3 (L.length + 1) c3) (L ++ [((bl s).drop p).take (i - p)]) ∧ Below w.heap.size w w3) := ⟨r3, HB.out.trans b3⟩
          clear r3 b3 hc0
          go_wp2_with (at_builtin; refine wpList_append_run rfl (.tmp 25) (.tmp 30) 28 _ rfl e3 ?_)
          go_roundw
          case rel => exact ⟨i + 1, i + 1, _, by omega, Nat.le_refl _, by go_num, by go_num, HK2, (by have := HL.out; unfold Hid; simp; omega), HR3.out.1, HR3.out.2⟩
          case measure => simp [intOf]; omega
        · have hgi : ¬ (p : Int) < i := by omega
          have HK2 : Hid (wst (bl s) (i + 1) = (i + 1, L)) := by unfold Hid; rw [wst_end HK.out HS.out, if_neg hg]
          go_wp2_with fail
          go_roundw
          case rel => exact ⟨i + 1, i + 1, _, by omega, Nat.le_refl _, by go_num, by go_num, HK2, (by have := HL.out; unfold Hid; omega), HR, HB⟩
          case measure => simp [intOf]; omega
      · have q1 : ((i : Int) == s.size) = false := by simp; omega
        have hlti : (i : Int) < s.size := by omega
        have q2 : ((s[i].toNat : Int) == 32) = false := by
          simp only [beq_eq_false_iff_ne, ne_eq]
          intro e
          exact h32 (UInt8.toNat_inj.1 (by have : s[i].toNat = 32 := by omega
                                           exact this))
        have HK2 : Hid (wst (bl s) (i + 1) = (p, L)) := wst_on HK.out (by rintro (e | e); (· rw [bl_len] at e; omega); (· rw [bl_at hlt] at e; exact h32 (Option.some.inj e)))
        clear h32
        go_wp2_with fail
        go_roundw
        case rel => exact ⟨i + 1, p, _, by omega, by omega, by go_num, rfl, HK2, (by have := HL.out; unfold Hid; omega), HR, HB⟩
        case measure => simp [intOf]; omega
end Go.Proofs.YtjdpjielpbiedaaGreatDoor.Td
