import Derived.Test.YtphobcobpclioaaGreatDoorTtPrimT
import Derived.OwnWalk
import Derived.Laws.AppendOwn
import Derived.Lib.LazyBuf
/-
  The document's words: a text cut at its blanks; lists of strings of a call's own.
-/
namespace Go.Proofs.YtphobcobpclioaaGreatDoor.Td
open Go.RowKit

abbrev mkS (x : List UInt8) : ByteArray := ⟨x.toArray⟩
def SRow (w : World) (B : Nat) (v : Value) (l : List (List UInt8)) : Prop := w.ownsRow B 9 1 v l.length (l.map fun x => Value.string (mkS x))
theorem strinfo : ∃ i z, Tryz.prog.info? 9 = some i ∧ i.zero = some z ∧ z.cells.size = 1 ∧ i.size = 1 ∧ i.bytes = 16 := by
  have h : (Tryz.prog.info? 9).map (fun i => (i.zero.map (fun z => z.cells.size), i.size, i.bytes)) = some (some 1, 1, 16) := by kernel_rfl
  obtain ⟨i, hi, e⟩ := Option.map_eq_some_iff.1 h
  simp only [Prod.mk.injEq] at e
  obtain ⟨z, hz, e1⟩ := Option.map_eq_some_iff.1 e.1
  exact ⟨i, z, hi, hz, e1, e.2.1, e.2.2⟩
theorem SRow.nil (w : World) (B : Nat) : SRow w B (.slice none 0 0) [] := World.ownsRow_nil w B _ 1
theorem SRow.isSlice {w : World} {B : Nat} {v : Value} {xs : List (List UInt8)} (h : SRow w B v xs) : ∃ a c, v = .slice a xs.length c ∧ xs.length ≤ c := by
  rcases h.2 with ⟨rfl, h0⟩ | ⟨g, cap, cur, rfl, _, _, hc, _⟩
  · exact ⟨none, 0, by rw [h0], by omega⟩
  · exact ⟨_, _, rfl, hc⟩
theorem SRow.below {w w' : World} {B : Nat} {v : Value} {xs : List (List UInt8)} (h : SRow w B v xs) (hk : Below w.heap.size w w') : SRow w' B v xs := by
  refine ⟨h.1, ?_⟩
  rcases h.2 with h | ⟨g, cap, cur, hv, hbg, hg, r⟩
  · exact Or.inl h
  · refine Or.inr ⟨g, cap, cur, hv, hbg, ?_, r⟩
    rw [hk.block g (by rcases Nat.lt_or_ge g w.heap.size with q | q
                       · exact q
                       · rw [Array.getElem?_eq_none q] at hg; cases hg)]
    exact hg
theorem SRow.strs {w : World} {B : Nat} {v : Value} {xs : List (List UInt8)} (h : SRow w B v xs) (h0 : 0 < xs.length) : ∃ g c, v = .slice (some ⟨g, 0, none⟩) xs.length c ∧ Strs w g xs := by
  have hcl := fun g e => World.ownsRow.cells h (g := g) e
  rcases h.2 with ⟨e, h1⟩ | ⟨g, cap, cur, rfl, hbg, hg, r⟩
  · omega
  · refine ⟨g, cap, rfl, fun j hj => ?_⟩
    have := hcl g rfl j (.string (mkS (xs.getD j []))) (by simp [List.getD, hj])
    rw [Addr.add_lit, Nat.zero_add] at this
    exact this
theorem below_grown {w w' : World} {B : Nat} {row : Option Nat} (h : w.grownBy w' row) (hB : B ≤ w.heap.size) (hr : ∀ g, row = some g → B ≤ g) : Below B w w' :=
  ⟨h.os, h.tape, h.output, h.size, fun k hk => h.block k (by omega) (fun e => by have := hr k e.symm; omega)⟩
/-- One more string. -/
theorem run_spush {w : World} {B : Nat} {v : Value} {xs : List (List UInt8)} (h : SRow w B v xs) (hB : B ≤ w.heap.size) (hl : xs.length + 1 ≤ 1000) (y : List UInt8) (Y : ByteArray) (hY : Y = mkS y) :
    ∃ a c w', (Builtin.append_ #[36, 36] 36 #[v, .slice (some ⟨w.heap.size, 0, none⟩) 1 1]).run Tryz.prog (w.alloc (.cells #[.string Y] 9)) = .ok (.slice a (xs.length + 1) c) w' ∧ SRow w' B (.slice a (xs.length + 1) c) (xs ++ [y]) ∧ Below B w w' := by
  subst hY
  obtain ⟨i, z, hi, hz, hzs, hs, hby⟩ := strinfo
  have bW : Below w.heap.size w (w.alloc (.cells #[.string (mkS y)] 9)) := (Below.refl _ _).alloc (Nat.le_refl _) _
  have hrow : SRow (w.alloc (.cells #[.string (mkS y)] 9)) B v xs := h.below bW
  obtain ⟨v', w', hr, r, hg, _⟩ := run_append_own (P := Tryz.prog) (w.alloc (.cells #[.string (mkS y)] 9)) B 36 36 9 i z 1 16 Tryz.underlying36 hi hz hs hby hzs (by omega) v xs.length (xs.map fun x => Value.string (mkS x)) hrow ⟨w.heap.size, 0, none⟩ 1 1 [.string (mkS y)] rfl (fun j u hu => by
      rw [show (⟨w.heap.size, 0, none⟩ : Addr).add j = ⟨w.heap.size, j, none⟩ by rw [Addr.add_lit, Nat.zero_add], cell_new]
      simpa using hu) (fun u hu => by simp only [List.mem_cons, List.not_mem_nil, or_false] at hu; subst hu; rfl) (by unfold maxLen; omega) (by omega) (by simp; omega)
  have hR : SRow w' B v' (xs ++ [y]) := by
    unfold SRow
    simpa using r
  obtain ⟨a, c, rfl, _⟩ := hR.isSlice
  simp only [List.length_append, List.length_singleton] at hr hR
  refine ⟨a, c, w', hr, hR, ?_⟩
  refine Below.trans ⟨bW.os, bW.tape, bW.output, bW.size, fun k hk => bW.block k (by omega)⟩ (below_grown hg (by simp; omega) (fun g e => ?_))
  rcases h.2 with ⟨rfl, h0⟩ | ⟨g', cap, cur, rfl, hbg, _⟩
  · cases e
  · simp [Value.ownBlock] at e; omega
/-- append, in the walk, by an equation of its run. -/
theorem wpList_append_run {P : Program} {w w' : World} {ops : Array Oper} {rest : List Oper} {o : Oper} {a : Act} {Q : Exit → Act → World → Prop} (hgd : o.guard = none) (s x : Operand) (t : TypeId) (v' : Value)
    (ho : o.op = .call { callee := .builtin .append, args := #[s, x], argTypes := #[t, t] }) (hr : (Builtin.append_ #[t, t] o.type #[a.eval s, a.eval x]).run P w = .ok v' w') (h : wpList P ops Q rest (a.put o.dst v') w') : wpList P ops Q (o :: rest) a w :=
  wpList_plain hgd fun _ hK => by
    unfold Oper.wp execOp
    simp only [ho, resolve, invoke, builtin, Sem.run_bind, Sem.run_pure, Result.andThen_ok, List.map_toArray, List.map_cons, List.map_nil, hr]
    exact hK _ _ h
/-- Where the word begins that is being read, and the words before it, behind i bytes. -/
def wst (l : List UInt8) : Nat → Nat × List (List UInt8)
  | 0 => (0, [])
  | i + 1 => if i = l.length ∨ l[i]? = some 32 then (i + 1, if (wst l i).1 < i then (wst l i).2 ++ [(l.drop (wst l i).1).take (i - (wst l i).1)] else (wst l i).2) else wst l i
theorem wst_end {l : List UInt8} {i p : Nat} {L : List (List UInt8)} (h : wst l i = (p, L)) (hi : i = l.length ∨ l[i]? = some 32) : wst l (i + 1) = (i + 1, if p < i then L ++ [(l.drop p).take (i - p)] else L) := by
  show (if i = l.length ∨ l[i]? = some 32 then (i + 1, if (wst l i).1 < i then (wst l i).2 ++ [(l.drop (wst l i).1).take (i - (wst l i).1)] else (wst l i).2) else wst l i) = _
  rw [if_pos hi, h]
theorem wst_on {l : List UInt8} {i p : Nat} {L : List (List UInt8)} (h : wst l i = (p, L)) (hi : ¬ (i = l.length ∨ l[i]? = some 32)) : wst l (i + 1) = (p, L) := by
  show (if i = l.length ∨ l[i]? = some 32 then (i + 1, if (wst l i).1 < i then (wst l i).2 ++ [(l.drop (wst l i).1).take (i - (wst l i).1)] else (wst l i).2) else wst l i) = _
  rw [if_neg hi, h]
theorem cut_mk (s : ByteArray) (p i : Nat) : s.extract p i = mkS (((bl s).drop p).take (i - p)) := bl_inj (by rw [bl_extract])
def WdQ (s : ByteArray) (w : World) (e : Ending) (w' : World) : Prop := ∃ v, e = .returned v ∧ SRow w' w.heap.size v (wst (bl s) (s.size + 1)).2 ∧ Below w.heap.size w w'
set_option maxRecDepth 100000 in
set_option maxHeartbeats 2000000 in
theorem words_any (s : ByteArray) (w : World) (hs : s.size ≤ 90) : Calls Tryz.prog 59 #[.string s] w (WdQ s w) := by
  go_enter Tryz.func59, Tryz.ntmps59
  go_wp2_with fail
  go_loopw [3, 4, 5] (fun t3 t4 t5 wx => ∃ (i p : Nat) (L : List (List UInt8)), i ≤ s.size + 1 ∧ p ≤ i ∧ t5 = .int .i64 i ∧ t4 = .int .i64 p ∧ Hid (wst (bl s) i = (p, L)) ∧ Hid (L.length ≤ i) ∧ Hid (SRow wx w.heap.size t3 L) ∧ Hid (Below w.heap.size w wx)) (fun _ _ t5 _ => s.size + 1 - (intOf t5).toNat)
  case atStart => exact ⟨0, 0, [], Nat.zero_le _, Nat.le_refl _, rfl, rfl, rfl, Nat.zero_le _, SRow.nil _ _, Below.refl _ _⟩
  case round =>
    obtain ⟨i, p, L, hi, hp, rfl, rfl, HK, HL, HR, HB⟩ := hrel
    by_cases hout : i = s.size + 1
    · have hli : ¬ (i : Int) ≤ s.size := by omega
      have HE : Hid ((wst (bl s) (s.size + 1)).2 = L) := by unfold Hid; rw [← hout, HK.out]
      clear hout
      go_wp2_with fail
      go_ret
      exact ⟨_, rfl, by rw [HE.out]; exact HR.out, HB.out⟩
    · have hli : (i : Int) ≤ s.size := by omega
      have hsp : (i = s.size ∨ ∃ h : i < s.size, s[i] = 32) ∨ (∃ h : i < s.size, s[i] ≠ 32) := by
        rcases (by omega : i = s.size ∨ i < s.size) with h | h
        · exact Or.inl (Or.inl h)
        · by_cases h2 : s[i] = 32
          · exact Or.inl (Or.inr ⟨h, h2⟩)
          · exact Or.inr ⟨h, h2⟩
      rcases hsp with (he | ⟨hlt, h32⟩) | ⟨hlt, h32⟩
      · have q1 : ((i : Int) == s.size) = true := by simp; omega
        have HS : Hid (i = (bl s).length ∨ (bl s)[i]? = some 32) := Or.inl (by rw [bl_len]; exact he)
        have hile : i ≤ s.size := by omega
        clear he
        by_cases hg : p < i
        · have hgi : (p : Int) < i := by omega
          have HK2 : Hid (wst (bl s) (i + 1) = (i + 1, L ++ [((bl s).drop p).take (i - p)])) := by unfold Hid; rw [wst_end HK.out HS.out, if_pos hg]
          obtain ⟨a0, c0, rfl, hc0⟩ := HR.out.isSlice
          obtain ⟨a3, c3, w3, e3, r3, b3⟩ := run_spush HR.out HB.out.size (by have := HL.out; omega) (((bl s).drop p).take (i - p)) (s.extract p i) (cut_mk s p i)
          have HR3 : Hid (SRow w3 w.heap.size (.slice a3 (L.length + 1) c3) (L ++ [((bl s).drop p).take (i - p)]) ∧ Below w.heap.size w w3) := ⟨r3, HB.out.trans b3⟩
          clear r3 b3 hc0
          go_wp2_with (at_builtin; refine wpList_append_run rfl (.tmp 25) (.tmp 30) 36 _ rfl e3 ?_)
          go_roundw
          case rel => exact ⟨i + 1, i + 1, _, by omega, Nat.le_refl _, by go_num, by go_num, HK2, (by have := HL.out; unfold Hid; simp; omega), HR3.out.1, HR3.out.2⟩
          case measure => simp [intOf]; omega
        · have hgi : ¬ (p : Int) < i := by omega
          have HK2 : Hid (wst (bl s) (i + 1) = (i + 1, L)) := by unfold Hid; rw [wst_end HK.out HS.out, if_neg hg]
          go_wp2_with fail
          go_roundw
          case rel => exact ⟨i + 1, i + 1, _, by omega, Nat.le_refl _, by go_num, by go_num, HK2, (by have := HL.out; unfold Hid; omega), HR, HB⟩
          case measure => simp [intOf]; omega
      · have q1 : ((i : Int) == s.size) = false := by simp; omega
        have hlti : (i : Int) < s.size := by omega
        have q2 : ((s[i].toNat : Int) == 32) = true := by rw [h32]; rfl
        have HS : Hid (i = (bl s).length ∨ (bl s)[i]? = some 32) := Or.inr (by rw [bl_at hlt, h32])
        have hile : i ≤ s.size := by omega
        clear h32
        by_cases hg : p < i
        · have hgi : (p : Int) < i := by omega
          have HK2 : Hid (wst (bl s) (i + 1) = (i + 1, L ++ [((bl s).drop p).take (i - p)])) := by unfold Hid; rw [wst_end HK.out HS.out, if_pos hg]
          obtain ⟨a0, c0, rfl, hc0⟩ := HR.out.isSlice
          obtain ⟨a3, c3, w3, e3, r3, b3⟩ := run_spush HR.out HB.out.size (by have := HL.out; omega) (((bl s).drop p).take (i - p)) (s.extract p i) (cut_mk s p i)
          have HR3 : Hid (SRow w3 w.heap.size (.slice a3 (L.length + 1) c3) (L ++ [((bl s).drop p).take (i - p)]) ∧ Below w.heap.size w w3) := ⟨r3, HB.out.trans b3⟩
          clear r3 b3 hc0
          go_wp2_with (at_builtin; refine wpList_append_run rfl (.tmp 25) (.tmp 30) 36 _ rfl e3 ?_)
          go_roundw
          case rel => exact ⟨i + 1, i + 1, _, by omega, Nat.le_refl _, by go_num, by go_num, HK2, (by have := HL.out; unfold Hid; simp; omega), HR3.out.1, HR3.out.2⟩
          case measure => simp [intOf]; omega
        · have hgi : ¬ (p : Int) < i := by omega
          have HK2 : Hid (wst (bl s) (i + 1) = (i + 1, L)) := by unfold Hid; rw [wst_end HK.out HS.out, if_neg hg]
          go_wp2_with fail
          go_roundw
          case rel => exact ⟨i + 1, i + 1, _, by omega, Nat.le_refl _, by go_num, by go_num, HK2, (by have := HL.out; unfold Hid; omega), HR, HB⟩
          case measure => simp [intOf]; omega
      · have q1 : ((i : Int) == s.size) = false := by simp; omega
        have hlti : (i : Int) < s.size := by omega
        have q2 : ((s[i].toNat : Int) == 32) = false := by
          simp only [beq_eq_false_iff_ne, ne_eq]
          intro e
          exact h32 (UInt8.toNat_inj.1 (by have : s[i].toNat = 32 := by omega
                                           exact this))
        have HK2 : Hid (wst (bl s) (i + 1) = (p, L)) := wst_on HK.out (by rintro (e | e); (· rw [bl_len] at e; omega); (· rw [bl_at hlt] at e; exact h32 (Option.some.inj e)))
        clear h32
        go_wp2_with fail
        go_roundw
        case rel => exact ⟨i + 1, p, _, by omega, by omega, by go_num, rfl, HK2, (by have := HL.out; unfold Hid; omega), HR, HB⟩
        case measure => simp [intOf]; omega
end Go.Proofs.YtphobcobpclioaaGreatDoor.Td

/-
  The document's tables: Table, in, TableOf.
-/
namespace Go.Proofs.YtphobcobpclioaaGreatDoor.Td
open Go.RowKit

/-- The values of a table by its number. -/
def tabN (n : Nat) : Option (List (List UInt8)) :=
  if n = 3 then some [[65, 48, 49], [65, 48, 50], [65, 48, 51], [65, 48, 52], [65, 48, 56], [65, 49, 49], [65, 49, 50], [65, 49, 51], [79, 48, 49], [79, 50, 49], [80, 48, 49], [81, 48, 49], [82, 48, 49]] else if n = 8 then some [[65, 65], [65, 69], [65, 82], [67, 65], [67, 69], [67, 82]] else if n = 61 then some [[68, 78, 83], [73, 83, 79], [77, 49, 48], [77, 49, 49], [85, 85, 73, 68]] else if n = 76 then some [[65, 67, 75], [65, 68, 84], [66, 65, 82], [79, 82, 77], [79, 82, 85], [81, 82, 89]] else if n = 103 then some [[68], [80], [84]] else if n = 104 then some [[50, 46, 49], [50, 46, 50], [50, 46, 51], [50, 46, 51, 46, 49], [50, 46, 52], [50, 46, 53], [50, 46, 53, 46, 49]] else if n = 155 then some [[65, 76], [69, 82], [78, 69], [83, 85]] else if n = 357 then some [[48], [49, 48, 48], [49, 48, 49], [49, 48, 50], [49, 48, 51], [50, 48, 48], [50, 48, 49], [50, 48, 50], [50, 48, 51], [50, 48, 52], [50, 48, 53], [50, 48, 54], [50, 48, 55]] else if n = 516 then some [[69], [70], [73], [87]] else none
def TbQ (n : Nat) (w : World) (e : Ending) (w' : World) : Prop :=
  ((∃ l b c, tabN n = some l ∧ Strs w' b l ∧ 0 < l.length ∧ l.length ≤ 100 ∧ e = .returned (.slice (some ⟨b, 0, none⟩) l.length c)) ∨ (tabN n = none ∧ e = .returned (.slice none 0 0))) ∧ Below w.heap.size w w'
theorem words_0 (w : World) : Calls Tryz.prog 59 #[.string ⟨#[65, 48, 49, 32, 65, 48, 50, 32, 65, 48, 51, 32, 65, 48, 52, 32, 65, 48, 56, 32, 65, 49, 49, 32, 65, 49, 50, 32, 65, 49, 51, 32, 79, 48, 49, 32, 79, 50, 49, 32, 80, 48, 49, 32, 81, 48, 49, 32, 82, 48, 49]⟩] w fun e w' => ∃ b c, e = .returned (.slice (some ⟨b, 0, none⟩) 13 c) ∧ Strs w' b [[65, 48, 49], [65, 48, 50], [65, 48, 51], [65, 48, 52], [65, 48, 56], [65, 49, 49], [65, 49, 50], [65, 49, 51], [79, 48, 49], [79, 50, 49], [80, 48, 49], [81, 48, 49], [82, 48, 49]] ∧ Below w.heap.size w w' := by
  refine (words_any ⟨#[65, 48, 49, 32, 65, 48, 50, 32, 65, 48, 51, 32, 65, 48, 52, 32, 65, 48, 56, 32, 65, 49, 49, 32, 65, 49, 50, 32, 65, 49, 51, 32, 79, 48, 49, 32, 79, 50, 49, 32, 80, 48, 49, 32, 81, 48, 49, 32, 82, 48, 49]⟩ w (by decide)).mono ?_
  rintro _ w' ⟨v, rfl, hr, hb⟩
  rw [show (wst (bl ⟨#[65, 48, 49, 32, 65, 48, 50, 32, 65, 48, 51, 32, 65, 48, 52, 32, 65, 48, 56, 32, 65, 49, 49, 32, 65, 49, 50, 32, 65, 49, 51, 32, 79, 48, 49, 32, 79, 50, 49, 32, 80, 48, 49, 32, 81, 48, 49, 32, 82, 48, 49]⟩) ((⟨#[65, 48, 49, 32, 65, 48, 50, 32, 65, 48, 51, 32, 65, 48, 52, 32, 65, 48, 56, 32, 65, 49, 49, 32, 65, 49, 50, 32, 65, 49, 51, 32, 79, 48, 49, 32, 79, 50, 49, 32, 80, 48, 49, 32, 81, 48, 49, 32, 82, 48, 49]⟩ : ByteArray).size + 1)).2 = [[65, 48, 49], [65, 48, 50], [65, 48, 51], [65, 48, 52], [65, 48, 56], [65, 49, 49], [65, 49, 50], [65, 49, 51], [79, 48, 49], [79, 50, 49], [80, 48, 49], [81, 48, 49], [82, 48, 49]] from by kernel_rfl] at hr
  obtain ⟨b, c, rfl, h⟩ := hr.strs (by decide)
  exact ⟨b, c, rfl, h, hb⟩
set_option maxHeartbeats 1000000 in
theorem table_0 (w : World) : Calls Tryz.prog 38 #[.int .i64 3] w (TbQ 3 w) := by
  go_enter Tryz.func38, Tryz.ntmps38
  go_wp2_with fail
  refine (words_0 _).mono ?_
  rintro _ w1 ⟨b, c, rfl, hs, hb⟩
  have HH : Hid (Strs w1 b [[65, 48, 49], [65, 48, 50], [65, 48, 51], [65, 48, 52], [65, 48, 56], [65, 49, 49], [65, 49, 50], [65, 49, 51], [79, 48, 49], [79, 50, 49], [80, 48, 49], [81, 48, 49], [82, 48, 49]] ∧ Below w.heap.size w w1) := ⟨hs, hb⟩
  clear hs hb
  go_wp2_with fail
  go_ret
  exact ⟨Or.inl ⟨_, b, c, by decide, HH.out.1, by decide, by decide, rfl⟩, HH.out.2⟩
theorem words_1 (w : World) : Calls Tryz.prog 59 #[.string ⟨#[65, 65, 32, 65, 69, 32, 65, 82, 32, 67, 65, 32, 67, 69, 32, 67, 82]⟩] w fun e w' => ∃ b c, e = .returned (.slice (some ⟨b, 0, none⟩) 6 c) ∧ Strs w' b [[65, 65], [65, 69], [65, 82], [67, 65], [67, 69], [67, 82]] ∧ Below w.heap.size w w' := by
  refine (words_any ⟨#[65, 65, 32, 65, 69, 32, 65, 82, 32, 67, 65, 32, 67, 69, 32, 67, 82]⟩ w (by decide)).mono ?_
  rintro _ w' ⟨v, rfl, hr, hb⟩
  rw [show (wst (bl ⟨#[65, 65, 32, 65, 69, 32, 65, 82, 32, 67, 65, 32, 67, 69, 32, 67, 82]⟩) ((⟨#[65, 65, 32, 65, 69, 32, 65, 82, 32, 67, 65, 32, 67, 69, 32, 67, 82]⟩ : ByteArray).size + 1)).2 = [[65, 65], [65, 69], [65, 82], [67, 65], [67, 69], [67, 82]] from by kernel_rfl] at hr
  obtain ⟨b, c, rfl, h⟩ := hr.strs (by decide)
  exact ⟨b, c, rfl, h, hb⟩
set_option maxHeartbeats 1000000 in
theorem table_1 (w : World) : Calls Tryz.prog 38 #[.int .i64 8] w (TbQ 8 w) := by
  go_enter Tryz.func38, Tryz.ntmps38
  go_wp2_with fail
  refine (words_1 _).mono ?_
  rintro _ w1 ⟨b, c, rfl, hs, hb⟩
  have HH : Hid (Strs w1 b [[65, 65], [65, 69], [65, 82], [67, 65], [67, 69], [67, 82]] ∧ Below w.heap.size w w1) := ⟨hs, hb⟩
  clear hs hb
  go_wp2_with fail
  go_ret
  exact ⟨Or.inl ⟨_, b, c, by decide, HH.out.1, by decide, by decide, rfl⟩, HH.out.2⟩
theorem words_2 (w : World) : Calls Tryz.prog 59 #[.string ⟨#[68, 78, 83, 32, 73, 83, 79, 32, 77, 49, 48, 32, 77, 49, 49, 32, 85, 85, 73, 68]⟩] w fun e w' => ∃ b c, e = .returned (.slice (some ⟨b, 0, none⟩) 5 c) ∧ Strs w' b [[68, 78, 83], [73, 83, 79], [77, 49, 48], [77, 49, 49], [85, 85, 73, 68]] ∧ Below w.heap.size w w' := by
  refine (words_any ⟨#[68, 78, 83, 32, 73, 83, 79, 32, 77, 49, 48, 32, 77, 49, 49, 32, 85, 85, 73, 68]⟩ w (by decide)).mono ?_
  rintro _ w' ⟨v, rfl, hr, hb⟩
  rw [show (wst (bl ⟨#[68, 78, 83, 32, 73, 83, 79, 32, 77, 49, 48, 32, 77, 49, 49, 32, 85, 85, 73, 68]⟩) ((⟨#[68, 78, 83, 32, 73, 83, 79, 32, 77, 49, 48, 32, 77, 49, 49, 32, 85, 85, 73, 68]⟩ : ByteArray).size + 1)).2 = [[68, 78, 83], [73, 83, 79], [77, 49, 48], [77, 49, 49], [85, 85, 73, 68]] from by kernel_rfl] at hr
  obtain ⟨b, c, rfl, h⟩ := hr.strs (by decide)
  exact ⟨b, c, rfl, h, hb⟩
set_option maxHeartbeats 1000000 in
theorem table_2 (w : World) : Calls Tryz.prog 38 #[.int .i64 61] w (TbQ 61 w) := by
  go_enter Tryz.func38, Tryz.ntmps38
  go_wp2_with fail
  refine (words_2 _).mono ?_
  rintro _ w1 ⟨b, c, rfl, hs, hb⟩
  have HH : Hid (Strs w1 b [[68, 78, 83], [73, 83, 79], [77, 49, 48], [77, 49, 49], [85, 85, 73, 68]] ∧ Below w.heap.size w w1) := ⟨hs, hb⟩
  clear hs hb
  go_wp2_with fail
  go_ret
  exact ⟨Or.inl ⟨_, b, c, by decide, HH.out.1, by decide, by decide, rfl⟩, HH.out.2⟩
theorem words_3 (w : World) : Calls Tryz.prog 59 #[.string ⟨#[65, 67, 75, 32, 65, 68, 84, 32, 66, 65, 82, 32, 79, 82, 77, 32, 79, 82, 85, 32, 81, 82, 89]⟩] w fun e w' => ∃ b c, e = .returned (.slice (some ⟨b, 0, none⟩) 6 c) ∧ Strs w' b [[65, 67, 75], [65, 68, 84], [66, 65, 82], [79, 82, 77], [79, 82, 85], [81, 82, 89]] ∧ Below w.heap.size w w' := by
  refine (words_any ⟨#[65, 67, 75, 32, 65, 68, 84, 32, 66, 65, 82, 32, 79, 82, 77, 32, 79, 82, 85, 32, 81, 82, 89]⟩ w (by decide)).mono ?_
  rintro _ w' ⟨v, rfl, hr, hb⟩
  rw [show (wst (bl ⟨#[65, 67, 75, 32, 65, 68, 84, 32, 66, 65, 82, 32, 79, 82, 77, 32, 79, 82, 85, 32, 81, 82, 89]⟩) ((⟨#[65, 67, 75, 32, 65, 68, 84, 32, 66, 65, 82, 32, 79, 82, 77, 32, 79, 82, 85, 32, 81, 82, 89]⟩ : ByteArray).size + 1)).2 = [[65, 67, 75], [65, 68, 84], [66, 65, 82], [79, 82, 77], [79, 82, 85], [81, 82, 89]] from by kernel_rfl] at hr
  obtain ⟨b, c, rfl, h⟩ := hr.strs (by decide)
  exact ⟨b, c, rfl, h, hb⟩
set_option maxHeartbeats 1000000 in
theorem table_3 (w : World) : Calls Tryz.prog 38 #[.int .i64 76] w (TbQ 76 w) := by
  go_enter Tryz.func38, Tryz.ntmps38
  go_wp2_with fail
  refine (words_3 _).mono ?_
  rintro _ w1 ⟨b, c, rfl, hs, hb⟩
  have HH : Hid (Strs w1 b [[65, 67, 75], [65, 68, 84], [66, 65, 82], [79, 82, 77], [79, 82, 85], [81, 82, 89]] ∧ Below w.heap.size w w1) := ⟨hs, hb⟩
  clear hs hb
  go_wp2_with fail
  go_ret
  exact ⟨Or.inl ⟨_, b, c, by decide, HH.out.1, by decide, by decide, rfl⟩, HH.out.2⟩
theorem words_4 (w : World) : Calls Tryz.prog 59 #[.string ⟨#[68, 32, 80, 32, 84]⟩] w fun e w' => ∃ b c, e = .returned (.slice (some ⟨b, 0, none⟩) 3 c) ∧ Strs w' b [[68], [80], [84]] ∧ Below w.heap.size w w' := by
  refine (words_any ⟨#[68, 32, 80, 32, 84]⟩ w (by decide)).mono ?_
  rintro _ w' ⟨v, rfl, hr, hb⟩
  rw [show (wst (bl ⟨#[68, 32, 80, 32, 84]⟩) ((⟨#[68, 32, 80, 32, 84]⟩ : ByteArray).size + 1)).2 = [[68], [80], [84]] from by kernel_rfl] at hr
  obtain ⟨b, c, rfl, h⟩ := hr.strs (by decide)
  exact ⟨b, c, rfl, h, hb⟩
set_option maxHeartbeats 1000000 in
theorem table_4 (w : World) : Calls Tryz.prog 38 #[.int .i64 103] w (TbQ 103 w) := by
  go_enter Tryz.func38, Tryz.ntmps38
  go_wp2_with fail
  refine (words_4 _).mono ?_
  rintro _ w1 ⟨b, c, rfl, hs, hb⟩
  have HH : Hid (Strs w1 b [[68], [80], [84]] ∧ Below w.heap.size w w1) := ⟨hs, hb⟩
  clear hs hb
  go_wp2_with fail
  go_ret
  exact ⟨Or.inl ⟨_, b, c, by decide, HH.out.1, by decide, by decide, rfl⟩, HH.out.2⟩
theorem words_5 (w : World) : Calls Tryz.prog 59 #[.string ⟨#[50, 46, 49, 32, 50, 46, 50, 32, 50, 46, 51, 32, 50, 46, 51, 46, 49, 32, 50, 46, 52, 32, 50, 46, 53, 32, 50, 46, 53, 46, 49]⟩] w fun e w' => ∃ b c, e = .returned (.slice (some ⟨b, 0, none⟩) 7 c) ∧ Strs w' b [[50, 46, 49], [50, 46, 50], [50, 46, 51], [50, 46, 51, 46, 49], [50, 46, 52], [50, 46, 53], [50, 46, 53, 46, 49]] ∧ Below w.heap.size w w' := by
  refine (words_any ⟨#[50, 46, 49, 32, 50, 46, 50, 32, 50, 46, 51, 32, 50, 46, 51, 46, 49, 32, 50, 46, 52, 32, 50, 46, 53, 32, 50, 46, 53, 46, 49]⟩ w (by decide)).mono ?_
  rintro _ w' ⟨v, rfl, hr, hb⟩
  rw [show (wst (bl ⟨#[50, 46, 49, 32, 50, 46, 50, 32, 50, 46, 51, 32, 50, 46, 51, 46, 49, 32, 50, 46, 52, 32, 50, 46, 53, 32, 50, 46, 53, 46, 49]⟩) ((⟨#[50, 46, 49, 32, 50, 46, 50, 32, 50, 46, 51, 32, 50, 46, 51, 46, 49, 32, 50, 46, 52, 32, 50, 46, 53, 32, 50, 46, 53, 46, 49]⟩ : ByteArray).size + 1)).2 = [[50, 46, 49], [50, 46, 50], [50, 46, 51], [50, 46, 51, 46, 49], [50, 46, 52], [50, 46, 53], [50, 46, 53, 46, 49]] from by kernel_rfl] at hr
  obtain ⟨b, c, rfl, h⟩ := hr.strs (by decide)
  exact ⟨b, c, rfl, h, hb⟩
set_option maxHeartbeats 1000000 in
theorem table_5 (w : World) : Calls Tryz.prog 38 #[.int .i64 104] w (TbQ 104 w) := by
  go_enter Tryz.func38, Tryz.ntmps38
  go_wp2_with fail
  refine (words_5 _).mono ?_
  rintro _ w1 ⟨b, c, rfl, hs, hb⟩
  have HH : Hid (Strs w1 b [[50, 46, 49], [50, 46, 50], [50, 46, 51], [50, 46, 51, 46, 49], [50, 46, 52], [50, 46, 53], [50, 46, 53, 46, 49]] ∧ Below w.heap.size w w1) := ⟨hs, hb⟩
  clear hs hb
  go_wp2_with fail
  go_ret
  exact ⟨Or.inl ⟨_, b, c, by decide, HH.out.1, by decide, by decide, rfl⟩, HH.out.2⟩
theorem words_6 (w : World) : Calls Tryz.prog 59 #[.string ⟨#[65, 76, 32, 69, 82, 32, 78, 69, 32, 83, 85]⟩] w fun e w' => ∃ b c, e = .returned (.slice (some ⟨b, 0, none⟩) 4 c) ∧ Strs w' b [[65, 76], [69, 82], [78, 69], [83, 85]] ∧ Below w.heap.size w w' := by
  refine (words_any ⟨#[65, 76, 32, 69, 82, 32, 78, 69, 32, 83, 85]⟩ w (by decide)).mono ?_
  rintro _ w' ⟨v, rfl, hr, hb⟩
  rw [show (wst (bl ⟨#[65, 76, 32, 69, 82, 32, 78, 69, 32, 83, 85]⟩) ((⟨#[65, 76, 32, 69, 82, 32, 78, 69, 32, 83, 85]⟩ : ByteArray).size + 1)).2 = [[65, 76], [69, 82], [78, 69], [83, 85]] from by kernel_rfl] at hr
  obtain ⟨b, c, rfl, h⟩ := hr.strs (by decide)
  exact ⟨b, c, rfl, h, hb⟩
set_option maxHeartbeats 1000000 in
theorem table_6 (w : World) : Calls Tryz.prog 38 #[.int .i64 155] w (TbQ 155 w) := by
  go_enter Tryz.func38, Tryz.ntmps38
  go_wp2_with fail
  refine (words_6 _).mono ?_
  rintro _ w1 ⟨b, c, rfl, hs, hb⟩
  have HH : Hid (Strs w1 b [[65, 76], [69, 82], [78, 69], [83, 85]] ∧ Below w.heap.size w w1) := ⟨hs, hb⟩
  clear hs hb
  go_wp2_with fail
  go_ret
  exact ⟨Or.inl ⟨_, b, c, by decide, HH.out.1, by decide, by decide, rfl⟩, HH.out.2⟩
theorem words_7 (w : World) : Calls Tryz.prog 59 #[.string ⟨#[48, 32, 49, 48, 48, 32, 49, 48, 49, 32, 49, 48, 50, 32, 49, 48, 51, 32, 50, 48, 48, 32, 50, 48, 49, 32, 50, 48, 50, 32, 50, 48, 51, 32, 50, 48, 52, 32, 50, 48, 53, 32, 50, 48, 54, 32, 50, 48, 55]⟩] w fun e w' => ∃ b c, e = .returned (.slice (some ⟨b, 0, none⟩) 13 c) ∧ Strs w' b [[48], [49, 48, 48], [49, 48, 49], [49, 48, 50], [49, 48, 51], [50, 48, 48], [50, 48, 49], [50, 48, 50], [50, 48, 51], [50, 48, 52], [50, 48, 53], [50, 48, 54], [50, 48, 55]] ∧ Below w.heap.size w w' := by
  refine (words_any ⟨#[48, 32, 49, 48, 48, 32, 49, 48, 49, 32, 49, 48, 50, 32, 49, 48, 51, 32, 50, 48, 48, 32, 50, 48, 49, 32, 50, 48, 50, 32, 50, 48, 51, 32, 50, 48, 52, 32, 50, 48, 53, 32, 50, 48, 54, 32, 50, 48, 55]⟩ w (by decide)).mono ?_
  rintro _ w' ⟨v, rfl, hr, hb⟩
  rw [show (wst (bl ⟨#[48, 32, 49, 48, 48, 32, 49, 48, 49, 32, 49, 48, 50, 32, 49, 48, 51, 32, 50, 48, 48, 32, 50, 48, 49, 32, 50, 48, 50, 32, 50, 48, 51, 32, 50, 48, 52, 32, 50, 48, 53, 32, 50, 48, 54, 32, 50, 48, 55]⟩) ((⟨#[48, 32, 49, 48, 48, 32, 49, 48, 49, 32, 49, 48, 50, 32, 49, 48, 51, 32, 50, 48, 48, 32, 50, 48, 49, 32, 50, 48, 50, 32, 50, 48, 51, 32, 50, 48, 52, 32, 50, 48, 53, 32, 50, 48, 54, 32, 50, 48, 55]⟩ : ByteArray).size + 1)).2 = [[48], [49, 48, 48], [49, 48, 49], [49, 48, 50], [49, 48, 51], [50, 48, 48], [50, 48, 49], [50, 48, 50], [50, 48, 51], [50, 48, 52], [50, 48, 53], [50, 48, 54], [50, 48, 55]] from by kernel_rfl] at hr
  obtain ⟨b, c, rfl, h⟩ := hr.strs (by decide)
  exact ⟨b, c, rfl, h, hb⟩
set_option maxHeartbeats 1000000 in
theorem table_7 (w : World) : Calls Tryz.prog 38 #[.int .i64 357] w (TbQ 357 w) := by
  go_enter Tryz.func38, Tryz.ntmps38
  go_wp2_with fail
  refine (words_7 _).mono ?_
  rintro _ w1 ⟨b, c, rfl, hs, hb⟩
  have HH : Hid (Strs w1 b [[48], [49, 48, 48], [49, 48, 49], [49, 48, 50], [49, 48, 51], [50, 48, 48], [50, 48, 49], [50, 48, 50], [50, 48, 51], [50, 48, 52], [50, 48, 53], [50, 48, 54], [50, 48, 55]] ∧ Below w.heap.size w w1) := ⟨hs, hb⟩
  clear hs hb
  go_wp2_with fail
  go_ret
  exact ⟨Or.inl ⟨_, b, c, by decide, HH.out.1, by decide, by decide, rfl⟩, HH.out.2⟩
theorem words_8 (w : World) : Calls Tryz.prog 59 #[.string ⟨#[69, 32, 70, 32, 73, 32, 87]⟩] w fun e w' => ∃ b c, e = .returned (.slice (some ⟨b, 0, none⟩) 4 c) ∧ Strs w' b [[69], [70], [73], [87]] ∧ Below w.heap.size w w' := by
  refine (words_any ⟨#[69, 32, 70, 32, 73, 32, 87]⟩ w (by decide)).mono ?_
  rintro _ w' ⟨v, rfl, hr, hb⟩
  rw [show (wst (bl ⟨#[69, 32, 70, 32, 73, 32, 87]⟩) ((⟨#[69, 32, 70, 32, 73, 32, 87]⟩ : ByteArray).size + 1)).2 = [[69], [70], [73], [87]] from by kernel_rfl] at hr
  obtain ⟨b, c, rfl, h⟩ := hr.strs (by decide)
  exact ⟨b, c, rfl, h, hb⟩
set_option maxHeartbeats 1000000 in
theorem table_8 (w : World) : Calls Tryz.prog 38 #[.int .i64 516] w (TbQ 516 w) := by
  go_enter Tryz.func38, Tryz.ntmps38
  go_wp2_with fail
  refine (words_8 _).mono ?_
  rintro _ w1 ⟨b, c, rfl, hs, hb⟩
  have HH : Hid (Strs w1 b [[69], [70], [73], [87]] ∧ Below w.heap.size w w1) := ⟨hs, hb⟩
  clear hs hb
  go_wp2_with fail
  go_ret
  exact ⟨Or.inl ⟨_, b, c, by decide, HH.out.1, by decide, by decide, rfl⟩, HH.out.2⟩
set_option maxHeartbeats 1000000 in
theorem table_none (n : Nat) (w : World) (h0 : n ≠ 3) (h1 : n ≠ 8) (h2 : n ≠ 61) (h3 : n ≠ 76) (h4 : n ≠ 103) (h5 : n ≠ 104) (h6 : n ≠ 155) (h7 : n ≠ 357) (h8 : n ≠ 516) : Calls Tryz.prog 38 #[.int .i64 n] w (TbQ n w) := by
  have HN : Hid (tabN n = none) := by unfold Hid tabN; rw [if_neg h0, if_neg h1, if_neg h2, if_neg h3, if_neg h4, if_neg h5, if_neg h6, if_neg h7, if_neg h8]
  have q0 : ((n : Int) == 3) = false := by simp; omega
  have q1 : ((n : Int) == 8) = false := by simp; omega
  have q2 : ((n : Int) == 61) = false := by simp; omega
  have q3 : ((n : Int) == 76) = false := by simp; omega
  have q4 : ((n : Int) == 103) = false := by simp; omega
  have q5 : ((n : Int) == 104) = false := by simp; omega
  have q6 : ((n : Int) == 155) = false := by simp; omega
  have q7 : ((n : Int) == 357) = false := by simp; omega
  have q8 : ((n : Int) == 516) = false := by simp; omega
  clear h0 h1 h2 h3 h4 h5 h6 h7 h8
  go_enter Tryz.func38, Tryz.ntmps38
  go_wp2_with fail
  go_ret
  exact ⟨Or.inr ⟨HN.out, rfl⟩, Below.refl _ _⟩
theorem table_any (n : Nat) (w : World) : Calls Tryz.prog 38 #[.int .i64 n] w (TbQ n w) := by
  by_cases h0 : n = 3
  · subst h0; exact table_0 w
  by_cases h1 : n = 8
  · subst h1; exact table_1 w
  by_cases h2 : n = 61
  · subst h2; exact table_2 w
  by_cases h3 : n = 76
  · subst h3; exact table_3 w
  by_cases h4 : n = 103
  · subst h4; exact table_4 w
  by_cases h5 : n = 104
  · subst h5; exact table_5 w
  by_cases h6 : n = 155
  · subst h6; exact table_6 w
  by_cases h7 : n = 357
  · subst h7; exact table_7 w
  by_cases h8 : n = 516
  · subst h8; exact table_8 w
  exact table_none n w h0 h1 h2 h3 h4 h5 h6 h7 h8
theorem mem_of {l : List (List UInt8)} {i : Nat} {x : List UInt8} (h : i < l.length) (he : l.getD i [] = x) : x ∈ l := by
  rw [← he]; simp [List.getD, h]
theorem not_mem_of {l : List (List UInt8)} {x : List UInt8} (h : ∀ j, j < l.length → l.getD j [] ≠ x) : x ∉ l := fun hm => by
  obtain ⟨j, hj, e⟩ := List.mem_iff_getElem.1 hm
  exact h j hj (by simp [List.getD, hj, e])
set_option maxHeartbeats 1000000 in
theorem in_any (b c : Nat) (l : List (List UInt8)) (s : ByteArray) (w : World) (h : Strs w b l) (h9 : l.length ≤ 100) : Calls Tryz.prog 37 #[.slice (some ⟨b, 0, none⟩) l.length c, .string s] w fun e w' => e = .returned (.bool (decide (bl s ∈ l))) ∧ Below w.heap.size w w' := by
  have HS : Hid (Strs w b l) := h
  clear h
  go_enter Tryz.func37, Tryz.ntmps37
  go_wp2_with fail
  go_loopw [5] (fun t5 wx => ∃ i : Nat, i ≤ l.length ∧ t5 = .int .i64 i ∧ Hid (∀ j, j < i → l.getD j [] ≠ bl s) ∧ Hid (Below w.heap.size w wx)) (fun t5 _ => l.length - (intOf t5).toNat)
  case atStart => exact ⟨0, Nat.zero_le _, rfl, fun j h => absurd h (by omega), Below.refl _ _⟩
  case round =>
    obtain ⟨i, hi, rfl, HN, HB⟩ := hrel
    by_cases hlt : i < l.length
    · have hlti : (i : Int) < l.length := by omega
      have hc := (HS.out.below HB.out) i hlt
      obtain ⟨X, hX⟩ : ∃ X : ByteArray, (⟨(l.getD i []).toArray⟩ : ByteArray) = X := ⟨_, rfl⟩
      have HX : Hid (bl X = l.getD i []) := by unfold Hid; rw [← hX]
      rw [hX] at hc
      clear hX
      cases q : (X.toList == s.toList) with
      | true =>
        have HE : Hid (bl s ∈ l) := mem_of hlt (by rw [← HX.out]; have := eq_of_beq q; rw [Lib.toList_data, Lib.toList_data] at this; exact this)
        go_wp2_with fail
        go_ret
        exact ⟨ret_bool (by simp [HE.out]), HB.out⟩
      | false =>
        have HN2 : Hid (∀ j, j < i + 1 → l.getD j [] ≠ bl s) := fun j hj => by
          rcases (by omega : j < i ∨ j = i) with g | rfl
          · exact HN.out j g
          · rw [← HX.out]; intro e; rw [Lib.toList_data, Lib.toList_data, show X.data.toList = s.data.toList from e] at q; simp at q
        go_wp2_with fail
        go_roundw
        case rel => exact ⟨i + 1, hlt, by go_num, HN2, HB⟩
        case measure => simp [intOf]; omega
    · have hlti : ¬ (i : Int) < l.length := by omega
      obtain rfl : i = l.length := by omega
      have HE : Hid (bl s ∉ l) := not_mem_of HN.out
      go_wp2_with fail
      go_ret
      exact ⟨ret_bool (by simp [HE.out]), HB.out⟩
end Go.Proofs.YtphobcobpclioaaGreatDoor.Td

/-
  The document's TableOf: the table's number out of a kind's name.
-/
namespace Go.Proofs.YtphobcobpclioaaGreatDoor.Td
open Go.RowKit

/-- The number read so far, behind i bytes. -/
def nvS (l : List UInt8) : Nat → Nat
  | 0 => 0
  | i + 1 => if i < 2 then 0 else 10 * nvS l i + ((l.getD i 0).toNat - 48)
def dgF (l : List UInt8) (i : Nat) : Prop := ∀ j, 2 ≤ j → j < i → dg (l.getD j 0) = true
def tno (l : List UInt8) : Nat := if l.length = 6 ∧ l.take 2 = [73, 68] ∧ dg (l.getD 2 0) = true ∧ dg (l.getD 3 0) = true ∧ dg (l.getD 4 0) = true ∧ dg (l.getD 5 0) = true then (if tabN (nvS l 6) = none then 0 else nvS l 6) else 0
theorem tno_len {l : List UInt8} (h : l.length ≠ 6) : tno l = 0 := if_neg (fun g => h g.1)
theorem tno_head {l : List UInt8} (h : l.take 2 ≠ [73, 68]) : tno l = 0 := if_neg (fun g => h g.2.1)
theorem tno_dg {l : List UInt8} {i : Nat} (h2 : 2 ≤ i) (h6 : i < 6) (h : dg (l.getD i 0) = false) : tno l = 0 := by
  refine if_neg (fun g => ?_)
  rcases (by omega : i = 2 ∨ i = 3 ∨ i = 4 ∨ i = 5) with rfl | rfl | rfl | rfl
  · rw [g.2.2.1] at h; cases h
  · rw [g.2.2.2.1] at h; cases h
  · rw [g.2.2.2.2.1] at h; cases h
  · rw [g.2.2.2.2.2] at h; cases h
theorem tno_of {l : List UInt8} (h6 : l.length = 6) (h2 : l.take 2 = [73, 68]) (hd : dgF l 6) : tno l = if tabN (nvS l 6) = none then 0 else nvS l 6 :=
  if_pos ⟨h6, h2, hd 2 (by omega) (by omega), hd 3 (by omega) (by omega), hd 4 (by omega) (by omega), hd 5 (by omega) (by omega)⟩
theorem nv_on {l : List UInt8} {i : Nat} (h : 2 ≤ i) : nvS l (i + 1) = 10 * nvS l i + ((l.getD i 0).toNat - 48) := if_neg (by omega)
theorem str_nil (w : World) (a : Option Addr) (l c : Nat) : (binOp .eql 36 (.slice a l c) (.slice none 0 0)).run Tryz.prog w = .ok (.bool a.isNone) w := Lib.run_eql_slice_nil w _ _ a l c 0 0 Tryz.underlying36
theorem getD_at {s : ByteArray} {i : Nat} (h : i < s.size) : (bl s).getD i 0 = s[i] := by
  rw [List.getD, bl_at h]; rfl
set_option maxRecDepth 100000 in
set_option maxHeartbeats 4000000 in
theorem tableOf_any (k : ByteArray) (w : World) : Calls Tryz.prog 30 #[.string k] w fun e w' => e = .returned (.int .i64 (tno (bl k))) ∧ Below w.heap.size w w' := by
  have hnil := str_nil
  by_cases h6 : k.size = 6
  · have q6 : ((k.size : Int) == 6) = true := by simp [h6]
    have q6' : ((k.size : Int) != 6) = false := by simp [h6]
    have hz2 : (2 : Int) ≤ k.size := by omega
    cases q : ((k.extract 0 2).toList == [73, 68]) with
    | false =>
      have q' : ((k.extract 0 2).toList != [73, 68]) = true := by simp only [bne, q]; rfl
      have HE : Hid (tno (bl k) = 0) := tno_head (fun e => by rw [Lib.toList_data, show (k.extract 0 2).data.toList = [73, 68] from (bl_to k 2).trans e] at q; simp at q)
      rw [HE.out]
      clear h6
      go_enter Tryz.func30, Tryz.ntmps30
      go_wp2_with fail
      go_ret
      exact ⟨rfl, by first | exact Below.refl _ _ | exact Below.drew (Below.refl _ _)⟩
    | true =>
      have q' : ((k.extract 0 2).toList != [73, 68]) = false := by simp only [bne, q]; rfl
      have H2 : Hid ((bl k).take 2 = [73, 68] ∧ k.size = 6) := ⟨by have := eq_of_beq q; rw [Lib.toList_data] at this; exact (bl_to k 2).symm.trans this, h6⟩
      go_enter Tryz.func30, Tryz.ntmps30
      go_wp2_with fail
      go_loopw [3, 4] (fun t3 t4 wx => ∃ i n : Nat, 2 ≤ i ∧ i ≤ 6 ∧ n ≤ 9999 ∧ t3 = .int .i64 n ∧ t4 = .int .i64 i ∧ Hid (n = nvS (bl k) i ∧ dgF (bl k) i ∧ n < 10 ^ (i - 2)) ∧ Hid (Below w.heap.size w wx)) (fun _ t4 _ => 6 - (intOf t4).toNat)
      case atStart => exact ⟨2, 0, by omega, by omega, by omega, rfl, rfl, ⟨rfl, fun j a b => by omega, by decide⟩, by first | exact Below.refl _ _ | exact Below.drew (Below.refl _ _)⟩
      case round =>
        obtain ⟨i, n, hi2, hi6, hn, rfl, rfl, HN, HB⟩ := hrel
        by_cases hlt : i < 6
        · have hlti : (i : Int) < 6 := by omega
          have hik : i < k.size := by omega
          have hiki : (i : Int) < k.size := by omega
          have HD : Hid ((bl k).getD i 0 = k[i]) := getD_at hik
          by_cases h1 : k[i].toNat < 48
          · have h1i : (k[i].toNat : Int) < 48 := by omega
            have HE : Hid (tno (bl k) = 0) := tno_dg hi2 hlt (by rw [HD.out]; exact dg_no (Or.inl h1))
            go_wp2_with fail
            go_ret
            exact ⟨ret_int (by rw [HE.out]; rfl), by first | exact HB.out | exact Below.drew HB.out⟩
          · have h1i : ¬ (k[i].toNat : Int) < 48 := by omega
            by_cases h2 : 57 < k[i].toNat
            · have h2i : (57 : Int) < k[i].toNat := by omega
              have HE : Hid (tno (bl k) = 0) := tno_dg hi2 hlt (by rw [HD.out]; exact dg_no (Or.inr h2))
              go_wp2_with fail
              go_ret
              exact ⟨ret_int (by rw [HE.out]; rfl), by first | exact HB.out | exact Below.drew HB.out⟩
            · have h2i : ¬ (57 : Int) < k[i].toNat := by omega
              have hn3 : n ≤ 999 := by
                have h3 := HN.out.2.2
                rcases (by omega : i = 2 ∨ i = 3 ∨ i = 4 ∨ i = 5) with rfl | rfl | rfl | rfl <;> simp at h3 <;> omega
              have HN2 : Hid (10 * n + (k[i].toNat - 48) = nvS (bl k) (i + 1) ∧ dgF (bl k) (i + 1) ∧ 10 * n + (k[i].toNat - 48) < 10 ^ (i + 1 - 2)) := by
                refine ⟨by rw [nv_on hi2, HD.out, ← HN.out.1], fun j a b => ?_, ?_⟩
                · rcases (by omega : j < i ∨ j = i) with g | rfl
                  · exact HN.out.2.1 j a g
                  · rw [HD.out]; unfold dg; simp; omega
                · have h3 := HN.out.2.2
                  rw [show i + 1 - 2 = (i - 2) + 1 by omega, Nat.pow_succ]
                  omega
              go_wp2_with fail
              go_roundw
              case rel => exact ⟨i + 1, 10 * n + (k[i].toNat - 48), by omega, by omega, by omega, by go_num, by go_num, HN2, by first | exact HB.out | exact Below.drew HB.out⟩
              case measure => simp [intOf]; omega
        · obtain rfl : i = 6 := by omega
          have HF : Hid (tno (bl k) = if tabN n = none then 0 else n) := by unfold Hid; rw [tno_of (by rw [bl_len]; exact H2.out.2) H2.out.1 HN.out.2.1, ← HN.out.1]
          go_wp2_with fail
          refine (table_any n _).mono ?_
          rintro _ w1 ⟨⟨l, b, c, ht, _, _, _, rfl⟩ | ⟨ht, rfl⟩, hb⟩
          · have HE : Hid (tno (bl k) = n) := by unfold Hid; rw [HF.out, ht]; simp
            have HB1 : Hid (Below w.heap.size w w1) := below_then HB.out hb
            clear hb ht
            go_wp2_with fail
            go_ret
            exact ⟨ret_int (by rw [HE.out]), HB1.out⟩
          · have HE : Hid (tno (bl k) = 0) := by unfold Hid; rw [HF.out, ht]; simp
            have HB1 : Hid (Below w.heap.size w w1) := below_then HB.out hb
            clear hb ht
            go_wp2_with fail
            go_ret
            exact ⟨ret_int (by rw [HE.out]; rfl), HB1.out⟩
  · have q6 : ((k.size : Int) == 6) = false := by simp; omega
    have q6' : ((k.size : Int) != 6) = true := by simp; omega
    have HE : Hid (tno (bl k) = 0) := tno_len (by rw [bl_len]; exact h6)
    rw [HE.out]
    clear h6
    go_enter Tryz.func30, Tryz.ntmps30
    go_wp2_with fail
    go_ret
    exact ⟨rfl, by first | exact Below.refl _ _ | exact Below.drew (Below.refl _ _)⟩
end Go.Proofs.YtphobcobpclioaaGreatDoor.Td
