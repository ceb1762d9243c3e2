/-
  The document's escaped.
-/
import Derived.Test.YtkpebmhokdckfaaDoorEsRef
import Derived.Test.YtkpebmhokdckfaaDoorEsRow
import Derived.Deep.RegionHeld3
import Derived.Deep.RegionLaw
namespace Go.Proofs.YtkpebmhokdckfaaDoor
open Go.RowKit

/-- Worlds that keep what lies in V. -/
def Sub (V : World) : Type := { x : World // Below V.heap.size V x }
theorem wp_region_class {P : Program} {V : World} {id : Nat} {Q : Exit → Act → World → Prop} {a : Act} {w : World} {l : List Oper} (hw : Below V.heap.size V w) (hm : P.follows .mixedOrders = true) (hB : Region.lexB .any l.toArray = true)
    (h : wpQuiet P l.toArray (fun w' => ∃ x : Sub V, w' = x.1) (fun a' => ∀ w', (∃ x : Sub V, w' = x.1) → Q .normal a' w') l a) : (Code.region id l.toArray true).wp P Q a w :=
  wp_region_quiet (C := fun w' => ∃ x : Sub V, w' = x.1) hm hB ⟨⟨_, Below.drew hw⟩, rfl⟩ (by simpa using h)
/-- A slice of bytes of the call's own. -/
def BRow (w : World) (B : Nat) (v : Value) (l : List UInt8) : Prop := w.ownsRow B 5 1 v l.length (Lib.byteCells l)
theorem BRow.nil (w : World) (B : Nat) : BRow w B (.slice none 0 0) [] := World.ownsRow_nil w B _ 1
theorem BRow.below {w w' : World} {B : Nat} {v : Value} {l : List UInt8} (h : BRow w B v l) (hb : Below w.heap.size w w') : BRow w' B v l := by
  refine ⟨h.1, ?_⟩
  rcases h.2 with ⟨rfl, h0⟩ | ⟨g, cap, cur, rfl, hbg, hg, r⟩
  · exact .inl ⟨rfl, h0⟩
  · exact .inr ⟨g, cap, cur, rfl, hbg, by rw [hb.block g (by rcases Nat.lt_or_ge g w.heap.size with q | q; exact q; rw [Array.getElem?_eq_none q] at hg; cases hg)]; exact hg, r⟩
theorem BRow.isSlice {w : World} {B : Nat} {v : Value} {l : List UInt8} (h : BRow w B v l) : ∃ a c, v = .slice a l.length c := by
  rcases h.2 with ⟨rfl, h0⟩ | ⟨g, cap, cur, rfl, _⟩
  · exact ⟨none, 0, by rw [h0]⟩
  · exact ⟨_, _, rfl⟩
theorem bu8info : ∃ i, Tryd.prog.info? 5 = some i ∧ i.zero = some (.int .u8 0) ∧ i.size = 1 ∧ i.bytes = 1 := by
  have h : (Tryd.prog.info? 5).map (fun i => (i.zero, i.size, i.bytes)) = some (some (.int .u8 0), 1, 1) := by kernel_rfl
  obtain ⟨i, hi, e⟩ := Option.map_eq_some_iff.1 h
  simp only [Prod.mk.injEq] at e
  exact ⟨i, hi, e.1, e.2.1, e.2.2⟩
/-- append: bytes that lie in a block of their own. -/
theorem run_bapp {w : World} {B g n : Nat} {v : Value} {l bs : List UInt8} (h : BRow w B v l) (hB : B ≤ w.heap.size) (hb : ∀ j u, (Lib.byteCells bs)[j]? = some u → w.cell? ⟨g, j, none⟩ = some u) (hn : bs.length = n) (hl : l.length + n ≤ 140737488355328) (ty : TypeId) :
    ∃ a c w', (Builtin.append_ #[42, 42] ty #[v, .slice (some ⟨g, 0, none⟩) n n]).run Tryd.prog w = .ok (.slice a (l.length + n) c) w' ∧ BRow w' B (.slice a (l.length + n) c) (l ++ bs) ∧ Below B w w' := by
  obtain ⟨i, hi, hz, hs, hby⟩ := bu8info
  obtain ⟨v', w', hr, r, hg, _⟩ := run_append_own (P := Tryd.prog) w B 42 ty 5 i _ 1 1 Tryd.underlying42 hi hz hs hby rfl (by decide) v l.length (Lib.byteCells l) h ⟨g, 0, none⟩ n n (Lib.byteCells bs) (by rw [Lib.byteCells_length, hn]; omega) (fun j u hu => by
      rw [show (⟨g, 0, none⟩ : Addr).add j = ⟨g, j, none⟩ by rw [Addr.add_lit, Nat.zero_add]]; exact hb j u hu) (fun u hu => by
      simp only [Lib.byteCells, List.mem_map] at hu; obtain ⟨z, _, rfl⟩ := hu; rfl) (by unfold maxLen; omega) (by omega) hB
  have hR : BRow w' B v' (l ++ bs) := by
    unfold BRow
    rw [Lib.byteCells_append, List.length_append, hn]
    exact r
  obtain ⟨a, c, rfl⟩ := hR.isSlice
  have hln : (l ++ bs).length = l.length + n := by rw [List.length_append, hn]
  rw [hln] at hr hR
  refine ⟨a, c, w', hr, hR, ⟨hg.os, hg.tape, hg.output, hg.size, fun k hk => hg.block k (by omega) (fun e => ?_)⟩⟩
  rcases h.2 with ⟨rfl, h0⟩ | ⟨g', cap, cur, rfl, hbg, _⟩
  · simp [Value.ownBlock] at e
  · simp [Value.ownBlock] at e; omega
theorem step_bapp {w : World} {B g n : Nat} {ops : Array Oper} {o : Oper} {a : Act} {K : Act → World → Prop} {Q : Exit → Act → World → Prop} {E : Prop} {v : Value} {l bs : List UInt8} (hgd : o.guard = none) (s y : Operand)
    (ho : o.op = .call { callee := .builtin .append, args := #[s, y], argTypes := #[42, 42] }) (hs : a.eval s = v) (hx : a.eval y = .slice (some ⟨g, 0, none⟩) n n)
    (hr : BRow w B v l) (hB : B ≤ w.heap.size) (hb : ∀ j u, (Lib.byteCells bs)[j]? = some u → w.cell? ⟨g, j, none⟩ = some u) (hn : bs.length = n) (hl : l.length + n ≤ 140737488355328)
    (h : ∀ a' c' w', BRow w' B (.slice a' (l.length + n) c') (l ++ bs) → Below B w w' → K (a.put o.dst (.slice a' (l.length + n) c')) w') :
    if Region.wanted o (yielded ops a.tmps) = true then Oper.wp Tryd.prog o a w K Q else E := by
  have hw : Region.wanted o (yielded ops a.tmps) = true := by simp [Region.wanted, hgd]
  obtain ⟨a', c', w', hrn, r1, b1⟩ := run_bapp hr hB hb hn hl o.type
  rw [if_pos hw]
  unfold Oper.wp execOp
  simp only [ho, resolve, invoke, builtin, Sem.run_bind, Sem.run_pure, Result.andThen_ok, List.map_toArray, List.map_cons, List.map_nil, hs, hx, hrn]
  exact h _ _ _ r1 b1
theorem cells_new {V : World} {bs : List UInt8} {t : TypeId} {cs : Array Value} (h : cs.toList = Lib.byteCells bs) : ∀ j u, (Lib.byteCells bs)[j]? = some u → (V.alloc (.cells cs t)).cell? ⟨V.heap.size, j, none⟩ = some u := fun j u hu => by
  rw [cell_new, ← Array.getElem?_toList, h]; exact hu
/-- What a round of escaped stands on. -/
structure EsI (w W0 : World) (m : Mk) (s : ByteArray) (v : Value) (i : Nat) (acc : List UInt8) (wx : World) : Prop where
  row : BRow wx (w.heap.size + 1) v acc
  bel : Below (w.heap.size + 1) W0 wx
  wr : acc ++ esB m (s.data.toList.drop i) = esB m s.data.toList
theorem EsI.len {w W0 : World} {m : Mk} {s : ByteArray} {v : Value} {i : Nat} {acc : List UInt8} {wx : World} (h : EsI w W0 m s v i acc wx) (hs : s.size ≤ 8192) : acc.length ≤ 40960 := by
  have h1 := congrArg List.length h.wr
  have h2 := esB_len m s.data.toList
  have h3 : s.data.toList.length = s.size := by rw [Array.length_toList]; rfl
  rw [List.length_append] at h1
  omega
theorem sub_cells {N : Nat} {W0 V : World} {m : Mk} (h0 : Arr W0 N m.l) (hV : Below (N + 1) W0 V) (hz : N + 1 ≤ V.heap.size) (x : Sub V) (j : Nat) (hj : j < 5) : x.1.cell? ⟨N, j, none⟩ = some (.int .u8 ((m.l.getD j 0).toNat : Int)) := by
  rw [x.2.cell (p := ⟨N, j, none⟩) (by simp; omega), World.cell?_of_block (a := ⟨N, j, none⟩) (hV.block N (by omega))]; exact h0 j hj
theorem arr_at {N : Nat} {W0 V : World} {m : Mk} (h0 : Arr W0 N m.l) (hV : Below (N + 1) W0 V) : V.cell? ⟨N, 0, none⟩ = some (.int .u8 (m.f.toNat : Int)) ∧ V.cell? ⟨N, 1, none⟩ = some (.int .u8 (m.c.toNat : Int)) ∧ V.cell? ⟨N, 2, none⟩ = some (.int .u8 (m.r.toNat : Int)) ∧ V.cell? ⟨N, 3, none⟩ = some (.int .u8 (m.x.toNat : Int)) ∧ V.cell? ⟨N, 4, none⟩ = some (.int .u8 (m.s.toNat : Int)) := by
  have h : ∀ j, j < 5 → V.cell? ⟨N, j, none⟩ = some (.int .u8 ((m.l.getD j 0).toNat : Int)) := fun j hj => by
    rw [World.cell?_of_block (a := ⟨N, j, none⟩) (hV.block N (by omega))]; exact h0 j hj
  exact ⟨h 0 (by omega), h 1 (by omega), h 2 (by omega), h 3 (by omega), h 4 (by omega)⟩
theorem brow_alloc {w0 x : World} {B : Nat} {v : Value} {l : List UInt8} {o : Obj} (h : BRow w0 B v l) (hx : Below w0.heap.size w0 x) : BRow (x.alloc o) B v l := (h.below hx).below ((Below.refl _ _).alloc (Nat.le_refl _) _)
theorem le_alloc {N : Nat} {w0 x : World} {o : Obj} (hz : N + 1 ≤ w0.heap.size) (hx : Below w0.heap.size w0 x) : N + 1 ≤ (x.alloc o).heap.size := by have := hx.size; simp; omega
theorem below_app {N : Nat} {W0 wr x w3 : World} {o : Obj} (hV : Below (N + 1) W0 wr) (hz : N + 1 ≤ wr.heap.size) (hx : Below wr.heap.size wr x) (hb : Below (N + 1) (x.alloc o) w3) : Below (N + 1) W0 w3 :=
  (hV.trans (hx.mono hz)).trans (((Below.refl (N + 1) x).alloc (by have := hx.size; omega) o).trans hb)
def dgZ (z : Int) : Int := ((dgB z.toNat).toNat : Int)
theorem cells_two (b : UInt8) : (#[.int .u8 (dgZ ((b.toNat : Int) / 16)), .int .u8 (dgZ ((b.toNat : Int) % 16))] : Array Value).toList = Lib.byteCells [dgB (b.toNat / 16), dgB (b.toNat % 16)] := rfl
theorem wrapA (b : UInt8) : IntKind.u8.wrap ((b.toNat : Int) / 16) = (b.toNat : Int) / 16 := by
  have := b.toNat_lt; unfold IntKind.wrap; simp [IntKind.bits, IntKind.signed]; omega
theorem wrapB (b : UInt8) : IntKind.u8.wrap ((b.toNat : Int) % 16) = (b.toNat : Int) % 16 := by
  have := b.toNat_lt; unfold IntKind.wrap; simp [IntKind.bits, IntKind.signed]; omega
def isNib (b : UInt8) (z : Int) : Prop := z = (b.toNat : Int) / 16 ∨ z = (b.toNat : Int) % 16
theorem nib1 (b : UInt8) : isNib b (IntKind.u8.wrap ((b.toNat : Int) / 16)) := Or.inl (wrapA b)
theorem nib2 (b : UInt8) : isNib b (IntKind.u8.wrap ((b.toNat : Int) % 16)) := Or.inr (wrapB b)
theorem nib3 (b : UInt8) : isNib b ((b.toNat : Int) / 16) := Or.inl rfl
theorem nib4 (b : UInt8) : isNib b ((b.toNat : Int) % 16) := Or.inr rfl
theorem run_cut {m : Mk} {T : List UInt8} {i n : Nat} (hT : i + n ≤ T.length) (h0 : 1 ≤ n) (h64 : n ≤ 64) (hk : ∀ j, i ≤ j → j < i + n → kdB m (T.getD j 0) = 3) (hb : n = 64 ∨ i + n = T.length ∨ kdB m (T.getD (i + n) 0) ≠ 3) :
    esB m (T.drop i) = m.x :: 88 :: (prB ((T.take (i + n)).drop i) ++ m.x :: esB m (T.drop (i + n))) := by
  rw [drop_mid T (show i ≤ i + n by omega)]
  have hl := mid_len T (a := i) hT
  refine esB_run m _ _ (fun g => by rw [g] at hl; simp at hl; omega) (by omega) (fun b hb => ?_) ?_
  · obtain ⟨j, h1, h2, _, rfl⟩ := mid_mem hb; exact hk j h1 h2
  · rcases hb with g | g | g
    · exact Or.inl (by omega)
    · exact Or.inr (Or.inl (by rw [g, List.drop_length]))
    · rcases Nat.lt_or_ge (i + n) T.length with q | q
      · exact Or.inr (Or.inr ⟨_, _, drop_cons T q, g⟩)
      · exact Or.inr (Or.inl (List.drop_eq_nil_of_le q))
/-- What a round of the inner loop stands on. -/
structure EsJ (w W0 : World) (m : Mk) (s : ByteArray) (acc : List UInt8) (i n j : Nat) (L : List UInt8) (v : Value) (wx : World) : Prop where
  jn : j = i + n
  is : L = acc ++ [m.x, 88] ++ prB ((s.data.toList.take j).drop i)
  row : BRow wx (w.heap.size + 1) v L
  bel : Below (w.heap.size + 1) W0 wx
  kd : ∀ q, i ≤ q → q < j → kdB m (s.data.toList.getD q 0) = 3
theorem plain_sub (m : Mk) (b : UInt8) (q : Bool) (V : World) (hq : isK m b 1 = q) (x : Sub V) : Calls Tryd.prog 23 #[.agg #[.int .u8 (m.f.toNat : Int), .int .u8 (m.c.toNat : Int), .int .u8 (m.r.toNat : Int), .int .u8 (m.x.toNat : Int), .int .u8 (m.s.toNat : Int)], .int .u8 (b.toNat : Int)] x.1 fun e x' => e = .returned (.bool q) ∧ ∃ y : Sub V, x' = y.1 :=
  (Plain_any m b x.1).mono fun e x' ⟨he, hb⟩ => ⟨by rw [he]; exact ret_bool hq, ⟨⟨x', below_then x.2 hb⟩, rfl⟩⟩
theorem among_sub (m : Mk) (b : UInt8) (q : Bool) (V : World) (hq : m.l.contains b = q) (x : Sub V) : Calls Tryd.prog 24 #[.agg #[.int .u8 (m.f.toNat : Int), .int .u8 (m.c.toNat : Int), .int .u8 (m.r.toNat : Int), .int .u8 (m.x.toNat : Int), .int .u8 (m.s.toNat : Int)], .int .u8 (b.toNat : Int)] x.1 fun e x' => e = .returned (.bool q) ∧ ∃ y : Sub V, x' = y.1 :=
  (among_any m b x.1).mono fun e x' ⟨he, hb⟩ => ⟨by rw [he]; exact ret_bool hq, ⟨⟨x', below_then x.2 hb⟩, rfl⟩⟩
theorem kd2_in {m : Mk} {b : UInt8} (h : kdB m b = 2) : m.l.contains b = true := by
  unfold kdB at h; split at h
  · assumption
  · split at h <;> omega
theorem kd3_out {m : Mk} {b : UInt8} (h : kdB m b ≠ 2) : m.l.contains b = false := by
  rw [Bool.eq_false_iff]; intro g; apply h; unfold kdB; rw [if_pos g]
theorem index_run {s : ByteArray} {i : Nat} {b : UInt8} (hlt : i < s.size) (hb : s.data.toList.getD i 0 = b) (w : World) : (Instr.index 9 (.string s) (.int .i64 (i : Int))).run Tryd.prog w = .ok (.int .u8 (b.toNat : Int)) w := by
  have h0 : s[i]? = some b := by rw [getElem?_pos s i hlt, ← hb, get_bt hlt]
  simp [Instr.index, run_underlying Tryd.underlying9, go_sem, h0, asIntOf]
theorem below_sub {N : Nat} {W0 V x : World} (hV : Below (N + 1) W0 V) (hz : N + 1 ≤ V.heap.size) (h : Below V.heap.size V x) : Below (N + 1) W0 x := hV.trans (h.mono hz)
set_option maxRecDepth 100000 in
set_option maxHeartbeats 4000000 in
theorem escaped_any (m : Mk) (s : ByteArray) (w : World) (hm : Wrong m.l 5 5) (hs : s.size ≤ 8192) : Calls Tryd.prog 13 #[.agg #[.int .u8 (m.f.toNat : Int), .int .u8 (m.c.toNat : Int), .int .u8 (m.r.toNat : Int), .int .u8 (m.x.toNat : Int), .int .u8 (m.s.toNat : Int)], .string s] w fun e w' => (∃ a n c, e = .returned (.slice a n c) ∧ Hid (BRow w' (w.heap.size + 1) (.slice a n c) (esB m s.data.toList))) ∧ Below w.heap.size w w' := by
  have HM : Hid (Wrong m.l 5 5) := hm
  have HT : Hid (s.data.toList.length = s.size) := by unfold Hid; rw [Array.length_toList]; rfl
  clear hm
  have HZ : Hid (Arr (w.alloc (.cells #[.int .u8 (m.f.toNat : Int), .int .u8 (m.c.toNat : Int), .int .u8 (m.r.toNat : Int), .int .u8 (m.x.toNat : Int), .int .u8 (m.s.toNat : Int)] 23)) w.heap.size m.l ∧ (w.alloc (.cells #[.int .u8 (m.f.toNat : Int), .int .u8 (m.c.toNat : Int), .int .u8 (m.r.toNat : Int), .int .u8 (m.x.toNat : Int), .int .u8 (m.s.toNat : Int)] 23)).heap.size = w.heap.size + 1 ∧ Below w.heap.size w (w.alloc (.cells #[.int .u8 (m.f.toNat : Int), .int .u8 (m.c.toNat : Int), .int .u8 (m.r.toNat : Int), .int .u8 (m.x.toNat : Int), .int .u8 (m.s.toNat : Int)] 23))) := ⟨arr_new w m _, by simp, (Below.refl _ _).alloc (Nat.le_refl _) _⟩
  obtain ⟨W0, hW0⟩ : ∃ W, w.alloc (.cells #[.int .u8 (m.f.toNat : Int), .int .u8 (m.c.toNat : Int), .int .u8 (m.r.toNat : Int), .int .u8 (m.x.toNat : Int), .int .u8 (m.s.toNat : Int)] 23) = W := ⟨_, rfl⟩
  rw [hW0] at HZ
  go_enter Tryd.func13, Tryd.ntmps13
  go_wp2_with fail
  go_loopw [5, 6] (fun t5 t6 wx => ∃ (i : Nat) (acc : List UInt8) (a : Option Addr) (c : Nat), i ≤ s.size ∧ t6 = .int .i64 (i : Int) ∧ t5 = .slice a acc.length c ∧ Hid (EsI w W0 m s (.slice a acc.length c) i acc wx)) (fun _ t6 _ => s.size - (intOf t6).toNat)
  case atStart => exact ⟨0, [], none, 0, Nat.zero_le _, rfl, rfl, BRow.nil _ _, Below.refl _ _, rfl⟩
  case round =>
    obtain ⟨i, acc, av, cv, hi, rfl, rfl, HI⟩ := hrel
    have hsz : w.heap.size + 1 ≤ wr.heap.size := by have := HI.out.bel.size; have := HZ.out.2.1; omega
    have hla := HI.out.len hs
    by_cases hlt : i < s.size
    · have hlti : (i : Int) < s.size := by omega
      obtain ⟨b, hb⟩ : ∃ b, s.data.toList.getD i 0 = b := ⟨_, rfl⟩
      have hix := fun w => index_run hlt hb w
      have HDr : Hid (s.data.toList.drop i = b :: s.data.toList.drop (i + 1)) := by unfold Hid; rw [drop_cons _ (by have := HT.out; omega), hb]
      have HBb : Hid (s.data.toList.getD i 0 = b) := hb
      clear hb
      have l0 : ∀ x : Sub wr, x.1.cell? ⟨w.heap.size, 0, none⟩ = some (.int .u8 (m.f.toNat : Int)) := fun x => sub_cells HZ.out.1 HI.out.bel hsz x 0 (by omega)
      have l1 : ∀ x : Sub wr, x.1.cell? ⟨w.heap.size, 1, none⟩ = some (.int .u8 (m.c.toNat : Int)) := fun x => sub_cells HZ.out.1 HI.out.bel hsz x 1 (by omega)
      have l2 : ∀ x : Sub wr, x.1.cell? ⟨w.heap.size, 2, none⟩ = some (.int .u8 (m.r.toNat : Int)) := fun x => sub_cells HZ.out.1 HI.out.bel hsz x 2 (by omega)
      have l3 : ∀ x : Sub wr, x.1.cell? ⟨w.heap.size, 3, none⟩ = some (.int .u8 (m.x.toNat : Int)) := fun x => sub_cells HZ.out.1 HI.out.bel hsz x 3 (by omega)
      have l4 : ∀ x : Sub wr, x.1.cell? ⟨w.heap.size, 4, none⟩ = some (.int .u8 (m.s.toNat : Int)) := fun x => sub_cells HZ.out.1 HI.out.bel hsz x 4 (by omega)
      haveI hne : Nonempty (Sub wr) := ⟨⟨wr, Below.refl _ _⟩⟩
      by_cases h1 : kdB m b = 1
      · have hP := plain_sub m b true wr (by simp [isK, h1])
        have HEs : Hid (esB m (s.data.toList.drop i) = b :: esB m (s.data.toList.drop (i + 1))) := by unfold Hid; rw [HDr.out, esB_txt m h1]
        clear h1
        go_wp2_with fail
        refine wp_region_class (V := wr) (Below.refl _ _) (by kernel_rfl) (by kernel_rfl) ?_
        repeat (go_big_quiet_step ((exact hP _)))
        refine wpQuiet_nil ?_
        rintro wc ⟨xwc, hwc⟩
        have Bwc : Below wr.heap.size wr wc := by rw [hwc]; exact xwc.2
        clear hwc xwc
        clear l0 l1 l2 l3 l4 hP hne
        have zc : wr.heap.size ≤ wc.heap.size := Bwc.size
        have zw3 : w.heap.size + 1 ≤ (wc.alloc (.cells #[.int .u8 (b.toNat : Int)] 5)).heap.size := by simp; omega
        obtain ⟨aw3, cw3, w3, hrw3, rww3, blw3⟩ := run_bapp (bs := [b]) (n := 1) ((HI.out.row.below Bwc).below ((Below.refl _ wc).alloc (Nat.le_refl _) (.cells #[.int .u8 (b.toNat : Int)] 5))) zw3 (cells_new rfl) rfl (by simp; omega) 42
        clear zw3
        have H3 : Hid (EsI w W0 m s (.slice aw3 (acc ++ [b]).length cw3) (i + 1) (acc ++ [b]) w3) := by
          refine ⟨?_, (below_sub HI.out.bel hsz Bwc).trans ((((Below.refl (w.heap.size + 1) wc).alloc (by omega) _)).trans blw3), ?_⟩
          · rw [List.length_append]; exact rww3
          · rw [← HI.out.wr, HEs.out]; simp
        clear rww3 blw3 Bwc zc
        go_wp2_with (at_builtin; refine wpList_append_run rfl (.tmp 17) (.tmp 21) 42 _ rfl hrw3 ?_)
        go_roundw
        case rel => exact ⟨i + 1, acc ++ [b], aw3, cw3, by omega, by go_num, by rw [List.length_append]; rfl, H3.out⟩
        case measure => simp [intOf]; omega
      · have hP := plain_sub m b false wr (by simp [isK, h1])
        by_cases h2 : kdB m b = 2
        · have hA := among_sub m b true wr (kd2_in h2)
          have HEs : Hid (esB m (s.data.toList.drop i) = m.x :: ltB m b :: m.x :: esB m (s.data.toList.drop (i + 1))) := by unfold Hid; rw [HDr.out, esB_mrk m h2]
          have HIn : Hid (b ∈ m.l) := List.contains_iff_mem.1 (kd2_in h2)
          clear h1 h2
          go_wp2_with fail
          refine wp_region_class (V := wr) (Below.refl _ _) (by kernel_rfl) (by kernel_rfl) ?_
          repeat (go_big_quiet_step ((exact hP _)))
          refine wpQuiet_nil ?_
          rintro wc ⟨xwc, hwc⟩
          have Bwc : Below wr.heap.size wr wc := by rw [hwc]; exact xwc.2
          clear hwc xwc
          go_wp2_with fail
          refine wp_region_class (V := wr) (Bwc) (by kernel_rfl) (by kernel_rfl) ?_
          repeat (go_big_quiet_step ((exact hA _)))
          refine wpQuiet_nil ?_
          rintro wd ⟨xwd, hwd⟩
          have Bwd : Below wr.heap.size wr wd := by rw [hwd]; exact xwd.2
          clear hwd xwd
          clear l0 l1 l2 l3 l4 hP hA hne
          have HLt : Hid (∀ x, Below wr.heap.size wr x → Calls Tryd.prog 25 #[.agg #[.int .u8 (m.f.toNat : Int), .int .u8 (m.c.toNat : Int), .int .u8 (m.r.toNat : Int), .int .u8 (m.x.toNat : Int), .int .u8 (m.s.toNat : Int)], .int .u8 (b.toNat : Int)] x fun e x' => e = .returned (.int .u8 ((ltB m b).toNat : Int)) ∧ Below wr.heap.size wr x' ∧ x'.cell? ⟨w.heap.size, 0, none⟩ = some (.int .u8 (m.f.toNat : Int)) ∧ x'.cell? ⟨w.heap.size, 1, none⟩ = some (.int .u8 (m.c.toNat : Int)) ∧ x'.cell? ⟨w.heap.size, 2, none⟩ = some (.int .u8 (m.r.toNat : Int)) ∧ x'.cell? ⟨w.heap.size, 3, none⟩ = some (.int .u8 (m.x.toNat : Int)) ∧ x'.cell? ⟨w.heap.size, 4, none⟩ = some (.int .u8 (m.s.toNat : Int))) := fun x hx => (rletter_any m b x HM.out HIn.out).mono fun e x' ⟨he, hb⟩ => ⟨he, below_then hx hb, arr_at HZ.out.1 (below_sub HI.out.bel hsz (below_then hx hb))⟩
          obtain ⟨d0, d1, d2, d3, d4⟩ := arr_at HZ.out.1 (below_sub HI.out.bel hsz Bwd)
          go_wp2_with fail
          go_region_held3 (fun x => x.cell? ⟨w.heap.size, 0, none⟩ = some (.int .u8 (m.f.toNat : Int)) ∧ x.cell? ⟨w.heap.size, 1, none⟩ = some (.int .u8 (m.c.toNat : Int)) ∧ x.cell? ⟨w.heap.size, 2, none⟩ = some (.int .u8 (m.r.toNat : Int)) ∧ x.cell? ⟨w.heap.size, 3, none⟩ = some (.int .u8 (m.x.toNat : Int)) ∧ x.cell? ⟨w.heap.size, 4, none⟩ = some (.int .u8 (m.s.toNat : Int))) (first | (simp [*]; done) | simp [*, World.cell?_alloc_some]) (first | (go_at_call 25; refine (HLt.out _ ?_).mono ?_; (first | assumption | exact Below.drew (by assumption)); rintro e x1 ⟨rfl, hx1, f0, f1, f2, f3, f4⟩) | (refine step_bapp (n := 3) (B := w.heap.size + 1) (bs := [m.x, ltB m b, m.x]) (l := acc) rfl (.tmp 30) (.tmp 40) rfl rfl rfl (brow_alloc HI.out.row (by first | assumption | exact Below.drew (by assumption))) (le_alloc hsz (by first | assumption | exact Below.drew (by assumption))) (cells_new rfl) rfl (by omega) ?_; intro a3 c3 w3 hR3 hB3; have hW3 := below_app HI.out.bel hsz (by first | assumption | exact Below.drew (by assumption)) hB3; obtain ⟨g0, g1, g2, g3, g4⟩ := arr_at HZ.out.1 hW3))
          have H3 : Hid (EsI w W0 m s (.slice a3 (acc ++ [m.x, ltB m b, m.x]).length c3) (i + 1) (acc ++ [m.x, ltB m b, m.x]) w3) := by
            refine ⟨?_, hW3, ?_⟩
            · rw [List.length_append]; exact hR3
            · rw [← HI.out.wr, HEs.out]; simp
          clear hR3 hB3 hW3
          go_wp2_with fail
          go_roundw
          case rel => exact ⟨i + 1, acc ++ [m.x, ltB m b, m.x], a3, c3, by omega, by go_num, by rw [List.length_append]; rfl, H3.out⟩
          case measure => simp [intOf]; omega
        · have hA := among_sub m b false wr (kd3_out h2)
          have HK3 : Hid (kdB m b = 3) := by rcases kdB_any m b with e | e | e <;> first | exact e | exact absurd e h1 | exact absurd e h2
          clear h1 h2
          go_wp2_with fail
          refine wp_region_class (V := wr) (Below.refl _ _) (by kernel_rfl) (by kernel_rfl) ?_
          repeat (go_big_quiet_step ((exact hP _)))
          refine wpQuiet_nil ?_
          rintro wc ⟨xwc, hwc⟩
          have Bwc : Below wr.heap.size wr wc := by rw [hwc]; exact xwc.2
          clear hwc xwc
          go_wp2_with fail
          refine wp_region_class (V := wr) (Bwc) (by kernel_rfl) (by kernel_rfl) ?_
          repeat (go_big_quiet_step ((exact hA _)))
          refine wpQuiet_nil ?_
          rintro wd ⟨xwd, hwd⟩
          have Bwd : Below wr.heap.size wr wd := by rw [hwd]; exact xwd.2
          clear hwd xwd
          clear l0 l1 l2 l3 l4 hP hA hne
          obtain ⟨_, _, _, d3, _⟩ := arr_at HZ.out.1 (below_sub HI.out.bel hsz Bwd)
          have zd : wr.heap.size ≤ wd.heap.size := Bwd.size
          have zw3 : w.heap.size + 1 ≤ (wd.alloc (.cells #[.int .u8 (m.x.toNat : Int), .int .u8 88] 5)).heap.size := by simp; omega
          obtain ⟨a3, c3, w3, hr3, rw3, bl3⟩ := run_bapp (bs := [m.x, 88]) (n := 2) ((HI.out.row.below Bwd).below ((Below.refl _ wd).alloc (Nat.le_refl _) (.cells #[.int .u8 (m.x.toNat : Int), .int .u8 88] 5))) zw3 (cells_new rfl) rfl (by omega) 42
          have HJ0 : Hid (EsJ w W0 m s acc i 0 i (acc ++ [m.x, 88]) (.slice a3 (acc ++ [m.x, 88]).length c3) w3) := by
            refine ⟨rfl, ?_, ?_, (below_sub HI.out.bel hsz Bwd).trans ((((Below.refl (w.heap.size + 1) wd).alloc (by omega) _)).trans bl3), fun j h0 h1 => by omega⟩
            · rw [List.drop_eq_nil_of_le (by rw [List.length_take]; omega)]; simp [prB]
            · rw [List.length_append]; exact rw3
          have HWr : Hid (acc ++ esB m (s.data.toList.drop i) = esB m s.data.toList) := HI.out.wr
          clear rw3 bl3 zw3 zd Bwc Bwd hsz HI HDr hix
          go_wp2_with (at_builtin; refine wpList_append_run rfl (.tmp 44) (.tmp 47) 42 _ rfl hr3 ?_)
          clear hr3
          go_loopw [5, 6, 7] (fun t5 t6 t7 wx => ∃ (n j : Nat) (L : List UInt8) (a : Option Addr) (c : Nat), n ≤ 64 ∧ j ≤ s.size ∧ t7 = .int .i64 (n : Int) ∧ t6 = .int .i64 (j : Int) ∧ t5 = .slice a L.length c ∧ Hid (EsJ w W0 m s acc i n j L (.slice a L.length c) wx)) (fun _ _ t7 _ => 64 - (intOf t7).toNat)
          case atStart => exact ⟨0, i, acc ++ [m.x, 88], a3, c3, by omega, by omega, rfl, rfl, by rw [List.length_append]; rfl, HJ0.out⟩
          case round =>
            obtain ⟨n, j, L, aj, cj, hn, hin, rfl, rfl, rfl, HJ⟩ := hrel
            have hsz : w.heap.size + 1 ≤ wr.heap.size := by have := HJ.out.bel.size; have := HZ.out.2.1; omega
            have hll : L.length ≤ 41200 := by rw [HJ.out.is, List.length_append, List.length_append, prB_len, mid_len _ (by have := HT.out; omega)]; have := HJ.out.jn; simp; omega
            clear HJ0
            have l0 : ∀ x : Sub wr, x.1.cell? ⟨w.heap.size, 0, none⟩ = some (.int .u8 (m.f.toNat : Int)) := fun x => sub_cells HZ.out.1 HJ.out.bel hsz x 0 (by omega)
            have l1 : ∀ x : Sub wr, x.1.cell? ⟨w.heap.size, 1, none⟩ = some (.int .u8 (m.c.toNat : Int)) := fun x => sub_cells HZ.out.1 HJ.out.bel hsz x 1 (by omega)
            have l2 : ∀ x : Sub wr, x.1.cell? ⟨w.heap.size, 2, none⟩ = some (.int .u8 (m.r.toNat : Int)) := fun x => sub_cells HZ.out.1 HJ.out.bel hsz x 2 (by omega)
            have l3 : ∀ x : Sub wr, x.1.cell? ⟨w.heap.size, 3, none⟩ = some (.int .u8 (m.x.toNat : Int)) := fun x => sub_cells HZ.out.1 HJ.out.bel hsz x 3 (by omega)
            have l4 : ∀ x : Sub wr, x.1.cell? ⟨w.heap.size, 4, none⟩ = some (.int .u8 (m.s.toNat : Int)) := fun x => sub_cells HZ.out.1 HJ.out.bel hsz x 4 (by omega)
            haveI hne : Nonempty (Sub wr) := ⟨⟨wr, Below.refl _ _⟩⟩
            by_cases hn6 : n < 64
            · have f6 : decide ((n : Int) < 64) = true := by simp; omega
              by_cases hj : j < s.size
              · have fj : decide ((j : Int) < s.size) = true := by simp; omega
                obtain ⟨b2, hb2⟩ : ∃ b, s.data.toList.getD j 0 = b := ⟨_, rfl⟩
                have hix2 := fun w => index_run hj hb2 w
                have HB2 : Hid (s.data.toList.getD j 0 = b2) := hb2
                have HN0 : Hid (kdB m b2 ≠ 3 → 1 ≤ n) := fun h => by
                  rcases Nat.lt_or_ge 0 n with q | q
                  · exact q
                  · exfalso
                    have hji : j = i := by have := HJ.out.jn; omega
                    apply h; rw [← hb2, hji, HBb.out]; exact HK3.out
                clear hb2
                by_cases g1 : kdB m b2 = 1
                · have hP := plain_sub m b2 true wr (by simp [isK, g1])
                  have HNp : Hid (1 ≤ n ∧ j = i + n) := ⟨by have hjn := HJ.out.jn; exact HN0.out (by omega), HJ.out.jn⟩
                  have HX : Hid (esB m (s.data.toList.drop i) = m.x :: 88 :: (prB ((s.data.toList.take j).drop i) ++ m.x :: esB m (s.data.toList.drop j))) := by unfold Hid; have hjn := HJ.out.jn; have hkd := HJ.out.kd; subst hjn; exact run_cut (by have := HT.out; omega) (HN0.out (by omega)) (by omega) hkd (Or.inr (Or.inr (by rw [HB2.out]; omega)))
                  go_wp2_with fail
                  refine wp_region_class (V := wr) (Below.refl _ _) (by kernel_rfl) (by kernel_rfl) ?_
                  repeat (go_big_quiet_step ((exact hP _)))
                  refine wpQuiet_nil ?_
                  rintro wc ⟨xwc, hwc⟩
                  have Bwc : Below wr.heap.size wr wc := by rw [hwc]; exact xwc.2
                  clear hwc xwc
                  clear l0 l1 l2 l3 l4 hne
                  obtain ⟨_, _, _, d3, _⟩ := arr_at HZ.out.1 (below_sub HJ.out.bel hsz Bwc)
                  have zc : wr.heap.size ≤ wc.heap.size := Bwc.size
                  have zw4 : w.heap.size + 1 ≤ (wc.alloc (.cells #[.int .u8 (m.x.toNat : Int)] 5)).heap.size := by simp; omega
                  obtain ⟨a4, c4, w4, hr4, rw4, bl4⟩ := run_bapp (bs := [m.x]) (n := 1) ((HJ.out.row.below Bwc).below ((Below.refl _ wc).alloc (Nat.le_refl _) (.cells #[.int .u8 (m.x.toNat : Int)] 5))) zw4 (cells_new rfl) rfl (by omega) 42
                  have H4 : Hid (EsI w W0 m s (.slice a4 (L ++ [m.x]).length c4) j (L ++ [m.x]) w4) := by
                    refine ⟨?_, (below_sub HJ.out.bel hsz Bwc).trans ((((Below.refl (w.heap.size + 1) wc).alloc (by omega) _)).trans bl4), ?_⟩
                    · rw [List.length_append]; exact rw4
                    · rw [← HWr.out, HX.out, HJ.out.is]; simp
                  clear rw4 bl4 zw4 zc Bwc
                  go_wp2_with (at_builtin; refine wpList_append_run rfl (.tmp 90) (.tmp 93) 42 _ rfl hr4 ?_)
                  go_roundw
                  case rel => exact ⟨j, L ++ [m.x], a4, c4, by omega, rfl, by rw [List.length_append]; rfl, H4.out⟩
                  case measure => simp [intOf]; have := HNp.out; omega
                · have hP := plain_sub m b2 false wr (by simp [isK, g1])
                  by_cases g2 : kdB m b2 = 2
                  · have hA := among_sub m b2 true wr (kd2_in g2)
                    have HNp : Hid (1 ≤ n ∧ j = i + n) := ⟨by have hjn := HJ.out.jn; exact HN0.out (by omega), HJ.out.jn⟩
                    have HX : Hid (esB m (s.data.toList.drop i) = m.x :: 88 :: (prB ((s.data.toList.take j).drop i) ++ m.x :: esB m (s.data.toList.drop j))) := by unfold Hid; have hjn := HJ.out.jn; have hkd := HJ.out.kd; subst hjn; exact run_cut (by have := HT.out; omega) (HN0.out (by omega)) (by omega) hkd (Or.inr (Or.inr (by rw [HB2.out]; omega)))
                    go_wp2_with fail
                    refine wp_region_class (V := wr) (Below.refl _ _) (by kernel_rfl) (by kernel_rfl) ?_
                    repeat (go_big_quiet_step ((first | exact hP _ | exact hA _)))
                    refine wpQuiet_nil ?_
                    rintro wc ⟨xwc, hwc⟩
                    have Bwc : Below wr.heap.size wr wc := by rw [hwc]; exact xwc.2
                    clear hwc xwc
                    clear l0 l1 l2 l3 l4 hne
                    obtain ⟨_, _, _, d3, _⟩ := arr_at HZ.out.1 (below_sub HJ.out.bel hsz Bwc)
                    have zc : wr.heap.size ≤ wc.heap.size := Bwc.size
                    have zw4 : w.heap.size + 1 ≤ (wc.alloc (.cells #[.int .u8 (m.x.toNat : Int)] 5)).heap.size := by simp; omega
                    obtain ⟨a4, c4, w4, hr4, rw4, bl4⟩ := run_bapp (bs := [m.x]) (n := 1) ((HJ.out.row.below Bwc).below ((Below.refl _ wc).alloc (Nat.le_refl _) (.cells #[.int .u8 (m.x.toNat : Int)] 5))) zw4 (cells_new rfl) rfl (by omega) 42
                    have H4 : Hid (EsI w W0 m s (.slice a4 (L ++ [m.x]).length c4) j (L ++ [m.x]) w4) := by
                      refine ⟨?_, (below_sub HJ.out.bel hsz Bwc).trans ((((Below.refl (w.heap.size + 1) wc).alloc (by omega) _)).trans bl4), ?_⟩
                      · rw [List.length_append]; exact rw4
                      · rw [← HWr.out, HX.out, HJ.out.is]; simp
                    clear rw4 bl4 zw4 zc Bwc
                    go_wp2_with (at_builtin; refine wpList_append_run rfl (.tmp 90) (.tmp 93) 42 _ rfl hr4 ?_)
                    go_roundw
                    case rel => exact ⟨j, L ++ [m.x], a4, c4, by omega, rfl, by rw [List.length_append]; rfl, H4.out⟩
                    case measure => simp [intOf]; have := HNp.out; omega
                  · have hA := among_sub m b2 false wr (kd3_out g2)
                    have G3 : Hid (kdB m b2 = 3) := by rcases kdB_any m b2 with e | e | e <;> first | exact e | exact absurd e g1 | exact absurd e g2
                    clear g1 g2
                    go_wp2_with fail
                    refine wp_region_class (V := wr) (Below.refl _ _) (by kernel_rfl) (by kernel_rfl) ?_
                    repeat (go_big_quiet_step ((first | exact hP _ | exact hA _)))
                    refine wpQuiet_nil ?_
                    rintro wc ⟨xwc, hwc⟩
                    have Bwc : Below wr.heap.size wr wc := by rw [hwc]; exact xwc.2
                    clear hwc xwc
                    clear l0 l1 l2 l3 l4 hne hP hA
                    have HDg : Hid (∀ x (z : Int), Below wr.heap.size wr x → isNib b2 z → Calls Tryd.prog 26 #[.int .u8 z] x fun e x' => e = .returned (.int .u8 (dgZ z)) ∧ Below wr.heap.size wr x' ∧ x'.cell? ⟨w.heap.size, 0, none⟩ = some (.int .u8 (m.f.toNat : Int))) := fun x z hx hz => by
                      obtain ⟨k, hk, rfl⟩ : ∃ k : Nat, k < 16 ∧ z = (k : Int) := by
                        have := b2.toNat_lt
                        rcases hz with rfl | rfl
                        · exact ⟨b2.toNat / 16, by omega, by omega⟩
                        · exact ⟨b2.toNat % 16, by omega, by omega⟩
                      refine (digit_any k hk x).mono ?_
                      rintro e x' ⟨he, hw⟩
                      rw [hw]
                      exact ⟨he, hx, (arr_at HZ.out.1 (below_sub HJ.out.bel hsz hx)).1⟩
                    obtain ⟨d0, _, _, _, _⟩ := arr_at HZ.out.1 (below_sub HJ.out.bel hsz Bwc)
                    go_wp2_with fail
                    go_region_held3 (fun x => x.cell? ⟨w.heap.size, 0, none⟩ = some (.int .u8 (m.f.toNat : Int))) (first | (simp [*]; done) | simp [*, World.cell?_alloc_some]) (first | (go_at_call 26; refine (HDg.out _ _ ?_ ?_).mono ?_; (first | assumption | exact Below.drew (by assumption)); (first | exact nib1 _ | exact nib2 _ | exact nib3 _ | exact nib4 _); rintro e x1 ⟨rfl, hx1, f0⟩) | (refine step_bapp (n := 2) (B := w.heap.size + 1) (bs := [dgB (b2.toNat / 16), dgB (b2.toNat % 16)]) (l := L) rfl (.tmp 75) (.tmp 86) rfl rfl rfl (brow_alloc HJ.out.row (by first | assumption | exact Below.drew (by assumption))) (le_alloc hsz (by first | assumption | exact Below.drew (by assumption))) (cells_new (by first | exact cells_two b2 | (rw [wrapA, wrapB]; exact cells_two b2) | (rw [wrapA]; exact cells_two b2) | (rw [wrapB]; exact cells_two b2))) rfl (by omega) ?_; intro a5 c5 w5 hR5 hB5; have hW5 := below_app HJ.out.bel hsz (by first | assumption | exact Below.drew (by assumption)) hB5; have g0 := (arr_at HZ.out.1 hW5).1))
                    all_goals
                      have H5 : Hid (EsJ w W0 m s acc i (n + 1) (j + 1) (L ++ [dgB (b2.toNat / 16), dgB (b2.toNat % 16)]) (.slice a5 (L ++ [dgB (b2.toNat / 16), dgB (b2.toNat % 16)]).length c5) w5) := by
                        refine ⟨by have := HJ.out.jn; omega, ?_, ?_, hW5, fun q h0 h1 => ?_⟩
                        · rw [mid_snoc _ (by have := HJ.out.jn; omega) (by have := HT.out; omega), HB2.out, prB_app, ← List.append_assoc, ← HJ.out.is]; rfl
                        · rw [List.length_append]; exact hR5
                        · rcases Nat.lt_or_ge q j with r | r
                          · exact HJ.out.kd q h0 r
                          · obtain rfl : q = j := by omega
                            rw [HB2.out]; exact G3.out
                      clear hR5 hB5 hW5
                      go_wp2_with fail
                      go_roundw
                      case rel => exact ⟨n + 1, j + 1, L ++ [dgB (b2.toNat / 16), dgB (b2.toNat % 16)], a5, c5, by omega, by omega, by go_num, by go_num, by rw [List.length_append]; rfl, H5.out⟩
                      case measure => simp [intOf]; omega
              · have fj : decide ((j : Int) < s.size) = false := by simp; omega
                have HNp : Hid (1 ≤ n ∧ j = i + n) := ⟨by have hjn := HJ.out.jn; exact by omega, HJ.out.jn⟩
                have HX : Hid (esB m (s.data.toList.drop i) = m.x :: 88 :: (prB ((s.data.toList.take j).drop i) ++ m.x :: esB m (s.data.toList.drop j))) := by unfold Hid; have hjn := HJ.out.jn; have hkd := HJ.out.kd; subst hjn; exact run_cut (by have := HT.out; omega) (by omega) (by omega) hkd (Or.inr (Or.inl (by have := HT.out; omega)))
                go_wp2_with fail
                refine wp_region_class (V := wr) (Below.refl _ _) (by kernel_rfl) (by kernel_rfl) ?_
                repeat (go_big_quiet_step ((fail)))
                refine wpQuiet_nil ?_
                rintro wc ⟨xwc, hwc⟩
                have Bwc : Below wr.heap.size wr wc := by rw [hwc]; exact xwc.2
                clear hwc xwc
                clear l0 l1 l2 l3 l4 hne
                obtain ⟨_, _, _, d3, _⟩ := arr_at HZ.out.1 (below_sub HJ.out.bel hsz Bwc)
                have zc : wr.heap.size ≤ wc.heap.size := Bwc.size
                have zw4 : w.heap.size + 1 ≤ (wc.alloc (.cells #[.int .u8 (m.x.toNat : Int)] 5)).heap.size := by simp; omega
                obtain ⟨a4, c4, w4, hr4, rw4, bl4⟩ := run_bapp (bs := [m.x]) (n := 1) ((HJ.out.row.below Bwc).below ((Below.refl _ wc).alloc (Nat.le_refl _) (.cells #[.int .u8 (m.x.toNat : Int)] 5))) zw4 (cells_new rfl) rfl (by omega) 42
                have H4 : Hid (EsI w W0 m s (.slice a4 (L ++ [m.x]).length c4) j (L ++ [m.x]) w4) := by
                  refine ⟨?_, (below_sub HJ.out.bel hsz Bwc).trans ((((Below.refl (w.heap.size + 1) wc).alloc (by omega) _)).trans bl4), ?_⟩
                  · rw [List.length_append]; exact rw4
                  · rw [← HWr.out, HX.out, HJ.out.is]; simp
                clear rw4 bl4 zw4 zc Bwc
                go_wp2_with (at_builtin; refine wpList_append_run rfl (.tmp 90) (.tmp 93) 42 _ rfl hr4 ?_)
                go_roundw
                case rel => exact ⟨j, L ++ [m.x], a4, c4, by omega, rfl, by rw [List.length_append]; rfl, H4.out⟩
                case measure => simp [intOf]; have := HNp.out; omega
            · have f6 : decide ((n : Int) < 64) = false := by simp; omega
              have HNp : Hid (1 ≤ n ∧ j = i + n) := ⟨by have hjn := HJ.out.jn; exact by omega, HJ.out.jn⟩
              have HX : Hid (esB m (s.data.toList.drop i) = m.x :: 88 :: (prB ((s.data.toList.take j).drop i) ++ m.x :: esB m (s.data.toList.drop j))) := by unfold Hid; have hjn := HJ.out.jn; have hkd := HJ.out.kd; subst hjn; exact run_cut (by have := HT.out; omega) (by omega) (by omega) hkd (Or.inl (by omega))
              go_wp2_with fail
              refine wp_region_class (V := wr) (Below.refl _ _) (by kernel_rfl) (by kernel_rfl) ?_
              repeat (go_big_quiet_step ((fail)))
              refine wpQuiet_nil ?_
              rintro wc ⟨xwc, hwc⟩
              have Bwc : Below wr.heap.size wr wc := by rw [hwc]; exact xwc.2
              clear hwc xwc
              clear l0 l1 l2 l3 l4 hne
              obtain ⟨_, _, _, d3, _⟩ := arr_at HZ.out.1 (below_sub HJ.out.bel hsz Bwc)
              have zc : wr.heap.size ≤ wc.heap.size := Bwc.size
              have zw4 : w.heap.size + 1 ≤ (wc.alloc (.cells #[.int .u8 (m.x.toNat : Int)] 5)).heap.size := by simp; omega
              obtain ⟨a4, c4, w4, hr4, rw4, bl4⟩ := run_bapp (bs := [m.x]) (n := 1) ((HJ.out.row.below Bwc).below ((Below.refl _ wc).alloc (Nat.le_refl _) (.cells #[.int .u8 (m.x.toNat : Int)] 5))) zw4 (cells_new rfl) rfl (by omega) 42
              have H4 : Hid (EsI w W0 m s (.slice a4 (L ++ [m.x]).length c4) j (L ++ [m.x]) w4) := by
                refine ⟨?_, (below_sub HJ.out.bel hsz Bwc).trans ((((Below.refl (w.heap.size + 1) wc).alloc (by omega) _)).trans bl4), ?_⟩
                · rw [List.length_append]; exact rw4
                · rw [← HWr.out, HX.out, HJ.out.is]; simp
              clear rw4 bl4 zw4 zc Bwc
              go_wp2_with (at_builtin; refine wpList_append_run rfl (.tmp 90) (.tmp 93) 42 _ rfl hr4 ?_)
              go_roundw
              case rel => exact ⟨j, L ++ [m.x], a4, c4, by omega, rfl, by rw [List.length_append]; rfl, H4.out⟩
              case measure => simp [intOf]; have := HNp.out; omega
    · obtain rfl : i = s.size := by omega
      go_wp2_with fail
      go_ret
      refine ⟨⟨av, acc.length, cv, rfl, ?_⟩, HZ.out.2.2.trans ⟨HI.out.bel.os, HI.out.bel.tape, HI.out.bel.output, HI.out.bel.size, fun q hq => HI.out.bel.block q (by omega)⟩⟩
      have h1 := HI.out.wr
      rw [List.drop_eq_nil_of_le (by rw [HT.out]; omega), esB_nil, List.append_nil] at h1
      unfold Hid
      rw [← h1]; exact HI.out.row
end Go.Proofs.YtkpebmhokdckfaaDoor
