import Derived.Test.YthnpckmgnompiaaGreatDoorWFol
import Derived.Test.YthnpckmgnompiaaGreatDoorDkFrom
/-
  The log's follow, where records wait: a sync in front.
-/
namespace Go.Proofs.YthnpckmgnompiaaGreatDoor
open Go.RowKit Go.BigFrame

/-- A function value that is a step in every world that comes, some blocks written or not. -/
def Stq (P : Nat → Prop) (B K : Nat) (v0 v1 : Value) (o : Dop) (f : Nat) (caps : Array Value) (y : World) : Prop := Enters Tryz.prog f ∧ ∀ y', Off P y y' → StepF y' B K v0 v1 o f caps
theorem Stq.on {P : Nat → Prop} {B K : Nat} {v0 v1 : Value} {o : Dop} {f : Nat} {caps : Array Value} {y z : World} (h : Stq P B K v0 v1 o f caps y) (hb : Off P y z) : Stq P B K v0 v1 o f caps z := ⟨h.1, fun y' hy => h.2 y' (hb.trans hy)⟩
def MkP (P : Nat → Prop) (x : World) (B K : Nat) (v0 v1 : Value) (o : Dop) (e : Ending) (y : World) : Prop := ∃ f caps, e = .returned (.func (.func f) #[] caps) ∧ Below x.heap.size x y ∧ Stq P B K v0 v1 o f caps y
section
variable {x : World} {P : Nat → Prop} {B K : Nat} {v0 v1 : Value} {σ : Sg} {ar : Int}
theorem cut_p (h : DskS x B K v0 v1 σ) (hP : ∀ k, P k → k < x.heap.size) (n : Int) : Calls Tryz.prog 17 #[.pointer (some ⟨K, 0, none⟩), .int .i64 ar, .int .i64 n] x (MkP P x B K v0 v1 (.cut ar n)) := by
  refine (cut_mk x).mono ?_
  rintro e y ⟨rfl, rfl⟩
  have hF : ∀ b, x.heap.size ≤ b → ¬ Foot K v0 v1 b := fun b hb g => by have := (h.foot_lt g).2; omega
  have hN : ∀ b, x.heap.size ≤ b → ¬ P b := fun b hb g => by have := hP b g; omega
  obtain ⟨c1, c2, c3⟩ := three_cells x (.pointer (some ⟨K, 0, none⟩)) (.int .i64 ar) (.int .i64 n) 24 3 3
  exact ⟨_, _, rfl, below_allocs x _ _ _, enters_cut, fun y' hy => stepF_cut ((hy.cell (p := ⟨x.heap.size, 0, none⟩) (cell_lt c1) (hN _ (by simp))).trans c1) ((hy.cell (p := ⟨x.heap.size + 1, 0, none⟩) (cell_lt c2) (hN _ (by simp))).trans c2) ((hy.cell (p := ⟨x.heap.size + 2, 0, none⟩) (cell_lt c3) (hN _ (by simp))).trans c3) (hF _ (by omega)) (hF _ (by omega)) (hF _ (by omega))⟩
theorem begin_p {gn : Int} {po : Option Addr} {m k : Nat} {bs : List Int} (h : DskS x B K v0 v1 σ) (hP : ∀ k, P k → k < x.heap.size) (hb : Byts x po m bs) (hfar : ∀ b o, 0 < m → po = some ⟨b, o, none⟩ → ¬ Foot K v0 v1 b) (hfp : ∀ b o, 0 < m → po = some ⟨b, o, none⟩ → ¬ P b) (hpo : po = none → k = 0) (hm : m ≤ 16777216) (hg0 : 0 ≤ gn) (hg1 : gn ≤ 18446744073709551615) (hH : Halves x) (hG : ¬ Foot K v0 v1 1) (hGp : ¬ P 1) :
    Calls Tryz.prog 18 #[.pointer (some ⟨K, 0, none⟩), .int .u64 gn, .slice po m k] x (MkP P x B K v0 v1 (.app (gn % 2) (headB gn ++ recB bs))) := by
  refine (begin_mk x).mono ?_
  rintro e y ⟨rfl, rfl⟩
  have hF : ∀ b, x.heap.size ≤ b → ¬ Foot K v0 v1 b := fun b hb g => by have := (h.foot_lt g).2; omega
  have hN : ∀ b, x.heap.size ≤ b → ¬ P b := fun b hb g => by have := hP b g; omega
  obtain ⟨c1, c2, c3⟩ := three_cells x (.pointer (some ⟨K, 0, none⟩)) (.int .u64 gn) (.slice po m k) 24 31 22
  have hbx := below_allocs x (.cells #[.pointer (some ⟨K, 0, none⟩)] 24) (.cells #[.int .u64 gn] 31) (.cells #[.slice po m k] 22)
  refine ⟨_, _, rfl, hbx, enters_begin, fun y' hy => ?_⟩
  have hxy : Off P x y' := (Off.of_below hbx).trans hy
  exact stepF_begin ((hy.cell (p := ⟨x.heap.size, 0, none⟩) (cell_lt c1) (hN _ (by simp))).trans c1) ((hy.cell (p := ⟨x.heap.size + 1, 0, none⟩) (cell_lt c2) (hN _ (by simp))).trans c2) ((hy.cell (p := ⟨x.heap.size + 2, 0, none⟩) (cell_lt c3) (hN _ (by simp))).trans c3) (hF _ (by omega)) (hF _ (by omega)) (hF _ (by omega)) (byts_off hb hxy hfp) hfar hpo hm hg0 hg1 (fun j hj => (hxy.cell (p := ⟨1, j, none⟩) (cell_lt (hH j hj)) hGp).trans (hH j hj)) hG
theorem syn_p (h : DskS x B K v0 v1 σ) (hP : ∀ k, P k → k < x.heap.size) : Calls Tryz.prog 19 #[.pointer (some ⟨K, 0, none⟩), .int .i64 ar] x (MkP P x B K v0 v1 (.syn ar)) := by
  refine (sync_q (x := x) (Or.inl rfl)).mono ?_
  rintro e y ⟨rfl, hb, c1, c2⟩
  have hF : ∀ b, x.heap.size ≤ b → ¬ Foot K v0 v1 b := fun b hb g => by have := (h.foot_lt g).2; omega
  have hN : ∀ b, x.heap.size ≤ b → ¬ P b := fun b hb g => by have := hP b g; omega
  exact ⟨_, _, rfl, hb, enters_sync, fun y' hy => stepF_syn ((hy.cell (p := ⟨x.heap.size, 0, none⟩) (cell_lt c1) (hN _ (by simp))).trans c1) ((hy.cell (p := ⟨x.heap.size + 1, 0, none⟩) (cell_lt c2) (hN _ (by simp))).trans c2) (hF _ (by omega)) (hF _ (by omega))⟩
end
/-- append of one function value to no list, as one step of a region that draws. -/
theorem step_onef {w : World} {ops : Array Oper} {o : Oper} {a : Act} {K : Act → World → Prop} {Q : Exit → Act → World → Prop} {E : Prop} {g : Nat} {u0 : Value} (hgd : o.guard = none) (s y : Operand)
    (ho : o.op = .call { callee := .builtin .append, args := #[s, y], argTypes := #[85, 85] }) (hs : a.eval s = .slice none 0 0) (hx : a.eval y = .slice (some ⟨g, 0, none⟩) 1 1)
    (hc : ∀ j, w.cell? ⟨g, j, none⟩ = #[u0][j]?) (h1 : u0.oneCell' = true)
    (h : ∀ (gL c' : Nat) (w' : World), Hid (gL = w.heap.size) → VRow w' gL 80 (.slice (some ⟨gL, 0, none⟩) 1 c') [u0] → Below w.heap.size w w' → gL < w'.heap.size → K (a.put o.dst (.slice (some ⟨gL, 0, none⟩) 1 c')) w') :
    if Region.wanted o (yielded ops a.tmps) = true then Oper.wp Tryz.prog o a w K Q else E := by
  have hw : Region.wanted o (yielded ops a.tmps) = true := by simp [Region.wanted, hgd]
  obtain ⟨i, hi, hm⟩ := Option.map_eq_some_iff.1 infoStep
  simp only [Prod.mk.injEq] at hm
  obtain ⟨m1, m2, m3⟩ := hm
  obtain ⟨z, hz, hzs⟩ := Option.map_eq_some_iff.1 m3
  obtain ⟨v', w', hrn, r, p⟩ := run_append_two (P := Tryz.prog) w w.heap.size 85 o.type 80 i z 8 Tryz.underlying85 hi hz m1 m2 hzs (.slice none 0 0) [] (VRow.nil _ _ _) ⟨g, 0, none⟩ 1 1 [u0] rfl (fun j u hu => by rw [Addr.add_lit, Nat.zero_add, hc, ← hu]; simp) (fun u hu => by rw [List.mem_singleton] at hu; rw [hu]; exact h1) (by unfold maxLen; simp) (by simp) (Nat.le_refl _)
  rw [if_pos hw]
  unfold Oper.wp execOp
  simp only [ho, resolve, invoke, builtin, Sem.run_bind, Sem.run_pure, Result.andThen_ok, List.map_toArray, List.map_cons, List.map_nil, hs, hx, hrn]
  cases p with
  | same g' cap hv hv' hg => cases hv
  | idle hv hm hw => omega
  | fresh cap hv' hg hs' =>
    subst hv'
    exact h _ _ _ rfl r ((Off.of_grown hg).below_of (fun k _ e => by cases e)) hs'
/-- append of four to a list of one. -/
theorem step_fourf {w : World} {ops : Array Oper} {o : Oper} {a : Act} {K : Act → World → Prop} {Q : Exit → Act → World → Prop} {E : Prop} {g gL c f0 f1 f2 f3 : Nat} {c0 c1 c2 c3 : Array Value} {u4 : Value} (hgd : o.guard = none) (s y : Operand)
    (ho : o.op = .call { callee := .builtin .append, args := #[s, y], argTypes := #[85, 85] }) (hs : a.eval s = .slice (some ⟨gL, 0, none⟩) 1 c) (hx : a.eval y = .slice (some ⟨g, 0, none⟩) 4 4)
    (hc : ∀ j, w.cell? ⟨g, j, none⟩ = #[Value.func (.func f0) #[] c0, Value.func (.func f1) #[] c1, Value.func (.func f2) #[] c2, Value.func (.func f3) #[] c3][j]?) (hr : VRow w gL 80 (.slice (some ⟨gL, 0, none⟩) 1 c) [u4])
    (h : ∀ g' c' w', VRow w' gL 80 (.slice (some ⟨g', 0, none⟩) 5 c') [u4, .func (.func f0) #[] c0, .func (.func f1) #[] c1, .func (.func f2) #[] c2, .func (.func f3) #[] c3] → gL ≤ g' → Off (fun k => k = gL) w w' → K (a.put o.dst (.slice (some ⟨g', 0, none⟩) 5 c')) w') :
    if Region.wanted o (yielded ops a.tmps) = true then Oper.wp Tryz.prog o a w K Q else E := by
  have hB : gL ≤ w.heap.size := Nat.le_of_lt (hr.lt (g := gL) rfl).2
  refine step_fns (B := gL) (news := [.func (.func f0) #[] c0, .func (.func f1) #[] c1, .func (.func f2) #[] c2, .func (.func f3) #[] c3]) (xs := [u4]) hgd s y ho hs hx hr rfl (fun j u hu => by rw [hc, ← hu]; simp) (fun u hu => ?_) (by omega) (by simp) hB (fun a' c' w' hv ho' => ?_)
  · simp only [List.mem_cons, List.not_mem_nil, or_false] at hu
    rcases hu with rfl | rfl | rfl | rfl <;> rfl
  · rcases hv.form with ⟨_, he⟩ | ⟨g', cap, he, hg', _⟩
    · cases he
    · simp only [Value.slice.injEq] at he
      obtain ⟨rfl, _, rfl⟩ := he
      exact h g' c' w' hv hg' (ho'.mono (fun k e => by simp [Value.ownBlock] at e; exact e.symm))
theorem off_cell {P : Nat → Prop} {w w' : World} {b o : Nat} {v : Value} (h : Off P w w') (hc : w.cell? ⟨b, o, none⟩ = some v) (hn : ¬ P b) : w'.cell? ⟨b, o, none⟩ = some v := (h.cell (p := ⟨b, o, none⟩) (cell_lt hc) hn).trans hc
theorem one_cell (z : World) (u0 : Value) (T : TypeId) (j : Nat) : (z.alloc (.cells #[u0] T)).cell? ⟨z.heap.size, j, none⟩ = #[u0][j]? := World.cell?_alloc_new _ _ _ _
section
variable {x : World} {B K L : Nat} {v0 v1 : Value} {σ : Sg} {gn ar rc wt by_ : Int} {po : Option Addr} {m k : Nat} {bs : List Int} {G na nb : Int}
end
end Go.Proofs.YthnpckmgnompiaaGreatDoor

/-
  Bytes held against bytes; the log's headOf, recordOf.
-/
namespace Go.Proofs.YthnpckmgnompiaaGreatDoor
open Go.RowKit Go.BigFrame

theorem strOf_data (xs : List Int) : (strOf xs).data = (xs.map (fun n => UInt8.ofNat n.toNat)).toArray := by
  have h : ∀ (xs : List Int) (r : ByteArray), (xs.foldl (fun r n => r.push (UInt8.ofNat n.toNat)) r).data = r.data ++ (xs.map (fun n => UInt8.ofNat n.toNat)).toArray := by
    intro xs
    induction xs with
    | nil => intro r; simp
    | cons x xs ih => intro r; rw [List.foldl_cons, ih]; simp [ByteArray.push]
  unfold strOf
  rw [h]
  simp
/-- Bytes. -/
def Rng (xs : List Int) : Prop := ∀ z ∈ xs, 0 ≤ z ∧ z ≤ 255
theorem map_u8_inj {xs ys : List Int} (hx : Rng xs) (hy : Rng ys) (h : xs.map (fun n => UInt8.ofNat n.toNat) = ys.map (fun n => UInt8.ofNat n.toNat)) : xs = ys := by
  induction xs generalizing ys with
  | nil =>
    cases ys with
    | nil => rfl
    | cons y ys => simp at h
  | cons x xs ih =>
    cases ys with
    | nil => simp at h
    | cons y ys =>
      rw [List.map_cons, List.map_cons, List.cons.injEq] at h
      have h1 := hx x (by simp)
      have h2 := hy y (by simp)
      have e : x = y := by
        have := congrArg UInt8.toNat h.1
        simp only [UInt8.toNat_ofNat'] at this
        omega
      rw [e, ih (fun z hz => hx z (List.mem_cons_of_mem _ hz)) (fun z hz => hy z (List.mem_cons_of_mem _ hz)) h.2]
set_option maxHeartbeats 1000000 in
theorem equal_any {ao bo : Option Addr} {an ac bn bc : Nat} {xs ys : List Int} (w : World) (ha : Byts w ao an xs) (hb : Byts w bo bn ys) (hx : Rng xs) (hy : Rng ys) :
    Calls Tryz.prog 96 #[.slice ao an ac, .slice bo bn bc] w fun e w' => e = .returned (.bool (decide (xs = ys))) ∧ w' = w := by
  have r1 := fun c => run_conv_bytes ha c
  have r2 := fun c => run_conv_bytes hb c
  have hd : decide (xs = ys) = ((strOf xs).toList == (strOf ys).toList) := by
    by_cases h : xs = ys
    · subst h; simp
    · have h' : ¬ (strOf xs).toList = (strOf ys).toList := fun e => h (map_u8_inj hx hy (by
        rw [ByteArray.toList_eq, ByteArray.toList_eq, strOf_data, strOf_data] at e
        simpa using e))
      rw [decide_eq_false h]
      exact (beq_eq_false_iff_ne.2 h').symm
  rw [hd]
  clear ha hb hx hy hd
  go_enter Tryz.func96, Tryz.ntmps96
  go_wp2_with fail
  go_ret
  exact ⟨rfl, rfl⟩
theorem Byts.shift {w : World} {b o m : Nat} {bs : List Int} (h : Byts w (some ⟨b, o, none⟩) m bs) (p n : Nat) (hp : p + n ≤ m) : Byts w (some ⟨b, o + p, none⟩) n ((bs.drop p).take n) := by
  have hl := h.len
  refine ⟨by rw [List.length_take, List.length_drop]; omega, fun j hj => ?_⟩
  obtain ⟨b', o', e, hb, hc⟩ := h.cell (p + j) (by omega)
  simp only [Option.some.injEq, Addr.mk.injEq] at e
  obtain ⟨rfl, rfl, _⟩ := e
  refine ⟨b, o + p, rfl, hb, ?_⟩
  rw [Nat.add_assoc, hc]
  simp [List.getD_eq_getElem?_getD, hj]
/-- The generation of the whole head with which bytes begin. -/
def hdS (bs : List Int) : Option Nat :=
  if bs.length < 17 then none else
  if valN ((bs.drop 4).take 8) < 1 ∨ 4611686018427387904 < valN ((bs.drop 4).take 8) ∨ bs.take 17 ≠ headB (valN ((bs.drop 4).take 8)) then none else some (valN ((bs.drop 4).take 8))
/-- A head is of bytes. -/
def HdR : Prop := ∀ x : Int, 0 ≤ x → x ≤ 4611686018427387904 → Rng (headB x)
theorem rng_app {xs ys : List Int} (h : Rng xs) (g : Rng ys) : Rng (xs ++ ys) := fun z hz => (List.mem_append.1 hz).elim (h z) (g z)
theorem rng_be4 (x : Int) : Rng (be4 x) := by
  intro z hz
  simp only [be4, List.mem_cons, List.not_mem_nil, or_false] at hz
  rcases hz with rfl | rfl | rfl | rfl <;> omega
theorem rng_be8 {x : Int} (h0 : 0 ≤ x) (h1 : x ≤ 18446744073709551615) : Rng (be8 x) := by
  intro z hz
  simp only [be8, List.mem_cons, List.not_mem_nil, or_false] at hz
  rcases hz with rfl | rfl | rfl | rfl | rfl | rfl | rfl | rfl <;> omega
theorem rng_one {c : Int} (h0 : 0 ≤ c) (h1 : c ≤ 255) : Rng [c] := by
  intro z hz
  simp only [List.mem_cons, List.not_mem_nil, or_false] at hz
  omega
theorem hdR : HdR := fun x h0 h1 => by
  unfold headB head12
  refine rng_app (rng_app ?_ (rng_be8 h0 (by omega))) (rng_app (rng_be4 _) (rng_one (by omega) (by omega)))
  intro z hz
  simp only [List.mem_cons, List.not_mem_nil, or_false] at hz
  omega
theorem rng_rec {bs : List Int} (h : Rng bs) : Rng (recB bs) := by
  unfold recB
  exact rng_app (rng_be4 _) (rng_app (rng_be4 _) (rng_app (rng_be4 _) (rng_app h (rng_one (by omega) (by omega)))))
theorem Rng.take {xs : List Int} (h : Rng xs) (n : Nat) : Rng (xs.take n) := fun z hz => h z (List.mem_of_mem_take hz)
theorem Rng.drop {xs : List Int} (h : Rng xs) (n : Nat) : Rng (xs.drop n) := fun z hz => h z (List.mem_of_mem_drop hz)
section
variable {w : World} {po : Option Addr} {m c : Nat} {bs : List Int}
set_option maxRecDepth 100000 in
set_option maxHeartbeats 4000000 in
theorem headOf_any (hb : Byts w po m bs) (hr : Rng bs) (hmc : m ≤ c) (hcm : c ≤ maxLen) (hH : Halves w) (hR : HdR) :
    Calls Tryz.prog 93 #[.slice po m c] w fun e w' => e = .returned (.tuple #[.int .u64 ((hdS bs).getD 0 : Nat), .bool (hdS bs).isSome]) ∧ Below w.heap.size w w' := by
  have hl := hb.len
  unfold maxLen at hcm
  by_cases h17 : m < 17
  · have e : hdS bs = none := by unfold hdS; rw [if_pos (by omega)]
    have h1 : (m : Int) < 17 := by omega
    rw [e]
    clear hb hr hH hR
    go_enter Tryz.func93, Tryz.ntmps93
    go_wp2_with fail
    go_ret2
    exact ⟨rfl, Below.refl _ _⟩
  · obtain ⟨b, o, rfl⟩ : ∃ b o, po = some ⟨b, o, none⟩ := by obtain ⟨b, o, e, _⟩ := hb.cell 0 (by omega); exact ⟨b, o, e⟩
    have h1 : ¬ (m : Int) < 17 := by omega
    have h2 : (17 : Int) ≤ c := by omega
    have h3 : (12 : Int) ≤ c := by omega
    obtain ⟨g, hg⟩ : ∃ g, valN ((bs.drop 4).take 8) = g := ⟨_, rfl⟩
    have HV : Hid (∀ c, Calls Tryz.prog 95 #[.slice (some ⟨b, o + 4, none⟩) 8 c] w fun e w' => e = .returned (.int .u64 g) ∧ w' = w) := fun c => by
      have := value_any (c := c) w (hb.shift 4 8 (by omega)) (by omega) ((hr.drop 4).take 8)
      rw [hg] at this
      exact this
    go_enter Tryz.func93, Tryz.ntmps93
    go_wp2_with fail
    refine (HV.out _).mono ?_
    rintro e w1 ⟨rfl, hw1⟩
    rw [hw1]
    clear hw1 HV
    have e0 : hdS bs = if g < 1 ∨ 4611686018427387904 < g ∨ bs.take 17 ≠ headB g then none else some g := by unfold hdS; rw [if_neg (by omega), hg]
    by_cases g1 : g < 1
    · have E1 : Hid (hdS bs = none) := by unfold Hid; rw [e0, if_pos (Or.inl g1)]
      have d1 : decide ((g : Int) < 1) = true := by simp; omega
      clear hb hr hH hR e0 hg
      go_wp2_with fail
      go_quiet (fail)
      go_wp2_with fail
      go_ret2
      rw [E1.out]
      exact ⟨rfl, ((Off.refl (fun _ => False) w).drewN _).below (Nat.le_refl _) (fun _ g => g.elim)⟩
    · have d1 : decide ((g : Int) < 1) = false := by simp; omega
      by_cases g2 : 4611686018427387904 < g
      · have E1 : Hid (hdS bs = none) := by unfold Hid; rw [e0, if_pos (Or.inr (Or.inl g2))]
        have d2 : decide ((4611686018427387904 : Int) < g) = true := by simp; omega
        clear hb hr hH hR e0 hg
        go_wp2_with fail
        go_quiet (fail)
        go_wp2_with fail
        go_ret2
        rw [E1.out]
        exact ⟨rfl, ((Off.refl (fun _ => False) w).drewN _).below (Nat.le_refl _) (fun _ g => g.elim)⟩
      · have d2 : decide ((4611686018427387904 : Int) < g) = false := by simp; omega
        have HE : Hid (∀ x, Below w.heap.size w x → Calls Tryz.prog 56 #[.int .u64 g] x fun e x' => ∃ a n c, e = .returned (.slice a n c) ∧ Byts x' a n (headB g) ∧ Below w.heap.size w x') := fun x hx =>
          (head_any x ⟨by omega, by omega⟩ (hH.under hx)).mono fun e x' ⟨a, n, c, he, hrow, hbl⟩ => ⟨a, n, c, he, hrow.byts'.2.1, hx.trans (hbl.mono hx.size)⟩
        have HQ : Hid (∀ x, Below w.heap.size w x → ∀ a n k c, Byts x a n (headB g) → Calls Tryz.prog 96 #[.slice (some ⟨b, o, none⟩) 17 c, .slice a n k] x fun e x' => e = .returned (.bool (decide (bs.take 17 = headB g))) ∧ x' = x) := fun x hx a n k c hbx => equal_any x ((hb.below hx).take (by omega)) hbx (hr.take 17) (hR g (by omega) (by omega))
        obtain ⟨q, hq⟩ : ∃ q, decide (bs.take 17 = headB g) = q := ⟨_, rfl⟩
        have E1 : Hid (hdS bs = if q = true then some g else none) := by
          unfold Hid
          rw [e0, ← hq]
          by_cases h : bs.take 17 = headB g
          · rw [if_neg (by simp [h]; omega), if_pos (by simp [h])]
          · rw [if_pos (Or.inr (Or.inr h)), if_neg (by simp [h])]
        rw [hq] at HQ
        clear hb hr hH hR e0 hg hq
        go_wp2_with fail
        go_region_held3 (fun _ => True) (trivial) (first | (go_at_call 56; refine (HE.out _ ?_).mono ?_; (first | exact Below.refl _ _ | exact Below.drew (Below.refl _ _)); rintro e x1 ⟨a1, n1, c1, rfl, hb1, hx1⟩) | (go_at_call 96; refine (HQ.out _ hx1 _ _ _ _ hb1).mono ?_; rintro e x2 ⟨rfl, rfl⟩))
        all_goals
          cases q with
          | true =>
            go_wp2_with fail
            go_ret2
            rw [E1.out]
            exact ⟨rfl, hx1⟩
          | false =>
            go_wp2_with fail
            go_ret2
            rw [E1.out]
            exact ⟨rfl, hx1⟩
end
end Go.Proofs.YthnpckmgnompiaaGreatDoor
