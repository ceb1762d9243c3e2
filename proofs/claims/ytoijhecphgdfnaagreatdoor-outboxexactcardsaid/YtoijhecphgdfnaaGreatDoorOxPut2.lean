import Derived.Test.YtoijhecphgdfnaaGreatDoorDcPa
import Derived.Test.YtoijhecphgdfnaaGreatDoorOxBase
import Derived.Deep.RegionLaw
/-
  The box's list by key: fault, keyOf, place, find, count.
-/
namespace Go.Proofs.YtoijhecphgdfnaaGreatDoor
open Go.RowKit

theorem blk_lt {w : World} {W : Nat} {o : Obj} (h : w.heap[W]? = some o) : W < w.heap.size := by
  rcases Nat.lt_or_ge W w.heap.size with g | g
  · exact g
  · rw [Array.getElem?_eq_none g] at h; cases h
theorem hcell {w : World} {b : Nat} {cs : Array Value} {t : TypeId} (h : w.heap[b]? = some (.cells cs t (0, 0))) (o : Nat) : w.cell? ⟨b, o, none⟩ = cs[o]? := by simp [World.cell?, h]
theorem hfroz {w : World} {b : Nat} {cs : Array Value} {t : TypeId} (h : w.heap[b]? = some (.cells cs t (0, 0))) (o : Nat) : w.frozen? ⟨b, o, none⟩ = false := by simp [World.frozen?, h]
/-- The cells of a fault of layer "outbox". -/
def OFault (w : World) (b : Nat) (a code : Int) : Prop :=
  w.cell? ⟨b, 0, none⟩ = some (.string ⟨#[111, 117, 116, 98, 111, 120]⟩) ∧ w.cell? ⟨b, 1, none⟩ = some (.int .i64 a) ∧ w.cell? ⟨b, 2, none⟩ = some (.int .i64 code) ∧ w.cell? ⟨b, 3, none⟩ = some .nilIface
theorem OFault.keep {w w' : World} {b : Nat} {a c : Int} (h : OFault w b a c) (hk : ∀ o, w'.cell? ⟨b, o, none⟩ = w.cell? ⟨b, o, none⟩) : OFault w' b a c :=
  ⟨by rw [hk]; exact h.1, by rw [hk]; exact h.2.1, by rw [hk]; exact h.2.2.1, by rw [hk]; exact h.2.2.2⟩
theorem OFault.below {w w' : World} {b : Nat} {a c : Int} (h : OFault w b a c) (hb : Below w.heap.size w w') : OFault w' b a c := by
  have hl : b < w.heap.size := cell_lt h.1
  exact h.keep fun o => hb.cell (p := ⟨b, o, none⟩) hl
/-- An error that is just that: none where the number is 0; its block is new (from B on). -/
def OEv (w : World) (B : Nat) (v : Value) (a code : Int) : Prop := (v = .nilIface ∧ code = 0) ∨ (code ≠ 0 ∧ ∃ b, v = .iface 122 (.pointer (some ⟨b, 0, none⟩)) ∧ B ≤ b ∧ OFault w b a code)
theorem OEv.keep {w w' : World} {B : Nat} {v : Value} {a c : Int} (h : OEv w B v a c) (hk : ∀ b o, b < w.heap.size → B ≤ b → w'.cell? ⟨b, o, none⟩ = w.cell? ⟨b, o, none⟩) : OEv w' B v a c := by
  rcases h with h | ⟨h0, b, h1, h2, h3⟩
  · exact Or.inl h
  · exact Or.inr ⟨h0, b, h1, h2, h3.keep fun o => hk b o (cell_lt h3.1) h2⟩
theorem OEv.below {w w' : World} {B : Nat} {v : Value} {a c : Int} (h : OEv w B v a c) (hb : Below w.heap.size w w') : OEv w' B v a c := h.keep fun b o hl _ => hb.cell (p := ⟨b, o, none⟩) hl
theorem OEv.mono {w : World} {B C : Nat} {v : Value} {a c : Int} (h : OEv w B v a c) (hB : C ≤ B) : OEv w C v a c := by
  rcases h with h | ⟨h0, b, h1, h2, h3⟩
  · exact Or.inl h
  · exact Or.inr ⟨h0, b, h1, Nat.le_trans hB h2, h3⟩
set_option maxHeartbeats 400000 in
theorem fault_any (a code : Int) (w : World) : Calls Tryz.prog 42 #[.int .i64 a, .int .i64 code] w fun e w' => e = .returned (.iface 122 (.pointer (some ⟨w.heap.size, 0, none⟩))) ∧ OFault w' w.heap.size a code ∧ Below w.heap.size w w' := by
  go_enter Tryz.func42, Tryz.ntmps42
  go_wp2
  go_ret
  exact ⟨rfl, ⟨by simp, by simp, by simp, by simp⟩, (Below.refl _ _).alloc (Nat.le_refl _) _⟩
set_option maxHeartbeats 400000 in
theorem key_any (m : Msg) (w : World) : Calls Tryz.prog 43 #[.agg #[.string m.ct, .slice m.tp m.tn m.tc, .bool m.e, .int .i64 m.a, .int .i64 m.p, .int .i64 m.nu, .bool m.nt, .int .i64 m.st, .int .i64 m.lf, .bool m.un]] w fun e w' => e = .returned (.string m.ct) ∧ Below w.heap.size w w' := by
  go_enter Tryz.func43, Tryz.ntmps43
  go_wp2
  go_ret
  exact ⟨rfl, (Below.refl _ _).alloc (Nat.le_refl _) _⟩
set_option maxRecDepth 100000 in
set_option maxHeartbeats 1000000 in
theorem same_any {kb b1 b2 : Nat} {s : ByteArray} (m : Msg) (w : World) (h1 : w.cell? ⟨b1, 0, none⟩ = some (.pointer (some ⟨kb, 0, none⟩))) (h2 : w.cell? ⟨b2, 0, none⟩ = some (.string s)) (h3 : w.cell? ⟨kb, 0, none⟩ = some (.func (.func 43) #[] #[])) :
    Calls Tryz.prog 103 #[.agg #[.string m.ct, .slice m.tp m.tn m.tc, .bool m.e, .int .i64 m.a, .int .i64 m.p, .int .i64 m.nu, .bool m.nt, .int .i64 m.st, .int .i64 m.lf, .bool m.un], .pointer (some ⟨b1, 0, none⟩), .pointer (some ⟨b2, 0, none⟩)] w fun e w' => e = .returned (.bool (m.ct.toList == s.toList)) ∧ Below w.heap.size w w' := by
  have bx := Box.new w #[.string m.ct, .slice m.tp m.tn m.tc, .bool m.e, .int .i64 m.a, .int .i64 m.p, .int .i64 m.nu, .bool m.nt, .int .i64 m.st, .int .i64 m.lf, .bool m.un] 91
  have bv : Below w.heap.size w (w.alloc (.cells #[.string m.ct, .slice m.tp m.tn m.tc, .bool m.e, .int .i64 m.a, .int .i64 m.p, .int .i64 m.nu, .bool m.nt, .int .i64 m.st, .int .i64 m.lf, .bool m.un] 91)) := (Below.refl _ _).alloc (Nat.le_refl _) _
  go_enter Tryz.func103, Tryz.ntmps103
  go_wp2_with fail
  obtain ⟨V, hV⟩ : ∃ V, w.alloc (.cells #[.string m.ct, .slice m.tp m.tn m.tc, .bool m.e, .int .i64 m.a, .int .i64 m.p, .int .i64 m.nu, .bool m.nt, .int .i64 m.st, .int .i64 m.lf, .bool m.un] 91) = V := ⟨_, rfl⟩
  rw [hV] at bx bv ⊢
  clear hV
  have l0 := sub_box bx
  have hlt : ∀ (x : Sub V) (b o : Nat) (v : Value), w.cell? ⟨b, o, none⟩ = some v → x.1.cell? ⟨b, o, none⟩ = some v := fun x b o v h => by
    rw [x.2.cell (p := ⟨b, o, none⟩) (Nat.lt_of_lt_of_le (cell_lt h) bv.size), bv.cell (p := ⟨b, o, none⟩) (cell_lt h)]; exact h
  have l1 : ∀ x : Sub V, x.1.cell? ⟨b1, 0, none⟩ = some (.pointer (some ⟨kb, 0, none⟩)) := fun x => hlt x _ _ _ h1
  have l2 : ∀ x : Sub V, x.1.cell? ⟨b2, 0, none⟩ = some (.string s) := fun x => hlt x _ _ _ h2
  have l3 : ∀ x : Sub V, x.1.cell? ⟨kb, 0, none⟩ = some (.func (.func 43) #[] #[]) := fun x => hlt x _ _ _ h3
  have c1 := sub_of (V := V) (key_any m)
  have HV : Hid (Below w.heap.size w V) := bv
  haveI hne : Nonempty (Sub V) := ⟨⟨V, Below.refl _ _⟩⟩
  clear bx bv hlt h1 h2 h3
  refine wp_region_class (V := V) (Below.refl _ _) (by kernel_rfl) (by kernel_rfl) ?_
  repeat (go_big_quiet_step ((exact c1 _)))
  refine wpQuiet_nil ?_
  rintro wc ⟨xwc, rfl⟩
  have HB : Hid (Below w.heap.size w xwc.1) := below_then HV.out xwc.2
  clear l0 l1 l2 l3 c1 hne
  go_wp2_with fail
  go_ret
  exact ⟨rfl, HB.out⟩
end Go.Proofs.YtoijhecphgdfnaaGreatDoor

/-
  place and find of the box's list.
-/
namespace Go.Proofs.YtoijhecphgdfnaaGreatDoor
open Go.RowKit

/-- The list by key, in memory. -/
def Kd (w : World) (kb : Nat) (v : Value) (ms : List Msg) : Prop :=
  w.heap[kb]? = some (.cells #[.func (.func 43) #[] #[], v] 111 (0, 0)) ∧ ERow w 0 91 10 encM v ms ∧ ms.length ≤ 32
theorem Kd.below {w w' : World} {kb : Nat} {v : Value} {ms : List Msg} (h : Kd w kb v ms) (hb : Below w.heap.size w w') : Kd w' kb v ms := ⟨(hb.block kb (blk_lt h.1)).trans h.1, h.2.1.below hb, h.2.2⟩
/-- The ten cells of a message. -/
structure Cells (w : World) (g o : Nat) (m : Msg) : Prop where
  c0 : w.cell? ⟨g, o, none⟩ = some (.string m.ct)
  c1 : w.cell? ⟨g, o + 1, none⟩ = some (.slice m.tp m.tn m.tc)
  c2 : w.cell? ⟨g, o + 2, none⟩ = some (.bool m.e)
  c3 : w.cell? ⟨g, o + 3, none⟩ = some (.int .i64 m.a)
  c4 : w.cell? ⟨g, o + 4, none⟩ = some (.int .i64 m.p)
  c5 : w.cell? ⟨g, o + 5, none⟩ = some (.int .i64 m.nu)
  c6 : w.cell? ⟨g, o + 6, none⟩ = some (.bool m.nt)
  c7 : w.cell? ⟨g, o + 7, none⟩ = some (.int .i64 m.st)
  c8 : w.cell? ⟨g, o + 8, none⟩ = some (.int .i64 m.lf)
  c9 : w.cell? ⟨g, o + 9, none⟩ = some (.bool m.un)
theorem Cells.of {w : World} {g o : Nat} {m : Msg} (h : ∀ q, q < 10 → w.cell? ⟨g, o + q, none⟩ = (encM m)[q]?) : Cells w g o m :=
  ⟨h 0 (by decide), h 1 (by decide), h 2 (by decide), h 3 (by decide), h 4 (by decide), h 5 (by decide), h 6 (by decide), h 7 (by decide), h 8 (by decide), h 9 (by decide)⟩
theorem Cells.keep {w w' : World} {g o : Nat} {m : Msg} (h : Cells w g o m) (hk : ∀ q, w'.cell? ⟨g, q, none⟩ = w.cell? ⟨g, q, none⟩) : Cells w' g o m :=
  ⟨by rw [hk]; exact h.c0, by rw [hk]; exact h.c1, by rw [hk]; exact h.c2, by rw [hk]; exact h.c3, by rw [hk]; exact h.c4, by rw [hk]; exact h.c5, by rw [hk]; exact h.c6, by rw [hk]; exact h.c7, by rw [hk]; exact h.c8, by rw [hk]; exact h.c9⟩
theorem Cells.below {w w' : World} {g o : Nat} {m : Msg} (h : Cells w g o m) (hb : Below w.heap.size w w') : Cells w' g o m := by
  have hl : g < w.heap.size := cell_lt h.c0
  exact h.keep fun q => hb.cell (p := ⟨g, q, none⟩) hl
theorem erow_cells {w : World} {B : Nat} {a : Option Addr} {n c : Nat} {ms : List Msg} (h : ERow w B 91 10 encM (.slice a n c) ms) {j : Nat} {m : Msg} (hm : ms[j]? = some m) : ∃ g, a = some ⟨g, 0, none⟩ ∧ g < w.heap.size ∧ Cells w g (j * 10) m := by
  obtain ⟨g, h1, h2, h3⟩ := h.at_ encM_len hm
  exact ⟨g, h1, h2, Cells.of h3⟩
set_option maxRecDepth 100000 in
set_option maxHeartbeats 2000000 in
theorem index_any {w : World} {kb b1 b2 : Nat} {s : ByteArray} {a : Option Addr} {n c : Nat} {ms : List Msg} (hr : ERow w 0 91 10 encM (.slice a n c) ms) (hl : ms.length ≤ 32) (h1 : w.cell? ⟨b1, 0, none⟩ = some (.pointer (some ⟨kb, 0, none⟩))) (h2 : w.cell? ⟨b2, 0, none⟩ = some (.string s)) (h3 : w.cell? ⟨kb, 0, none⟩ = some (.func (.func 43) #[] #[])) :
    Calls Tryz.prog 102 #[.slice a n c, .func (.func 103) #[] #[.pointer (some ⟨b1, 0, none⟩), .pointer (some ⟨b2, 0, none⟩)]] w fun e w' => e = .returned (.int .i64 (fiI s ms)) ∧ Below w.heap.size w w' := by
  have HR : Hid (ERow w 0 91 10 encM (.slice a n c) ms) := hr
  have HN : Hid (n = ms.length) := hr.len
  have HK : Hid (w.cell? ⟨b1, 0, none⟩ = some (.pointer (some ⟨kb, 0, none⟩)) ∧ w.cell? ⟨b2, 0, none⟩ = some (.string s) ∧ w.cell? ⟨kb, 0, none⟩ = some (.func (.func 43) #[] #[])) := ⟨h1, h2, h3⟩
  have hn : n ≤ 32 := by rw [hr.len]; exact hl
  obtain ⟨J, hJ⟩ : ∃ J : Nat, J = (match fi s ms with | some i => i | none => n) := ⟨_, rfl⟩
  have HJ : Hid (∀ j m', j < J → ms[j]? = some m' → (m'.ct.toList == s.toList) = false) := fun j m' hj hm => by
    rw [hJ] at hj
    cases hf : fi s ms with
    | some i => rw [hf] at hj; obtain ⟨_, _, _, hx⟩ := fi_some hf; exact hx j m' hj hm
    | none => exact fi_none hf j m' hm
  have HJ2 : Hid (J < n → fiI s ms = J ∧ ∀ m', ms[J]? = some m' → (m'.ct.toList == s.toList) = true) := fun hlt => by
    cases hf : fi s ms with
    | some i =>
      rw [hf] at hJ
      simp only at hJ
      subst hJ
      obtain ⟨m, hm, he, _⟩ := fi_some hf
      exact ⟨by unfold fiI; rw [hf], fun m' hm' => by rw [hm] at hm'; cases hm'; exact he⟩
    | none => rw [hf] at hJ; simp only at hJ; omega
  have HJ3 : Hid (¬ J < n → fiI s ms = -1) := fun hlt => by
    cases hf : fi s ms with
    | some i =>
      rw [hf] at hJ
      simp only at hJ
      obtain ⟨m, hm, _⟩ := fi_some hf
      have := (List.getElem?_eq_some_iff.1 hm).1
      have := HN.out
      omega
    | none => unfold fiI; rw [hf]
  have hJn : J ≤ n := by
    rw [hJ]
    cases hf : fi s ms with
    | some i => obtain ⟨m, hm, _⟩ := fi_some hf; have := (List.getElem?_eq_some_iff.1 hm).1; have := HN.out; simp only; omega
    | none => exact Nat.le_refl _
  clear hr hl h1 h2 h3 hJ
  go_enter Tryz.func102, Tryz.ntmps102
  go_wp2_with fail
  go_loopw [8] (fun t8 wx => ∃ i : Nat, i ≤ J ∧ t8 = .int .i64 i ∧ Hid (Below w.heap.size w wx)) (fun t8 _ => n - (intOf t8).toNat)
  case atStart => exact ⟨0, Nat.zero_le _, rfl, Below.refl _ _⟩
  case round =>
    obtain ⟨i, hi, rfl, HB⟩ := hrel
    by_cases hlt : i < n
    · have hlt1 : (i : Int) < n := by omega
      obtain ⟨m, hm⟩ : ∃ m, ms[i]? = some m := ⟨_, List.getElem?_eq_getElem (by have := HN.out; omega)⟩
      obtain ⟨g, rfl, hg, hc⟩ := erow_cells (HR.out.below HB.out) hm
      obtain ⟨c0, c1, c2, c3, c4, c5, c6, c7, c8, c9⟩ := hc
      have HM : Hid (ms[i]? = some m) := hm
      have k1 : wr.cell? ⟨b1, 0, none⟩ = some (.pointer (some ⟨kb, 0, none⟩)) := by rw [HB.out.cell (p := ⟨b1, 0, none⟩) (cell_lt HK.out.1)]; exact HK.out.1
      have k2 : wr.cell? ⟨b2, 0, none⟩ = some (.string s) := by rw [HB.out.cell (p := ⟨b2, 0, none⟩) (cell_lt HK.out.2.1)]; exact HK.out.2.1
      have k3 : wr.cell? ⟨kb, 0, none⟩ = some (.func (.func 43) #[] #[]) := by rw [HB.out.cell (p := ⟨kb, 0, none⟩) (cell_lt HK.out.2.2)]; exact HK.out.2.2
      have hs := same_any m wr k1 k2 k3
      clear hm k1 k2 k3
      by_cases hJi : i < J
      · rw [HJ.out i m hJi HM.out] at hs
        go_wp2_with fail
        refine hs.mono ?_
        rintro _ w1 ⟨rfl, hb1⟩
        have HB1 : Hid (Below w.heap.size w w1) := below_then HB.out hb1
        clear hb1 hs c0 c1 c2 c3 c4 c5 c6 c7 c8 c9
        go_wp2_with fail
        go_roundw
        case rel => exact ⟨i + 1, hJi, by go_num, HB1⟩
        case measure => simp [intOf]; omega
      · have hiJ : i = J := by omega
        subst hiJ
        rw [(HJ2.out hlt).2 m HM.out] at hs
        go_wp2_with fail
        refine hs.mono ?_
        rintro _ w1 ⟨rfl, hb1⟩
        have HB1 : Hid (Below w.heap.size w w1) := below_then HB.out hb1
        clear hb1 hs c0 c1 c2 c3 c4 c5 c6 c7 c8 c9
        go_wp2_with fail
        go_ret
        exact ⟨ret_int (HJ2.out hlt).1.symm, HB1.out⟩
    · have hlt1 : ¬ (i : Int) < n := by omega
      go_wp2_with fail
      go_ret
      exact ⟨ret_int (HJ3.out (by omega)).symm, HB.out⟩
set_option maxRecDepth 100000 in
set_option maxHeartbeats 1000000 in
theorem place_any {w : World} {kb : Nat} {v : Value} {ms : List Msg} (h : Kd w kb v ms) (s : ByteArray) : Calls Tryz.prog 82 #[.pointer (some ⟨kb, 0, none⟩), .string s] w fun e w' => e = .returned (.int .i64 (fiI s ms)) ∧ Below w.heap.size w w' := by
  have hb : Below w.heap.size w ((w.alloc (.cells #[.pointer (some ⟨kb, 0, none⟩)] 108)).alloc (.cells #[.string s] 9)) := ((Below.refl _ _).alloc (Nat.le_refl _) _).alloc (by simp) _
  obtain ⟨a, c, rfl, _⟩ := h.2.1.isSlice
  have hi := index_any (b1 := w.heap.size) (b2 := w.heap.size + 1) (kb := kb) (s := s) (h.below hb).2.1 h.2.2 (by simp) (by simp) (hcell (h.below hb).1 0)
  have k0 := hcell h.1 1
  have hkb := blk_lt h.1
  have HB : Hid (Below w.heap.size w ((w.alloc (.cells #[.pointer (some ⟨kb, 0, none⟩)] 108)).alloc (.cells #[.string s] 9))) := hb
  clear hb h
  go_enter Tryz.func82, Tryz.ntmps82
  go_wp2_with fail
  refine hi.mono ?_
  rintro _ w1 ⟨rfl, hb1⟩
  have HB1 : Hid (Below w.heap.size w w1) := below_then HB.out hb1
  clear hb1 hi k0
  go_wp2_with fail
  go_ret
  exact ⟨rfl, HB1.out⟩
set_option maxHeartbeats 400000 in
theorem count_any {w : World} {kb : Nat} {v : Value} {ms : List Msg} (h : Kd w kb v ms) : Calls Tryz.prog 53 #[.pointer (some ⟨kb, 0, none⟩)] w fun e w' => e = .returned (.int .i64 (ms.length : Int)) ∧ w' = w := by
  obtain ⟨a, c, rfl, _⟩ := h.2.1.isSlice
  have k0 := hcell h.1 1
  obtain ⟨n, hn⟩ : ∃ n, ms.length = n := ⟨_, rfl⟩
  rw [hn] at k0 ⊢
  clear h hn
  go_enter Tryz.func53, Tryz.ntmps53
  go_wp2
  go_ret
  exact ⟨rfl, rfl⟩
end Go.Proofs.YtoijhecphgdfnaaGreatDoor

/-
  put of the box's list.
-/
namespace Go.Proofs.YtoijhecphgdfnaaGreatDoor
open Go.RowKit

section
variable {P : Program} {w w' : World} {ops : Array Oper} {o : Oper} {a : Act} {K : Act → World → Prop} {Q : Exit → Act → World → Prop} {E : Prop}
theorem step_app_run (hgd : o.guard = none) (s x : Operand) (t : TypeId) (ho : o.op = Op.call { callee := Callee.builtin Builtin.append, args := #[s, x], argTypes := #[t, t] }) {sv xv r : Value} (hs : a.eval s = sv) (hx : a.eval x = xv) (hr : (Builtin.append_ #[t, t] o.type #[sv, xv]).run P w = .ok r w') (h : K (a.put o.dst r) w') :
    if Region.wanted o (yielded ops a.tmps) = true then Oper.wp P o a w K Q else E := by
  have hw : Region.wanted o (yielded ops a.tmps) = true := by simp [Region.wanted, hgd]
  rw [if_pos hw]
  unfold Oper.wp execOp
  simp only [ho, resolve, invoke, builtin, Sem.run_bind, Sem.run_pure, Result.andThen_ok, List.map_toArray, List.map_cons, List.map_nil, hs, hx, hr]
  exact h
end
def setAll (xs : List Value) (o : Nat) : List Value → List Value
  | [] => xs
  | v :: r => setAll (xs.set o v) (o + 1) r
theorem setAll_app : ∀ (vs ys xs : List Value) (o : Nat), setAll (ys ++ xs) (ys.length + o) vs = ys ++ setAll xs o vs
  | [], _, _, _ => rfl
  | v :: r, ys, xs, o => by
    rw [setAll, setAll, List.set_append_right _ _ (by omega), show ys.length + o - ys.length = o by omega, Nat.add_assoc]
    exact setAll_app r ys (xs.set o v) (o + 1)
theorem setAll_pre : ∀ (vs ys xs pre : List Value), ys.length = vs.length → setAll (pre ++ (ys ++ xs)) pre.length vs = pre ++ (vs ++ xs)
  | [], ys, xs, pre, h => by rw [List.eq_nil_of_length_eq_zero h]; rfl
  | v :: r, y :: ys, xs, pre, h => by
    rw [setAll, List.set_append_right _ _ (Nat.le_refl _), Nat.sub_self, List.cons_append, List.set_cons_zero]
    have := setAll_pre r ys xs (pre ++ [v]) (by simpa using h)
    simpa using this
theorem flat_set : ∀ (ms : List Msg) (i : Nat) (m : Msg), i < ms.length → setAll (ms.flatMap encM) (i * 10) (encM m) = (ms.set i m).flatMap encM
  | [], i, m, h => by simp at h
  | y :: r, 0, m, _ => by
    rw [List.flatMap_cons, List.set_cons_zero, List.flatMap_cons, Nat.zero_mul]
    have := setAll_pre (encM m) (encM y) (r.flatMap encM) [] rfl
    simpa using this
  | y :: r, i + 1, m, h => by
    rw [List.flatMap_cons, List.set_cons_succ, List.flatMap_cons, show (i + 1) * 10 = (encM y).length + i * 10 by rw [encM_len]; omega, setAll_app, flat_set r i m (by simpa using h)]
theorem own_setCells {B n cap g : Nat} {e : TypeId} {sz : Nat} : ∀ (vs : List Value) (o : Nat) (w : World) (xs : List Value), w.ownsRow B e sz (.slice (some ⟨g, 0, none⟩) n cap) n xs → (w.setCells g o vs).ownsRow B e sz (.slice (some ⟨g, 0, none⟩) n cap) n (setAll xs o vs)
  | [], _, _, _, h => h
  | v :: r, o, _, _, h => own_setCells r (o + 1) _ _ (World.ownsRow.stored h o v).1
theorem Off.setCells {P : Nat → Prop} {a : World} {g : Nat} (hp : P g) : ∀ (vs : List Value) (o : Nat) (b : World), Off P a b → Off P a (b.setCells g o vs)
  | [], _, _, h => h
  | v :: r, o, _, h => Off.setCells hp r (o + 1) _ (h.setCell (p := ⟨g, o, none⟩) hp v)
theorem erow_set {w : World} {B n cap g i : Nat} {ms : List Msg} (h : ERow w B 91 10 encM (.slice (some ⟨g, 0, none⟩) n cap) ms) (m : Msg) (hi : i < ms.length) : ERow (w.setCells g (i * 10) (encM m)) B 91 10 encM (.slice (some ⟨g, 0, none⟩) n cap) (ms.set i m) := by
  have hn : n = ms.length := h.len
  subst hn
  have := own_setCells (encM m) (i * 10) w _ h
  unfold ERow
  rw [← flat_set ms i m hi, List.length_set]
  exact this
theorem celS : Cel Tryz.prog 91 10 104 := cel_of (by kernel_rfl)
/-- What put and remove leave of the list. -/
def KdQ (w : World) (kb : Nat) (v : Value) (ms' : List Msg) (w' : World) : Prop :=
  ∃ v', Kd w' kb v' ms' ∧ Off (fun q => q = kb ∨ v.ownBlock = some q) w w' ∧ ∀ q, v'.ownBlock = some q → v.ownBlock = some q ∨ w.heap.size ≤ q
theorem Kd.ne {w : World} {kb : Nat} {v : Value} {ms : List Msg} (h : Kd w kb v ms) {g : Nat} (hg : v.ownBlock = some g) : g ≠ kb := fun e => by
  rcases h.2.1.2 with ⟨rfl, _⟩ | ⟨g', cap, cur, rfl, _, hb, _⟩
  · cases hg
  · simp only [Value.ownBlock, Option.some.injEq] at hg
    subst hg; subst e
    rw [h.1] at hb
    simp at hb
theorem KdQ.of_below {w w1 w' : World} {kb : Nat} {v : Value} {ms' : List Msg} (hb : Below w.heap.size w w1) (h : KdQ w1 kb v ms' w') : KdQ w kb v ms' w' := by
  obtain ⟨v', h1, h2, h3⟩ := h
  exact ⟨v', h1, (Off.of_below hb).trans h2, fun q e => (h3 q e).imp id fun g => Nat.le_trans hb.size g⟩
set_option maxRecDepth 100000 in
set_option maxHeartbeats 2000000 in
theorem put_at {w : World} {kb i : Nat} {v : Value} {ms : List Msg} (h : Kd w kb v ms) (m : Msg) (hf : fi m.ct ms = some i) : Calls Tryz.prog 58 #[.pointer (some ⟨kb, 0, none⟩), .agg #[.string m.ct, .slice m.tp m.tn m.tc, .bool m.e, .int .i64 m.a, .int .i64 m.p, .int .i64 m.nu, .bool m.nt, .int .i64 m.st, .int .i64 m.lf, .bool m.un]] w fun e w' => e = .returned (.tuple #[]) ∧ KdQ w kb v (putS m ms) w' := by
  have hput : putS m ms = ms.set i m := by unfold putS; rw [hf]
  have hfI : fiI m.ct ms = i := by unfold fiI; rw [hf]
  rw [hput]
  obtain ⟨m0, hm0, _⟩ := fi_some hf
  have hil := (List.getElem?_eq_some_iff.1 hm0).1
  obtain ⟨a, c, rfl, _⟩ := h.2.1.isSlice
  obtain ⟨g, rfl, hg, _⟩ := erow_cells h.2.1 hm0
  have hne := h.ne (g := g) rfl
  have bv : Below w.heap.size w (w.alloc (.cells #[.string m.ct, .slice m.tp m.tn m.tc, .bool m.e, .int .i64 m.a, .int .i64 m.p, .int .i64 m.nu, .bool m.nt, .int .i64 m.st, .int .i64 m.lf, .bool m.un] 91)) := (Below.refl _ _).alloc (Nat.le_refl _) _
  have bx := Box.new w #[.string m.ct, .slice m.tp m.tn m.tc, .bool m.e, .int .i64 m.a, .int .i64 m.p, .int .i64 m.nu, .bool m.nt, .int .i64 m.st, .int .i64 m.lf, .bool m.un] 91
  have hkb := blk_lt h.1
  obtain ⟨n, hn⟩ : ∃ n, ms.length = n := ⟨_, rfl⟩
  have HN : Hid (ms.length = n) := hn
  have hn32 : n ≤ 32 := by rw [← hn]; exact h.2.2
  rw [hn] at h hil ⊢
  have HK : Hid (Kd w kb (.slice (some ⟨g, 0, none⟩) n c) ms) := h
  clear h hput hf hm0 hn
  go_enter Tryz.func58, Tryz.ntmps58
  go_wp2_with fail
  obtain ⟨V, hV⟩ : ∃ V, w.alloc (.cells #[.string m.ct, .slice m.tp m.tn m.tc, .bool m.e, .int .i64 m.a, .int .i64 m.p, .int .i64 m.nu, .bool m.nt, .int .i64 m.st, .int .i64 m.lf, .bool m.un] 91) = V := ⟨_, rfl⟩
  rw [hV] at bx bv ⊢
  clear hV
  have HKV : Hid (Kd V kb (.slice (some ⟨g, 0, none⟩) n c) ms) := HK.out.below bv
  have l0 := sub_box bx
  have l1 : ∀ x : Sub V, x.1.cell? ⟨kb, 0, none⟩ = some (.func (.func 43) #[] #[]) := fun x => hcell (HKV.out.below x.2).1 0
  have c1 := sub_of (V := V) (key_any m)
  have c2 : ∀ x : Sub V, Calls Tryz.prog 82 #[.pointer (some ⟨kb, 0, none⟩), .string m.ct] x.1 fun r x' => r = .returned (.int .i64 (i : Int)) ∧ ∃ y : Sub V, x' = y.1 := fun x => (place_any (HKV.out.below x.2) m.ct).mono fun _ x' ⟨h1, h2⟩ => ⟨by rw [h1, hfI], ⟨x', below_then x.2 h2⟩, rfl⟩
  have HV : Hid (Below w.heap.size w V) := bv
  have HX : Hid (Box V w.heap.size #[.string m.ct, .slice m.tp m.tn m.tc, .bool m.e, .int .i64 m.a, .int .i64 m.p, .int .i64 m.nu, .bool m.nt, .int .i64 m.st, .int .i64 m.lf, .bool m.un]) := bx
  haveI hne' : Nonempty (Sub V) := ⟨⟨V, Below.refl _ _⟩⟩
  clear bx bv hfI
  refine wp_region_class (V := V) (Below.refl _ _) (by kernel_rfl) (by kernel_rfl) ?_
  repeat (go_big_quiet_step ((first | (go_at_call 82; exact c2 _) | exact c1 _)))
  refine wpQuiet_nil ?_
  rintro wc ⟨xwc, rfl⟩
  obtain ⟨W1, hW1⟩ : ∃ W, xwc.1 = W := ⟨_, rfl⟩
  have HB1 : Hid (Below w.heap.size w W1) := by have := below_then HV.out xwc.2; rw [hW1] at this; exact this
  have HK1 : Hid (Kd W1 kb (.slice (some ⟨g, 0, none⟩) n c) ms) := by have := HKV.out.below xwc.2; rw [hW1] at this; exact this
  have hx1 : Box W1 w.heap.size #[.string m.ct, .slice m.tp m.tn m.tc, .bool m.e, .int .i64 m.a, .int .i64 m.p, .int .i64 m.nu, .bool m.nt, .int .i64 m.st, .int .i64 m.lf, .bool m.un] := by have := HX.out.below xwc.2; rw [hW1] at this; exact this
  rw [hW1]
  clear l0 l1 c1 c2 hne' hW1 xwc HX HV HKV HK
  have k1 := hcell HK1.out.1 1
  have kx := hx1.cell
  have hlt1 : (i : Int) < n := by omega
  have hlt2 : ¬ (i : Int) < 0 := by omega
  obtain ⟨m1, hm1⟩ : ∃ m1, ms[i]? = some m1 := ⟨_, List.getElem?_eq_getElem (by have := HN.out; omega)⟩
  obtain ⟨g', eg, _, hc⟩ := erow_cells HK1.out.2.1 hm1
  obtain rfl : g = g' := by simpa using eg
  obtain ⟨q0, q1, q2, q3, q4, q5, q6, q7, q8, q9⟩ := hc
  have hfz := HK1.out.2.1.thaw
  have HZ : Hid (KdQ w kb (.slice (some ⟨g, 0, none⟩) n c) (ms.set i m) (W1.setCells g (i * 10) (encM m)).drew) := by
    have o1 : Off (fun q => q = kb ∨ some g = some q) W1 (W1.setCells g (i * 10) (encM m)).drew := (Off.setCells (Or.inr rfl) _ _ _ (Off.refl _ _)).drew
    have o2 : Off (fun q => g = q) W1 (W1.setCells g (i * 10) (encM m)).drew := (Off.setCells rfl _ _ _ (Off.refl _ _)).drew
    refine KdQ.of_below HB1.out ⟨.slice (some ⟨g, 0, none⟩) n c, ⟨(o2.block kb (blk_lt HK1.out.1) hne).trans HK1.out.1, ?_, by rw [List.length_set, HN.out]; exact hn32⟩, o1, fun q e => Or.inl e⟩
    exact (erow_set HK1.out.2.1 m (by rw [HN.out]; exact hil)).off (P := fun _ => False) (Off.refl _ _).drew (fun _ _ => id)
  clear hne hm1 eg
  go_wp2_with fail
  go_region_law (fail)
  all_goals
    go_wp2_with fail
    go_end0
    exact ⟨rfl, HZ.out⟩
end Go.Proofs.YtoijhecphgdfnaaGreatDoor

/-
  put of a new message.
-/
namespace Go.Proofs.YtoijhecphgdfnaaGreatDoor
open Go.RowKit

theorem set_heap {w : World} {b : Nat} {cs : Array Value} {t : TypeId} (h : w.heap[b]? = some (.cells cs t (0, 0))) (o : Nat) (v : Value) : (w.setCell ⟨b, o, none⟩ v).heap[b]? = some (.cells (cs.set! o v) t (0, 0)) := by
  unfold World.setCell
  simp only [Array.getElem?_modify, h, Option.map_some, if_true, Array.set!_eq_setIfInBounds]
  rfl
set_option maxRecDepth 100000 in
set_option maxHeartbeats 2000000 in
theorem put_new {w : World} {kb : Nat} {v : Value} {ms : List Msg} (h : Kd w kb v ms) (m : Msg) (hf : fi m.ct ms = none) (h32 : ms.length < 32) : Calls Tryz.prog 58 #[.pointer (some ⟨kb, 0, none⟩), .agg #[.string m.ct, .slice m.tp m.tn m.tc, .bool m.e, .int .i64 m.a, .int .i64 m.p, .int .i64 m.nu, .bool m.nt, .int .i64 m.st, .int .i64 m.lf, .bool m.un]] w fun e w' => e = .returned (.tuple #[]) ∧ KdQ w kb v (putS m ms) w' := by
  have hput : putS m ms = ms ++ [m] := by unfold putS; rw [hf]
  have hfI : fiI m.ct ms = -1 := by unfold fiI; rw [hf]
  rw [hput]
  obtain ⟨a, c, rfl, _⟩ := h.2.1.isSlice
  have bv : Below w.heap.size w (w.alloc (.cells #[.string m.ct, .slice m.tp m.tn m.tc, .bool m.e, .int .i64 m.a, .int .i64 m.p, .int .i64 m.nu, .bool m.nt, .int .i64 m.st, .int .i64 m.lf, .bool m.un] 91)) := (Below.refl _ _).alloc (Nat.le_refl _) _
  have bx := Box.new w #[.string m.ct, .slice m.tp m.tn m.tc, .bool m.e, .int .i64 m.a, .int .i64 m.p, .int .i64 m.nu, .bool m.nt, .int .i64 m.st, .int .i64 m.lf, .bool m.un] 91
  have hkb := blk_lt h.1
  obtain ⟨n, hn⟩ : ∃ n, ms.length = n := ⟨_, rfl⟩
  have HN : Hid (ms.length = n) := hn
  have hn32 : n < 32 := by rw [← hn]; exact h32
  rw [hn] at h ⊢
  have HK : Hid (Kd w kb (.slice a n c) ms) := h
  clear h hput hf hn h32
  go_enter Tryz.func58, Tryz.ntmps58
  go_wp2_with fail
  obtain ⟨V, hV⟩ : ∃ V, w.alloc (.cells #[.string m.ct, .slice m.tp m.tn m.tc, .bool m.e, .int .i64 m.a, .int .i64 m.p, .int .i64 m.nu, .bool m.nt, .int .i64 m.st, .int .i64 m.lf, .bool m.un] 91) = V := ⟨_, rfl⟩
  rw [hV] at bx bv ⊢
  clear hV
  have HKV : Hid (Kd V kb (.slice a n c) ms) := HK.out.below bv
  have l0 := sub_box bx
  have l1 : ∀ x : Sub V, x.1.cell? ⟨kb, 0, none⟩ = some (.func (.func 43) #[] #[]) := fun x => hcell (HKV.out.below x.2).1 0
  have c1 := sub_of (V := V) (key_any m)
  have c2 : ∀ x : Sub V, Calls Tryz.prog 82 #[.pointer (some ⟨kb, 0, none⟩), .string m.ct] x.1 fun r x' => r = .returned (.int .i64 (-1)) ∧ ∃ y : Sub V, x' = y.1 := fun x => (place_any (HKV.out.below x.2) m.ct).mono fun _ x' ⟨h1, h2⟩ => ⟨by rw [h1, hfI], ⟨x', below_then x.2 h2⟩, rfl⟩
  have HV : Hid (Below w.heap.size w V) := bv
  have HX : Hid (Box V w.heap.size #[.string m.ct, .slice m.tp m.tn m.tc, .bool m.e, .int .i64 m.a, .int .i64 m.p, .int .i64 m.nu, .bool m.nt, .int .i64 m.st, .int .i64 m.lf, .bool m.un]) := bx
  haveI hne' : Nonempty (Sub V) := ⟨⟨V, Below.refl _ _⟩⟩
  clear bx bv hfI
  refine wp_region_class (V := V) (Below.refl _ _) (by kernel_rfl) (by kernel_rfl) ?_
  repeat (go_big_quiet_step ((first | (go_at_call 82; exact c2 _) | exact c1 _)))
  refine wpQuiet_nil ?_
  rintro wc ⟨xwc, rfl⟩
  obtain ⟨W1, hW1⟩ : ∃ W, xwc.1 = W := ⟨_, rfl⟩
  have HB1 : Hid (Below w.heap.size w W1) := by have := below_then HV.out xwc.2; rw [hW1] at this; exact this
  have HK1 : Hid (Kd W1 kb (.slice a n c) ms) := by have := HKV.out.below xwc.2; rw [hW1] at this; exact this
  have hx1 : Box W1 w.heap.size #[.string m.ct, .slice m.tp m.tn m.tc, .bool m.e, .int .i64 m.a, .int .i64 m.p, .int .i64 m.nu, .bool m.nt, .int .i64 m.st, .int .i64 m.lf, .bool m.un] := by have := HX.out.below xwc.2; rw [hW1] at this; exact this
  rw [hW1]
  clear l0 l1 c1 c2 hne' hW1 xwc HX HV HKV HK
  have k1 := hcell HK1.out.1 1
  have kx := hx1.cell
  obtain ⟨a2, c2, W2, hap, r2, o2, b2⟩ := run_epush (P := Tryz.prog) (t := 97) Tryz.underlying97 celS encM_len encM_one (w := W1.drew) (HK1.out.2.1.off (P := fun _ => False) (Off.refl _ _).drew (fun _ _ => id)) m #[.string m.ct, .slice m.tp m.tn m.tc, .bool m.e, .int .i64 m.a, .int .i64 m.p, .int .i64 m.nu, .bool m.nt, .int .i64 m.st, .int .i64 m.lf, .bool m.un] rfl (by rw [HN.out]; omega) (by omega) (Nat.zero_le _)
  rw [HN.out] at hap r2 b2
  have hap' : (Builtin.append_ #[97, 97] 97 #[.slice a n c, .slice (some ⟨W1.heap.size, 0, none⟩) 1 1]).run Tryz.prog (W1.alloc (.cells #[.string m.ct, .slice m.tp m.tn m.tc, .bool m.e, .int .i64 m.a, .int .i64 m.p, .int .i64 m.nu, .bool m.nt, .int .i64 m.st, .int .i64 m.lf, .bool m.un] 91)).drew = .ok (.slice a2 (n + 1) c2) W2 := hap
  have o3 : Off (fun q => (Value.slice a n c).ownBlock = some q) W1 W2 := ((Off.refl _ _).drew).trans o2
  have hkn : ¬ (Value.slice a n c).ownBlock = some kb := fun e => HK1.out.ne e rfl
  have hk2 : W2.heap[kb]? = some (.cells #[.func (.func 43) #[] #[], .slice a n c] 111 (0, 0)) := (o3.block kb (blk_lt HK1.out.1) hkn).trans HK1.out.1
  have e1 := hcell hk2 1
  have f1 := hfroz hk2 1
  have HZ : Hid (KdQ w kb (.slice a n c) (ms ++ [m]) (W2.setCell ⟨kb, 1, none⟩ (.slice a2 (n + 1) c2))) := by
    have o4 : Off (fun q => q = kb ∨ (Value.slice a n c).ownBlock = some q) W1 (W2.setCell ⟨kb, 1, none⟩ (.slice a2 (n + 1) c2)) := Off.setCell (P := fun q => q = kb ∨ (Value.slice a n c).ownBlock = some q) (o3.mono fun q e => Or.inr e) (p := ⟨kb, 1, none⟩) (Or.inl rfl) _
    have hkk : (W2.setCell ⟨kb, 1, none⟩ (.slice a2 (n + 1) c2)).heap[kb]? = some (.cells #[.func (.func 43) #[] #[], .slice a2 (n + 1) c2] 111 (0, 0)) := set_heap hk2 1 _
    have hg2 : ∀ q, (Value.slice a2 (n + 1) c2).ownBlock = some q → q ≠ kb := fun q e => by
      rcases b2 with b2 | b2
      · rw [b2] at e; exact HK1.out.ne e
      · rw [b2] at e
        have : W1.heap.size + 1 = q := by simpa using e
        have := blk_lt HK1.out.1
        omega
    refine KdQ.of_below HB1.out ⟨.slice a2 (n + 1) c2, ⟨hkk, ?_, by simp [HN.out]; omega⟩, o4, fun q e => ?_⟩
    · exact ERow.keep r2 fun q e => Below.heap_setCell _ _ _ q fun e' => hg2 q e e'
    · rcases b2 with b2 | b2
      · rw [b2] at e; exact Or.inl e
      · rw [b2] at e
        have : W1.heap.size + 1 = q := by simpa using e
        exact Or.inr (by omega)
  have k1' : ∀ o, (W1.alloc o).cell? ⟨kb, 1, none⟩ = some (.slice a n c) := fun o => by rw [World.cell?_alloc_lt _ _ ⟨kb, 1, none⟩ (blk_lt HK1.out.1)]; exact k1
  have kx' : ∀ o q, (W1.alloc o).cell? ⟨w.heap.size, q, none⟩ = (#[.string m.ct, .slice m.tp m.tn m.tc, .bool m.e, .int .i64 m.a, .int .i64 m.p, .int .i64 m.nu, .bool m.nt, .int .i64 m.st, .int .i64 m.lf, .bool m.un] : Array Value)[q]? := fun o q => by rw [World.cell?_alloc_lt _ _ ⟨w.heap.size, q, none⟩ hx1.lt]; exact kx q
  clear hap r2 o2 b2 o3 hk2 hkn
  go_wp2_with fail
  go_region_law (first | (refine step_app_run rfl (.tmp 26) (.tmp 28) 97 rfl rfl rfl hap' ?_))
  all_goals
    go_wp2_with fail
    go_end0
    exact ⟨rfl, HZ.out⟩
end Go.Proofs.YtoijhecphgdfnaaGreatDoor
