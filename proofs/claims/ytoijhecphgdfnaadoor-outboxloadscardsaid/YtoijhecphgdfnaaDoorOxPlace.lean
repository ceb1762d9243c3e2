import Derived.Test.YtoijhecphgdfnaaDoorOxSpec
import Derived.Test.YtoijhecphgdfnaaDoorOxBase
/-
  The box's list by key: fault, keyOf, place, find, count.
-/
namespace Go.Proofs.YtoijhecphgdfnaaDoor
open Go.RowKit

theorem bcell {W w1 : World} (hb : Below W.heap.size W w1) : (∀ b o, b < W.heap.size → w1.cell? ⟨b, o, none⟩ = W.cell? ⟨b, o, none⟩) ∧ (∀ b o, b < W.heap.size → w1.frozen? ⟨b, o, none⟩ = W.frozen? ⟨b, o, none⟩) :=
  ⟨fun b o h => hb.cell (p := ⟨b, o, none⟩) h, fun b o h => hb.frozen (p := ⟨b, o, none⟩) h⟩
theorem blk_lt {w : World} {W : Nat} {o : Obj} (h : w.heap[W]? = some o) : W < w.heap.size := by
  rcases Nat.lt_or_ge W w.heap.size with g | g
  · exact g
  · rw [Array.getElem?_eq_none g] at h; cases h
theorem hcell {w : World} {b : Nat} {cs : Array Value} {t : TypeId} (h : w.heap[b]? = some (.cells cs t (0, 0))) (o : Nat) : w.cell? ⟨b, o, none⟩ = cs[o]? := by simp [World.cell?, h]
theorem hfroz {w : World} {b : Nat} {cs : Array Value} {t : TypeId} (h : w.heap[b]? = some (.cells cs t (0, 0))) (o : Nat) : w.frozen? ⟨b, o, none⟩ = false := by simp [World.frozen?, h]
/-- The cells of a fault of layer "outbox". -/
def OFault (w : World) (b : Nat) (a code : Int) : Prop :=
  w.cell? ⟨b, 0, none⟩ = some (.string ⟨#[111, 117, 116, 98, 111, 120]⟩) ∧ w.cell? ⟨b, 1, none⟩ = some (.int .i64 a) ∧ w.cell? ⟨b, 2, none⟩ = some (.int .i64 code) ∧ w.cell? ⟨b, 3, none⟩ = some .nilIface
theorem OFault.keep {w w' : World} {b : Nat} {a c : Int} (h : OFault w b a c) (hk : ∀ o, w'.cell? ⟨b, o, none⟩ = w.cell? ⟨b, o, none⟩) : OFault w' b a c :=
  ⟨by rw [hk]; exact h.1, by rw [hk]; exact h.2.1, by rw [hk]; exact h.2.2.1, by rw [hk]; exact h.2.2.2⟩
theorem OFault.below {w w' : World} {b : Nat} {a c : Int} (h : OFault w b a c) (hb : Below w.heap.size w w') : OFault w' b a c := by
  have hl : b < w.heap.size := cell_lt h.1
  exact h.keep fun o => hb.cell (p := ⟨b, o, none⟩) hl
/-- An error that is just that: none where the number is 0; its block is new (from B on). -/
def OEv (w : World) (B : Nat) (v : Value) (a code : Int) : Prop := (v = .nilIface ∧ code = 0) ∨ (code ≠ 0 ∧ ∃ b, v = .iface 91 (.pointer (some ⟨b, 0, none⟩)) ∧ B ≤ b ∧ OFault w b a code)
theorem OEv.keep {w w' : World} {B : Nat} {v : Value} {a c : Int} (h : OEv w B v a c) (hk : ∀ b o, b < w.heap.size → B ≤ b → w'.cell? ⟨b, o, none⟩ = w.cell? ⟨b, o, none⟩) : OEv w' B v a c := by
  rcases h with h | ⟨h0, b, h1, h2, h3⟩
  · exact Or.inl h
  · exact Or.inr ⟨h0, b, h1, h2, h3.keep fun o => hk b o (cell_lt h3.1) h2⟩
theorem OEv.below {w w' : World} {B : Nat} {v : Value} {a c : Int} (h : OEv w B v a c) (hb : Below w.heap.size w w') : OEv w' B v a c := h.keep fun b o hl _ => hb.cell (p := ⟨b, o, none⟩) hl
theorem OEv.mono {w : World} {B C : Nat} {v : Value} {a c : Int} (h : OEv w B v a c) (hB : C ≤ B) : OEv w C v a c := by
  rcases h with h | ⟨h0, b, h1, h2, h3⟩
  · exact Or.inl h
  · exact Or.inr ⟨h0, b, h1, Nat.le_trans hB h2, h3⟩
theorem oev_ok (w : World) (B : Nat) (a : Int) : OEv w B .nilIface a 0 := Or.inl ⟨rfl, rfl⟩
set_option maxHeartbeats 400000 in
theorem fault_any (a code : Int) (w : World) : Calls Tryd.prog 22 #[.int .i64 a, .int .i64 code] w fun e w' => e = .returned (.iface 91 (.pointer (some ⟨w.heap.size, 0, none⟩))) ∧ OFault w' w.heap.size a code ∧ Below w.heap.size w w' := by
  go_enter Tryd.func22, Tryd.ntmps22
  go_wp2
  go_ret
  exact ⟨rfl, ⟨by simp, by simp, by simp, by simp⟩, (Below.refl _ _).alloc (Nat.le_refl _) _⟩
set_option maxHeartbeats 400000 in
theorem key_any (m : Msg) (w : World) : Calls Tryd.prog 23 #[.agg #[.string m.ct, .slice m.tp m.tn m.tc, .bool m.e, .int .i64 m.a, .int .i64 m.p, .int .i64 m.nu, .bool m.nt, .int .i64 m.st, .int .i64 m.lf, .bool m.un]] w fun e w' => e = .returned (.string m.ct) ∧ Below w.heap.size w w' := by
  go_enter Tryd.func23, Tryd.ntmps23
  go_wp2
  go_ret
  exact ⟨rfl, (Below.refl _ _).alloc (Nat.le_refl _) _⟩
set_option maxRecDepth 100000 in
set_option maxHeartbeats 1000000 in
theorem same_any {kb b1 b2 : Nat} {s : ByteArray} (m : Msg) (w : World) (h1 : w.cell? ⟨b1, 0, none⟩ = some (.pointer (some ⟨kb, 0, none⟩))) (h2 : w.cell? ⟨b2, 0, none⟩ = some (.string s)) (h3 : w.cell? ⟨kb, 0, none⟩ = some (.func (.func 23) #[] #[])) :
    Calls Tryd.prog 59 #[.agg #[.string m.ct, .slice m.tp m.tn m.tc, .bool m.e, .int .i64 m.a, .int .i64 m.p, .int .i64 m.nu, .bool m.nt, .int .i64 m.st, .int .i64 m.lf, .bool m.un], .pointer (some ⟨b1, 0, none⟩), .pointer (some ⟨b2, 0, none⟩)] w fun e w' => e = .returned (.bool (m.ct.toList == s.toList)) ∧ Below w.heap.size w w' := by
  have bx := Box.new w #[.string m.ct, .slice m.tp m.tn m.tc, .bool m.e, .int .i64 m.a, .int .i64 m.p, .int .i64 m.nu, .bool m.nt, .int .i64 m.st, .int .i64 m.lf, .bool m.un] 74
  have bv : Below w.heap.size w (w.alloc (.cells #[.string m.ct, .slice m.tp m.tn m.tc, .bool m.e, .int .i64 m.a, .int .i64 m.p, .int .i64 m.nu, .bool m.nt, .int .i64 m.st, .int .i64 m.lf, .bool m.un] 74)) := (Below.refl _ _).alloc (Nat.le_refl _) _
  go_enter Tryd.func59, Tryd.ntmps59
  go_wp2_with fail
  obtain ⟨V, hV⟩ : ∃ V, w.alloc (.cells #[.string m.ct, .slice m.tp m.tn m.tc, .bool m.e, .int .i64 m.a, .int .i64 m.p, .int .i64 m.nu, .bool m.nt, .int .i64 m.st, .int .i64 m.lf, .bool m.un] 74) = V := ⟨_, rfl⟩
  rw [hV] at bx bv ⊢
  clear hV
  have l0 := sub_box bx
  have hlt : ∀ (x : Sub V) (b o : Nat) (v : Value), w.cell? ⟨b, o, none⟩ = some v → x.1.cell? ⟨b, o, none⟩ = some v := fun x b o v h => by
    rw [x.2.cell (p := ⟨b, o, none⟩) (Nat.lt_of_lt_of_le (cell_lt h) bv.size), bv.cell (p := ⟨b, o, none⟩) (cell_lt h)]; exact h
  have l1 : ∀ x : Sub V, x.1.cell? ⟨b1, 0, none⟩ = some (.pointer (some ⟨kb, 0, none⟩)) := fun x => hlt x _ _ _ h1
  have l2 : ∀ x : Sub V, x.1.cell? ⟨b2, 0, none⟩ = some (.string s) := fun x => hlt x _ _ _ h2
  have l3 : ∀ x : Sub V, x.1.cell? ⟨kb, 0, none⟩ = some (.func (.func 23) #[] #[]) := fun x => hlt x _ _ _ h3
  have c1 := sub_of (V := V) (key_any m)
  have HV : Hid (Below w.heap.size w V) := bv
  haveI hne : Nonempty (Sub V) := ⟨⟨V, Below.refl _ _⟩⟩
  clear bx bv hlt h1 h2 h3
  refine wp_region_class (V := V) (Below.refl _ _) (by kernel_rfl) (by kernel_rfl) ?_
  repeat (go_big_quiet_step ((exact c1 _)))
  refine wpQuiet_nil ?_
  rintro wc ⟨xwc, rfl⟩
  have HB : Hid (Below w.heap.size w xwc.1) := below_then HV.out xwc.2
  clear l0 l1 l2 l3 c1 hne
  go_wp2_with fail
  go_ret
  exact ⟨rfl, HB.out⟩
end Go.Proofs.YtoijhecphgdfnaaDoor

/-
  place and find of the box's list.
-/
namespace Go.Proofs.YtoijhecphgdfnaaDoor
open Go.RowKit

/-- The list by key, in memory. -/
def Kd (w : World) (kb : Nat) (v : Value) (ms : List Msg) : Prop :=
  w.heap[kb]? = some (.cells #[.func (.func 23) #[] #[], v] 80 (0, 0)) ∧ ERow w 0 74 10 encM v ms ∧ ms.length ≤ 32
theorem Kd.below {w w' : World} {kb : Nat} {v : Value} {ms : List Msg} (h : Kd w kb v ms) (hb : Below w.heap.size w w') : Kd w' kb v ms := ⟨(hb.block kb (blk_lt h.1)).trans h.1, h.2.1.below hb, h.2.2⟩
/-- The ten cells of a message. -/
structure Cells (w : World) (g o : Nat) (m : Msg) : Prop where
  c0 : w.cell? ⟨g, o, none⟩ = some (.string m.ct)
  c1 : w.cell? ⟨g, o + 1, none⟩ = some (.slice m.tp m.tn m.tc)
  c2 : w.cell? ⟨g, o + 2, none⟩ = some (.bool m.e)
  c3 : w.cell? ⟨g, o + 3, none⟩ = some (.int .i64 m.a)
  c4 : w.cell? ⟨g, o + 4, none⟩ = some (.int .i64 m.p)
  c5 : w.cell? ⟨g, o + 5, none⟩ = some (.int .i64 m.nu)
  c6 : w.cell? ⟨g, o + 6, none⟩ = some (.bool m.nt)
  c7 : w.cell? ⟨g, o + 7, none⟩ = some (.int .i64 m.st)
  c8 : w.cell? ⟨g, o + 8, none⟩ = some (.int .i64 m.lf)
  c9 : w.cell? ⟨g, o + 9, none⟩ = some (.bool m.un)
theorem Cells.of {w : World} {g o : Nat} {m : Msg} (h : ∀ q, q < 10 → w.cell? ⟨g, o + q, none⟩ = (encM m)[q]?) : Cells w g o m :=
  ⟨h 0 (by decide), h 1 (by decide), h 2 (by decide), h 3 (by decide), h 4 (by decide), h 5 (by decide), h 6 (by decide), h 7 (by decide), h 8 (by decide), h 9 (by decide)⟩
theorem Cells.keep {w w' : World} {g o : Nat} {m : Msg} (h : Cells w g o m) (hk : ∀ q, w'.cell? ⟨g, q, none⟩ = w.cell? ⟨g, q, none⟩) : Cells w' g o m :=
  ⟨by rw [hk]; exact h.c0, by rw [hk]; exact h.c1, by rw [hk]; exact h.c2, by rw [hk]; exact h.c3, by rw [hk]; exact h.c4, by rw [hk]; exact h.c5, by rw [hk]; exact h.c6, by rw [hk]; exact h.c7, by rw [hk]; exact h.c8, by rw [hk]; exact h.c9⟩
theorem Cells.below {w w' : World} {g o : Nat} {m : Msg} (h : Cells w g o m) (hb : Below w.heap.size w w') : Cells w' g o m := by
  have hl : g < w.heap.size := cell_lt h.c0
  exact h.keep fun q => hb.cell (p := ⟨g, q, none⟩) hl
theorem erow_cells {w : World} {B : Nat} {a : Option Addr} {n c : Nat} {ms : List Msg} (h : ERow w B 74 10 encM (.slice a n c) ms) {j : Nat} {m : Msg} (hm : ms[j]? = some m) : ∃ g, a = some ⟨g, 0, none⟩ ∧ g < w.heap.size ∧ Cells w g (j * 10) m := by
  obtain ⟨g, h1, h2, h3⟩ := h.at_ encM_len hm
  exact ⟨g, h1, h2, Cells.of h3⟩
set_option maxRecDepth 100000 in
set_option maxHeartbeats 2000000 in
theorem index_any {w : World} {kb b1 b2 : Nat} {s : ByteArray} {a : Option Addr} {n c : Nat} {ms : List Msg} (hr : ERow w 0 74 10 encM (.slice a n c) ms) (hl : ms.length ≤ 32) (h1 : w.cell? ⟨b1, 0, none⟩ = some (.pointer (some ⟨kb, 0, none⟩))) (h2 : w.cell? ⟨b2, 0, none⟩ = some (.string s)) (h3 : w.cell? ⟨kb, 0, none⟩ = some (.func (.func 23) #[] #[])) :
    Calls Tryd.prog 58 #[.slice a n c, .func (.func 59) #[] #[.pointer (some ⟨b1, 0, none⟩), .pointer (some ⟨b2, 0, none⟩)]] w fun e w' => e = .returned (.int .i64 (fiI s ms)) ∧ Below w.heap.size w w' := by
  have HR : Hid (ERow w 0 74 10 encM (.slice a n c) ms) := hr
  have HN : Hid (n = ms.length) := hr.len
  have HK : Hid (w.cell? ⟨b1, 0, none⟩ = some (.pointer (some ⟨kb, 0, none⟩)) ∧ w.cell? ⟨b2, 0, none⟩ = some (.string s) ∧ w.cell? ⟨kb, 0, none⟩ = some (.func (.func 23) #[] #[])) := ⟨h1, h2, h3⟩
  have hn : n ≤ 32 := by rw [hr.len]; exact hl
  obtain ⟨J, hJ⟩ : ∃ J : Nat, J = (match fi s ms with | some i => i | none => n) := ⟨_, rfl⟩
  have HJ : Hid (∀ j m', j < J → ms[j]? = some m' → (m'.ct.toList == s.toList) = false) := fun j m' hj hm => by
    rw [hJ] at hj
    cases hf : fi s ms with
    | some i => rw [hf] at hj; obtain ⟨_, _, _, hx⟩ := fi_some hf; exact hx j m' hj hm
    | none => exact fi_none hf j m' hm
  have HJ2 : Hid (J < n → fiI s ms = J ∧ ∀ m', ms[J]? = some m' → (m'.ct.toList == s.toList) = true) := fun hlt => by
    cases hf : fi s ms with
    | some i =>
      rw [hf] at hJ
      simp only at hJ
      subst hJ
      obtain ⟨m, hm, he, _⟩ := fi_some hf
      exact ⟨by unfold fiI; rw [hf], fun m' hm' => by rw [hm] at hm'; cases hm'; exact he⟩
    | none => rw [hf] at hJ; simp only at hJ; omega
  have HJ3 : Hid (¬ J < n → fiI s ms = -1) := fun hlt => by
    cases hf : fi s ms with
    | some i =>
      rw [hf] at hJ
      simp only at hJ
      obtain ⟨m, hm, _⟩ := fi_some hf
      have := (List.getElem?_eq_some_iff.1 hm).1
      have := HN.out
      omega
    | none => unfold fiI; rw [hf]
  have hJn : J ≤ n := by
    rw [hJ]
    cases hf : fi s ms with
    | some i => obtain ⟨m, hm, _⟩ := fi_some hf; have := (List.getElem?_eq_some_iff.1 hm).1; have := HN.out; simp only; omega
    | none => exact Nat.le_refl _
  clear hr hl h1 h2 h3 hJ
  go_enter Tryd.func58, Tryd.ntmps58
  go_wp2_with fail
  go_loopw [8] (fun t8 wx => ∃ i : Nat, i ≤ J ∧ t8 = .int .i64 i ∧ Hid (Below w.heap.size w wx)) (fun t8 _ => n - (intOf t8).toNat)
  case atStart => exact ⟨0, Nat.zero_le _, rfl, Below.refl _ _⟩
  case round =>
    obtain ⟨i, hi, rfl, HB⟩ := hrel
    by_cases hlt : i < n
    · have hlt1 : (i : Int) < n := by omega
      obtain ⟨m, hm⟩ : ∃ m, ms[i]? = some m := ⟨_, List.getElem?_eq_getElem (by have := HN.out; omega)⟩
      obtain ⟨g, rfl, hg, hc⟩ := erow_cells (HR.out.below HB.out) hm
      obtain ⟨c0, c1, c2, c3, c4, c5, c6, c7, c8, c9⟩ := hc
      have HM : Hid (ms[i]? = some m) := hm
      have k1 : wr.cell? ⟨b1, 0, none⟩ = some (.pointer (some ⟨kb, 0, none⟩)) := by rw [HB.out.cell (p := ⟨b1, 0, none⟩) (cell_lt HK.out.1)]; exact HK.out.1
      have k2 : wr.cell? ⟨b2, 0, none⟩ = some (.string s) := by rw [HB.out.cell (p := ⟨b2, 0, none⟩) (cell_lt HK.out.2.1)]; exact HK.out.2.1
      have k3 : wr.cell? ⟨kb, 0, none⟩ = some (.func (.func 23) #[] #[]) := by rw [HB.out.cell (p := ⟨kb, 0, none⟩) (cell_lt HK.out.2.2)]; exact HK.out.2.2
      have hs := same_any m wr k1 k2 k3
      clear hm k1 k2 k3
      by_cases hJi : i < J
      · rw [HJ.out i m hJi HM.out] at hs
        go_wp2_with fail
        refine hs.mono ?_
        rintro _ w1 ⟨rfl, hb1⟩
        have HB1 : Hid (Below w.heap.size w w1) := below_then HB.out hb1
        clear hb1 hs c0 c1 c2 c3 c4 c5 c6 c7 c8 c9
        go_wp2_with fail
        go_roundw
        case rel => exact ⟨i + 1, hJi, by go_num, HB1⟩
        case measure => simp [intOf]; omega
      · have hiJ : i = J := by omega
        subst hiJ
        rw [(HJ2.out hlt).2 m HM.out] at hs
        go_wp2_with fail
        refine hs.mono ?_
        rintro _ w1 ⟨rfl, hb1⟩
        have HB1 : Hid (Below w.heap.size w w1) := below_then HB.out hb1
        clear hb1 hs c0 c1 c2 c3 c4 c5 c6 c7 c8 c9
        go_wp2_with fail
        go_ret
        exact ⟨ret_int (HJ2.out hlt).1.symm, HB1.out⟩
    · have hlt1 : ¬ (i : Int) < n := by omega
      go_wp2_with fail
      go_ret
      exact ⟨ret_int (HJ3.out (by omega)).symm, HB.out⟩
set_option maxRecDepth 100000 in
set_option maxHeartbeats 1000000 in
theorem place_any {w : World} {kb : Nat} {v : Value} {ms : List Msg} (h : Kd w kb v ms) (s : ByteArray) : Calls Tryd.prog 53 #[.pointer (some ⟨kb, 0, none⟩), .string s] w fun e w' => e = .returned (.int .i64 (fiI s ms)) ∧ Below w.heap.size w w' := by
  have hb : Below w.heap.size w ((w.alloc (.cells #[.pointer (some ⟨kb, 0, none⟩)] 77)).alloc (.cells #[.string s] 9)) := ((Below.refl _ _).alloc (Nat.le_refl _) _).alloc (by simp) _
  obtain ⟨a, c, rfl, _⟩ := h.2.1.isSlice
  have hi := index_any (b1 := w.heap.size) (b2 := w.heap.size + 1) (kb := kb) (s := s) (h.below hb).2.1 h.2.2 (by simp) (by simp) (hcell (h.below hb).1 0)
  have k0 := hcell h.1 1
  have hkb := blk_lt h.1
  have HB : Hid (Below w.heap.size w ((w.alloc (.cells #[.pointer (some ⟨kb, 0, none⟩)] 77)).alloc (.cells #[.string s] 9))) := hb
  clear hb h
  go_enter Tryd.func53, Tryd.ntmps53
  go_wp2_with fail
  refine hi.mono ?_
  rintro _ w1 ⟨rfl, hb1⟩
  have HB1 : Hid (Below w.heap.size w w1) := below_then HB.out hb1
  clear hb1 hi k0
  go_wp2_with fail
  go_ret
  exact ⟨rfl, HB1.out⟩
set_option maxHeartbeats 400000 in
theorem count_any {w : World} {kb : Nat} {v : Value} {ms : List Msg} (h : Kd w kb v ms) : Calls Tryd.prog 33 #[.pointer (some ⟨kb, 0, none⟩)] w fun e w' => e = .returned (.int .i64 (ms.length : Int)) ∧ w' = w := by
  obtain ⟨a, c, rfl, _⟩ := h.2.1.isSlice
  have k0 := hcell h.1 1
  obtain ⟨n, hn⟩ : ∃ n, ms.length = n := ⟨_, rfl⟩
  rw [hn] at k0 ⊢
  clear h hn
  go_enter Tryd.func33, Tryd.ntmps33
  go_wp2
  go_ret
  exact ⟨rfl, rfl⟩
end Go.Proofs.YtoijhecphgdfnaaDoor
