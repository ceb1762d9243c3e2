import Derived.Test.YtdglnobapnohmaaDoorWhNum
/-
  The document's wheel in memory; the place of a key.
-/
namespace Go.Proofs.YtdglnobapnohmaaDoor
open Go.RowKit

/-- The document's wheel: block rb, its clock, its timers in lists of their own behind it. -/
structure RWl (w : World) (rb now : Nat) (S : List Tm) (a : Option Addr) (n c : Nat) : Prop where
  cell : ∀ o, w.cell? ⟨rb, o, none⟩ = (#[.bool true, .int .i64 (now : Int), .slice a n c] : Array Value)[o]?
  free : ∀ o, w.frozen? ⟨rb, o, none⟩ = false
  lt : rb < w.heap.size
  row : RRow w (rb + 1) (.slice a n c) S
  typ : ∃ cs, w.heap[rb]? = some (.cells cs 30 (0, 0))
theorem RWl.below {w w' : World} {rb now : Nat} {S : List Tm} {a : Option Addr} {n c : Nat} (h : RWl w rb now S a n c) (hb : Below w.heap.size w w') : RWl w' rb now S a n c :=
  ⟨fun o => (hb.cell (p := ⟨rb, o, none⟩) h.lt).trans (h.cell o), fun o => (hb.frozen (p := ⟨rb, o, none⟩) h.lt).trans (h.free o), Nat.lt_of_lt_of_le h.lt hb.size, ERow.below h.row hb, by obtain ⟨cs, e⟩ := h.typ; exact ⟨cs, (hb.block rb h.lt).trans e⟩⟩
theorem typ_set {w : World} {rb j : Nat} {u : Value} (h : ∃ cs, w.heap[rb]? = some (.cells cs 30 (0, 0))) : ∃ cs, (w.setCell ⟨rb, j, none⟩ u).heap[rb]? = some (.cells cs 30 (0, 0)) := by
  obtain ⟨cs, e⟩ := h
  exact ⟨_, heap_set e⟩
/-- The place of a key; -1: none. -/
def plI (k : Int) (S : List Tm) : Int := match S.findIdx? (fun x => x.1 == k) with
  | some i => (i : Int)
  | none => -1
theorem pl_some {k : Int} {S : List Tm} {i : Nat} (h : ∀ j x, j < i → S[j]? = some x → x.1 ≠ k) {t : Nat} (hi : S[i]? = some (k, t)) : plI k S = i := by
  obtain ⟨h1, h2⟩ := List.getElem?_eq_some_iff.1 hi
  have : S.findIdx? (fun x => x.1 == k) = some i := by
    rw [List.findIdx?_eq_some_iff_getElem]
    refine ⟨h1, by rw [h2]; simp, fun j hj => ?_⟩
    have := h j _ hj (List.getElem?_eq_getElem (by omega))
    simpa using this
  unfold plI
  rw [this]
theorem pl_none {k : Int} {S : List Tm} (h : ∀ j x, j < S.length → S[j]? = some x → x.1 ≠ k) : plI k S = -1 := by
  have : S.findIdx? (fun x => x.1 == k) = none := by
    rw [List.findIdx?_eq_none_iff]
    intro x hx
    obtain ⟨j, hj, e⟩ := List.getElem_of_mem hx
    have := h j x hj (by rw [List.getElem?_eq_getElem hj, e])
    simpa using this
  unfold plI
  rw [this]
set_option maxRecDepth 100000 in
set_option maxHeartbeats 2000000 in
theorem rplace_any {w : World} {rb now : Nat} {S : List Tm} {a : Option Addr} {n c : Nat} (h : RWl w rb now S a n c) (k : Int) (hl : S.length ≤ 1000000) :
    Calls Tryd.prog 57 #[.pointer (some ⟨rb, 0, none⟩), .agg #[.int .i64 k, .string ⟨#[]⟩]] w fun e w' => e = .returned (.int .i64 (plI k S)) ∧ Below w.heap.size w w' := by
  have bv := (Below.refl w.heap.size w).alloc (Nat.le_refl _) (.cells #[.int .i64 k, .string ⟨#[]⟩] 98)
  have h1 := h.below bv
  have ck : ∀ j, (w.alloc (.cells #[.int .i64 k, .string ⟨#[]⟩] 98)).cell? ⟨w.heap.size, j, none⟩ = (#[.int .i64 k, .string ⟨#[]⟩] : Array Value)[j]? := fun j => by
    have hb : (w.alloc (.cells #[.int .i64 k, .string ⟨#[]⟩] 98)).heap[w.heap.size]? = some (.cells #[.int .i64 k, .string ⟨#[]⟩] 98) := by show (w.heap.push _)[w.heap.size]? = _; simp
    unfold World.cell?
    rw [hb]
    rfl
  have HB : Hid (Below w.heap.size w (w.alloc (.cells #[.int .i64 k, .string ⟨#[]⟩] 98))) := bv
  have hn := h1.row.len
  have hnl : (n : Int) ≤ 1000000 := by omega
  have cr := h1.cell
  have HR : Hid (RRow (w.alloc (.cells #[.int .i64 k, .string ⟨#[]⟩] 98)) (rb + 1) (.slice a n c) S ∧ n = S.length) := ⟨h1.row, hn⟩
  clear h h1 bv hn hl
  go_enter Tryd.func57, Tryd.ntmps57
  go_wp2_with fail
  generalize (w.alloc (.cells #[.int .i64 k, .string ⟨#[]⟩] 98)) = V at HB cr ck HR ⊢
  obtain ⟨kb, hkb⟩ : ∃ x, w.heap.size = x := ⟨_, rfl⟩
  rw [hkb] at ck ⊢
  clear hkb
  go_loopw [5] (fun t5 wx => ∃ (i q : Nat), i ≤ n ∧ t5 = .int .i64 (i : Int) ∧ wx = V.drewN q ∧ Hid (∀ j x, j < i → S[j]? = some x → x.1 ≠ k)) (fun t5 _ => n - (intOf t5).toNat)
  case atStart => exact ⟨0, 0, Nat.zero_le _, rfl, rfl, fun j x hj => by omega⟩
  case round =>
    obtain ⟨i, q, hi, rfl, hw, HI⟩ := hrel
    subst wr
    by_cases hlt : i < n
    · have hlt1 : (i : Int) < n := by omega
      obtain ⟨⟨y, t⟩, hx⟩ : ∃ x, S[i]? = some x := ⟨_, List.getElem?_eq_getElem (by have := HR.out.2; omega)⟩
      obtain ⟨g, rfl, hg, hcg⟩ := HR.out.1.at_ encR_len hx
      have c0 : V.cell? ⟨g, i * 3, none⟩ = some (.int .i64 y) := hcg 0 (by omega)
      have c1 : V.cell? ⟨g, i * 3 + 1, none⟩ = some (.string ⟨#[]⟩) := hcg 1 (by omega)
      by_cases hk : y = k
      · subst hk
        have HP : Hid (plI y S = i) := pl_some HI.out hx
        have HW : Hid (Below w.heap.size w (V.drewN q)) := below_drewN HB.out q
        clear hcg hx HI
        go_wp2_with fail
        go_quiet (fail)
        go_wp2_with fail
        go_ret
        exact ⟨by rw [HP.out]; rfl, by first | exact below_drewN HW.out _ | exact below_drewN HB.out _⟩
      · have hk1 : (y == k) = false := by simpa using hk
        have HI2 : Hid (∀ j x, j < i + 1 → S[j]? = some x → x.1 ≠ k) := fun j x hj hjx => by
          rcases Nat.lt_succ_iff_lt_or_eq.1 hj with h | h
          · exact HI.out j x h hjx
          · subst h
            rw [hx] at hjx
            cases hjx
            exact hk
        clear hcg hx HI
        go_wp2_with fail
        go_quiet (fail)
        go_wp2_with fail
        go_roundw
        case rel => exact ⟨i + 1, _, hlt, by go_num, rfl, HI2.out⟩
        case measure => simp [intOf]; omega
    · have hlt1 : ¬ (i : Int) < n := by omega
      have HP : Hid (plI k S = -1) := pl_none fun j x hj => HI.out j x (by have := HR.out.2; omega)
      go_wp2_with fail
      go_ret
      exact ⟨by rw [HP.out]; rfl, below_drewN HB.out q⟩
end Go.Proofs.YtdglnobapnohmaaDoor

/-
  The document's wheel: a timer put behind a list; all but one.
-/
namespace Go.Proofs.YtdglnobapnohmaaDoor
open Go.RowKit

theorem rpush {wr : World} {B n1 c1 : Nat} {a1 : Option Addr} {ys : List Tm} (k : Int) (t : Nat) (h : RRow wr B (.slice a1 n1 c1) ys) (hB : B ≤ wr.heap.size) (hl : ys.length ≤ 1000000) :
    ∃ a2 c2 W1, (Builtin.append_ #[28, 28] 28 #[.slice a1 n1 c1, .slice (some ⟨wr.heap.size, 0, none⟩) 1 1]).run Tryd.prog (wr.alloc (.cells #[.int .i64 k, .string ⟨#[]⟩, .int .i64 (t : Int)] 100)) = .ok (.slice a2 (n1 + 1) c2) W1 ∧ Hid (RRow W1 B (.slice a2 (n1 + 1) c2) (ys ++ [(k, t)]) ∧ Below B wr W1) := by
  obtain ⟨a2, c2, W1, hap, r1, o1, b1⟩ := run_epush (P := Tryd.prog) (t := 28) Tryd.underlying28 celR encR_len encR_one (w := wr) h (k, t) #[.int .i64 k, .string ⟨#[]⟩, .int .i64 (t : Int)] rfl (by omega) (by omega) hB
  rw [← ERow.len h] at hap r1 b1
  exact ⟨a2, c2, W1, hap, r1, o1.below hB fun q e => (ERow.lt h e).1⟩
theorem erase_take {S : List Tm} {i p : Nat} {x : Tm} (hx : S[i]? = some x) (hp : i ≠ p) : (S.take (i + 1)).eraseIdx p = (S.take i).eraseIdx p ++ [x] := by
  rw [List.take_add_one, hx]
  simp only [Option.toList_some]
  have hl : (S.take i).length = i := by
    have := (List.getElem?_eq_some_iff.1 hx).1
    rw [List.length_take]; omega
  rcases Nat.lt_or_ge p i with h | h
  · rw [List.eraseIdx_append_of_lt_length (by omega)]
  · rw [List.eraseIdx_of_length_le (l := S.take i) (by omega), List.eraseIdx_of_length_le (by simp; omega)]
theorem erase_skip {S : List Tm} {p : Nat} (hp : p < S.length) : (S.take (p + 1)).eraseIdx p = (S.take p).eraseIdx p := by
  have hl : (S.take p).length = p := by rw [List.length_take]; omega
  rw [List.take_succ_eq_append_getElem hp, List.eraseIdx_append_of_length_le (by omega), hl, Nat.sub_self, List.eraseIdx_of_length_le (l := S.take p) (by omega)]
  simp
set_option maxRecDepth 100000 in
set_option maxHeartbeats 2000000 in
theorem rwithout_any {w : World} {rb now : Nat} {S : List Tm} {a : Option Addr} {n c : Nat} (h : RWl w rb now S a n c) (p : Nat) (hl : S.length ≤ 1000000) :
    Calls Tryd.prog 58 #[.pointer (some ⟨rb, 0, none⟩), .int .i64 (p : Int)] w fun e w' => ∃ a1 n1 c1, e = .returned (.slice a1 n1 c1) ∧ RRow w' w.heap.size (.slice a1 n1 c1) (S.eraseIdx p) ∧ Below w.heap.size w w' := by
  have hn := h.row.len
  have hnl : (n : Int) ≤ 1000000 := by omega
  have HR : Hid (RWl w rb now S a n c ∧ n = S.length) := ⟨h, hn⟩
  clear h hn hl
  go_enter Tryd.func58, Tryd.ntmps58
  go_wp2_with fail
  go_loopw [5, 6] (fun t5 t6 wx => ∃ (i : Nat) (a1 : Option Addr) (n1 c1 : Nat), i ≤ n ∧ t6 = .int .i64 (i : Int) ∧ t5 = .slice a1 n1 c1 ∧ Hid (RRow wx w.heap.size (.slice a1 n1 c1) ((S.take i).eraseIdx p) ∧ Below w.heap.size w wx)) (fun _ t6 _ => n - (intOf t6).toNat)
  case atStart => exact ⟨0, none, 0, 0, Nat.zero_le _, rfl, rfl, ERow.nil _ _ _ _ _, Below.refl _ _⟩
  case round =>
    obtain ⟨i, a1, n1, c1, hi, rfl, rfl, HJ⟩ := hrel
    have cr := (HR.out.1.below HJ.out.2).cell
    by_cases hlt : i < n
    · have hlt1 : (i : Int) < n := by omega
      by_cases hp : i = p
      · subst hp
        have HJ2 : Hid (RRow wr w.heap.size (.slice a1 n1 c1) ((S.take (i + 1)).eraseIdx i) ∧ Below w.heap.size w wr) := ⟨by rw [erase_skip (by have := HR.out.2; omega)]; exact HJ.out.1, HJ.out.2⟩
        clear HJ
        go_wp2_with fail
        go_roundw
        case rel => exact ⟨i + 1, a1, n1, c1, hlt, by go_num, rfl, HJ2.out⟩
        case measure => simp [intOf]; omega
      · have hp1 : ((i : Int) == (p : Int)) = false := by simp; omega
        have hp2 : ((i : Int) != (p : Int)) = true := by simp; omega
        obtain ⟨⟨k, t⟩, hx⟩ : ∃ x, S[i]? = some x := ⟨_, List.getElem?_eq_getElem (by have := HR.out.2; omega)⟩
        obtain ⟨g, rfl, hg, hcg⟩ := HR.out.1.row.at_ encR_len hx
        have hgw : g < wr.heap.size := Nat.lt_of_lt_of_le hg HJ.out.2.size
        have hrw : rb < wr.heap.size := Nat.lt_of_lt_of_le HR.out.1.lt HJ.out.2.size
        have c0 : wr.cell? ⟨g, i * 3, none⟩ = some (.int .i64 k) := (HJ.out.2.cell (p := ⟨g, i * 3, none⟩) hg).trans (hcg 0 (by omega))
        have c1' : wr.cell? ⟨g, i * 3 + 1, none⟩ = some (.string ⟨#[]⟩) := (HJ.out.2.cell (p := ⟨g, i * 3 + 1, none⟩) hg).trans (hcg 1 (by omega))
        have c2' : wr.cell? ⟨g, i * 3 + 2, none⟩ = some (.int .i64 (t : Int)) := (HJ.out.2.cell (p := ⟨g, i * 3 + 2, none⟩) hg).trans (hcg 2 (by omega))
        have cr2 : wr.cell? ⟨rb, 2, none⟩ = some (.slice (some ⟨g, 0, none⟩) n c) := cr 2
        obtain ⟨a2, c2, W1, hap, HN0⟩ := rpush k t HJ.out.1 HJ.out.2.size (by have h1 := List.length_eraseIdx_le (S.take i) p; rw [List.length_take] at h1; omega)
        have HN : Hid (RRow W1 w.heap.size (.slice a2 (n1 + 1) c2) ((S.take (i + 1)).eraseIdx p) ∧ Below w.heap.size w W1) := ⟨by rw [erase_take hx hp]; exact HN0.out.1, HJ.out.2.trans HN0.out.2⟩
        have hbl := HN.out.2
        have d0 : W1.cell? ⟨g, i * 3, none⟩ = some (.int .i64 k) := (hbl.cell (p := ⟨g, i * 3, none⟩) hg).trans (hcg 0 (by omega))
        have d1 : W1.cell? ⟨g, i * 3 + 1, none⟩ = some (.string ⟨#[]⟩) := (hbl.cell (p := ⟨g, i * 3 + 1, none⟩) hg).trans (hcg 1 (by omega))
        have d2 : W1.cell? ⟨g, i * 3 + 2, none⟩ = some (.int .i64 (t : Int)) := (hbl.cell (p := ⟨g, i * 3 + 2, none⟩) hg).trans (hcg 2 (by omega))
        have d3 : W1.cell? ⟨rb, 2, none⟩ = some (.slice (some ⟨g, 0, none⟩) n c) := (hbl.cell (p := ⟨rb, 2, none⟩) HR.out.1.lt).trans (HR.out.1.cell 2)
        have e0 : ∀ o, (wr.alloc o).cell? ⟨g, i * 3, none⟩ = some (.int .i64 k) := fun o => by rw [World.cell?_alloc_lt _ _ ⟨g, i * 3, none⟩ hgw]; exact c0
        have e1 : ∀ o, (wr.alloc o).cell? ⟨g, i * 3 + 1, none⟩ = some (.string ⟨#[]⟩) := fun o => by rw [World.cell?_alloc_lt _ _ ⟨g, i * 3 + 1, none⟩ hgw]; exact c1'
        have e2 : ∀ o, (wr.alloc o).cell? ⟨g, i * 3 + 2, none⟩ = some (.int .i64 (t : Int)) := fun o => by rw [World.cell?_alloc_lt _ _ ⟨g, i * 3 + 2, none⟩ hgw]; exact c2'
        have e3 : ∀ o, (wr.alloc o).cell? ⟨rb, 2, none⟩ = some (.slice (some ⟨g, 0, none⟩) n c) := fun o => by rw [World.cell?_alloc_lt _ _ ⟨rb, 2, none⟩ hrw]; exact cr2
        clear hcg hx HJ HN0 hbl hg hp
        go_wp2_with (at_builtin; refine wpList_append_run rfl (.tmp 19) (.tmp 27) 28 _ rfl hap ?_)
        go_roundw
        case rel => exact ⟨i + 1, a2, n1 + 1, c2, hlt, by go_num, rfl, HN.out⟩
        case measure => simp [intOf]; omega
    · have hlt1 : ¬ (i : Int) < n := by omega
      go_wp2_with fail
      go_ret
      refine ⟨a1, n1, c1, rfl, ?_, HJ.out.2⟩
      have := HJ.out.1
      rwa [List.take_of_length_le (by have := HR.out.2; omega)] at this
end Go.Proofs.YtdglnobapnohmaaDoor

/-
  The document's wheel: Next, At, Stop.
-/
namespace Go.Proofs.YtdglnobapnohmaaDoor
open Go.RowKit

theorem RWl.box {w : World} {rb now : Nat} {S : List Tm} {a : Option Addr} {n c : Nat} (h : RWl w rb now S a n c) : Box w rb #[.bool true, .int .i64 (now : Int), .slice a n c] := ⟨h.lt, h.cell, h.free⟩
/-- Behind a call that may have written the wheel. -/
def RWQ (w : World) (rb now : Nat) (S : List Tm) (w' : World) : Prop := ∃ a n c, RWl w' rb now S a n c ∧ Off (fun g => g = rb) w w'
set_option maxRecDepth 100000 in
set_option maxHeartbeats 1000000 in
theorem rnext_nil {w : World} {rb now : Nat} {a : Option Addr} {n c : Nat} (h : RWl w rb now [] a n c) : Calls Tryd.prog 40 #[.pointer (some ⟨rb, 0, none⟩)] w fun e w' => e = .returned (.tuple #[.int .i64 0, .bool false]) ∧ Below w.heap.size w w' := by
  have cr := h.cell
  obtain rfl : n = 0 := h.row.len
  clear h
  go_enter Tryd.func40, Tryd.ntmps40
  go_wp2_with fail
  refine bodyPost_ret (v := .tuple #[.int .i64 0, .bool false]) ?_ rfl ⟨rfl, Below.refl _ _⟩
  simp [results, Tryd.results40, go_sem]
set_option maxRecDepth 100000 in
set_option maxHeartbeats 1000000 in
theorem rnext_cons {w : World} {rb now : Nat} {k : Int} {t : Nat} {S : List Tm} {a : Option Addr} {n c : Nat} (h : RWl w rb now ((k, t) :: S) a n c) : Calls Tryd.prog 40 #[.pointer (some ⟨rb, 0, none⟩)] w fun e w' => e = .returned (.tuple #[.int .i64 (t : Int), .bool true]) ∧ Below w.heap.size w w' := by
  have cr := h.cell
  have hn : n = S.length + 1 := h.row.len
  obtain ⟨g, rfl, hg, hcg⟩ := h.row.at_ encR_len (show ((k, t) :: S)[0]? = some (k, t) from rfl)
  have c2 : w.cell? ⟨g, 2, none⟩ = some (.int .i64 (t : Int)) := by have := hcg 2 (by omega); rw [Nat.zero_mul, Nat.zero_add] at this; exact this
  have h0 : 0 < n := by omega
  have h1 : (n : Int) ≠ 0 := by omega
  have h2 : ((n : Int) == 0) = false := by simp; omega
  clear h hn hcg hg
  go_enter Tryd.func40, Tryd.ntmps40
  go_wp2_with fail
  refine bodyPost_ret (v := .tuple #[.int .i64 (t : Int), .bool true]) ?_ rfl ⟨rfl, Below.refl _ _⟩
  simp [results, Tryd.results40, go_sem]
/-- A list without a key, by its place. -/
theorem erase_key {k : Int} {S : List Tm} (hu : Uniq S) {i t : Nat} (hi : S[i]? = some (k, t)) : S.eraseIdx i = S.filter (keyNe k) := by
  induction S generalizing i with
  | nil => simp at hi
  | cons x l ih =>
    have h1 := List.pairwise_cons.1 hu
    cases i with
    | zero =>
      simp only [List.getElem?_cons_zero, Option.some.injEq] at hi
      subst hi
      rw [List.eraseIdx_cons_zero, List.filter_cons_of_neg (by simp [keyNe]), List.filter_eq_self.2]
      intro y hy
      have := h1.1 y hy
      unfold keyNe
      exact decide_eq_true (Ne.symm this)
    | succ i =>
      simp only [List.getElem?_cons_succ] at hi
      have hx : x.1 ≠ k := h1.1 (k, t) (List.mem_of_getElem? hi)
      rw [List.eraseIdx_cons_succ, List.filter_cons_of_pos (by unfold keyNe; exact decide_eq_true hx), ih h1.2 hi]
theorem filter_key {k : Int} {S : List Tm} (h : plI k S = -1) : S.filter (keyNe k) = S := by
  have : S.findIdx? (fun x => x.1 == k) = none := by
    unfold plI at h
    split at h
    · omega
    · assumption
  rw [List.findIdx?_eq_none_iff] at this
  rw [List.filter_eq_self]
  intro x hx
  have := this x hx
  unfold keyNe
  simpa using this
theorem pl_cases (k : Int) (S : List Tm) : plI k S = -1 ∨ ∃ i t, plI k S = (i : Nat) ∧ S[i]? = some (k, t) := by
  unfold plI
  split
  · rename_i i hi
    right
    rw [List.findIdx?_eq_some_iff_getElem] at hi
    obtain ⟨h1, h2, _⟩ := hi
    refine ⟨i, (S[i]).2, rfl, ?_⟩
    rw [List.getElem?_eq_getElem h1]
    have : (S[i]).1 = k := by simpa using h2
    rw [← this]
  · exact Or.inl rfl
set_option maxRecDepth 100000 in
set_option maxHeartbeats 1000000 in
theorem rstop_any {w : World} {rb now : Nat} {S : List Tm} {a : Option Addr} {n c : Nat} (h : RWl w rb now S a n c) (hu : Uniq S) (k : Int) (hl : S.length ≤ 1000000) :
    Calls Tryd.prog 39 #[.pointer (some ⟨rb, 0, none⟩), .agg #[.int .i64 k, .string ⟨#[]⟩]] w fun e w' => e = .returned (.bool (decide (0 ≤ plI k S))) ∧ RWQ w rb now (S.filter (keyNe k)) w' := by
  have bv := (Below.refl w.heap.size w).alloc (Nat.le_refl _) (.cells #[.int .i64 k, .string ⟨#[]⟩] 98)
  have hp := rplace_any (h.below bv) k hl
  have ck := (Box.new w #[.int .i64 k, .string ⟨#[]⟩] 98).cell
  have HA : Hid (RWl w rb now S a n c ∧ Uniq S ∧ S.length ≤ 1000000 ∧ Below w.heap.size w (w.alloc (.cells #[.int .i64 k, .string ⟨#[]⟩] 98))) := ⟨h, hu, hl, bv⟩
  clear h hu hl bv
  rcases pl_cases k S with hq | ⟨i, t, hq, hi⟩
  · have HF : Hid (S.filter (keyNe k) = S ∧ decide (0 ≤ plI k S) = false) := ⟨filter_key hq, by rw [hq]; rfl⟩
    rw [hq] at hp
    clear hq
    go_enter Tryd.func39, Tryd.ntmps39
    go_wp2_with fail
    refine hp.mono ?_
    rintro _ w1 ⟨rfl, hb⟩
    have HB : Hid (Below w.heap.size w w1) := below_then HA.out.2.2.2 hb
    clear hp hb ck
    go_wp2_with fail
    go_ret
    exact ⟨by rw [HF.out.2]; rfl, a, n, c, by rw [HF.out.1]; exact HA.out.1.below HB.out, Off.of_below HB.out⟩
  · have HF : Hid (S.eraseIdx i = S.filter (keyNe k) ∧ decide (0 ≤ plI k S) = true) := ⟨erase_key HA.out.2.1 hi, by rw [hq]; exact decide_eq_true (by omega)⟩
    rw [hq] at hp
    have hi0 : ¬ (i : Int) < 0 := by omega
    clear hq hi
    go_enter Tryd.func39, Tryd.ntmps39
    go_wp2_with fail
    refine hp.mono ?_
    rintro _ w1 ⟨rfl, hb⟩
    have HB : Hid (Below w.heap.size w w1) := below_then HA.out.2.2.2 hb
    have hw := rwithout_any (HA.out.1.below HB.out) i HA.out.2.2.1
    clear hp hb ck
    go_wp2_with fail
    refine hw.mono ?_
    rintro _ w2 ⟨a1, n1, c1, rfl, hr, hb2⟩
    have hx := (HA.out.1.below (below_then HB.out hb2)).box
    have HX : Hid (RRow w2 w1.heap.size (.slice a1 n1 c1) (S.eraseIdx i) ∧ Below w.heap.size w w2 ∧ rb < w1.heap.size ∧ Box w2 rb #[.bool true, .int .i64 (now : Int), .slice a n c]) := ⟨hr, below_then HB.out hb2, (HA.out.1.below HB.out).lt, hx⟩
    have cx := hx.cell
    have fx := hx.free
    clear hw hr hb2 hx
    go_wp2_with fail
    go_ret
    have hbx := HX.out.2.2.2.pPut (j := 2) (by simp) (.slice a1 n1 c1)
    have ho : Off (fun g => g = rb) w2 (w2.setCell ⟨rb, 2, none⟩ (.slice a1 n1 c1)) := Off.setCell (P := fun g => g = rb) (p := ⟨rb, 2, none⟩) (Off.refl _ _) rfl _
    refine ⟨by rw [HF.out.2]; rfl, a1, n1, c1, ⟨hbx.cell, hbx.free, hbx.lt, ?_, typ_set (HA.out.1.below HX.out.2.1).typ⟩, (Off.of_below HX.out.2.1).join ho fun _ _ g => g⟩
    rw [← HF.out.1]
    exact ERow.base (ERow.off HX.out.1 ho fun g hg e => by have h1 := (ERow.lt HX.out.1 hg).1; have h2 := HX.out.2.2.1; omega) (by have := HX.out.2.2.1; omega)
end Go.Proofs.YtdglnobapnohmaaDoor

/-
  The document's wheel: At, Advance.
-/
namespace Go.Proofs.YtdglnobapnohmaaDoor
open Go.RowKit

set_option maxRecDepth 100000 in
set_option maxHeartbeats 1000000 in
theorem rat_none {w : World} {rb now : Nat} {S : List Tm} {a : Option Addr} {n c : Nat} (h : RWl w rb now S a n c) (k : Int) (hl : S.length ≤ 1000000) (hq : plI k S = -1) :
    Calls Tryd.prog 42 #[.pointer (some ⟨rb, 0, none⟩), .agg #[.int .i64 k, .string ⟨#[]⟩]] w fun e w' => e = .returned (.tuple #[.int .i64 0, .bool false]) ∧ Below w.heap.size w w' := by
  have bv := (Below.refl w.heap.size w).alloc (Nat.le_refl _) (.cells #[.int .i64 k, .string ⟨#[]⟩] 98)
  have hp := rplace_any (h.below bv) k hl
  have ck := (Box.new w #[.int .i64 k, .string ⟨#[]⟩] 98).cell
  have HA : Hid (Below w.heap.size w (w.alloc (.cells #[.int .i64 k, .string ⟨#[]⟩] 98))) := bv
  rw [hq] at hp
  clear h hl bv hq
  go_enter Tryd.func42, Tryd.ntmps42
  go_wp2_with fail
  refine hp.mono ?_
  rintro _ w1 ⟨rfl, hb⟩
  have HB : Hid (Below w.heap.size w w1) := below_then HA.out hb
  clear hp hb ck
  go_wp2_with fail
  refine bodyPost_ret (v := .tuple #[.int .i64 0, .bool false]) ?_ rfl ⟨rfl, HB.out⟩
  simp [results, Tryd.results42, go_sem]
set_option maxRecDepth 100000 in
set_option maxHeartbeats 1000000 in
theorem rat_some {w : World} {rb now : Nat} {S : List Tm} {a : Option Addr} {n c : Nat} (h : RWl w rb now S a n c) (k : Int) (hl : S.length ≤ 1000000) {i t : Nat} (hq : plI k S = i) (hi : S[i]? = some (k, t)) :
    Calls Tryd.prog 42 #[.pointer (some ⟨rb, 0, none⟩), .agg #[.int .i64 k, .string ⟨#[]⟩]] w fun e w' => e = .returned (.tuple #[.int .i64 (t : Int), .bool true]) ∧ Below w.heap.size w w' := by
  have bv := (Below.refl w.heap.size w).alloc (Nat.le_refl _) (.cells #[.int .i64 k, .string ⟨#[]⟩] 98)
  have hp := rplace_any (h.below bv) k hl
  have ck := (Box.new w #[.int .i64 k, .string ⟨#[]⟩] 98).cell
  have HA : Hid (Below w.heap.size w (w.alloc (.cells #[.int .i64 k, .string ⟨#[]⟩] 98)) ∧ RWl w rb now S a n c) := ⟨bv, h⟩
  obtain ⟨g, rfl, hg, hcg⟩ := h.row.at_ encR_len hi
  have hin : (i : Int) < n := by
    have h1 := (List.getElem?_eq_some_iff.1 hi).1
    have h2 := h.row.len
    omega
  have hi0 : ¬ (i : Int) < 0 := by omega
  have HC : Hid (g < w.heap.size ∧ w.cell? ⟨g, i * 3 + 2, none⟩ = some (.int .i64 (t : Int))) := ⟨hg, hcg 2 (by omega)⟩
  rw [hq] at hp
  clear h hl bv hq hg hcg hi
  go_enter Tryd.func42, Tryd.ntmps42
  go_wp2_with fail
  refine hp.mono ?_
  rintro _ w1 ⟨rfl, hb⟩
  have HB : Hid (Below w.heap.size w w1) := below_then HA.out.1 hb
  have cr := (HA.out.2.below HB.out).cell
  have c2 := (HB.out.cell (p := ⟨g, i * 3 + 2, none⟩) HC.out.1).trans HC.out.2
  clear hp hb ck
  go_wp2_with fail
  refine bodyPost_ret (v := .tuple #[.int .i64 (t : Int), .bool true]) ?_ rfl ⟨rfl, HB.out⟩
  simp [results, Tryd.results42, go_sem]
end Go.Proofs.YtdglnobapnohmaaDoor
