import Derived.Test.YtfkcnnjkflomkaaDoorWCmE
import Derived.Test.YtfkcnnjkflomkaaDoorWCmA0
import Derived.Test.YtfkcnnjkflomkaaDoorWCmA9
import Derived.Test.YtfkcnnjkflomkaaDoorWOpen4
/-
  The law WalCommits, walked.
-/
namespace Go.Proofs.YtfkcnnjkflomkaaDoor
open Go.RowKit Go.BigFrame

/-- A call of the script. -/
structure Opw where
  kd : Int
  nn : Int
  po : Option Addr
  pl : Nat
  pc : Nat
  t0 : Int
  t1 : Int
  t2 : Int
  t3 : Int
  bs : List Int
def OpAt7 (W : World) (b o : Nat) (y : Opw) : Prop :=
  b < W.heap.size ∧ W.cell? ⟨b, o, none⟩ = some (.int .i64 y.kd) ∧ W.cell? ⟨b, o + 1, none⟩ = some (.int .i64 y.nn) ∧ W.cell? ⟨b, o + 2, none⟩ = some (.slice y.po y.pl y.pc) ∧ W.cell? ⟨b, o + 3, none⟩ = some (.int .i64 y.t0) ∧ W.cell? ⟨b, o + 4, none⟩ = some (.int .i64 y.t1) ∧ W.cell? ⟨b, o + 5, none⟩ = some (.int .i64 y.t2) ∧ W.cell? ⟨b, o + 6, none⟩ = some (.int .i64 y.t3) ∧ Byts W y.po y.pl y.bs
def Ops7 (W : World) (ao : Option Addr) (xs : List Opw) : Prop := ∀ k y, xs[k]? = some y → ∃ b off, ao = some ⟨b, off, none⟩ ∧ OpAt7 W b (off + k * 7) y
theorem ops7_below {W W' : World} {ao : Option Addr} {xs : List Opw} (h : Ops7 W ao xs) (hb : Below W.heap.size W W') : Ops7 W' ao xs := fun k y hk => by
  obtain ⟨b, off, e, h0, h1, h2, h3, h4, h5, h6, h7, h8⟩ := h k y hk
  exact ⟨b, off, e, Nat.lt_of_lt_of_le h0 hb.size, below_cell hb h1, below_cell hb h2, below_cell hb h3, below_cell hb h4, below_cell hb h5, below_cell hb h6, below_cell hb h7, h8.below hb⟩
def tot7 (xs : List Opw) : Nat := (xs.map fun y => y.pl + 2).sum
theorem tot7_snoc {xs : List Opw} {k : Nat} {y : Opw} (h : xs[k]? = some y) : tot7 (xs.take (k + 1)) = tot7 (xs.take k) + (y.pl + 2) := by
  unfold tot7
  rw [List.take_add_one, h]
  simp [List.sum_append]
theorem tot7_le (xs : List Opw) (k : Nat) : tot7 (xs.take k) ≤ tot7 xs := by
  have : tot7 xs = tot7 (xs.take k) + tot7 (xs.drop k) := by
    unfold tot7
    rw [← List.sum_append, ← List.map_append, List.take_append_drop]
  omega
theorem tot7_two : ∀ xs : List Opw, 2 * xs.length ≤ tot7 xs
  | [] => by simp [tot7]
  | x :: xs => by
    have := tot7_two xs
    simp [tot7] at this ⊢
    omega
/-- What fits answers. -/
def FiQ (xs : List Opw) (w : World) (e : Ending) (w' : World) : Prop := ∃ q, e = .returned (.bool q) ∧ (q = true → tot7 xs ≤ 1048576) ∧ w' = w
set_option maxRecDepth 100000 in
set_option maxHeartbeats 2000000 in
theorem fits_any {ao : Option Addr} {cap : Nat} {xs : List Opw} (w : World) (h : Ops7 w ao xs) (hn : xs.length ≤ maxLen) (hp : ∀ y ∈ xs, y.pl ≤ 140737488355328) :
    Calls Tryd.prog 21 #[.slice ao xs.length cap] w (FiQ xs w) := by
  have HB : Hid (Ops7 w ao xs ∧ ∀ y ∈ xs, y.pl ≤ 140737488355328) := ⟨h, hp⟩
  obtain ⟨n, hN⟩ : ∃ n, xs.length = n := ⟨_, rfl⟩
  have HN : Hid (xs.length = n) := hN
  rw [hN] at hn ⊢
  unfold maxLen at hn
  clear h hp hN
  go_enter Tryd.func21, Tryd.ntmps21
  go_wp2_with fail
  go_loopw [3, 4] (fun t3 t4 wx => ∃ k s : Nat, k ≤ n ∧ s ≤ 1048576 ∧ t3 = .int .i64 s ∧ t4 = .int .i64 k ∧ Hid (tot7 (xs.take k) = s ∧ wx = w)) (fun _ t4 _ => n - (intOf t4).toNat)
  case atStart => exact ⟨0, 0, Nat.zero_le _, Nat.zero_le _, rfl, rfl, rfl, rfl⟩
  case round =>
    obtain ⟨k, s, hk, hs, rfl, rfl, HK⟩ := hrel
    obtain ⟨HT, hw⟩ := HK
    have HT' : Hid (tot7 (xs.take k) = s) := HT
    clear HT
    subst hw
    by_cases hlt : k < n
    · have hlti : (k : Int) < n := by omega
      obtain ⟨y, hy⟩ : ∃ y, xs[k]? = some y := ⟨_, List.getElem?_eq_getElem (by have := HN.out; omega)⟩
      obtain ⟨b, off, rfl, hl, _, _, hc, _⟩ := HB.out.1 k y hy
      have hpl : y.pl ≤ 140737488355328 := HB.out.2 y (List.mem_of_getElem? hy)
      have HS : Hid (tot7 (xs.take (k + 1)) = s + y.pl + 2) := by unfold Hid; rw [tot7_snoc hy, HT'.out]; omega
      obtain ⟨kd, nn, po, pl, pc, q0, q1, q2, q3, bs⟩ := y
      simp only at hc hpl HS
      clear hy hl
      have hsi : (s : Int) ≤ 1048576 := by omega
      have hpi : (pl : Int) ≤ 140737488355328 := by omega
      clear hs hpl
      by_cases hg : (s : Int) + pl + 2 ≤ 1048576
      · have hgb : decide ((1048576 : Int) < s + pl + 2) = false := decide_eq_false (by omega)
        go_wp2_with fail
        go_roundw
        case rel => exact ⟨k + 1, s + pl + 2, hlt, by omega, by go_num, by go_num, HS.out, trivial⟩
        case measure => simp [intOf]; omega
      · have hgb : decide ((1048576 : Int) < s + pl + 2) = true := decide_eq_true (by omega)
        have hgc : (1048576 : Int) < s + pl + 2 := by omega
        clear hg
        go_wp2_with fail
        go_ret
        exact ⟨false, rfl, (fun h => by cases h), rfl⟩
    · have hlti : ¬ (k : Int) < n := by omega
      have HE : Hid (tot7 xs ≤ 1048576) := by
        have e1 := HT'.out
        have e2 := HN.out
        rw [List.take_of_length_le (by omega)] at e1
        unfold Hid; omega
      go_wp2_with fail
      go_ret
      exact ⟨true, rfl, fun _ => HE.out, rfl⟩
section
variable {w x wt : World} {T : Nat → Prop} {r K L g p : Nat} {base rs : List (List Int)} {v : Value} {vs : List Value} {kd nn tk0 tz0 tk1 tz1 : Int} {po : Option Addr} {pl pc : Nat} {d : List Int}
theorem act_any (h : CmI w T wt r K L g base rs p v vs (base ++ rs) ((base.length + p : Nat) : Int) x) (hH : Halves w) (hg : g + 1 < 4611686018427387904) (hnn : nn ≤ 9223372036854775807) (hb : Byts w po pl d) (hr : Rng d) (hpo : po = none → pc = 0) (hs : lays (base ++ rs) + (pl + 2) ≤ 1048576) :
    Calls Tryd.prog 22 #[.pointer (some ⟨r, 0, none⟩), .agg #[.int .i64 kd, .int .i64 nn, .slice po pl pc, .int .i64 tk0, .int .i64 tz0, .int .i64 tk1, .int .i64 tz1]] x (AcQ w T wt r K g (base ++ rs) (pl + 2)) := by
  by_cases h0 : kd = 0
  · by_cases hp : pl = 0 ∨ 20000 < pl
    · exact act_skip0 h hH hg h0 hp
    · exact act_append0 h hH hg h0 hb hr hpo (by omega) (by omega) hs
  by_cases h9 : kd = 9
  · by_cases hp : pl = 0 ∨ 20000 < pl
    · exact act_skip9 h hH hg h9 hp
    · exact act_append9 h hH hg h9 hb hr hpo (by omega) (by omega) hs
  by_cases h1 : kd = 1
  · exact act_sync h hH hg h1
  by_cases h2 : kd = 2
  · exact act_compact h hH hg h2
  by_cases h5 : kd = 5
  · exact act_fuse h hH hg h5 hnn
  by_cases h4 : kd = 4
  · exact act_open h hH hg h4
  by_cases h6 : kd = 6
  · exact act_crash h hH hg h6
  · exact act_other h hH hg rfl h0 h1 h2 h4 h5 h6 h9
end
theorem cm_start (w : World) (hH : Halves w) : Calls Tryd.prog 8 #[] w fun e w' => ∃ r K L, e = .returned (.tuple #[.pointer (some ⟨r, 0, none⟩), .bool true]) ∧ CmI w (fun _ => False) w r K L 1 [] [] 0 (.slice none 0 0) [] [] 0 w' := by
  refine (begin_full w hH).mono ?_
  rintro e w' ⟨r, K, L, u0, u1, rfl, hl, hb, hc, hfr, hf, hn, hg, hlt⟩
  refine ⟨r, K, L, rfl, ⟨by omega, by omega, fun d hd => (by cases hd), by simp [lays]⟩, Nat.le_refl _, u0, u1, -1, 1, 1, 2, ?_, ⟨hb, hc 0, hc 1, hc 2, hc 3, hfr, hg, fun g => g.elim hf hn, VRow.nil _ _ _, fun q hq => (by cases hq), ⟨rfl, fun j u d hu => (by simp at hu)⟩, fun j b o n c hu => (by simp at hu), fun b hb => hb.elim⟩⟩
  have e1 : sgT (1 % 2) (genB 1 (laid []) []) [] (30 + lays [] + sizes (([] : List (List Int)).take 0)) 0 false (-1) 1 1 2 = sgB := by simp [sgT, genB, laid, lays, sizes, recsB, sgB]
  rw [e1]
  exact hl
end Go.Proofs.YtfkcnnjkflomkaaDoor

/-
  The law WalCommits, walked: its loop.
-/
namespace Go.Proofs.YtfkcnnjkflomkaaDoor
open Go.RowKit Go.BigFrame

set_option maxRecDepth 100000 in
set_option maxHeartbeats 16000000 in
theorem commits_law {ao : Option Addr} {cap : Nat} {xs : List Opw} (w : World) (h : Ops7 w ao xs) (hn : xs.length ≤ maxLen) (hp : ∀ y ∈ xs, y.pl ≤ 140737488355328 ∧ (y.po = none → y.pc = 0) ∧ (∀ z ∈ y.bs, 0 ≤ z ∧ z ≤ 255) ∧ y.nn ≤ 9223372036854775807) (hH : Halves w) :
    Calls Tryd.prog 7 #[.slice ao xs.length cap] w fun e w' => e = .returned (.bool true) ∧ Below w.heap.size w w' := by
  have HB : Hid (Ops7 w ao xs ∧ (∀ y ∈ xs, y.pl ≤ 140737488355328 ∧ (y.po = none → y.pc = 0) ∧ (∀ z ∈ y.bs, 0 ≤ z ∧ z ≤ 255) ∧ y.nn ≤ 9223372036854775807) ∧ Halves w) := ⟨h, hp, hH⟩
  have HNm : Hid (xs.length ≤ maxLen) := hn
  have HG : Hid (Calls Tryd.prog 8 #[] w fun e w' => ∃ r K L, e = .returned (.tuple #[.pointer (some ⟨r, 0, none⟩), .bool true]) ∧ CmI w (fun _ => False) w r K L 1 [] [] 0 (.slice none 0 0) [] [] 0 w') := cm_start w hH
  obtain ⟨N, hxl⟩ : ∃ n, xs.length = n := ⟨_, rfl⟩
  have HN : Hid (xs.length = N) := hxl
  rw [hxl] at hn ⊢
  unfold maxLen at hn
  have hni : (N : Int) ≤ 9223372036854775807 := by omega
  clear h hp hxl hH hn
  go_enter Tryd.func7, Tryd.ntmps7
  go_wp2_with fail
  refine HG.out.mono ?_
  rintro e w1 ⟨r, K, L, rfl, hI⟩
  have HI : Hid (CmI w (fun _ => False) w r K L 1 [] [] 0 (.slice none 0 0) [] [] 0 w1) := hI
  have HBl : Hid (Below w.heap.size w w1) := by obtain ⟨P, hm⟩ := hI.mem; exact hm.bl
  have HFi : Hid (Calls Tryd.prog 21 #[.slice ao N cap] w1 (FiQ xs w1)) := by
    have := fits_any (cap := cap) w1 (ops7_below HB.out.1 HBl.out) HNm.out (fun y hy => (HB.out.2.1 y hy).1)
    rw [HN.out] at this
    exact this
  clear hI HG
  go_wp2_with fail
  refine HFi.out.mono ?_
  rintro e w2 ⟨q, rfl, hq, rfl⟩
  clear HFi
  cases q with
  | false =>
    go_wp2_with fail
    go_ret
    exact ⟨rfl, HBl.out⟩
  | true =>
    have HTot : Hid (tot7 xs ≤ 1048576 ∧ N ≤ 524288) := by
      have h1 := hq rfl
      have h2 := tot7_two xs
      have h3 := HN.out
      exact ⟨h1, by omega⟩
    clear hq
    go_wp2_with fail
    go_loopw [5] (fun t5 wx => ∃ (j g : Nat) (base rs : List (List Int)) (p L : Nat) (v : Value) (vs : List Value), j ≤ N ∧ t5 = .int .i64 j ∧ Hid (CmI w (fun _ => False) w r K L g base rs p v vs (base ++ rs) ((base.length + p : Nat) : Int) wx ∧ g ≤ 1 + j ∧ lays (base ++ rs) ≤ tot7 (xs.take j))) (fun t5 _ => N - (intOf t5).toNat)
    case atStart => exact ⟨0, 1, [], [], 0, L, .slice none 0 0, [], by omega, rfl, HI.out, by omega, by simp [lays]⟩
    case round =>
      obtain ⟨j, g, base, rs, p, L', v, vs, hj, rfl, HK⟩ := hrel
      by_cases hlt : j < N
      · have hlti : (j : Int) < N := by omega
        obtain ⟨y, hy⟩ : ∃ y, xs[j]? = some y := ⟨_, List.getElem?_eq_getElem (by have := HN.out; omega)⟩
        obtain ⟨b, off, rfl, hlb, k0, k1, k2, k3, k4, k5, k6, hby⟩ := HB.out.1 j y hy
        have hpy := HB.out.2.1 y (List.mem_of_getElem? hy)
        obtain ⟨P1, hm1⟩ := HK.out.1.mem
        have hbw := hm1.bl
        have c0 := below_cell hbw k0
        have c1 := below_cell hbw k1
        have c2 := below_cell hbw k2
        have c3 := below_cell hbw k3
        have c4 := below_cell hbw k4
        have c5 := below_cell hbw k5
        have c6 := below_cell hbw k6
        have HTt : Hid (tot7 (xs.take (j + 1)) = tot7 (xs.take j) + (y.pl + 2) ∧ tot7 (xs.take (j + 1)) ≤ 1048576) := ⟨tot7_snoc hy, Nat.le_trans (tot7_le _ _) HTot.out.1⟩
        have HAc : Hid (Calls Tryd.prog 22 #[.pointer (some ⟨r, 0, none⟩), .agg #[.int .i64 y.kd, .int .i64 y.nn, .slice y.po y.pl y.pc, .int .i64 y.t0, .int .i64 y.t1, .int .i64 y.t2, .int .i64 y.t3]] wr (AcQ w (fun _ => False) w r K g (base ++ rs) (y.pl + 2))) := act_any HK.out.1 HB.out.2.2 (by have := HK.out.2.1; have := HTot.out.2; omega) hpy.2.2.2 hby hpy.2.2.1 hpy.2.1 (by have := HK.out.2.2; have := HTt.out; omega)
        obtain ⟨kd, nn, po, pl, pc, q0, q1, q2, q3, bs⟩ := y
        simp only at c0 c1 c2 c3 c4 c5 c6 HTt HAc
        clear hy hlb k0 k1 k2 k3 k4 k5 k6 hby hpy hm1 hbw
        go_wp2_with fail
        refine HAc.out.mono ?_
        rintro e w3 ⟨rfl, g', base', rs', p', L2, v', vs', hg1, hg2, hly, hI3⟩
        have HK3 : Hid (CmI w (fun _ => False) w r K L2 g' base' rs' p' v' vs' (base' ++ rs') ((base'.length + p' : Nat) : Int) w3 ∧ g' ≤ 1 + (j + 1) ∧ lays (base' ++ rs') ≤ tot7 (xs.take (j + 1))) := ⟨hI3, by have := HK.out.2.1; omega, by have := HK.out.2.2; have := HTt.out.1; omega⟩
        clear hI3 hg1 hg2 hly HAc
        go_wp2_with fail
        go_roundw
        case rel => exact ⟨j + 1, g', base', rs', p', L2, v', vs', by omega, by go_num, HK3.out⟩
        case measure => simp [intOf]; omega
      · have hlti : ¬ (j : Int) < N := by omega
        obtain ⟨P1, hm1⟩ := HK.out.1.mem
        have c0 := hm1.r0
        have HFu : Hid (Calls Tryd.prog 18 #[.pointer (some ⟨K, 0, none⟩), .int .i64 (-1)] wr fun e w' => e = .returned (.tuple #[]) ∧ CmI w (fun _ => False) w r K L' g base rs p v vs (base ++ rs) ((base.length + p : Nat) : Int) w') := cm_fuse HK.out.1 (by omega)
        clear hm1
        go_wp2_with fail
        refine HFu.out.mono ?_
        rintro e w3 ⟨rfl, hI3⟩
        have HCr : Hid (Calls Tryd.prog 23 #[.pointer (some ⟨r, 0, none⟩), .agg #[.int .i64 0, .int .i64 0, .int .i64 0, .int .i64 0], .bool false] w3 (CrQ w (fun _ => False) w r K g (base ++ rs) (base.length + p))) := crash_any hI3.x (by rw [List.take_length]) (Int.le_refl _) hI3.1.ly HB.out.2.2 (by have := HK.out.2.1; have := HTot.out.2; omega) (fun e => by cases e)
        clear hI3 HFu
        go_wp2_with fail
        refine HCr.out.mono ?_
        rintro e w4 ⟨rfl, hf⟩
        have HB4 : Hid (Below w.heap.size w w4) := by
          obtain ⟨g', base', rs', M, L2, v', vs', _, _, _, _, _, _, hI4⟩ := hf
          obtain ⟨P4, hm4⟩ := hI4.mem
          exact hm4.bl
        clear hf
        go_wp2_with fail
        go_ret
        exact ⟨rfl, HB4.out⟩
end Go.Proofs.YtfkcnnjkflomkaaDoor

/-
  Arguments opened: the script of WalCommits.
-/
namespace Go.Proofs.YtfkcnnjkflomkaaDoor
open Go.ChangeShapes Go.WideShapes Go.ChangeAt Go.RowKit Go.Deep

theorem cellsOp7 : Tryd.prog.cellsOf 63 = 7 := by kernel_rfl
section
variable {H : Type} {enc : TypeId × Value → H} {W : World} {base : Nat} {spare : Nat → Bool} {held : Bool}
theorem cells_at7 {a : Addr} {n : Nat} {cs : List Value} (h : W.cells? base a n = some cs) (hn : 0 < n) : ∃ b o, a = ⟨b, o, none⟩ ∧ ∀ j v, cs[j]? = some v → W.cell? ⟨b, o + j, none⟩ = some v := by
  obtain ⟨_, hlen, hc⟩ := World.cells?_some h
  obtain ⟨b, o, sp⟩ := a
  have h0 := hc 0 hn
  rw [List.getElem?_eq_getElem (by omega)] at h0
  have hs : sp = none := by simpa [Addr.add] using World.cell?_spot h0
  subst hs
  refine ⟨b, o, rfl, fun j v hv => ?_⟩
  have hj : j < n := by rw [← hlen]; exact (List.getElem?_eq_some_iff.1 hv).1
  have := hc j hj
  rw [Addr.add_lit] at this
  rw [this, hv]
theorem seven {α : Type} {l : List α} (h : l.length = 7) : ∃ c0 c1 c2 c3 c4 c5 c6, l = [c0, c1, c2, c3, c4, c5, c6] := by
  match l, h with
  | [c0, c1, c2, c3, c4, c5, c6], _ => exact ⟨c0, c1, c2, c3, c4, c5, c6, rfl⟩
theorem int_le {n : Nat} {c : Value} {x : DataW H × List MemPlace} (h : DataW.trod enc Tryd.prog W base spare held n 3 [c] = some x) : ∃ k, c = .int .i64 k ∧ k ≤ 9223372036854775807 := by
  obtain ⟨k, e, _, hw⟩ := DataW.trod_int Tryd.underlying3 h
  refine ⟨k, List.head_eq_of_cons_eq e, ?_⟩
  simp [Lit.wf, IntKind.min, IntKind.max, IntKind.signed, IntKind.bits] at hw
  omega
theorem open_op7 {n : Nat} {cs : List Value} {x : DataW H × List MemPlace} {b o : Nat} (h : DataW.trod enc Tryd.prog W base spare held n 63 cs = some x) (hc : ∀ j v, cs[j]? = some v → W.cell? ⟨b, o + j, none⟩ = some v) :
    ∃ y : Opw, OpAt7 W b o y ∧ (y.po = none → y.pc = 0) ∧ (∀ z ∈ y.bs, 0 ≤ z ∧ z ≤ 255) ∧ y.nn ≤ 9223372036854775807 ∧ ((∀ n ∈ x.1.weights Tryd.prog 63, n ≤ reachBytes) → y.pl ≤ 140737488355328) := by
  obtain ⟨xs, m, _, hxe, hcl, hlen, hfl⟩ := DataW.trod_struct Tryd.underlying63 h
  obtain ⟨c0, c1, c2, c3, c4, c5, c6, rfl⟩ := seven (l := cs) (by rw [hcl, cellsOp7])
  obtain ⟨x0, x1, x2, x3, rfl⟩ := tears_four (l := xs) hlen
  have g0 : DataW.trod enc Tryd.prog W base spare held m 3 [c0] = some x0 := by simpa [cellsInt1] using hfl 0 _ rfl
  have g1 : DataW.trod enc Tryd.prog W base spare held m 3 [c1] = some x1 := by simpa [cellsInt1] using hfl 1 _ rfl
  have g2 : DataW.trod enc Tryd.prog W base spare held m 28 [c2] = some x2 := by simpa [cellsBytes1] using hfl 2 _ rfl
  have g3 : DataW.trod enc Tryd.prog W base spare held m 52 [c3, c4, c5, c6] = some x3 := by simpa [cellsTears] using hfl 3 _ rfl
  obtain ⟨kd, rfl⟩ := one_int1 g0
  obtain ⟨nn, rfl, hnn⟩ := int_le g1
  obtain ⟨po, pl, pc, bs, e4, hB, hpl, hpc, _, hw4, hrr⟩ := open_bytes g2
  obtain rfl := List.head_eq_of_cons_eq e4
  obtain ⟨t0, t1, t2, t3, rfl, rfl, rfl, rfl⟩ := open_tears1 g3
  refine ⟨⟨kd, nn, po, pl, pc, t0, t1, t2, t3, bs⟩, ⟨cell_lt (hc 0 _ rfl), hc 0 _ rfl, hc 1 _ rfl, hc 2 _ rfl, hc 3 _ rfl, hc 4 _ rfl, hc 5 _ rfl, hc 6 _ rfl, hB⟩, hpc, hrr, hnn, fun hw => ?_⟩
  rcases hw4 with h0 | ⟨el, sp, e4, hel⟩
  · show pl ≤ _
    omega
  · show pl ≤ _
    have hr : reachBytes = 140737488351232 := rfl
    have := hw ((el.length + sp.length) * Tryd.prog.bytesOf 5) (by
      rw [hxe]
      simp only [DataW.weights, Tryd.underlying63]
      refine DataW.weights_mem_each (j := 2) (t := 28) (d := x2.1) rfl rfl _ ?_
      rw [e4]
      simp [DataW.weights, Tryd.underlying28])
    rw [bytesU8] at this
    omega
theorem open_ops7 {n : Nat} {cs : List Value} {x : DataW H × List MemPlace} (h : DataW.trod enc Tryd.prog W base spare held n 59 cs = some x) :
    ∃ ao cap xs, cs = [.slice ao xs.length cap] ∧ Ops7 W ao xs ∧ xs.length ≤ maxLen ∧ ∀ y ∈ xs, (y.po = none → y.pc = 0) ∧ (∀ z ∈ y.bs, 0 ≤ z ∧ z ≤ 255) ∧ y.nn ≤ 9223372036854775807 ∧ ((∀ n ∈ x.1.weights Tryd.prog 59, n ≤ reachBytes) → y.pl ≤ 140737488355328) := by
  rcases open_slice Tryd.underlying59 h with ⟨rfl, _⟩ | ⟨a, len, cap, m, n', D, Pl, rfl, _, hl, hm, hmm, hxe, hx⟩
  · exact ⟨none, 0, [], rfl, fun k x hk => (by simp at hk), Nat.zero_le _, fun y hy => (by cases hy)⟩
  · have hlm : len ≤ m := by rw [hmm]; split <;> omega
    have key : ∀ k, k < len → ∃ y : Opw, (∃ b off, a = ⟨b, off, none⟩ ∧ OpAt7 W b (off + k * 7) y) ∧ (y.po = none → y.pc = 0) ∧ (∀ z ∈ y.bs, 0 ≤ z ∧ z ≤ 255) ∧ y.nn ≤ 9223372036854775807 ∧ ((∀ n ∈ (D k).weights Tryd.prog 63, n ≤ reachBytes) → y.pl ≤ 140737488355328) := by
      have hsp : 0 < len → a.spot = none := fun h0 => by
        obtain ⟨cs', h1, _⟩ := hx 0 (by omega)
        rw [Nat.zero_mul] at h1
        obtain ⟨b, o, e, _⟩ := cells_at7 h1 (by rw [cellsOp7]; decide)
        have : a.add 0 = a := rfl
        rw [this] at e; rw [e]
      intro k hk
      obtain ⟨b, off, sp⟩ := a
      obtain rfl : sp = none := hsp (by omega)
      obtain ⟨cs', h1, h2⟩ := hx k (by omega)
      rw [cellsOp7] at h1
      obtain ⟨b', o', e, hc⟩ := cells_at7 h1 (by decide)
      rw [Addr.add_lit] at e
      obtain ⟨rfl, rfl⟩ : b = b' ∧ off + k * 7 = o' := by simpa using e
      obtain ⟨y, hy, hp⟩ := open_op7 h2 hc
      exact ⟨y, ⟨b, off, rfl, hy⟩, hp⟩
    haveI : Inhabited Opw := ⟨⟨0, 0, none, 0, 0, 0, 0, 0, 0, []⟩⟩
    obtain ⟨Y, hY⟩ := choose_lt (α := Opw) (p := fun k y => (∃ b off, a = ⟨b, off, none⟩ ∧ OpAt7 W b (off + k * 7) y) ∧ (y.po = none → y.pc = 0) ∧ (∀ z ∈ y.bs, 0 ≤ z ∧ z ≤ 255) ∧ y.nn ≤ 9223372036854775807 ∧ ((∀ n ∈ (D k).weights Tryd.prog 63, n ≤ reachBytes) → y.pl ≤ 140737488355328)) key
    refine ⟨some a, cap, (List.range len).map Y, by simp, fun k x hk => ?_, by simp; omega, fun y hy => ?_⟩
    · simp only [List.getElem?_map, Option.map_eq_some_iff] at hk
      obtain ⟨i, hi, rfl⟩ := hk
      obtain ⟨hi1, hi2⟩ := List.getElem?_eq_some_iff.1 hi
      simp at hi1 hi2
      subst hi2
      obtain ⟨⟨b, off, e, ho⟩, _⟩ := hY k hi1
      exact ⟨b, off, by rw [e], ho⟩
    · obtain ⟨i, hi, rfl⟩ := List.mem_map.1 hy
      have hy2 := (hY i (List.mem_range.1 hi)).2
      refine ⟨hy2.1, hy2.2.1, hy2.2.2.1, fun hw => hy2.2.2.2 fun n hn => hw n ?_⟩
      rw [hxe]
      simp only [DataW.weights, Tryd.underlying59]
      exact List.mem_cons_of_mem _ (List.mem_append_left _ (weights_mem_all (List.mem_map_of_mem hi) n hn))
end
end Go.Proofs.YtfkcnnjkflomkaaDoor
