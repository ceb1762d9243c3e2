import Derived.Test.YtdglnobapnohmaaDoorWhRef4
/-
  The document's wheel: Advance.
-/
namespace Go.Proofs.YtdglnobapnohmaaDoor
open Go.RowKit

set_option maxRecDepth 100000 in
set_option maxHeartbeats 1000000 in
theorem radv_range {w : World} {rb now : Nat} {S : List Tm} {a : Option Addr} {n c : Nat} (h : RWl w rb now S a n c) (t : Int) (ht : t < now ∨ 1099511627776 < t) :
    Calls Tryd.prog 16 #[.pointer (some ⟨rb, 0, none⟩), .int .i64 t] w fun e w' => e = .returned (.tuple #[.slice none 0 0, .int .i64 2]) ∧ Below w.heap.size w w' := by
  have cr := h.cell
  clear h
  obtain ⟨N, hN⟩ : ∃ N : Int, (now : Int) = N := ⟨_, rfl⟩
  rw [hN] at cr ht
  clear hN
  by_cases h1 : t < N
  · have h1d : decide (t < N) = true := decide_eq_true h1
    go_enter Tryd.func16, Tryd.ntmps16
    go_wp2_with fail
    refine bodyPost_ret (v := .tuple #[.slice none 0 0, .int .i64 2]) ?_ rfl ⟨rfl, Below.refl _ _⟩
    simp [results, Tryd.results16, go_sem]
  · have h2 : 1099511627776 < t := by omega
    go_enter Tryd.func16, Tryd.ntmps16
    go_wp2_with fail
    refine bodyPost_ret (v := .tuple #[.slice none 0 0, .int .i64 2]) ?_ rfl ⟨rfl, Below.refl _ _⟩
    simp [results, Tryd.results16, go_sem]
/-- Two lists of one's own, apart. -/
structure TwoR (w wx : World) (v1 v2 : Value) (xs ys : List Tm) : Prop where
  r1 : RRow wx w.heap.size v1 xs
  r2 : RRow wx w.heap.size v2 ys
  b : Below w.heap.size w wx
  ap : ∀ g, v1.ownBlock = some g → v2.ownBlock ≠ some g
theorem TwoR.swap {w wx : World} {v1 v2 : Value} {xs ys : List Tm} (h : TwoR w wx v1 v2 xs ys) : TwoR w wx v2 v1 ys xs := ⟨h.r2, h.r1, h.b, fun g h1 h2 => h.ap g h2 h1⟩
theorem TwoR.push {w wr : World} {n1 c1 : Nat} {a1 : Option Addr} {v2 : Value} {xs ys : List Tm} (h : TwoR w wr (.slice a1 n1 c1) v2 xs ys) (k : Int) (t : Nat) (hl : xs.length ≤ 1000000) :
    ∃ a2 c2 W1, (Builtin.append_ #[28, 28] 28 #[.slice a1 n1 c1, .slice (some ⟨wr.heap.size, 0, none⟩) 1 1]).run Tryd.prog (wr.alloc (.cells #[.int .i64 k, .string ⟨#[]⟩, .int .i64 (t : Int)] 100)) = .ok (.slice a2 (n1 + 1) c2) W1 ∧ Hid (TwoR w W1 (.slice a2 (n1 + 1) c2) v2 (xs ++ [(k, t)]) ys) := by
  obtain ⟨a2, c2, W1, hap, r1, o1, b1⟩ := run_epush (P := Tryd.prog) (t := 28) Tryd.underlying28 celR encR_len encR_one (w := wr) h.r1 (k, t) #[.int .i64 k, .string ⟨#[]⟩, .int .i64 (t : Int)] rfl (by omega) (by omega) h.b.size
  rw [← ERow.len h.r1] at hap r1 b1
  refine ⟨a2, c2, W1, hap, r1, ERow.off h.r2 o1 (fun g hg e => h.ap g e hg), h.b.trans (o1.below h.b.size fun q e => (ERow.lt h.r1 e).1), fun g hg e => ?_⟩
  rcases b1 with b1 | b1
  · rw [b1] at hg
    exact h.ap g hg e
  · rw [b1] at hg
    have h1 := (ERow.lt h.r2 e).2
    have : g = wr.heap.size + 1 := (Option.some.inj hg).symm
    omega
theorem filt_take {S : List Tm} {i : Nat} {x : Tm} (hx : S[i]? = some x) (f : Tm → Bool) : (S.take (i + 1)).filter f = (S.take i).filter f ++ (if f x = true then [x] else []) := by
  rw [List.take_add_one, hx, List.filter_append]
  congr 1
  simp only [Option.toList_some]
  by_cases h : f x = true
  · rw [List.filter_cons_of_pos h, if_pos h]; rfl
  · rw [List.filter_cons_of_neg h, if_neg h]; rfl
theorem filt_len {S : List Tm} (i : Nat) (f : Tm → Bool) : ((S.take i).filter f).length ≤ S.length := by
  have h1 := List.length_filter_le f (S.take i)
  rw [List.length_take] at h1
  omega
set_option maxRecDepth 100000 in
set_option maxHeartbeats 2000000 in
theorem radv_ok {w : World} {rb now : Nat} {S : List Tm} {a : Option Addr} {n c : Nat} (h : RWl w rb now S a n c) (t : Nat) (h1 : now ≤ t) (h2 : t ≤ 1099511627776) (hl : S.length ≤ 1000000) :
    Calls Tryd.prog 16 #[.pointer (some ⟨rb, 0, none⟩), .int .i64 (t : Int)] w fun e w' => ∃ a1 n1 c1, e = .returned (.tuple #[.slice a1 n1 c1, .int .i64 0]) ∧ RRow w' w.heap.size (.slice a1 n1 c1) (S.filter (upto t)) ∧ RWQ w rb t (S.filter (past t)) w' := by
  have cr := h.cell
  have hn := h.row.len
  have hnl : (n : Int) ≤ 1000000 := by omega
  obtain ⟨N, hN⟩ : ∃ N : Int, (now : Int) = N := ⟨_, rfl⟩
  rw [hN] at cr
  obtain ⟨T, hT⟩ : ∃ N : Int, (t : Int) = N := ⟨_, rfl⟩
  have q1 : ¬ T < N := by omega
  have q2 : ¬ T > 1099511627776 := by omega
  rw [hT]
  have HR : Hid (RWl w rb now S a n c ∧ S.length ≤ 1000000 ∧ n = S.length ∧ (t : Int) = T) := ⟨h, hl, hn, hT⟩
  clear h hl hn h1 h2
  go_enter Tryd.func16, Tryd.ntmps16
  go_wp2_with fail
  clear cr
  go_loopw [6, 7, 8] (fun t6 t7 t8 wx => ∃ (i : Nat) (a1 : Option Addr) (n1 c1 : Nat) (a2 : Option Addr) (n2 c2 : Nat), i ≤ n ∧ t8 = .int .i64 (i : Int) ∧ t6 = .slice a1 n1 c1 ∧ t7 = .slice a2 n2 c2 ∧ Hid (TwoR w wx (.slice a1 n1 c1) (.slice a2 n2 c2) ((S.take i).filter (upto t)) ((S.take i).filter (past t)))) (fun _ _ t8 _ => n - (intOf t8).toNat)
  case atStart => exact ⟨0, none, 0, 0, none, 0, 0, Nat.zero_le _, rfl, rfl, rfl, ERow.nil _ _ _ _ _, ERow.nil _ _ _ _ _, Below.refl _ _, fun g h => by cases h⟩
  case round =>
    obtain ⟨i, a1, n1, c1, a2, n2, c2, hi, rfl, rfl, rfl, HJ⟩ := hrel
    have cr := (HR.out.1.below HJ.out.b).cell
    by_cases hlt : i < n
    · have hlt1 : (i : Int) < n := by omega
      obtain ⟨⟨k, u⟩, hx⟩ : ∃ x, S[i]? = some x := ⟨_, List.getElem?_eq_getElem (by have := HR.out.2.2.1; omega)⟩
      obtain ⟨g, rfl, hg, hcg⟩ := HR.out.1.row.at_ encR_len hx
      have c0 : wr.cell? ⟨g, i * 3, none⟩ = some (.int .i64 k) := (HJ.out.b.cell (p := ⟨g, i * 3, none⟩) hg).trans (hcg 0 (by omega))
      have c1' : wr.cell? ⟨g, i * 3 + 1, none⟩ = some (.string ⟨#[]⟩) := (HJ.out.b.cell (p := ⟨g, i * 3 + 1, none⟩) hg).trans (hcg 1 (by omega))
      have c2' : wr.cell? ⟨g, i * 3 + 2, none⟩ = some (.int .i64 (u : Int)) := (HJ.out.b.cell (p := ⟨g, i * 3 + 2, none⟩) hg).trans (hcg 2 (by omega))
      by_cases hk : u ≤ t
      · obtain ⟨a3, c3, W1, hap, HN0⟩ := HJ.out.push k u (by have := filt_len (S := S) i (upto t); have := HR.out.2.1; omega)
        have HN : Hid (TwoR w W1 (.slice a3 (n1 + 1) c3) (.slice a2 n2 c2) ((S.take (i + 1)).filter (upto t)) ((S.take (i + 1)).filter (past t))) := by
          have e1 := filt_take hx (upto t)
          have e2 := filt_take hx (past t)
          rw [if_pos (show upto t (k, u) = true from decide_eq_true (by omega))] at e1
          rw [if_neg (show ¬ past t (k, u) = true by unfold past; simp; omega), List.append_nil] at e2
          rw [e1, e2]
          exact HN0.out
        obtain ⟨U, hU⟩ : ∃ U : Int, (u : Int) = U := ⟨_, rfl⟩
        rw [hU] at c2' hap
        have d1 : U ≤ T := by omega
        clear hcg hx HJ HN0 hg hU hk q1 q2
        go_wp2_with (at_builtin; refine wpList_append_run rfl (.tmp 43) (.tmp 51) 28 _ rfl hap ?_)
        go_roundw
        case rel => exact ⟨i + 1, a3, n1 + 1, c3, a2, n2, c2, hlt, by go_num, rfl, rfl, HN.out⟩
        case measure => simp [intOf]; omega
      · obtain ⟨a3, c3, W1, hap, HN0⟩ := HJ.out.swap.push k u (by have := filt_len (S := S) i (past t); have := HR.out.2.1; omega)
        have HN : Hid (TwoR w W1 (.slice a1 n1 c1) (.slice a3 (n2 + 1) c3) ((S.take (i + 1)).filter (upto t)) ((S.take (i + 1)).filter (past t))) := by
          have e1 := filt_take hx (upto t)
          have e2 := filt_take hx (past t)
          rw [if_neg (show ¬ upto t (k, u) = true by unfold upto; simp; omega), List.append_nil] at e1
          rw [if_pos (show past t (k, u) = true from decide_eq_true (by omega))] at e2
          rw [e1, e2]
          exact HN0.out.swap
        obtain ⟨U, hU⟩ : ∃ U : Int, (u : Int) = U := ⟨_, rfl⟩
        rw [hU] at c2' hap
        have d1 : ¬ U ≤ T := by omega
        clear hcg hx HJ HN0 hg hU hk q1 q2
        go_wp2_with (at_builtin; refine wpList_append_run rfl (.tmp 53) (.tmp 61) 28 _ rfl hap ?_)
        go_roundw
        case rel => exact ⟨i + 1, a1, n1, c1, a3, n2 + 1, c3, hlt, by go_num, rfl, rfl, HN.out⟩
        case measure => simp [intOf]; omega
    · have hlt1 : ¬ (i : Int) < n := by omega
      have HF : Hid (TwoR w wr (.slice a1 n1 c1) (.slice a2 n2 c2) (S.filter (upto t)) (S.filter (past t))) := by
        have := HJ.out
        rwa [List.take_of_length_le (by have := HR.out.2.2.1; omega)] at this
      have hb := (HR.out.1.below HJ.out.b).box
      have HB : Hid (Box wr rb #[.bool true, .int .i64 (now : Int), .slice a n c]) := hb
      have fr := hb.free
      have cs : ∀ v o, (wr.setCell ⟨rb, 1, none⟩ v).cell? ⟨rb, o, none⟩ = ((#[.bool true, .int .i64 (now : Int), .slice a n c] : Array Value).set! 1 v)[o]? := fun v => (hb.pPut (j := 1) (by simp) v).cell
      clear HJ hb
      go_wp2_with fail
      have o1 : Off (fun g => g = rb) wr ((wr.setCell ⟨rb, 1, none⟩ (.int .i64 T)).setCell ⟨rb, 2, none⟩ (.slice a2 n2 c2)) := Off.setCell (P := fun g => g = rb) (p := ⟨rb, 2, none⟩) (Off.setCell (P := fun g => g = rb) (p := ⟨rb, 1, none⟩) (Off.refl _ _) rfl _) rfl _
      have hbx := (HB.out.pPut (j := 1) (by simp) (.int .i64 T)).pPut (j := 2) (by simp) (.slice a2 n2 c2)
      have hrb : rb < w.heap.size := HR.out.1.lt
      have key : ∀ {v : Value} {xs : List Tm}, RRow wr w.heap.size v xs → RRow ((wr.setCell ⟨rb, 1, none⟩ (.int .i64 T)).setCell ⟨rb, 2, none⟩ (.slice a2 n2 c2)) w.heap.size v xs := fun hr => ERow.off hr o1 fun g hg e => by have := (ERow.lt hr hg).1; omega
      refine bodyPost_ret (v := .tuple #[.slice a1 n1 c1, .int .i64 0]) ?_ rfl ⟨a1, n1, c1, rfl, key HF.out.r1, a2, n2, c2, ⟨?_, hbx.free, hbx.lt, ERow.base (key HF.out.r2) (by omega), typ_set (typ_set (HR.out.1.below HF.out.b).typ)⟩, (Off.of_below HF.out.b).join o1 fun _ _ g => g⟩
      · simp [results, Tryd.results16, go_sem]
      · rw [HR.out.2.2.2]
        exact hbx.cell
end Go.Proofs.YtdglnobapnohmaaDoor

/-
  The document's wheel: which of two stands ahead; Set refused.
-/
namespace Go.Proofs.YtdglnobapnohmaaDoor
open Go.RowKit

def ahB (a b : Tm) : Bool := decide (a.2 < b.2) || (decide (a.2 = b.2) && decide (a.1 < b.1))
theorem ahB_iff (a b : Tm) : ahB a b = true ↔ tlt a b := by unfold ahB tlt; simp
set_option maxRecDepth 100000 in
set_option maxHeartbeats 1000000 in
theorem rahead_any (k k' : Int) (t t' : Nat) (w : World) : Calls Tryd.prog 59 #[.agg #[.int .i64 k, .string ⟨#[]⟩, .int .i64 (t : Int)], .agg #[.int .i64 k', .string ⟨#[]⟩, .int .i64 (t' : Int)]] w fun e w' => e = .returned (.bool (ahB (k, t) (k', t'))) ∧ Below w.heap.size w w' := by
  have HB : Hid (Below w.heap.size w ((w.alloc (.cells #[.int .i64 k, .string ⟨#[]⟩, .int .i64 (t : Int)] 100)).alloc (.cells #[.int .i64 k', .string ⟨#[]⟩, .int .i64 (t' : Int)] 100))) := ((Below.refl w.heap.size w).alloc (Nat.le_refl _) _).alloc (by simp) _
  have ca := ((Box.new w #[.int .i64 k, .string ⟨#[]⟩, .int .i64 (t : Int)] 100).alloc (.cells #[.int .i64 k', .string ⟨#[]⟩, .int .i64 (t' : Int)] 100)).cell
  have cb := (Box.new (w.alloc (.cells #[.int .i64 k, .string ⟨#[]⟩, .int .i64 (t : Int)] 100)) #[.int .i64 k', .string ⟨#[]⟩, .int .i64 (t' : Int)] 100).cell
  rw [World.size_alloc] at cb
  obtain ⟨T, hT⟩ : ∃ N : Int, (t : Int) = N := ⟨_, rfl⟩
  obtain ⟨T', hT'⟩ : ∃ N : Int, (t' : Int) = N := ⟨_, rfl⟩
  have HE : Hid (ahB (k, t) (k', t') = (decide (T < T') || (decide (T = T') && decide (k < k')))) := by
    unfold Hid ahB
    have e1 : decide (t < t') = decide (T < T') := by rw [decide_eq_decide]; omega
    have e2 : decide (t = t') = decide (T = T') := by rw [decide_eq_decide]; omega
    simp only [e1, e2]
  rw [hT, hT'] at HB ca cb ⊢
  clear hT hT'
  by_cases h1 : T = T'
  · subst h1
    have n1 : (T != T) = false := by simp
    by_cases h2 : k = k'
    · subst h2
      have n2 : (k != k) = false := by simp
      have HR : Hid (ahB (k, t) (k, t') = false) := by unfold Hid; rw [HE.out]; simp
      go_enter Tryd.func59, Tryd.ntmps59
      go_wp2_with fail
      go_ret
      exact ⟨by rw [HR.out]; rfl, HB.out⟩
    · have n2 : (k != k') = true := by simpa using h2
      have n3 : (k == k') = false := by simpa using h2
      have HR : Hid (ahB (k, t) (k', t') = decide (k < k')) := by unfold Hid; rw [HE.out]; simp
      go_enter Tryd.func59, Tryd.ntmps59
      go_wp2_with fail
      go_ret
      exact ⟨by rw [HR.out]; rfl, HB.out⟩
  · have n1 : (T != T') = true := by simpa using h1
    have n3 : (T == T') = false := by simpa using h1
    have HR : Hid (ahB (k, t) (k', t') = decide (T < T')) := by unfold Hid; rw [HE.out]; simp [h1]
    go_enter Tryd.func59, Tryd.ntmps59
    go_wp2_with fail
    go_ret
    exact ⟨by rw [HR.out]; rfl, HB.out⟩
set_option maxRecDepth 100000 in
set_option maxHeartbeats 1000000 in
theorem rset_range {w : World} {rb now : Nat} {S : List Tm} {a : Option Addr} {n c : Nat} (h : RWl w rb now S a n c) (k t : Int) (ht : t ≤ now ∨ 1099511627776 < t) :
    Calls Tryd.prog 37 #[.pointer (some ⟨rb, 0, none⟩), .agg #[.int .i64 k, .string ⟨#[]⟩], .int .i64 t] w fun e w' => e = .returned (.int .i64 2) ∧ Below w.heap.size w w' := by
  have bv := (Below.refl w.heap.size w).alloc (Nat.le_refl _) (.cells #[.int .i64 k, .string ⟨#[]⟩] 98)
  have cr := (h.below bv).cell
  have ck := (Box.new w #[.int .i64 k, .string ⟨#[]⟩] 98).cell
  have HB : Hid (Below w.heap.size w (w.alloc (.cells #[.int .i64 k, .string ⟨#[]⟩] 98))) := bv
  obtain ⟨N, hN⟩ : ∃ N : Int, (now : Int) = N := ⟨_, rfl⟩
  rw [hN] at cr ht
  clear hN h bv
  by_cases h1 : t ≤ N
  · go_enter Tryd.func37, Tryd.ntmps37
    go_wp2_with fail
    go_ret
    exact ⟨rfl, HB.out⟩
  · have h2 : 1099511627776 < t := by omega
    go_enter Tryd.func37, Tryd.ntmps37
    go_wp2_with fail
    go_ret
    exact ⟨rfl, HB.out⟩
/-- A timer that no one of a list is behind goes to its end. -/
theorem ins_last {x : Tm} : ∀ {l : List Tm}, (∀ y ∈ l, ¬ tlt x y) → ins x l = l ++ [x]
  | [], _ => rfl
  | y :: l, h => by
    unfold ins
    rw [if_neg (h y (List.mem_cons_self ..)), ins_last fun z hz => h z (List.mem_cons_of_mem _ hz)]
    rfl
theorem ins_here {x z : Tm} : ∀ {l : List Tm}, (∀ y ∈ l, ¬ tlt x y) → tlt x z → ins x (l ++ [z]) = l ++ [x] ++ [z]
  | [], _, hz => by
    show ins x [z] = [x] ++ [z]
    unfold ins
    rw [if_pos hz]
    rfl
  | y :: l, h, hz => by
    show ins x (y :: (l ++ [z])) = _
    unfold ins
    rw [if_neg (h y (List.mem_cons_self ..)), ins_here (fun w hw => h w (List.mem_cons_of_mem _ hw)) hz]
    rfl
theorem ins_snoc {x z : Tm} : ∀ {l : List Tm}, (∃ y ∈ l, tlt x y) → ins x (l ++ [z]) = ins x l ++ [z]
  | [], h => by obtain ⟨y, hy, _⟩ := h; cases hy
  | y :: l, h => by
    show ins x (y :: (l ++ [z])) = ins x (y :: l) ++ [z]
    unfold ins
    by_cases hy : tlt x y
    · rw [if_pos hy, if_pos hy]; rfl
    · rw [if_neg hy, if_neg hy]
      obtain ⟨u, hu, hxu⟩ := h
      rcases List.mem_cons.1 hu with rfl | hu
      · exact absurd hxu hy
      · rw [ins_snoc ⟨u, hu, hxu⟩]; rfl
end Go.Proofs.YtdglnobapnohmaaDoor
