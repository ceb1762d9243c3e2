/-
  One area: read, tear.
-/
import Derived.Test.YtfkcnnjkflomkaaDoorDkArea
import Derived.Laws.CopyRow
namespace Go.Proofs.YtfkcnnjkflomkaaDoor
open Go.RowKit

theorem Row.byts {w : World} {B : Nat} {xs : List Int} {g cap len : Nat} (h : Row w B (.slice (some ⟨g, 0, none⟩) len cap) xs) {x n m : Nat} (hx : x + n ≤ xs.length) (hm : m = n) : Byts w (some ⟨g, x, none⟩) m ((xs.drop x).take n) := by
  subst hm
  obtain ⟨rfl, hc⟩ := h.cell
  refine ⟨by simp; omega, fun j hj => ⟨g, x, rfl, (h.lt rfl).2, ?_⟩⟩
  rw [hc (x + j) (by omega)]
  simp [List.getD_eq_getElem?_getD, hj]
theorem Off.below_of {P : Nat → Prop} {a b : World} (h : Off P a b) (hP : ∀ k, k < a.heap.size → ¬ P k) : Below a.heap.size a b := ⟨h.os, h.tape, h.output, h.size, fun k hk => h.block k hk (hP k hk)⟩
set_option maxRecDepth 100000 in
set_option maxHeartbeats 1000000 in
theorem read_any {B K o : Nat} {v : Value} {xs : List Int} {s : Int} (x n : Nat) (w : World) (h : Ar w B K o v xs s) (hx : x + n ≤ xs.length) :
    Calls Tryd.prog 85 #[.pointer (some ⟨K, o, none⟩), .int .i64 x, .int .i64 n] w fun e w' => ∃ r, e = .returned r ∧ Row w' w.heap.size r ((xs.drop x).take n) ∧ Below w.heap.size w w' := by
  have c0 := h.c0
  have hl := h.len
  rcases h.row.form with ⟨rfl, rfl⟩ | ⟨g, cap, rfl, _, _, h1, h2⟩
  · obtain ⟨rfl, rfl⟩ : x = 0 ∧ n = 0 := by simp at hx; omega
    clear h
    go_enter Tryd.func85, Tryd.ntmps85
    go_wp2
    go_ret
    exact ⟨_, rfl, Row.nil _ _, Below.refl _ _⟩
  · have hb : Byts w (if cap = x then some ⟨g, 0, none⟩ else some ⟨g, x, none⟩) (x + n - x) ((xs.drop x).take n) := by
      split
      · have n0 : n = 0 := by omega
        subst n0
        exact ⟨by simp, fun j hj => (by omega)⟩
      · exact h.row.byts hx (by omega)
    obtain ⟨v', w1, hr, r1, g1, b1⟩ := run_append_bytes (c := cap - x) (Row.nil w w.heap.size) hb (fun e => by split at e <;> cases e) (by simp; omega) (Nat.le_refl _) 28
    have H : Hid (Row w1 w.heap.size v' ((xs.drop x).take n) ∧ Below w.heap.size w w1) := ⟨r1, (Off.of_grown g1).below_of fun k _ e => by cases e⟩
    obtain ⟨a', n', cp', rfl⟩ : ∃ a n cp, v' = .slice a n cp := by
      rcases r1.form with ⟨rfl, _⟩ | ⟨g, cap, rfl, _⟩
      · exact ⟨_, _, _, rfl⟩
      · exact ⟨_, _, _, rfl⟩
    clear h hb r1 g1 b1
    go_enter Tryd.func85, Tryd.ntmps85
    go_wp2_with (at_builtin; refine wpList_append_run rfl (.const (.slice none 0 0)) (.tmp 15) 28 _ rfl hr ?_)
    all_goals (go_ret; exact ⟨_, rfl, H.out⟩)
theorem zero_u8 (z : Nat) : (Builtin.zeroCells (Value.int .u8 0).cells z).toList = u8s (List.replicate z 0) := by
  simp [Builtin.zeroCells, u8s, Value.cells]
  apply List.ext_getElem
  · simp
  · intro i h1 h2
    simp [Nat.mod_one]
theorem Off.setRow (w : World) (g : Nat) (cs : Array Value) : Off (· = g) w (w.setRow g cs) := ⟨rfl, rfl, rfl, by simp, fun k _ hk => setRow_other w g k _ hk⟩
/-- clear: of some bytes of a row of the call's own. -/
theorem run_clear_bytes {w : World} {B : Nat} {xs : List Int} {g cap n : Nat} (h : Row w B (.slice (some ⟨g, 0, none⟩) n cap) xs) {p z : Nat} (hp : p + z ≤ xs.length) (hz : 0 < z) (ty : TypeId) :
    ∃ w', (∀ m c, m = z → (Builtin.clear_ #[28] ty #[.slice (some ⟨g, p, none⟩) m c]).run Tryd.prog w = .ok (.tuple #[]) w') ∧ Row w' B (.slice (some ⟨g, 0, none⟩) n cap) (xs.take p ++ List.replicate z 0 ++ xs.drop (p + z)) ∧ Off (· = g) w w' := by
  obtain ⟨i, hi, hzr, hs, hby⟩ := u8info
  rcases h.2 with ⟨h0, _⟩ | ⟨g', cap', cur, e, hB, hg, hn, hm, hc, ht⟩
  · cases h0
  · simp only [Value.slice.injEq, Option.some.injEq, Addr.mk.injEq, and_true] at e
    obtain ⟨rfl, rfl, rfl⟩ := e
    have hst := run_storeCells_at (P := Tryd.prog) g p 5 (u8s (List.replicate z 0)) 0 cur w hg (by rw [u8s_length]; simp; omega) (fun u hu => by simp only [u8s, List.mem_map] at hu; obtain ⟨y, _, rfl⟩ := hu; rfl)
    rw [Nat.add_zero] at hst
    have hzl : (u8s (List.replicate z 0)).length = z := by rw [u8s_length]; simp
    generalize hnew : (cur.toList.take p ++ u8s (List.replicate z 0) ++ cur.toList.drop (p + (u8s (List.replicate z 0)).length)).toArray = new at hst
    rw [hzl] at hnew
    have hxl : (u8s xs).length = xs.length := u8s_length xs
    have hcl : cur.toList.length = cap := by simp [hc]
    have hnl : new.size = cap * 1 := by
      rw [← hnew]
      simp only [List.size_toArray, List.length_append, List.length_take, List.length_drop, hzl, hcl]
      omega
    have hln : (xs.take p ++ List.replicate z 0 ++ xs.drop (p + z)).length = xs.length := by simp; omega
    refine ⟨w.setRow g new, ?_, ⟨by rw [u8s_length]; omega, Or.inr ⟨g, cap, new, by rw [hln], hB, setRow_heap w g cur new _ _ hg, by omega, hm, hnl, ?_⟩⟩, Off.setRow _ _ _⟩
    · intro m c hmz
      subst hmz
      obtain ⟨z', rfl⟩ : ∃ z', m = z' + 1 := ⟨m - 1, by omega⟩
      have hzc := zero_u8 (z' + 1)
      simp [Builtin.clear_, run_underlying Tryd.underlying28, zeroValue, typeInfo, hi, hzr, hzc, hst]
    · have hnt : new.toList = cur.toList.take p ++ (u8s (List.replicate z 0) ++ cur.toList.drop (p + z)) := by rw [← hnew]; simp
      rw [hln, hnt]
      have e0 : cur.toList.take xs.length = u8s xs := by rw [Nat.mul_one] at ht; exact ht
      have e1 : cur.toList.take p = (u8s xs).take p := by rw [← e0, List.take_take, Nat.min_eq_left (by omega)]
      have e2 : (cur.toList.drop (p + z)).take (xs.length - (p + z)) = (u8s xs).drop (p + z) := by rw [← e0, List.drop_take]
      rw [u8s_append, u8s_append, u8s_take, show u8s (xs.drop (p + z)) = (u8s xs).drop (p + z) by simp [u8s, List.map_drop], ← e1, ← e2, List.append_assoc, Nat.mul_one]
      have t1 : (cur.toList.take p).length = p := by rw [List.length_take, hcl]; omega
      rw [List.take_append, t1, List.take_of_length_le (l := cur.toList.take p) (by rw [t1]; omega), List.take_append, hzl, List.take_of_length_le (l := u8s (List.replicate z 0)) (by rw [hzl]; omega), Nat.sub_sub]

theorem Ar.off {P : Nat → Prop} {w w' : World} {B K o : Nat} {v : Value} {xs : List Int} {s : Int} (h : Ar w B K o v xs s) (ho : Off P w w') (hK : ¬ P K) (hg : ∀ g, v.ownBlock = some g → ¬ P g) : Ar w' B K o v xs s := by
  have hl : K < w.heap.size := cell_lt h.c0
  exact ⟨by rw [ho.cell (p := ⟨K, o, none⟩) hl hK]; exact h.c0, by rw [ho.cell (p := ⟨K, o + 1, none⟩) hl hK]; exact h.c1, by rw [ho.frozen (p := ⟨K, o, none⟩) hl hK]; exact h.f0, by rw [ho.frozen (p := ⟨K, o + 1, none⟩) hl hK]; exact h.f1,
    h.row.keep fun g e => ho.block g (h.row.lt e).2 (hg g e), h.sep, h.len, h.syn⟩
theorem ArStep.of_off {P : Nat → Prop} {w w' : World} {K o : Nat} {v : Value} (ho : Off P w w') (hK : ¬ P K) (hl : K < w.heap.size) (hP : ∀ k, k < w.heap.size → P k → v.ownBlock = some k) : ArStep w w' K o v v :=
  ⟨⟨ho.os, ho.tape, ho.output, ho.size, fun k hk hn => ho.block k hk fun e => hn (Or.inr (hP k hk e))⟩, fun q _ _ => ho.cell (p := ⟨K, q, none⟩) hl hK, fun q => ho.frozen (p := ⟨K, q, none⟩) hl hK, fun _ e => Or.inl e⟩
theorem cut_at {B K o : Nat} {v : Value} {xs : List Int} {s : Int} (x : Int) (k : Nat) (w : World) (h : Ar w B K o v xs s) (hk : k ≤ xs.length) (hx : x = k) :
    Calls Tryd.prog 80 #[.pointer (some ⟨K, o, none⟩), .int .i64 x] w fun e w' => e = .returned (.tuple #[]) ∧ ∃ v', Ar w' B K o v' (xs.take k) (min s k) ∧ ArStep w w' K o v v' := by
  subst hx; exact cut_any k w h hk
theorem between_at (n m : Int) (k : Nat) (w : World) (hk : betw n m = k) :
    Calls Tryd.prog 79 #[.int .i64 n, .int .i64 m] w fun e w' => e = .returned (.int .i64 (k : Int)) ∧ w' = w := by
  rw [← hk]; exact between_any n m w
theorem betw_nat (n : Int) {m : Int} (hm : 0 ≤ m) : ∃ k : Nat, betw n m = k ∧ (k : Int) ≤ m := ⟨(betw n m).toNat, by unfold betw; omega, by unfold betw; omega⟩
theorem run_clear_zero {P : Program} {w : World} {t e : TypeId} (ht : P.underlying t = some (.slice e)) (ty : TypeId) (ao : Option Addr) (n c : Nat) (hn : n = 0) : (Builtin.clear_ #[t] ty #[.slice ao n c]).run P w = .ok (.tuple #[]) w := by
  subst hn
  cases ao <;> simp [Builtin.clear_, run_underlying ht]
theorem wpList_clear_run {P : Program} {w w' : World} {ops : Array Oper} {rest : List Oper} {o : Oper} {a : Act} {Q : Exit → Act → World → Prop} (hgd : o.guard = none) (s : Operand) (t : TypeId) (v' : Value)
    (ho : o.op = .call { callee := .builtin .clear, args := #[s], argTypes := #[t] }) (hr : (Builtin.clear_ #[t] o.type #[a.eval s]).run P w = .ok v' w') (h : wpList P ops Q rest (a.put o.dst v') w') : wpList P ops Q (o :: rest) a w :=
  wpList_plain hgd fun _ hK => by
    unfold Oper.wp execOp
    simp only [ho, resolve, invoke, builtin, Sem.run_bind, Sem.run_pure, Result.andThen_ok, List.map_toArray, List.map_cons, List.map_nil, hr]
    exact hK _ _ h
/-- What a crash leaves of an area. -/
def torn (xs : List Int) (s k z : Nat) : List Int := xs.take (s + k) ++ List.replicate z 0
theorem torn_take (xs : List Int) (s k z : Nat) (h : s + k + z ≤ xs.length) : (xs.take (s + k) ++ List.replicate z 0 ++ xs.drop (s + k + z)).take (s + k + z) = torn xs s k z := by
  unfold torn
  have hl : (xs.take (s + k) ++ List.replicate z (0 : Int)).length = s + k + z := by simp; omega
  rw [List.take_append_of_le_length (by rw [hl]; exact Nat.le_refl _), List.take_of_length_le (by rw [hl]; exact Nat.le_refl _)]
set_option maxRecDepth 100000 in
set_option maxHeartbeats 2000000 in
theorem tear_any {B K o : Nat} {v : Value} {xs : List Int} {s : Nat} {tk tz : Int} {k z : Nat} (w : World) (h : Ar w B K o v xs s) (hk : betw tk (xs.length - s) = k) (hz : betw tz (xs.length - s - k) = z) :
    Calls Tryd.prog 56 #[.pointer (some ⟨K, o, none⟩), .agg #[.int .i64 tk, .int .i64 tz]] w fun e w' => e = .returned (.tuple #[]) ∧ ∃ v', Ar w' B K o v' (torn xs s k z) (torn xs s k z).length ∧ ArStep w w' K o v v' := by
  have hsyn := h.syn
  have hkb : (k : Int) ≤ xs.length - s := by rw [← hk]; unfold betw; omega
  have hzb : (z : Int) ≤ xs.length - s - k := by rw [← hz]; unfold betw; omega
  have hK : K < w.heap.size := cell_lt h.c0
  have HA : Hid (Ar (w.alloc (.cells #[.int .i64 tk, .int .i64 tz] 51)) B K o v xs s) := h.off (P := fun _ => False) ((Off.refl _ _).alloc _) id (fun _ _ => id)
  have HS : Hid (ArStep w (w.alloc (.cells #[.int .i64 tk, .int .i64 tz] 51)) K o v v) := .of_off (P := fun _ => False) ((Off.refl _ _).alloc _) id hK (fun _ _ e => e.elim)
  have HKb : Hid (betw tk (xs.length - s) = k) := hk
  have HZb : Hid (betw tz (xs.length - s - k) = z) := hz
  have hl := h.len
  have c0 := HA.out.c0
  have c1 := HA.out.c1
  have c2 : (w.alloc (.cells #[.int .i64 tk, .int .i64 tz] 51)).cell? ⟨w.heap.size, 0, none⟩ = some (.int .i64 tk) := by simp
  have c3 : (w.alloc (.cells #[.int .i64 tk, .int .i64 tz] 51)).cell? ⟨w.heap.size, 1, none⟩ = some (.int .i64 tz) := by simp
  clear h hk hz
  rcases HA.out.row.form with ⟨rfl, rfl⟩ | ⟨g, cap, rfl, hgB, hgl, h1, h2⟩
  · obtain rfl : s = 0 := by simp at hsyn; omega
    obtain rfl : k = 0 := by simp at hkb; omega
    obtain rfl : z = 0 := by simp at hzb; omega
    go_enter Tryd.func56, Tryd.ntmps56
    go_wp2_with fail
    go_quiet (fail)
    go_wp2_with fail
    refine (between_at _ _ 0 _ HKb.out).mono ?_
    rintro e w1 ⟨rfl, rfl⟩
    go_wp2_with fail
    refine (between_at _ _ 0 _ HZb.out).mono ?_
    rintro e w1 ⟨rfl, rfl⟩
    have hr := run_clear_zero (w := (w.alloc (.cells #[.int .i64 tk, .int .i64 tz] 51)).drewN nq) Tryd.underlying28 0 none 0 0 rfl
    have HA1 : Hid (Ar ((w.alloc (.cells #[.int .i64 tk, .int .i64 tz] 51)).drewN nq) B K o (.slice none 0 0) [] ((0 : Nat) : Int)) := HA.out.off (P := fun _ => False) ((Off.refl _ _).drewN _) id (fun _ _ => id)
    have HS1 : Hid (ArStep w ((w.alloc (.cells #[.int .i64 tk, .int .i64 tz] 51)).drewN nq) K o (.slice none 0 0) (.slice none 0 0)) := HS.out.trans (.of_off (P := fun _ => False) ((Off.refl _ _).drewN _) id (by simp; omega) (fun _ _ e => e.elim))
    go_wp2_with (at_builtin; refine wpList_clear_run rfl (.tmp 33) 28 _ rfl hr ?_)
    refine (cut_at _ 0 _ HA1.out (Nat.le_refl _) (by simp)).mono ?_
    rintro e w2 ⟨rfl, v2, a2, s2⟩
    have HA2 : Hid (Ar w2 B K o v2 (List.take 0 []) (min ((0 : Nat) : Int) ((0 : Nat) : Int))) := a2
    have HS2 : Hid (ArStep w w2 K o (.slice none 0 0) v2) := HS1.out.trans s2
    clear a2 s2
    go_wp2_with fail
    refine (sync_any _ HA2.out).mono ?_
    rintro e w3 ⟨rfl, a3, s3⟩
    have HA3 : Hid (Ar w3 B K o v2 (torn [] 0 0 0) (torn [] 0 0 0).length) := a3
    have HS3 : Hid (ArStep w w3 K o (.slice none 0 0) v2) := HS2.out.trans s3
    clear a3 s3
    go_wp2_with fail
    go_end0
    exact ⟨rfl, v2, HA3.out, HS3.out⟩
  · have hgK : g ≠ K := fun e => HA.out.sep (by rw [← e]; rfl)
    have hs2 := hsyn.2
    have h1i : (xs.length : Int) ≤ cap := by omega
    have hkz : s + k + z ≤ xs.length := by omega
    have HG : Hid (g < (w.alloc (.cells #[.int .i64 tk, .int .i64 tz] 51)).heap.size) := hgl
    clear hgl hgB
    by_cases hc : cap = s
    · have hk0 : k = 0 := by omega
      subst hk0
      subst hc
      go_enter Tryd.func56, Tryd.ntmps56
      go_wp2_with fail
      go_quiet (fail)
      go_wp2_with fail
      refine (between_at _ _ 0 _ (by rw [← HKb.out]; congr 1; omega)).mono ?_
      rintro e w1 ⟨rfl, rfl⟩
      go_wp2_with fail
      refine (between_at _ _ z _ (by rw [← HZb.out]; congr 1; omega)).mono ?_
      rintro e w1 ⟨rfl, rfl⟩
      have HA1 : Hid (Ar ((w.alloc (.cells #[.int .i64 tk, .int .i64 tz] 51)).drewN nq) B K o (.slice (some ⟨g, 0, none⟩) xs.length cap) xs cap) := HA.out.off (P := fun _ => False) ((Off.refl _ _).drewN _) id (fun _ _ => id)
      have HS1 : Hid (ArStep w ((w.alloc (.cells #[.int .i64 tk, .int .i64 tz] 51)).drewN nq) K o (.slice (some ⟨g, 0, none⟩) xs.length cap) (.slice (some ⟨g, 0, none⟩) xs.length cap)) := HS.out.trans (.of_off (P := fun _ => False) ((Off.refl _ _).drewN _) id (by simp; omega) (fun _ _ e => e.elim))
      obtain rfl : z = 0 := by omega
      have hr := fun ao n c hn => run_clear_zero (w := (w.alloc (.cells #[.int .i64 tk, .int .i64 tz] 51)).drewN nq) Tryd.underlying28 0 ao n c hn
      have HA2 := HA1
      have HS2 := HS1
      go_wp2_with (at_builtin; refine wpList_clear_run rfl (.tmp 33) 28 _ rfl (hr _ _ _ (by omega)) ?_)
      refine (cut_at _ (cap + 0 + 0) _ HA2.out (by omega) (by simp)).mono ?_
      rintro e w3 ⟨rfl, v3, a3, s3⟩
      rw [show xs.take (cap + 0 + 0) = torn xs cap 0 0 by unfold torn; simp] at a3
      have HA3 : Hid (Ar w3 B K o v3 (torn xs cap 0 0) (min (cap : Int) ((cap + 0 + 0 : Nat) : Int))) := a3
      have HS3 : Hid (ArStep w w3 K o (.slice (some ⟨g, 0, none⟩) xs.length cap) v3) := HS2.out.trans s3
      clear a3 s3
      go_wp2_with fail
      refine (sync_any _ HA3.out).mono ?_
      rintro e w4 ⟨rfl, a4, s4⟩
      have HA4 : Hid (Ar w4 B K o v3 (torn xs cap 0 0) (torn xs cap 0 0).length) := a4
      have HS4 : Hid (ArStep w w4 K o (.slice (some ⟨g, 0, none⟩) xs.length cap) v3) := HS3.out.trans s4
      clear a4 s4
      go_wp2_with fail
      go_end0
      exact ⟨rfl, v3, HA4.out, HS4.out⟩
    · by_cases hck : cap - s = k
      · go_enter Tryd.func56, Tryd.ntmps56
        go_wp2_with fail
        go_quiet (fail)
        go_wp2_with fail
        refine (between_at _ _ k _ (by rw [← HKb.out]; congr 1; omega)).mono ?_
        rintro e w1 ⟨rfl, rfl⟩
        go_wp2_with fail
        refine (between_at _ _ z _ (by rw [← HZb.out]; congr 1; omega)).mono ?_
        rintro e w1 ⟨rfl, rfl⟩
        have HA1 : Hid (Ar ((w.alloc (.cells #[.int .i64 tk, .int .i64 tz] 51)).drewN nq) B K o (.slice (some ⟨g, 0, none⟩) xs.length cap) xs s) := HA.out.off (P := fun _ => False) ((Off.refl _ _).drewN _) id (fun _ _ => id)
        have HS1 : Hid (ArStep w ((w.alloc (.cells #[.int .i64 tk, .int .i64 tz] 51)).drewN nq) K o (.slice (some ⟨g, 0, none⟩) xs.length cap) (.slice (some ⟨g, 0, none⟩) xs.length cap)) := HS.out.trans (.of_off (P := fun _ => False) ((Off.refl _ _).drewN _) id (by simp; omega) (fun _ _ e => e.elim))
        obtain rfl : z = 0 := by omega
        have hr := fun ao n c hn => run_clear_zero (w := (w.alloc (.cells #[.int .i64 tk, .int .i64 tz] 51)).drewN nq) Tryd.underlying28 0 ao n c hn
        have HA2 := HA1
        have HS2 := HS1
        go_wp2_with (at_builtin; refine wpList_clear_run rfl (.tmp 33) 28 _ rfl (hr _ _ _ (by omega)) ?_)
        refine (cut_at _ (s + k + 0) _ HA2.out (by omega) (by simp)).mono ?_
        rintro e w3 ⟨rfl, v3, a3, s3⟩
        rw [show xs.take (s + k + 0) = torn xs s k 0 by unfold torn; simp] at a3
        have HA3 : Hid (Ar w3 B K o v3 (torn xs s k 0) (min (s : Int) ((s + k + 0 : Nat) : Int))) := a3
        have HS3 : Hid (ArStep w w3 K o (.slice (some ⟨g, 0, none⟩) xs.length cap) v3) := HS2.out.trans s3
        clear a3 s3
        go_wp2_with fail
        refine (sync_any _ HA3.out).mono ?_
        rintro e w4 ⟨rfl, a4, s4⟩
        have HA4 : Hid (Ar w4 B K o v3 (torn xs s k 0) (torn xs s k 0).length) := a4
        have HS4 : Hid (ArStep w w4 K o (.slice (some ⟨g, 0, none⟩) xs.length cap) v3) := HS3.out.trans s4
        clear a4 s4
        go_wp2_with fail
        go_end0
        exact ⟨rfl, v3, HA4.out, HS4.out⟩
      · by_cases hz0 : z = 0
        · go_enter Tryd.func56, Tryd.ntmps56
          go_wp2_with fail
          go_quiet (fail)
          go_wp2_with fail
          refine (between_at _ _ k _ (by rw [← HKb.out]; congr 1; omega)).mono ?_
          rintro e w1 ⟨rfl, rfl⟩
          go_wp2_with fail
          refine (between_at _ _ z _ (by rw [← HZb.out]; congr 1; omega)).mono ?_
          rintro e w1 ⟨rfl, rfl⟩
          have HA1 : Hid (Ar ((w.alloc (.cells #[.int .i64 tk, .int .i64 tz] 51)).drewN nq) B K o (.slice (some ⟨g, 0, none⟩) xs.length cap) xs s) := HA.out.off (P := fun _ => False) ((Off.refl _ _).drewN _) id (fun _ _ => id)
          have HS1 : Hid (ArStep w ((w.alloc (.cells #[.int .i64 tk, .int .i64 tz] 51)).drewN nq) K o (.slice (some ⟨g, 0, none⟩) xs.length cap) (.slice (some ⟨g, 0, none⟩) xs.length cap)) := HS.out.trans (.of_off (P := fun _ => False) ((Off.refl _ _).drewN _) id (by simp; omega) (fun _ _ e => e.elim))
          obtain rfl : z = 0 := by omega
          have hr := fun ao n c hn => run_clear_zero (w := (w.alloc (.cells #[.int .i64 tk, .int .i64 tz] 51)).drewN nq) Tryd.underlying28 0 ao n c hn
          have HA2 := HA1
          have HS2 := HS1
          go_wp2_with (at_builtin; refine wpList_clear_run rfl (.tmp 33) 28 _ rfl (hr _ _ _ (by omega)) ?_)
          refine (cut_at _ (s + k + 0) _ HA2.out (by omega) (by simp)).mono ?_
          rintro e w3 ⟨rfl, v3, a3, s3⟩
          rw [show xs.take (s + k + 0) = torn xs s k 0 by unfold torn; simp] at a3
          have HA3 : Hid (Ar w3 B K o v3 (torn xs s k 0) (min (s : Int) ((s + k + 0 : Nat) : Int))) := a3
          have HS3 : Hid (ArStep w w3 K o (.slice (some ⟨g, 0, none⟩) xs.length cap) v3) := HS2.out.trans s3
          clear a3 s3
          go_wp2_with fail
          refine (sync_any _ HA3.out).mono ?_
          rintro e w4 ⟨rfl, a4, s4⟩
          have HA4 : Hid (Ar w4 B K o v3 (torn xs s k 0) (torn xs s k 0).length) := a4
          have HS4 : Hid (ArStep w w4 K o (.slice (some ⟨g, 0, none⟩) xs.length cap) v3) := HS3.out.trans s4
          clear a4 s4
          go_wp2_with fail
          go_end0
          exact ⟨rfl, v3, HA4.out, HS4.out⟩
        · go_enter Tryd.func56, Tryd.ntmps56
          go_wp2_with fail
          go_quiet (fail)
          go_wp2_with fail
          refine (between_at _ _ k _ (by rw [← HKb.out]; congr 1; omega)).mono ?_
          rintro e w1 ⟨rfl, rfl⟩
          go_wp2_with fail
          refine (between_at _ _ z _ (by rw [← HZb.out]; congr 1; omega)).mono ?_
          rintro e w1 ⟨rfl, rfl⟩
          have HA1 : Hid (Ar ((w.alloc (.cells #[.int .i64 tk, .int .i64 tz] 51)).drewN nq) B K o (.slice (some ⟨g, 0, none⟩) xs.length cap) xs s) := HA.out.off (P := fun _ => False) ((Off.refl _ _).drewN _) id (fun _ _ => id)
          have HS1 : Hid (ArStep w ((w.alloc (.cells #[.int .i64 tk, .int .i64 tz] 51)).drewN nq) K o (.slice (some ⟨g, 0, none⟩) xs.length cap) (.slice (some ⟨g, 0, none⟩) xs.length cap)) := HS.out.trans (.of_off (P := fun _ => False) ((Off.refl _ _).drewN _) id (by simp; omega) (fun _ _ e => e.elim))
          obtain ⟨w2, hr, r2, o2⟩ := run_clear_bytes HA1.out.row (p := s + k) (z := z) (by omega) (by omega) 0
          have HA2 : Hid (Ar w2 B K o (.slice (some ⟨g, 0, none⟩) xs.length cap) (xs.take (s + k) ++ List.replicate z 0 ++ xs.drop (s + k + z)) s) := by
            have hKl : K < ((w.alloc (.cells #[.int .i64 tk, .int .i64 tz] 51)).drewN nq).heap.size := by simp; omega
            have hKg : ¬ K = g := fun e => hgK e.symm
            exact ⟨by rw [o2.cell (p := ⟨K, o, none⟩) hKl hKg]; exact HA1.out.c0, by rw [o2.cell (p := ⟨K, o + 1, none⟩) hKl hKg]; exact HA1.out.c1, by rw [o2.frozen (p := ⟨K, o, none⟩) hKl hKg]; exact HA1.out.f0, by rw [o2.frozen (p := ⟨K, o + 1, none⟩) hKl hKg]; exact HA1.out.f1, r2, HA1.out.sep, by simp; omega, by simp; omega⟩
          have HS2 : Hid (ArStep w w2 K o (.slice (some ⟨g, 0, none⟩) xs.length cap) (.slice (some ⟨g, 0, none⟩) xs.length cap)) := HS1.out.trans (.of_off o2 (fun e => hgK e.symm) (by simp; omega) (fun k _ e => by rw [e]; rfl))
          clear r2 o2
          have c1' := HA2.out.c1
          go_wp2_with (at_builtin; refine wpList_clear_run rfl (.tmp 33) 28 _ rfl (hr _ _ (by omega)) ?_)
          refine (cut_at ((s : Int) + (k : Int) + (z : Int)) (s + k + z) _ HA2.out (by simp; omega) (by omega)).mono ?_
          rintro e w3 ⟨rfl, v3, a3, s3⟩
          rw [torn_take xs s k z hkz] at a3
          have HA3 : Hid (Ar w3 B K o v3 (torn xs s k z) (min (s : Int) ((s + k + z : Nat) : Int))) := a3
          have HS3 : Hid (ArStep w w3 K o (.slice (some ⟨g, 0, none⟩) xs.length cap) v3) := HS2.out.trans s3
          clear a3 s3
          go_wp2_with fail
          refine (sync_any _ HA3.out).mono ?_
          rintro e w4 ⟨rfl, a4, s4⟩
          have HA4 : Hid (Ar w4 B K o v3 (torn xs s k z) (torn xs s k z).length) := a4
          have HS4 : Hid (ArStep w w4 K o (.slice (some ⟨g, 0, none⟩) xs.length cap) v3) := HS3.out.trans s4
          clear a4 s4
          go_wp2_with fail
          go_end0
          exact ⟨rfl, v3, HA4.out, HS4.out⟩
end Go.Proofs.YtfkcnnjkflomkaaDoor
