import Derived.Test.YthnpckmgnompiaaGreatDoorWNum
import Derived.Laws.CopyRow
/-
  One area: put, sync, cut, room, has, between.
-/
namespace Go.Proofs.YthnpckmgnompiaaGreatDoor
open Go.RowKit

set_option maxRecDepth 100000 in
set_option maxHeartbeats 1000000 in
theorem put_any {B K o : Nat} {v : Value} {xs : List Int} {s : Int} {po : Option Addr} {m c : Nat} {bs : List Int} (w : World) (h : Ar w B K o v xs s) (hb : Byts w po m bs) (hpo : po = none → c = 0) (hl : xs.length + m ≤ 16777216) (hB : B ≤ w.heap.size) :
    Calls Tryz.prog 81 #[.pointer (some ⟨K, o, none⟩), .slice po m c] w fun e w' => e = .returned (.tuple #[]) ∧ ∃ v', Ar w' B K o v' (xs ++ bs) s ∧ ArStep w w' K o v v' := by
  obtain ⟨v', w1, hr, r1, g1, b1⟩ := run_append_bytes h.row hb hpo (by omega) hB 22
  have hK : K < w.heap.size := cell_lt h.c0
  have o1 := Off.of_grown g1
  have hc1 : ∀ q, w1.cell? ⟨K, q, none⟩ = w.cell? ⟨K, q, none⟩ := fun q => o1.cell (p := ⟨K, q, none⟩) hK h.sep
  have hf1 : ∀ q, w1.frozen? ⟨K, q, none⟩ = w.frozen? ⟨K, q, none⟩ := fun q => o1.frozen (p := ⟨K, q, none⟩) hK h.sep
  have hs' : v'.ownBlock ≠ some K := by
    rcases b1 with e | e
    · rw [e]; exact h.sep
    · rw [e]; intro e; simp at e; omega
  have H : Hid (Ar (w1.setCell ⟨K, o, none⟩ v') B K o v' (xs ++ bs) s ∧ ArStep w (w1.setCell ⟨K, o, none⟩ v') K o v v') := by
    refine ⟨⟨World.cell?_setCell_same _ _ _ ((hc1 o).trans h.c0), ?_, by simpa using (hf1 o).trans h.f0, by simpa using (hf1 (o + 1)).trans h.f1, r1.set hs', hs', by rw [List.length_append, hb.len]; exact hl, by have := h.syn; rw [List.length_append]; omega⟩, ?_⟩
    · rw [World.cell?_setCell_other _ _ _ _ (by simp), hc1]; exact h.c1
    · refine ⟨Off.setCell (P := fun k => k = K ∨ v.ownBlock = some k) (o1.mono fun _ e => Or.inr e) (p := ⟨K, o, none⟩) (Or.inl rfl) _, fun q h1 _ => ?_, fun q => by simp [hf1 q], fun g hg => ?_⟩
      · rw [World.cell?_setCell_other _ _ _ _ (by simp), hc1]
      · rcases b1 with e | e
        · exact Or.inl (e ▸ hg)
        · rw [e] at hg; simp at hg; exact Or.inr (by omega)
  have c0 := h.c0
  have f1 : w1.frozen? ⟨K, o, none⟩ = false := (hf1 o).trans h.f0
  have k1 : w1.cell? ⟨K, o, none⟩ = some v := (hc1 o).trans h.c0
  obtain ⟨a, n, cp, rfl⟩ : ∃ a n cp, v = .slice a n cp := by
    rcases h.row.form with ⟨rfl, _⟩ | ⟨g, cap, rfl, _⟩
    · exact ⟨_, _, _, rfl⟩
    · exact ⟨_, _, _, rfl⟩
  obtain ⟨a', n', cp', rfl⟩ : ∃ a n cp, v' = .slice a n cp := by
    rcases r1.form with ⟨rfl, _⟩ | ⟨g, cap, rfl, _⟩
    · exact ⟨_, _, _, rfl⟩
    · exact ⟨_, _, _, rfl⟩
  clear h hb hpo r1 g1 b1 o1 hc1 hf1 hs'
  go_enter Tryz.func81, Tryz.ntmps81
  go_wp2_with (at_builtin; refine wpList_append_run rfl (.tmp 8) (.tmp 9) 22 _ rfl hr ?_)
  go_end0
  exact ⟨rfl, _, H.out⟩

theorem Row.slice {w : World} {B : Nat} {v : Value} {xs : List Int} (h : Row w B v xs) : ∃ a cp, v = .slice a xs.length cp ∧ xs.length ≤ cp ∧ cp ≤ maxLen ∧ (a = none → xs.length = 0 ∧ cp = 0) := by
  rcases h.form with ⟨rfl, rfl⟩ | ⟨g, cap, rfl, _, _, h1, h2⟩
  · exact ⟨_, _, rfl, Nat.le_refl _, Nat.zero_le _, fun _ => ⟨rfl, rfl⟩⟩
  · exact ⟨_, _, rfl, h1, h2, fun e => by cases e⟩
set_option maxHeartbeats 400000 in
theorem sync_any {B K o : Nat} {v : Value} {xs : List Int} {s : Int} (w : World) (h : Ar w B K o v xs s) :
    Calls Tryz.prog 84 #[.pointer (some ⟨K, o, none⟩)] w fun e w' => e = .returned (.tuple #[]) ∧ Ar w' B K o v xs xs.length ∧ ArStep w w' K o v v := by
  obtain ⟨a, cp, rfl, _, _⟩ := h.row.slice
  have H : Hid (Ar (w.setCell ⟨K, o + 1, none⟩ (.int .i64 xs.length)) B K o (.slice a xs.length cp) xs xs.length ∧ ArStep w (w.setCell ⟨K, o + 1, none⟩ (.int .i64 xs.length)) K o (.slice a xs.length cp) (.slice a xs.length cp)) := by
    refine ⟨⟨by rw [World.cell?_setCell_other _ _ _ _ (by simp)]; exact h.c0, World.cell?_setCell_same _ _ _ h.c1, by simpa using h.f0, by simpa using h.f1, h.row.set h.sep, h.sep, h.len, by omega⟩, ?_⟩
    refine ⟨Off.setCell (P := fun k => k = K ∨ (Value.slice a xs.length cp).ownBlock = some k) (Off.refl _ _) (p := ⟨K, o + 1, none⟩) (Or.inl rfl) _, fun q _ _ => World.cell?_setCell_other _ _ _ _ (by simp), fun q => by simp, fun _ g => Or.inl g⟩
  have c0 := h.c0
  have c1 := h.c1
  have f1 := h.f1
  have hl := h.len
  clear h
  go_enter Tryz.func84, Tryz.ntmps84
  go_wp2
  go_end0
  exact ⟨rfl, H.out⟩
set_option maxHeartbeats 400000 in
theorem room_any {B K o : Nat} {v : Value} {xs : List Int} {s : Int} (w : World) (h : Ar w B K o v xs s) :
    Calls Tryz.prog 80 #[.pointer (some ⟨K, o, none⟩)] w fun e w' => e = .returned (.int .i64 (16777216 - xs.length)) ∧ w' = w := by
  obtain ⟨a, cp, rfl, _, _⟩ := h.row.slice
  have c0 := h.c0
  have hl := h.len
  clear h
  go_enter Tryz.func80, Tryz.ntmps80
  go_wp2
  go_ret
  exact ⟨rfl, rfl⟩
def hasB (len at_ n : Int) : Bool := decide (0 ≤ at_) && decide (at_ ≤ len) && decide (0 ≤ n) && decide (n ≤ len - at_)
set_option maxHeartbeats 1000000 in
theorem has_any {B K o : Nat} {v : Value} {xs : List Int} {s : Int} (x n : Int) (w : World) (h : Ar w B K o v xs s) (hx : -9223372036854775808 ≤ x ∧ x ≤ 9223372036854775807) :
    Calls Tryz.prog 77 #[.pointer (some ⟨K, o, none⟩), .int .i64 x, .int .i64 n] w fun e w' => e = .returned (.bool (hasB xs.length x n)) ∧ w' = w := by
  obtain ⟨a, cp, rfl, _, _⟩ := h.row.slice
  have c0 := h.c0
  have hl := h.len
  clear h
  go_enter Tryz.func77, Tryz.ntmps77
  go_wp2
  all_goals
    go_ret
    refine ⟨ret_bool ?_, rfl⟩
    unfold hasB
    rw [Bool.eq_iff_iff]
    simp
    try omega
def betw (n most : Int) : Int := min (max n 0) most
theorem Row.cut {w : World} {B : Nat} {xs : List Int} {g cap n : Nat} (h : Row w B (.slice (some ⟨g, 0, none⟩) n cap) xs) {k : Nat} (hk : k ≤ xs.length) : Row w B (.slice (some ⟨g, 0, none⟩) k cap) (xs.take k) := by
  rcases h.2 with ⟨h0, _⟩ | ⟨g', cap', cur, e, hB, hg, hn, hm, hc, ht⟩
  · cases h0
  · simp only [Value.slice.injEq, Option.some.injEq, Addr.mk.injEq, and_true] at e
    obtain ⟨rfl, _, rfl⟩ := e
    have hl : (xs.take k).length = k := by simp; omega
    refine ⟨by rw [u8s_length]; omega, Or.inr ⟨g, cap, cur, by rw [hl], hB, hg, by omega, hm, hc, ?_⟩⟩
    rw [hl, u8s_take, ← ht, List.take_take]
    congr 1
    omega
set_option maxRecDepth 100000 in
set_option maxHeartbeats 1000000 in
theorem cut_any {B K o : Nat} {v : Value} {xs : List Int} {s : Int} (k : Nat) (w : World) (h : Ar w B K o v xs s) (hk : k ≤ xs.length) :
    Calls Tryz.prog 79 #[.pointer (some ⟨K, o, none⟩), .int .i64 k] w fun e w' => e = .returned (.tuple #[]) ∧ ∃ v', Ar w' B K o v' (xs.take k) (min s k) ∧ ArStep w w' K o v v' := by
  have c0 := h.c0
  have c1 := h.c1
  have f0 := h.f0
  have f1 := h.f1
  have hl := h.len
  have hs := h.syn
  have key : ∀ v', Row w B v' (xs.take k) → v'.ownBlock = v.ownBlock → Ar ((w.setCell ⟨K, o, none⟩ v').setCell ⟨K, o + 1, none⟩ (.int .i64 (min s k))) B K o v' (xs.take k) (min s k) ∧ ArStep w ((w.setCell ⟨K, o, none⟩ v').setCell ⟨K, o + 1, none⟩ (.int .i64 (min s k))) K o v v' := fun v' hr hb => by
    have hsep : v'.ownBlock ≠ some K := by rw [hb]; exact h.sep
    refine ⟨⟨by rw [World.cell?_setCell_other _ _ _ _ (by simp)]; exact World.cell?_setCell_same _ _ _ c0, World.cell?_setCell_same _ _ _ (u := .int .i64 s) (by rw [World.cell?_setCell_other _ _ _ _ (by simp)]; exact c1), by simpa using f0, by simpa using f1, (hr.set hsep).set hsep, hsep, by simp; omega, by simp; omega⟩, ?_⟩
    refine ⟨Off.setCell (P := fun k => k = K ∨ v.ownBlock = some k) (Off.setCell (P := fun k => k = K ∨ v.ownBlock = some k) (Off.refl _ _) (p := ⟨K, o, none⟩) (Or.inl rfl) _) (p := ⟨K, o + 1, none⟩) (Or.inl rfl) _, fun q h1 h2 => ?_, fun q => by simp, fun g hg => Or.inl (hb ▸ hg)⟩
    rw [World.cell?_setCell_other _ _ _ _ (by simp), World.cell?_setCell_other _ _ _ _ (by simp)]
  have HK : Hid (type_of% key) := key
  have HR : Hid (Row w B v xs) := h.row
  clear key h
  by_cases hz : (k : Int) < s
  · have em : min s (k : Int) = k := by omega
    rw [em] at HK ⊢
    clear em
    rcases HR.out.form with ⟨rfl, rfl⟩ | ⟨g, cap, rfl, _, _, h1, h2⟩
    · simp at hs; omega
    · go_enter Tryz.func79, Tryz.ntmps79
      go_wp2
      go_end0
      exact ⟨rfl, _, HK.out _ (HR.out.cut hk) rfl⟩
  · have em : min s (k : Int) = s := by omega
    rw [em] at HK ⊢
    clear em
    rcases HR.out.form with ⟨rfl, rfl⟩ | ⟨g, cap, rfl, _, _, h1, h2⟩
    · obtain rfl : k = 0 := by simpa using hk
      obtain rfl : s = 0 := by simp at hs; omega
      go_enter Tryz.func79, Tryz.ntmps79
      go_wp2
      go_end0
      exact ⟨rfl, _, HK.out _ HR.out rfl⟩
    · go_enter Tryz.func79, Tryz.ntmps79
      go_wp2
      go_end0
      exact ⟨rfl, _, HK.out _ (HR.out.cut hk) rfl⟩
end Go.Proofs.YthnpckmgnompiaaGreatDoor

/-
  One area: read, tear.
-/
namespace Go.Proofs.YthnpckmgnompiaaGreatDoor
open Go.RowKit

theorem Row.byts {w : World} {B : Nat} {xs : List Int} {g cap len : Nat} (h : Row w B (.slice (some ⟨g, 0, none⟩) len cap) xs) {x n m : Nat} (hx : x + n ≤ xs.length) (hm : m = n) : Byts w (some ⟨g, x, none⟩) m ((xs.drop x).take n) := by
  subst hm
  obtain ⟨rfl, hc⟩ := h.cell
  refine ⟨by simp; omega, fun j hj => ⟨g, x, rfl, (h.lt rfl).2, ?_⟩⟩
  rw [hc (x + j) (by omega)]
  simp [List.getD_eq_getElem?_getD, hj]
theorem Off.below_of {P : Nat → Prop} {a b : World} (h : Off P a b) (hP : ∀ k, k < a.heap.size → ¬ P k) : Below a.heap.size a b := ⟨h.os, h.tape, h.output, h.size, fun k hk => h.block k hk (hP k hk)⟩
set_option maxRecDepth 100000 in
set_option maxHeartbeats 1000000 in
theorem read_any {B K o : Nat} {v : Value} {xs : List Int} {s : Int} (x n : Nat) (w : World) (h : Ar w B K o v xs s) (hx : x + n ≤ xs.length) :
    Calls Tryz.prog 92 #[.pointer (some ⟨K, o, none⟩), .int .i64 x, .int .i64 n] w fun e w' => ∃ r, e = .returned r ∧ Row w' w.heap.size r ((xs.drop x).take n) ∧ Below w.heap.size w w' := by
  have c0 := h.c0
  have hl := h.len
  rcases h.row.form with ⟨rfl, rfl⟩ | ⟨g, cap, rfl, _, _, h1, h2⟩
  · obtain ⟨rfl, rfl⟩ : x = 0 ∧ n = 0 := by simp at hx; omega
    clear h
    go_enter Tryz.func92, Tryz.ntmps92
    go_wp2
    go_ret
    exact ⟨_, rfl, Row.nil _ _, Below.refl _ _⟩
  · have hb : Byts w (if cap = x then some ⟨g, 0, none⟩ else some ⟨g, x, none⟩) (x + n - x) ((xs.drop x).take n) := by
      split
      · have n0 : n = 0 := by omega
        subst n0
        exact ⟨by simp, fun j hj => (by omega)⟩
      · exact h.row.byts hx (by omega)
    obtain ⟨v', w1, hr, r1, g1, b1⟩ := run_append_bytes (c := cap - x) (Row.nil w w.heap.size) hb (fun e => by split at e <;> cases e) (by simp; omega) (Nat.le_refl _) 22
    have H : Hid (Row w1 w.heap.size v' ((xs.drop x).take n) ∧ Below w.heap.size w w1) := ⟨r1, (Off.of_grown g1).below_of fun k _ e => by cases e⟩
    obtain ⟨a', n', cp', rfl⟩ : ∃ a n cp, v' = .slice a n cp := by
      rcases r1.form with ⟨rfl, _⟩ | ⟨g, cap, rfl, _⟩
      · exact ⟨_, _, _, rfl⟩
      · exact ⟨_, _, _, rfl⟩
    clear h hb r1 g1 b1
    go_enter Tryz.func92, Tryz.ntmps92
    go_wp2_with (at_builtin; refine wpList_append_run rfl (.const (.slice none 0 0)) (.tmp 15) 22 _ rfl hr ?_)
    all_goals (go_ret; exact ⟨_, rfl, H.out⟩)
theorem zero_u8 (z : Nat) : (Builtin.zeroCells (Value.int .u8 0).cells z).toList = u8s (List.replicate z 0) := by
  simp [Builtin.zeroCells, u8s, Value.cells]
  apply List.ext_getElem
  · simp
  · intro i h1 h2
    simp [Nat.mod_one]
theorem Off.setRow (w : World) (g : Nat) (cs : Array Value) : Off (· = g) w (w.setRow g cs) := ⟨rfl, rfl, rfl, by simp, fun k _ hk => setRow_other w g k _ hk⟩
/-- clear: of some bytes of a row of the call's own. -/
theorem run_clear_bytes {w : World} {B : Nat} {xs : List Int} {g cap n : Nat} (h : Row w B (.slice (some ⟨g, 0, none⟩) n cap) xs) {p z : Nat} (hp : p + z ≤ xs.length) (hz : 0 < z) (ty : TypeId) :
    ∃ w', (∀ m c, m = z → (Builtin.clear_ #[22] ty #[.slice (some ⟨g, p, none⟩) m c]).run Tryz.prog w = .ok (.tuple #[]) w') ∧ Row w' B (.slice (some ⟨g, 0, none⟩) n cap) (xs.take p ++ List.replicate z 0 ++ xs.drop (p + z)) ∧ Off (· = g) w w' := by
  obtain ⟨i, hi, hzr, hs, hby⟩ := u8info
  rcases h.2 with ⟨h0, _⟩ | ⟨g', cap', cur, e, hB, hg, hn, hm, hc, ht⟩
  · cases h0
  · simp only [Value.slice.injEq, Option.some.injEq, Addr.mk.injEq, and_true] at e
    obtain ⟨rfl, rfl, rfl⟩ := e
    have hst := run_storeCells_at (P := Tryz.prog) g p 5 (u8s (List.replicate z 0)) 0 cur w hg (by rw [u8s_length]; simp; omega) (fun u hu => by simp only [u8s, List.mem_map] at hu; obtain ⟨y, _, rfl⟩ := hu; rfl)
    rw [Nat.add_zero] at hst
    have hzl : (u8s (List.replicate z 0)).length = z := by rw [u8s_length]; simp
    generalize hnew : (cur.toList.take p ++ u8s (List.replicate z 0) ++ cur.toList.drop (p + (u8s (List.replicate z 0)).length)).toArray = new at hst
    rw [hzl] at hnew
    have hxl : (u8s xs).length = xs.length := u8s_length xs
    have hcl : cur.toList.length = cap := by simp [hc]
    have hnl : new.size = cap * 1 := by
      rw [← hnew]
      simp only [List.size_toArray, List.length_append, List.length_take, List.length_drop, hzl, hcl]
      omega
    have hln : (xs.take p ++ List.replicate z 0 ++ xs.drop (p + z)).length = xs.length := by simp; omega
    refine ⟨w.setRow g new, ?_, ⟨by rw [u8s_length]; omega, Or.inr ⟨g, cap, new, by rw [hln], hB, setRow_heap w g cur new _ _ hg, by omega, hm, hnl, ?_⟩⟩, Off.setRow _ _ _⟩
    · intro m c hmz
      subst hmz
      obtain ⟨z', rfl⟩ : ∃ z', m = z' + 1 := ⟨m - 1, by omega⟩
      have hzc := zero_u8 (z' + 1)
      simp [Builtin.clear_, run_underlying Tryz.underlying22, zeroValue, typeInfo, hi, hzr, hzc, hst]
    · have hnt : new.toList = cur.toList.take p ++ (u8s (List.replicate z 0) ++ cur.toList.drop (p + z)) := by rw [← hnew]; simp
      rw [hln, hnt]
      have e0 : cur.toList.take xs.length = u8s xs := by rw [Nat.mul_one] at ht; exact ht
      have e1 : cur.toList.take p = (u8s xs).take p := by rw [← e0, List.take_take, Nat.min_eq_left (by omega)]
      have e2 : (cur.toList.drop (p + z)).take (xs.length - (p + z)) = (u8s xs).drop (p + z) := by rw [← e0, List.drop_take]
      rw [u8s_append, u8s_append, u8s_take, show u8s (xs.drop (p + z)) = (u8s xs).drop (p + z) by simp [u8s, List.map_drop], ← e1, ← e2, List.append_assoc, Nat.mul_one]
      have t1 : (cur.toList.take p).length = p := by rw [List.length_take, hcl]; omega
      rw [List.take_append, t1, List.take_of_length_le (l := cur.toList.take p) (by rw [t1]; omega), List.take_append, hzl, List.take_of_length_le (l := u8s (List.replicate z 0)) (by rw [hzl]; omega), Nat.sub_sub]

theorem Ar.off {P : Nat → Prop} {w w' : World} {B K o : Nat} {v : Value} {xs : List Int} {s : Int} (h : Ar w B K o v xs s) (ho : Off P w w') (hK : ¬ P K) (hg : ∀ g, v.ownBlock = some g → ¬ P g) : Ar w' B K o v xs s := by
  have hl : K < w.heap.size := cell_lt h.c0
  exact ⟨by rw [ho.cell (p := ⟨K, o, none⟩) hl hK]; exact h.c0, by rw [ho.cell (p := ⟨K, o + 1, none⟩) hl hK]; exact h.c1, by rw [ho.frozen (p := ⟨K, o, none⟩) hl hK]; exact h.f0, by rw [ho.frozen (p := ⟨K, o + 1, none⟩) hl hK]; exact h.f1,
    h.row.keep fun g e => ho.block g (h.row.lt e).2 (hg g e), h.sep, h.len, h.syn⟩
theorem ArStep.of_off {P : Nat → Prop} {w w' : World} {K o : Nat} {v : Value} (ho : Off P w w') (hK : ¬ P K) (hl : K < w.heap.size) (hP : ∀ k, k < w.heap.size → P k → v.ownBlock = some k) : ArStep w w' K o v v :=
  ⟨⟨ho.os, ho.tape, ho.output, ho.size, fun k hk hn => ho.block k hk fun e => hn (Or.inr (hP k hk e))⟩, fun q _ _ => ho.cell (p := ⟨K, q, none⟩) hl hK, fun q => ho.frozen (p := ⟨K, q, none⟩) hl hK, fun _ e => Or.inl e⟩
theorem cut_at {B K o : Nat} {v : Value} {xs : List Int} {s : Int} (x : Int) (k : Nat) (w : World) (h : Ar w B K o v xs s) (hk : k ≤ xs.length) (hx : x = k) :
    Calls Tryz.prog 79 #[.pointer (some ⟨K, o, none⟩), .int .i64 x] w fun e w' => e = .returned (.tuple #[]) ∧ ∃ v', Ar w' B K o v' (xs.take k) (min s k) ∧ ArStep w w' K o v v' := by
  subst hx; exact cut_any k w h hk
theorem betw_nat (n : Int) {m : Int} (hm : 0 ≤ m) : ∃ k : Nat, betw n m = k ∧ (k : Int) ≤ m := ⟨(betw n m).toNat, by unfold betw; omega, by unfold betw; omega⟩
theorem run_clear_zero {P : Program} {w : World} {t e : TypeId} (ht : P.underlying t = some (.slice e)) (ty : TypeId) (ao : Option Addr) (n c : Nat) (hn : n = 0) : (Builtin.clear_ #[t] ty #[.slice ao n c]).run P w = .ok (.tuple #[]) w := by
  subst hn
  cases ao <;> simp [Builtin.clear_, run_underlying ht]
theorem wpList_clear_run {P : Program} {w w' : World} {ops : Array Oper} {rest : List Oper} {o : Oper} {a : Act} {Q : Exit → Act → World → Prop} (hgd : o.guard = none) (s : Operand) (t : TypeId) (v' : Value)
    (ho : o.op = .call { callee := .builtin .clear, args := #[s], argTypes := #[t] }) (hr : (Builtin.clear_ #[t] o.type #[a.eval s]).run P w = .ok v' w') (h : wpList P ops Q rest (a.put o.dst v') w') : wpList P ops Q (o :: rest) a w :=
  wpList_plain hgd fun _ hK => by
    unfold Oper.wp execOp
    simp only [ho, resolve, invoke, builtin, Sem.run_bind, Sem.run_pure, Result.andThen_ok, List.map_toArray, List.map_cons, List.map_nil, hr]
    exact hK _ _ h
/-- What a crash leaves of an area. -/
def torn (xs : List Int) (s k z : Nat) : List Int := xs.take (s + k) ++ List.replicate z 0
theorem torn_take (xs : List Int) (s k z : Nat) (h : s + k + z ≤ xs.length) : (xs.take (s + k) ++ List.replicate z 0 ++ xs.drop (s + k + z)).take (s + k + z) = torn xs s k z := by
  unfold torn
  have hl : (xs.take (s + k) ++ List.replicate z (0 : Int)).length = s + k + z := by simp; omega
  rw [List.take_append_of_le_length (by rw [hl]; exact Nat.le_refl _), List.take_of_length_le (by rw [hl]; exact Nat.le_refl _)]
end Go.Proofs.YthnpckmgnompiaaGreatDoor
