/-
  One area: put, sync, cut, room, has, between.
-/
import Derived.Test.YtfkcnnjkflomkaaDoorDkOff
namespace Go.Proofs.YtfkcnnjkflomkaaDoor
open Go.RowKit

set_option maxRecDepth 100000 in
set_option maxHeartbeats 1000000 in
theorem put_any {B K o : Nat} {v : Value} {xs : List Int} {s : Int} {po : Option Addr} {m c : Nat} {bs : List Int} (w : World) (h : Ar w B K o v xs s) (hb : Byts w po m bs) (hpo : po = none → c = 0) (hl : xs.length + m ≤ 16777216) (hB : B ≤ w.heap.size) :
    Calls Tryd.prog 72 #[.pointer (some ⟨K, o, none⟩), .slice po m c] w fun e w' => e = .returned (.tuple #[]) ∧ ∃ v', Ar w' B K o v' (xs ++ bs) s ∧ ArStep w w' K o v v' := by
  obtain ⟨v', w1, hr, r1, g1, b1⟩ := run_append_bytes h.row hb hpo (by omega) hB 28
  have hK : K < w.heap.size := cell_lt h.c0
  have o1 := Off.of_grown g1
  have hc1 : ∀ q, w1.cell? ⟨K, q, none⟩ = w.cell? ⟨K, q, none⟩ := fun q => o1.cell (p := ⟨K, q, none⟩) hK h.sep
  have hf1 : ∀ q, w1.frozen? ⟨K, q, none⟩ = w.frozen? ⟨K, q, none⟩ := fun q => o1.frozen (p := ⟨K, q, none⟩) hK h.sep
  have hs' : v'.ownBlock ≠ some K := by
    rcases b1 with e | e
    · rw [e]; exact h.sep
    · rw [e]; intro e; simp at e; omega
  have H : Hid (Ar (w1.setCell ⟨K, o, none⟩ v') B K o v' (xs ++ bs) s ∧ ArStep w (w1.setCell ⟨K, o, none⟩ v') K o v v') := by
    refine ⟨⟨World.cell?_setCell_same _ _ _ ((hc1 o).trans h.c0), ?_, by simpa using (hf1 o).trans h.f0, by simpa using (hf1 (o + 1)).trans h.f1, r1.set hs', hs', by rw [List.length_append, hb.len]; exact hl, by have := h.syn; rw [List.length_append]; omega⟩, ?_⟩
    · rw [World.cell?_setCell_other _ _ _ _ (by simp), hc1]; exact h.c1
    · refine ⟨Off.setCell (P := fun k => k = K ∨ v.ownBlock = some k) (o1.mono fun _ e => Or.inr e) (p := ⟨K, o, none⟩) (Or.inl rfl) _, fun q h1 _ => ?_, fun q => by simp [hf1 q], fun g hg => ?_⟩
      · rw [World.cell?_setCell_other _ _ _ _ (by simp), hc1]
      · rcases b1 with e | e
        · exact Or.inl (e ▸ hg)
        · rw [e] at hg; simp at hg; exact Or.inr (by omega)
  have c0 := h.c0
  have f1 : w1.frozen? ⟨K, o, none⟩ = false := (hf1 o).trans h.f0
  have k1 : w1.cell? ⟨K, o, none⟩ = some v := (hc1 o).trans h.c0
  obtain ⟨a, n, cp, rfl⟩ : ∃ a n cp, v = .slice a n cp := by
    rcases h.row.form with ⟨rfl, _⟩ | ⟨g, cap, rfl, _⟩
    · exact ⟨_, _, _, rfl⟩
    · exact ⟨_, _, _, rfl⟩
  obtain ⟨a', n', cp', rfl⟩ : ∃ a n cp, v' = .slice a n cp := by
    rcases r1.form with ⟨rfl, _⟩ | ⟨g, cap, rfl, _⟩
    · exact ⟨_, _, _, rfl⟩
    · exact ⟨_, _, _, rfl⟩
  clear h hb hpo r1 g1 b1 o1 hc1 hf1 hs'
  go_enter Tryd.func72, Tryd.ntmps72
  go_wp2_with (at_builtin; refine wpList_append_run rfl (.tmp 8) (.tmp 9) 28 _ rfl hr ?_)
  go_end0
  exact ⟨rfl, _, H.out⟩

theorem Row.slice {w : World} {B : Nat} {v : Value} {xs : List Int} (h : Row w B v xs) : ∃ a cp, v = .slice a xs.length cp ∧ xs.length ≤ cp ∧ cp ≤ maxLen ∧ (a = none → xs.length = 0 ∧ cp = 0) := by
  rcases h.form with ⟨rfl, rfl⟩ | ⟨g, cap, rfl, _, _, h1, h2⟩
  · exact ⟨_, _, rfl, Nat.le_refl _, Nat.zero_le _, fun _ => ⟨rfl, rfl⟩⟩
  · exact ⟨_, _, rfl, h1, h2, fun e => by cases e⟩
set_option maxHeartbeats 400000 in
theorem sync_any {B K o : Nat} {v : Value} {xs : List Int} {s : Int} (w : World) (h : Ar w B K o v xs s) :
    Calls Tryd.prog 75 #[.pointer (some ⟨K, o, none⟩)] w fun e w' => e = .returned (.tuple #[]) ∧ Ar w' B K o v xs xs.length ∧ ArStep w w' K o v v := by
  obtain ⟨a, cp, rfl, _, _⟩ := h.row.slice
  have H : Hid (Ar (w.setCell ⟨K, o + 1, none⟩ (.int .i64 xs.length)) B K o (.slice a xs.length cp) xs xs.length ∧ ArStep w (w.setCell ⟨K, o + 1, none⟩ (.int .i64 xs.length)) K o (.slice a xs.length cp) (.slice a xs.length cp)) := by
    refine ⟨⟨by rw [World.cell?_setCell_other _ _ _ _ (by simp)]; exact h.c0, World.cell?_setCell_same _ _ _ h.c1, by simpa using h.f0, by simpa using h.f1, h.row.set h.sep, h.sep, h.len, by omega⟩, ?_⟩
    refine ⟨Off.setCell (P := fun k => k = K ∨ (Value.slice a xs.length cp).ownBlock = some k) (Off.refl _ _) (p := ⟨K, o + 1, none⟩) (Or.inl rfl) _, fun q _ _ => World.cell?_setCell_other _ _ _ _ (by simp), fun q => by simp, fun _ g => Or.inl g⟩
  have c0 := h.c0
  have c1 := h.c1
  have f1 := h.f1
  have hl := h.len
  clear h
  go_enter Tryd.func75, Tryd.ntmps75
  go_wp2
  go_end0
  exact ⟨rfl, H.out⟩
set_option maxHeartbeats 400000 in
theorem room_any {B K o : Nat} {v : Value} {xs : List Int} {s : Int} (w : World) (h : Ar w B K o v xs s) :
    Calls Tryd.prog 69 #[.pointer (some ⟨K, o, none⟩)] w fun e w' => e = .returned (.int .i64 (16777216 - xs.length)) ∧ w' = w := by
  obtain ⟨a, cp, rfl, _, _⟩ := h.row.slice
  have c0 := h.c0
  have hl := h.len
  clear h
  go_enter Tryd.func69, Tryd.ntmps69
  go_wp2
  go_ret
  exact ⟨rfl, rfl⟩
def hasB (len at_ n : Int) : Bool := decide (0 ≤ at_) && decide (at_ ≤ len) && decide (0 ≤ n) && decide (n ≤ len - at_)
set_option maxHeartbeats 1000000 in
theorem has_any {B K o : Nat} {v : Value} {xs : List Int} {s : Int} (x n : Int) (w : World) (h : Ar w B K o v xs s) (hx : -9223372036854775808 ≤ x ∧ x ≤ 9223372036854775807) :
    Calls Tryd.prog 84 #[.pointer (some ⟨K, o, none⟩), .int .i64 x, .int .i64 n] w fun e w' => e = .returned (.bool (hasB xs.length x n)) ∧ w' = w := by
  obtain ⟨a, cp, rfl, _, _⟩ := h.row.slice
  have c0 := h.c0
  have hl := h.len
  clear h
  go_enter Tryd.func84, Tryd.ntmps84
  go_wp2
  all_goals
    go_ret
    refine ⟨ret_bool ?_, rfl⟩
    unfold hasB
    rw [Bool.eq_iff_iff]
    simp
    try omega
def betw (n most : Int) : Int := min (max n 0) most
set_option maxHeartbeats 400000 in
theorem between_any (n m : Int) (w : World) :
    Calls Tryd.prog 79 #[.int .i64 n, .int .i64 m] w fun e w' => e = .returned (.int .i64 (betw n m)) ∧ w' = w := by
  go_enter Tryd.func79, Tryd.ntmps79
  go_wp2
  all_goals (go_ret; exact ⟨ret_int (by unfold betw; omega), rfl⟩)
theorem Row.cut {w : World} {B : Nat} {xs : List Int} {g cap n : Nat} (h : Row w B (.slice (some ⟨g, 0, none⟩) n cap) xs) {k : Nat} (hk : k ≤ xs.length) : Row w B (.slice (some ⟨g, 0, none⟩) k cap) (xs.take k) := by
  rcases h.2 with ⟨h0, _⟩ | ⟨g', cap', cur, e, hB, hg, hn, hm, hc, ht⟩
  · cases h0
  · simp only [Value.slice.injEq, Option.some.injEq, Addr.mk.injEq, and_true] at e
    obtain ⟨rfl, _, rfl⟩ := e
    have hl : (xs.take k).length = k := by simp; omega
    refine ⟨by rw [u8s_length]; omega, Or.inr ⟨g, cap, cur, by rw [hl], hB, hg, by omega, hm, hc, ?_⟩⟩
    rw [hl, u8s_take, ← ht, List.take_take]
    congr 1
    omega
set_option maxRecDepth 100000 in
set_option maxHeartbeats 1000000 in
theorem cut_any {B K o : Nat} {v : Value} {xs : List Int} {s : Int} (k : Nat) (w : World) (h : Ar w B K o v xs s) (hk : k ≤ xs.length) :
    Calls Tryd.prog 80 #[.pointer (some ⟨K, o, none⟩), .int .i64 k] w fun e w' => e = .returned (.tuple #[]) ∧ ∃ v', Ar w' B K o v' (xs.take k) (min s k) ∧ ArStep w w' K o v v' := by
  have c0 := h.c0
  have c1 := h.c1
  have f0 := h.f0
  have f1 := h.f1
  have hl := h.len
  have hs := h.syn
  have key : ∀ v', Row w B v' (xs.take k) → v'.ownBlock = v.ownBlock → Ar ((w.setCell ⟨K, o, none⟩ v').setCell ⟨K, o + 1, none⟩ (.int .i64 (min s k))) B K o v' (xs.take k) (min s k) ∧ ArStep w ((w.setCell ⟨K, o, none⟩ v').setCell ⟨K, o + 1, none⟩ (.int .i64 (min s k))) K o v v' := fun v' hr hb => by
    have hsep : v'.ownBlock ≠ some K := by rw [hb]; exact h.sep
    refine ⟨⟨by rw [World.cell?_setCell_other _ _ _ _ (by simp)]; exact World.cell?_setCell_same _ _ _ c0, World.cell?_setCell_same _ _ _ (u := .int .i64 s) (by rw [World.cell?_setCell_other _ _ _ _ (by simp)]; exact c1), by simpa using f0, by simpa using f1, (hr.set hsep).set hsep, hsep, by simp; omega, by simp; omega⟩, ?_⟩
    refine ⟨Off.setCell (P := fun k => k = K ∨ v.ownBlock = some k) (Off.setCell (P := fun k => k = K ∨ v.ownBlock = some k) (Off.refl _ _) (p := ⟨K, o, none⟩) (Or.inl rfl) _) (p := ⟨K, o + 1, none⟩) (Or.inl rfl) _, fun q h1 h2 => ?_, fun q => by simp, fun g hg => Or.inl (hb ▸ hg)⟩
    rw [World.cell?_setCell_other _ _ _ _ (by simp), World.cell?_setCell_other _ _ _ _ (by simp)]
  have HK : Hid (type_of% key) := key
  have HR : Hid (Row w B v xs) := h.row
  clear key h
  by_cases hz : (k : Int) < s
  · have em : min s (k : Int) = k := by omega
    rw [em] at HK ⊢
    clear em
    rcases HR.out.form with ⟨rfl, rfl⟩ | ⟨g, cap, rfl, _, _, h1, h2⟩
    · simp at hs; omega
    · go_enter Tryd.func80, Tryd.ntmps80
      go_wp2
      go_end0
      exact ⟨rfl, _, HK.out _ (HR.out.cut hk) rfl⟩
  · have em : min s (k : Int) = s := by omega
    rw [em] at HK ⊢
    clear em
    rcases HR.out.form with ⟨rfl, rfl⟩ | ⟨g, cap, rfl, _, _, h1, h2⟩
    · obtain rfl : k = 0 := by simpa using hk
      obtain rfl : s = 0 := by simp at hs; omega
      go_enter Tryd.func80, Tryd.ntmps80
      go_wp2
      go_end0
      exact ⟨rfl, _, HK.out _ HR.out rfl⟩
    · go_enter Tryd.func80, Tryd.ntmps80
      go_wp2
      go_end0
      exact ⟨rfl, _, HK.out _ (HR.out.cut hk) rfl⟩
end Go.Proofs.YtfkcnnjkflomkaaDoor
