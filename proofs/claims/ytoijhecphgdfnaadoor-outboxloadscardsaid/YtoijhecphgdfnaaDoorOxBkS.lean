/-
  OutboxBack: what Load asks of a list stays true of a box, whatever is called. Of no program.
-/
import Derived.Test.YtoijhecphgdfnaaDoorOxOnceS
namespace Go.Proofs.YtoijhecphgdfnaaDoor
open Go.RowKit

/-- A message that Load takes, its place aside. -/
def okM (m : Msg) : Prop := ctB m.ct = true ∧ (decide (m.tn = 0) || decide (8192 < m.tn)) = false ∧ (okB m.e m.a m.p && (caB m.e m.a || !m.nt)) = true
structure Bk (sq : Bool) (ms : List Msg) : Prop where
  ok : ∀ m ∈ ms, okM m
  id : (ids ms).Nodup
  nu : ∀ (k : Nat) (m : Msg), ms[k]? = some m → m.nu ≠ 0 → sq = true ∧ k = 0 ∧ nmB m.nu = true
  un : sq = true → ∀ (k : Nat) (m : Msg), 1 ≤ k → ms[k]? = some m → m.un = false
theorem Bk.nil (sq : Bool) : Bk sq [] := ⟨fun m h => (by cases h), List.nodup_nil, fun k m h => by simp at h, fun _ k m _ h => by simp at h⟩
theorem refS_ok {sq : Bool} {ms : List Msg} {m : Msg} (h : refS sq ms m = 0) : okM m ∧ fi m.ct ms = none ∧ (m.nu ≠ 0 → sq = true ∧ ms.length = 0 ∧ nmB m.nu = true) := by
  have hf := (refS_zero h).1
  unfold refS at h
  split at h
  · cases h
  split at h
  · cases h
  split at h
  · cases h
  split at h
  · cases h
  split at h
  · cases h
  rename_i h1 h2 h3 h4 h5
  refine ⟨⟨(Bool.not_eq_false _).mp h1, (Bool.not_eq_true _).mp h3, (Bool.not_eq_false _).mp h4⟩, hf, fun hn => ?_⟩
  have h6 : (sq && decide (ms.length = 0) && nmB m.nu) = true := by
    revert h5
    rw [decide_eq_true hn]
    cases (sq && decide (ms.length = 0) && nmB m.nu) <;> simp
  simp only [Bool.and_eq_true, decide_eq_true_eq] at h6
  exact ⟨h6.1.1, h6.1.2, h6.2⟩
theorem refS_of {sq : Bool} {ms : List Msg} {m : Msg} (h : okM m) (hf : fi m.ct ms = none) (hn : m.nu ≠ 0 → sq = true ∧ ms.length = 0 ∧ nmB m.nu = true) : refS sq ms m = 0 := by
  obtain ⟨h1, h2, h3⟩ := h
  unfold refS
  rw [h1, hf, h2, h3]
  simp only [Bool.true_eq_false, if_false, Option.isSome_none, Bool.false_eq_true]
  rw [if_neg]
  simp only [Bool.and_eq_true, decide_eq_true_eq, Bool.not_eq_eq_eq_not, Bool.not_true, not_and]
  intro h
  obtain ⟨e1, e2, e3⟩ := hn h
  rw [e1, e3, decide_eq_true e2]
  simp
theorem Bk.snoc {sq : Bool} {ms : List Msg} {m : Msg} (h : Bk sq ms) (hr : refS sq ms m = 0) (hu : m.un = false) : Bk sq (ms ++ [m]) := by
  obtain ⟨h1, h2, h3⟩ := refS_ok hr
  have at_ : ∀ {k : Nat} {x : Msg}, (ms ++ [m])[k]? = some x → ms[k]? = some x ∨ (k = ms.length ∧ x = m) := fun {k x} hx => by
    by_cases hk : k < ms.length
    · rw [List.getElem?_append_left hk] at hx; exact Or.inl hx
    · have hl := (List.getElem?_eq_some_iff.1 hx).1
      simp only [List.length_append, List.length_singleton] at hl
      obtain rfl : k = ms.length := by omega
      rw [List.getElem?_append_right (Nat.le_refl _), Nat.sub_self] at hx
      exact Or.inr ⟨rfl, by simpa using hx.symm⟩
  refine ⟨fun x hx => ?_, ?_, fun k x hx hn => ?_, fun hs k x hk hx => ?_⟩
  · rcases List.mem_append.1 hx with g | g
    · exact h.ok x g
    · obtain rfl : x = m := by simpa using g
      exact h1
  · unfold ids
    rw [List.map_append, List.nodup_append]
    refine ⟨h.id, by simp, fun a ha b hb => ?_⟩
    obtain ⟨x, hx, rfl⟩ := List.mem_map.1 ha
    simp only [List.map_cons, List.map_nil, List.mem_singleton] at hb
    rw [hb]
    obtain ⟨j, hj, e⟩ := List.getElem_of_mem hx
    have := fi_none h2 j x (by rw [List.getElem?_eq_getElem hj, e])
    simpa using this
  · rcases at_ hx with g | ⟨rfl, rfl⟩
    · exact h.nu k x g hn
    · exact h3 hn
  · rcases at_ hx with g | ⟨rfl, rfl⟩
    · exact h.un hs k x hk g
    · exact hu
theorem Bk.set {sq : Bool} {ms : List Msg} {m m' : Msg} {i : Nat} (h : Bk sq ms) (hm : ms[i]? = some m) (he : m'.ct = m.ct) (hok : okM m') (hn : m'.nu ≠ 0 → sq = true ∧ i = 0 ∧ nmB m'.nu = true) (hu : sq = true → 1 ≤ i → m'.un = false) : Bk sq (ms.set i m') := by
  have hil := (List.getElem?_eq_some_iff.1 hm).1
  have at_ : ∀ {k : Nat} {x : Msg}, (ms.set i m')[k]? = some x → ms[k]? = some x ∨ (k = i ∧ x = m') := fun {k x} hx => by
    rw [List.getElem?_set] at hx
    split at hx
    · rename_i e
      simp only [Option.some.injEq] at hx
      exact Or.inr ⟨e.symm, hx.symm⟩
    · exact Or.inl hx
  refine ⟨fun x hx => ?_, ?_, fun k x hx hz => ?_, fun hs k x hk hx => ?_⟩
  · rcases mem_set hx with g | rfl
    · exact h.ok x g
    · exact hok
  · have : ids (ms.set i m') = ids ms := by
      unfold ids
      rw [List.map_set]
      have e1 : (ms.map fun m => m.ct.toList)[i]? = some m'.ct.toList := by rw [List.getElem?_map, hm, he]; rfl
      have hl := (List.getElem?_eq_some_iff.1 e1).1
      rw [← (List.getElem?_eq_some_iff.1 e1).2]
      exact List.set_getElem_self hl
    rw [this]; exact h.id
  · rcases at_ hx with g | ⟨rfl, rfl⟩
    · exact h.nu k x g hz
    · exact hn hz
  · rcases at_ hx with g | ⟨rfl, rfl⟩
    · exact h.un hs k x hk g
    · exact hu hs hk
theorem Bk.erase {sq : Bool} {ms : List Msg} (h : Bk sq ms) (i : Nat) : Bk sq (ms.eraseIdx i) := by
  have at_ : ∀ {k : Nat} {x : Msg}, (ms.eraseIdx i)[k]? = some x → ms[k]? = some x ∨ ms[k + 1]? = some x := fun {k x} hx => by
    rw [List.getElem?_eraseIdx] at hx
    split at hx
    · exact Or.inl hx
    · exact Or.inr hx
  refine ⟨fun x hx => h.ok x (List.mem_of_mem_eraseIdx hx), ?_, fun k x hx hz => ?_, fun hs k x hk hx => ?_⟩
  · have e : ids (ms.eraseIdx i) = (ids ms).eraseIdx i := map_erase _ ms i
    rw [e]; exact h.id.sublist (List.eraseIdx_sublist _ _)
  · rcases at_ hx with g | g
    · exact h.nu k x g hz
    · have := (h.nu _ x g hz).2.1; omega
  · rcases at_ hx with g | g
    · exact h.un hs k x hk g
    · exact h.un hs _ x (by omega) g
theorem tks_keep (x : Int) (l : ActL) : ∀ t : Msg × Bool, (tksS x t l).1.e = t.1.e ∧ (tksS x t l).1.a = t.1.a ∧ (tksS x t l).1.p = t.1.p ∧ (tksS x t l).1.un = t.1.un ∧ ((tksS x t l).1.nt = t.1.nt ∨ ∃ y ∈ l, y.1 = 3) ∧ ((tksS x t l).1.nu = t.1.nu ∨ ((∃ y ∈ l, y.1 = 5) ∧ (tksS x t l).1.nu = x)) := by
  induction l with
  | nil => intro t; exact ⟨rfl, rfl, rfl, rfl, Or.inl rfl, Or.inl rfl⟩
  | cons y r ih =>
    intro t
    have e : tksS x t (y :: r) = tksS x (tkS x t y.1) r := rfl
    rw [e]
    obtain ⟨h1, h2, h3, h4, h5, h6⟩ := ih (tkS x t y.1)
    have k : (tkS x t y.1).1.e = t.1.e ∧ (tkS x t y.1).1.a = t.1.a ∧ (tkS x t y.1).1.p = t.1.p ∧ (tkS x t y.1).1.un = t.1.un ∧ ((tkS x t y.1).1.nt = t.1.nt ∨ y.1 = 3) ∧ ((tkS x t y.1).1.nu = t.1.nu ∨ (y.1 = 5 ∧ (tkS x t y.1).1.nu = x)) := by
      unfold tkS
      split
      · rename_i g; exact ⟨rfl, rfl, rfl, rfl, Or.inr g, Or.inl rfl⟩
      split
      · rename_i g; exact ⟨rfl, rfl, rfl, rfl, Or.inl rfl, Or.inr ⟨g, rfl⟩⟩
      split <;> exact ⟨rfl, rfl, rfl, rfl, Or.inl rfl, Or.inl rfl⟩
    refine ⟨h1.trans k.1, h2.trans k.2.1, h3.trans k.2.2.1, h4.trans k.2.2.2.1, ?_, ?_⟩
    · rcases h5 with h5 | ⟨z, hz, e⟩
      · rcases k.2.2.2.2.1 with g | g
        · exact Or.inl (h5.trans g)
        · exact Or.inr ⟨y, List.mem_cons_self, g⟩
      · exact Or.inr ⟨z, List.mem_cons_of_mem _ hz, e⟩
    · rcases h6 with h6 | ⟨⟨z, hz, e⟩, h6⟩
      · rcases k.2.2.2.2.2 with g | ⟨g, g2⟩
        · exact Or.inl (h6.trans g)
        · exact Or.inr ⟨⟨y, List.mem_cons_self, g⟩, h6.trans g2⟩
      · exact Or.inr ⟨⟨z, List.mem_cons_of_mem _ hz, e⟩, h6⟩
theorem doS_at {ms : List Msg} {m m' : Msg} {i : Nat} {x : Int} {l : ActL} (hf : fi m.ct ms = some i) (he : m'.ct = m.ct) : doS ms m' x l = ms.eraseIdx i ∨ doS ms m' x l = ms.set i (tksS x (m', false) l).1 := by
  have hc : (tksS x (m', false) l).1.ct = m.ct := by rw [(tksS_ct x l (m', false)).1, he]
  unfold doS
  split
  · left
    unfold delS
    rw [hc, hf]
  · right
    unfold putS
    rw [hc, hf]
theorem fi_at {ms : List Msg} {m : Msg} {i : Nat} (h : (ids ms).Nodup) (hm : ms[i]? = some m) : fi m.ct ms = some i := by
  obtain ⟨j, hj⟩ := fi_mem (List.mem_of_getElem? hm)
  have h1 := fi_ids hj
  have h2 : (ids ms)[i]? = some m.ct.toList := by unfold ids; rw [List.getElem?_map, hm]; rfl
  have hj1 := (List.getElem?_eq_some_iff.1 h1).1
  obtain ⟨hi1, e2⟩ := List.getElem?_eq_some_iff.1 h2
  have e1 := (List.getElem?_eq_some_iff.1 h1).2
  have := (List.getElem_inj h).1 (e1.trans e2.symm)
  rw [hj, this]
theorem next_at {sq : Bool} {ms : List Msg} {m : Msg} (h : nextS sq ms = some m) : ∃ i, ms[i]? = some m ∧ (sq = true → i = 0) := by
  cases sq with
  | true =>
    obtain ⟨r, rfl⟩ := nextS_true h
    exact ⟨0, rfl, fun _ => rfl⟩
  | false =>
    obtain ⟨i, hi, e⟩ := List.getElem_of_mem (nextS_mem h).1
    exact ⟨i, by rw [List.getElem?_eq_getElem hi, e], fun e => (by cases e)⟩
theorem bk_do {sq : Bool} {ms : List Msg} {m : Msg} {i : Nat} {st lf x : Int} {l : ActL} (h : Bk sq ms) (hm : ms[i]? = some m) (hs : sq = true → i = 0) (h5 : ∀ y ∈ l, (y.1 = 5 → sq = true ∧ nmB x = true) ∧ (y.1 = 3 → caB m.e m.a = true)) : Bk sq (doS ms { m with st := st, lf := lf, un := true } x l) := by
  have hf := fi_at h.id hm
  rcases doS_at (m := m) (m' := { m with st := st, lf := lf, un := true }) (x := x) (l := l) hf rfl with e | e
  · rw [e]; exact h.erase i
  · rw [e]
    have hc := tksS_ct x l ({ m with st := st, lf := lf, un := true }, false)
    obtain ⟨k1, k2, k3, k4, k5, k6⟩ := tks_keep x l ({ m with st := st, lf := lf, un := true }, false)
    obtain ⟨o1, o2, o3⟩ := h.ok m (List.mem_of_getElem? hm)
    refine h.set hm hc.1 ⟨?_, ?_, ?_⟩ (fun hz => ?_) (fun hq hi => ?_)
    · rw [hc.1]; exact o1
    · rw [hc.2.2.1]; exact o2
    · rw [k1, k2, k3]
      show (okB m.e m.a m.p && (caB m.e m.a || _)) = true
      rcases k5 with g | ⟨y, hy, g⟩
      · rw [g]; exact o3
      · rw [((h5 y hy).2 g), (Bool.and_eq_true_iff.1 o3).1]; rfl
    · rcases k6 with g | ⟨⟨y, hy, g⟩, g2⟩
      · rw [g] at hz ⊢
        exact h.nu i m hm hz
      · obtain ⟨e1, e2⟩ := (h5 y hy).1 g
        exact ⟨e1, hs e1, by rw [g2]; exact e2⟩
    · have := hs hq; omega
theorem bk_step {sq : Bool} {ms ms' : List Msg} {kd : Int} {ct : ByteArray} {ds : List Deed} (h : Bk sq ms) (hs : StepR sq ms kd ct ds ms') : Bk sq ms' := by
  cases hs with
  | idle _ => exact h
  | add m _ _ hc _ hun =>
    refine h.snoc ?_ hun
    unfold addC at hc
    split at hc
    · cases hc
    · exact hc
  | give m n _ hq hn hg =>
    obtain ⟨i, hm, hi⟩ := next_at hn
    have e : putS { m with nu := n } ms = ms.set i { m with nu := n } := by
      unfold putS
      rw [show fi ({ m with nu := n } : Msg).ct ms = some i from fi_at (m := m) h.id hm]
    rw [e]
    exact h.set hm rfl (h.ok m (List.mem_of_getElem? hm)) (fun _ => ⟨hq, hi hq, hg⟩) fun g1 g2 => by have := hi g1; omega
  | go m st lf l _ hn hq h5 =>
    obtain ⟨i, hm, hi⟩ := next_at hn
    exact bk_do h hm hi fun y hy => ⟨fun e => absurd e (h5 y hy).1, fun e => absurd e (h5 y hy).2⟩
  | ans m i st lf x l _ hf hm hu h5 =>
    refine bk_do h hm (fun hq => ?_) h5
    rcases Nat.eq_zero_or_pos i with g | g
    · exact g
    · have := h.un hq i m g hm
      rw [hu] at this; cases this
/-- The same messages, their texts elsewhere. -/
def Wis (ms xs : List Msg) : Prop := ms.length = xs.length ∧ ∀ (i : Nat) (m x : Msg), ms[i]? = some m → xs[i]? = some x → ∃ a c, m = x.wi a c
theorem Wis.nil : Wis [] [] := ⟨rfl, fun i m x h => by simp at h⟩
theorem Wis.snoc {ms xs : List Msg} {m x : Msg} (h : Wis ms xs) (h1 : ∃ a c, m = x.wi a c) : Wis (ms ++ [m]) (xs ++ [x]) := by
  refine ⟨by simp [h.1], fun i y z hy hz => ?_⟩
  by_cases hi : i < ms.length
  · rw [List.getElem?_append_left hi] at hy
    rw [List.getElem?_append_left (by rw [← h.1]; exact hi)] at hz
    exact h.2 i y z hy hz
  · have hyi := (List.getElem?_eq_some_iff.1 hy).1
    simp only [List.length_append, List.length_singleton] at hyi
    obtain rfl : i = ms.length := by omega
    rw [List.getElem?_append_right (Nat.le_refl _), Nat.sub_self] at hy
    rw [List.getElem?_append_right (by rw [h.1]; exact Nat.le_refl _), h.1, Nat.sub_self] at hz
    simp only [List.getElem?_cons_zero, Option.some.injEq] at hy hz
    subst hy; subst hz
    exact h1
theorem Wis.ids {ms xs : List Msg} (h : Wis ms xs) : ids ms = ids xs := by
  unfold Go.Proofs.YtoijhecphgdfnaaDoor.ids
  apply List.ext_getElem?
  intro i
  rw [List.getElem?_map, List.getElem?_map]
  have hl := h.1
  by_cases hi : i < xs.length
  · obtain ⟨x, hx⟩ : ∃ x, xs[i]? = some x := ⟨_, List.getElem?_eq_getElem hi⟩
    obtain ⟨m, hm⟩ : ∃ m, ms[i]? = some m := ⟨_, List.getElem?_eq_getElem (by omega)⟩
    obtain ⟨a, c, rfl⟩ := h.2 i m x hm hx
    rw [hx, hm]
    rfl
  · rw [List.getElem?_eq_none (by omega), List.getElem?_eq_none (by omega)]
end Go.Proofs.YtoijhecphgdfnaaDoor
