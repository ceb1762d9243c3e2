import Derived.Test.YtoijhecphgdfnaaGreatDoorOxOnceS
/-
  OutboxBack: what Load asks of a list stays true of a box, whatever is called. Of no program.
-/
namespace Go.Proofs.YtoijhecphgdfnaaGreatDoor
open Go.RowKit

/-- A message that Load takes, its place aside. -/
def okM (m : Msg) : Prop := ctB m.ct = true ∧ (decide (m.tn = 0) || decide (8192 < m.tn)) = false ∧ (okB m.e m.a m.p && (caB m.e m.a || !m.nt)) = true
structure Bk (sq : Bool) (ms : List Msg) : Prop where
  ok : ∀ m ∈ ms, okM m
  id : (ids ms).Nodup
  nu : ∀ (k : Nat) (m : Msg), ms[k]? = some m → m.nu ≠ 0 → sq = true ∧ k = 0 ∧ nmB m.nu = true
  un : sq = true → ∀ (k : Nat) (m : Msg), 1 ≤ k → ms[k]? = some m → m.un = false
theorem Bk.nil (sq : Bool) : Bk sq [] := ⟨fun m h => (by cases h), List.nodup_nil, fun k m h => by simp at h, fun _ k m _ h => by simp at h⟩
theorem refS_ok {sq : Bool} {ms : List Msg} {m : Msg} (h : refS sq ms m = 0) : okM m ∧ fi m.ct ms = none ∧ (m.nu ≠ 0 → sq = true ∧ ms.length = 0 ∧ nmB m.nu = true) := by
  have hf := (refS_zero h).1
  unfold refS at h
  split at h
  · cases h
  split at h
  · cases h
  split at h
  · cases h
  split at h
  · cases h
  split at h
  · cases h
  rename_i h1 h2 h3 h4 h5
  refine ⟨⟨(Bool.not_eq_false _).mp h1, (Bool.not_eq_true _).mp h3, (Bool.not_eq_false _).mp h4⟩, hf, fun hn => ?_⟩
  have h6 : (sq && decide (ms.length = 0) && nmB m.nu) = true := by
    revert h5
    rw [decide_eq_true hn]
    cases (sq && decide (ms.length = 0) && nmB m.nu) <;> simp
  simp only [Bool.and_eq_true, decide_eq_true_eq] at h6
  exact ⟨h6.1.1, h6.1.2, h6.2⟩
theorem Bk.snoc {sq : Bool} {ms : List Msg} {m : Msg} (h : Bk sq ms) (hr : refS sq ms m = 0) (hu : m.un = false) : Bk sq (ms ++ [m]) := by
  obtain ⟨h1, h2, h3⟩ := refS_ok hr
  have at_ : ∀ {k : Nat} {x : Msg}, (ms ++ [m])[k]? = some x → ms[k]? = some x ∨ (k = ms.length ∧ x = m) := fun {k x} hx => by
    by_cases hk : k < ms.length
    · rw [List.getElem?_append_left hk] at hx; exact Or.inl hx
    · have hl := (List.getElem?_eq_some_iff.1 hx).1
      simp only [List.length_append, List.length_singleton] at hl
      obtain rfl : k = ms.length := by omega
      rw [List.getElem?_append_right (Nat.le_refl _), Nat.sub_self] at hx
      exact Or.inr ⟨rfl, by simpa using hx.symm⟩
  refine ⟨fun x hx => ?_, ?_, fun k x hx hn => ?_, fun hs k x hk hx => ?_⟩
  · rcases List.mem_append.1 hx with g | g
    · exact h.ok x g
    · obtain rfl : x = m := by simpa using g
      exact h1
  · unfold ids
    rw [List.map_append, List.nodup_append]
    refine ⟨h.id, by simp, fun a ha b hb => ?_⟩
    obtain ⟨x, hx, rfl⟩ := List.mem_map.1 ha
    simp only [List.map_cons, List.map_nil, List.mem_singleton] at hb
    rw [hb]
    obtain ⟨j, hj, e⟩ := List.getElem_of_mem hx
    have := fi_none h2 j x (by rw [List.getElem?_eq_getElem hj, e])
    simpa using this
  · rcases at_ hx with g | ⟨rfl, rfl⟩
    · exact h.nu k x g hn
    · exact h3 hn
  · rcases at_ hx with g | ⟨rfl, rfl⟩
    · exact h.un hs k x hk g
    · exact hu
theorem Bk.set {sq : Bool} {ms : List Msg} {m m' : Msg} {i : Nat} (h : Bk sq ms) (hm : ms[i]? = some m) (he : m'.ct = m.ct) (hok : okM m') (hn : m'.nu ≠ 0 → sq = true ∧ i = 0 ∧ nmB m'.nu = true) (hu : sq = true → 1 ≤ i → m'.un = false) : Bk sq (ms.set i m') := by
  have hil := (List.getElem?_eq_some_iff.1 hm).1
  have at_ : ∀ {k : Nat} {x : Msg}, (ms.set i m')[k]? = some x → ms[k]? = some x ∨ (k = i ∧ x = m') := fun {k x} hx => by
    rw [List.getElem?_set] at hx
    split at hx
    · rename_i e
      simp only [Option.some.injEq] at hx
      exact Or.inr ⟨e.symm, hx.symm⟩
    · exact Or.inl hx
  refine ⟨fun x hx => ?_, ?_, fun k x hx hz => ?_, fun hs k x hk hx => ?_⟩
  · rcases mem_set hx with g | rfl
    · exact h.ok x g
    · exact hok
  · have : ids (ms.set i m') = ids ms := by
      unfold ids
      rw [List.map_set]
      have e1 : (ms.map fun m => m.ct.toList)[i]? = some m'.ct.toList := by rw [List.getElem?_map, hm, he]; rfl
      have hl := (List.getElem?_eq_some_iff.1 e1).1
      rw [← (List.getElem?_eq_some_iff.1 e1).2]
      exact List.set_getElem_self hl
    rw [this]; exact h.id
  · rcases at_ hx with g | ⟨rfl, rfl⟩
    · exact h.nu k x g hz
    · exact hn hz
  · rcases at_ hx with g | ⟨rfl, rfl⟩
    · exact h.un hs k x hk g
    · exact hu hs hk
theorem Bk.erase {sq : Bool} {ms : List Msg} (h : Bk sq ms) (i : Nat) : Bk sq (ms.eraseIdx i) := by
  have at_ : ∀ {k : Nat} {x : Msg}, (ms.eraseIdx i)[k]? = some x → ms[k]? = some x ∨ ms[k + 1]? = some x := fun {k x} hx => by
    rw [List.getElem?_eraseIdx] at hx
    split at hx
    · exact Or.inl hx
    · exact Or.inr hx
  refine ⟨fun x hx => h.ok x (List.mem_of_mem_eraseIdx hx), ?_, fun k x hx hz => ?_, fun hs k x hk hx => ?_⟩
  · have e : ids (ms.eraseIdx i) = (ids ms).eraseIdx i := map_erase _ ms i
    rw [e]; exact h.id.sublist (List.eraseIdx_sublist _ _)
  · rcases at_ hx with g | g
    · exact h.nu k x g hz
    · have := (h.nu _ x g hz).2.1; omega
  · rcases at_ hx with g | g
    · exact h.un hs k x hk g
    · exact h.un hs _ x (by omega) g
theorem tks_keep (x : Int) (l : ActL) : ∀ t : Msg × Bool, (tksS x t l).1.e = t.1.e ∧ (tksS x t l).1.a = t.1.a ∧ (tksS x t l).1.p = t.1.p ∧ (tksS x t l).1.un = t.1.un ∧ ((tksS x t l).1.nt = t.1.nt ∨ ∃ y ∈ l, y.1 = 3) ∧ ((tksS x t l).1.nu = t.1.nu ∨ ((∃ y ∈ l, y.1 = 5) ∧ (tksS x t l).1.nu = x)) := by
  induction l with
  | nil => intro t; exact ⟨rfl, rfl, rfl, rfl, Or.inl rfl, Or.inl rfl⟩
  | cons y r ih =>
    intro t
    have e : tksS x t (y :: r) = tksS x (tkS x t y.1) r := rfl
    rw [e]
    obtain ⟨h1, h2, h3, h4, h5, h6⟩ := ih (tkS x t y.1)
    have k : (tkS x t y.1).1.e = t.1.e ∧ (tkS x t y.1).1.a = t.1.a ∧ (tkS x t y.1).1.p = t.1.p ∧ (tkS x t y.1).1.un = t.1.un ∧ ((tkS x t y.1).1.nt = t.1.nt ∨ y.1 = 3) ∧ ((tkS x t y.1).1.nu = t.1.nu ∨ (y.1 = 5 ∧ (tkS x t y.1).1.nu = x)) := by
      unfold tkS
      split
      · rename_i g; exact ⟨rfl, rfl, rfl, rfl, Or.inr g, Or.inl rfl⟩
      split
      · rename_i g; exact ⟨rfl, rfl, rfl, rfl, Or.inl rfl, Or.inr ⟨g, rfl⟩⟩
      split <;> exact ⟨rfl, rfl, rfl, rfl, Or.inl rfl, Or.inl rfl⟩
    refine ⟨h1.trans k.1, h2.trans k.2.1, h3.trans k.2.2.1, h4.trans k.2.2.2.1, ?_, ?_⟩
    · rcases h5 with h5 | ⟨z, hz, e⟩
      · rcases k.2.2.2.2.1 with g | g
        · exact Or.inl (h5.trans g)
        · exact Or.inr ⟨y, List.mem_cons_self, g⟩
      · exact Or.inr ⟨z, List.mem_cons_of_mem _ hz, e⟩
    · rcases h6 with h6 | ⟨⟨z, hz, e⟩, h6⟩
      · rcases k.2.2.2.2.2 with g | ⟨g, g2⟩
        · exact Or.inl (h6.trans g)
        · exact Or.inr ⟨⟨y, List.mem_cons_self, g⟩, h6.trans g2⟩
      · exact Or.inr ⟨⟨z, List.mem_cons_of_mem _ hz, e⟩, h6⟩
theorem doS_at {ms : List Msg} {m m' : Msg} {i : Nat} {x : Int} {l : ActL} (hf : fi m.ct ms = some i) (he : m'.ct = m.ct) : doS ms m' x l = ms.eraseIdx i ∨ doS ms m' x l = ms.set i (tksS x (m', false) l).1 := by
  have hc : (tksS x (m', false) l).1.ct = m.ct := by rw [(tksS_ct x l (m', false)).1, he]
  unfold doS
  split
  · left
    unfold delS
    rw [hc, hf]
  · right
    unfold putS
    rw [hc, hf]
theorem fi_at {ms : List Msg} {m : Msg} {i : Nat} (h : (ids ms).Nodup) (hm : ms[i]? = some m) : fi m.ct ms = some i := by
  obtain ⟨j, hj⟩ := fi_mem (List.mem_of_getElem? hm)
  have h1 := fi_ids hj
  have h2 : (ids ms)[i]? = some m.ct.toList := by unfold ids; rw [List.getElem?_map, hm]; rfl
  have hj1 := (List.getElem?_eq_some_iff.1 h1).1
  obtain ⟨hi1, e2⟩ := List.getElem?_eq_some_iff.1 h2
  have e1 := (List.getElem?_eq_some_iff.1 h1).2
  have := (List.getElem_inj h).1 (e1.trans e2.symm)
  rw [hj, this]
theorem next_at {sq : Bool} {ms : List Msg} {m : Msg} (h : nextS sq ms = some m) : ∃ i, ms[i]? = some m ∧ (sq = true → i = 0) := by
  cases sq with
  | true =>
    obtain ⟨r, rfl⟩ := nextS_true h
    exact ⟨0, rfl, fun _ => rfl⟩
  | false =>
    obtain ⟨i, hi, e⟩ := List.getElem_of_mem (nextS_mem h).1
    exact ⟨i, by rw [List.getElem?_eq_getElem hi, e], fun e => (by cases e)⟩
theorem bk_do {sq : Bool} {ms : List Msg} {m : Msg} {i : Nat} {st lf x : Int} {l : ActL} (h : Bk sq ms) (hm : ms[i]? = some m) (hs : sq = true → i = 0) (h5 : ∀ y ∈ l, (y.1 = 5 → sq = true ∧ nmB x = true) ∧ (y.1 = 3 → caB m.e m.a = true)) : Bk sq (doS ms { m with st := st, lf := lf, un := true } x l) := by
  have hf := fi_at h.id hm
  rcases doS_at (m := m) (m' := { m with st := st, lf := lf, un := true }) (x := x) (l := l) hf rfl with e | e
  · rw [e]; exact h.erase i
  · rw [e]
    have hc := tksS_ct x l ({ m with st := st, lf := lf, un := true }, false)
    obtain ⟨k1, k2, k3, k4, k5, k6⟩ := tks_keep x l ({ m with st := st, lf := lf, un := true }, false)
    obtain ⟨o1, o2, o3⟩ := h.ok m (List.mem_of_getElem? hm)
    refine h.set hm hc.1 ⟨?_, ?_, ?_⟩ (fun hz => ?_) (fun hq hi => ?_)
    · rw [hc.1]; exact o1
    · rw [hc.2.2.1]; exact o2
    · rw [k1, k2, k3]
      show (okB m.e m.a m.p && (caB m.e m.a || _)) = true
      rcases k5 with g | ⟨y, hy, g⟩
      · rw [g]; exact o3
      · rw [((h5 y hy).2 g), (Bool.and_eq_true_iff.1 o3).1]; rfl
    · rcases k6 with g | ⟨⟨y, hy, g⟩, g2⟩
      · rw [g] at hz ⊢
        exact h.nu i m hm hz
      · obtain ⟨e1, e2⟩ := (h5 y hy).1 g
        exact ⟨e1, hs e1, by rw [g2]; exact e2⟩
    · have := hs hq; omega
theorem bk_step {sq : Bool} {ms ms' : List Msg} {kd : Int} {ct : ByteArray} {ds : List Deed} (h : Bk sq ms) (hs : StepR sq ms kd ct ds ms') : Bk sq ms' := by
  cases hs with
  | idle _ => exact h
  | add m _ _ hc _ hun =>
    refine h.snoc ?_ hun
    unfold addC at hc
    split at hc
    · cases hc
    · exact hc
  | give m n _ hq hn hg =>
    obtain ⟨i, hm, hi⟩ := next_at hn
    have e : putS { m with nu := n } ms = ms.set i { m with nu := n } := by
      unfold putS
      rw [show fi ({ m with nu := n } : Msg).ct ms = some i from fi_at (m := m) h.id hm]
    rw [e]
    exact h.set hm rfl (h.ok m (List.mem_of_getElem? hm)) (fun _ => ⟨hq, hi hq, hg⟩) fun g1 g2 => by have := hi g1; omega
  | go m st lf l _ hn hq h5 =>
    obtain ⟨i, hm, hi⟩ := next_at hn
    exact bk_do h hm hi fun y hy => ⟨fun e => absurd e (h5 y hy).1, fun e => absurd e (h5 y hy).2⟩
  | ans m i st lf x l _ hf hm hu h5 =>
    refine bk_do h hm (fun hq => ?_) h5
    rcases Nat.eq_zero_or_pos i with g | g
    · exact g
    · have := h.un hq i m g hm
      rw [hu] at this; cases this
/-- The same messages, their texts elsewhere. -/
def Wis (ms xs : List Msg) : Prop := ms.length = xs.length ∧ ∀ (i : Nat) (m x : Msg), ms[i]? = some m → xs[i]? = some x → ∃ a c, m = x.wi a c
theorem Wis.nil : Wis [] [] := ⟨rfl, fun i m x h => by simp at h⟩
theorem Wis.snoc {ms xs : List Msg} {m x : Msg} (h : Wis ms xs) (h1 : ∃ a c, m = x.wi a c) : Wis (ms ++ [m]) (xs ++ [x]) := by
  refine ⟨by simp [h.1], fun i y z hy hz => ?_⟩
  by_cases hi : i < ms.length
  · rw [List.getElem?_append_left hi] at hy
    rw [List.getElem?_append_left (by rw [← h.1]; exact hi)] at hz
    exact h.2 i y z hy hz
  · have hyi := (List.getElem?_eq_some_iff.1 hy).1
    simp only [List.length_append, List.length_singleton] at hyi
    obtain rfl : i = ms.length := by omega
    rw [List.getElem?_append_right (Nat.le_refl _), Nat.sub_self] at hy
    rw [List.getElem?_append_right (by rw [h.1]; exact Nat.le_refl _), h.1, Nat.sub_self] at hz
    simp only [List.getElem?_cons_zero, Option.some.injEq] at hy hz
    subst hy; subst hz
    exact h1
theorem Wis.ids {ms xs : List Msg} (h : Wis ms xs) : ids ms = ids xs := by
  unfold Go.Proofs.YtoijhecphgdfnaaGreatDoor.ids
  apply List.ext_getElem?
  intro i
  rw [List.getElem?_map, List.getElem?_map]
  have hl := h.1
  by_cases hi : i < xs.length
  · obtain ⟨x, hx⟩ : ∃ x, xs[i]? = some x := ⟨_, List.getElem?_eq_getElem hi⟩
    obtain ⟨m, hm⟩ : ∃ m, ms[i]? = some m := ⟨_, List.getElem?_eq_getElem (by omega)⟩
    obtain ⟨a, c, rfl⟩ := h.2 i m x hm hx
    rw [hx, hm]
    rfl
  · rw [List.getElem?_eq_none (by omega), List.getElem?_eq_none (by omega)]
end Go.Proofs.YtoijhecphgdfnaaGreatDoor

/-
  Lists of Outs: that came in, or of the call's own. What Load asks of one.
-/
namespace Go.Proofs.YtoijhecphgdfnaaGreatDoor
open Go.RowKit

structure OutAt (w : World) (b o : Nat) (x : Msg) : Prop where
  lt : b < w.heap.size
  c0 : w.cell? ⟨b, o, none⟩ = some (.string x.ct)
  c1 : w.cell? ⟨b, o + 1, none⟩ = some (.slice x.tp x.tn x.tc)
  c2 : w.cell? ⟨b, o + 2, none⟩ = some (.bool x.e)
  c3 : w.cell? ⟨b, o + 3, none⟩ = some (.int .i64 x.a)
  c4 : w.cell? ⟨b, o + 4, none⟩ = some (.int .i64 x.p)
  c5 : w.cell? ⟨b, o + 5, none⟩ = some (.int .i64 x.nu)
  c6 : w.cell? ⟨b, o + 6, none⟩ = some (.bool x.nt)
  p : Byts w x.tp x.tn x.tx
  q : x.tp = none → x.tc = 0
theorem OutAt.below {w w' : World} {b o : Nat} {x : Msg} (h : OutAt w b o x) (hb : Below w.heap.size w w') : OutAt w' b o x := by
  have e : ∀ q, w'.cell? ⟨b, q, none⟩ = w.cell? ⟨b, q, none⟩ := fun q => hb.cell (p := ⟨b, q, none⟩) h.lt
  exact ⟨Nat.lt_of_lt_of_le h.lt hb.size, by rw [e]; exact h.c0, by rw [e]; exact h.c1, by rw [e]; exact h.c2, by rw [e]; exact h.c3, by rw [e]; exact h.c4, by rw [e]; exact h.c5, by rw [e]; exact h.c6, h.p.below hb, h.q⟩
def Outs (w : World) (ao : Option Addr) (xs : List Msg) : Prop := ∀ (j : Nat) (x : Msg), xs[j]? = some x → ∃ b off, ao = some ⟨b, off, none⟩ ∧ OutAt w b (off + j * 7) x
theorem Outs.below {w w' : World} {ao : Option Addr} {xs : List Msg} (h : Outs w ao xs) (hb : Below w.heap.size w w') : Outs w' ao xs := fun j x hx => by
  obtain ⟨b, off, e, ho⟩ := h j x hx
  exact ⟨b, off, e, ho.below hb⟩
/-- A message as it goes in: nothing of its turn. -/
def Plain (m : Msg) : Prop := m.st = 0 ∧ m.lf = 0 ∧ m.un = false
/-- What Load takes. -/
structure Good (sq : Bool) (tr : Int) (xs : List Msg) : Prop where
  t0 : 0 ≤ tr
  t1 : tr ≤ 16
  len : xs.length ≤ 32
  ref : ∀ (j : Nat) (x : Msg), xs[j]? = some x → refS sq (xs.take j) x = 0
theorem fi_ids_eq (s : ByteArray) (ms : List Msg) : fi s ms = (ids ms).findIdx? (fun k => k == s.toList) := by
  unfold fi ids
  rw [List.findIdx?_map]
  rfl
theorem refS_wis {sq : Bool} {ms xs : List Msg} (h : Wis ms xs) (x : Msg) : refS sq ms x = refS sq xs x := by
  unfold refS
  rw [fi_ids_eq, fi_ids_eq, h.ids, h.1]
theorem Wis.take {ms xs : List Msg} (h : Wis ms xs) (k : Nat) : Wis (ms.take k) (xs.take k) := by
  refine ⟨by simp [h.1], fun i m x hm hx => ?_⟩
  rw [List.getElem?_take] at hm hx
  split at hm
  · rename_i hk
    rw [if_pos hk] at hx
    exact h.2 i m x hm hx
  · cases hm
/-- In the midst of Load. -/
structure LdI (w : World) (b kb : Nat) (sq : Bool) (tr : Int) (xs : List Msg) (i : Nat) (wx : World) : Prop where
  ex : ∃ v ms, Li w wx b kb v sq tr ms ∧ Wis ms (xs.take i)
  ref : ∀ (j : Nat) (x : Msg), j < i → xs[j]? = some x → refS sq (xs.take j) x = 0
theorem LdI.next {w wx w' : World} {b kb : Nat} {v : Value} {sq : Bool} {tr : Int} {xs ms : List Msg} {i : Nat} {x : Msg} {a : Option Addr} {c : Nat} (h : ∀ (j : Nat) (x : Msg), j < i → xs[j]? = some x → refS sq (xs.take j) x = 0) (L : Li w wx b kb v sq tr ms) (hW : Wis ms (xs.take i)) (hx : xs[i]? = some x) (hr : refS sq (xs.take i) x = 0) (hq : BxQ wx b kb v sq tr (ms ++ [x.wi a c]) w') : LdI w b kb sq tr xs (i + 1) w' := by
  obtain ⟨v', L'⟩ := L.step hq
  refine ⟨⟨v', _, L', ?_⟩, fun j y hj hy => ?_⟩
  · rw [List.take_add_one, hx]
    exact hW.snoc ⟨a, c, rfl⟩
  · by_cases e : j < i
    · exact h j y e hy
    · obtain rfl : j = i := by omega
      rw [hx] at hy
      obtain rfl : x = y := by simpa using hy
      exact hr
end Go.Proofs.YtoijhecphgdfnaaGreatDoor

/-
  Arguments opened: lists of Outs, Made.
-/
namespace Go.Proofs.YtoijhecphgdfnaaGreatDoor
open Go.ChangeShapes Go.WideShapes Go.ChangeAt Go.RowKit Go.Deep

theorem cellsOut : Tryz.prog.cellsOf 58 = 7 := by kernel_rfl
theorem cellsOuts : Tryz.prog.cellsOf 22 = 1 := by kernel_rfl
theorem cellsMade : Tryz.prog.cellsOf 24 = 3 := by kernel_rfl
theorem fiveL {α : Type} {l : List α} (h : l.length = 5) : ∃ c0 c1 c2 c3 c4, l = [c0, c1, c2, c3, c4] := by
  match l, h with
  | [c0, c1, c2, c3, c4], _ => exact ⟨c0, c1, c2, c3, c4, rfl⟩
theorem sevenL {α : Type} {l : List α} (h : l.length = 7) : ∃ c0 c1 c2 c3 c4 c5 c6, l = [c0, c1, c2, c3, c4, c5, c6] := by
  match l, h with
  | [c0, c1, c2, c3, c4, c5, c6], _ => exact ⟨c0, c1, c2, c3, c4, c5, c6, rfl⟩
section
variable {H : Type} {enc : TypeId × Value → H} {W : World} {base : Nat} {spare : Nat → Bool} {held : Bool}
end
end Go.Proofs.YtoijhecphgdfnaaGreatDoor

/-
  Arguments opened under the second form's bound: Ops, Outs, a Made.
-/
namespace Go.Proofs.YtoijhecphgdfnaaGreatDoor
open Go.ChangeShapes Go.WideShapes Go.ChangeAt Go.RowKit Go.Deep

theorem bulk_one {H : Type} (d : DataW H) : 1 ≤ Rows.uptoBulk d := by
  cases d with
  | lit l => cases l <;> simp [Rows.uptoBulk]
  | nil => simp [Rows.uptoBulk]
  | ptr d => simp [Rows.uptoBulk]
  | slice a b => simp [Rows.uptoBulk]
  | agg a => simp [Rows.uptoBulk]
  | iface t d => simp [Rows.uptoBulk]
  | map a => simp [Rows.uptoBulk]
  | held a => simp [Rows.uptoBulk]
theorem bulk_len {H : Type} : ∀ (l : List (DataW H)), l.length ≤ Rows.uptoBulkAll l
  | [] => by simp [Rows.uptoBulkAll]
  | x :: r => by have h1 := bulk_one x; have h2 := bulk_len r; simp only [Rows.uptoBulkAll, List.length_cons]; omega
theorem bulk_mem {H : Type} {d : DataW H} : ∀ {l : List (DataW H)}, d ∈ l → Rows.uptoBulk d ≤ Rows.uptoBulkAll l
  | x :: r, h => by
    simp only [Rows.uptoBulkAll]
    rcases List.mem_cons.1 h with rfl | g
    · omega
    · have := bulk_mem g; omega
section
variable {H : Type} {enc : TypeId × Value → H} {W : World} {base : Nat} {spare : Nat → Bool} {held : Bool}
theorem bytes_bulk {x : DataW H × List MemPlace} {pl : Nat} (h : pl = 0 ∨ ∃ el sp, x.1 = .slice el sp ∧ el.length = pl) : pl ≤ Rows.uptoBulk x.1 := by
  rcases h with h0 | ⟨el, sp, e, h1⟩
  · omega
  · rw [e]
    simp only [Rows.uptoBulk]
    have := bulk_len el
    omega
set_option maxRecDepth 100000 in
set_option maxHeartbeats 1000000 in
theorem open_opu {n : Nat} {cs : List Value} {x : DataW H × List MemPlace} {b o : Nat} (h : DataW.trod enc Tryz.prog W base spare held n 47 cs = some x) (hc : ∀ j v, cs[j]? = some v → W.cell? ⟨b, o + j, none⟩ = some v) :
    ∃ y : Opv, OpAt W b o y ∧ y.tn ≤ Rows.uptoBulk x.1 := by
  obtain ⟨xs, m, _, hxe, hcl, hlen, hfl⟩ := DataW.trod_struct Tryz.underlying47 h
  obtain ⟨c0, c1, c2, c3, c4, c5, c6, c7, rfl⟩ := eight (l := cs) (by rw [hcl, cellsOp])
  obtain ⟨x0, x1, x2, x3, x4, x5, rfl⟩ := six (l := xs) hlen
  have g0 : DataW.trod enc Tryz.prog W base spare held m 3 [c0] = some x0 := by simpa [cellsInt] using hfl 0 _ rfl
  have g1 : DataW.trod enc Tryz.prog W base spare held m 9 [c1] = some x1 := by simpa [cellsString] using hfl 1 _ rfl
  have g2 : DataW.trod enc Tryz.prog W base spare held m 43 [c2] = some x2 := by simpa [cellsBytes] using hfl 2 _ rfl
  have g3 : DataW.trod enc Tryz.prog W base spare held m 45 [c3, c4, c5] = some x3 := by simpa [cellsCond] using hfl 3 _ rfl
  have g4 : DataW.trod enc Tryz.prog W base spare held m 9 [c6] = some x4 := by simpa [cellsString] using hfl 4 _ rfl
  have g5 : DataW.trod enc Tryz.prog W base spare held m 3 [c7] = some x5 := by simpa [cellsInt] using hfl 5 _ rfl
  obtain ⟨kd, rfl, _⟩ := one_int g0
  obtain ⟨ct, rfl, _⟩ := one_string g1
  obtain ⟨po, pl, pc, bs, e2, hB, hpc, hw2⟩ := open_bytes g2
  obtain rfl := List.head_eq_of_cons_eq e2
  obtain ⟨ys, m3, _, _, _, hlen3, hfl3⟩ := DataW.trod_struct Tryz.underlying45 g3
  obtain ⟨y0, y1, y2, rfl⟩ := three (l := ys) hlen3
  have k0 : DataW.trod enc Tryz.prog W base spare held m3 4 [c3] = some y0 := by simpa [cellsBool] using hfl3 0 _ rfl
  have k1 : DataW.trod enc Tryz.prog W base spare held m3 3 [c4] = some y1 := by simpa [cellsInt] using hfl3 1 _ rfl
  have k2 : DataW.trod enc Tryz.prog W base spare held m3 3 [c5] = some y2 := by simpa [cellsInt] using hfl3 2 _ rfl
  obtain ⟨ee, rfl, _⟩ := one_bool k0
  obtain ⟨aa, rfl, _⟩ := one_int k1
  obtain ⟨pp, rfl, _⟩ := one_int k2
  obtain ⟨cd, rfl, _⟩ := one_string g4
  obtain ⟨nn, rfl, _⟩ := one_int g5
  refine ⟨⟨kd, ct, po, pl, pc, bs, ee, aa, pp, cd, nn⟩, ⟨cell_lt (hc 0 _ rfl), hc 0 _ rfl, hc 1 _ rfl, hc 2 _ rfl, hc 3 _ rfl, hc 4 _ rfl, hc 5 _ rfl, hc 6 _ rfl, hc 7 _ rfl, hB, hpc⟩, ?_⟩
  · show pl ≤ _
    have hb := bytes_bulk hw2
    rw [hxe]
    simp only [Rows.uptoBulk, List.map_cons, List.map_nil, Rows.uptoBulkAll]
    omega
set_option maxRecDepth 100000 in
set_option maxHeartbeats 1000000 in
theorem open_opsu {n : Nat} {cs : List Value} {x : DataW H × List MemPlace} (h : DataW.trod enc Tryz.prog W base spare held n 25 cs = some x) :
    ∃ ao cap xs, cs = [.slice ao xs.length cap] ∧ Ops 8 W ao xs ∧ xs.length ≤ Rows.uptoBulk x.1 ∧ ∀ y ∈ xs, y.tn ≤ Rows.uptoBulk x.1 := by
  rcases open_slice Tryz.underlying25 h with ⟨rfl, _⟩ | ⟨a, len, cap, m, n', D, Pl, rfl, _, hl, hm, hmm, hxe, hx⟩
  · exact ⟨none, 0, [], rfl, fun k x hk => (by simp at hk), by simp, fun y hy => (by cases hy)⟩
  · have hlm : len ≤ m := by rw [hmm]; split <;> omega
    have key : ∀ k, k < len → ∃ y : Opv, (∃ b off, a = ⟨b, off, none⟩ ∧ OpAt W b (off + k * 8) y) ∧ y.tn ≤ Rows.uptoBulk (D k) := by
      have hsp : 0 < len → a.spot = none := fun h0 => by
        obtain ⟨cs', h1, _⟩ := hx 0 (by omega)
        rw [Nat.zero_mul] at h1
        obtain ⟨b, o, e, _⟩ := cells_at h1 (by rw [cellsOp]; decide)
        have : a.add 0 = a := rfl
        rw [this] at e; rw [e]
      intro k hk
      obtain ⟨b, off, sp⟩ := a
      obtain rfl : sp = none := hsp (by omega)
      obtain ⟨cs', h1, h2⟩ := hx k (by omega)
      rw [cellsOp] at h1
      obtain ⟨b', o', e, hc⟩ := cells_at h1 (by decide)
      rw [Addr.add_lit] at e
      obtain ⟨rfl, rfl⟩ : b = b' ∧ off + k * 8 = o' := by simpa using e
      obtain ⟨y, hy, hp⟩ := open_opu h2 hc
      exact ⟨y, ⟨b, off, rfl, hy⟩, hp⟩
    haveI : Inhabited Opv := ⟨⟨0, ⟨#[]⟩, none, 0, 0, [], false, 0, 0, ⟨#[]⟩, 0⟩⟩
    obtain ⟨Y, hY⟩ := choose_lt (α := Opv) (p := fun k y => (∃ b off, a = ⟨b, off, none⟩ ∧ OpAt W b (off + k * 8) y) ∧ y.tn ≤ Rows.uptoBulk (D k)) key
    refine ⟨some a, cap, (List.range len).map Y, by simp, fun k x hk => ?_, ?_, fun y hy => ?_⟩
    · simp only [List.getElem?_map, Option.map_eq_some_iff] at hk
      obtain ⟨i, hi, rfl⟩ := hk
      obtain ⟨hi1, hi2⟩ := List.getElem?_eq_some_iff.1 hi
      simp at hi1 hi2
      subst hi2
      obtain ⟨⟨b, off, e, ho⟩, _⟩ := hY k hi1
      exact ⟨b, off, by rw [e], ho⟩
    · rw [hxe]
      simp only [Rows.uptoBulk]
      have h3 := bulk_len ((List.range len).map D)
      simp only [List.length_map, List.length_range] at h3 ⊢
      omega
    · obtain ⟨i, hi, rfl⟩ := List.mem_map.1 hy
      have hy2 := (hY i (List.mem_range.1 hi)).2
      rw [hxe]
      simp only [Rows.uptoBulk]
      have h3 := bulk_mem (List.mem_map_of_mem (f := D) hi)
      omega
set_option maxRecDepth 100000 in
set_option maxHeartbeats 1000000 in
theorem open_outu {n : Nat} {cs : List Value} {x : DataW H × List MemPlace} {b o : Nat} (h : DataW.trod enc Tryz.prog W base spare held n 58 cs = some x) (hc : ∀ j v, cs[j]? = some v → W.cell? ⟨b, o + j, none⟩ = some v) :
    ∃ y : Msg, OutAt W b o y ∧ Plain y ∧ y.tn ≤ Rows.uptoBulk x.1 := by
  obtain ⟨xs, m, _, hxe, hcl, hlen, hfl⟩ := DataW.trod_struct Tryz.underlying58 h
  obtain ⟨c0, c1, c2, c3, c4, c5, c6, rfl⟩ := sevenL (l := cs) (by rw [hcl, cellsOut])
  obtain ⟨x0, x1, x2, x3, x4, rfl⟩ := fiveL (l := xs) hlen
  have g0 : DataW.trod enc Tryz.prog W base spare held m 9 [c0] = some x0 := by simpa [cellsString] using hfl 0 _ rfl
  have g1 : DataW.trod enc Tryz.prog W base spare held m 43 [c1] = some x1 := by simpa [cellsBytes] using hfl 1 _ rfl
  have g2 : DataW.trod enc Tryz.prog W base spare held m 45 [c2, c3, c4] = some x2 := by simpa [cellsCond] using hfl 2 _ rfl
  have g3 : DataW.trod enc Tryz.prog W base spare held m 3 [c5] = some x3 := by simpa [cellsInt] using hfl 3 _ rfl
  have g4 : DataW.trod enc Tryz.prog W base spare held m 4 [c6] = some x4 := by simpa [cellsBool] using hfl 4 _ rfl
  obtain ⟨ct, rfl, _⟩ := one_string g0
  obtain ⟨po, pl, pc, bs, e2, hB, hpc, hw2⟩ := open_bytes g1
  obtain rfl := List.head_eq_of_cons_eq e2
  obtain ⟨ys, m3, _, _, _, hlen3, hfl3⟩ := DataW.trod_struct Tryz.underlying45 g2
  obtain ⟨y0, y1, y2, rfl⟩ := three (l := ys) hlen3
  have k0 : DataW.trod enc Tryz.prog W base spare held m3 4 [c2] = some y0 := by simpa [cellsBool] using hfl3 0 _ rfl
  have k1 : DataW.trod enc Tryz.prog W base spare held m3 3 [c3] = some y1 := by simpa [cellsInt] using hfl3 1 _ rfl
  have k2 : DataW.trod enc Tryz.prog W base spare held m3 3 [c4] = some y2 := by simpa [cellsInt] using hfl3 2 _ rfl
  obtain ⟨ee, rfl, _⟩ := one_bool k0
  obtain ⟨aa, rfl, _⟩ := one_int k1
  obtain ⟨pp, rfl, _⟩ := one_int k2
  obtain ⟨nu, rfl, _⟩ := one_int g3
  obtain ⟨nt, rfl, _⟩ := one_bool g4
  refine ⟨⟨ct, po, pl, pc, bs, ee, aa, pp, nu, nt, 0, 0, false⟩, ⟨cell_lt (hc 0 _ rfl), hc 0 _ rfl, hc 1 _ rfl, hc 2 _ rfl, hc 3 _ rfl, hc 4 _ rfl, hc 5 _ rfl, hc 6 _ rfl, hB, hpc⟩, ⟨rfl, rfl, rfl⟩, ?_⟩
  · show pl ≤ _
    have hb := bytes_bulk hw2
    rw [hxe]
    simp only [Rows.uptoBulk, List.map_cons, List.map_nil, Rows.uptoBulkAll]
    omega
set_option maxRecDepth 100000 in
set_option maxHeartbeats 1000000 in
theorem open_outsu {n : Nat} {cs : List Value} {x : DataW H × List MemPlace} (h : DataW.trod enc Tryz.prog W base spare held n 22 cs = some x) :
    ∃ ao cap xs, cs = [.slice ao xs.length cap] ∧ Outs W ao xs ∧ (∀ y ∈ xs, Plain y) ∧ xs.length ≤ Rows.uptoBulk x.1 ∧ ∀ y ∈ xs, y.tn ≤ Rows.uptoBulk x.1 := by
  rcases open_slice Tryz.underlying22 h with ⟨rfl, _⟩ | ⟨a, len, cap, m, n', D, Pl, rfl, _, hl, hm, hmm, hxe, hx⟩
  · exact ⟨none, 0, [], rfl, fun k x hk => (by simp at hk), fun y hy => (by cases hy), by simp, fun y hy => (by cases hy)⟩
  · have hlm : len ≤ m := by rw [hmm]; split <;> omega
    have key : ∀ k, k < len → ∃ y : Msg, (∃ b off, a = ⟨b, off, none⟩ ∧ OutAt W b (off + k * 7) y) ∧ Plain y ∧ y.tn ≤ Rows.uptoBulk (D k) := by
      have hsp : 0 < len → a.spot = none := fun h0 => by
        obtain ⟨cs', h1, _⟩ := hx 0 (by omega)
        rw [Nat.zero_mul] at h1
        obtain ⟨b, o, e, _⟩ := cells_at h1 (by rw [cellsOut]; decide)
        have : a.add 0 = a := rfl
        rw [this] at e; rw [e]
      intro k hk
      obtain ⟨b, off, sp⟩ := a
      obtain rfl : sp = none := hsp (by omega)
      obtain ⟨cs', h1, h2⟩ := hx k (by omega)
      rw [cellsOut] at h1
      obtain ⟨b', o', e, hc⟩ := cells_at h1 (by decide)
      rw [Addr.add_lit] at e
      obtain ⟨rfl, rfl⟩ : b = b' ∧ off + k * 7 = o' := by simpa using e
      obtain ⟨y, hy, hp⟩ := open_outu h2 hc
      exact ⟨y, ⟨b, off, rfl, hy⟩, hp⟩
    haveI : Inhabited Msg := ⟨zM⟩
    obtain ⟨Y, hY⟩ := choose_lt (α := Msg) (p := fun k y => (∃ b off, a = ⟨b, off, none⟩ ∧ OutAt W b (off + k * 7) y) ∧ Plain y ∧ y.tn ≤ Rows.uptoBulk (D k)) key
    refine ⟨some a, cap, (List.range len).map Y, by simp, fun k x hk => ?_, fun y hy => ?_, ?_, fun y hy => ?_⟩
    · simp only [List.getElem?_map, Option.map_eq_some_iff] at hk
      obtain ⟨i, hi, rfl⟩ := hk
      obtain ⟨hi1, hi2⟩ := List.getElem?_eq_some_iff.1 hi
      simp at hi1 hi2
      subst hi2
      obtain ⟨⟨b, off, e, ho⟩, _⟩ := hY k hi1
      exact ⟨b, off, by rw [e], ho⟩
    · obtain ⟨i, hi, rfl⟩ := List.mem_map.1 hy
      exact (hY i (List.mem_range.1 hi)).2.1
    · rw [hxe]
      simp only [Rows.uptoBulk]
      have h3 := bulk_len ((List.range len).map D)
      simp only [List.length_map, List.length_range] at h3 ⊢
      omega
    · obtain ⟨i, hi, rfl⟩ := List.mem_map.1 hy
      have hy2 := (hY i (List.mem_range.1 hi)).2.2
      rw [hxe]
      simp only [Rows.uptoBulk]
      have h3 := bulk_mem (List.mem_map_of_mem (f := D) hi)
      omega
set_option maxRecDepth 100000 in
set_option maxHeartbeats 1000000 in
theorem open_madeu {r : Reach} {b0 : Nat} {v : Value} {d : DataW H} {p : List MemPlace}
    (hv : Value.okWide Tryz.prog W r b0 24 v) (h : DataW.Trod enc Tryz.prog W base spare held 24 v d p) :
    ∃ ao cap xs sq tr, v = .agg #[.slice ao (List.length xs) cap, .bool sq, .int .i64 tr] ∧ Outs W ao xs ∧ (∀ y ∈ xs, Plain y) ∧ xs.length ≤ Rows.uptoBulk d ∧ ∀ y ∈ xs, y.tn ≤ Rows.uptoBulk d := by
  obtain ⟨cs, rfl, hsz⟩ := okWide_struct Tryz.underlying24 hv
  obtain ⟨l⟩ := cs
  obtain ⟨c0, c1, c2, rfl⟩ := three (l := l) (by simpa [cellsMade] using hsz)
  obtain ⟨fuel, hf⟩ := h
  obtain ⟨xs, n, _, hx, hl, hlen, hfl⟩ := DataW.trod_struct Tryz.underlying24 hf
  obtain ⟨x0, x1, x2, rfl⟩ := three (l := xs) hlen
  have g0 : DataW.trod enc Tryz.prog W base spare held n 22 [c0] = some x0 := by simpa [Value.cells, cellsOuts] using hfl 0 _ rfl
  have g1 : DataW.trod enc Tryz.prog W base spare held n 4 [c1] = some x1 := by simpa [Value.cells, cellsBool] using hfl 1 _ rfl
  have g2 : DataW.trod enc Tryz.prog W base spare held n 3 [c2] = some x2 := by simpa [Value.cells, cellsInt] using hfl 2 _ rfl
  obtain ⟨ao, cap, ys, e0, hO, hP, hW, hT⟩ := open_outsu g0
  obtain rfl := List.head_eq_of_cons_eq e0
  obtain ⟨k1, rfl, _⟩ := one_bool g1
  obtain ⟨k2, rfl, _⟩ := one_int g2
  refine ⟨ao, cap, ys, k1, k2, rfl, hO, hP, ?_, fun y hy => ?_⟩
  all_goals
    have hd : d = .agg ([x0, x1, x2].map (·.1)) := congrArg Prod.fst hx
    rw [hd]
    simp only [Rows.uptoBulk, List.map_cons, List.map_nil, Rows.uptoBulkAll]
  · omega
  · have := hT y hy
    omega
end
end Go.Proofs.YtoijhecphgdfnaaGreatDoor
