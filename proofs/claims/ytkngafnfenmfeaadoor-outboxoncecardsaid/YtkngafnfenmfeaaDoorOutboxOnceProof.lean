import Derived.Test.YtkngafnfenmfeaaDoorOxDoes
import Derived.Test.YtkngafnfenmfeaaDoorOxOrder
import Derived.Test.YtkngafnfenmfeaaDoorOxLaw0
import Derived.Test.YtkngafnfenmfeaaDoorOxList
import Derived.Test.YtkngafnfenmfeaaDoorOxHeads2
import Derived.Test.YtkngafnfenmfeaaDoorOxOpenP
import Derived.Test.YtkngafnfenmfeaaDoorOxSpec
import Derived.Carry
/-
  The law's 'final' and 'has'.
-/
namespace Go.Proofs.YtkngafnfenmfeaaDoor
open Go.RowKit

def finB (ds : List Deed) (s : ByteArray) : Bool := ds.any fun d => d.2.1 == 4 && d.1.toList == s.toList
def hasB (ms : List Msg) (s : ByteArray) : Bool := ms.any fun m => m.ct.toList == s.toList
theorem any_no {α : Type} {p : α → Bool} {l : List α} (h : ∀ (i : Nat) (x : α), i < l.length → l[i]? = some x → p x = false) : l.any p = false := by
  rw [List.any_eq_false]
  intro x hx
  obtain ⟨i, hi, e⟩ := List.getElem_of_mem hx
  rw [h i x hi (by rw [List.getElem?_eq_getElem hi, e])]
  simp
theorem any_yes {α : Type} {p : α → Bool} {l : List α} {i : Nat} {x : α} (hi : l[i]? = some x) (h : p x = true) : l.any p = true := List.any_eq_true.2 ⟨x, List.mem_of_getElem? hi, h⟩
set_option maxRecDepth 100000 in
set_option maxHeartbeats 2000000 in
theorem final_any {w : World} {B : Nat} {a : Option Addr} {c : Nat} {ds : List Deed} (h : DRow w B (.slice a (List.length ds) c) ds) (s : ByteArray) :
    Calls Tryd.prog 27 #[.slice a (List.length ds) c, .string s] w fun e w' => e = .returned (.bool (finB ds s)) ∧ w' = w := by
  have hm : ds.length ≤ 9223372036854775807 := by
    rcases ERow.form h with ⟨_, e⟩ | ⟨g, cap, _, _, _, h1, h2⟩
    · rw [e]; simp
    · unfold maxLen at h2; omega
  have HH : Hid (DRow w B (.slice a (List.length ds) c) ds) := h
  obtain ⟨n, hn⟩ : ∃ n, List.length ds = n := ⟨_, rfl⟩
  have HN : Hid (List.length ds = n) := hn
  rw [hn] at hm ⊢
  clear hn h
  go_enter Tryd.func27, Tryd.ntmps27
  go_wp2_with fail
  go_loopw [5] (fun ti wx => ∃ j : Nat, j ≤ n ∧ ti = .int .i64 j ∧ wx = w ∧ Hid (∀ i x, i < j → ds[i]? = some x → (x.2.1 == 4 && x.1.toList == s.toList) = false)) (fun ti _ => n - (intOf ti).toNat)
  case atStart => exact ⟨0, Nat.zero_le _, rfl, rfl, fun i x hi => by omega⟩
  case round =>
    obtain ⟨j, hj, rfl, hw, HR⟩ := hrel
    subst hw
    by_cases hlt : j < n
    · have hlt1 : (j : Int) < n := by omega
      obtain ⟨d, hd⟩ : ∃ d, ds[j]? = some d := ⟨_, List.getElem?_eq_getElem (by rw [HN.out]; exact hlt)⟩
      have HD : Hid (ds[j]? = some d) := hd
      obtain ⟨g, rfl, _, hc⟩ := ERow.at_ encD_len HH.out hd
      have k0 := hc 0 (by decide)
      have k1 := hc 1 (by decide)
      simp [encD] at k0 k1
      clear hc hd
      cases e0 : (d.2.1 == 4 && d.1.toList == s.toList) with
      | true =>
        have HE : Hid (finB ds s = true) := any_yes HD.out e0
        simp only [Bool.and_eq_true] at e0
        obtain ⟨e1, e2⟩ := e0
        go_wp2_with fail
        go_ret
        exact ⟨by rw [HE.out]; rfl, rfl⟩
      | false =>
        have HS : Hid (∀ i x, i < j + 1 → ds[i]? = some x → (x.2.1 == 4 && x.1.toList == s.toList) = false) := fun i x hi hx => by
          by_cases hij : i < j
          · exact HR.out i x hij hx
          · obtain rfl : i = j := by omega
            rw [HD.out] at hx
            obtain rfl : d = x := by simpa using hx
            exact e0
        clear HR HD
        cases e1 : (d.2.1 == 4) with
        | false =>
          clear e0
          go_wp2_with fail
          go_roundw
          case rel => exact ⟨j + 1, hlt, by go_num, trivial, HS⟩
          case measure => simp [intOf]; omega
        | true =>
          have e2 : (d.1.toList == s.toList) = false := by simpa [e1] using e0
          clear e0
          go_wp2_with fail
          go_roundw
          case rel => exact ⟨j + 1, hlt, by go_num, trivial, HS⟩
          case measure => simp [intOf]; omega
    · have hlt1 : ¬ (j : Int) < n := by omega
      have HE : Hid (finB ds s = false) := any_no (p := fun d : Deed => d.2.1 == 4 && d.1.toList == s.toList) (l := ds) fun i x hi hx => HR.out i x (by have := HN.out; omega) hx
      clear HR
      go_wp2_with fail
      go_ret
      exact ⟨by rw [HE.out]; rfl, rfl⟩
set_option maxRecDepth 100000 in
set_option maxHeartbeats 2000000 in
theorem has_any {w : World} {B n : Nat} {a : Option Addr} {c : Nat} {ls : List Msg} (h : ERow w B 50 10 encM (.slice a n c) ls) (s : ByteArray) :
    Calls Tryd.prog 28 #[.slice a n c, .string s] w fun e w' => e = .returned (.bool (hasB ls s)) ∧ w' = w := by
  have hn := ERow.len h
  have hm : n ≤ 9223372036854775807 := by
    rcases ERow.form h with ⟨_, e⟩ | ⟨g, cap, _, _, _, h1, h2⟩
    · rw [hn, e]; simp
    · unfold maxLen at h2; omega
  have HH : Hid (ERow w B 50 10 encM (.slice a n c) ls) := h
  have HN : Hid (ls.length = n) := hn.symm
  clear hn h
  go_enter Tryd.func28, Tryd.ntmps28
  go_wp2_with fail
  go_loopw [5] (fun ti wx => ∃ j : Nat, j ≤ n ∧ ti = .int .i64 j ∧ wx = w ∧ Hid (∀ i x, i < j → ls[i]? = some x → (x.ct.toList == s.toList) = false)) (fun ti _ => n - (intOf ti).toNat)
  case atStart => exact ⟨0, Nat.zero_le _, rfl, rfl, fun i x hi => by omega⟩
  case round =>
    obtain ⟨j, hj, rfl, hw, HR⟩ := hrel
    subst hw
    by_cases hlt : j < n
    · have hlt1 : (j : Int) < n := by omega
      obtain ⟨d, hd⟩ : ∃ d, ls[j]? = some d := ⟨_, List.getElem?_eq_getElem (by rw [HN.out]; exact hlt)⟩
      have HD : Hid (ls[j]? = some d) := hd
      obtain ⟨g, rfl, _, hc⟩ := ERow.at_ encM_len HH.out hd
      have k0 := hc 0 (by decide)
      simp [encM] at k0
      clear hc hd
      cases e0 : (d.ct.toList == s.toList) with
      | true =>
        have HE : Hid (hasB ls s = true) := any_yes HD.out e0
        go_wp2_with fail
        go_ret
        exact ⟨by rw [HE.out]; rfl, rfl⟩
      | false =>
        have HS : Hid (∀ i x, i < j + 1 → ls[i]? = some x → (x.ct.toList == s.toList) = false) := fun i x hi hx => by
          by_cases hij : i < j
          · exact HR.out i x hij hx
          · obtain rfl : i = j := by omega
            rw [HD.out] at hx
            obtain rfl : d = x := by simpa using hx
            exact e0
        clear HR HD
        go_wp2_with fail
        go_roundw
        case rel => exact ⟨j + 1, hlt, by go_num, trivial, HS⟩
        case measure => simp [intOf]; omega
    · have hlt1 : ¬ (j : Int) < n := by omega
      have HE : Hid (hasB ls s = false) := any_no (p := fun m : Msg => m.ct.toList == s.toList) (l := ls) fun i x hi hx => HR.out i x (by have := HN.out; omega) hx
      clear HR
      go_wp2_with fail
      go_ret
      exact ⟨by rw [HE.out]; rfl, rfl⟩
end Go.Proofs.YtkngafnfenmfeaaDoor

/-
  A box whose control ids stand apart: what a call leaves of it. Of no program.
-/
namespace Go.Proofs.YtkngafnfenmfeaaDoor
open Go.RowKit

/-- The control ids, in their order. -/
def ids (ms : List Msg) : List (List UInt8) := ms.map fun m => m.ct.toList
theorem map_erase {α β : Type} (f : α → β) : ∀ (l : List α) (i : Nat), (l.eraseIdx i).map f = (l.map f).eraseIdx i
  | [], i => by simp
  | y :: r, 0 => rfl
  | y :: r, i + 1 => by
    show f y :: (r.eraseIdx i).map f = f y :: (r.map f).eraseIdx i
    rw [map_erase f r i]
theorem erase_filter {l : List (List UInt8)} (hn : l.Nodup) : ∀ {i : Nat} {x : List UInt8}, l[i]? = some x → l.eraseIdx i = l.filter (fun k => !(k == x)) := by
  induction l with
  | nil => intro i x h; simp at h
  | cons y r ih =>
    obtain ⟨h1, h2⟩ := List.nodup_cons.1 hn
    intro i x h
    cases i with
    | zero =>
      obtain rfl : y = x := by simpa using h
      show r = _
      rw [List.filter_cons_of_neg (by simp)]
      symm
      rw [List.filter_eq_self]
      intro k hk
      have : ¬ k = y := fun e => h1 (e ▸ hk)
      simpa using this
    | succ i =>
      have h' : r[i]? = some x := by simpa using h
      have hne : ¬ y = x := fun e => h1 (e ▸ List.mem_of_getElem? h')
      show y :: r.eraseIdx i = _
      rw [List.filter_cons_of_pos (by simpa using hne), ih h2 h']
theorem ids_len (ms : List Msg) : (ids ms).length = ms.length := by simp [ids]
theorem fi_ids {s : ByteArray} {ms : List Msg} {i : Nat} (h : fi s ms = some i) : (ids ms)[i]? = some s.toList := by
  obtain ⟨m, hm, he, _⟩ := fi_some h
  unfold ids
  rw [List.getElem?_map, hm]
  simpa using he
theorem ids_put {m : Msg} {ms : List Msg} {i : Nat} (h : fi m.ct ms = some i) : ids (putS m ms) = ids ms := by
  have hi := fi_ids h
  unfold putS
  rw [h]
  show ids (ms.set i m) = ids ms
  unfold ids at hi ⊢
  rw [List.map_set]
  have hl := (List.getElem?_eq_some_iff.1 hi).1
  have he := (List.getElem?_eq_some_iff.1 hi).2
  rw [← he]
  exact List.set_getElem_self hl
theorem ids_del {s : ByteArray} {ms : List Msg} {i : Nat} (h : fi s ms = some i) (hn : (ids ms).Nodup) : ids (delS s ms) = (ids ms).filter (fun k => !(k == s.toList)) := by
  have hi := fi_ids h
  unfold delS
  rw [h]
  show ids (ms.eraseIdx i) = _
  have e1 : ids (ms.eraseIdx i) = (ids ms).eraseIdx i := map_erase _ ms i
  rw [e1]
  exact erase_filter hn hi
theorem tksS_over (x : Int) (l : ActL) : ∀ t : Msg × Bool, (tksS x t l).2 = (t.2 || l.any fun y => y.1 == 4) := by
  induction l with
  | nil => intro t; simp [tksS]
  | cons y r ih =>
    intro t
    have e : tksS x t (y :: r) = tksS x (tkS x t y.1) r := rfl
    rw [e, ih, List.any_cons]
    unfold tkS
    split
    · rename_i h; rw [h]; simp
    · split
      · rename_i h; rw [h]; simp
      · split
        · rename_i h; rw [h]; simp
        · rename_i h
          have : (y.1 == 4) = false := by simpa using h
          rw [this]; simp
theorem fin_deeds (c s : ByteArray) (l : ActL) : finB (deedsS c l) s = ((l.any fun y => y.1 == 4) && c.toList == s.toList) := by
  unfold finB deedsS
  rw [List.any_map]
  cases h : (c.toList == s.toList) with
  | true => simp [Function.comp_def, h]
  | false => simp [Function.comp_def, h]
/-- What a call that is done leaves. -/
structure StepI (ms ms' : List Msg) (kd : Int) (ct : ByteArray) (ds : List Deed) : Prop where
  nodup : (ids ms').Nodup
  one : ∀ d ∈ ds, ∀ d' ∈ ds, d.1 = d'.1
  add : kd = 1 → ds = [] ∧ ∃ m, ms' = ms ++ [m] ∧ m.ct = ct ∧ m.un = false
  stay : kd ≠ 1 → ids ms' = (ids ms).filter fun k => !(ds.any fun d => d.2.1 == 4 && d.1.toList == k)
theorem step_do {ms : List Msg} {m m' : Msg} {i : Nat} {kd x : Int} {ct : ByteArray} {l : ActL} (hn : (ids ms).Nodup) (h : kd ≠ 1) (hf : fi m.ct ms = some i) (he : m'.ct = m.ct) : StepI ms (doS ms m' x l) kd ct (deedsS m.ct l) := by
  have hc : (tksS x (m', false) l).1.ct = m.ct := by rw [(tksS_ct x l (m', false)).1, he]
  have hv := tksS_over x l (m', false)
  rw [Bool.false_or] at hv
  have hfin : ∀ k, ((deedsS m.ct l).any fun d => d.2.1 == 4 && d.1.toList == k) = ((l.any fun y => y.1 == 4) && m.ct.toList == k) := fun k => by
    unfold deedsS
    rw [List.any_map]
    cases h : (m.ct.toList == k) with
    | true => simp [Function.comp_def, h]
    | false => simp [Function.comp_def, h]
  have e1 : ids (doS ms m' x l) = (ids ms).filter fun k => !((deedsS m.ct l).any fun d => d.2.1 == 4 && d.1.toList == k) := by
    unfold doS
    rw [hv]
    cases ho : (l.any fun y => y.1 == 4) with
    | true =>
      rw [if_pos rfl, hc, ids_del hf hn]
      congr 1
      funext k
      rw [hfin, ho, Bool.true_and]
      cases hk : (m.ct.toList == k) with
      | true => rw [show (k == m.ct.toList) = true by simp at hk ⊢; exact hk.symm]
      | false => rw [show (k == m.ct.toList) = false by simp at hk ⊢; exact fun e => hk e.symm]
    | false =>
      rw [if_neg (by decide), ids_put (by rw [hc]; exact hf)]
      symm
      rw [List.filter_eq_self]
      intro k _
      rw [hfin, ho]
      rfl
  refine ⟨by rw [e1]; exact hn.filter _, fun d hd d' hd' => ?_, fun e => absurd e h, fun _ => e1⟩
  unfold deedsS at hd hd'
  obtain ⟨y, _, rfl⟩ := List.mem_map.1 hd
  obtain ⟨y', _, rfl⟩ := List.mem_map.1 hd'
  rfl
theorem ids_all (ms : List Msg) : (ids ms).filter (fun k => !(([] : List Deed).any fun d => d.2.1 == 4 && d.1.toList == k)) = ids ms := by simp
theorem step_ids {sq : Bool} {ms ms' : List Msg} {kd : Int} {ct : ByteArray} {ds : List Deed} (hn : (ids ms).Nodup) (hs : StepR sq ms kd ct ds ms') : StepI ms ms' kd ct ds := by
  cases hs with
  | idle h => exact ⟨hn, fun d hd => (by cases hd), fun e => absurd e h, fun _ => (ids_all ms).symm⟩
  | add m h he hc hnu hun =>
    refine ⟨?_, fun d hd => (by cases hd), fun _ => ⟨rfl, m, rfl, he, hun⟩, fun e => absurd h e⟩
    have hr : refS sq ms m = 0 := by
      unfold addC at hc
      split at hc
      · omega
      · exact hc
    have hf := (refS_zero hr).1
    unfold ids
    rw [List.map_append, List.nodup_append]
    refine ⟨hn, by simp, fun a ha b hb => ?_⟩
    obtain ⟨x, hx, rfl⟩ := List.mem_map.1 ha
    simp only [List.map_cons, List.map_nil, List.mem_singleton] at hb
    rw [hb]
    obtain ⟨j, hj, e⟩ := List.getElem_of_mem hx
    have := fi_none hf j x (by rw [List.getElem?_eq_getElem hj, e])
    simpa using this
  | give m n h hs hx hg =>
    obtain ⟨i, hi⟩ := fi_mem (nextS_mem hx).1
    have e : ids (putS { m with nu := n } ms) = ids ms := ids_put (m := { m with nu := n }) hi
    exact ⟨by rw [e]; exact hn, fun d hd => (by cases hd), fun e => absurd e h, fun _ => by rw [e]; exact (ids_all ms).symm⟩
  | go m st lf l h hx hq h5 =>
    obtain ⟨i, hi⟩ := fi_mem (nextS_mem hx).1
    exact step_do hn h hi rfl
  | ans m i st lf x l h hf hm hu h5 => exact step_do hn h hf rfl
end Go.Proofs.YtkngafnfenmfeaaDoor

/-
  The law's 'sameList': two lists of copies of the same messages.
-/
namespace Go.Proofs.YtkngafnfenmfeaaDoor
open Go.RowKit

set_option maxRecDepth 100000 in
set_option maxHeartbeats 4000000 in
theorem sameList_true {w : World} {B B' n c c' : Nat} {a a' : Option Addr} {ls ls' ms : List Msg} (h1 : ERow w B 50 10 encM (.slice a n c) ls) (h2 : ERow w B' 50 10 encM (.slice a' n c') ls') (k1 : Cps w ls ms) (k2 : Cps w ls' ms) (hm : ∀ m ∈ ms, m.tn ≤ 8192) :
    Calls Tryd.prog 26 #[.slice a n c, .slice a' n c'] w fun e w' => e = .returned (.bool true) ∧ Below w.heap.size w w' := by
  have hn : n = ms.length := by rw [ERow.len h1, k1.1]
  have hx : n ≤ 9223372036854775807 := by
    rcases ERow.form h1 with ⟨_, e⟩ | ⟨g, cap, _, _, _, h3, h4⟩
    · have := k1.1; rw [e] at this; simp at this; omega
    · have := k1.1; unfold maxLen at h4; omega
  have HN : Hid (ms.length = n) := hn.symm
  have HH : Hid (ERow w B 50 10 encM (.slice a n c) ls ∧ ERow w B' 50 10 encM (.slice a' n c') ls' ∧ Cps w ls ms ∧ Cps w ls' ms ∧ ∀ m ∈ ms, m.tn ≤ 8192) := ⟨h1, h2, k1, k2, hm⟩
  clear hn h1 h2 k1 k2 hm
  go_enter Tryd.func26, Tryd.ntmps26
  go_wp2_with fail
  go_loopw [5] (fun ti wx => ∃ j : Nat, j ≤ n ∧ ti = .int .i64 j ∧ Hid (Below w.heap.size w wx)) (fun ti _ => n - (intOf ti).toNat)
  case atStart => exact ⟨0, Nat.zero_le _, rfl, Below.refl _ _⟩
  case round =>
    obtain ⟨j, hj, rfl, HB⟩ := hrel
    by_cases hlt : j < n
    · have hlt1 : (j : Int) < n := by omega
      obtain ⟨m, hm⟩ : ∃ m, ms[j]? = some m := ⟨_, List.getElem?_eq_getElem (by rw [HN.out]; exact hlt)⟩
      obtain ⟨l, hl⟩ : ∃ l, ls[j]? = some l := ⟨_, List.getElem?_eq_getElem (by rw [HH.out.2.2.1.1, HN.out]; exact hlt)⟩
      obtain ⟨l', hl'⟩ : ∃ l, ls'[j]? = some l := ⟨_, List.getElem?_eq_getElem (by rw [HH.out.2.2.2.1.1, HN.out]; exact hlt)⟩
      obtain ⟨⟨a1, c1, rfl⟩, t1⟩ := HH.out.2.2.1.2 j l m hl hm
      obtain ⟨⟨a2, c2, rfl⟩, t2⟩ := HH.out.2.2.2.1.2 j l' m hl' hm
      have hmt := HH.out.2.2.2.2 m (List.mem_of_getElem? hm)
      obtain ⟨g, rfl, _, hc⟩ := ERow.at_ encM_len (ERow.below HH.out.1 HB.out) hl
      obtain ⟨g', rfl, _, hc'⟩ := ERow.at_ encM_len (ERow.below HH.out.2.1 HB.out) hl'
      have p0 := hc 0 (by decide)
      have p1 := hc 1 (by decide)
      have p2 := hc 2 (by decide)
      have p3 := hc 3 (by decide)
      have p4 := hc 4 (by decide)
      have p5 := hc 5 (by decide)
      have p6 := hc 6 (by decide)
      have p7 := hc 7 (by decide)
      have p8 := hc 8 (by decide)
      have p9 := hc 9 (by decide)
      have q0 := hc' 0 (by decide)
      have q1 := hc' 1 (by decide)
      have q2 := hc' 2 (by decide)
      have q3 := hc' 3 (by decide)
      have q4 := hc' 4 (by decide)
      have q5 := hc' 5 (by decide)
      have q6 := hc' 6 (by decide)
      have q7 := hc' 7 (by decide)
      have q8 := hc' 8 (by decide)
      have q9 := hc' 9 (by decide)
      simp [encM] at p0 p1 p2 p3 p4 p5 p6 p7 p8 p9 q0 q1 q2 q3 q4 q5 q6 q7 q8 q9
      have HS : Hid (∀ z, Below wr.heap.size wr z → Calls Tryd.prog 21 #[.agg #[.string m.ct, .slice a1 m.tn c1, .bool m.e, .int .i64 m.a, .int .i64 m.p, .int .i64 m.nu, .bool m.nt, .int .i64 m.st, .int .i64 m.lf, .bool m.un], .agg #[.string m.ct, .slice a2 m.tn c2, .bool m.e, .int .i64 m.a, .int .i64 m.p, .int .i64 m.nu, .bool m.nt, .int .i64 m.st, .int .i64 m.lf, .bool m.un]] z fun e w' => e = .returned (.bool true) ∧ Hid (Below w.heap.size w w')) := fun z hz =>
        (sameSent_true m (BRow.byts (ERow.below (ERow.below t1 HB.out) hz)) (BRow.byts (ERow.below (ERow.below t2 HB.out) hz)) (by omega)).mono fun e w' ⟨he, hb⟩ => ⟨he, below_then (below_then HB.out hz) hb⟩
      clear hc hc' t1 t2 hl hl' hm hmt HH HB
      go_upto_region 6 with fail
      go_cut [26] from 11 to 26 (fun t26 wx => t26 = .bool false ∧ Hid (Below w.heap.size w wx))
      case first =>
        go_region_law (go_simp; go_at_call 21; refine (HS.out _ ?_).mono ?_; (first | exact Below.refl _ _ | exact Below.drew (Below.refl _ _)); rintro _ w2 ⟨rfl, hb2⟩)
        all_goals
          go_wp2_with fail
          go_meet
          exact ⟨rfl, hb2⟩
      case rest =>
        obtain ⟨rfl, HX⟩ := hcut
        clear HS
        go_wp2_with fail
        go_roundw
        case rel => exact ⟨j + 1, hlt, by go_num, HX⟩
        case measure => simp [intOf]; omega
    · have hlt1 : ¬ (j : Int) < n := by omega
      go_wp2_with fail
      go_ret
      exact ⟨rfl, HB.out⟩
end Go.Proofs.YtkngafnfenmfeaaDoor

/-
  OutboxOnce: a round's states.
-/
namespace Go.Proofs.YtkngafnfenmfeaaDoor
open Go.RowKit

theorem ids_cps {w : World} {ls ms : List Msg} (h : Cps w ls ms) : ids ls = ids ms := by
  unfold ids
  apply List.ext_getElem?
  intro i
  rw [List.getElem?_map, List.getElem?_map]
  have hl := h.1
  by_cases hi : i < ms.length
  · obtain ⟨m, hm⟩ : ∃ m, ms[i]? = some m := ⟨_, List.getElem?_eq_getElem hi⟩
    obtain ⟨l, hl'⟩ : ∃ l, ls[i]? = some l := ⟨_, List.getElem?_eq_getElem (by omega)⟩
    obtain ⟨⟨a, c, rfl⟩, _⟩ := h.2 i l m hl' hm
    rw [hm, hl']
    rfl
  · rw [List.getElem?_eq_none (by omega), List.getElem?_eq_none (by omega)]
/-- From round to round. -/
def OnI (W : World) (b kb : Nat) (sq : Bool) (tr : Int) (w : World) : Prop := ∃ v ms, Li W w b kb v sq tr ms ∧ (ids ms).Nodup
/-- Behind 'does': what was (ls at la, copies of ms), the deeds (ds at da), what is (ms'). -/
structure OnD (W : World) (b kb : Nat) (sq : Bool) (tr : Int) (kd : Int) (ct : ByteArray) (la : Option Addr) (ln lc : Nat) (ls ms : List Msg) (da : Option Addr) (dc : Nat) (ds : List Deed) (dn : Bool) (ms' : List Msg) (w : World) : Prop where
  li : ∃ v, Li W w b kb v sq tr ms'
  was : ERow w W.heap.size 50 10 encM (.slice la ln lc) ls
  cps : Cps w ls ms
  tn : ∀ m ∈ ms, m.tn ≤ 8192
  le : ms.length ≤ 32
  nd : (ids ms).Nodup
  row : DRow w W.heap.size (.slice da ds.length dc) ds
  st : (dn = true ∧ StepI ms ms' kd ct ds) ∨ (dn = false ∧ ds = [] ∧ ms' = ms)
theorem OnD.below {W : World} {b kb : Nat} {sq : Bool} {tr kd : Int} {ct : ByteArray} {la : Option Addr} {ln lc : Nat} {ls ms : List Msg} {da : Option Addr} {dc : Nat} {ds : List Deed} {dn : Bool} {ms' : List Msg} {w w' : World} (h : OnD W b kb sq tr kd ct la ln lc ls ms da dc ds dn ms' w) (hb : Below w.heap.size w w') : OnD W b kb sq tr kd ct la ln lc ls ms da dc ds dn ms' w' := by
  obtain ⟨v, L⟩ := h.li
  exact ⟨⟨v, L.below hb⟩, ERow.below h.was hb, h.cps.below hb, h.tn, h.le, h.nd, ERow.below h.row hb, h.st⟩
theorem OnD.back {W : World} {b kb : Nat} {sq : Bool} {tr kd : Int} {ct : ByteArray} {la : Option Addr} {ln lc : Nat} {ls ms : List Msg} {da : Option Addr} {dc : Nat} {ds : List Deed} {dn : Bool} {ms' : List Msg} {w : World} (h : OnD W b kb sq tr kd ct la ln lc ls ms da dc ds dn ms' w) : OnI W b kb sq tr w := by
  obtain ⟨v, L⟩ := h.li
  refine ⟨v, ms', L, ?_⟩
  rcases h.st with ⟨_, s⟩ | ⟨_, _, rfl⟩
  · exact s.nodup
  · exact h.nd
theorem on_does {W w0 w z : World} {b kb : Nat} {v : Value} {sq : Bool} {tr : Int} {ms ls : List Msg} {la : Option Addr} {ln lc : Nat} (L0 : Li W w0 b kb v sq tr ms) (hb0 : Below w0.heap.size w0 w) (hr : ERow w w0.heap.size 50 10 encM (.slice la ln lc) ls) (hc : Cps w ls ms) (hn : (ids ms).Nodup) (hV : PVc W) (x : Opv) (pick : Int) (hp : Byts W x.tp x.tn x.tx) (hpo : x.tp = none → x.tc = 0) (hl : x.tn ≤ 140737488355328) (hz : Below w.heap.size w z) :
    Calls Tryd.prog 11 #[.pointer (some ⟨b, 0, none⟩), .agg #[.int .i64 x.kd, .string x.ct, .slice x.tp x.tn x.tc, .bool x.e, .int .i64 x.a, .int .i64 x.p, .string x.cd, .int .i64 x.n], .int .i64 pick] z fun e w' => ∃ da dc ds dn ms', e = .returned (.tuple #[.slice da (List.length ds) dc, .bool dn]) ∧ Hid (OnD W b kb sq tr x.kd x.ct la ln lc ls ms da dc ds dn ms' w') := by
  have L := L0.below (below_then hb0 hz)
  have hlt : ∀ q, (q = kb ∨ v.ownBlock = some q) → q < w0.heap.size := fun q hq => by
    rcases hq with rfl | hq
    · exact blk_lt L0.bx.2.1.1
    · exact (ERow.lt L0.bx.2.1.2.1 hq).2
  have htn : ∀ m ∈ ms, m.tn ≤ 8192 := fun m hm => (L0.bx.2.2 m hm).2
  refine (does_any L hV x pick (hp.below L.bel) hpo hl).mono ?_
  rintro e w' ⟨hof, a, c, ds, v', ms', dn, he, hrd, L', hh⟩
  refine ⟨a, c, ds, dn, ms', he, ⟨⟨v', L'⟩, ?_, ?_, htn, L0.bx.2.1.2.2, hn, hrd, ?_⟩⟩
  · refine ERow.base (ERow.off (ERow.below hr hz) hof fun g hg hq => ?_) L0.bel.size
    have := (ERow.lt hr hg).1
    have := hlt g hq
    omega
  · have hcz := hc.below hz
    refine ⟨hcz.1, fun i l m hl hm => ⟨(hcz.2 i l m hl hm).1, ?_⟩⟩
    obtain ⟨⟨a1, c1, rfl⟩, ht⟩ := hcz.2 i l m hl hm
    have hT : Tx z (m.wi a1 c1) := ⟨ht, htn m (List.mem_of_getElem? hm)⟩
    exact (hT.off hof (hT.row_ne L.bx.2.1)).1
  · rcases hh with ⟨e1, hs⟩ | h
    · exact Or.inl ⟨e1, step_ids hn hs⟩
    · exact Or.inr h
/-- Behind the second List. -/
structure OnN (W : World) (b kb : Nat) (sq : Bool) (tr : Int) (kd : Int) (ct : ByteArray) (la : Option Addr) (ln lc : Nat) (ls ms : List Msg) (da : Option Addr) (dc : Nat) (ds : List Deed) (dn : Bool) (ms' : List Msg) (na : Option Addr) (nn nc : Nat) (ns : List Msg) (w : World) : Prop where
  d : OnD W b kb sq tr kd ct la ln lc ls ms da dc ds dn ms' w
  now : ERow w W.heap.size 50 10 encM (.slice na nn nc) ns
  cpn : Cps w ns ms'
section
variable {W : World} {b kb : Nat} {sq : Bool} {tr kd : Int} {ct : ByteArray} {la : Option Addr} {ln lc : Nat} {ls ms : List Msg} {da : Option Addr} {dc : Nat} {ds : List Deed} {dn : Bool} {ms' : List Msg} {na : Option Addr} {nn nc : Nat} {ns : List Msg} {w w' : World}
theorem OnN.below (h : OnN W b kb sq tr kd ct la ln lc ls ms da dc ds dn ms' na nn nc ns w) (hb : Below w.heap.size w w') : OnN W b kb sq tr kd ct la ln lc ls ms da dc ds dn ms' na nn nc ns w' := ⟨h.d.below hb, ERow.below h.now hb, h.cpn.below hb⟩
theorem on_list (h : OnD W b kb sq tr kd ct la ln lc ls ms da dc ds dn ms' w) : Calls Tryd.prog 10 #[.pointer (some ⟨b, 0, none⟩)] w fun e w' => ∃ na nn nc ns, e = .returned (.slice na nn nc) ∧ Hid (OnN W b kb sq tr kd ct la ln lc ls ms da dc ds dn ms' na nn nc ns w') := by
  obtain ⟨v, L⟩ := h.li
  refine (list_any L.bx).mono ?_
  rintro e w' ⟨ns, na, nc, he, hr, hc, hb⟩
  exact ⟨na, _, nc, ns, he, h.below hb, ERow.base hr L.bel.size, hc⟩
theorem OnN.lens (h : OnN W b kb sq tr kd ct la ln lc ls ms da dc ds dn ms' na nn nc ns w) : ln = ls.length ∧ ls.length = ms.length ∧ nn = ns.length ∧ ns.length = ms'.length := ⟨ERow.len h.d.was, h.d.cps.1, ERow.len h.now, h.cpn.1⟩
theorem on_same (h : OnN W b kb sq tr kd ct la ln lc ls ms da dc ds false ms' na nn nc ns w) : ds = [] ∧ Calls Tryd.prog 26 #[.slice la ln lc, .slice na nn nc] w fun e w' => e = .returned (.bool true) ∧ Hid (OnI W b kb sq tr w') := by
  rcases h.d.st with ⟨e, _⟩ | ⟨_, e1, rfl⟩
  · cases e
  refine ⟨e1, ?_⟩
  have hln := h.lens
  obtain rfl : nn = ln := by omega
  exact (sameList_true h.d.was h.now h.d.cps h.cpn h.d.tn).mono fun e w' ⟨he, hb⟩ => ⟨he, (h.d.below hb).back⟩
theorem on_step (h : OnN W b kb sq tr kd ct la ln lc ls ms da dc ds true ms' na nn nc ns w) : StepI ms ms' kd ct ds := by
  rcases h.d.st with ⟨_, s⟩ | ⟨e, _⟩
  · exact s
  · cases e
theorem hasB_ids (l : List Msg) (s : ByteArray) : hasB l s = true ↔ s.toList ∈ ids l := by
  unfold hasB ids
  rw [List.any_eq_true, List.mem_map]
  constructor
  · rintro ⟨m, hm, e⟩; exact ⟨m, hm, by simpa using e⟩
  · rintro ⟨m, hm, e⟩; exact ⟨m, hm, by simpa using e⟩
/-- A message is told final just if it is no more. -/
theorem on_fin (h : OnN W b kb sq tr kd ct la ln lc ls ms da dc ds true ms' na nn nc ns w) {m : Msg} (hm : m ∈ ls) : (finB ds m.ct == hasB ns m.ct) = false := by
  have hs := on_step h
  have hmi : m.ct.toList ∈ ids ms := by rw [← ids_cps h.d.cps]; exact List.mem_map.2 ⟨m, hm, rfl⟩
  have key : hasB ns m.ct = !finB ds m.ct := by
    rw [Bool.eq_iff_iff, hasB_ids, ids_cps h.cpn]
    by_cases hk : kd = 1
    · obtain ⟨e1, x, e2, _⟩ := hs.add hk
      rw [e1, e2]
      simp only [finB, List.any_nil, Bool.not_false, iff_true]
      unfold ids at hmi ⊢
      rw [List.map_append]
      exact List.mem_append_left _ hmi
    · rw [hs.stay hk, List.mem_filter]
      exact ⟨fun g => g.2, fun g => ⟨hmi, g⟩⟩
  rw [key]
  cases finB ds m.ct <;> rfl
/-- What stays, so far. -/
def stayS (ds : List Deed) (l : List Msg) : List Msg := l.filter fun m => !finB ds m.ct
theorem stay_ids (ds : List Deed) (l : List Msg) : ids (stayS ds l) = (ids l).filter fun k => !(ds.any fun d => d.2.1 == 4 && d.1.toList == k) := by
  unfold stayS ids
  rw [List.filter_map]
  rfl
theorem stay_take {l : List Msg} {k : Nat} {m : Msg} (hm : l[k]? = some m) (ds : List Deed) : stayS ds (l.take (k + 1)) = stayS ds (l.take k) ++ (if finB ds m.ct = true then [] else [m]) := by
  unfold stayS
  rw [List.take_add_one, hm, List.filter_append]
  cases h : finB ds m.ct <;> simp [h]
theorem on_stay (h : OnN W b kb sq tr kd ct la ln lc ls ms da dc ds true ms' na nn nc ns w) (hk : kd ≠ 1) : ids ns = ids (stayS ds ls) := by
  rw [stay_ids, ids_cps h.cpn, ids_cps h.d.cps]
  exact (on_step h).stay hk
end
end Go.Proofs.YtkngafnfenmfeaaDoor

/-
  The law OutboxOnce, walked.
-/
namespace Go.Proofs.YtkngafnfenmfeaaDoor
open Go.RowKit

set_option maxRecDepth 100000 in
set_option maxHeartbeats 8000000 in
theorem once_law (sq : Bool) (t : Int) (ao : Option Addr) (cap : Nat) (xs : List (Opv × Int)) (W : World) (hV : PVc W) (ho : Picks W ao xs) (hl : xs.length ≤ 140737488355328) (hw : ∀ y ∈ xs, y.1.tn ≤ 140737488355328) :
    Calls Tryd.prog 7 #[.bool sq, .int .i64 t, .slice ao xs.length cap] W fun e w' => e = .returned (.bool true) ∧ Below W.heap.size W w' := by
  obtain ⟨n, hn⟩ : ∃ n, xs.length = n := ⟨_, rfl⟩
  have HN : Hid (xs.length = n) := hn
  rw [hn] at hl ⊢
  have HO : Hid (PVc W ∧ Picks W ao xs ∧ ∀ y ∈ xs, y.1.tn ≤ 140737488355328) := ⟨hV, ho, hw⟩
  clear ho hn hV hw
  go_enter Tryd.func7, Tryd.ntmps7
  go_wp2_with fail
  refine (heads_true W HO.out.1).mono ?_
  rintro _ w0 ⟨rfl, b0⟩
  have HB0 : Hid (Below W.heap.size W w0) := b0
  clear b0
  go_wp2_with fail
  obtain ⟨tr, htr⟩ : ∃ tr, (wrap64 (t.tmod 17 + 17)).tmod 17 = tr := ⟨_, rfl⟩
  have ht := tries_ok t
  rw [htr] at ht ⊢
  have HT : Hid (0 ≤ tr ∧ tr ≤ 16) := ht
  clear ht
  refine (load_li W sq tr w0 HT.out.1 HT.out.2 HB0.out).mono ?_
  rintro _ wl ⟨b, kb, v0, rfl, HL⟩
  have HI0 : Hid (OnI W b kb sq tr wl) := ⟨v0, [], HL.out.1, by simp [ids]⟩
  clear HL HT HB0 htr
  go_wp2_with fail
  go_loopw [9] (fun ti wx => ∃ k : Nat, k ≤ n ∧ ti = .int .i64 k ∧ Hid (OnI W b kb sq tr wx)) (fun ti _ => n - (intOf ti).toNat)
  case atStart => exact ⟨0, Nat.zero_le _, rfl, HI0⟩
  case round =>
    obtain ⟨k, hk, rfl, HR⟩ := hrel
    clear HI0
    by_cases hlt : k < n
    · have hlt1 : (k : Int) < n := by omega
      obtain ⟨y, hy⟩ : ∃ y, xs[k]? = some y := ⟨_, List.getElem?_eq_getElem (by rw [HN.out]; exact hlt)⟩
      obtain ⟨pb, off, rfl, hat⟩ := HO.out.2.1 k y hy
      have hyn := HO.out.2.2 y (List.mem_of_getElem? hy)
      obtain ⟨v, ms, L, hI⟩ := HR.out
      have HL : Hid (Li W wr b kb v sq tr ms ∧ (ids ms).Nodup) := ⟨L, hI⟩
      clear L hI HR
      have HP : Hid (PickAt W pb (off + k * 9) y ∧ y.1.tn ≤ 140737488355328) := ⟨hat, hyn⟩
      clear hat hyn hy
      go_wp2_with fail
      refine (list_any HL.out.1.bx).mono ?_
      rintro _ w1 ⟨ls, la, lc, rfl, hr, hc, b1⟩
      have HWB : Hid (ERow w1 wr.heap.size 50 10 encM (.slice la ms.length lc) ls ∧ Cps w1 ls ms ∧ Below wr.heap.size wr w1) := ⟨hr, hc, b1⟩
      clear hr hc b1
      obtain ⟨ln, hln⟩ : ∃ ln, ms.length = ln := ⟨_, rfl⟩
      rw [hln] at HWB ⊢
      clear hln
      have hP1 := HP.out.1.below (below_then HL.out.1.bel HWB.out.2.2)
      obtain ⟨⟨lp, c0, c1, c2, c3, c4, c5, c6, c7, _, _⟩, c8⟩ := hP1
      have HD : Hid (∀ z, Below w1.heap.size w1 z → Calls Tryd.prog 11 #[.pointer (some ⟨b, 0, none⟩), .agg #[.int .i64 y.1.kd, .string y.1.ct, .slice y.1.tp y.1.tn y.1.tc, .bool y.1.e, .int .i64 y.1.a, .int .i64 y.1.p, .string y.1.cd, .int .i64 y.1.n], .int .i64 y.2] z fun e w' => ∃ da dc ds dn ms', e = .returned (.tuple #[.slice da (List.length ds) dc, .bool dn]) ∧ Hid (OnD W b kb sq tr y.1.kd y.1.ct la ln lc ls ms da dc ds dn ms' w')) := fun z hz =>
        on_does HL.out.1 HWB.out.2.2 HWB.out.1 HWB.out.2.1 HL.out.2 HO.out.1 y.1 y.2 HP.out.1.1.p HP.out.1.1.q HP.out.2 hz
      go_upto_region 10 with fail
      go_cut [11, 12] from 35 to 186 (fun t9 t10 wx => ∃ da dc ds dn ms', t9 = .slice da (List.length ds) dc ∧ t10 = .bool dn ∧ Hid (OnD W b kb sq tr y.1.kd y.1.ct la ln lc ls ms da dc ds dn ms' wx))
      case first =>
        clear HL HO HP HWB
        go_region_law (go_simp; go_at_call 11; refine (HD.out _ ?_).mono ?_; (first | exact Below.refl _ _ | exact Below.drew (Below.refl _ _)); rintro _ w2 ⟨da, dc, ds, dn, ms', rfl, HX⟩)
        all_goals
          go_wp2_with fail
          go_meet
          exact ⟨da, dc, ds, dn, ms', rfl, rfl, HX⟩
      case rest =>
        obtain ⟨da, dc, ds, dn, ms', rfl, rfl, HX⟩ := hcut
        clear HD HL HO HWB c0 c1 c2 c3 c4 c5 c6 c7 c8 lp
        obtain ⟨dl, hdl⟩ : ∃ dl, List.length ds = dl := ⟨_, rfl⟩
        have HDL : Hid (List.length ds = dl) := hdl
        rw [hdl]
        clear hdl
        go_wp2_with fail
        refine (on_list HX.out).mono ?_
        rintro _ w3 ⟨na, nn, nc, ns, rfl, HN3⟩
        clear HX
        cases dn with
        | false =>
          obtain ⟨e0, hsm⟩ := on_same HN3.out
          obtain rfl : dl = 0 := by rw [← HDL.out, e0]; rfl
          clear HN3 e0 HDL
          go_wp2_with fail
          refine hsm.mono ?_
          rintro _ w4 ⟨rfl, HI4⟩
          clear hsm
          go_wp2_with fail
          go_roundw
          case rel => exact ⟨k + 1, hlt, by go_num, HI4⟩
          case measure => simp [intOf]; omega
        | true =>
          go_wp2_with fail
          go_loopw [14] (fun ti wx => ∃ j : Nat, 1 ≤ j ∧ ti = .int .i64 j ∧ Hid (OnN W b kb sq tr y.1.kd y.1.ct la ln lc ls ms da dc ds true ms' na nn nc ns wx)) (fun ti _ => dl - (intOf ti).toNat)
          case atStart => exact ⟨1, Nat.le_refl _, rfl, HN3⟩
          case round =>
            obtain ⟨j, hj, rfl, HQ⟩ := hrel
            clear HN3
            by_cases hjl : j < dl
            · have hjl1 : (j : Int) < dl := by omega
              have hl3 : 0 < dl := by omega
              have hl1 : (0 : Int) < dl := by omega
              have hdm : dl ≤ 9223372036854775807 := by have := HQ.out.d.row.max; rw [HDL.out] at this; unfold maxLen at this; omega
              obtain ⟨d, hd⟩ : ∃ d, ds[j]? = some d := ⟨_, List.getElem?_eq_getElem (by rw [HDL.out]; exact hjl)⟩
              obtain ⟨d0, hd0⟩ : ∃ d, ds[0]? = some d := ⟨_, List.getElem?_eq_getElem (by rw [HDL.out]; exact hl3)⟩
              have e0 : d.1 = d0.1 := (on_step HQ.out).one d (List.mem_of_getElem? hd) d0 (List.mem_of_getElem? hd0)
              obtain ⟨dg, rfl, _, dcell⟩ := ERow.at_ encD_len HQ.out.d.row hd
              obtain ⟨dg', eg, _, dcell0⟩ := ERow.at_ encD_len HQ.out.d.row hd0
              obtain rfl : dg = dg' := by simpa using eg
              have k0 := dcell 0 (by decide)
              have k1 := dcell0 0 (by decide)
              simp [encD] at k0 k1
              rw [e0] at k0
              clear dcell dcell0 hd hd0 eg e0
              go_wp2_with fail
              go_quiet (fail)
              go_wp2_with fail
              go_roundw
              case rel => exact ⟨j + 1, by omega, by go_num, HQ.out.below (below_drewN (Below.refl _ _) _)⟩
              case measure => simp [intOf]; omega
            · have hjl1 : ¬ (j : Int) < dl := by omega
              obtain ⟨wN, hwN⟩ : ∃ x, wr = x := ⟨_, rfl⟩
              rw [hwN] at HQ ⊢
              clear hwN
              go_wp2_with fail
              go_loopw [15, 16] (fun ts ti wx => ∃ (k2 : Nat) (sa : Option Addr) (sn sc : Nat), k2 ≤ ln ∧ ts = .slice sa sn sc ∧ ti = .int .i64 k2 ∧ Hid (Below wN.heap.size wN wx ∧ ERow wx wN.heap.size 50 10 encM (.slice sa sn sc) (stayS ds (ls.take k2)))) (fun _ ti _ => ln - (intOf ti).toNat)
              case atStart => exact ⟨0, none, 0, 0, Nat.zero_le _, rfl, rfl, Below.refl _ _, ERow.nil _ _ _ _ _⟩
              case round =>
                obtain ⟨k2, sa, sn, sc, hk2, rfl, rfl, HS⟩ := hrel
                by_cases hkl : k2 < ln
                · have hkl1 : (k2 : Int) < ln := by omega
                  have hle := HQ.out.lens
                  have h32 : ln ≤ 32 := by have := HQ.out.d.le; omega
                  obtain ⟨m, hm⟩ : ∃ m, ls[k2]? = some m := ⟨_, List.getElem?_eq_getElem (by omega)⟩
                  have hQw := HQ.out.below HS.out.1
                  obtain ⟨wg, rfl, _, wcell⟩ := ERow.at_ encM_len hQw.d.was hm
                  have HC : Hid (∀ z, Below wr.heap.size wr z → ∀ o, o < 10 → z.cell? ⟨wg, k2 * 10 + o, none⟩ = (encM m)[o]?) := fun z hz o ho => by
                    rw [hz.cell (p := ⟨wg, k2 * 10 + o, none⟩) (by assumption)]; exact wcell o ho
                  have p0 := wcell 0 (by decide)
                  simp [encM] at p0
                  have hh : hasB ns m.ct = !finB ds m.ct := by
                    have := on_fin HQ.out (List.mem_of_getElem? hm)
                    revert this
                    cases finB ds m.ct <;> cases hasB ns m.ct <;> simp
                  obtain ⟨f, hf⟩ : ∃ f, finB ds m.ct = f := ⟨_, rfl⟩
                  rw [hf] at hh
                  have hst := stay_take hm ds
                  rw [hf] at hst
                  have HF : Hid (∀ k, Calls Tryd.prog 27 #[.slice da dl dc, .string m.ct] (wr.drewN k) fun e w' => e = .returned (.bool f) ∧ w' = wr.drewN k) := fun k => by
                    have := final_any (hQw.below (below_drewN (Below.refl _ _) k)).d.row m.ct
                    rw [hf, HDL.out] at this
                    exact this
                  have HG : Hid (∀ k, Calls Tryd.prog 28 #[.slice na nn nc, .string m.ct] (wr.drewN k) fun e w' => e = .returned (.bool (!f)) ∧ w' = wr.drewN k) := fun k => by
                    have := has_any (hQw.below (below_drewN (Below.refl _ _) k)).now m.ct
                    rw [hh] at this
                    exact this
                  clear hQw wcell hm hh hf hle
                  cases f with
                  | true =>
                    rw [if_pos rfl, List.append_nil] at hst
                    have HST : Hid (stayS ds (ls.take (k2 + 1)) = stayS ds (ls.take k2)) := hst
                    clear hst
                    go_wp2_with fail
                    go_quiet ((first | (go_at_call 27; exact Calls.quiet_of_same (HF.out _)) | (go_at_call 28; exact Calls.quiet_of_same (HG.out _))))
                    go_wp2_with fail
                    refine (HF.out _).mono ?_
                    rintro _ w9 ⟨rfl, h9⟩
                    subst w9
                    go_wp2_with fail
                    go_roundw
                    case rel => exact ⟨k2 + 1, sa, sn, sc, hkl, rfl, by go_num, below_drewN HS.out.1 _, by rw [HST.out]; exact ERow.below HS.out.2 (below_drewN (Below.refl _ _) _)⟩
                    case measure => simp [intOf]; omega
                  | false =>
                    rw [if_neg (by decide)] at hst
                    have HST : Hid (stayS ds (ls.take (k2 + 1)) = stayS ds (ls.take k2) ++ [m]) := hst
                    clear hst
                    go_wp2_with fail
                    go_quiet ((first | (go_at_call 27; exact Calls.quiet_of_same (HF.out _)) | (go_at_call 28; exact Calls.quiet_of_same (HG.out _))))
                    go_wp2_with fail
                    refine (HF.out _).mono ?_
                    rintro _ w9 ⟨rfl, h9⟩
                    have hB9 : Below wr.heap.size wr w9 := by rw [h9]; exact below_drewN (Below.refl _ _) _
                    clear h9
                    have r0 := HC.out _ hB9 0 (by decide)
                    have r1 := HC.out _ hB9 1 (by decide)
                    have r2 := HC.out _ hB9 2 (by decide)
                    have r3 := HC.out _ hB9 3 (by decide)
                    have r4 := HC.out _ hB9 4 (by decide)
                    have r5 := HC.out _ hB9 5 (by decide)
                    have r6 := HC.out _ hB9 6 (by decide)
                    have r7 := HC.out _ hB9 7 (by decide)
                    have r8 := HC.out _ hB9 8 (by decide)
                    have r9 := HC.out _ hB9 9 (by decide)
                    simp [encM] at r0 r1 r2 r3 r4 r5 r6 r7 r8 r9
                    have hsl : (stayS ds (ls.take k2)).length ≤ 32 := by
                      have q1 : (stayS ds (ls.take k2)).length ≤ (ls.take k2).length := List.length_filter_le _ _
                      rw [List.length_take] at q1
                      omega
                    have hb9 := below_then HS.out.1 hB9
                    obtain ⟨a2, c2', W2, hap, e2, o2, _⟩ := run_epush (P := Tryd.prog) (t := 29) Tryd.underlying29 celS encM_len encM_one (w := w9) (ERow.below HS.out.2 hB9) m #[.string m.ct, .slice m.tp m.tn m.tc, .bool m.e, .int .i64 m.a, .int .i64 m.p, .int .i64 m.nu, .bool m.nt, .int .i64 m.st, .int .i64 m.lf, .bool m.un] rfl (by omega) (by decide) hb9.size
                    have HZ : Hid (Below wN.heap.size wN W2 ∧ ERow W2 wN.heap.size 50 10 encM (.slice a2 ((stayS ds (ls.take k2)).length + 1) c2') (stayS ds (ls.take (k2 + 1)))) := ⟨hb9.trans (o2.below hb9.size fun g e => (ERow.lt HS.out.2 e).1), by rw [HST.out]; exact e2⟩
                    obtain ⟨sl, hslq⟩ : ∃ q, (stayS ds (ls.take k2)).length + 1 = q := ⟨_, rfl⟩
                    rw [hslq] at hap HZ
                    clear e2 o2 hslq hsl HF HG HC p0 hb9 hB9 HS HST
                    go_wp2_with (at_builtin; refine wpList_append_run rfl (.tmp 119) (.tmp 124) 29 _ rfl hap ?_)
                    go_roundw
                    case rel => exact ⟨k2 + 1, a2, sl, c2', hkl, rfl, by go_num, HZ⟩
                    case measure => simp [intOf]; omega
                · have hkl1 : ¬ (k2 : Int) < ln := by omega
                  have hle := HQ.out.lens
                  obtain rfl : k2 = ln := by omega
                  have hta : ls.take k2 = ls := List.take_of_length_le (by omega)
                  rw [hta] at HS
                  obtain ⟨vv, Lw⟩ := (HQ.out.below HS.out.1).d.li
                  obtain ⟨⟨_, c0, c1, _, _, _, _, _, _, _, _⟩, _⟩ := HP.out.1.below Lw.bel
                  clear Lw hta
                  by_cases hk1 : y.1.kd = 1
                  · obtain ⟨_, x, ex, ect, eun⟩ := (on_step HQ.out).add hk1
                    have hx : ms'[k2]? = some x := by rw [ex, List.getElem?_append_right (by omega)]; rw [show k2 - ms.length = 0 by omega]; rfl
                    have hnn : nn = k2 + 1 := by rw [hle.2.2.1, hle.2.2.2, ex]; simp; omega
                    obtain ⟨l, hl'⟩ : ∃ l, ns[k2]? = some l := ⟨_, List.getElem?_eq_getElem (by omega)⟩
                    obtain ⟨⟨a1, c1', rfl⟩, _⟩ := HQ.out.cpn.2 k2 l x hl' hx
                    obtain ⟨ng, rfl, _, hc⟩ := ERow.at_ encM_len (HQ.out.below HS.out.1).now hl'
                    have q0 := hc 0 (by decide)
                    have q9 := hc 9 (by decide)
                    simp [encM] at q0 q9
                    rw [ect] at q0
                    rw [eun] at q9
                    have h32 : k2 ≤ 32 := by have := HQ.out.d.le; omega
                    have e1 : (y.1.kd == 1) = true := by simpa using hk1
                    subst hnn
                    have HI9 : Hid (∀ q, OnI W b kb sq tr (wr.drewN q)) := fun q => ((HQ.out.below HS.out.1).below (below_drewN (Below.refl _ _) q)).d.back
                    clear hc hl' hx ex ect eun hk1 hle HS HQ HDL
                    have hb1 : (k2 : Int) < ((k2 + 1 : Nat) : Int) := by omega
                    have hb2 : (k2 : Int) < (k2 : Int) + 1 := by omega
                    go_wp2_with fail
                    go_quiet (fail)
                    go_wp2_with fail
                    go_roundw
                    case rel => exact ⟨k + 1, hlt, by go_num, HI9.out _⟩
                    case measure => simp [intOf]; omega
                  · have hst := on_stay HQ.out hk1
                    have hsn : sn = (stayS ds ls).length := ERow.len HS.out.2
                    have hns : nn = sn := by
                      have := congrArg List.length hst
                      rw [ids_len, ids_len] at this
                      omega
                    have hnb : nn ≤ 100 := by
                      have q1 : (stayS ds ls).length ≤ ls.length := List.length_filter_le _ _
                      have := HQ.out.d.le
                      omega
                    have HST : Hid (ids ns = ids (stayS ds ls) ∧ nn = ns.length) := ⟨hst, hle.2.2.1⟩
                    have e1 : (y.1.kd == 1) = false := by simpa using hk1
                    subst hns
                    clear hst hsn hk1 hle HDL
                    go_wp2_with fail
                    go_loopw [17] (fun ti wx => ∃ i : Nat, i ≤ nn ∧ ti = .int .i64 i ∧ Hid (Below wN.heap.size wN wx ∧ ERow wx wN.heap.size 50 10 encM (.slice sa nn sc) (stayS ds ls))) (fun ti _ => nn - (intOf ti).toNat)
                    case atStart => exact ⟨0, Nat.zero_le _, rfl, HS⟩
                    case round =>
                      obtain ⟨i, hi, rfl, HT⟩ := hrel
                      clear HS
                      by_cases hil : i < nn
                      · have hil1 : (i : Int) < nn := by omega
                        obtain ⟨l, hl'⟩ : ∃ l, ns[i]? = some l := ⟨_, List.getElem?_eq_getElem (by have := HST.out.2; omega)⟩
                        obtain ⟨u, hu⟩ : ∃ u, (stayS ds ls)[i]? = some u := ⟨_, List.getElem?_eq_getElem (by have := ERow.len HT.out.2; omega)⟩
                        have ee : l.ct = u.ct := by
                          have q : (ids ns)[i]? = (ids (stayS ds ls))[i]? := by rw [HST.out.1]
                          unfold ids at q
                          rw [List.getElem?_map, List.getElem?_map, hl', hu] at q
                          exact str_of (by simpa using q)
                        obtain ⟨ng, rfl, _, hc⟩ := ERow.at_ encM_len (HQ.out.below HT.out.1).now hl'
                        obtain ⟨sg, rfl, _, hc2⟩ := ERow.at_ encM_len HT.out.2 hu
                        have q0 := hc 0 (by decide)
                        have q1 := hc2 0 (by decide)
                        simp [encM] at q0 q1
                        rw [ee] at q0
                        clear hc hc2 hl' hu ee
                        go_wp2_with fail
                        go_quiet (fail)
                        go_wp2_with fail
                        go_roundw
                        case rel => exact ⟨i + 1, hil, by go_num, below_drewN HT.out.1 _, ERow.below HT.out.2 (below_drewN (Below.refl _ _) _)⟩
                        case measure => simp [intOf]; omega
                      · have hil1 : ¬ (i : Int) < nn := by omega
                        have HI9 : Hid (OnI W b kb sq tr wr) := (HQ.out.below HT.out.1).d.back
                        clear HQ HT
                        go_wp2_with fail
                        go_roundw
                        case rel => exact ⟨k + 1, hlt, by go_num, HI9⟩
                        case measure => simp [intOf]; omega
    · have hlt1 : ¬ (k : Int) < n := by omega
      obtain ⟨v, ms, L, _⟩ := HR.out
      have HB9 : Hid (Below W.heap.size W wr) := L.bel
      clear L HR
      go_wp2_with fail
      go_ret
      exact ⟨rfl, HB9.out⟩
end Go.Proofs.YtkngafnfenmfeaaDoor

/-
  OutboxOnce: the row out of its walk.
-/
namespace Go.Proofs.YtkngafnfenmfeaaDoor.outboxOnce
open Go.ChangeShapes Go.WideShapes Go.ChangeAt Go.RowKit

theorem laidOut : laidOutB Tryd.prog = true := by kernel_rfl
theorem given {W : World} (h : laidMetH Tryd.prog Rows.outboxOnceRow.laid W) : PVc W := codes_of (show laidMet Tryd.prog [("courier/decide.codes", Rows.laid_courier_decide_codes)] W from h)
theorem trod_block {H : Type} {enc : TypeId × Value → H} {P : Program} {W : World} {base : Nat} {spare : Nat → Bool} {held : Bool} {t : TypeId} {v : Value} {d : DataW H} {ps : List MemPlace} (h : DataW.Trod enc P W base spare held t v d ps) : ∀ x ∈ ps, x.block < W.heap.size := by
  obtain ⟨fuel, hf⟩ := h
  exact fun x hx => DataW.trod_lt _ _ _ _ hf x hx
set_option maxRecDepth 100000 in
theorem contract (H : Type) (enc : TypeId × Value → H) (W : World) (base : Nat) (args : Array Value) (ds gs : List (DataW H)) (before : List MemPlace)
    (hval : ∀ (j : Nat) t v, Tryd.f7.params[j]? = some t → args[j]? = some v → Value.okWide Tryd.prog W .any base t v)
    (hW : DataW.Whole enc Tryd.prog Tryd.f7.params.toList Rows.outboxOnceSpec.vars false W args.toList ds gs before)
    (hWt : (DataW.weightsEach Tryd.prog (Tryd.f7.params.toList ++ (OpenSpec.ofChange Rows.outboxOnceSpec).bare.plain.varTypes Tryd.prog) (ds ++ gs)).all (· ≤ reachBytes) = true) (hL : laidMetH Tryd.prog Rows.outboxOnceRow.laid W) :
    Calls Tryd.prog 7 args W fun e W' => ∃ v, e = .returned v ∧ Rows.outboxOnceSpec.post enc Tryd.prog Tryd.f7 false true false false W args v W' := by
  have hW' := hW
  obtain ⟨p, q, hA0, hV, rfl, hfz, hnd⟩ := hW
  have hA : DataW.TrodAll enc Tryd.prog W 0 (fun _ => true) true Tryd.f7.params.toList args.toList ds p := hA0
  rw [Tryd.params7] at hA hval hWt
  obtain ⟨v0, vs0, d0, ds0, p0, q0, hargs, rfl, rfl, h0, r0⟩ := trodAll_cons hA
  obtain ⟨v1, vs1, d1, ds1, p1, q1, rfl, rfl, rfl, h1, r1⟩ := trodAll_cons r0
  obtain ⟨v2, vs2, d2, ds2, p2, q2, rfl, rfl, rfl, h2, r2⟩ := trodAll_cons r1
  obtain ⟨rfl, rfl, rfl⟩ := trodAll_nil r2
  obtain rfl : args = #[v0, v1, v2] := by cases args; simp_all
  obtain ⟨rfl, rfl⟩ := trodVars_none hV
  have ht0 := h0
  obtain ⟨t0, rfl, _, _⟩ := open_bool Tryd.underlying4 (hval 0 4 v0 rfl rfl) h0
  have ht1 := h1
  obtain ⟨n1, rfl, _, _, _⟩ := open_int Tryd.underlying3 (hval 1 3 v1 rfl rfl) h1
  have ht2 := h2
  obtain ⟨a2, l2, c2, rfl⟩ := okWide_slice Tryd.underlying22 (hval 2 22 v2 rfl rfl)
  obtain ⟨fu2, hf2⟩ := h2
  obtain ⟨ao2, cap2, xs2, e2, hO2, hz2, hp2⟩ := open_picks hf2
  obtain ⟨rfl, rfl, rfl⟩ : a2 = ao2 ∧ l2 = xs2.length ∧ c2 = cap2 := by simpa [Value.cells] using e2
  have hy2 : xs2.length ≤ 140737488355328 := by
    rcases hz2 with h | ⟨el, sp, e, h⟩
    · omega
    · have := sized_slice hWt (j := 2) rfl (congrArg some e) Tryd.underlying22
      have hr : reachBytes = 140737488351232 := rfl
      rw [show Tryd.prog.bytesOf 40 = 104 by kernel_rfl] at this
      omega
  have hq2 : ∀ y ∈ xs2, y.1.tn ≤ 140737488355328 := fun y hy => hp2 y hy fun n hn => by
    have hm : n ∈ DataW.weightsEach Tryd.prog ([4, 3, 22] ++ (OpenSpec.ofChange Rows.outboxOnceSpec).bare.plain.varTypes Tryd.prog) ([d0, d1, d2] ++ []) := DataW.weights_mem_each (j := 2) (t := 22) (d := d2) rfl rfl _ hn
    simpa using List.all_eq_true.1 hWt n hm
  clear hA0
  refine (once_law t0 n1 a2 c2 xs2 W (given hL) hO2 hy2 hq2).mono fun e W' ⟨he, hg⟩ => ?_
  subst he
  have e1 : Rows.outboxOnceSpec.fn H ([d0, d1, d2] ++ []) = { results := [.lit (.bool true)], args := [d0, d1, d2] } := by simp [Rows.outboxOnceSpec]
  refine ⟨_, rfl, _, _, _, [], (p0 ++ (p1 ++ (p2 ++ []))), [], hW', ?_, ?_, ?_, hg.frame _, fun h => by cases h⟩
  · rw [e1]; exact trodAll_cons_mk (shut_bool Tryd.underlying4 true) trodAll_mk0
  · rw [e1]; exact trodAll_cons_mk (Below.trod laidOut (show Tryd.prog.readableRec 4 = true by kernel_rfl) (show 4 < Tryd.prog.types.size by rw [typesSize]; decide) ht0 hg (trod_block ht0)) (trodAll_cons_mk (Below.trod laidOut (show Tryd.prog.readableRec 3 = true by kernel_rfl) (show 3 < Tryd.prog.types.size by rw [typesSize]; decide) ht1 hg (trod_block ht1)) (trodAll_cons_mk (Below.trod laidOut (show Tryd.prog.readableRec 22 = true by kernel_rfl) (show 22 < Tryd.prog.types.size by rw [typesSize]; decide) ht2 hg (trod_block ht2)) (trodAll_mk0)))
  · rw [e1]; rfl
theorem reads (os : Os) {H : Type} (enc : TypeId × Value → H) : ∃ places, DataW.whole enc Tryd.prog ((World.doorLaid Tryd.prog 400 os).forCall (fun _ _ => 0) ⟨#[], #[.bool false, .int .i64 0, .slice none 0 0], []⟩).memory Tryd.f7.params.toList Rows.outboxOnceSpec.vars false #[Value.bool false, Value.int .i64 0, Value.slice none 0 0].toList 8 = some ([.lit (.bool false), .lit (.int .i64 0), .nil], [], places) :=
  ⟨[], by kernel_rfl⟩
theorem door_met (os : Os) : laidMetH Tryd.prog Rows.outboxOnceRow.laid ((World.doorLaid Tryd.prog 400 os).forCall (fun _ _ => 0) ⟨#[], #[.bool false, .int .i64 0, .slice none 0 0], []⟩).memory :=
  laidMetH_of_parts3 (fuel := 8) (laidMet_of_run' 8 (by kernel_rfl) (by kernel_rfl)) (by kernel_rfl) (by kernel_rfl)
set_option maxRecDepth 100000 in
theorem lifted (os : Os) (started : os.Started) (H : Type) (enc : TypeId × Value → H) (F : Stop.Interp) :
    ReturnsInHanded {} Tryd.checked os 7 .any ((OpenSpec.ofChange Rows.outboxOnceSpec).preRow enc Tryd.prog Tryd.f7 Rows.outboxOnceRow.domain false Rows.outboxOnceRow.laid) (((OpenSpec.ofChange Rows.outboxOnceSpec).at F).post enc Tryd.prog Tryd.f7 false true false false) := by
  obtain ⟨places, hx⟩ := reads os enc
  refine returnsInHanded_of_row (C := Tryd.checked) (s := OpenSpec.ofChange Rows.outboxOnceSpec) own started (by kernel_rfl) Tryd.func7
    (witness_row_at (enc := enc) (C := Tryd.checked) false (World.doorLaid Tryd.prog 400 os) #[.bool false, .int .i64 0, .slice none 0 0] rfl (by kernel_rfl) (by kernel_rfl) (by kernel_rfl)
      (OpenSpec.preRow_of_cond 8 hx (by kernel_rfl) (fun k hk => by cases hk) (by kernel_rfl) (door_met os))) ?_
  intro W base args ds gs before hval hW _ _ hWt hL _ _
  exact contract H enc W base args ds gs before hval hW hWt hL
theorem said : Rows.OutboxOnceSaid :=
  OpenClaim.holds_of_cond 7 Tryd.f7 rfl rfl rfl rfl rfl rfl rfl ⟨rfl, rfl, rfl, rfl, rfl⟩ rfl rfl rfl rfl rfl (by kernel_rfl) Tryd.func7 (by kernel_rfl)
    (of_decide_eq_true (by kernel_rfl)) (by unfold Func.isWrapper; first | (rw [if_pos (by decide +kernel)]; kernel_rfl) | (rw [if_neg (by decide +kernel)]; exact ⟨rfl, rfl⟩))
    (fun os started H enc _ F => by rw [OpenClaim.pre_eq_preRow]; exact lifted os started H enc F)
theorem plain (f : FuncId) (fn : Func) (hf : Tryd.pinned.checked.prog.funcNamed "courier/courierlaw14.OutboxOnce" = some f) (hfn : Tryd.pinned.checked.prog.funcs[f]? = some fn) :
    true = Tryd.pinned.checked.prog.looks [] ∧ ∀ (j : Nat) t, fn.params[j]? = some t → Tryd.pinned.checked.prog.wantsStandIn t = false := by
  obtain rfl : f = 7 := Option.some.inj ((show Tryd.prog.funcNamed "courier/courierlaw14.OutboxOnce" = some 7 by kernel_rfl).symm.trans hf) |>.symm
  obtain rfl : fn = Tryd.f7 := (Option.some.inj (Tryd.func7.symm.trans hfn)).symm
  refine ⟨by kernel_rfl, fun j t ht => ?_⟩
  rw [Tryd.params7] at ht
  have hm : t ∈ [4, 3, 22] := by simpa using Array.mem_of_getElem? ht
  have hall : ([4, 3, 22].all fun u => !Tryd.prog.wantsStandIn u) = true := by kernel_rfl
  exact (show Tryd.prog.wantsStandIn t = false by simpa using List.all_eq_true.1 hall t hm)

theorem card : Rows.OutboxOnceCardSaid :=
  Claim7.holds_tied_plain_at .later [] _ _ _ _ said (fun _ h => by cases h) (by kernel_rfl) (fun _ h => by cases h) outboxOnce_row_tie rfl ⟨rfl, rfl⟩ (by kernel_rfl) rfl plain (by kernel_rfl)
end Go.Proofs.YtkngafnfenmfeaaDoor.outboxOnce

namespace Go.Proofs.YtkngafnfenmfeaaDoor
theorem outboxOnce_of : Rows.OutboxOnceCardSaid := outboxOnce.card
end Go.Proofs.YtkngafnfenmfeaaDoor
