import Derived.Test.YtjbkfppibnlmoaaDoorIbPut
import Derived.Laws.BytesString
import Derived.Lib.SlBytesConst
/-
  remove: slices.Delete of one entry.
-/
namespace Go.Proofs.YtjbkfppibnlmoaaDoor
open Go.RowKit

def zEs : List Value := [.string ⟨#[]⟩, .slice none 0 0, .int .i64 0, .int .i64 0, .slice none 0 0, .string ⟨#[]⟩, .slice none 0 0]
theorem zEs_one : ∀ v ∈ zEs, v.oneCell' = true := fun u hu => by
  simp only [zEs, List.mem_cons, List.not_mem_nil, or_false] at hu
  rcases hu with rfl | rfl | rfl | rfl | rfl | rfl | rfl <;> rfl
theorem zeroEs : (Builtin.zeroCells (Value.agg zEs.toArray).cells 1).toList = zEs := by kernel_rfl
/-- What the append and the clear of Delete do. -/
theorem del_runs {w : World} {B g k c i : Nat} {ms : List Ent} (h : ERow w B 30 7 encE (.slice (some ⟨g, 0, none⟩) (k + 1) c) ms) (hi : i ≤ k) (a' : Addr) (ha : i < k → a' = ⟨g, (i + 1) * 7, none⟩) :
    ∃ w1 w2, (∀ cc, (Builtin.append_ #[22, 22] 22 #[.slice (some ⟨g, 0, none⟩) i c, .slice (some a') (k - i) cc]).run Tryd.prog w.drew = .ok (.slice (some ⟨g, 0, none⟩) k c) w1) ∧
      (∀ cc, (Builtin.clear_ #[22] 0 #[.slice (some ⟨g, k * 7, none⟩) 1 cc]).run Tryd.prog w1 = .ok (.tuple #[]) w2) ∧ ERow w2 B 30 7 encE (.slice (some ⟨g, 0, none⟩) k c) (ms.eraseIdx i) ∧ Off (fun q => q = g) w w2 := by
  obtain ⟨inf, z, hinf, hz, hzs, hs, hby⟩ := celE
  have hlen : ms.length = k + 1 := h.len.symm
  have hd : w.drew.ownsRow B 30 7 (.slice (some ⟨g, 0, none⟩) (k + 1) c) (k + 1) (ms.flatMap encE) := by
    have := h.off (P := fun _ => False) (Off.refl _ _).drew (fun _ _ => id)
    unfold ERow at this; rw [hlen] at this; exact this
  have hc : k + 1 ≤ c := by
    rcases h.form with ⟨e, _⟩ | ⟨g', cap, e, _, _, h1, _⟩
    · cases e
    · simp only [Value.slice.injEq] at e; omega
  have hl : ((ms.drop (i + 1)).flatMap encE).length = (k - i) * 7 := by rw [flat_len encE_len, List.length_drop, hlen, show k + 1 - (i + 1) = k - i by omega]
  have o1 := own_setCells (g := g) ((ms.drop (i + 1)).flatMap encE) (i * 7) w.drew _ hd
  have o2 := own_setCells (g := g) zEs (k * 7) _ _ o1
  refine ⟨w.drew.setCells g (i * 7) ((ms.drop (i + 1)).flatMap encE), (w.drew.setCells g (i * 7) ((ms.drop (i + 1)).flatMap encE)).setCells g (k * 7) zEs, fun cc => ?_, fun cc => ?_, ?_, ?_⟩
  · have hr := run_append_room_cells (P := Tryd.prog) w.drew 22 22 30 inf Tryd.underlying22 hinf g 0 i c a' (k - i) cc ((ms.drop (i + 1)).flatMap encE) (by rw [hs]; exact hl) (fun j u hu => by
      have hj := (List.getElem?_eq_some_iff.1 hu).1
      rw [hl] at hj
      have hik : i < k := by omega
      rw [ha hik, Addr.add_lit]
      have e1 : ms.flatMap encE = (ms.take (i + 1)).flatMap encE ++ (ms.drop (i + 1)).flatMap encE := by rw [← List.flatMap_append, List.take_append_drop]
      have l1 : ((ms.take (i + 1)).flatMap encE).length = (i + 1) * 7 := by rw [flat_len encE_len, List.length_take, hlen, show min (i + 1) (k + 1) = i + 1 by omega]
      have hcl := World.ownsRow.cells hd (g := g) rfl ((i + 1) * 7 + j) u (by rw [e1, List.getElem?_append_right (by omega), l1, Nat.add_sub_cancel_left]; exact hu)
      rwa [Addr.add_lit, Nat.zero_add] at hcl) (fun u hu => by
      obtain ⟨x, _, hx⟩ := List.mem_flatMap.1 hu
      exact encE_one x u hx) (by omega) (fun j hj => by
      rw [hl] at hj
      rw [hs, Nat.zero_add]
      exact (own_there hd (o := i * 7) (k := (k - i) * 7) (by omega) j hj).1) (fun j hj => by
      rw [hl] at hj
      rw [hs, Nat.zero_add]
      exact (own_there hd (o := i * 7) (k := (k - i) * 7) (by omega) j hj).2)
    rw [hs, Nat.zero_add, show i + (k - i) = k by omega] at hr
    exact hr
  · exact run_clear_one _ _ _ _ (.agg zEs.toArray) Tryd.underlying22 Tryd.zeroValue30 zEs zeroEs zEs_one g (k * 7) cc (own_there o1 (by show k * 7 + 7 ≤ (k + 1) * 7; omega))
  · have o3 := own_prefix o2 (m := k) (by omega)
    rw [setAll_take _ _ _ _ (Nat.le_refl _)] at o3
    have he := erase_flat encE_len (ms := ms) (i := i) (by omega)
    rw [hlen, Nat.add_sub_cancel] at he
    rw [he] at o3
    unfold ERow
    rw [List.length_eraseIdx, hlen, if_pos (by omega), Nat.add_sub_cancel]
    exact o3
  · exact Off.setCells (P := fun q => q = g) rfl _ _ _ (Off.setCells (P := fun q => q = g) rfl _ _ _ ((Off.refl _ _).drew))
end Go.Proofs.YtjbkfppibnlmoaaDoor

/-
  remove, shed of the shelf.
-/
namespace Go.Proofs.YtjbkfppibnlmoaaDoor
open Go.RowKit

theorem keyS_of {e : Ent} (h : mayB e = true) : KeyS e.ct := by
  have := (mayB_is h).1
  simp only [ctB, Bool.and_eq_true, decide_eq_true_eq] at this
  unfold KeyS maxLen
  omega
theorem nOp_erase {es : List Ent} {i : Nat} {x : Ent} (hx : es[i]? = some x) (hd : dcB x = true) : nOp (es.eraseIdx i) = nOp es := by
  obtain ⟨hi, rfl⟩ := List.getElem?_eq_some_iff.1 hx
  unfold nOp
  have e1 : es = es.take i ++ (es[i] :: es.drop (i + 1)) := by rw [List.getElem_cons_drop, List.take_append_drop]
  have ho : opB es[i] = false := by unfold opB; unfold dcB at hd; simpa using hd
  rw [List.eraseIdx_eq_take_drop_succ, List.countP_append]
  conv => rhs; rw [e1, List.countP_append, List.countP_cons, ho]
  simp
/-- While the places are numbered anew. -/
structure RmI (w : World) (B sb M : Nat) (v : Value) (K R : Int) (g k c : Nat) (no : Int) (es' : List Ent) (i : Nat) (wx : World) : Prop where
  blk : wx.heap[sb]? = some (.cells #[.int .i64 K, .int .i64 R, .slice (some ⟨g, 0, none⟩) k c, .map (some M), .int .i64 no] 69 (0, 0))
  row : NRow wx B (.slice (some ⟨g, 0, none⟩) k c) es'
  map : MapF wx M (gI es' i) es'.length
  off : Off (Ft sb M v) w wx
section
variable {w w' : World} {B sb M : Nat} {v : Value} {K R : Int} {es : List Ent}
end
end Go.Proofs.YtjbkfppibnlmoaaDoor

/-
  shed, decide of the shelf.
-/
namespace Go.Proofs.YtjbkfppibnlmoaaDoor
open Go.RowKit

def encS (s : ByteArray) : List Value := [.string s]
theorem encS_len (s : ByteArray) : (encS s).length = 1 := rfl
theorem encS_one (s : ByteArray) : ∀ u ∈ encS s, u.oneCell' = true := fun u hu => by
  simp only [encS, List.mem_cons, List.not_mem_nil, or_false] at hu; rw [hu]; rfl
theorem celSt : Cel Tryd.prog 9 1 16 := cel_of (by kernel_rfl)
/-- A row of texts. -/
abbrev TRow (w : World) (B : Nat) (v : Value) (l : List ByteArray) : Prop := ERow w B 9 1 encS v l
theorem trow_one (w : World) (B : Nat) (s : ByteArray) (hB : B ≤ w.heap.size) : TRow (w.alloc (.cells #[.string s] 9)) B (.slice (some ⟨w.heap.size, 0, none⟩) 1 1) [s] :=
  ⟨rfl, Or.inr ⟨w.heap.size, 1, #[.string s], rfl, hB, heap_alloc_new _ _, Nat.le_refl _, by unfold maxLen; omega, rfl, rfl⟩⟩
theorem many_fd {K : Int} {es : List Ent} (hK : 0 ≤ K) (h : manyB K es = true) : ∃ i x, fdS es = some i ∧ es[i]? = some x ∧ dcB x = true := by
  cases hf : fdS es with
  | some i => obtain ⟨x, h1, h2, _⟩ := fd_some hf; exact ⟨i, x, rfl, h1, h2⟩
  | none =>
    have hz : nDc es = 0 := by
      unfold nDc
      rw [List.countP_eq_zero]
      intro x hx
      obtain ⟨j, hj, rfl⟩ := List.getElem_of_mem hx
      rw [fd_none hf j _ (List.getElem?_eq_getElem hj)]
      decide
    unfold manyB at h
    rw [hz] at h
    simp at h
    omega
/-- What shed tells and leaves. -/
def ShdQ (w : World) (B sb M : Nat) (v : Value) (K R : Int) (es : List Ent) (r : Ending) (w' : World) : Prop :=
  ∃ u, r = .returned u ∧ TRow w' w.heap.size u (goneS K es) ∧ ShfQ w B sb M v K R (shedS K es) w'
section
variable {w w' : World} {B sb M : Nat} {v : Value} {K R : Int} {es : List Ent}
/-- An entry with a verdict. -/
abbrev Ent.vd (x : Ent) (cd : ByteArray) (p : Option Addr) (n c : Nat) (bs : List Int) : Ent := { x with cd := cd, ap := p, an := n, ac := c, ax := bs }
theorem flat_vd (cd : ByteArray) (p : Option Addr) (n c : Nat) (bs : List Int) : ∀ (es : List Ent) (i : Nat) (x : Ent), es[i]? = some x → setAll (es.flatMap encE) (i * 7 + 5) [.string cd, .slice p n c] = (es.set i (x.vd cd p n c bs)).flatMap encE
  | [], i, x, h => by simp at h
  | y :: r, 0, x, h => by
    simp only [List.getElem?_cons_zero, Option.some.injEq] at h
    subst h
    rw [List.flatMap_cons, List.set_cons_zero, List.flatMap_cons]
    simp [encE, setAll]
  | y :: r, i + 1, x, h => by
    rw [List.getElem?_cons_succ] at h
    rw [List.flatMap_cons, List.set_cons_succ, List.flatMap_cons, show (i + 1) * 7 + 5 = (encE y).length + (i * 7 + 5) by rw [encE_len]; omega, setAll_app, flat_vd cd p n c bs r i x h]
theorem fi_set {es : List Ent} {i : Nat} {x y : Ent} (hx : es[i]? = some x) (hy : y.ct = x.ct) (s : ByteArray) : fi s (es.set i y) = fi s es := by
  have hl := (List.getElem?_eq_some_iff.1 hx).1
  have key : ∀ (j : Nat) (m' : Ent), (es.set i y)[j]? = some m' → ∃ m : Ent, es[j]? = some m ∧ m.ct = m'.ct := fun j m' hm => by
    by_cases hij : i = j
    · subst hij
      rw [List.getElem?_set_self hl] at hm
      cases hm
      exact ⟨x, hx, hy.symm⟩
    · rw [List.getElem?_set_ne hij] at hm
      exact ⟨m', hm, rfl⟩
  cases hf : fi s es with
  | none =>
    refine fi_no fun j m' hm => ?_
    obtain ⟨m, h1, h2⟩ := key j m' hm
    rw [← h2]
    exact fi_none hf j m h1
  | some j =>
    obtain ⟨m, h1, h2, h3⟩ := fi_some hf
    have hj := (List.getElem?_eq_some_iff.1 h1).1
    obtain ⟨m', hm'⟩ : ∃ m', (es.set i y)[j]? = some m' := ⟨_, List.getElem?_eq_getElem (by rw [List.length_set]; exact hj)⟩
    obtain ⟨m2, g1, g2⟩ := key j m' hm'
    rw [h1] at g1
    cases g1
    refine fi_of hm' (by rw [← g2]; exact h2) fun j' m'' hj' hm'' => ?_
    obtain ⟨m3, g1, g2⟩ := key j' m'' hm''
    rw [← g2]
    exact h3 j' m3 hj' g1
theorem nOp_set {es : List Ent} {i : Nat} {x y : Ent} (hx : es[i]? = some x) (ho : opB x = true) (hd : opB y = false) : nOp (es.set i y) + 1 = nOp es := by
  obtain ⟨hi, rfl⟩ := List.getElem?_eq_some_iff.1 hx
  unfold nOp
  have e1 : es = es.take i ++ (es[i] :: es.drop (i + 1)) := by rw [List.getElem_cons_drop, List.take_append_drop]
  conv => rhs; rw [e1, List.countP_append, List.countP_cons, ho]
  rw [List.set_eq_take_append_cons_drop, if_pos hi, List.countP_append, List.countP_cons, hd]
  simp
  omega
theorem may_vd {x : Ent} (h : mayB x = true) {cd : ByteArray} (p : Option Addr) {n : Nat} (c : Nat) (bs : List Int) (hv : vdB cd = true) (hn : n ≤ 2048) : mayB (x.vd cd p n c bs) = true ∧ opB (x.vd cd p n c bs) = false := by
  have hne : cd.toList.isEmpty = false := by
    cases he : cd.toList with
    | nil => unfold vdB at hv; rw [he] at hv; simp at hv
    | cons a r => rfl
  refine ⟨?_, hne⟩
  obtain ⟨h0, h1, h2, h3, h4, h5, h6, h7, h8⟩ := mayB_is h
  refine mayB_all fun i hi => ?_
  rcases (by omega : i = 0 ∨ i = 1 ∨ i = 2 ∨ i = 3 ∨ i = 4 ∨ i = 5 ∨ i = 6 ∨ i = 7) with rfl | rfl | rfl | rfl | rfl | rfl | rfl | rfl <;> simp [ruB, *]
end
end Go.Proofs.YtjbkfppibnlmoaaDoor

/-
  Bytes as a string; couriermem's SameTexts and Same.
-/
namespace Go.Proofs.YtjbkfppibnlmoaaDoor
open Go.RowKit

def strOf (xs : List Int) : ByteArray := xs.foldl (fun r n => r.push (UInt8.ofNat n.toNat)) ByteArray.empty
theorem u8s_get {xs : List Int} {j : Nat} {u : Value} (h : (xs.map (Value.int .u8))[j]? = some u) : j < xs.length ∧ u = .int .u8 (xs.getD j 0) := by
  rw [List.getElem?_map] at h
  obtain ⟨x, hx, rfl⟩ := Option.map_eq_some_iff.1 h
  have hj := (List.getElem?_eq_some_iff.1 hx).1
  refine ⟨hj, ?_⟩
  rw [List.getD_eq_getElem?_getD, hx]
  rfl
theorem Byts.load {P : Program} {w : World} {a : Addr} {n : Nat} {bs : List Int} (h : Byts w (some a) n bs) : (loadCells a n).run P w = .ok (bs.map (Value.int .u8)).toArray w := by
  have hm := h.len
  have := run_loadCells_list (P := P) w a (bs.map (Value.int .u8)) (fun j u hu => by
    obtain ⟨hj, rfl⟩ := u8s_get (xs := bs) hu
    obtain ⟨b, o, e, _, hc⟩ := h.cell j (by omega)
    obtain rfl : a = ⟨b, o, none⟩ := by simpa using e
    rw [Addr.add_lit]; exact hc)
  rwa [List.length_map, hm] at this
theorem run_conv_bytes {w : World} {po : Option Addr} {m : Nat} {bs : List Int} (h : Byts w po m bs) (c : Nat) : (convert 28 9 (.slice po m c)).run Tryd.prog w = .ok (.string (strOf bs)) w := by
  rw [run_convert_bytes_string w _ _ _ _ _ _ Tryd.underlying28 Tryd.underlying5 Tryd.underlying9]
  cases po with
  | none =>
    have m0 : m = 0 := by
      rcases Nat.eq_zero_or_pos m with g | g
      · exact g
      · obtain ⟨_, _, e, _⟩ := h.cell 0 g; cases e
    obtain rfl : bs = [] := List.eq_nil_of_length_eq_zero (by rw [h.len]; exact m0)
    simp [Conv.bytesToString, strOf, Sem.run_pure]
  | some a => exact run_bytesToString w _ _ _ _ h.load
set_option maxRecDepth 100000 in
set_option maxHeartbeats 2000000 in
theorem memSame_true {w : World} {ao bo : Option Addr} {n ac bc : Nat} {xs : List Int} (ha : Byts w ao n xs) (hb : Byts w bo n xs) (hn : n ≤ 9223372036854775807) :
    Calls Tryd.prog 64 #[.slice ao n ac, .slice bo n bc] w fun e w' => e = .returned (.bool true) ∧ ∃ m, w' = w.drewN m := by
  have HA : Hid (Byts w ao n xs) := ha
  have HB : Hid (Byts w bo n xs) := hb
  clear ha hb
  go_enter Tryd.func64, Tryd.ntmps64
  go_wp2_with fail
  go_loopw [5] (fun ti wx => ∃ j m : Nat, j ≤ n ∧ ti = .int .i64 j ∧ wx = w.drewN m) (fun ti _ => n - (intOf ti).toNat)
  case atStart => exact ⟨0, 0, Nat.zero_le _, rfl, rfl⟩
  case round =>
    obtain ⟨j, m, hj, rfl, rfl⟩ := hrel
    by_cases hlt : j < n
    · obtain ⟨ab, aof, rfl, hal, hac⟩ := HA.out.cell j hlt
      obtain ⟨bb, bof, rfl, hbl, hbc⟩ := HB.out.cell j hlt
      have hlt1 : (j : Int) < n := by omega
      go_wp2_with fail
      go_quiet (fail)
      go_wp2_with fail
      go_roundw
      case rel => exact ⟨j + 1, _, hlt, by go_num, rfl⟩
      case measure => simp [intOf]; omega
    · have hlt1 : ¬ ((j : Int) < n) := by omega
      go_wp2_with fail
      go_ret
      exact ⟨rfl, _, rfl⟩
theorem trow_at {w : World} {B : Nat} {a : Option Addr} {n c : Nat} {l : List ByteArray} (h : TRow w B (.slice a n c) l) {j : Nat} (hj : j < n) : ∃ g s, a = some ⟨g, 0, none⟩ ∧ l[j]? = some s ∧ w.cell? ⟨g, j, none⟩ = some (.string s) := by
  have hn := ERow.len h
  obtain ⟨s, hs⟩ : ∃ s, l[j]? = some s := ⟨_, List.getElem?_eq_getElem (by omega)⟩
  obtain ⟨g, e, _, hc⟩ := ERow.at_ encS_len h hs
  have := hc 0 (by decide)
  rw [Nat.mul_one, Nat.add_zero] at this
  exact ⟨g, s, e, hs, this⟩
set_option maxRecDepth 100000 in
set_option maxHeartbeats 2000000 in
theorem sameTexts_true {w : World} {B B' : Nat} {a a' : Option Addr} {n c c' : Nat} {l : List ByteArray} (ha : TRow w B (.slice a n c) l) (hb : TRow w B' (.slice a' n c') l) :
    Calls Tryd.prog 41 #[.slice a n c, .slice a' n c'] w fun e w' => e = .returned (.bool true) ∧ ∃ m, w' = w.drewN m := by
  have hx : n ≤ 9223372036854775807 := by
    rcases ERow.form ha with ⟨e1, _⟩ | ⟨g, cap, e1, _, _, h3, h4⟩
    · simp only [Value.slice.injEq] at e1; omega
    · simp only [Value.slice.injEq] at e1; unfold maxLen at h4; omega
  have HA : Hid (TRow w B (.slice a n c) l ∧ TRow w B' (.slice a' n c') l) := ⟨ha, hb⟩
  clear ha hb
  go_enter Tryd.func41, Tryd.ntmps41
  go_wp2_with fail
  go_loopw [5] (fun ti wx => ∃ j m : Nat, j ≤ n ∧ ti = .int .i64 j ∧ wx = w.drewN m) (fun ti _ => n - (intOf ti).toNat)
  case atStart => exact ⟨0, 0, Nat.zero_le _, rfl, rfl⟩
  case round =>
    obtain ⟨j, m, hj, rfl, rfl⟩ := hrel
    by_cases hlt : j < n
    · obtain ⟨g, s, rfl, hs, hc⟩ := trow_at HA.out.1 hlt
      obtain ⟨g', s', rfl, hs', hc'⟩ := trow_at HA.out.2 hlt
      rw [hs] at hs'
      obtain rfl := Option.some.inj hs'
      have hlt1 : (j : Int) < n := by omega
      clear hs hs'
      go_wp2_with fail
      go_quiet (fail)
      go_wp2_with fail
      go_roundw
      case rel => exact ⟨j + 1, _, hlt, by go_num, rfl⟩
      case measure => simp [intOf]; omega
    · have hlt1 : ¬ ((j : Int) < n) := by omega
      go_wp2_with fail
      go_ret
      exact ⟨rfl, _, rfl⟩
end Go.Proofs.YtjbkfppibnlmoaaDoor
