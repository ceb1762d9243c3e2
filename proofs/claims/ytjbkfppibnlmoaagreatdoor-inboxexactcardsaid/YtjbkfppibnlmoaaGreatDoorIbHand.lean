import Derived.Test.YtjbkfppibnlmoaaGreatDoorIbRem
import Derived.Laws.BytesString
import Derived.Lib.SlBytesConst
/-
  shed, decide of the shelf.
-/
namespace Go.Proofs.YtjbkfppibnlmoaaGreatDoor
open Go.RowKit

def encS (s : ByteArray) : List Value := [.string s]
theorem encS_len (s : ByteArray) : (encS s).length = 1 := rfl
theorem encS_one (s : ByteArray) : ∀ u ∈ encS s, u.oneCell' = true := fun u hu => by
  simp only [encS, List.mem_cons, List.not_mem_nil, or_false] at hu; rw [hu]; rfl
theorem celSt : Cel Tryz.prog 9 1 16 := cel_of (by kernel_rfl)
/-- A row of texts. -/
abbrev TRow (w : World) (B : Nat) (v : Value) (l : List ByteArray) : Prop := ERow w B 9 1 encS v l
theorem trow_one (w : World) (B : Nat) (s : ByteArray) (hB : B ≤ w.heap.size) : TRow (w.alloc (.cells #[.string s] 9)) B (.slice (some ⟨w.heap.size, 0, none⟩) 1 1) [s] :=
  ⟨rfl, Or.inr ⟨w.heap.size, 1, #[.string s], rfl, hB, heap_alloc_new _ _, Nat.le_refl _, by unfold maxLen; omega, rfl, rfl⟩⟩
theorem many_fd {K : Int} {es : List Ent} (hK : 0 ≤ K) (h : manyB K es = true) : ∃ i x, fdS es = some i ∧ es[i]? = some x ∧ dcB x = true := by
  cases hf : fdS es with
  | some i => obtain ⟨x, h1, h2, _⟩ := fd_some hf; exact ⟨i, x, rfl, h1, h2⟩
  | none =>
    have hz : nDc es = 0 := by
      unfold nDc
      rw [List.countP_eq_zero]
      intro x hx
      obtain ⟨j, hj, rfl⟩ := List.getElem_of_mem hx
      rw [fd_none hf j _ (List.getElem?_eq_getElem hj)]
      decide
    unfold manyB at h
    rw [hz] at h
    simp at h
    omega
/-- What shed tells and leaves. -/
def ShdQ (w : World) (B sb M : Nat) (v : Value) (K R : Int) (es : List Ent) (r : Ending) (w' : World) : Prop :=
  ∃ u, r = .returned u ∧ TRow w' w.heap.size u (goneS K es) ∧ ShfQ w B sb M v K R (shedS K es) w'
section
variable {w w' : World} {B sb M : Nat} {v : Value} {K R : Int} {es : List Ent}
set_option maxRecDepth 100000 in
set_option maxHeartbeats 2000000 in
theorem shed_any (h : Shf w B sb M v K R es) (hK : 0 ≤ K ∧ K ≤ 64) : Calls Tryz.prog 84 #[.pointer (some ⟨sb, 0, none⟩)] w (ShdQ w B sb M v K R es) := by
  have hmn := many_any h hK
  cases hm : manyB K es with
  | false =>
    rw [hm] at hmn
    have HZ : Hid (∀ m, ShdQ w B sb M v K R es (.returned (.slice none 0 0)) (w.drewN m)) := fun m => by
      refine ⟨_, rfl, ?_, v, ?_, (Off.refl _ _).drewN m, fun q hq => Or.inl hq⟩
      · unfold goneS; rw [hm]; exact ERow.nil _ _ _ _ _
      · unfold shedS; rw [hm]; exact h.below (below_drewN (Below.refl _ _) m)
    clear hm h
    go_enter Tryz.func84, Tryz.ntmps84
    go_wp2_with fail
    refine hmn.mono ?_
    rintro _ w1 ⟨rfl, m, rfl⟩
    clear hmn
    go_wp2_with fail
    go_ret
    exact HZ.out m
  | true =>
    rw [hm] at hmn
    obtain ⟨i, x, hfd, hx, hd⟩ := many_fd hK.1 hm
    have hil := (List.getElem?_eq_some_iff.1 hx).1
    have hfI : fdI es = i := by unfold fdI; rw [hfd]
    have HZ : Hid (∀ w4, ShfQ w B sb M v K R (es.eraseIdx i) w4 → ShdQ w B sb M v K R es (.returned (.slice (some ⟨w4.heap.size, 0, none⟩) 1 1)) (w4.alloc (.cells #[.string x.ct] 9))) := fun w4 h4 => by
      refine ⟨_, rfl, ?_, ?_⟩
      · unfold goneS
        rw [hm, hfd]
        simp only [if_true]
        rw [List.getD_eq_getElem?_getD, hx]
        exact trow_one _ _ _ (by obtain ⟨_, _, h2, _⟩ := h4; exact h2.size)
      · unfold shedS
        rw [hm, hfd]
        exact h4.then_below ((Below.refl _ _).alloc (Nat.le_refl _) _)
    have HS : Hid (Shf w B sb M v K R es) := h
    have HX : Hid (es[i]? = some x ∧ dcB x = true ∧ fdI es = i) := ⟨hx, hd, hfI⟩
    obtain ⟨n, hn⟩ : ∃ n, es.length = n := ⟨_, rfl⟩
    have HN : Hid (es.length = n) := hn
    have q1 : (i : Int) < n := by omega
    have hn6 : n ≤ 1000000 := by rw [← hn]; exact h.len
    clear hm h hfd hx hd hil hfI hn
    go_enter Tryz.func84, Tryz.ntmps84
    go_wp2_with fail
    refine hmn.mono ?_
    rintro _ w1 ⟨rfl, m, hw1⟩
    have HB1 : Hid (Below w.heap.size w w1) := by unfold Hid; rw [hw1]; exact below_drewN (Below.refl _ _) m
    clear hmn hw1
    have hfs := first_any (HS.out.below HB1.out)
    rw [HX.out.2.2] at hfs
    go_wp2_with fail
    refine hfs.mono ?_
    rintro _ w2 ⟨rfl, hb2⟩
    have HB2 : Hid (Below w.heap.size w w2) := below_then HB1.out hb2
    have HS2 : Hid (Shf w2 B sb M v K R es) := HS.out.below HB2.out
    clear hfs hb2
    obtain ⟨a, c, hv, _⟩ := HS2.out.row.isSlice
    have k2 := HS2.out.cells.2.2.1
    have hrow := HS2.out.row
    rw [hv, HN.out] at k2 hrow
    obtain ⟨g, rfl, hg, hc⟩ := nrow_cells hrow HX.out.1
    have d0 := hc.c0
    have hrm := remove_any HS2.out HX.out.1 HX.out.2.1
    clear hv hrow hc
    go_wp2_with fail
    refine hrm.mono ?_
    rintro _ w4 ⟨rfl, h4⟩
    have H4 : Hid (ShfQ w B sb M v K R (es.eraseIdx i) w4) := h4.of_below HB2.out
    clear hrm h4 k2 d0 hg
    go_wp2_with fail
    go_ret
    exact HZ.out w4 H4.out
/-- An entry with a verdict. -/
abbrev Ent.vd (x : Ent) (cd : ByteArray) (p : Option Addr) (n c : Nat) (bs : List Int) : Ent := { x with cd := cd, ap := p, an := n, ac := c, ax := bs }
theorem flat_vd (cd : ByteArray) (p : Option Addr) (n c : Nat) (bs : List Int) : ∀ (es : List Ent) (i : Nat) (x : Ent), es[i]? = some x → setAll (es.flatMap encE) (i * 7 + 5) [.string cd, .slice p n c] = (es.set i (x.vd cd p n c bs)).flatMap encE
  | [], i, x, h => by simp at h
  | y :: r, 0, x, h => by
    simp only [List.getElem?_cons_zero, Option.some.injEq] at h
    subst h
    rw [List.flatMap_cons, List.set_cons_zero, List.flatMap_cons]
    simp [encE, setAll]
  | y :: r, i + 1, x, h => by
    rw [List.getElem?_cons_succ] at h
    rw [List.flatMap_cons, List.set_cons_succ, List.flatMap_cons, show (i + 1) * 7 + 5 = (encE y).length + (i * 7 + 5) by rw [encE_len]; omega, setAll_app, flat_vd cd p n c bs r i x h]
theorem fi_set {es : List Ent} {i : Nat} {x y : Ent} (hx : es[i]? = some x) (hy : y.ct = x.ct) (s : ByteArray) : fi s (es.set i y) = fi s es := by
  have hl := (List.getElem?_eq_some_iff.1 hx).1
  have key : ∀ (j : Nat) (m' : Ent), (es.set i y)[j]? = some m' → ∃ m : Ent, es[j]? = some m ∧ m.ct = m'.ct := fun j m' hm => by
    by_cases hij : i = j
    · subst hij
      rw [List.getElem?_set_self hl] at hm
      cases hm
      exact ⟨x, hx, hy.symm⟩
    · rw [List.getElem?_set_ne hij] at hm
      exact ⟨m', hm, rfl⟩
  cases hf : fi s es with
  | none =>
    refine fi_no fun j m' hm => ?_
    obtain ⟨m, h1, h2⟩ := key j m' hm
    rw [← h2]
    exact fi_none hf j m h1
  | some j =>
    obtain ⟨m, h1, h2, h3⟩ := fi_some hf
    have hj := (List.getElem?_eq_some_iff.1 h1).1
    obtain ⟨m', hm'⟩ : ∃ m', (es.set i y)[j]? = some m' := ⟨_, List.getElem?_eq_getElem (by rw [List.length_set]; exact hj)⟩
    obtain ⟨m2, g1, g2⟩ := key j m' hm'
    rw [h1] at g1
    cases g1
    refine fi_of hm' (by rw [← g2]; exact h2) fun j' m'' hj' hm'' => ?_
    obtain ⟨m3, g1, g2⟩ := key j' m'' hm''
    rw [← g2]
    exact h3 j' m3 hj' g1
theorem nOp_set {es : List Ent} {i : Nat} {x y : Ent} (hx : es[i]? = some x) (ho : opB x = true) (hd : opB y = false) : nOp (es.set i y) + 1 = nOp es := by
  obtain ⟨hi, rfl⟩ := List.getElem?_eq_some_iff.1 hx
  unfold nOp
  have e1 : es = es.take i ++ (es[i] :: es.drop (i + 1)) := by rw [List.getElem_cons_drop, List.take_append_drop]
  conv => rhs; rw [e1, List.countP_append, List.countP_cons, ho]
  rw [List.set_eq_take_append_cons_drop, if_pos hi, List.countP_append, List.countP_cons, hd]
  simp
  omega
theorem may_vd {x : Ent} (h : mayB x = true) {cd : ByteArray} (p : Option Addr) {n : Nat} (c : Nat) (bs : List Int) (hv : vdB cd = true) (hn : n ≤ 2048) : mayB (x.vd cd p n c bs) = true ∧ opB (x.vd cd p n c bs) = false := by
  have hne : cd.toList.isEmpty = false := by
    cases he : cd.toList with
    | nil => unfold vdB at hv; rw [he] at hv; simp at hv
    | cons a r => rfl
  refine ⟨?_, hne⟩
  obtain ⟨h0, h1, h2, h3, h4, h5, h6, h7, h8⟩ := mayB_is h
  refine mayB_all fun i hi => ?_
  rcases (by omega : i = 0 ∨ i = 1 ∨ i = 2 ∨ i = 3 ∨ i = 4 ∨ i = 5 ∨ i = 6 ∨ i = 7) with rfl | rfl | rfl | rfl | rfl | rfl | rfl | rfl <;> simp [ruB, *]
set_option maxRecDepth 100000 in
set_option maxHeartbeats 4000000 in
theorem sdecide_any (h : Shf w B sb M v K R es) {at_ : Nat} {x : Ent} (hx : es[at_]? = some x) (ho : opB x = true) {cd : ByteArray} {p : Option Addr} {n c : Nat} {bs : List Int} (hv : vdB cd = true) (hn : n ≤ 2048) :
    Calls Tryz.prog 82 #[.pointer (some ⟨sb, 0, none⟩), .int .i64 (at_ : Int), .string cd, .slice p n c] w fun r w' => r = .returned (.tuple #[]) ∧ ShfQ w B sb M v K R (es.set at_ (x.vd cd p n c bs)) w' := by
  obtain ⟨a, cc, hvv, _⟩ := h.row.isSlice
  have hil := (List.getElem?_eq_some_iff.1 hx).1
  obtain ⟨m, hm⟩ : ∃ m, es.length = m := ⟨_, rfl⟩
  have hm6 : m ≤ 1000000 := by rw [← hm]; exact h.len
  rw [hm] at hvv hil
  subst hvv
  obtain ⟨g, rfl, hg, hc⟩ := nrow_cells h.row hx
  have hgs := (h.neL (g := g) rfl).1
  have hgs' : ¬ sb = g := fun e => hgs e.symm
  have d5 := hc.c5
  have d6 := hc.c6
  have fz := h.row.thaw
  have k2 := h.cells.2.2.1
  have k4 := h.cells.2.2.2.2
  have lsb := h.lt
  have f4 := hfroz h.blk 4
  have hmv := may_vd (h.ok x (List.mem_of_getElem? hx)) p c bs hv hn
  have hnn := nOp_set hx ho hmv.2
  have HZ : Hid (ShfQ w B sb M (.slice (some ⟨g, 0, none⟩) m cc) K R (es.set at_ (x.vd cd p n c bs)) ((((w.setCell ⟨g, at_ * 7 + 5, none⟩ (.string cd)).setCell ⟨g, at_ * 7 + 6, none⟩ (.slice p n c)).drew).setCell ⟨sb, 4, none⟩ (.int .i64 ((nOp es : Int) - 1)))) := by
    have o1 : Off (fun q => q = g) w (((w.setCell ⟨g, at_ * 7 + 5, none⟩ (.string cd)).setCell ⟨g, at_ * 7 + 6, none⟩ (.slice p n c)).drew) := (Off.setCell (P := fun q => q = g) (Off.setCell (P := fun q => q = g) (Off.refl _ _) (p := ⟨g, at_ * 7 + 5, none⟩) rfl _) (p := ⟨g, at_ * 7 + 6, none⟩) rfl _).drew
    have hrow : NRow (((w.setCell ⟨g, at_ * 7 + 5, none⟩ (.string cd)).setCell ⟨g, at_ * 7 + 6, none⟩ (.slice p n c)).drew) B (.slice (some ⟨g, 0, none⟩) m cc) (es.set at_ (x.vd cd p n c bs)) := by
      refine ERow.off (P := fun _ => False) (w := (w.setCell ⟨g, at_ * 7 + 5, none⟩ (.string cd)).setCell ⟨g, at_ * 7 + 6, none⟩ (.slice p n c)) ?_ (Off.refl _ _).drew (fun _ _ => id)
      have hown : w.ownsRow B 30 7 (.slice (some ⟨g, 0, none⟩) m cc) m (es.flatMap encE) := by have := h.row; unfold NRow ERow at this; rw [hm] at this; exact this
      have := own_setCells [.string cd, .slice p n c] (at_ * 7 + 5) w _ hown
      rw [flat_vd cd p n c bs es at_ x hx] at this
      unfold ERow
      rw [List.length_set, hm]
      exact this
    generalize ((w.setCell ⟨g, at_ * 7 + 5, none⟩ (.string cd)).setCell ⟨g, at_ * 7 + 6, none⟩ (.slice p n c)).drew = W1 at o1 hrow
    have b1 := (o1.block sb lsb hgs').trans h.blk
    have o2 : Off (fun q => q = sb) W1 (W1.setCell ⟨sb, 4, none⟩ (.int .i64 ((nOp es : Int) - 1))) := Off.setCell (P := fun q => q = sb) (Off.refl _ _) (p := ⟨sb, 4, none⟩) rfl _
    refine ⟨.slice (some ⟨g, 0, none⟩) m cc, ⟨?_, ?_, ?_, h.dis.set hx rfl, by rw [List.length_set, hm]; exact hm6, ?_⟩, (o1.mono fun q e => Or.inr (Or.inr (by rw [e]; rfl))).trans (o2.mono fun q e => Or.inl e), fun q hq => Or.inl hq⟩
    · have := set_heap b1 4 (.int .i64 ((nOp es : Int) - 1))
      rw [show ((nOp (es.set at_ (x.vd cd p n c bs)) : Nat) : Int) = (nOp es : Int) - 1 by omega]
      exact this
    · exact hrow.off o2 fun q hq e => by
        simp only [Value.ownBlock, Option.some.injEq] at hq
        exact hgs (hq.trans e)
    · rw [List.length_set, show (fun s => fi s (es.set at_ (x.vd cd p n c bs))) = fun s => fi s es from funext fun s => fi_set (y := x.vd cd p n c bs) hx rfl s]
      exact (h.map.off o1 fun e => (h.neL (g := g) rfl).2 e.symm).off o2 fun e => h.neM e.symm
    · intro y hy
      rcases List.mem_or_eq_of_mem_set hy with g1 | rfl
      · exact h.ok y g1
      · exact hmv.1
  obtain ⟨no, hno⟩ : ∃ no : Int, (nOp es : Int) = no := ⟨_, rfl⟩
  have hnr : 1 ≤ no ∧ no ≤ 1000000 := by have := nOp_le es; omega
  have q1 : IntKind.i64.wrap (no - 1) = no - 1 := by rw [IntKind.wrap_i64]; omega
  rw [hno] at HZ k4
  have q2 : (at_ : Int) < m := by omega
  clear h hx ho hm hc hmv hnn hno hnr hg hv
  go_enter Tryz.func82, Tryz.ntmps82
  go_wp2_with fail
  go_region_law (fail)
  all_goals
    go_wp2_with fail
    go_end0
    exact ⟨rfl, HZ.out⟩
end
end Go.Proofs.YtjbkfppibnlmoaaGreatDoor

/-
  Bytes as a string; couriermem's SameTexts and Same.
-/
namespace Go.Proofs.YtjbkfppibnlmoaaGreatDoor
open Go.RowKit

def strOf (xs : List Int) : ByteArray := xs.foldl (fun r n => r.push (UInt8.ofNat n.toNat)) ByteArray.empty
theorem u8s_get {xs : List Int} {j : Nat} {u : Value} (h : (xs.map (Value.int .u8))[j]? = some u) : j < xs.length ∧ u = .int .u8 (xs.getD j 0) := by
  rw [List.getElem?_map] at h
  obtain ⟨x, hx, rfl⟩ := Option.map_eq_some_iff.1 h
  have hj := (List.getElem?_eq_some_iff.1 hx).1
  refine ⟨hj, ?_⟩
  rw [List.getD_eq_getElem?_getD, hx]
  rfl
theorem Byts.load {P : Program} {w : World} {a : Addr} {n : Nat} {bs : List Int} (h : Byts w (some a) n bs) : (loadCells a n).run P w = .ok (bs.map (Value.int .u8)).toArray w := by
  have hm := h.len
  have := run_loadCells_list (P := P) w a (bs.map (Value.int .u8)) (fun j u hu => by
    obtain ⟨hj, rfl⟩ := u8s_get (xs := bs) hu
    obtain ⟨b, o, e, _, hc⟩ := h.cell j (by omega)
    obtain rfl : a = ⟨b, o, none⟩ := by simpa using e
    rw [Addr.add_lit]; exact hc)
  rwa [List.length_map, hm] at this
theorem run_conv_bytes {w : World} {po : Option Addr} {m : Nat} {bs : List Int} (h : Byts w po m bs) (c : Nat) : (convert 28 9 (.slice po m c)).run Tryz.prog w = .ok (.string (strOf bs)) w := by
  rw [run_convert_bytes_string w _ _ _ _ _ _ Tryz.underlying28 Tryz.underlying5 Tryz.underlying9]
  cases po with
  | none =>
    have m0 : m = 0 := by
      rcases Nat.eq_zero_or_pos m with g | g
      · exact g
      · obtain ⟨_, _, e, _⟩ := h.cell 0 g; cases e
    obtain rfl : bs = [] := List.eq_nil_of_length_eq_zero (by rw [h.len]; exact m0)
    simp [Conv.bytesToString, strOf, Sem.run_pure]
  | some a => exact run_bytesToString w _ _ _ _ h.load
set_option maxRecDepth 100000 in
set_option maxHeartbeats 2000000 in
theorem memSame_true {w : World} {ao bo : Option Addr} {n ac bc : Nat} {xs : List Int} (ha : Byts w ao n xs) (hb : Byts w bo n xs) (hn : n ≤ 9223372036854775807) :
    Calls Tryz.prog 64 #[.slice ao n ac, .slice bo n bc] w fun e w' => e = .returned (.bool true) ∧ ∃ m, w' = w.drewN m := by
  have HA : Hid (Byts w ao n xs) := ha
  have HB : Hid (Byts w bo n xs) := hb
  clear ha hb
  go_enter Tryz.func64, Tryz.ntmps64
  go_wp2_with fail
  go_loopw [5] (fun ti wx => ∃ j m : Nat, j ≤ n ∧ ti = .int .i64 j ∧ wx = w.drewN m) (fun ti _ => n - (intOf ti).toNat)
  case atStart => exact ⟨0, 0, Nat.zero_le _, rfl, rfl⟩
  case round =>
    obtain ⟨j, m, hj, rfl, rfl⟩ := hrel
    by_cases hlt : j < n
    · obtain ⟨ab, aof, rfl, hal, hac⟩ := HA.out.cell j hlt
      obtain ⟨bb, bof, rfl, hbl, hbc⟩ := HB.out.cell j hlt
      have hlt1 : (j : Int) < n := by omega
      go_wp2_with fail
      go_quiet (fail)
      go_wp2_with fail
      go_roundw
      case rel => exact ⟨j + 1, _, hlt, by go_num, rfl⟩
      case measure => simp [intOf]; omega
    · have hlt1 : ¬ ((j : Int) < n) := by omega
      go_wp2_with fail
      go_ret
      exact ⟨rfl, _, rfl⟩
theorem trow_at {w : World} {B : Nat} {a : Option Addr} {n c : Nat} {l : List ByteArray} (h : TRow w B (.slice a n c) l) {j : Nat} (hj : j < n) : ∃ g s, a = some ⟨g, 0, none⟩ ∧ l[j]? = some s ∧ w.cell? ⟨g, j, none⟩ = some (.string s) := by
  have hn := ERow.len h
  obtain ⟨s, hs⟩ : ∃ s, l[j]? = some s := ⟨_, List.getElem?_eq_getElem (by omega)⟩
  obtain ⟨g, e, _, hc⟩ := ERow.at_ encS_len h hs
  have := hc 0 (by decide)
  rw [Nat.mul_one, Nat.add_zero] at this
  exact ⟨g, s, e, hs, this⟩
set_option maxRecDepth 100000 in
set_option maxHeartbeats 2000000 in
theorem sameTexts_true {w : World} {B B' : Nat} {a a' : Option Addr} {n c c' : Nat} {l : List ByteArray} (ha : TRow w B (.slice a n c) l) (hb : TRow w B' (.slice a' n c') l) :
    Calls Tryz.prog 31 #[.slice a n c, .slice a' n c'] w fun e w' => e = .returned (.bool true) ∧ ∃ m, w' = w.drewN m := by
  have hx : n ≤ 9223372036854775807 := by
    rcases ERow.form ha with ⟨e1, _⟩ | ⟨g, cap, e1, _, _, h3, h4⟩
    · simp only [Value.slice.injEq] at e1; omega
    · simp only [Value.slice.injEq] at e1; unfold maxLen at h4; omega
  have HA : Hid (TRow w B (.slice a n c) l ∧ TRow w B' (.slice a' n c') l) := ⟨ha, hb⟩
  clear ha hb
  go_enter Tryz.func31, Tryz.ntmps31
  go_wp2_with fail
  go_loopw [5] (fun ti wx => ∃ j m : Nat, j ≤ n ∧ ti = .int .i64 j ∧ wx = w.drewN m) (fun ti _ => n - (intOf ti).toNat)
  case atStart => exact ⟨0, 0, Nat.zero_le _, rfl, rfl⟩
  case round =>
    obtain ⟨j, m, hj, rfl, rfl⟩ := hrel
    by_cases hlt : j < n
    · obtain ⟨g, s, rfl, hs, hc⟩ := trow_at HA.out.1 hlt
      obtain ⟨g', s', rfl, hs', hc'⟩ := trow_at HA.out.2 hlt
      rw [hs] at hs'
      obtain rfl := Option.some.inj hs'
      have hlt1 : (j : Int) < n := by omega
      clear hs hs'
      go_wp2_with fail
      go_quiet (fail)
      go_wp2_with fail
      go_roundw
      case rel => exact ⟨j + 1, _, hlt, by go_num, rfl⟩
      case measure => simp [intOf]; omega
    · have hlt1 : ¬ ((j : Int) < n) := by omega
      go_wp2_with fail
      go_ret
      exact ⟨rfl, _, rfl⟩
end Go.Proofs.YtjbkfppibnlmoaaGreatDoor

/-
  couriermem.Hand; the law's handed, same, sameList, within.
-/
namespace Go.Proofs.YtjbkfppibnlmoaaGreatDoor
open Go.RowKit

section
variable {w : World} {B g n cap : Nat} {xs : List Int}
theorem BRow.slot (h : BRow w B (.slice (some ⟨g, 0, none⟩) n cap) xs) {j : Nat} (hj : j < xs.length) : w.cell? ⟨g, j, none⟩ = some (.int .u8 (xs.getD j 0)) := by
  have hn := ERow.len h
  obtain ⟨b, o, e, _, hc⟩ := h.byts.cell j (by omega)
  simp only [Option.some.injEq, Addr.mk.injEq, and_true] at e
  obtain ⟨rfl, rfl⟩ := e
  rwa [Nat.zero_add] at hc
theorem BRow.thaw (h : BRow w B (.slice (some ⟨g, 0, none⟩) n cap) xs) (j : Nat) : w.frozen? ⟨g, j, none⟩ = false := ERow.thaw h j
theorem BRow.stored (h : BRow w B (.slice (some ⟨g, 0, none⟩) n cap) xs) (j : Nat) (z : Int) (hj : j < xs.length) : BRow (w.setCell ⟨g, j, none⟩ (.int .u8 z)) B (.slice (some ⟨g, 0, none⟩) n cap) (xs.set j z) := by
  have := erow_set encB_len h z hj
  rw [Nat.mul_one] at this
  exact this
theorem BRow.prefix {m : Nat} (h : BRow w B (.slice (some ⟨g, 0, none⟩) n cap) xs) (hm : m ≤ n) : BRow w B (.slice (some ⟨g, 0, none⟩) m cap) (xs.take m) := by
  have hn := ERow.len h
  have h' : w.ownsRow B 5 1 (.slice (some ⟨g, 0, none⟩) n cap) n (xs.flatMap encB) := by
    have := h
    unfold BRow ERow at this
    rw [← hn] at this
    exact this
  have := own_prefix h' hm
  unfold BRow ERow
  rw [List.length_take, Nat.min_eq_left (by omega)]
  have e : (xs.flatMap encB).take (m * 1) = (xs.take m).flatMap encB := by
    have key : ∀ (ys : List Int), ys.flatMap encB = ys.map (Value.int .u8) := fun ys => by
      induction ys with
      | nil => rfl
      | cons y r ih => rw [List.flatMap_cons, ih]; rfl
    rw [key, key, Nat.mul_one, List.map_take]
  rw [← e]
  exact this
end
def marks : List Int := (List.range 90).map fun i : Nat => (100 : Int) + (i : Int)
theorem marks_at (i : Nat) (h : i < 90) : marks.getD i 0 = 100 + (i : Int) := by
  unfold marks
  rw [List.getD_eq_getElem?_getD, List.getElem?_map, List.getElem?_range h]
  rfl
theorem set_next (xs : List Int) (k : Nat) (v : Int) (h : 0 < k) : (xs ++ List.replicate k 0).set xs.length v = (xs ++ [v]) ++ List.replicate (k - 1) 0 := by
  obtain ⟨k, rfl⟩ : ∃ j, k = j + 1 := ⟨k - 1, by omega⟩
  rw [List.set_append_right _ _ (Nat.le_refl _), Nat.sub_self, List.replicate_succ, List.set_cons_zero]
  simp
theorem run_make_bytes {w : World} (n : Nat) (hn : n ≤ 140737488355328) : ∃ w', (Instr.makeSlice 28 (.int .i64 (n : Int)) (.int .i64 (n : Int))).run Tryz.prog w = .ok (.slice (some ⟨w.heap.size, 0, none⟩) n n) w' ∧ BRow w' w.heap.size (.slice (some ⟨w.heap.size, 0, none⟩) n n) (List.replicate n 0) ∧ Below w.heap.size w w' := by
  have h : (Tryz.prog.info? 5).map (fun i => (i.zero, i.size, i.bytes)) = some (some (.int .u8 0), 1, 1) := by kernel_rfl
  obtain ⟨i, hi, e⟩ := Option.map_eq_some_iff.1 h
  simp only [Prod.mk.injEq] at e
  obtain ⟨hz, hs, hby⟩ := e
  obtain ⟨w', h1, h2, h3⟩ := run_make_full (P := Tryz.prog) w w.heap.size 28 5 i _ 1 Tryz.underlying28 hi hz hs .i64 .i64 n (by rw [hby]; omega) (by unfold maxLen; omega) (Nat.le_refl _)
  refine ⟨w', h1, ?_, (Off.of_grown h3).below (Nat.le_refl _) (fun k e => by cases e)⟩
  unfold BRow ERow
  rw [List.length_replicate]
  have e : (madeCells (Value.int .u8 0).cells (n * 1)).toList = (List.replicate n (0 : Int)).flatMap encB := made_flat encB_len (by decide) 0 n
  rw [← e]
  exact h2
theorem take_next {bs : List Int} {i : Nat} (h : i < bs.length) : bs.take i ++ [bs.getD i 0] = bs.take (i + 1) := by
  rw [List.take_succ_eq_append_getElem h, List.getD_eq_getElem?_getD, List.getElem?_eq_getElem h]
  rfl
set_option maxRecDepth 100000 in
set_option maxHeartbeats 2000000 in
theorem Hand_any {po : Option Addr} {m c : Nat} {bs : List Int} (w : World) (hb : Byts w po m bs) (hm : m + 90 ≤ 140737488355328) : Calls Tryz.prog 38 #[.slice po m c] w fun e w' => e = .returned (.slice (some ⟨w.heap.size, 0, none⟩) m (m + 90)) ∧ BRow w' w.heap.size (.slice (some ⟨w.heap.size, 0, none⟩) (m + 90) (m + 90)) (bs ++ marks) ∧ Below w.heap.size w w' := by
  have HB : Hid (Byts w po m bs) := hb
  have HL : Hid (bs.length = m) := hb.len
  clear hb
  obtain ⟨w1, hmk, hR, hB1⟩ := run_make_bytes (w := w) (m + 90) (by omega)
  have hmk2 : (Instr.makeSlice 28 (.int .i64 ((m : Int) + 90)) (.int .i64 ((m : Int) + 90))).run Tryz.prog w = .ok (.slice (some ⟨w.heap.size, 0, none⟩) (m + 90) (m + 90)) w1 := hmk
  have HR : Hid (BRow w1 w.heap.size (.slice (some ⟨w.heap.size, 0, none⟩) (m + 90) (m + 90)) (List.replicate (m + 90) 0) ∧ Below w.heap.size w w1) := ⟨hR, hB1⟩
  clear hmk hR hB1
  go_enter Tryz.func38, Tryz.ntmps38
  go_wp2_with fail
  clear hmk2
  go_loopw [4] (fun ti wx => ∃ i : Nat, i ≤ m ∧ ti = .int .i64 i ∧ Hid (BRow wx w.heap.size (.slice (some ⟨w.heap.size, 0, none⟩) (m + 90) (m + 90)) (bs.take i ++ List.replicate (m + 90 - i) 0) ∧ Below w.heap.size w wx)) (fun ti _ => m - (intOf ti).toNat)
  case atStart => exact ⟨0, Nat.zero_le _, rfl, HR⟩
  case round =>
    obtain ⟨i, hi, rfl, HI⟩ := hrel
    by_cases hlt : i < m
    · have hlt1 : (i : Int) < m := by omega
      obtain ⟨b, o, hpo, _, hcell⟩ := (HB.out.below HI.out.2).cell i (by have := HL.out; omega)
      subst hpo
      have k1 : wr.cell? ⟨w.heap.size, i, none⟩ = some (.int .u8 ((bs.take i ++ List.replicate (m + 90 - i) 0).getD i 0)) := HI.out.1.slot (by simp; have := HL.out; omega)
      have k2 := HI.out.1.thaw i
      go_wp2_with fail
      go_roundw
      case rel =>
        refine ⟨i + 1, hlt, by go_num, ?_, HI.out.2.setCell (Nat.le_refl _) _⟩
        have hs := HI.out.1.stored i (bs.getD i 0) (by simp; have := HL.out; omega)
        have e := set_next (bs.take i) (m + 90 - i) (bs.getD i 0) (by omega)
        rw [show (bs.take i).length = i by rw [List.length_take]; have := HL.out; omega, take_next (by have := HL.out; omega)] at e
        rw [e, show m + 90 - i - 1 = m + 90 - (i + 1) by omega] at hs
        exact hs
      case measure => simp [intOf]; omega
    · have hlt1 : ¬ (i : Int) < m := by omega
      obtain rfl : i = m := by omega
      have HI2 : Hid (BRow wr w.heap.size (.slice (some ⟨w.heap.size, 0, none⟩) (i + 90) (i + 90)) (bs ++ (marks.take 0 ++ List.replicate (90 - 0) 0)) ∧ Below w.heap.size w wr) := by
        refine ⟨?_, HI.out.2⟩
        have h1 := HI.out.1
        rw [List.take_of_length_le (by have := HL.out; omega), show i + 90 - i = 90 by omega] at h1
        exact h1
      clear HI
      go_wp2_with fail
      go_loopw [5] (fun ti wx => ∃ j : Nat, j ≤ 90 ∧ ti = .int .i64 j ∧ Hid (BRow wx w.heap.size (.slice (some ⟨w.heap.size, 0, none⟩) (i + 90) (i + 90)) (bs ++ (marks.take j ++ List.replicate (90 - j) 0)) ∧ Below w.heap.size w wx)) (fun ti _ => 90 - (intOf ti).toNat)
      case atStart => exact ⟨0, by omega, rfl, HI2⟩
      case round =>
        obtain ⟨j, hj, rfl, HJ⟩ := hrel
        by_cases hlt2 : j < 90
        · have hlt3 : (j : Int) < 90 := by omega
          have hll : bs.length = i := HL.out
          have k1 : wr.cell? ⟨w.heap.size, i + j, none⟩ = some (.int .u8 ((bs ++ (marks.take j ++ List.replicate (90 - j) 0)).getD (i + j) 0)) := HJ.out.1.slot (by simp [marks]; omega)
          have k2 := HJ.out.1.thaw (i + j)
          go_wp2_with fail
          go_roundw
          case rel =>
            refine ⟨j + 1, hlt2, by go_num, ?_, HJ.out.2.setCell (Nat.le_refl _) _⟩
            have hs := HJ.out.1.stored (i + j) (100 + (j : Int)) (by simp [marks]; omega)
            have e := set_next (bs ++ marks.take j) (90 - j) (100 + (j : Int)) (by omega)
            have hml : marks.length = 90 := by simp [marks]
            rw [show (bs ++ marks.take j).length = i + j by rw [List.length_append, List.length_take]; omega] at e
            rw [List.append_assoc, List.append_assoc, List.append_assoc, ← marks_at j hlt2, ← List.append_assoc (marks.take j), take_next (by omega)] at e
            rw [← marks_at j hlt2, e, show 90 - j - 1 = 90 - (j + 1) by omega] at hs
            rw [← marks_at j hlt2]
            exact hs
          case measure => simp [intOf]; omega
        · have hlt3 : ¬ (j : Int) < 90 := by omega
          obtain rfl : j = 90 := by omega
          go_wp2_with fail
          go_ret
          refine ⟨rfl, ?_, HJ.out.2⟩
          have h1 := HJ.out.1
          have hml : marks.length = 90 := by simp [marks]
          rw [List.take_of_length_le (by omega), Nat.sub_self, List.replicate_zero, List.append_nil] at h1
          exact h1
end Go.Proofs.YtjbkfppibnlmoaaGreatDoor
