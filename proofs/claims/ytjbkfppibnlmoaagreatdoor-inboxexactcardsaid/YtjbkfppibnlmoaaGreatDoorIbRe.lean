import Derived.Test.YtjbkfppibnlmoaaGreatDoorIbOpen
import Derived.Test.YtjbkfppibnlmoaaGreatDoorIbDcd
import Derived.Test.YtjbkfppibnlmoaaGreatDoorLgMap
import Derived.Test.YtjbkfppibnlmoaaGreatDoorLgLoad
import Derived.Test.YtjbkfppibnlmoaaGreatDoorIbOff
import Derived.Test.YtjbkfppibnlmoaaGreatDoorIbRead
import Derived.Test.YtjbkfppibnlmoaaGreatDoorIbOpn
import Derived.Deep.RegionHeld3
/-
  Two boxes with the same entries, lying elsewhere, answer alike (of no program).
-/
namespace Go.Proofs.YtjbkfppibnlmoaaGreatDoor
open Go.RowKit

/-- An entry without the places of its lists. -/
def Ent.nf (e : Ent) : Ent := e.wi none 0 none 0 none 0
theorem Tw.nf {l m : Ent} (h : Tw l m) : l.nf = m.nf := by
  obtain ⟨a, c, a', c', a'', c'', rfl⟩ := h
  rfl
theorem Tws.nf {ls ms : List Ent} (h : Tws ls ms) : ls.map Ent.nf = ms.map Ent.nf := by
  refine List.ext_getElem? fun i => ?_
  rw [List.getElem?_map, List.getElem?_map]
  rcases Nat.lt_or_ge i ls.length with hi | hi
  · have h1 := List.getElem?_eq_getElem hi
    have h2 := List.getElem?_eq_getElem (show i < ms.length by rw [← h.1]; exact hi)
    rw [h1, h2]
    exact congrArg some (h.2 i _ _ h1 h2).nf
  · rw [List.getElem?_eq_none hi, List.getElem?_eq_none (by rw [← h.1]; exact hi)]
theorem fi_nf (s : ByteArray) (es : List Ent) : fi s (es.map Ent.nf) = fi s es := by
  unfold fi
  rw [List.findIdx?_map]
  rfl
theorem nOp_nf (es : List Ent) : nOp (es.map Ent.nf) = nOp es := by unfold nOp; rw [List.countP_map]; rfl
theorem nDc_nf (es : List Ent) : nDc (es.map Ent.nf) = nDc es := by unfold nDc; rw [List.countP_map]; rfl
theorem lastT_nf (es : List Ent) : lastT (es.map Ent.nf) = lastT es := by
  unfold lastT
  rw [List.getLast?_map]
  cases es.getLast? <;> rfl
theorem getD_nf (es : List Ent) (i : Nat) : (es.map Ent.nf).getD i zE = (es.getD i zE).nf := by
  rw [List.getD_eq_getElem?_getD, List.getD_eq_getElem?_getD, List.getElem?_map]
  cases es[i]? <;> rfl
theorem accC_nf (R : Int) (es : List Ent) (e : Ent) : accC R (es.map Ent.nf) e.nf = accC R es e := by
  unfold accC refS
  rw [lastT_nf, nOp_nf, show fi e.nf.ct (es.map Ent.nf) = fi e.ct es from fi_nf _ _]
  rfl
theorem decC_nf (es : List Ent) (s cd : ByteArray) (n : Nat) : decC (es.map Ent.nf) s cd n = decC es s cd n := by
  unfold decC
  rw [fi_nf]
  cases fi s es with
  | none => rfl
  | some i => simp only [getD_nf]; rfl
theorem Tws.acc_eq {R : Int} {es es' : List Ent} {e e' : Ent} (h : Tws es es') (he : Tw e e') : accC R es e = accC R es' e' := by
  rw [← accC_nf, ← accC_nf R es', h.nf, he.nf]
theorem Tws.dec_eq {es es' : List Ent} {s cd : ByteArray} {n : Nat} (h : Tws es es') : decC es s cd n = decC es' s cd n := by
  rw [← decC_nf, ← decC_nf es', h.nf]
theorem Tws.fi_eq {es es' : List Ent} {s : ByteArray} (h : Tws es es') : fi s es = fi s es' := by rw [← fi_nf, ← fi_nf s es', h.nf]
theorem Tws.op_eq {es es' : List Ent} (h : Tws es es') : nOp es = nOp es' := by rw [← nOp_nf, ← nOp_nf es', h.nf]
theorem Tws.dc_eq {es es' : List Ent} (h : Tws es es') : nDc es = nDc es' := by rw [← nDc_nf, ← nDc_nf es', h.nf]
theorem Tws.last_eq {es es' : List Ent} (h : Tws es es') : lastT es = lastT es' := by rw [← lastT_nf, ← lastT_nf es', h.nf]
theorem fdS_nf (es : List Ent) : fdS (es.map Ent.nf) = fdS es := by
  unfold fdS
  rw [List.findIdx?_map]
  rfl
theorem Tws.fd_eq {es es' : List Ent} (h : Tws es es') : fdS es = fdS es' := by rw [← fdS_nf, ← fdS_nf es', h.nf]
theorem Tws.gone {K : Int} {es es' : List Ent} (h : Tws es es') : goneS K es = goneS K es' := by
  unfold goneS manyB
  rw [h.dc_eq, h.fd_eq]
  cases fdS es' with
  | none => rfl
  | some i =>
    have e : (es.getD i zE).nf = (es'.getD i zE).nf := by rw [← getD_nf, ← getD_nf, h.nf]
    have e2 : (es.getD i zE).ct = (es'.getD i zE).ct := by
      have e3 : (es.getD i zE).nf.ct = (es'.getD i zE).nf.ct := by rw [e]
      exact e3
    simp only [e2]
theorem Tws.erase {es es' : List Ent} (h : Tws es es') (i : Nat) : Tws (es.eraseIdx i) (es'.eraseIdx i) := by
  refine ⟨by rw [List.length_eraseIdx, List.length_eraseIdx, h.1], fun j l m hl hm => ?_⟩
  rw [List.getElem?_eraseIdx] at hl hm
  split at hl
  · rename_i hj; rw [if_pos hj] at hm; exact h.2 _ _ _ hl hm
  · rename_i hj; rw [if_neg hj] at hm; exact h.2 _ _ _ hl hm
theorem Tws.shed {K : Int} {es es' : List Ent} (h : Tws es es') : Tws (shedS K es) (shedS K es') := by
  unfold shedS manyB
  rw [h.dc_eq, h.fd_eq]
  split
  · cases fdS es' with
    | none => exact h
    | some i => exact h.erase i
  · exact h
theorem Tws.snoc {es es' : List Ent} {e e' : Ent} (h : Tws es es') (he : Tw e e') : Tws (es ++ [e]) (es' ++ [e']) := by
  refine ⟨by rw [List.length_append, List.length_append, h.1]; rfl, fun j l m hl hm => ?_⟩
  rcases Nat.lt_or_ge j es.length with hj | hj
  · rw [List.getElem?_append_left hj] at hl
    rw [List.getElem?_append_left (by rw [← h.1]; exact hj)] at hm
    exact h.2 _ _ _ hl hm
  · rw [List.getElem?_append_right hj] at hl
    rw [List.getElem?_append_right (by rw [← h.1]; exact hj), ← h.1] at hm
    cases hk : j - es.length with
    | zero =>
      rw [hk] at hl hm
      cases hl; cases hm; exact he
    | succ k => rw [hk] at hl; cases hl
theorem Tws.set {es es' : List Ent} {e e' : Ent} (h : Tws es es') (he : Tw e e') (i : Nat) : Tws (es.set i e) (es'.set i e') := by
  refine ⟨by rw [List.length_set, List.length_set, h.1], fun j l m hl hm => ?_⟩
  rw [List.getElem?_set] at hl hm
  rw [← h.1] at hm
  split at hl
  · rename_i hj
    rw [if_pos hj] at hm
    split at hl
    · rename_i h2
      rw [if_pos h2] at hm
      cases hl; cases hm; exact he
    · cases hl
  · rename_i hj; rw [if_neg hj] at hm; exact h.2 _ _ _ hl hm
end Go.Proofs.YtjbkfppibnlmoaaGreatDoor

/-
  The document's Load: one more entry.
-/
namespace Go.Proofs.YtjbkfppibnlmoaaGreatDoor.Lg
open Go.RowKit

/-- A list of entries in memory, its own or come in. -/
def LsAt (w : World) (ao : Option Addr) (n : Nat) (es : List Ent) : Prop := es.length = n ∧ ∀ (k : Nat) (y : Ent), es[k]? = some y → ∃ b off, ao = some ⟨b, off, none⟩ ∧ b < w.heap.size ∧ (∀ q, q < 7 → w.cell? ⟨b, off + k * 7 + q, none⟩ = (encE y)[q]?) ∧ Lies w y
theorem LsAt.below {w w' : World} {ao : Option Addr} {n : Nat} {es : List Ent} (h : LsAt w ao n es) (hb : Below w.heap.size w w') : LsAt w' ao n es := ⟨h.1, fun k y hy => by
  obtain ⟨b, off, h1, h2, h3, h4⟩ := h.2 k y hy
  exact ⟨b, off, h1, Nat.lt_of_lt_of_le h2 hb.size, fun q hq => by rw [hb.cell (p := ⟨b, off + k * 7 + q, none⟩) h2]; exact h3 q hq, h4.below hb⟩⟩
/-- In the midst of the document's Load: the box at Z, the result's at S. -/
structure LdI (w0 : World) (S Z : Nat) (K R : Int) (A : List Ent) (v : Value) (wx : World) : Prop where
  blk : wx.heap[Z]? = some (.cells #[.bool true, .int .i64 K, .int .i64 R, v] 43 (0, 0))
  res : wx.heap[S]? = some (.cells #[.bool false, .int .i64 0, .int .i64 0, .slice none 0 0] 43 (0, 0))
  ex : ∃ ls, NRow wx w0.heap.size v ls ∧ (∀ l ∈ ls, Own wx w0.heap.size l) ∧ Tws ls A
  bel : Below w0.heap.size w0 wx
  lS : w0.heap.size ≤ S
  lZ : S < Z
section
variable {w0 w w' : World} {S Z : Nat} {K R : Int} {A : List Ent} {v : Value}
theorem LdI.below (h : LdI w0 S Z K R A v w) (hb : Below w.heap.size w w') : LdI w0 S Z K R A v w' := by
  obtain ⟨ls, h1, h2, h3⟩ := h.ex
  exact ⟨(hb.block Z (blk_lt h.blk)).trans h.blk, (hb.block S (blk_lt h.res)).trans h.res, ⟨ls, ERow.below h1 hb, fun l hl => (h2 l hl).below hb, h3⟩, below_then h.bel hb, h.lS, h.lZ⟩
theorem LdI.len (h : LdI w0 S Z K R A v w) : ∃ a c, v = .slice a A.length c := by
  obtain ⟨ls, h1, _, h3⟩ := h.ex
  obtain ⟨a, c, e, _⟩ := ERow.isSlice h1
  exact ⟨a, c, by rw [e, h3.1]⟩
theorem LdI.step {z : World} (h : LdI w0 S Z K R A v w) {e : Ent} (ho : Own z w.heap.size e) (hb : Below w.heap.size w z) (hl : A.length + 1 ≤ 1300000000000) :
    ∃ a2 n2 c2 W2, (Builtin.append_ #[22, 22] 22 #[v, .slice (some ⟨z.heap.size, 0, none⟩) 1 1]).run Tryz.prog (z.alloc (.cells #[.string e.ct, .slice e.tp e.tn e.tc, .int .i64 e.nu, .int .i64 e.tk, .slice e.cp e.cn e.cc, .string e.cd, .slice e.ap e.an e.ac] 30)) = .ok (.slice a2 n2 c2) W2 ∧ z.cell? ⟨Z, 3, none⟩ = some v ∧ (z.alloc (.cells #[.string e.ct, .slice e.tp e.tn e.tc, .int .i64 e.nu, .int .i64 e.tk, .slice e.cp e.cn e.cc, .string e.cd, .slice e.ap e.an e.ac] 30)).cell? ⟨Z, 3, none⟩ = some v ∧ W2.cell? ⟨Z, 3, none⟩ = some v ∧ W2.frozen? ⟨Z, 3, none⟩ = false ∧ Hid (LdI w0 S Z K R (A ++ [e]) (.slice a2 n2 c2) (W2.setCell ⟨Z, 3, none⟩ (.slice a2 n2 c2))) := by
  have hz := h.below hb
  obtain ⟨ls, g1, g2, g3⟩ := hz.ex
  obtain ⟨a2, c2, W2, hr, r2, o2, s2⟩ := run_epushB (P := Tryz.prog) (t := 22) Tryz.underlying22 celE encE_len encE_one (w := z) g1 e #[.string e.ct, .slice e.tp e.tn e.tc, .int .i64 e.nu, .int .i64 e.tk, .slice e.cp e.cn e.cc, .string e.cd, .slice e.ap e.an e.ac] rfl (by rw [g3.1]; exact hl) (by decide) hz.bel.size
  have nv : ∀ q, (∃ cs, z.heap[q]? = some (.cells cs 43 (0, 0))) → v.ownBlock ≠ some q := fun q ⟨cs, hc⟩ hq => by
    obtain ⟨cs', hc'⟩ := row_type g1 hq
    rw [hc] at hc'
    simp at hc'
  have byt : ∀ q cs, z.heap[q]? = some (.cells cs 5 (0, 0)) → ¬ v.ownBlock = some q := fun q cs hc hq => by
    obtain ⟨cs', hc'⟩ := row_type g1 hq
    rw [hc] at hc'
    simp at hc'
  have kZ : W2.heap[Z]? = some (.cells #[.bool true, .int .i64 K, .int .i64 R, v] 43 (0, 0)) := (o2.block Z (blk_lt hz.blk) (nv Z ⟨_, hz.blk⟩)).trans hz.blk
  have kS : W2.heap[S]? = some (.cells #[.bool false, .int .i64 0, .int .i64 0, .slice none 0 0] 43 (0, 0)) := (o2.block S (blk_lt hz.res) (nv S ⟨_, hz.res⟩)).trans hz.res
  have o3 : Off (fun q => q = Z) W2 (W2.setCell ⟨Z, 3, none⟩ (.slice a2 (ls.length + 1) c2)) := Off.setCell (P := fun q => q = Z) (Off.refl _ _) (p := ⟨Z, 3, none⟩) rfl _
  have rowZ : ∀ {g : Nat}, (Value.slice a2 (ls.length + 1) c2).ownBlock = some g → ¬ g = Z := fun {g} hg e1 => by
    obtain ⟨cs', hc⟩ := row_type r2 hg
    rw [e1, kZ] at hc
    simp at hc
  have bytZ : ∀ q cs, W2.heap[q]? = some (.cells cs 5 (0, 0)) → ¬ q = Z := fun q cs hc e1 => by
    rw [e1, kZ] at hc
    simp at hc
  have key : ∀ (C : Nat) (x : Ent), Own z C x → Own (W2.setCell ⟨Z, 3, none⟩ (.slice a2 (ls.length + 1) c2)) C x := fun C x hx => (hx.byType o2 byt).byType o3 bytZ
  refine ⟨a2, _, c2, W2, hr, hcell hz.blk 3, hcell (hz.below ((Below.refl _ _).alloc (Nat.le_refl _) _)).blk 3, hcell kZ 3, hfroz kZ 3, ⟨?_, ?_, ⟨ls ++ [e], ERow.off r2 o3 fun g hg => rowZ hg, fun l hl' => ?_, g3.snoc (Tw.refl e)⟩, ?_, h.lS, h.lZ⟩⟩
  · have := set_heap kZ 3 (.slice a2 (ls.length + 1) c2)
    rw [this]
    simp
  · rw [o3.block S (blk_lt kS) (by have := h.lZ; omega)]; exact kS
  · rcases List.mem_append.1 hl' with g | g
    · exact key _ l (g2 l g)
    · obtain rfl : l = e := by simpa using g
      exact key _ l (ho.base h.bel.size)
  · refine hz.bel.trans (Off.below (P := fun q => v.ownBlock = some q ∨ q = Z) ((o2.mono fun q hq => Or.inl hq).trans (o3.mono fun q hq => Or.inr hq)) hz.bel.size fun q hq => ?_)
    rcases hq with hq | rfl
    · exact (ERow.lt g1 hq).1
    · have := h.lS; have := h.lZ; omega
end
end Go.Proofs.YtjbkfppibnlmoaaGreatDoor.Lg

/-
  A box that nobody made: every call.
-/
namespace Go.Proofs.YtjbkfppibnlmoaaGreatDoor
open Go.RowKit

section
variable {w : World} {x : Value}
set_option maxRecDepth 100000 in
set_option maxHeartbeats 2000000 in
theorem find_un (h : Un w x) (s : ByteArray) : Calls Tryz.prog 58 #[x, .string s] w (EnQ w zE false) := by
  have bv : Below w.heap.size w (w.alloc (.cells #[.string ⟨#[]⟩, .slice none 0 0, .int .i64 0, .int .i64 0, .slice none 0 0, .string ⟨#[]⟩, .slice none 0 0] 30)) := (Below.refl _ _).alloc (Nat.le_refl _) _
  have bx := Box.new w #[.string ⟨#[]⟩, .slice none 0 0, .int .i64 0, .int .i64 0, .slice none 0 0, .string ⟨#[]⟩, .slice none 0 0] 30
  obtain ⟨V, hV⟩ : ∃ V, w.alloc (.cells #[.string ⟨#[]⟩, .slice none 0 0, .int .i64 0, .int .i64 0, .slice none 0 0, .string ⟨#[]⟩, .slice none 0 0] 30) = V := ⟨_, rfl⟩
  rw [hV] at bv bx
  have hmk := made_no (h.below bv)
  have cx := bx.cell
  have fx := bx.free
  have HB : Hid (Below w.heap.size w V) := bv
  clear bv h bx
  go_enter Tryz.func58, Tryz.ntmps58
  go_wp2_with (go_at_call 60; refine hmk.mono ?_; rintro _ w9 ⟨rfl, h9⟩; subst w9)
  clear hV
  refine bodyPost_ret ?_ rfl ⟨none, 0, none, 0, none, 0, rfl, zE_own _ _, ?_⟩
  · simp [results, Tryz.results58, go_sem, cx, zE]
  · repeat' (first | (with_reducible exact HB.out) | (with_reducible refine Below.setCell ?_ (by exact Nat.le_refl _) _) | (with_reducible refine Below.alloc ?_ (by simp; omega) _))
set_option maxRecDepth 100000 in
set_option maxHeartbeats 2000000 in
theorem last_un (h : Un w x) : Calls Tryz.prog 26 #[x] w (EnQ w zE false) := by
  have bv : Below w.heap.size w (w.alloc (.cells #[.string ⟨#[]⟩, .slice none 0 0, .int .i64 0, .int .i64 0, .slice none 0 0, .string ⟨#[]⟩, .slice none 0 0] 30)) := (Below.refl _ _).alloc (Nat.le_refl _) _
  have bx := Box.new w #[.string ⟨#[]⟩, .slice none 0 0, .int .i64 0, .int .i64 0, .slice none 0 0, .string ⟨#[]⟩, .slice none 0 0] 30
  obtain ⟨V, hV⟩ : ∃ V, w.alloc (.cells #[.string ⟨#[]⟩, .slice none 0 0, .int .i64 0, .int .i64 0, .slice none 0 0, .string ⟨#[]⟩, .slice none 0 0] 30) = V := ⟨_, rfl⟩
  rw [hV] at bv bx
  have hmk := made_no (h.below bv)
  have cx := bx.cell
  have fx := bx.free
  have HB : Hid (Below w.heap.size w V) := bv
  clear bv h bx
  go_enter Tryz.func26, Tryz.ntmps26
  go_wp2_with (go_at_call 60; refine hmk.mono ?_; rintro _ w9 ⟨rfl, h9⟩; subst w9)
  clear hV
  refine bodyPost_ret ?_ rfl ⟨none, 0, none, 0, none, 0, rfl, zE_own _ _, ?_⟩
  · simp [results, Tryz.results26, go_sem, cx, zE]
  · repeat' (first | (with_reducible exact HB.out) | (with_reducible refine Below.setCell ?_ (by exact Nat.le_refl _) _) | (with_reducible refine Below.alloc ?_ (by simp; omega) _))
set_option maxRecDepth 100000 in
set_option maxHeartbeats 2000000 in
theorem open_un (h : Un w x) : Calls Tryz.prog 29 #[x] w fun r w' => r = .returned (.slice none 0 0) ∧ w' = w := by
  have hmk := made_no h
  clear h
  go_enter Tryz.func29, Tryz.ntmps29
  go_wp2_with (go_at_call 60; refine hmk.mono ?_; rintro _ w9 ⟨rfl, h9⟩; subst w9)
  go_ret
  exact ⟨rfl, rfl⟩
set_option maxRecDepth 100000 in
set_option maxHeartbeats 2000000 in
theorem list_un (h : Un w x) : Calls Tryz.prog 32 #[x] w fun r w' => r = .returned (.slice none 0 0) ∧ w' = w := by
  have hmk := made_no h
  clear h
  go_enter Tryz.func32, Tryz.ntmps32
  go_wp2_with (go_at_call 60; refine hmk.mono ?_; rintro _ w9 ⟨rfl, h9⟩; subst w9)
  go_ret
  exact ⟨rfl, rfl⟩
set_option maxRecDepth 100000 in
set_option maxHeartbeats 2000000 in
theorem count_un (h : Un w x) : Calls Tryz.prog 35 #[x] w fun r w' => r = .returned (.tuple #[.int .i64 0, .int .i64 0]) ∧ w' = w := by
  have hmk := made_no h
  clear h
  go_enter Tryz.func35, Tryz.ntmps35
  go_wp2_with (go_at_call 60; refine hmk.mono ?_; rintro _ w9 ⟨rfl, h9⟩; subst w9)
  go_ret2
  exact ⟨rfl, rfl⟩
set_option maxRecDepth 100000 in
set_option maxHeartbeats 2000000 in
theorem decide_un (h : Un w x) (s cd : ByteArray) (p : Option Addr) (n c : Nat) : Calls Tryz.prog 56 #[x, .string s, .string cd, .slice p n c] w fun r w' => r = .returned (.tuple #[.slice none 0 0, .iface 94 (.pointer (some ⟨w.heap.size, 0, none⟩))]) ∧ Hid (IFault w' w.heap.size 0 3 ∧ Below w.heap.size w w') := by
  have hmk := made_no h
  have hft := fault_any 0 3 w
  clear h
  go_enter Tryz.func56, Tryz.ntmps56
  go_wp2_with (go_at_call 60; refine hmk.mono ?_; rintro _ w9 ⟨rfl, h9⟩; subst w9)
  refine hft.mono ?_
  rintro _ w2 ⟨rfl, hf2, hb2⟩
  have HF : Hid (IFault w2 w.heap.size 0 3 ∧ Below w.heap.size w w2) := ⟨hf2, hb2⟩
  clear hft hb2 hf2 hmk
  go_wp2_with fail
  go_ret2
  exact ⟨rfl, HF.out⟩
set_option maxRecDepth 100000 in
set_option maxHeartbeats 2000000 in
theorem accept_un (h : Un w x) (e : Ent) : Calls Tryz.prog 54 #[x, .agg #[.string e.ct, .slice e.tp e.tn e.tc, .int .i64 e.nu, .int .i64 e.tk, .slice e.cp e.cn e.cc, .string e.cd, .slice e.ap e.an e.ac]] w fun r w' => ∃ b, r = .returned (.iface 94 (.pointer (some ⟨b, 0, none⟩))) ∧ Hid (IFault w' b 0 3 ∧ w.heap.size ≤ b ∧ Below w.heap.size w w') := by
  have bv : Below w.heap.size w (w.alloc (.cells #[.string e.ct, .slice e.tp e.tn e.tc, .int .i64 e.nu, .int .i64 e.tk, .slice e.cp e.cn e.cc, .string e.cd, .slice e.ap e.an e.ac] 30)) := (Below.refl _ _).alloc (Nat.le_refl _) _
  obtain ⟨V, hV⟩ : ∃ V, w.alloc (.cells #[.string e.ct, .slice e.tp e.tn e.tc, .int .i64 e.nu, .int .i64 e.tk, .slice e.cp e.cn e.cc, .string e.cd, .slice e.ap e.an e.ac] 30) = V := ⟨_, rfl⟩
  rw [hV] at bv
  have hmk := made_no (h.below bv)
  have hft := fault_any 0 3 V
  have hsz : w.heap.size ≤ V.heap.size := bv.size
  clear h
  go_enter Tryz.func54, Tryz.ntmps54
  go_wp2_with (go_at_call 60; refine hmk.mono ?_; rintro _ w9 ⟨rfl, h9⟩; subst w9)
  refine hft.mono ?_
  rintro _ w2 ⟨rfl, hf2, hb2⟩
  have HF : Hid (IFault w2 V.heap.size 0 3 ∧ w.heap.size ≤ V.heap.size ∧ Below w.heap.size w w2) := ⟨hf2, hsz, bv.trans (hb2.mono hsz)⟩
  clear hft hb2 hf2 hmk hsz bv
  go_wp2_with fail
  go_ret
  exact ⟨_, rfl, HF.out⟩
end
end Go.Proofs.YtjbkfppibnlmoaaGreatDoor

/-
  The document's box with nothing in it: Open, open, Count, Last, Find; New.
-/
namespace Go.Proofs.YtjbkfppibnlmoaaGreatDoor
open Go.RowKit

section
variable {w : World} {b : Nat}
set_option maxRecDepth 100000 in
set_option maxHeartbeats 2000000 in
theorem ropen0 (cL : w.cell? ⟨b, 4, none⟩ = some (.slice none 0 0)) : Calls Tryz.prog 20 #[.pointer (some ⟨b, 1, none⟩)] w fun r w' => r = .returned (.slice none 0 0) ∧ w' = w := by
  go_enter Tryz.func20, Tryz.ntmps20
  go_wp2_with fail
  refine wp_loop_rounds 1 ?_
  rw [rounds_succ]
  go_wp2_with fail
  go_ret
  exact ⟨rfl, rfl⟩
set_option maxRecDepth 100000 in
set_option maxHeartbeats 2000000 in
theorem rop0 (cL : w.cell? ⟨b, 4, none⟩ = some (.slice none 0 0)) : Calls Tryz.prog 49 #[.pointer (some ⟨b, 1, none⟩)] w fun r w' => r = .returned (.int .i64 0) ∧ w' = w := by
  go_enter Tryz.func49, Tryz.ntmps49
  go_wp2_with fail
  refine wp_loop_rounds 1 ?_
  rw [rounds_succ]
  go_wp2_with fail
  go_ret
  exact ⟨rfl, rfl⟩
set_option maxRecDepth 100000 in
set_option maxHeartbeats 2000000 in
theorem rcount0 (cL : w.cell? ⟨b, 4, none⟩ = some (.slice none 0 0)) : Calls Tryz.prog 36 #[.pointer (some ⟨b, 1, none⟩)] w fun r w' => r = .returned (.tuple #[.int .i64 0, .int .i64 0]) ∧ Hid (Below w.heap.size w w') := by
  have HO : Hid (∀ z, Below w.heap.size w z → Calls Tryz.prog 49 #[.pointer (some ⟨b, 1, none⟩)] z fun r w' => r = .returned (.int .i64 0) ∧ Hid (Below w.heap.size w w') ∧ w'.cell? ⟨b, 4, none⟩ = some (.slice none 0 0)) := fun z hz => by
    have cz : z.cell? ⟨b, 4, none⟩ = some (.slice none 0 0) := by rw [hz.cell (p := ⟨b, 4, none⟩) (cell_lt cL)]; exact cL
    exact (rop0 cz).mono fun e w' ⟨e1, e2⟩ => ⟨e1, by subst e2; exact hz, by subst e2; exact cz⟩
  have HI : Hid (Below w.heap.size w w) := Below.refl _ _
  go_enter Tryz.func36, Tryz.ntmps36
  go_wp2_with fail
  go_region_held3 (fun z => z.cell? ⟨b, 4, none⟩ = some (.slice none 0 0)) (simp [*]) (first | (go_at_call 49; refine (HO.out _ ?_).mono ?_; (first | (with_reducible exact HI.out) | (with_reducible exact HI.out.drew) | exact below_drewN HI.out _); clear HO; rintro _ w1 ⟨rfl, H1, s1⟩))
  go_wp2_with fail
  refine bodyPost_ret (v := .tuple #[.int .i64 0, .int .i64 0]) ?_ rfl ⟨rfl, ?_⟩
  · simp [results, Tryz.results36, go_sem]
  · first | exact H1 | exact H1.out.drew
set_option maxRecDepth 100000 in
set_option maxHeartbeats 2000000 in
theorem rlast0 (cL : w.cell? ⟨b, 4, none⟩ = some (.slice none 0 0)) : Calls Tryz.prog 22 #[.pointer (some ⟨b, 1, none⟩)] w fun r w' => r = .returned (.tuple #[.agg #[.string ⟨#[]⟩, .slice none 0 0, .int .i64 0, .int .i64 0, .slice none 0 0, .string ⟨#[]⟩, .slice none 0 0], .bool false]) ∧ Below w.heap.size w w' := by
  have bv : Below w.heap.size w (w.alloc (.cells #[.string ⟨#[]⟩, .slice none 0 0, .int .i64 0, .int .i64 0, .slice none 0 0, .string ⟨#[]⟩, .slice none 0 0] 30)) := (Below.refl _ _).alloc (Nat.le_refl _) _
  have bx := Box.new w #[.string ⟨#[]⟩, .slice none 0 0, .int .i64 0, .int .i64 0, .slice none 0 0, .string ⟨#[]⟩, .slice none 0 0] 30
  obtain ⟨V, hV⟩ : ∃ V, w.alloc (.cells #[.string ⟨#[]⟩, .slice none 0 0, .int .i64 0, .int .i64 0, .slice none 0 0, .string ⟨#[]⟩, .slice none 0 0] 30) = V := ⟨_, rfl⟩
  rw [hV] at bv bx
  have cV : V.cell? ⟨b, 4, none⟩ = some (.slice none 0 0) := by rw [bv.cell (p := ⟨b, 4, none⟩) (cell_lt cL)]; exact cL
  have cx := bx.cell
  have fx := bx.free
  have HB : Hid (Below w.heap.size w V) := bv
  clear bv bx cL
  go_enter Tryz.func22, Tryz.ntmps22
  go_wp2_with fail
  clear hV
  refine bodyPost_ret (v := .tuple #[.agg #[.string ⟨#[]⟩, .slice none 0 0, .int .i64 0, .int .i64 0, .slice none 0 0, .string ⟨#[]⟩, .slice none 0 0], .bool false]) ?_ rfl ⟨rfl, ?_⟩
  · simp [results, Tryz.results22, go_sem, cx]
  · repeat' (first | (with_reducible exact HB.out) | (with_reducible refine Below.setCell ?_ (by exact Nat.le_refl _) _) | (with_reducible refine Below.alloc ?_ (by simp; omega) _))
set_option maxRecDepth 100000 in
set_option maxHeartbeats 2000000 in
theorem rnew_ok (K R : Int) (h : 1 ≤ K ∧ K ≤ 64 ∧ 1 ≤ R ∧ R ≤ 32) : Calls Tryz.prog 11 #[.int .i64 K, .int .i64 R] w fun r w' => r = .returned (.tuple #[.agg #[.bool true, .int .i64 K, .int .i64 R, .slice none 0 0], .int .i64 0]) ∧ Below w.heap.size w w' := by
  obtain ⟨h1, h2, h3, h4⟩ := h
  have a1 : ¬ K < 1 := by omega
  have a2 : ¬ 64 < K := by omega
  have a3 : ¬ R < 1 := by omega
  have a4 : ¬ 32 < R := by omega
  have bv : Below w.heap.size w (w.alloc (.cells #[.bool false, .int .i64 0, .int .i64 0, .slice none 0 0] 43)) := (Below.refl _ _).alloc (Nat.le_refl _) _
  have bx := Box.new w #[.bool false, .int .i64 0, .int .i64 0, .slice none 0 0] 43
  obtain ⟨V, hV⟩ : ∃ V, w.alloc (.cells #[.bool false, .int .i64 0, .int .i64 0, .slice none 0 0] 43) = V := ⟨_, rfl⟩
  rw [hV] at bv bx
  have cx := bx.cell
  have fx := bx.free
  have HB : Hid (Below w.heap.size w V) := bv
  clear bv bx
  go_enter Tryz.func11, Tryz.ntmps11
  go_wp2_with fail
  clear hV
  refine bodyPost_ret (v := .tuple #[.agg #[.bool true, .int .i64 K, .int .i64 R, .slice none 0 0], .int .i64 0]) ?_ rfl ⟨rfl, ?_⟩
  · simp [results, Tryz.results11, go_sem, cx]
  · repeat' (first | (with_reducible exact HB.out) | (with_reducible refine Below.setCell ?_ (by exact Nat.le_refl _) _) | (with_reducible refine Below.alloc ?_ (by simp; omega) _))
set_option maxRecDepth 100000 in
set_option maxHeartbeats 2000000 in
theorem rnew_no (K R : Int) (h : ¬ (1 ≤ K ∧ K ≤ 64 ∧ 1 ≤ R ∧ R ≤ 32)) : Calls Tryz.prog 11 #[.int .i64 K, .int .i64 R] w fun r w' => r = .returned (.tuple #[.agg #[.bool false, .int .i64 0, .int .i64 0, .slice none 0 0], .int .i64 1]) ∧ Below w.heap.size w w' := by
  have bv : Below w.heap.size w (w.alloc (.cells #[.bool false, .int .i64 0, .int .i64 0, .slice none 0 0] 43)) := (Below.refl _ _).alloc (Nat.le_refl _) _
  have bx := Box.new w #[.bool false, .int .i64 0, .int .i64 0, .slice none 0 0] 43
  obtain ⟨V, hV⟩ : ∃ V, w.alloc (.cells #[.bool false, .int .i64 0, .int .i64 0, .slice none 0 0] 43) = V := ⟨_, rfl⟩
  rw [hV] at bv bx
  have cx := bx.cell
  have fx := bx.free
  have HB : Hid (Below w.heap.size w V) := bv
  clear bv bx
  rcases (by omega : K < 1 ∨ (¬ K < 1 ∧ 64 < K) ∨ (¬ K < 1 ∧ ¬ 64 < K ∧ R < 1) ∨ (¬ K < 1 ∧ ¬ 64 < K ∧ ¬ R < 1 ∧ 32 < R)) with a1 | ⟨a1, a2⟩ | ⟨a1, a2, a3⟩ | ⟨a1, a2, a3, a4⟩ <;> clear h
  all_goals
    go_enter Tryz.func11, Tryz.ntmps11
    go_wp2_with fail
    clear hV
    refine bodyPost_ret (v := .tuple #[.agg #[.bool false, .int .i64 0, .int .i64 0, .slice none 0 0], .int .i64 1]) ?_ rfl ⟨rfl, ?_⟩
    · simp [results, Tryz.results11, go_sem, cx]
    · repeat' (first | (with_reducible exact HB.out) | (with_reducible refine Below.setCell ?_ (by exact Nat.le_refl _) _) | (with_reducible refine Below.alloc ?_ (by simp; omega) _))
end
end Go.Proofs.YtjbkfppibnlmoaaGreatDoor
