/-
  Two boxes with the same entries, lying elsewhere, answer alike (of no program).
-/
import Derived.Test.YtplhdgijjckjcaaGreatDoorIbSame
import Derived.Test.YtplhdgijjckjcaaGreatDoorIbAcc
import Derived.Test.YtplhdgijjckjcaaGreatDoorIbDcd
namespace Go.Proofs.YtplhdgijjckjcaaGreatDoor
open Go.RowKit

/-- An entry without the places of its lists. -/
def Ent.nf (e : Ent) : Ent := e.wi none 0 none 0 none 0
theorem Tw.nf {l m : Ent} (h : Tw l m) : l.nf = m.nf := by
  obtain ⟨a, c, a', c', a'', c'', rfl⟩ := h
  rfl
theorem Tws.nf {ls ms : List Ent} (h : Tws ls ms) : ls.map Ent.nf = ms.map Ent.nf := by
  refine List.ext_getElem? fun i => ?_
  rw [List.getElem?_map, List.getElem?_map]
  rcases Nat.lt_or_ge i ls.length with hi | hi
  · have h1 := List.getElem?_eq_getElem hi
    have h2 := List.getElem?_eq_getElem (show i < ms.length by rw [← h.1]; exact hi)
    rw [h1, h2]
    exact congrArg some (h.2 i _ _ h1 h2).nf
  · rw [List.getElem?_eq_none hi, List.getElem?_eq_none (by rw [← h.1]; exact hi)]
theorem fi_nf (s : ByteArray) (es : List Ent) : fi s (es.map Ent.nf) = fi s es := by
  unfold fi
  rw [List.findIdx?_map]
  rfl
theorem nOp_nf (es : List Ent) : nOp (es.map Ent.nf) = nOp es := by unfold nOp; rw [List.countP_map]; rfl
theorem nDc_nf (es : List Ent) : nDc (es.map Ent.nf) = nDc es := by unfold nDc; rw [List.countP_map]; rfl
theorem lastT_nf (es : List Ent) : lastT (es.map Ent.nf) = lastT es := by
  unfold lastT
  rw [List.getLast?_map]
  cases es.getLast? <;> rfl
theorem getD_nf (es : List Ent) (i : Nat) : (es.map Ent.nf).getD i zE = (es.getD i zE).nf := by
  rw [List.getD_eq_getElem?_getD, List.getD_eq_getElem?_getD, List.getElem?_map]
  cases es[i]? <;> rfl
theorem accC_nf (R : Int) (es : List Ent) (e : Ent) : accC R (es.map Ent.nf) e.nf = accC R es e := by
  unfold accC refS
  rw [lastT_nf, nOp_nf, show fi e.nf.ct (es.map Ent.nf) = fi e.ct es from fi_nf _ _]
  rfl
theorem decC_nf (es : List Ent) (s cd : ByteArray) (n : Nat) : decC (es.map Ent.nf) s cd n = decC es s cd n := by
  unfold decC
  rw [fi_nf]
  cases fi s es with
  | none => rfl
  | some i => simp only [getD_nf]; rfl
theorem Tws.acc_eq {R : Int} {es es' : List Ent} {e e' : Ent} (h : Tws es es') (he : Tw e e') : accC R es e = accC R es' e' := by
  rw [← accC_nf, ← accC_nf R es', h.nf, he.nf]
theorem Tws.dec_eq {es es' : List Ent} {s cd : ByteArray} {n : Nat} (h : Tws es es') : decC es s cd n = decC es' s cd n := by
  rw [← decC_nf, ← decC_nf es', h.nf]
theorem Tws.fi_eq {es es' : List Ent} {s : ByteArray} (h : Tws es es') : fi s es = fi s es' := by rw [← fi_nf, ← fi_nf s es', h.nf]
theorem Tws.op_eq {es es' : List Ent} (h : Tws es es') : nOp es = nOp es' := by rw [← nOp_nf, ← nOp_nf es', h.nf]
theorem Tws.dc_eq {es es' : List Ent} (h : Tws es es') : nDc es = nDc es' := by rw [← nDc_nf, ← nDc_nf es', h.nf]
theorem Tws.last_eq {es es' : List Ent} (h : Tws es es') : lastT es = lastT es' := by rw [← lastT_nf, ← lastT_nf es', h.nf]
theorem fdS_nf (es : List Ent) : fdS (es.map Ent.nf) = fdS es := by
  unfold fdS
  rw [List.findIdx?_map]
  rfl
theorem Tws.fd_eq {es es' : List Ent} (h : Tws es es') : fdS es = fdS es' := by rw [← fdS_nf, ← fdS_nf es', h.nf]
theorem Tws.gone {K : Int} {es es' : List Ent} (h : Tws es es') : goneS K es = goneS K es' := by
  unfold goneS manyB
  rw [h.dc_eq, h.fd_eq]
  cases fdS es' with
  | none => rfl
  | some i =>
    have e : (es.getD i zE).nf = (es'.getD i zE).nf := by rw [← getD_nf, ← getD_nf, h.nf]
    have e2 : (es.getD i zE).ct = (es'.getD i zE).ct := by
      have e3 : (es.getD i zE).nf.ct = (es'.getD i zE).nf.ct := by rw [e]
      exact e3
    simp only [e2]
theorem Tws.erase {es es' : List Ent} (h : Tws es es') (i : Nat) : Tws (es.eraseIdx i) (es'.eraseIdx i) := by
  refine ⟨by rw [List.length_eraseIdx, List.length_eraseIdx, h.1], fun j l m hl hm => ?_⟩
  rw [List.getElem?_eraseIdx] at hl hm
  split at hl
  · rename_i hj; rw [if_pos hj] at hm; exact h.2 _ _ _ hl hm
  · rename_i hj; rw [if_neg hj] at hm; exact h.2 _ _ _ hl hm
theorem Tws.shed {K : Int} {es es' : List Ent} (h : Tws es es') : Tws (shedS K es) (shedS K es') := by
  unfold shedS manyB
  rw [h.dc_eq, h.fd_eq]
  split
  · cases fdS es' with
    | none => exact h
    | some i => exact h.erase i
  · exact h
theorem Tws.snoc {es es' : List Ent} {e e' : Ent} (h : Tws es es') (he : Tw e e') : Tws (es ++ [e]) (es' ++ [e']) := by
  refine ⟨by rw [List.length_append, List.length_append, h.1]; rfl, fun j l m hl hm => ?_⟩
  rcases Nat.lt_or_ge j es.length with hj | hj
  · rw [List.getElem?_append_left hj] at hl
    rw [List.getElem?_append_left (by rw [← h.1]; exact hj)] at hm
    exact h.2 _ _ _ hl hm
  · rw [List.getElem?_append_right hj] at hl
    rw [List.getElem?_append_right (by rw [← h.1]; exact hj), ← h.1] at hm
    cases hk : j - es.length with
    | zero =>
      rw [hk] at hl hm
      cases hl; cases hm; exact he
    | succ k => rw [hk] at hl; cases hl
theorem Tws.set {es es' : List Ent} {e e' : Ent} (h : Tws es es') (he : Tw e e') (i : Nat) : Tws (es.set i e) (es'.set i e') := by
  refine ⟨by rw [List.length_set, List.length_set, h.1], fun j l m hl hm => ?_⟩
  rw [List.getElem?_set] at hl hm
  rw [← h.1] at hm
  split at hl
  · rename_i hj
    rw [if_pos hj] at hm
    split at hl
    · rename_i h2
      rw [if_pos h2] at hm
      cases hl; cases hm; exact he
    · cases hl
  · rename_i hj; rw [if_neg hj] at hm; exact h.2 _ _ _ hl hm
end Go.Proofs.YtplhdgijjckjcaaGreatDoor
