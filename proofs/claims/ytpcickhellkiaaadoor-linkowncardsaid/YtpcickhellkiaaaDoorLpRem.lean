/-
  The program's link: a side's replace, remove.
-/
import Derived.Test.YtpcickhellkiaaaDoorLpLeaf
namespace Go.Proofs.YtpcickhellkiaaaDoor
open Go.RowKit

theorem setAll_mid : ∀ (vs pre ys xs : List Value), ys.length = vs.length → setAll (pre ++ (ys ++ xs)) pre.length vs = pre ++ (vs ++ xs) := fun vs pre ys xs h => setAll_pre vs ys xs pre h
/-- copy of pieces i .. i + k of a list into places o .. o + k of a row of one's own. -/
theorem run_pcopy {w w1 : World} {g n c : Nat} {ps : List Pp} (h : PpRow w 0 (.slice (some ⟨g, 0, none⟩) n c) ps) {N m : Nat} {rs : List Pp} (hr : PpRow w1 w.heap.size (.slice (some ⟨N, 0, none⟩) m m) rs) (hB : Below w.heap.size w w1) (i o k dl dc sl sc : Nat) (hi : i + k ≤ n) (ho : o + k ≤ m) (hmin : Nat.min sl dl = k) (ty : TypeId) :
    ∃ w2, (Builtin.copy_ #[48, 48] ty #[.slice (some ⟨N, o * 2, none⟩) dl dc, .slice (some ⟨g, i * 2, none⟩) sl sc]).run Tryd.prog w1 = .ok (goInt k) w2 ∧ PpRow w2 w.heap.size (.slice (some ⟨N, 0, none⟩) m m) (rs.take o ++ ((ps.drop i).take k ++ rs.drop (o + k))) ∧ Below w.heap.size w w2 := by
  obtain ⟨ti, z, hti, hz, hzs, hs, hby⟩ := celP
  have hn := h.len
  have hm := hr.len
  have hrow := h.below hB
  have hpl : ((ps.drop i).take k).length = k := by rw [List.length_take, List.length_drop]; omega
  have hcl : (((ps.drop i).take k).flatMap encP).length = k * 2 := by rw [flat_len encP_len, hpl]
  have h' : w1.ownsRow w.heap.size 79 2 (.slice (some ⟨N, 0, none⟩) m m) m (rs.flatMap encP) := by
    have := hr
    unfold PpRow ERow at this
    rw [← hm] at this
    exact this
  have th := own_there h' (o := o * 2) (k := (((ps.drop i).take k).flatMap encP).length) (by rw [hcl]; omega)
  have hr2 := run_copy_k (P := Tryd.prog) w1 48 48 ty 79 ti hti N (o * 2) dl dc ⟨g, i * 2, none⟩ sl sc (((ps.drop i).take k).flatMap encP) Tryd.underlying48 (by rw [hcl, hmin, hs]) (fun j v hv => by
    have hj : j < k * 2 := by have := (List.getElem?_eq_some_iff.1 hv).1; omega
    have hjd : j / 2 < k := by omega
    obtain ⟨p, hp⟩ : ∃ p, ps[i + j / 2]? = some p := ⟨_, List.getElem?_eq_getElem (by omega)⟩
    have hp2 : ((ps.drop i).take k)[j / 2]? = some p := by rw [List.getElem?_take, if_pos hjd, List.getElem?_drop]; exact hp
    have e1 := flat_get encP_len ((ps.drop i).take k) (j / 2) p (j % 2) hp2 (Nat.mod_lt _ (by decide))
    rw [show j / 2 * 2 + j % 2 = j by omega, hv] at e1
    obtain ⟨g', eg, _, hc⟩ := ERow.at_ encP_len hrow hp
    simp only [Option.some.injEq, Addr.mk.injEq, and_true] at eg
    subst eg
    have e2 := hc (j % 2) (Nat.mod_lt _ (by decide))
    rw [← e1, show (i + j / 2) * 2 + j % 2 = i * 2 + j by omega] at e2
    rw [Addr.add_lit]; exact e2) (fun j hj => (th j hj).1) (fun j hj => (th j hj).2) (fun v hv => by
    obtain ⟨x, _, hx⟩ := List.mem_flatMap.1 hv
    exact encP_one x v hx)
  rw [hmin] at hr2
  refine ⟨_, hr2, ?_, ?_⟩
  · have := own_setCells (((ps.drop i).take k).flatMap encP) (o * 2) w1 _ h'
    unfold PpRow ERow
    have e00 : rs.take o ++ ((rs.drop o).take k ++ rs.drop (o + k)) = rs := by
      rw [← List.drop_drop, List.take_append_drop, List.take_append_drop]
    have e0 : rs.flatMap encP = (rs.take o).flatMap encP ++ (((rs.drop o).take k).flatMap encP ++ (rs.drop (o + k)).flatMap encP) := by
      rw [← List.flatMap_append, ← List.flatMap_append, e00]
    have l0 : ((rs.take o).flatMap encP).length = o * 2 := by rw [flat_len encP_len, List.length_take]; omega
    have e : setAll (rs.flatMap encP) (o * 2) (((ps.drop i).take k).flatMap encP) = (rs.take o ++ ((ps.drop i).take k ++ rs.drop (o + k))).flatMap encP := by
      rw [e0, ← l0, setAll_mid _ _ _ _ (by rw [hcl, flat_len encP_len, List.length_take, List.length_drop]; omega), List.flatMap_append, List.flatMap_append]
    rw [e] at this
    rw [show (rs.take o ++ ((ps.drop i).take k ++ rs.drop (o + k))).length = m by simp only [List.length_append, List.length_take, List.length_drop]; omega]
    exact this
  · have hlt := ERow.lt hr (g := N) rfl
    exact hB.trans ((Off.setCells (P := fun q => q = N) rfl (((ps.drop i).take k).flatMap encP) (o * 2) w1 (Off.refl _ _)).below hB.size fun q e => by omega)
section
variable {w w' : World} {lb s : Nat} {F : Nat → Prop} {x y : Dw}
set_option maxRecDepth 100000 in
set_option maxHeartbeats 4000000 in
/-- A piece takes another's place. -/
theorem prep_ok (h : Lk w lb F x y) (hs : s < 2) {k : Nat} (hk : k < (dwS x y s).n) (q : Pp) (hq : PpOk w F q) {h' : Int} (hbr : ∀ (j : Nat) (p : Pp), ((dwS x y s).ps.set k q)[j]? = some p → p.br = decide (h' = (j : Int))) (hok : SdOk (((dwS x y s).ps.set k q).map (·.bs), h')) : Calls Tryd.prog 62 #[.pointer (some ⟨lb, s, none⟩), .int .i64 (k : Int), .agg #[.slice q.a q.n q.c, .bool q.br]] w fun e w' => e = .returned (.tuple #[]) ∧ Hid (LQ w lb F x y s (((dwS x y s).ps.set k q).map (·.bs), h') w') := by
  obtain ⟨V, hV⟩ : ∃ V, w.alloc (.cells #[.slice q.a q.n q.c, .bool q.br] 79) = V := ⟨_, rfl⟩
  have hbV : Below w.heap.size w V := by rw [← hV]; exact (Below.refl _ _).alloc (Nat.le_refl _) _
  have cq0 : V.cell? ⟨w.heap.size, 0, none⟩ = some (.slice q.a q.n q.c) := by rw [← hV, cell_new]; rfl
  have cq1 : V.cell? ⟨w.heap.size, 1, none⟩ = some (.bool q.br) := by rw [← hV, cell_new]; rfl
  have hVs : V.heap.size = w.heap.size + 1 := by rw [← hV]; simp
  have hVL := h.below hbV
  have hz := hVL.side s
  have hn := hz.len
  obtain ⟨g, ea⟩ : ∃ g, (dwS x y s).a = some ⟨g, 0, none⟩ := by
    obtain ⟨p, g, _, _, _, _, e, _⟩ := hz.piece hk
    exact ⟨g, e⟩
  have hrow := hz.row
  rw [ea] at hrow
  have d0 := (hVL.cell hs).1
  rw [ea] at d0
  obtain ⟨w1, hmk, hR, hB1⟩ := run_make_pieces (w := V) (dwS x y s).n (by omega)
  obtain ⟨w2, hcp, hR2, hB2⟩ := run_pcopy hrow hR hB1 0 0 (dwS x y s).n (dwS x y s).n (dwS x y s).n (dwS x y s).n (dwS x y s).c (by omega) (by omega) (by simp) 3
  rw [show (List.replicate (dwS x y s).n zP).take 0 ++ (((dwS x y s).ps.drop 0).take (dwS x y s).n ++ (List.replicate (dwS x y s).n zP).drop (0 + (dwS x y s).n)) = (dwS x y s).ps by
    rw [List.take_zero, List.nil_append, List.drop_zero, List.take_of_length_le (by omega), List.drop_of_length_le (by simp), List.append_nil]] at hR2
  have hcp2 : (Builtin.copy_ #[48, 48] 3 #[.slice (some ⟨V.heap.size, 0, none⟩) (dwS x y s).n (dwS x y s).n, .slice (some ⟨g, 0, none⟩) (dwS x y s).n (dwS x y s).c]).run Tryd.prog w1 = .ok (goInt (dwS x y s).n) w2 := by simpa using hcp
  have hR3 := erow_set encP_len hR2 q (i := k) (by omega)
  have e3 : w2.setCells V.heap.size (k * 2) (encP q) = (w2.setCell ⟨V.heap.size, k * 2, none⟩ (.slice q.a q.n q.c)).setCell ⟨V.heap.size, k * 2 + 1, none⟩ (.bool q.br) := rfl
  rw [e3] at hR3
  have hB3 : Below V.heap.size V ((w2.setCell ⟨V.heap.size, k * 2, none⟩ (.slice q.a q.n q.c)).setCell ⟨V.heap.size, k * 2 + 1, none⟩ (.bool q.br)) := (hB2.setCell (p := ⟨V.heap.size, k * 2, none⟩) (Nat.le_refl _) _).setCell (p := ⟨V.heap.size, k * 2 + 1, none⟩) (Nat.le_refl _) _
  have hbW := below_then hbV hB3
  have key := lq_store h hs hbW (ERow.base hR3 hbV.size) (fun p hp => by
    rcases List.mem_or_eq_of_mem_set hp with g | g
    · exact (((h.below hbW).side s).pcs p g).mono fun b hb' => Or.inl hb'
    · subst g
      exact (hq.off (P := fun _ => False) (Off.of_below hbW) fun _ _ => id).mono fun b hb' => Or.inl hb') hbr hok
  obtain ⟨c1, c2, HL⟩ := key
  have HQ : Hid (LQ w lb F x y s (((dwS x y s).ps.set k q).map (·.bs), h') (((w2.setCell ⟨V.heap.size, k * 2, none⟩ (.slice q.a q.n q.c)).setCell ⟨V.heap.size, k * 2 + 1, none⟩ (.bool q.br)).setCell ⟨lb, s, none⟩ (.slice (some ⟨V.heap.size, 0, none⟩) (dwS x y s).n (dwS x y s).n))) := HL
  have d1 : w1.cell? ⟨lb, s, none⟩ = some (.slice (some ⟨g, 0, none⟩) (dwS x y s).n (dwS x y s).c) := by
    have := ((h.below (below_then hbV hB1)).cell hs).1
    rw [ea] at this
    exact this
  rw [ea] at c1
  have hws : w.heap.size < V.heap.size := by omega
  have cw0 : w2.cell? ⟨w.heap.size, 0, none⟩ = some (.slice q.a q.n q.c) := (hB2.cell (p := ⟨w.heap.size, 0, none⟩) hws).trans cq0
  have cw1 : w2.cell? ⟨w.heap.size, 1, none⟩ = some (.bool q.br) := (hB2.cell (p := ⟨w.heap.size, 1, none⟩) hws).trans cq1
  obtain ⟨p0, hp0⟩ : ∃ p, (dwS x y s).ps[k]? = some p := ⟨_, List.getElem?_eq_getElem (by omega)⟩
  obtain ⟨g', eg', _, hc'⟩ := ERow.at_ encP_len hR2 hp0
  simp only [Option.some.injEq, Addr.mk.injEq, and_true] at eg'
  subst eg'
  have k0 := hc' 0 (by decide)
  have k1 := hc' 1 (by decide)
  simp only [encP, List.getElem?_cons_zero, List.getElem?_cons_succ, Nat.add_zero] at k0 k1
  have z0 := ERow.thaw hR2 (k * 2)
  have z1 := ERow.thaw hR2 (k * 2 + 1)
  have hn6 := hn.2.2.1
  have g2 : (k : Int) < ((dwS x y s).n : Int) := by omega
  clear HL hc' hp0 hbW hB3 hR3 e3 hcp hR2 hB2 hR hB1 hrow hn hz hVL hok hbr hq h hbV hws
  generalize ((dwS x y s).ps.set k q).map (·.bs) = cs' at HQ ⊢
  generalize (dwS x y s).n = zn at *
  generalize (dwS x y s).c = zc at *
  obtain ⟨N, hN⟩ : ∃ N, V.heap.size = N := ⟨_, rfl⟩
  rw [hN] at hmk hcp2 HQ c1 c2 k0 k1 z0 z1
  obtain ⟨qa, qn, qc, qb, qr⟩ := q
  simp only at *
  go_enter Tryd.func62, Tryd.ntmps62
  go_wp2_with (at_builtin; refine wpList_copy_run rfl (.tmp 13) (.tmp 17) 48 _ rfl hcp2 ?_)
  go_end0
  exact ⟨rfl, HQ.out⟩
end
end Go.Proofs.YtpcickhellkiaaaDoor
