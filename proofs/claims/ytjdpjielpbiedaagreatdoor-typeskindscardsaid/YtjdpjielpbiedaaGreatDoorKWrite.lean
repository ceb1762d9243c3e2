/-
  Book.write: each list with marks of its own.
-/
import Derived.Test.YtjdpjielpbiedaaGreatDoorKStill
namespace Go.Proofs.YtjdpjielpbiedaaGreatDoor.Td
open Go.RowKit

/-- The first i lists are written over. -/
def wrote (i : Nat) (es : List Ent) : List Ent := es.mapIdx fun j e => if j < i then { e with bs := mk j e.bs.length } else e
theorem wrote_length (i : Nat) (es : List Ent) : (wrote i es).length = es.length := by simp [wrote]
theorem wrote_get (i j : Nat) (es : List Ent) (e : Ent) (h : es[j]? = some e) : (wrote i es)[j]? = some (if j < i then { e with bs := mk j e.bs.length } else e) := by simp [wrote, h]
theorem wrote_zero (es : List Ent) : wrote 0 es = es := by
  refine List.ext_getElem? fun j => ?_
  simp [wrote]
theorem wrote_set (i : Nat) (es : List Ent) (e : Ent) (h : es[i]? = some e) : (wrote i es).set i { e with bs := mk i e.bs.length } = wrote (i + 1) es := by
  refine List.ext_getElem? fun j => ?_
  have hi := (List.getElem?_eq_some_iff.1 h).1
  by_cases hj : i = j
  · subst hj
    rw [List.getElem?_set_self (by rw [wrote_length]; exact hi), wrote_get (i + 1) i es e h, if_pos (Nat.lt_succ_self _)]
  · rw [List.getElem?_set_ne hj]
    simp only [wrote, List.getElem?_mapIdx]
    cases es[j]? with
    | none => rfl
    | some x =>
      simp only [Option.map_some]
      by_cases hl : j < i
      · rw [if_pos hl, if_pos (by omega)]
      · rw [if_neg hl, if_neg (by omega)]
theorem wrote_same (i : Nat) (es : List Ent) (e : Ent) (h : es[i]? = some e) : (wrote i es).set i { e with bs := e.bs } = wrote i es := by
  refine List.ext_getElem? fun j => ?_
  have hi := (List.getElem?_eq_some_iff.1 h).1
  by_cases hj : i = j
  · subst hj
    rw [List.getElem?_set_self (by rw [wrote_length]; exact hi), wrote_get i i es e h, if_neg (Nat.lt_irrefl _)]
  · rw [List.getElem?_set_ne hj]
theorem over_next (i : Nat) (bs : List Value) (k : Nat) (h : k < bs.length) : (mk i k ++ bs.drop k).set k (mkT i) = mk i (k + 1) ++ bs.drop (k + 1) := by
  rw [List.set_append_right _ _ (by rw [mk_length]; omega), mk_length, Nat.sub_self, List.drop_eq_getElem_cons h, List.set_cons_zero, mk_succ, List.append_assoc]
  rfl
theorem ents_map (f : Ent → Value) (i : Nat) (es : List Ent) (hf : ∀ (e : Ent) bs, f { e with bs := bs } = f e) : (wrote i es).map f = es.map f := by
  refine List.ext_getElem? fun j => ?_
  simp only [wrote, List.getElem?_map, List.getElem?_mapIdx]
  cases es[j]? with
  | none => rfl
  | some x =>
    simp only [Option.map_some]
    by_cases hl : j < i
    · rw [if_pos hl, hf]
    · rw [if_neg hl]
theorem write_step {w wr : World} {B K g gv n cb i k lb d1 : Nat} {ρ : Nat → Nat} {vw : Value} {es : List Ent} {e : Ent} (h : Bk wr B K ρ (.slice (some ⟨g, 0, none⟩) n cb) vw (es.set i { e with bs := mk i k ++ e.bs.drop k })) (ho : Off (fun k => ∃ j, ρ k = 6 + 2 * j) w wr) (hi : i < es.length) (he : e.val = .slice (some ⟨gv, 0, none⟩) e.bs.length d1) (hl : e.bs.length = lb) (hk : k < lb) (hr : TRow wr B (.slice (some ⟨gv, 0, none⟩) lb d1) (mk i k ++ e.bs.drop k)) :
    Bk (wr.setCell ⟨gv, k, none⟩ (mkT i)) B K ρ (.slice (some ⟨g, 0, none⟩) n cb) vw (es.set i { e with bs := mk i (k + 1) ++ e.bs.drop (k + 1) }) ∧ Off (fun k => ∃ j, ρ k = 6 + 2 * j) w (wr.setCell ⟨gv, k, none⟩ (mkT i)) := by
  have hat : (es.set i { e with bs := mk i k ++ e.bs.drop k })[i]? = some { e with bs := mk i k ++ e.bs.drop k } := List.getElem?_set_self hi
  have hp : ρ gv = 6 + 2 * i := h.pval i _ hat gv (by show e.val.ownBlock = some gv; rw [he]; rfl)
  have hrow := VRow.stored hr k (mkT i)
  rw [over_next i e.bs k (by omega)] at hrow
  have o1 : Off (fun k => ρ k = 6 + 2 * i) wr (wr.setCell ⟨gv, k, none⟩ (mkT i)) := Off.setCell (P := fun k => ρ k = 6 + 2 * i) (Off.refl _ _) (p := ⟨gv, k, none⟩) hp _
  have hb := h.touch hat o1 (bs' := mk i (k + 1) ++ e.bs.drop (k + 1)) (by
    show TRow _ B e.val _
    rw [he, hl]; exact hrow)
  rw [List.set_set] at hb
  exact ⟨hb, ho.trans (o1.mono (fun k e => ⟨i, e⟩))⟩
set_option maxRecDepth 100000 in
set_option maxHeartbeats 4000000 in
theorem write_any {w : World} {B K : Nat} {ρ : Nat → Nat} {vb vw : Value} {es : List Ent} (h : Bk w B K ρ vb vw es) (hs : ∀ (i : Nat) (e : Ent), es[i]? = some e → e.bs.length ≤ 1000 ∧ (∀ u ∈ e.bs, ∃ s, u = .string s)) (hm : es.length ≤ 4) :
    Calls Tryz.prog 26 #[.pointer (some ⟨K, 0, none⟩)] w fun e w' => e = .returned (.tuple #[]) ∧ Bk w' B K ρ vb vw (wrote es.length es) ∧ Off (fun k => ∃ j, ρ k = 6 + 2 * j) w w' := by
  have HS : Hid (∀ (i : Nat) (e : Ent), es[i]? = some e → e.bs.length ≤ 1000 ∧ (∀ u ∈ e.bs, ∃ s, u = .string s)) := hs
  obtain ⟨ab, cb, rfl, hab⟩ := VRow.isSlice h.rb
  have HA : Hid (0 < es.length → ∃ g, ab = some ⟨g, 0, none⟩) := by simp only [List.length_map] at hab; exact hab
  rw [List.length_map] at h ⊢
  obtain ⟨n, hn⟩ : ∃ n, es.length = n := ⟨_, rfl⟩
  have HN : Hid (es.length = n) := hn
  rw [hn] at h hm ⊢
  have HH : Hid (Bk w B K ρ (.slice ab n cb) vw es) := h
  clear h hs hab hn
  go_enter Tryz.func26, Tryz.ntmps26
  have q0 := HH.out.c0
  have q2 := HH.out.c2
  go_wp2_with fail
  refine wp_loop_rounds 1 ?_
  rw [rounds_succ]
  go_wp2_with fail
  refine wp_loop_rounds 1 ?_
  rw [rounds_succ]
  go_wp2_with fail
  clear q0 q2
  go_loopw [6] (fun t2 wx => ∃ i : Nat, i ≤ n ∧ t2 = .int .i64 i ∧ Hid (Bk wx B K ρ (.slice ab n cb) vw (wrote i es) ∧ Off (fun k => ∃ j, ρ k = 6 + 2 * j) w wx)) (fun t2 _ => n - (intOf t2).toNat)
  case atStart => exact ⟨0, Nat.zero_le _, rfl, by rw [wrote_zero]; exact HH.out, Off.refl _ _⟩
  case round =>
    obtain ⟨i, hi, rfl, HI⟩ := hrel
    have q0 := HI.out.1.c4
    by_cases hlt : i < n
    · have hlt1 : (i : Int) < n := by omega
      obtain ⟨g, rfl⟩ := HA.out (by have := HN.out; omega)
      have hie : i < es.length := by have := HN.out; omega
      obtain ⟨e, he⟩ : ∃ e, es[i]? = some e := ⟨_, List.getElem?_eq_getElem hie⟩
      have HE : Hid (es[i]? = some e) := he
      obtain ⟨hlen, hstr⟩ := HS.out i e he
      have he2 : (wrote i es)[i]? = some e := by rw [wrote_get i i es e he, if_neg (Nat.lt_irrefl _)]
      obtain ⟨a1, d1, e1, hb1⟩ := VRow.isSlice (HI.out.1.val i e he2)
      have HE1 : Hid (e.val = .slice a1 e.bs.length d1 ∧ (0 < e.bs.length → ∃ g, a1 = some ⟨g, 0, none⟩)) := ⟨e1, hb1⟩
      obtain ⟨lb, hlb⟩ : ∃ l, e.bs.length = l := ⟨_, rfl⟩
      have HLB : Hid (e.bs.length = lb) := hlb
      rw [hlb] at hlen
      have HI2 : Hid (Bk wr B K ρ (.slice (some ⟨g, 0, none⟩) n cb) vw ((wrote i es).set i { e with bs := mk i 0 ++ e.bs.drop 0 }) ∧ Off (fun k => ∃ j, ρ k = 6 + 2 * j) w wr) := ⟨by
        have := HI.out.1
        rw [← wrote_same i es e he] at this
        exact this, HI.out.2⟩
      clear HI he he2 e1 hb1 hlb hie
      go_wp2_with fail
      go_loopw [7] (fun t3 wx => ∃ k : Nat, k ≤ lb ∧ t3 = .int .i64 k ∧ Hid (Bk wx B K ρ (.slice (some ⟨g, 0, none⟩) n cb) vw ((wrote i es).set i { e with bs := mk i k ++ e.bs.drop k }) ∧ Off (fun k => ∃ j, ρ k = 6 + 2 * j) w wx)) (fun t3 _ => lb - (intOf t3).toNat)
      case atStart => exact ⟨0, Nat.zero_le _, rfl, HI2⟩
      case round =>
        obtain ⟨k, hk, rfl, HJ⟩ := hrel
        have q0 := HJ.out.1.c4
        have hie : i < (wrote i es).length := by rw [wrote_length]; have := HN.out; omega
        have hat : ((wrote i es).set i { e with bs := mk i k ++ e.bs.drop k })[i]? = some { e with bs := mk i k ++ e.bs.drop k } := List.getElem?_set_self hie
        have c1 : wr.cell? ⟨g, i, none⟩ = some e.val := HJ.out.1.rb.slot (by rw [List.getElem?_map, hat]; rfl)
        rw [HE1.out.1, HLB.out] at c1
        by_cases hlt2 : k < lb
        · have hlt3 : (k : Int) < lb := by omega
          obtain ⟨gv, rfl⟩ := HE1.out.2 (by have := HLB.out; omega)
          have hrow := HJ.out.1.val i _ hat
          have hrow2 : TRow wr B (.slice (some ⟨gv, 0, none⟩) lb d1) (mk i k ++ e.bs.drop k) := by
            have h2 : TRow wr B e.val (mk i k ++ e.bs.drop k) := hrow
            rw [HE1.out.1, HLB.out] at h2; exact h2
          obtain ⟨z, hz⟩ : ∃ z, (mk i k ++ e.bs.drop k)[k]? = some z := ⟨_, List.getElem?_eq_getElem (by rw [List.length_append, mk_length, List.length_drop]; have := HLB.out; omega)⟩
          have k1 : wr.cell? ⟨gv, k, none⟩ = some z := VRow.slot hrow2 hz
          have k2 := VRow.thaw hrow2 k
          obtain ⟨M, hM⟩ : ∃ M, mkT i = .string M := ⟨_, rfl⟩
          have HMM : Hid (mkT i = .string M) := hM
          have HR : Hid (TRow wr B (.slice (some ⟨gv, 0, none⟩) lb d1) (mk i k ++ e.bs.drop k) ∧ gv < wr.heap.size ∧ g < wr.heap.size ∧ K < wr.heap.size) := ⟨hrow2, cell_lt k1, cell_lt c1, HJ.out.1.lt⟩
          have HM : Hid (∀ x : World, Below wr.heap.size wr x → Calls Tryz.prog 29 #[.int .i64 (i : Int)] x fun e w' => e = .returned (.string M) ∧ w'.cell? ⟨K, 4, none⟩ = some (.slice (some ⟨g, 0, none⟩) n cb) ∧ w'.cell? ⟨g, i, none⟩ = some (.slice (some ⟨gv, 0, none⟩) lb d1) ∧ w'.cell? ⟨gv, k, none⟩ = some z ∧ w'.frozen? ⟨gv, k, none⟩ = false ∧ Hid (Below wr.heap.size wr w')) := fun x hx => (mark_any i (by omega) x).mono fun _ w' q => by
            have hb := below_then hx q.2
            refine ⟨by rw [q.1, hM], ?_, ?_, ?_, ?_, hb⟩
            · rw [hb.cell (p := ⟨K, 4, none⟩) HR.out.2.2.2]; exact q0
            · rw [hb.cell (p := ⟨g, i, none⟩) HR.out.2.2.1]; exact c1
            · rw [hb.cell (p := ⟨gv, k, none⟩) HR.out.2.1]; exact k1
            · rw [hb.frozen (p := ⟨gv, k, none⟩) HR.out.2.1]; exact k2
          clear hrow hrow2 hat hie hz hM
          go_wp2_with fail
          go_region_with (go_at_call 29; refine (HM.out _ (by first | exact Below.refl _ _ | exact Below.drew (Below.refl _ _) | exact below_drewN (Below.refl _ _) _)).mono ?_; rintro _ w1 ⟨rfl, n0, n1, n2, n3, HB1⟩)
          all_goals
            go_wp2_with fail
            go_roundw
            case rel =>
              refine ⟨k + 1, hlt2, by go_num, ?_⟩
              have hj1 := HJ.out.1.off (Off.of_below (P := fun _ => False) HB1.out) (fun _ p => p.elim)
              have hb := write_step hj1 (HJ.out.2.trans (Off.of_below HB1.out)) (by rw [wrote_length]; have := HN.out; omega) HE1.out.1 HLB.out hlt2 (VRow.below HR.out.1 HB1.out)
              rw [HMM.out] at hb
              first
                | exact hb
                | exact ⟨hb.1.off (Off.drew (P := fun _ => False) (Off.refl _ _)) (fun _ p => p.elim), hb.2.drew⟩
                | exact ⟨hb.1.off (Off.drewN (P := fun _ => False) (Off.refl _ _) _) (fun _ p => p.elim), hb.2.drewN _⟩
            case measure => simp [intOf]; omega
        · have hlt3 : ¬ (k : Int) < lb := by omega
          obtain rfl : k = lb := by omega
          go_wp2_with fail
          go_roundw
          case rel =>
            refine ⟨i + 1, hlt, by go_num, ?_, HJ.out.2⟩
            have hb := HJ.out.1
            rw [List.drop_of_length_le (by have := HLB.out; omega), List.append_nil, ← HLB.out, wrote_set i es e HE.out] at hb
            exact hb
          case measure => simp [intOf]; omega
    · have hlt1 : ¬ (i : Int) < n := by omega
      go_wp2_with fail
      go_end0
      obtain rfl : i = n := by omega
      exact ⟨rfl, HI.out.1, HI.out.2⟩
end Go.Proofs.YtjdpjielpbiedaaGreatDoor.Td
