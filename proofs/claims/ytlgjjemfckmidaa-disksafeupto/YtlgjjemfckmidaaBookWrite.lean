/-
  Book.write: each list with marks of its own.
-/
import Derived.Test.YtlgjjemfckmidaaBookMark
namespace Go.Proofs.Ytlgjjemfckmidaa
open Go.RowKit

/-- The first i lists are written over. -/
def wrote (i : Nat) (es : List Ent) : List Ent := es.mapIdx fun j e => if j < i then { e with bs := mk j e.bs.length } else e
theorem wrote_length (i : Nat) (es : List Ent) : (wrote i es).length = es.length := by simp [wrote]
theorem wrote_get (i j : Nat) (es : List Ent) (e : Ent) (h : es[j]? = some e) : (wrote i es)[j]? = some (if j < i then { e with bs := mk j e.bs.length } else e) := by simp [wrote, h]
theorem wrote_zero (es : List Ent) : wrote 0 es = es := by
  refine List.ext_getElem? fun j => ?_
  simp [wrote]
theorem wrote_set (i : Nat) (es : List Ent) (e : Ent) (h : es[i]? = some e) : (wrote i es).set i { e with bs := mk i e.bs.length } = wrote (i + 1) es := by
  refine List.ext_getElem? fun j => ?_
  have hi := (List.getElem?_eq_some_iff.1 h).1
  by_cases hj : i = j
  · subst hj
    rw [List.getElem?_set_self (by rw [wrote_length]; exact hi), wrote_get (i + 1) i es e h, if_pos (Nat.lt_succ_self _)]
  · rw [List.getElem?_set_ne hj]
    simp only [wrote, List.getElem?_mapIdx]
    cases es[j]? with
    | none => rfl
    | some x =>
      simp only [Option.map_some]
      by_cases hl : j < i
      · rw [if_pos hl, if_pos (by omega)]
      · rw [if_neg hl, if_neg (by omega)]
theorem wrote_same (i : Nat) (es : List Ent) (e : Ent) (h : es[i]? = some e) : (wrote i es).set i { e with bs := e.bs } = wrote i es := by
  refine List.ext_getElem? fun j => ?_
  have hi := (List.getElem?_eq_some_iff.1 h).1
  by_cases hj : i = j
  · subst hj
    rw [List.getElem?_set_self (by rw [wrote_length]; exact hi), wrote_get i i es e h, if_neg (Nat.lt_irrefl _)]
  · rw [List.getElem?_set_ne hj]
theorem over_next (i : Nat) (bs : List Int) (k : Nat) (h : k < bs.length) : (mk i k ++ bs.drop k).set k (markI i k) = mk i (k + 1) ++ bs.drop (k + 1) := by
  rw [List.set_append_right _ _ (by rw [mk_length]; omega), mk_length, Nat.sub_self, List.drop_eq_getElem_cons h, List.set_cons_zero, mk_succ, List.append_assoc]
  rfl
theorem ents_map (f : Ent → Value) (i : Nat) (es : List Ent) (hf : ∀ (e : Ent) bs, f { e with bs := bs } = f e) : (wrote i es).map f = es.map f := by
  refine List.ext_getElem? fun j => ?_
  simp only [wrote, List.getElem?_map, List.getElem?_mapIdx]
  cases es[j]? with
  | none => rfl
  | some x =>
    simp only [Option.map_some]
    by_cases hl : j < i
    · rw [if_pos hl, hf]
    · rw [if_neg hl]
theorem write_step {w wr : World} {B K g gv n cb i k lb d1 : Nat} {ρ : Nat → Nat} {vw : Value} {es : List Ent} {e : Ent} (h : Bk wr B K ρ (.slice (some ⟨g, 0, none⟩) n cb) vw (es.set i { e with bs := mk i k ++ e.bs.drop k })) (ho : Off (fun k => ∃ j, ρ k = 6 + 2 * j) w wr) (hi : i < es.length) (he : e.val = .slice (some ⟨gv, 0, none⟩) e.bs.length d1) (hl : e.bs.length = lb) (hk : k < lb) (hr : Row wr B (.slice (some ⟨gv, 0, none⟩) lb d1) (mk i k ++ e.bs.drop k)) :
    Bk (wr.setCell ⟨gv, k, none⟩ (.int .u8 (markI i k))) B K ρ (.slice (some ⟨g, 0, none⟩) n cb) vw (es.set i { e with bs := mk i (k + 1) ++ e.bs.drop (k + 1) }) ∧ Off (fun k => ∃ j, ρ k = 6 + 2 * j) w (wr.setCell ⟨gv, k, none⟩ (.int .u8 (markI i k))) := by
  have hat : (es.set i { e with bs := mk i k ++ e.bs.drop k })[i]? = some { e with bs := mk i k ++ e.bs.drop k } := List.getElem?_set_self hi
  have hp : ρ gv = 6 + 2 * i := h.pval i _ hat gv (by show e.val.ownBlock = some gv; rw [he]; rfl)
  have hrow := hr.stored k (markI i k)
  rw [over_next i e.bs k (by omega)] at hrow
  have o1 : Off (fun k => ρ k = 6 + 2 * i) wr (wr.setCell ⟨gv, k, none⟩ (.int .u8 (markI i k))) := Off.setCell (P := fun k => ρ k = 6 + 2 * i) (Off.refl _ _) (p := ⟨gv, k, none⟩) hp _
  have hb := h.touch hat o1 (bs' := mk i (k + 1) ++ e.bs.drop (k + 1)) (by
    show Row _ B e.val _
    rw [he, hl]; exact hrow)
  rw [List.set_set] at hb
  exact ⟨hb, ho.trans (o1.mono (fun k e => ⟨i, e⟩))⟩
set_option maxRecDepth 100000 in
set_option maxHeartbeats 4000000 in
theorem write_any {w : World} {B K : Nat} {ρ : Nat → Nat} {vb vw : Value} {es : List Ent} (h : Bk w B K ρ vb vw es) (hs : ∀ (i : Nat) (e : Ent), es[i]? = some e → e.bs.length ≤ 70368744177664) (hm : es.length ≤ 1099511627776) :
    Calls Try.prog 51 #[.pointer (some ⟨K, 0, none⟩)] w fun e w' => e = .returned (.tuple #[]) ∧ Bk w' B K ρ vb vw (wrote es.length es) ∧ Off (fun k => ∃ j, ρ k = 6 + 2 * j) w w' := by
  have HS : Hid (∀ (i : Nat) (e : Ent), es[i]? = some e → e.bs.length ≤ 70368744177664) := hs
  obtain ⟨ab, cb, rfl, hab⟩ := h.rb.isSlice
  have HA : Hid (0 < es.length → ∃ g, ab = some ⟨g, 0, none⟩) := by simp only [List.length_map] at hab; exact hab
  rw [List.length_map] at h ⊢
  obtain ⟨n, hn⟩ : ∃ n, es.length = n := ⟨_, rfl⟩
  have HN : Hid (es.length = n) := hn
  rw [hn] at h hm ⊢
  have HH : Hid (Bk w B K ρ (.slice ab n cb) vw es) := h
  clear h hs hab hn
  go_enter Try.func51, Try.ntmps51
  go_wp2_with fail
  go_loopw [2] (fun t2 wx => ∃ i : Nat, i ≤ n ∧ t2 = .int .i64 i ∧ Hid (Bk wx B K ρ (.slice ab n cb) vw (wrote i es) ∧ Off (fun k => ∃ j, ρ k = 6 + 2 * j) w wx)) (fun t2 _ => n - (intOf t2).toNat)
  case atStart => exact ⟨0, Nat.zero_le _, rfl, by rw [wrote_zero]; exact HH.out, Off.refl _ _⟩
  case round =>
    obtain ⟨i, hi, rfl, HI⟩ := hrel
    have q0 := HI.out.1.c0
    by_cases hlt : i < n
    · have hlt1 : (i : Int) < n := by omega
      obtain ⟨g, rfl⟩ := HA.out (by have := HN.out; omega)
      have hie : i < es.length := by have := HN.out; omega
      obtain ⟨e, he⟩ : ∃ e, es[i]? = some e := ⟨_, List.getElem?_eq_getElem hie⟩
      have HE : Hid (es[i]? = some e) := he
      have hlen := HS.out i e he
      have he2 : (wrote i es)[i]? = some e := by rw [wrote_get i i es e he, if_neg (Nat.lt_irrefl _)]
      obtain ⟨a1, d1, e1, hb1⟩ := (HI.out.1.val i e he2).isSlice
      have HE1 : Hid (e.val = .slice a1 e.bs.length d1 ∧ (0 < e.bs.length → ∃ g, a1 = some ⟨g, 0, none⟩)) := ⟨e1, hb1⟩
      obtain ⟨lb, hlb⟩ : ∃ l, e.bs.length = l := ⟨_, rfl⟩
      have HLB : Hid (e.bs.length = lb) := hlb
      rw [hlb] at hlen
      have HI2 : Hid (Bk wr B K ρ (.slice (some ⟨g, 0, none⟩) n cb) vw ((wrote i es).set i { e with bs := mk i 0 ++ e.bs.drop 0 }) ∧ Off (fun k => ∃ j, ρ k = 6 + 2 * j) w wr) := ⟨by
        have := HI.out.1
        rw [← wrote_same i es e he] at this
        exact this, HI.out.2⟩
      clear HI he he2 e1 hb1 hlb hie
      go_wp2_with fail
      go_loopw [3] (fun t3 wx => ∃ k : Nat, k ≤ lb ∧ t3 = .int .i64 k ∧ Hid (Bk wx B K ρ (.slice (some ⟨g, 0, none⟩) n cb) vw ((wrote i es).set i { e with bs := mk i k ++ e.bs.drop k }) ∧ Off (fun k => ∃ j, ρ k = 6 + 2 * j) w wx)) (fun t3 _ => lb - (intOf t3).toNat)
      case atStart => exact ⟨0, Nat.zero_le _, rfl, HI2⟩
      case round =>
        obtain ⟨k, hk, rfl, HJ⟩ := hrel
        have q0 := HJ.out.1.c0
        have hie : i < (wrote i es).length := by rw [wrote_length]; have := HN.out; omega
        have hat : ((wrote i es).set i { e with bs := mk i k ++ e.bs.drop k })[i]? = some { e with bs := mk i k ++ e.bs.drop k } := List.getElem?_set_self hie
        have c1 : wr.cell? ⟨g, i, none⟩ = some e.val := HJ.out.1.rb.slot (by rw [List.getElem?_map, hat]; rfl)
        rw [HE1.out.1, HLB.out] at c1
        by_cases hlt2 : k < lb
        · have hlt3 : (k : Int) < lb := by omega
          obtain ⟨gv, rfl⟩ := HE1.out.2 (by have := HLB.out; omega)
          have hrow := HJ.out.1.val i _ hat
          have hrow2 : Row wr B (.slice (some ⟨gv, 0, none⟩) lb d1) (mk i k ++ e.bs.drop k) := by
            have h2 : Row wr B e.val (mk i k ++ e.bs.drop k) := hrow
            rw [HE1.out.1, HLB.out] at h2; exact h2
          have k1 := hrow2.slot (j := k) (by rw [List.length_append, mk_length, List.length_drop]; have := HLB.out; omega)
          have k2 := hrow2.thaw k
          have HR : Hid (Row wr B (.slice (some ⟨gv, 0, none⟩) lb d1) (mk i k ++ e.bs.drop k)) := hrow2
          obtain ⟨z, hz⟩ : ∃ z, (mk i k ++ e.bs.drop k).getD k 0 = z := ⟨_, rfl⟩
          rw [hz] at k1
          have HM : Hid (∀ x : World, Calls Try.prog 52 #[.int .i64 (i : Int), .int .i64 (k : Int)] x fun e w' => e = .returned (.int .u8 (markI i k)) ∧ w' = x) := fun x => mark_any i k (by omega) x
          clear hrow hrow2 hat hie hz
          go_wp2_with fail
          go_region_with (go_at_call 52; refine (HM.out _).mono ?_; rintro e w1 ⟨rfl, rfl⟩)
          all_goals
            go_wp2_with fail
            go_roundw
            case rel =>
              refine ⟨k + 1, hlt2, by go_num, ?_⟩
              have hb := write_step HJ.out.1 HJ.out.2 (by rw [wrote_length]; have := HN.out; omega) HE1.out.1 HLB.out hlt2 HR.out
              first
                | exact hb
                | exact ⟨hb.1.off (Off.drew (P := fun _ => False) (Off.refl _ _)) (fun _ p => p.elim), hb.2.drew⟩
                | exact ⟨hb.1.off (Off.drewN (P := fun _ => False) (Off.refl _ _) _) (fun _ p => p.elim), hb.2.drewN _⟩
            case measure => simp [intOf]; omega
        · have hlt3 : ¬ (k : Int) < lb := by omega
          obtain rfl : k = lb := by omega
          go_wp2_with fail
          go_roundw
          case rel =>
            refine ⟨i + 1, hlt, by go_num, ?_, HJ.out.2⟩
            have hb := HJ.out.1
            rw [List.drop_of_length_le (by have := HLB.out; omega), List.append_nil, ← HLB.out, wrote_set i es e HE.out] at hb
            exact hb
          case measure => simp [intOf]; omega
    · have hlt1 : ¬ (i : Int) < n := by omega
      have q2 := HI.out.1.c2
      have q4 := HI.out.1.c4
      go_wp2_with fail
      refine wp_loop_rounds 1 ?_
      rw [rounds_succ]
      go_wp2_with fail
      refine wp_loop_rounds 1 ?_
      rw [rounds_succ]
      go_wp2_with fail
      go_end0
      obtain rfl : i = n := by omega
      exact ⟨rfl, HI.out.1, HI.out.2⟩
end Go.Proofs.Ytlgjjemfckmidaa
