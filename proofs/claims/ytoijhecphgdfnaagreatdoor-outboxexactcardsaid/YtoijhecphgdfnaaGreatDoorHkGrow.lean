import Derived.Test.YtoijhecphgdfnaaGreatDoorHkTake
/-
  Book.Still: what is kept is as it came.
-/
namespace Go.Proofs.YtoijhecphgdfnaaGreatDoor.Bo
open Go.RowKit

theorem Row.isSlice {w : World} {B : Nat} {v : Value} {xs : List Int} (h : Row w B v xs) : ∃ a c, v = .slice a xs.length c ∧ (0 < xs.length → ∃ g, a = some ⟨g, 0, none⟩) := by
  rcases h.form with ⟨rfl, rfl⟩ | ⟨g, cap, rfl, _⟩
  · exact ⟨_, _, rfl, fun h => by simp at h⟩
  · exact ⟨_, _, rfl, fun _ => ⟨g, rfl⟩⟩
theorem VRow.isSlice {w : World} {B : Nat} {e : TypeId} {v : Value} {xs : List Value} (h : VRow w B e v xs) : ∃ a c, v = .slice a xs.length c ∧ (0 < xs.length → ∃ g, a = some ⟨g, 0, none⟩) := by
  rcases h.form with ⟨rfl, rfl⟩ | ⟨g, cap, rfl, _⟩
  · exact ⟨_, _, rfl, fun h => by simp at h⟩
  · exact ⟨_, _, rfl, fun _ => ⟨g, rfl⟩⟩
set_option maxRecDepth 100000 in
set_option maxHeartbeats 2000000 in
theorem Still_true {w : World} {B K : Nat} {ux : Nat → Value} {ρ : Nat → Nat} {vb vw : Value} {es : List Ent} (h : Bk w B K ux ρ vb vw es) (hs : ∀ (i : Nat) (e : Ent), es[i]? = some e → e.old = e.bs ∧ e.bs.length ≤ 70368744177664) (hm : es.length ≤ 1099511627776) :
    Calls Tryz.prog 70 #[.pointer (some ⟨K, 4, none⟩)] w fun e w' => e = .returned (.bool true) ∧ ∃ k, w' = w.drewN k := by
  have HH : Hid (Bk w B K ux ρ vb vw es) := h
  have HS : Hid (∀ (i : Nat) (e : Ent), es[i]? = some e → e.old = e.bs ∧ e.bs.length ≤ 70368744177664) := hs
  obtain ⟨ab, cb, rfl, hab⟩ := h.rb.isSlice
  obtain ⟨aw, cw, rfl, haw⟩ := h.rws.isSlice
  have HA : Hid ((0 < es.length → ∃ g, ab = some ⟨g, 0, none⟩) ∧ (0 < es.length → ∃ g, aw = some ⟨g, 0, none⟩)) := by simp only [List.length_map] at hab haw; exact ⟨hab, haw⟩
  obtain ⟨n, hn⟩ : ∃ n, es.length = n := ⟨_, rfl⟩
  have HN : Hid (es.length = n) := hn
  have q0 := h.c0
  have q1 := h.c1
  have q2 := h.c2
  have q4 := h.c4
  rw [List.length_map, hn] at q0 q1
  rw [hn] at hm
  clear h hs hab haw hn
  go_enter Tryz.func70, Tryz.ntmps70
  go_wp2_with fail
  go_loopw [3, 4] (fun t3 t4 wx => t3 = .bool true ∧ ∃ i k : Nat, i ≤ n ∧ t4 = .int .i64 i ∧ wx = w.drewN k) (fun _ t4 _ => n - (intOf t4).toNat)
  case atStart => exact ⟨rfl, 0, 0, Nat.zero_le _, rfl, rfl⟩
  case round =>
    obtain ⟨rfl, i, k, hi, rfl, rfl⟩ := hrel
    by_cases hlt : i < n
    · have hlt1 : (i : Int) < n := by omega
      obtain ⟨g, rfl⟩ := HA.out.1 (by have := HN.out; omega)
      obtain ⟨g2, rfl⟩ := HA.out.2 (by have := HN.out; omega)
      have hie : i < es.length := by have := HN.out; omega
      obtain ⟨e, he⟩ : ∃ e, es[i]? = some e := ⟨_, List.getElem?_eq_getElem hie⟩
      have c1 : w.cell? ⟨g, i, none⟩ = some e.val := HH.out.rb.slot (by rw [List.getElem?_map, he]; rfl)
      have c2 : w.cell? ⟨g2, i, none⟩ = some e.was := HH.out.rws.slot (by rw [List.getElem?_map, he]; rfl)
      have r1 := HH.out.val i e he
      have r2 := HH.out.was i e he
      obtain ⟨hold, hlen⟩ := HS.out i e he
      rw [hold] at r2
      obtain ⟨a1, d1, e1, _⟩ := r1.isSlice
      obtain ⟨a2, d2, e2, _⟩ := r2.isSlice
      rw [e1] at c1 r1
      rw [e2] at c2 r2
      have HC : Hid (∀ x, Calls Tryz.prog 51 #[.slice a1 e.bs.length d1, .slice a2 e.bs.length d2] (w.drewN (k + x)) fun ev w' => ev = .returned (.bool true) ∧ ∃ m, w' = w.drewN (k + m)) := fun x => (same_true (r1.asByts.drew (k + x)) (r2.asByts.drew (k + x)) (by omega)).mono (fun ev w' ⟨he, m, hm⟩ => ⟨he, x + m, by rw [hm]; simp [Nat.add_assoc]⟩)
      obtain ⟨lb, hlb⟩ : ∃ l, e.bs.length = l := ⟨_, rfl⟩
      rw [hlb] at c1 c2 HC
      clear r1 r2 e1 e2 hold hlen hlb he hie
      go_wp2_with fail
      go_quiet ((go_at_call 51; first | exact HC.out _ | (simp only [World.drewN_drewN]; exact HC.out _)))
      go_wp2_with fail
      go_roundw
      case rel => exact ⟨rfl, i + 1, _, hlt, by go_num, rfl⟩
      case measure => simp [intOf]; omega
    · have hlt1 : ¬ (i : Int) < n := by omega
      go_wp2_with fail
      refine wp_loop_rounds 1 ?_
      rw [rounds_succ]
      go_wp2_with fail
      refine wp_loop_rounds 1 ?_
      rw [rounds_succ]
      go_wp2_with fail
      go_ret
      exact ⟨rfl, k, rfl⟩
end Go.Proofs.YtoijhecphgdfnaaGreatDoor.Bo

/-
  couriermem.markByte: some byte of the two numbers.
-/
namespace Go.Proofs.YtoijhecphgdfnaaGreatDoor.Bo
open Go.RowKit

/-- The mark of place k in the list of number i. -/
def markI (i k : Nat) : Int := bits BinOp.xor IntKind.u8 ((i : Int) / 2 ^ (8 * (k % 3)) % 256) (53 * ((k : Int) % 3) + 1)
def mk (i n : Nat) : List Int := (List.range n).map (markI i)
theorem mk_length (i n : Nat) : (mk i n).length = n := by simp [mk]
theorem mk_succ (i n : Nat) : mk i (n + 1) = mk i n ++ [markI i n] := by simp [mk, List.range_succ]
theorem mk_getD (i n k : Nat) (h : k < n) : (mk i n).getD k 0 = markI i k := by
  rw [List.getD_eq_getElem?_getD, mk, List.getElem?_map, List.getElem?_range h]; rfl
set_option maxHeartbeats 1000000 in
theorem mark_any (i k : Nat) (hk : k ≤ 4611686018427387904) (w : World) : Calls Tryz.prog 72 #[.int .i64 (i : Int), .int .i64 (k : Int)] w fun e w' => e = .returned (.int .u8 (markI i k)) ∧ w' = w := by
  go_enter Tryz.func72, Tryz.ntmps72
  go_wp2
  go_ret
  exact ⟨rfl, rfl⟩
end Go.Proofs.YtoijhecphgdfnaaGreatDoor.Bo

/-
  Book.write: each list with marks of its own.
-/
namespace Go.Proofs.YtoijhecphgdfnaaGreatDoor.Bo
open Go.RowKit

/-- The first i lists are written over. -/
def wrote (i : Nat) (es : List Ent) : List Ent := es.mapIdx fun j e => if j < i then { e with bs := mk j e.bs.length } else e
theorem wrote_length (i : Nat) (es : List Ent) : (wrote i es).length = es.length := by simp [wrote]
theorem wrote_get (i j : Nat) (es : List Ent) (e : Ent) (h : es[j]? = some e) : (wrote i es)[j]? = some (if j < i then { e with bs := mk j e.bs.length } else e) := by simp [wrote, h]
theorem wrote_zero (es : List Ent) : wrote 0 es = es := by
  refine List.ext_getElem? fun j => ?_
  simp [wrote]
theorem wrote_set (i : Nat) (es : List Ent) (e : Ent) (h : es[i]? = some e) : (wrote i es).set i { e with bs := mk i e.bs.length } = wrote (i + 1) es := by
  refine List.ext_getElem? fun j => ?_
  have hi := (List.getElem?_eq_some_iff.1 h).1
  by_cases hj : i = j
  · subst hj
    rw [List.getElem?_set_self (by rw [wrote_length]; exact hi), wrote_get (i + 1) i es e h, if_pos (Nat.lt_succ_self _)]
  · rw [List.getElem?_set_ne hj]
    simp only [wrote, List.getElem?_mapIdx]
    cases es[j]? with
    | none => rfl
    | some x =>
      simp only [Option.map_some]
      by_cases hl : j < i
      · rw [if_pos hl, if_pos (by omega)]
      · rw [if_neg hl, if_neg (by omega)]
theorem wrote_same (i : Nat) (es : List Ent) (e : Ent) (h : es[i]? = some e) : (wrote i es).set i { e with bs := e.bs } = wrote i es := by
  refine List.ext_getElem? fun j => ?_
  have hi := (List.getElem?_eq_some_iff.1 h).1
  by_cases hj : i = j
  · subst hj
    rw [List.getElem?_set_self (by rw [wrote_length]; exact hi), wrote_get i i es e h, if_neg (Nat.lt_irrefl _)]
  · rw [List.getElem?_set_ne hj]
theorem over_next (i : Nat) (bs : List Int) (k : Nat) (h : k < bs.length) : (mk i k ++ bs.drop k).set k (markI i k) = mk i (k + 1) ++ bs.drop (k + 1) := by
  rw [List.set_append_right _ _ (by rw [mk_length]; omega), mk_length, Nat.sub_self, List.drop_eq_getElem_cons h, List.set_cons_zero, mk_succ, List.append_assoc]
  rfl
theorem write_step {w wr : World} {B K g gv n cb i k lb d1 : Nat} {ux : Nat → Value} {ρ : Nat → Nat} {vw : Value} {es : List Ent} {e : Ent} (h : Bk wr B K ux ρ (.slice (some ⟨g, 0, none⟩) n cb) vw (es.set i { e with bs := mk i k ++ e.bs.drop k })) (ho : Off (fun k => ∃ j, ρ k = 6 + 2 * j) w wr) (hi : i < es.length) (he : e.val = .slice (some ⟨gv, 0, none⟩) e.bs.length d1) (hl : e.bs.length = lb) (hk : k < lb) (hr : Row wr B (.slice (some ⟨gv, 0, none⟩) lb d1) (mk i k ++ e.bs.drop k)) :
    Bk (wr.setCell ⟨gv, k, none⟩ (.int .u8 (markI i k))) B K ux ρ (.slice (some ⟨g, 0, none⟩) n cb) vw (es.set i { e with bs := mk i (k + 1) ++ e.bs.drop (k + 1) }) ∧ Off (fun k => ∃ j, ρ k = 6 + 2 * j) w (wr.setCell ⟨gv, k, none⟩ (.int .u8 (markI i k))) := by
  have hat : (es.set i { e with bs := mk i k ++ e.bs.drop k })[i]? = some { e with bs := mk i k ++ e.bs.drop k } := List.getElem?_set_self hi
  have hp : ρ gv = 6 + 2 * i := h.pval i _ hat gv (by show e.val.ownBlock = some gv; rw [he]; rfl)
  have hrow := hr.stored k (markI i k)
  rw [over_next i e.bs k (by omega)] at hrow
  have o1 : Off (fun k => ρ k = 6 + 2 * i) wr (wr.setCell ⟨gv, k, none⟩ (.int .u8 (markI i k))) := Off.setCell (P := fun k => ρ k = 6 + 2 * i) (Off.refl _ _) (p := ⟨gv, k, none⟩) hp _
  have hb := h.touch hat o1 (bs' := mk i (k + 1) ++ e.bs.drop (k + 1)) (by
    show Row _ B e.val _
    rw [he, hl]; exact hrow)
  rw [List.set_set] at hb
  exact ⟨hb, ho.trans (o1.mono (fun k e => ⟨i, e⟩))⟩
set_option maxRecDepth 100000 in
set_option maxHeartbeats 4000000 in
theorem write_any {w : World} {B K : Nat} {ux : Nat → Value} {ρ : Nat → Nat} {vb vw : Value} {es : List Ent} (h : Bk w B K ux ρ vb vw es) (hs : ∀ (i : Nat) (e : Ent), es[i]? = some e → e.bs.length ≤ 70368744177664) (hm : es.length ≤ 1099511627776) :
    Calls Tryz.prog 71 #[.pointer (some ⟨K, 4, none⟩)] w fun e w' => e = .returned (.tuple #[]) ∧ Bk w' B K ux ρ vb vw (wrote es.length es) ∧ Off (fun k => ∃ j, ρ k = 6 + 2 * j) w w' := by
  have HS : Hid (∀ (i : Nat) (e : Ent), es[i]? = some e → e.bs.length ≤ 70368744177664) := hs
  obtain ⟨ab, cb, rfl, hab⟩ := h.rb.isSlice
  have HA : Hid (0 < es.length → ∃ g, ab = some ⟨g, 0, none⟩) := by simp only [List.length_map] at hab; exact hab
  rw [List.length_map] at h ⊢
  obtain ⟨n, hn⟩ : ∃ n, es.length = n := ⟨_, rfl⟩
  have HN : Hid (es.length = n) := hn
  rw [hn] at h hm ⊢
  have HH : Hid (Bk w B K ux ρ (.slice ab n cb) vw es) := h
  clear h hs hab hn
  go_enter Tryz.func71, Tryz.ntmps71
  go_wp2_with fail
  go_loopw [2] (fun t2 wx => ∃ i : Nat, i ≤ n ∧ t2 = .int .i64 i ∧ Hid (Bk wx B K ux ρ (.slice ab n cb) vw (wrote i es) ∧ Off (fun k => ∃ j, ρ k = 6 + 2 * j) w wx)) (fun t2 _ => n - (intOf t2).toNat)
  case atStart => exact ⟨0, Nat.zero_le _, rfl, by rw [wrote_zero]; exact HH.out, Off.refl _ _⟩
  case round =>
    obtain ⟨i, hi, rfl, HI⟩ := hrel
    have q0 := HI.out.1.c0
    by_cases hlt : i < n
    · have hlt1 : (i : Int) < n := by omega
      obtain ⟨g, rfl⟩ := HA.out (by have := HN.out; omega)
      have hie : i < es.length := by have := HN.out; omega
      obtain ⟨e, he⟩ : ∃ e, es[i]? = some e := ⟨_, List.getElem?_eq_getElem hie⟩
      have HE : Hid (es[i]? = some e) := he
      have hlen := HS.out i e he
      have he2 : (wrote i es)[i]? = some e := by rw [wrote_get i i es e he, if_neg (Nat.lt_irrefl _)]
      obtain ⟨a1, d1, e1, hb1⟩ := (HI.out.1.val i e he2).isSlice
      have HE1 : Hid (e.val = .slice a1 e.bs.length d1 ∧ (0 < e.bs.length → ∃ g, a1 = some ⟨g, 0, none⟩)) := ⟨e1, hb1⟩
      obtain ⟨lb, hlb⟩ : ∃ l, e.bs.length = l := ⟨_, rfl⟩
      have HLB : Hid (e.bs.length = lb) := hlb
      rw [hlb] at hlen
      have HI2 : Hid (Bk wr B K ux ρ (.slice (some ⟨g, 0, none⟩) n cb) vw ((wrote i es).set i { e with bs := mk i 0 ++ e.bs.drop 0 }) ∧ Off (fun k => ∃ j, ρ k = 6 + 2 * j) w wr) := ⟨by
        have := HI.out.1
        rw [← wrote_same i es e he] at this
        exact this, HI.out.2⟩
      clear HI he he2 e1 hb1 hlb hie
      go_wp2_with fail
      go_loopw [3] (fun t3 wx => ∃ k : Nat, k ≤ lb ∧ t3 = .int .i64 k ∧ Hid (Bk wx B K ux ρ (.slice (some ⟨g, 0, none⟩) n cb) vw ((wrote i es).set i { e with bs := mk i k ++ e.bs.drop k }) ∧ Off (fun k => ∃ j, ρ k = 6 + 2 * j) w wx)) (fun t3 _ => lb - (intOf t3).toNat)
      case atStart => exact ⟨0, Nat.zero_le _, rfl, HI2⟩
      case round =>
        obtain ⟨k, hk, rfl, HJ⟩ := hrel
        have q0 := HJ.out.1.c0
        have hie : i < (wrote i es).length := by rw [wrote_length]; have := HN.out; omega
        have hat : ((wrote i es).set i { e with bs := mk i k ++ e.bs.drop k })[i]? = some { e with bs := mk i k ++ e.bs.drop k } := List.getElem?_set_self hie
        have c1 : wr.cell? ⟨g, i, none⟩ = some e.val := HJ.out.1.rb.slot (by rw [List.getElem?_map, hat]; rfl)
        rw [HE1.out.1, HLB.out] at c1
        by_cases hlt2 : k < lb
        · have hlt3 : (k : Int) < lb := by omega
          obtain ⟨gv, rfl⟩ := HE1.out.2 (by have := HLB.out; omega)
          have hrow := HJ.out.1.val i _ hat
          have hrow2 : Row wr B (.slice (some ⟨gv, 0, none⟩) lb d1) (mk i k ++ e.bs.drop k) := by
            have h2 : Row wr B e.val (mk i k ++ e.bs.drop k) := hrow
            rw [HE1.out.1, HLB.out] at h2; exact h2
          have k1 := hrow2.slot (j := k) (by rw [List.length_append, mk_length, List.length_drop]; have := HLB.out; omega)
          have k2 := hrow2.thaw k
          have HR : Hid (Row wr B (.slice (some ⟨gv, 0, none⟩) lb d1) (mk i k ++ e.bs.drop k)) := hrow2
          obtain ⟨z, hz⟩ : ∃ z, (mk i k ++ e.bs.drop k).getD k 0 = z := ⟨_, rfl⟩
          rw [hz] at k1
          have HM : Hid (∀ x : World, Calls Tryz.prog 72 #[.int .i64 (i : Int), .int .i64 (k : Int)] x fun e w' => e = .returned (.int .u8 (markI i k)) ∧ w' = x) := fun x => mark_any i k (by omega) x
          clear hrow hrow2 hat hie hz
          go_wp2_with fail
          go_region_with (go_at_call 72; refine (HM.out _).mono ?_; rintro e w1 ⟨rfl, rfl⟩)
          all_goals
            go_wp2_with fail
            go_roundw
            case rel =>
              refine ⟨k + 1, hlt2, by go_num, ?_⟩
              have hb := write_step HJ.out.1 HJ.out.2 (by rw [wrote_length]; have := HN.out; omega) HE1.out.1 HLB.out hlt2 HR.out
              first
                | exact hb
                | exact ⟨hb.1.off (Off.drew (P := fun _ => False) (Off.refl _ _)) (fun _ p => p.elim), hb.2.drew⟩
                | exact ⟨hb.1.off (Off.drewN (P := fun _ => False) (Off.refl _ _) _) (fun _ p => p.elim), hb.2.drewN _⟩
            case measure => simp [intOf]; omega
        · have hlt3 : ¬ (k : Int) < lb := by omega
          obtain rfl : k = lb := by omega
          go_wp2_with fail
          go_roundw
          case rel =>
            refine ⟨i + 1, hlt, by go_num, ?_, HJ.out.2⟩
            have hb := HJ.out.1
            rw [List.drop_of_length_le (by have := HLB.out; omega), List.append_nil, ← HLB.out, wrote_set i es e HE.out] at hb
            exact hb
          case measure => simp [intOf]; omega
    · have hlt1 : ¬ (i : Int) < n := by omega
      have q2 := HI.out.1.c2
      have q4 := HI.out.1.c4
      go_wp2_with fail
      refine wp_loop_rounds 1 ?_
      rw [rounds_succ]
      go_wp2_with fail
      refine wp_loop_rounds 1 ?_
      rw [rounds_succ]
      go_wp2_with fail
      go_end0
      obtain rfl : i = n := by omega
      exact ⟨rfl, HI.out.1, HI.out.2⟩
end Go.Proofs.YtoijhecphgdfnaaGreatDoor.Bo

/-
  Lists of the book, grown by marks of their own.
-/
namespace Go.Proofs.YtoijhecphgdfnaaGreatDoor.Bo
open Go.RowKit

/-- l has grown out of v: it holds ys, v still holds bs. -/
structure Grew (w : World) (B : Nat) (v l : Value) (bs ys : List Int) : Prop where
  row : Row w B l ys
  val : Row w B v bs
  pre : ys.take bs.length = bs
  way : (∃ g n m cap, v = .slice (some ⟨g, 0, none⟩) n cap ∧ l = .slice (some ⟨g, 0, none⟩) m cap) ∨ (∀ g, l.ownBlock = some g → v.ownBlock ≠ some g)
theorem Grew.refl {w : World} {B : Nat} {v : Value} {bs : List Int} (h : Row w B v bs) : Grew w B v v bs bs := by
  refine ⟨h, h, List.take_length, ?_⟩
  rcases h.form with ⟨rfl, _⟩ | ⟨g, cap, rfl, _⟩
  · exact Or.inr (fun g e => by cases e)
  · exact Or.inl ⟨_, _, _, _, rfl, rfl⟩
theorem vrow_of_row {w : World} {B : Nat} {v : Value} {xs : List Int} (h : Row w B v xs) : VRow w B 5 v (u8s xs) := by
  unfold VRow; rw [u8s_length]; exact h
theorem row_of_vrow {w : World} {B : Nat} {v : Value} {xs : List Int} (h : VRow w B 5 v (u8s xs)) : Row w B v xs := by
  unfold VRow at h; rw [u8s_length] at h; exact h
theorem run_grow {w : World} {B : Nat} {v l : Value} {bs ys : List Int} (h : Grew w B v l bs ys) (hB : B ≤ w.heap.size) (hl : ys.length + 1 ≤ 140737488355328) (z : Int) :
    ∃ a n c w', (Builtin.append_ #[43, 43] 43 #[l, .slice (some ⟨w.heap.size, 0, none⟩) 1 1]).run Tryz.prog (w.alloc (.cells #[.int .u8 z] 5)) = .ok (.slice a n c) w' ∧ Grew w' B v (.slice a n c) bs (ys ++ [z]) ∧ Off (fun k => l.ownBlock = some k) w w' ∧ ((Value.slice a n c).ownBlock = l.ownBlock ∨ ∃ g, (Value.slice a n c).ownBlock = some g ∧ w.heap.size ≤ g) := by
  obtain ⟨i, hi, hz, hs, hby⟩ := u8info
  have hbl : Below w.heap.size w (w.alloc (.cells #[.int .u8 z] 5)) := (Below.refl w.heap.size w).alloc (Nat.le_refl _) _
  have hrow : Row (w.alloc (.cells #[.int .u8 z] 5)) B l ys := h.row.keep (fun g e => hbl.block g (h.row.lt e).2)
  have hval : Row (w.alloc (.cells #[.int .u8 z] 5)) B v bs := h.val.keep (fun g e => hbl.block g (h.val.lt e).2)
  have hbl2 : bs.length ≤ ys.length := by have := congrArg List.length h.pre; rw [List.length_take] at this; omega
  obtain ⟨v', w', hr, r, p⟩ := run_append_two (P := Tryz.prog) (w.alloc (.cells #[.int .u8 z] 5)) B 43 43 5 i _ 1 Tryz.underlying43 hi hz hs hby rfl l (u8s ys) (vrow_of_row hrow) ⟨w.heap.size, 0, none⟩ 1 1 [.int .u8 z] rfl (cell_one_new w _ _) (fun x hx => by simp only [List.mem_singleton] at hx; subst hx; rfl) (by rw [u8s_length]; unfold maxLen; omega) (by rw [u8s_length]; omega) (by simp; omega)
  have r2 : Row w' B v' (ys ++ [z]) := row_of_vrow (by rw [u8s_append]; exact r)
  have hof : Off (fun k => l.ownBlock = some k) w w' := by
    refine ((Off.refl _ w).alloc (.cells #[.int .u8 z] 5)).trans ?_
    cases p with
    | same g cap hv hv' hg => rw [hv]; exact Off.of_grown hg
    | idle hv hm hw => omega
    | fresh cap hv' hg hs => exact (Off.of_grown hg).mono (fun k e => by cases e)
  have hpre : (ys ++ [z]).take bs.length = bs := by rw [List.take_append_of_le_length hbl2]; exact h.pre
  cases p with
  | same g cap hv hv' hg =>
    subst hv; subst hv'
    refine ⟨_, _, _, w', hr, ⟨r2, ?_, hpre, ?_⟩, hof, Or.inl rfl⟩
    · rcases h.way with ⟨g1, n1, m1, c1, e1, e2⟩ | hne
      · simp only [Value.slice.injEq, Option.some.injEq, Addr.mk.injEq, and_true] at e2
        obtain ⟨rfl, _, rfl⟩ := e2
        subst e1
        have hn := h.val.len
        have hp := r2.prefix (m := n1) (by rw [u8s_length]; omega)
        rw [← hn, hpre] at hp
        rw [← hn]
        exact hp
      · exact hval.off (Off.of_grown hg) (fun k e p => by simp only [Option.some.injEq] at p; subst p; exact hne _ rfl e)
    · rcases h.way with ⟨g1, n1, m1, c1, e1, e2⟩ | hne
      · simp only [Value.slice.injEq, Option.some.injEq, Addr.mk.injEq, and_true] at e2
        obtain ⟨rfl, _, rfl⟩ := e2
        exact Or.inl ⟨_, _, _, _, e1, rfl⟩
      · exact Or.inr (fun k e => hne k e)
  | idle hv hm hw => omega
  | fresh cap hv' hg hs =>
    subst hv'
    refine ⟨_, _, _, w', hr, ⟨r2, hval.off (Off.of_grown hg) (fun k e p => by cases p), hpre, Or.inr (fun k e e2 => ?_)⟩, hof, Or.inr ⟨_, rfl, by simp⟩⟩
    simp only [Value.ownBlock, Option.some.injEq] at e
    have := (h.val.lt e2).2
    simp at e
    omega
/-- The book, and beside it the grown lists. -/
structure Gw (w : World) (B K : Nat) (ux : Nat → Value) (ρ : Nat → Nat) (vb vw vl : Value) (es : List Ent) (ls : List Value) : Prop where
  bk : Bk w B K ux ρ vb vw es
  rl : VRow w B 43 vl ls
  pl : ∀ g, vl.ownBlock = some g → ρ g = 5
  ll : ∀ (j : Nat) (l : Value) (e : Ent), ls[j]? = some l → es[j]? = some e → Row w B l (mk j (e.bs.length + 90)) ∧ ∀ g, l.ownBlock = some g → ρ g = 6 + 2 * j ∨ ρ g = 7 + 2 * j
theorem set_self (es : List Ent) (i : Nat) (e : Ent) (h : es[i]? = some e) : es.set i { e with bs := e.bs } = es := by
  refine List.ext_getElem? fun j => ?_
  have hi := (List.getElem?_eq_some_iff.1 h).1
  by_cases hj : i = j
  · subst hj; rw [List.getElem?_set_self hi, h]
  · rw [List.getElem?_set_ne hj]
theorem gw_step {w w1 w2 : World} {B K i : Nat} {ux : Nat → Value} {ρ : Nat → Nat} {vb vw vl l : Value} {a : Option Addr} {n c : Nat} {es : List Ent} {ls : List Value} {e : Ent} (h : Gw w B K ux ρ vb vw vl es ls) (hi : ls.length = i) (he : es[i]? = some e)
    (o1 : Off (fun k => ρ k = 6 + 2 * i) w w1) (hg : Grew w1 B e.val l e.bs (mk i (e.bs.length + 90))) (hlb : ∀ g, l.ownBlock = some g → e.val.ownBlock = some g ∨ w.heap.size ≤ g)
    (v2 : VRow w2 B 43 (.slice a n c) (ls ++ [l])) (o2 : Off (fun k => vl.ownBlock = some k) w1 w2) (s2 : (Value.slice a n c).ownBlock = vl.ownBlock ∨ ∃ g, (Value.slice a n c).ownBlock = some g ∧ w1.heap.size ≤ g) :
    ∃ ρ', Gw w2 B K ux ρ' vb vw (.slice a n c) es (ls ++ [l]) ∧ Off (fun k => ρ k = 6 + 2 * i ∨ vl.ownBlock = some k) w w2 ∧ (∀ k, k < w.heap.size → ρ' k = ρ k) := by
  obtain ⟨l2, hl2⟩ : ∃ x, Value.slice a n c = x := ⟨_, rfl⟩
  rw [hl2] at v2 s2 ⊢
  have hs1 := o1.size
  have hs2 := o2.size
  have hvl : ∀ g, vl.ownBlock = some g → g < w.heap.size ∧ ρ g = 5 := fun g e => ⟨(h.rl.lt e).2, h.pl g e⟩
  have b1 : Bk w1 B K ux ρ vb vw es := by
    have := h.bk.touch he o1 hg.val
    rw [set_self es i e he] at this
    exact this
  have hll : ∀ g, l.ownBlock = some g → (g < w.heap.size ∧ ρ g = 6 + 2 * i) ∨ (w.heap.size ≤ g ∧ g < w1.heap.size) := fun g eg => by
    rcases hlb g eg with q | q
    · exact Or.inl ⟨(h.bk.val i e he |>.lt q).2, h.bk.pval i e he g q⟩
    · exact Or.inr ⟨q, (hg.row.lt eg).2⟩
  have hl2b : ∀ g, l2.ownBlock = some g → (g < w.heap.size ∧ ρ g = 5) ∨ (w1.heap.size ≤ g ∧ g < w2.heap.size) := fun g eg => by
    rcases s2 with q | ⟨k, q, hk⟩
    · rw [q] at eg; exact Or.inl (hvl g eg)
    · have := (v2.lt eg).2
      rw [q] at eg; simp only [Option.some.injEq] at eg
      exact Or.inr ⟨by omega, this⟩
  refine ⟨fun k => if k < w.heap.size then ρ k else if l.ownBlock = some k then 7 + 2 * i else if l2.ownBlock = some k then 5 else 0, ⟨?_, v2, fun g eg => ?_, fun j x y hx hy => ?_⟩, (o1.mono (fun _ p => Or.inl p)).trans (o2.mono (fun k p => Or.inr p)), fun k hk => if_pos hk⟩
  · refine b1.role o2 (fun k p => Or.inr (hvl k p).2) (fun k _ h0 _ => ?_) (fun g hgs => ?_)
    · have hk : k < w.heap.size := by
        rcases Nat.lt_or_ge k w.heap.size with q | q
        · exact q
        · exact absurd (h.bk.new k q) h0
      exact if_pos hk
    · rw [if_neg (by omega), if_neg (fun q => by rcases hll g q with z | z <;> omega), if_neg (fun q => by rcases hl2b g q with z | z <;> omega)]
  · rcases hl2b g eg with q | q
    · rw [if_pos q.1]; exact q.2
    · rw [if_neg (by omega), if_neg (fun z => by rcases hll g z with z | z <;> omega), if_pos eg]
  · rcases Nat.lt_or_ge j ls.length with q | q
    · rw [List.getElem?_append_left q] at hx
      obtain ⟨r, p⟩ := h.ll j x y hx hy
      have hb : ∀ g, x.ownBlock = some g → g < w.heap.size := fun g eg => (r.lt eg).2
      refine ⟨(r.off o1 (fun g eg z => by have := p g eg; omega)).off o2 (fun g eg z => by have := p g eg; have := (hvl g z).2; omega), fun g eg => ?_⟩
      rw [if_pos (hb g eg)]; exact p g eg
    · rw [List.getElem?_append_right q] at hx
      have hj : j = ls.length := by
        rcases Nat.eq_or_lt_of_le q with z | z
        · exact z.symm
        · rw [List.getElem?_eq_none (by simp; omega)] at hx; cases hx
      subst hj
      rw [hi, he] at hy
      simp only [Nat.sub_self, List.getElem?_cons_zero, Option.some.injEq] at hx hy
      subst hx; subst hy
      rw [hi]
      refine ⟨hg.row.off o2 (fun g eg z => ?_), fun g eg => ?_⟩
      · have := hvl g z
        rcases hll g eg with z2 | z2 <;> omega
      · rcases hll g eg with z | z
        · rw [if_pos z.1]; exact Or.inl z.2
        · rw [if_neg (by omega), if_pos eg]; exact Or.inr rfl
end Go.Proofs.YtoijhecphgdfnaaGreatDoor.Bo
