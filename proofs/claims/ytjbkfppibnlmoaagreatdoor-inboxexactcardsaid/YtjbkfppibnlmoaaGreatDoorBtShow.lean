import Derived.Test.YtjbkfppibnlmoaaGreatDoorBtWrite0
/-
  Book.write over lists of bytes and lists of texts.
-/
namespace Go.Proofs.YtjbkfppibnlmoaaGreatDoor.Bt
open Go.RowKit
set_option maxRecDepth 100000 in
set_option maxHeartbeats 8000000 in
theorem Bks.write {w : World} {B K : Nat} {ρ σ : Nat → Nat} {es : List Bo.Ent} {ts : List Ent} (h : Bks w B K ρ σ es ts) (hs : ∀ (i : Nat) (e : Bo.Ent), es[i]? = some e → e.bs.length ≤ 70368744177664) (hm : es.length ≤ 1099511627776) (ht : ∀ (i : Nat) (e : Ent), ts[i]? = some e → e.bs.length ≤ 1000) (hm2 : ts.length ≤ 80) :
    Calls Tryz.prog 67 #[.pointer (some ⟨K, 0, none⟩)] w fun e w' => e = .returned (.tuple #[]) ∧ Bks w' B K ρ σ (Bo.wrote es.length es) (wrote ts.length ts) ∧ Off (fun k => (∃ j, ρ k = 6 + 2 * j) ∨ ∃ j, σ k = 6 + 2 * j) w w' := by
  obtain ⟨vb, vw, vt, vu, h1, h2⟩ := h.ex
  have HAP : Hid (∀ k, k ≠ K → ρ k = 0 ∨ σ k = 0) := h.ap
  have HSB : Hid (∀ (i : Nat) (e : Bo.Ent), es[i]? = some e → e.bs.length ≤ 70368744177664) := hs
  have HST : Hid (∀ (i : Nat) (e : Ent), ts[i]? = some e → e.bs.length ≤ 1000) := ht
  obtain ⟨ab, cb, rfl, hab⟩ := Bo.VRow.isSlice h1.rb
  obtain ⟨at', ct, rfl, hat⟩ := VRow.isSlice h2.rb
  have HA : Hid ((0 < es.length → ∃ g, ab = some ⟨g, 0, none⟩) ∧ True) := by simp only [List.length_map] at hab; exact ⟨hab, trivial⟩
  have HAT : Hid (0 < ts.length → ∃ g, at' = some ⟨g, 0, none⟩) := by simp only [List.length_map] at hat; exact hat
  rw [List.length_map, List.length_map] at h1 h2
  obtain ⟨n, hn⟩ : ∃ n, es.length = n := ⟨_, rfl⟩
  obtain ⟨n2, hn2⟩ : ∃ n, ts.length = n := ⟨_, rfl⟩
  have HNB : Hid (es.length = n) := hn
  have HNT : Hid (ts.length = n2) := hn2
  rw [hn, hn2] at h1 h2
  rw [hn] at hm
  rw [hn2] at hm2
  obtain ⟨vt, hvt⟩ : ∃ v, Value.slice at' n2 ct = v := ⟨_, rfl⟩
  have HVT : Hid (Value.slice at' n2 ct = vt) := hvt
  have HB : Hid (Bo.Bk w B K ρ (.slice ab n cb) vw vt vu es) := by rw [← hvt]; exact h1
  have HT : Hid (Bk w B K σ (.slice at' n2 ct) vu (.slice ab n cb) vw ts) := h2
  rw [hn, hn2]
  clear h h1 h2 hs ht hab hat hn hn2 hvt
  go_enter Tryz.func67, Tryz.ntmps67
  go_wp2_with fail
  go_loopw [2] (fun t2 wx => ∃ i : Nat, i ≤ n ∧ t2 = .int .i64 i ∧ Hid (Bo.Bk wx B K ρ (.slice ab n cb) vw vt vu (Bo.wrote i es) ∧ Bo.Off (fun k => ∃ j, ρ k = 6 + 2 * j) w wx)) (fun t2 _ => n - (intOf t2).toNat)
  case atStart => exact ⟨0, Nat.zero_le _, rfl, by rw [Bo.wrote_zero]; exact HB.out, Bo.Off.refl _ _⟩
  case round =>
    obtain ⟨i, hi, rfl, HI⟩ := hrel
    have q0 := HI.out.1.c0
    by_cases hlt : i < n
    · have hlt1 : (i : Int) < n := by omega
      obtain ⟨g, rfl⟩ := HA.out.1 (by have := HNB.out; omega)
      have hie : i < es.length := by have := HNB.out; omega
      obtain ⟨e, he⟩ : ∃ e, es[i]? = some e := ⟨_, List.getElem?_eq_getElem hie⟩
      have HE : Hid (es[i]? = some e) := he
      have hlen := HSB.out i e he
      have he2 : (Bo.wrote i es)[i]? = some e := by rw [Bo.wrote_get i i es e he, if_neg (Nat.lt_irrefl _)]
      obtain ⟨a1, d1, e1, hb1⟩ := Bo.Row.isSlice (HI.out.1.val i e he2)
      have HE1 : Hid (e.val = .slice a1 e.bs.length d1 ∧ (0 < e.bs.length → ∃ g, a1 = some ⟨g, 0, none⟩)) := ⟨e1, hb1⟩
      obtain ⟨lb, hlb⟩ : ∃ l, e.bs.length = l := ⟨_, rfl⟩
      have HLB : Hid (e.bs.length = lb) := hlb
      rw [hlb] at hlen
      have HI2 : Hid (Bo.Bk wr B K ρ (.slice (some ⟨g, 0, none⟩) n cb) vw vt vu ((Bo.wrote i es).set i { e with bs := Bo.mk i 0 ++ e.bs.drop 0 }) ∧ Bo.Off (fun k => ∃ j, ρ k = 6 + 2 * j) w wr) := ⟨by
        have := HI.out.1
        rw [← Bo.wrote_same i es e he] at this
        exact this, HI.out.2⟩
      clear HI he he2 e1 hb1 hlb hie
      go_wp2_with fail
      go_loopw [3] (fun t3 wx => ∃ k : Nat, k ≤ lb ∧ t3 = .int .i64 k ∧ Hid (Bo.Bk wx B K ρ (.slice (some ⟨g, 0, none⟩) n cb) vw vt vu ((Bo.wrote i es).set i { e with bs := Bo.mk i k ++ e.bs.drop k }) ∧ Bo.Off (fun k => ∃ j, ρ k = 6 + 2 * j) w wx)) (fun t3 _ => lb - (intOf t3).toNat)
      case atStart => exact ⟨0, Nat.zero_le _, rfl, HI2⟩
      case round =>
        obtain ⟨k, hk, rfl, HJ⟩ := hrel
        have q0 := HJ.out.1.c0
        have hie : i < (Bo.wrote i es).length := by rw [Bo.wrote_length]; have := HNB.out; omega
        have hat : ((Bo.wrote i es).set i { e with bs := Bo.mk i k ++ e.bs.drop k })[i]? = some { e with bs := Bo.mk i k ++ e.bs.drop k } := List.getElem?_set_self hie
        have c1 : wr.cell? ⟨g, i, none⟩ = some e.val := HJ.out.1.rb.slot (by rw [List.getElem?_map, hat]; rfl)
        rw [HE1.out.1, HLB.out] at c1
        by_cases hlt2 : k < lb
        · have hlt3 : (k : Int) < lb := by omega
          obtain ⟨gv, rfl⟩ := HE1.out.2 (by have := HLB.out; omega)
          have hrow := HJ.out.1.val i _ hat
          have hrow2 : Bo.Row wr B (.slice (some ⟨gv, 0, none⟩) lb d1) (Bo.mk i k ++ e.bs.drop k) := by
            have h2 : Bo.Row wr B e.val (Bo.mk i k ++ e.bs.drop k) := hrow
            rw [HE1.out.1, HLB.out] at h2; exact h2
          have k1 := Bo.Row.slot hrow2 (j := k) (by rw [List.length_append, Bo.mk_length, List.length_drop]; have := HLB.out; omega)
          have k2 := Bo.Row.thaw hrow2 k
          have HR : Hid (Bo.Row wr B (.slice (some ⟨gv, 0, none⟩) lb d1) (Bo.mk i k ++ e.bs.drop k)) := hrow2
          obtain ⟨z, hz⟩ : ∃ z, (Bo.mk i k ++ e.bs.drop k).getD k 0 = z := ⟨_, rfl⟩
          rw [hz] at k1
          have HM : Hid (∀ x : World, Calls Tryz.prog 68 #[.int .i64 (i : Int), .int .i64 (k : Int)] x fun e w' => e = .returned (.int .u8 (Bo.markI i k)) ∧ w' = x) := fun x => Bo.mark_any i k (by omega) x
          clear hrow hrow2 hat hie hz
          go_wp2_with fail
          go_region_with (go_at_call 68; refine (HM.out _).mono ?_; rintro e w1 ⟨rfl, rfl⟩)
          all_goals
            go_wp2_with fail
            go_roundw
            case rel =>
              refine ⟨k + 1, hlt2, by go_num, ?_⟩
              have hb := Bo.write_step HJ.out.1 HJ.out.2 (by rw [Bo.wrote_length]; have := HNB.out; omega) HE1.out.1 HLB.out hlt2 HR.out
              first
                | exact hb
                | exact ⟨hb.1.off (Bo.Off.drew (P := fun _ => False) (Bo.Off.refl _ _)) (fun _ p => p.elim), hb.2.drew⟩
                | exact ⟨hb.1.off (Bo.Off.drewN (P := fun _ => False) (Bo.Off.refl _ _) _) (fun _ p => p.elim), hb.2.drewN _⟩
            case measure => simp [intOf]; omega
        · have hlt3 : ¬ (k : Int) < lb := by omega
          obtain rfl : k = lb := by omega
          go_wp2_with fail
          go_roundw
          case rel =>
            refine ⟨i + 1, hlt, by go_num, ?_, HJ.out.2⟩
            have hb := HJ.out.1
            rw [List.drop_of_length_le (by have := HLB.out; omega), List.append_nil, ← HLB.out, Bo.wrote_set i es e HE.out] at hb
            exact hb
          case measure => simp [intOf]; omega
    · have hlt1 : ¬ (i : Int) < n := by omega
      obtain rfl : i = n := by omega
      obtain ⟨w1, hw1⟩ : ∃ x, x = wr := ⟨_, rfl⟩
      subst hw1
      have hT1 : Bk w1 B K σ (.slice at' n2 ct) vu (.slice ab i cb) vw ts := HT.out.off (off_bt HI.out.2) (fun k ⟨j, p⟩ => by
        rcases Classical.em (k = K) with e | e
        · have := HB.out.pK; rw [e] at p; omega
        · rcases HAP.out k e with q | q
          · omega
          · exact q)
      have HB1 : Hid (Bo.Bk w1 B K ρ (.slice ab i cb) vw vt vu (Bo.wrote i es) ∧ Bo.Off (fun k => ∃ j, ρ k = 6 + 2 * j) w w1) := HI.out
      have HT1 : Hid (Bk w1 B K σ (.slice at' n2 ct) vu (.slice ab i cb) vw ts) := hT1
      have q2 := hT1.c2
      have q4 := hT1.c4
      clear HI hT1 HT HB
      go_wp2_with fail
      refine wp_loop_rounds 1 ?_
      rw [rounds_succ]
      go_wp2_with fail
      clear q0 q2 q4
      obtain ⟨vb, hvb⟩ : ∃ v, Value.slice ab i cb = v := ⟨_, rfl⟩
      rw [hvb] at HT1 HB1
      have HT : Hid (Bk w1 B K σ (.slice at' n2 ct) vu vb vw ts) := HT1
      clear hvb HT1
      go_loopw [6] (fun t2 wx => ∃ i : Nat, i ≤ n2 ∧ t2 = .int .i64 i ∧ Hid (Bk wx B K σ (.slice at' n2 ct) vu vb vw (wrote i ts) ∧ Off (fun k => ∃ j, σ k = 6 + 2 * j) w1 wx)) (fun t2 _ => n2 - (intOf t2).toNat)
      case atStart => exact ⟨0, Nat.zero_le _, rfl, by rw [wrote_zero]; exact HT.out, Off.refl _ _⟩
      case round =>
        obtain ⟨i, hi, rfl, HI⟩ := hrel
        have q0 := HI.out.1.c4
        by_cases hlt : i < n2
        · have hlt1 : (i : Int) < n2 := by omega
          obtain ⟨g, rfl⟩ := HAT.out (by have := HNT.out; omega)
          have hie : i < ts.length := by have := HNT.out; omega
          obtain ⟨e, he⟩ : ∃ e, ts[i]? = some e := ⟨_, List.getElem?_eq_getElem hie⟩
          have HE : Hid (ts[i]? = some e) := he
          have hlen := HST.out i e he
          have he2 : (wrote i ts)[i]? = some e := by rw [wrote_get i i ts e he, if_neg (Nat.lt_irrefl _)]
          obtain ⟨a1, d1, e1, hb1⟩ := VRow.isSlice (HI.out.1.val i e he2)
          have HE1 : Hid (e.val = .slice a1 e.bs.length d1 ∧ (0 < e.bs.length → ∃ g, a1 = some ⟨g, 0, none⟩)) := ⟨e1, hb1⟩
          obtain ⟨lb, hlb⟩ : ∃ l, e.bs.length = l := ⟨_, rfl⟩
          have HLB : Hid (e.bs.length = lb) := hlb
          rw [hlb] at hlen
          have HI2 : Hid (Bk wr B K σ (.slice (some ⟨g, 0, none⟩) n2 ct) vu vb vw ((wrote i ts).set i { e with bs := Bt.mk i 0 ++ e.bs.drop 0 }) ∧ Off (fun k => ∃ j, σ k = 6 + 2 * j) w1 wr) := ⟨by
            have := HI.out.1
            rw [← wrote_same i ts e he] at this
            exact this, HI.out.2⟩
          clear HI he he2 e1 hb1 hlb hie
          go_wp2_with fail
          go_loopw [7] (fun t3 wx => ∃ k : Nat, k ≤ lb ∧ t3 = .int .i64 k ∧ Hid (Bk wx B K σ (.slice (some ⟨g, 0, none⟩) n2 ct) vu vb vw ((wrote i ts).set i { e with bs := Bt.mk i k ++ e.bs.drop k }) ∧ Off (fun k => ∃ j, σ k = 6 + 2 * j) w1 wx)) (fun t3 _ => lb - (intOf t3).toNat)
          case atStart => exact ⟨0, Nat.zero_le _, rfl, HI2⟩
          case round =>
            obtain ⟨k, hk, rfl, HJ⟩ := hrel
            have q0 := HJ.out.1.c4
            have hie : i < (wrote i ts).length := by rw [wrote_length]; have := HNT.out; omega
            have hat : ((wrote i ts).set i { e with bs := Bt.mk i k ++ e.bs.drop k })[i]? = some { e with bs := Bt.mk i k ++ e.bs.drop k } := List.getElem?_set_self hie
            have c1 : wr.cell? ⟨g, i, none⟩ = some e.val := HJ.out.1.rb.slot (by rw [List.getElem?_map, hat]; rfl)
            rw [HE1.out.1, HLB.out] at c1
            by_cases hlt2 : k < lb
            · have hlt3 : (k : Int) < lb := by omega
              obtain ⟨gv, rfl⟩ := HE1.out.2 (by have := HLB.out; omega)
              have hrow := HJ.out.1.val i _ hat
              have hrow2 : TRow wr B (.slice (some ⟨gv, 0, none⟩) lb d1) (Bt.mk i k ++ e.bs.drop k) := by
                have h2 : TRow wr B e.val (Bt.mk i k ++ e.bs.drop k) := hrow
                rw [HE1.out.1, HLB.out] at h2; exact h2
              obtain ⟨z, hz⟩ : ∃ z, (Bt.mk i k ++ e.bs.drop k)[k]? = some z := ⟨_, List.getElem?_eq_getElem (by rw [List.length_append, mk_length, List.length_drop]; have := HLB.out; omega)⟩
              have k1 : wr.cell? ⟨gv, k, none⟩ = some z := VRow.slot hrow2 hz
              have k2 := VRow.thaw hrow2 k
              obtain ⟨M, hM⟩ : ∃ M, mkT i = .string M := ⟨_, rfl⟩
              have HMM : Hid (mkT i = .string M) := hM
              have HR : Hid (TRow wr B (.slice (some ⟨gv, 0, none⟩) lb d1) (Bt.mk i k ++ e.bs.drop k) ∧ gv < wr.heap.size ∧ g < wr.heap.size ∧ K < wr.heap.size) := ⟨hrow2, cell_lt k1, cell_lt c1, HJ.out.1.lt⟩
              have HM : Hid (∀ x : World, Below wr.heap.size wr x → Calls Tryz.prog 70 #[.int .i64 (i : Int)] x fun e w' => e = .returned (.string M) ∧ w'.cell? ⟨K, 4, none⟩ = some (.slice (some ⟨g, 0, none⟩) n2 ct) ∧ w'.cell? ⟨g, i, none⟩ = some (.slice (some ⟨gv, 0, none⟩) lb d1) ∧ w'.cell? ⟨gv, k, none⟩ = some z ∧ w'.frozen? ⟨gv, k, none⟩ = false ∧ Hid (Below wr.heap.size wr w')) := fun x hx => (mark_any i (by omega) x).mono fun _ w' q => by
                have hb := below_then hx q.2
                refine ⟨by rw [q.1, hM], ?_, ?_, ?_, ?_, hb⟩
                · rw [hb.cell (p := ⟨K, 4, none⟩) HR.out.2.2.2]; exact q0
                · rw [hb.cell (p := ⟨g, i, none⟩) HR.out.2.2.1]; exact c1
                · rw [hb.cell (p := ⟨gv, k, none⟩) HR.out.2.1]; exact k1
                · rw [hb.frozen (p := ⟨gv, k, none⟩) HR.out.2.1]; exact k2
              clear hrow hrow2 hat hie hz hM
              go_wp2_with fail
              go_region_with (go_at_call 70; refine (HM.out _ (by first | exact Below.refl _ _ | exact Below.drew (Below.refl _ _) | exact below_drewN (Below.refl _ _) _)).mono ?_; rintro _ w1 ⟨rfl, n0, n1, n2, n3, HB1⟩)
              all_goals
                go_wp2_with fail
                go_roundw
                case rel =>
                  refine ⟨k + 1, hlt2, by go_num, ?_⟩
                  have hj1 := HJ.out.1.off (Off.of_below (P := fun _ => False) HB1.out) (fun _ p => p.elim)
                  have hb := write_step hj1 (HJ.out.2.trans (Off.of_below HB1.out)) (by rw [wrote_length]; have := HNT.out; omega) HE1.out.1 HLB.out hlt2 (VRow.below HR.out.1 HB1.out)
                  rw [HMM.out] at hb
                  first
                    | exact hb
                    | exact ⟨hb.1.off (Off.drew (P := fun _ => False) (Off.refl _ _)) (fun _ p => p.elim), hb.2.drew⟩
                    | exact ⟨hb.1.off (Off.drewN (P := fun _ => False) (Off.refl _ _) _) (fun _ p => p.elim), hb.2.drewN _⟩
                case measure => simp [intOf]; omega
            · have hlt3 : ¬ (k : Int) < lb := by omega
              obtain rfl : k = lb := by omega
              go_wp2_with fail
              go_roundw
              case rel =>
                refine ⟨i + 1, hlt, by go_num, ?_, HJ.out.2⟩
                have hb := HJ.out.1
                rw [List.drop_of_length_le (by have := HLB.out; omega), List.append_nil, ← HLB.out, wrote_set i ts e HE.out] at hb
                exact hb
              case measure => simp [intOf]; omega
        · have hlt1 : ¬ (i : Int) < n2 := by omega
          go_wp2_with fail
          go_end0
          obtain rfl : i = n2 := by omega
          refine ⟨rfl, ⟨⟨vb, vw, .slice at' i ct, vu, ?_, HI.out.1⟩, HAP.out⟩, ((off_bt HB1.out.2).mono fun k p => Or.inl p).trans (HI.out.2.mono fun k p => Or.inr p)⟩
          rw [HVT.out]
          exact HB1.out.1.off (off_bo HI.out.2) (fun k ⟨j, p⟩ => by
            rcases Classical.em (k = K) with e | e
            · have := HI.out.1.pK; rw [e] at p; omega
            · rcases HAP.out k e with q | q
              · exact q
              · omega)
end Go.Proofs.YtjbkfppibnlmoaaGreatDoor.Bt

/-
  Book.shows over lists of bytes and lists of texts: no list shows in another.
-/
namespace Go.Proofs.YtjbkfppibnlmoaaGreatDoor.Bt
open Go.RowKit
set_option maxRecDepth 100000 in
set_option maxHeartbeats 8000000 in
theorem shows_both {w : World} {B K : Nat} {ρ σ : Nat → Nat} {vb vw vt vu vl vm : Value} {es : List Bo.Ent} {ls : List Value} {ts : List Ent} {lt : List Value} (h : Bo.Gw w B K ρ vb vw vt vu vl es ls) (hl : ls.length = es.length) (hs : ∀ (i : Nat) (e : Bo.Ent), es[i]? = some e → e.bs = Bo.mk i e.bs.length ∧ e.bs.length ≤ 70368744177664) (hm : es.length ≤ 1099511627776)
    (h2 : Gw w B K σ vt vu vb vw vm ts lt) (hl2 : lt.length = ts.length) (ht : ∀ (i : Nat) (e : Ent), ts[i]? = some e → e.bs = Bt.mk i e.bs.length ∧ e.bs.length ≤ 1000) (hm2 : ts.length ≤ 80) :
    Calls Tryz.prog 71 #[.pointer (some ⟨K, 0, none⟩), vl, .slice none 0 0, vm] w fun e w' => e = .returned (.bool true) ∧ Below w.heap.size w w' := by
  have HSB : Hid (∀ (i : Nat) (e : Bo.Ent), es[i]? = some e → e.bs = Bo.mk i e.bs.length ∧ e.bs.length ≤ 70368744177664) := hs
  have HST : Hid (∀ (i : Nat) (e : Ent), ts[i]? = some e → e.bs = Bt.mk i e.bs.length ∧ e.bs.length ≤ 1000) := ht
  obtain ⟨ab, cb, rfl, hab⟩ := Bo.VRow.isSlice h.bk.rb
  obtain ⟨al, cl, rfl, hal⟩ := Bo.VRow.isSlice h.rl
  obtain ⟨at', ct, rfl, hat⟩ := VRow.isSlice h2.bk.rb
  obtain ⟨am, cm, rfl, ham⟩ := VRow.isSlice h2.rl
  rw [List.length_map] at hab hat
  rw [List.length_map, List.length_map] at h h2
  obtain ⟨n, hn⟩ : ∃ n, es.length = n := ⟨_, rfl⟩
  obtain ⟨n2, hn2⟩ : ∃ n, ts.length = n := ⟨_, rfl⟩
  rw [hl] at h hal
  rw [hl2] at h2 ham
  rw [hn] at hm hab hal hl
  rw [hn, hn2] at h h2
  rw [hn2] at hm2 hat ham hl2
  have HAB : Hid ((0 < n → ∃ g, ab = some ⟨g, 0, none⟩) ∧ (0 < n → ∃ g, al = some ⟨g, 0, none⟩) ∧ es.length = n ∧ ls.length = n) := ⟨hab, hal, hn, hl⟩
  have HAT : Hid ((0 < n2 → ∃ g, at' = some ⟨g, 0, none⟩) ∧ (0 < n2 → ∃ g, am = some ⟨g, 0, none⟩) ∧ ts.length = n2 ∧ lt.length = n2) := ⟨hat, ham, hn2, hl2⟩
  have HB : Hid (Bo.Gw w B K ρ (.slice ab n cb) vw (.slice at' n2 ct) vu (.slice al n cl) es ls) := h
  have HT : Hid (Gw w B K σ (.slice at' n2 ct) vu (.slice ab n cb) vw (.slice am n2 cm) ts lt) := h2
  have q0 := h.bk.c0
  have en : ls.length = n := hl
  have en2 : lt.length = n2 := hl2
  rw [en, en2]
  clear h h2 hs ht hab hal hat ham hn hn2 hl hl2 en en2
  go_enter Tryz.func71, Tryz.ntmps71
  go_wp2_with fail
  go_loopw [9] (fun t9 wx => ∃ i x : Nat, i ≤ n ∧ t9 = .int .i64 i ∧ wx = w.drewN x) (fun t9 _ => n - (intOf t9).toNat)
  case atStart => exact ⟨0, 0, Nat.zero_le _, rfl, rfl⟩
  case round =>
    obtain ⟨i, x, hi, rfl, rfl⟩ := hrel
    by_cases hlt : i < n
    · have hlt1 : (i : Int) < n := by omega
      obtain ⟨g, rfl⟩ := HAB.out.1 (by omega)
      obtain ⟨g2, rfl⟩ := HAB.out.2.1 (by omega)
      obtain ⟨e, he⟩ : ∃ e, es[i]? = some e := ⟨_, List.getElem?_eq_getElem (by have := HAB.out.2.2.1; omega)⟩
      obtain ⟨l, hl⟩ : ∃ l, ls[i]? = some l := ⟨_, List.getElem?_eq_getElem (by have := HAB.out.2.2.2; omega)⟩
      have c1 : w.cell? ⟨g, i, none⟩ = some e.val := HB.out.bk.rb.slot (by rw [List.getElem?_map, he]; rfl)
      have c2 : w.cell? ⟨g2, i, none⟩ = some l := HB.out.rl.slot hl
      have r1 := HB.out.bk.val i e he
      obtain ⟨hmk, hlen⟩ := HSB.out i e he
      have r2 := (HB.out.ll i l e hl he).1
      obtain ⟨a1, d1, e1, hb1⟩ := Bo.Row.isSlice r1
      obtain ⟨a2, d2, e2, hb2⟩ := Bo.Row.isSlice r2
      obtain ⟨m, hm1⟩ : ∃ m, e.bs.length = m := ⟨_, rfl⟩
      rw [Bo.mk_length, hm1] at e2
      rw [hm1] at e1 hlen hmk
      rw [e1] at c1
      rw [e2] at c2
      have HR : Hid (Bo.Row w B (.slice a1 m d1) (Bo.mk i m) ∧ Bo.Row w B (.slice a2 (m + 90) d2) (Bo.mk i (m + 90)) ∧ (0 < m → ∃ g, a1 = some ⟨g, 0, none⟩) ∧ ∃ g, a2 = some ⟨g, 0, none⟩) := ⟨by rw [← e1, ← hmk]; exact r1, by rw [← e2, ← hm1]; exact r2, by rw [hm1] at hb1; exact hb1, hb2 (by rw [Bo.mk_length]; omega)⟩
      clear r1 r2 hmk e1 e2 hb1 hb2 hm1 he hl
      go_wp2_with fail
      go_loopw [10] (fun t10 wx => ∃ k y : Nat, k ≤ m + 90 ∧ t10 = .int .i64 k ∧ wx = w.drewN y) (fun t10 _ => m + 90 - (intOf t10).toNat)
      case atStart => exact ⟨0, x, Nat.zero_le _, rfl, rfl⟩
      case round =>
        obtain ⟨k, y, hk, rfl, rfl⟩ := hrel
        by_cases hlt2 : k < m + 90
        · have hlt3 : (k : Int) < (m : Int) + 90 := by omega
          obtain ⟨gl, rfl⟩ := HR.out.2.2.2
          have k2 : w.cell? ⟨gl, k, none⟩ = some (.int .u8 (Bo.markI i k)) := by
            have := Bo.Row.slot HR.out.2.1 (j := k) (by rw [Bo.mk_length]; omega)
            rw [Bo.mk_getD i _ k hlt2] at this; exact this
          have HM : Hid (∀ z, Calls Tryz.prog 68 #[.int .i64 (i : Int), .int .i64 (k : Int)] (w.drewN (y + z)) fun e w' => e = .returned (.int .u8 (Bo.markI i k)) ∧ ∃ u, w' = w.drewN (y + u)) := fun z => (Bo.mark_any i k (by omega) _).mono (fun e w' ⟨h1, h2⟩ => ⟨h1, z, h2⟩)
          by_cases hlt4 : k < m
          · have hlt5 : (k : Int) < m := by omega
            obtain ⟨gv, rfl⟩ := HR.out.2.2.1 (by omega)
            have k1 : w.cell? ⟨gv, k, none⟩ = some (.int .u8 (Bo.markI i k)) := by
              have := Bo.Row.slot HR.out.1 (j := k) (by rw [Bo.mk_length]; omega)
              rw [Bo.mk_getD i _ k hlt4] at this; exact this
            go_wp2_with fail
            go_quiet ((go_at_call 68; exact HM.out _))
            go_wp2_with fail
            go_roundw
            case rel => exact ⟨k + 1, _, hlt2, by go_num, rfl⟩
            case measure => simp [intOf]; omega
          · have hlt5 : ¬ (k : Int) < m := by omega
            go_wp2_with fail
            go_quiet ((go_at_call 68; exact HM.out _))
            go_wp2_with fail
            go_roundw
            case rel => exact ⟨k + 1, _, hlt2, by go_num, rfl⟩
            case measure => simp [intOf]; omega
        · have hlt3 : ¬ (k : Int) < (m : Int) + 90 := by omega
          go_wp2_with fail
          go_roundw
          case rel => exact ⟨i + 1, _, hlt, by go_num, rfl⟩
          case measure => simp [intOf]; omega
    · have hlt1 : ¬ (i : Int) < n := by omega
      go_wp2_with fail
      refine wp_loop_rounds 1 ?_
      rw [rounds_succ]
      go_wp2_with fail
      go_loopw [13] (fun t13 wx => ∃ i : Nat, i ≤ n2 ∧ t13 = .int .i64 i ∧ Hid (Below w.heap.size w wx)) (fun t13 _ => n2 - (intOf t13).toNat)
      case atStart => exact ⟨0, Nat.zero_le _, rfl, below_drewN (Below.refl _ _) _⟩
      case round =>
        obtain ⟨i, hi, rfl, HI⟩ := hrel
        by_cases hlt : i < n2
        · have hlt1 : (i : Int) < n2 := by omega
          obtain ⟨g, rfl⟩ := HAT.out.1 (by omega)
          obtain ⟨g2, rfl⟩ := HAT.out.2.1 (by omega)
          obtain ⟨e, he⟩ : ∃ e, ts[i]? = some e := ⟨_, List.getElem?_eq_getElem (by have := HAT.out.2.2.1; omega)⟩
          obtain ⟨l, hl⟩ : ∃ l, lt[i]? = some l := ⟨_, List.getElem?_eq_getElem (by have := HAT.out.2.2.2; omega)⟩
          have c1 : w.cell? ⟨g, i, none⟩ = some e.val := VRow.slot HT.out.bk.rb (by rw [List.getElem?_map, he]; rfl)
          have c2 : w.cell? ⟨g2, i, none⟩ = some l := VRow.slot HT.out.rl hl
          have r1 := HT.out.bk.val i e he
          obtain ⟨hmk, hlen⟩ := HST.out i e he
          have r2 := (HT.out.ll i l e hl he).1
          obtain ⟨a1, d1, e1, hb1⟩ := VRow.isSlice r1
          obtain ⟨a2, d2, e2, hb2⟩ := VRow.isSlice r2
          obtain ⟨m, hm1⟩ : ∃ m, e.bs.length = m := ⟨_, rfl⟩
          rw [mk_length, hm1] at e2
          rw [hm1] at e1 hlen hmk
          rw [e1] at c1
          rw [e2] at c2
          have HR : Hid (TRow w B (.slice a1 m d1) (Bt.mk i m) ∧ TRow w B (.slice a2 (m + 90) d2) (Bt.mk i (m + 90)) ∧ w.cell? ⟨g, i, none⟩ = some (.slice a1 m d1) ∧ w.cell? ⟨g2, i, none⟩ = some (.slice a2 (m + 90) d2) ∧ w.cell? ⟨K, 4, none⟩ = some (.slice (some ⟨g, 0, none⟩) n2 ct)) := ⟨by rw [← e1, ← hmk]; exact r1, by rw [← e2, ← hm1]; exact r2, c1, c2, HT.out.bk.c4⟩
          have c2' : wr.cell? ⟨g2, i, none⟩ = some (.slice a2 (m + 90) d2) := by rw [HI.out.cell (p := ⟨g2, i, none⟩) (cell_lt c2)]; exact c2
          clear r1 r2 hmk e1 e2 hb1 hb2 hm1 he hl c1 c2
          obtain ⟨M, hM⟩ : ∃ M, mkT i = .string M := ⟨_, rfl⟩
          have HM : Hid (∀ (V : World) (x : Sub V), Calls Tryz.prog 70 #[.int .i64 (i : Int)] x.1 fun r x' => r = .returned (.string M) ∧ ∃ y : Sub V, x' = y.1) := fun V x => sub_of (fun y => (mark_any i (by omega) y).mono fun _ _ q => ⟨by rw [q.1, hM], q.2⟩) x
          have HMM : Hid (mkT i = .string M) := hM
          clear hM
          go_wp2_with fail
          go_loopw [14] (fun t14 wx => ∃ k : Nat, k ≤ m + 90 ∧ t14 = .int .i64 k ∧ Hid (Below w.heap.size w wx)) (fun t14 _ => m + 90 - (intOf t14).toNat)
          case atStart => exact ⟨0, Nat.zero_le _, rfl, HI⟩
          case round =>
            obtain ⟨k, hk, rfl, HJ⟩ := hrel
            obtain ⟨h1, h2, c1, c2, c4⟩ := HR.out
            have tr : ∀ (x : Sub wr) (p : Addr) (v : Value), w.cell? p = some v → x.1.cell? p = some v := fun x p v hv => by
              rw [(below_then HJ.out x.2).cell (p := p) (cell_lt hv)]; exact hv
            have c2'' : wr.cell? ⟨g2, i, none⟩ = some (.slice a2 (m + 90) d2) := tr ⟨wr, Below.refl _ _⟩ _ _ c2
            by_cases hlt2 : k < m + 90
            · have hlt3 : (k : Int) < (m : Int) + 90 := by omega
              obtain ⟨gl, rfl, k2⟩ := VRow.at_ h2 (mk_get i (m + 90) k hlt2)
              rw [HMM.out] at k2
              have t1 := fun x : Sub wr => tr x _ _ c1
              have t2 := fun x : Sub wr => tr x _ _ c2
              have t4 := fun x : Sub wr => tr x _ _ c4
              have t5 := fun x : Sub wr => tr x _ _ k2
              have h1c := HM.out wr
              haveI hne : Nonempty (Sub wr) := ⟨⟨wr, Below.refl _ _⟩⟩
              by_cases hlt4 : k < m
              · have hlt5 : (k : Int) < m := by omega
                obtain ⟨gv, rfl, k1⟩ := VRow.at_ h1 (mk_get i m k hlt4)
                rw [HMM.out] at k1
                have t6 := fun x : Sub wr => tr x _ _ k1
                clear tr h1 h2 c1 c2 c4 k1 k2
                go_wp2_with fail
                refine wp_region_class (V := wr) (Below.refl _ _) (by kernel_rfl) (by kernel_rfl) ?_
                repeat (go_big_quiet_step ((go_at_call 70; exact h1c _)))
                refine wpQuiet_nil ?_
                rintro wc ⟨xwc, rfl⟩
                have HB : Hid (Below w.heap.size w xwc.1) := below_then HJ.out xwc.2
                clear h1c t1 t2 t4 t5 t6 hne
                go_wp2_with fail
                go_roundw
                case rel => exact ⟨k + 1, hlt2, by go_num, HB⟩
                case measure => simp [intOf]; omega
              · have hlt5 : ¬ (k : Int) < m := by omega
                clear tr h1 h2 c1 c2 c4 k2
                go_wp2_with fail
                refine wp_region_class (V := wr) (Below.refl _ _) (by kernel_rfl) (by kernel_rfl) ?_
                repeat (go_big_quiet_step ((go_at_call 70; exact h1c _)))
                refine wpQuiet_nil ?_
                rintro wc ⟨xwc, rfl⟩
                have HB : Hid (Below w.heap.size w xwc.1) := below_then HJ.out xwc.2
                clear h1c t1 t2 t4 t5 hne
                go_wp2_with fail
                go_roundw
                case rel => exact ⟨k + 1, hlt2, by go_num, HB⟩
                case measure => simp [intOf]; omega
            · have hlt3 : ¬ (k : Int) < (m : Int) + 90 := by omega
              go_wp2_with fail
              go_roundw
              case rel => exact ⟨i + 1, hlt, by go_num, HJ⟩
              case measure => simp [intOf]; omega
        · have hlt1 : ¬ (i : Int) < n2 := by omega
          go_wp2_with fail
          go_ret
          exact ⟨rfl, HI.out⟩
end Go.Proofs.YtjbkfppibnlmoaaGreatDoor.Bt
