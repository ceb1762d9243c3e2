/-
  Book.shows: no list shows in another.
-/
import Derived.Test.YtommpallecaadaaDoorBookGrow
namespace Go.Proofs.YtommpallecaadaaDoor
open Go.RowKit

set_option maxRecDepth 100000 in
set_option maxHeartbeats 4000000 in
theorem shows_true {w : World} {B K : Nat} {ρ : Nat → Nat} {vb vw vl : Value} {es : List Ent} {ls : List Value} (h : Gw w B K ρ vb vw vl es ls) (hl : ls.length = es.length) (hs : ∀ (i : Nat) (e : Ent), es[i]? = some e → e.bs = mk i e.bs.length ∧ e.bs.length ≤ 70368744177664) (hm : es.length ≤ 1099511627776) :
    Calls Tryd.prog 34 #[.pointer (some ⟨K, 0, none⟩), vl, .slice none 0 0, .slice none 0 0] w fun e w' => e = .returned (.bool true) ∧ ∃ k, w' = w.drewN k := by
  have HS : Hid (∀ (i : Nat) (e : Ent), es[i]? = some e → e.bs = mk i e.bs.length ∧ e.bs.length ≤ 70368744177664) := hs
  obtain ⟨ab, cb, rfl, hab⟩ := h.bk.rb.isSlice
  obtain ⟨al, cl, rfl, hal⟩ := h.rl.isSlice
  rw [List.length_map] at h hab
  obtain ⟨n, hn⟩ : ∃ n, es.length = n := ⟨_, rfl⟩
  rw [hl] at h hal
  rw [hn] at h hm hab hal hl
  have HA : Hid ((0 < n → ∃ g, ab = some ⟨g, 0, none⟩) ∧ (0 < n → ∃ g, al = some ⟨g, 0, none⟩) ∧ es.length = n ∧ ls.length = n) := ⟨hab, hal, hn, hl⟩
  have HH : Hid (Gw w B K ρ (.slice ab n cb) vw (.slice al n cl) es ls) := h
  have q0 := h.bk.c0
  have en : ls.length = n := hl
  rw [en]
  clear h hs hab hal hn hl en
  go_enter Tryd.func34, Tryd.ntmps34
  go_wp2_with fail
  go_loopw [9] (fun t9 wx => ∃ i x : Nat, i ≤ n ∧ t9 = .int .i64 i ∧ wx = w.drewN x) (fun t9 _ => n - (intOf t9).toNat)
  case atStart => exact ⟨0, 0, Nat.zero_le _, rfl, rfl⟩
  case round =>
    obtain ⟨i, x, hi, rfl, rfl⟩ := hrel
    by_cases hlt : i < n
    · have hlt1 : (i : Int) < n := by omega
      obtain ⟨g, rfl⟩ := HA.out.1 (by omega)
      obtain ⟨g2, rfl⟩ := HA.out.2.1 (by omega)
      obtain ⟨e, he⟩ : ∃ e, es[i]? = some e := ⟨_, List.getElem?_eq_getElem (by have := HA.out.2.2.1; omega)⟩
      obtain ⟨l, hl⟩ : ∃ l, ls[i]? = some l := ⟨_, List.getElem?_eq_getElem (by have := HA.out.2.2.2; omega)⟩
      have c1 : w.cell? ⟨g, i, none⟩ = some e.val := HH.out.bk.rb.slot (by rw [List.getElem?_map, he]; rfl)
      have c2 : w.cell? ⟨g2, i, none⟩ = some l := HH.out.rl.slot hl
      have r1 := HH.out.bk.val i e he
      obtain ⟨hmk, hlen⟩ := HS.out i e he
      have r2 := (HH.out.ll i l e hl he).1
      obtain ⟨a1, d1, e1, hb1⟩ := r1.isSlice
      obtain ⟨a2, d2, e2, hb2⟩ := r2.isSlice
      obtain ⟨m, hm1⟩ : ∃ m, e.bs.length = m := ⟨_, rfl⟩
      rw [mk_length, hm1] at e2
      rw [hm1] at e1 hlen hmk
      rw [e1] at c1
      rw [e2] at c2
      have HR : Hid (Row w B (.slice a1 m d1) (mk i m) ∧ Row w B (.slice a2 (m + 90) d2) (mk i (m + 90)) ∧ (0 < m → ∃ g, a1 = some ⟨g, 0, none⟩) ∧ ∃ g, a2 = some ⟨g, 0, none⟩) := ⟨by rw [← e1, ← hmk]; exact r1, by rw [← e2, ← hm1]; exact r2, by rw [hm1] at hb1; exact hb1, hb2 (by rw [mk_length]; omega)⟩
      clear r1 r2 hmk e1 e2 hb1 hb2 hm1 he hl
      go_wp2_with fail
      go_loopw [10] (fun t10 wx => ∃ k y : Nat, k ≤ m + 90 ∧ t10 = .int .i64 k ∧ wx = w.drewN y) (fun t10 _ => m + 90 - (intOf t10).toNat)
      case atStart => exact ⟨0, x, Nat.zero_le _, rfl, rfl⟩
      case round =>
        obtain ⟨k, y, hk, rfl, rfl⟩ := hrel
        by_cases hlt2 : k < m + 90
        · have hlt3 : (k : Int) < (m : Int) + 90 := by omega
          obtain ⟨gl, rfl⟩ := HR.out.2.2.2
          have k2 : w.cell? ⟨gl, k, none⟩ = some (.int .u8 (markI i k)) := by
            have := HR.out.2.1.slot (j := k) (by rw [mk_length]; omega)
            rw [mk_getD i _ k hlt2] at this; exact this
          have HM : Hid (∀ z, Calls Tryd.prog 31 #[.int .i64 (i : Int), .int .i64 (k : Int)] (w.drewN (y + z)) fun e w' => e = .returned (.int .u8 (markI i k)) ∧ ∃ u, w' = w.drewN (y + u)) := fun z => (mark_any i k (by omega) _).mono (fun e w' ⟨h1, h2⟩ => ⟨h1, z, h2⟩)
          by_cases hlt4 : k < m
          · have hlt5 : (k : Int) < m := by omega
            obtain ⟨gv, rfl⟩ := HR.out.2.2.1 (by omega)
            have k1 : w.cell? ⟨gv, k, none⟩ = some (.int .u8 (markI i k)) := by
              have := HR.out.1.slot (j := k) (by rw [mk_length]; omega)
              rw [mk_getD i _ k hlt4] at this; exact this
            go_wp2_with fail
            go_quiet ((go_at_call 31; exact HM.out _))
            go_wp2_with fail
            go_roundw
            case rel => exact ⟨k + 1, _, hlt2, by go_num, rfl⟩
            case measure => simp [intOf]; omega
          · have hlt5 : ¬ (k : Int) < m := by omega
            go_wp2_with fail
            go_quiet ((go_at_call 31; exact HM.out _))
            go_wp2_with fail
            go_roundw
            case rel => exact ⟨k + 1, _, hlt2, by go_num, rfl⟩
            case measure => simp [intOf]; omega
        · have hlt3 : ¬ (k : Int) < (m : Int) + 90 := by omega
          go_wp2_with fail
          go_roundw
          case rel => exact ⟨i + 1, _, hlt, by go_num, rfl⟩
          case measure => simp [intOf]; omega
    · have hlt1 : ¬ (i : Int) < n := by omega
      go_wp2_with fail
      refine wp_loop_rounds 1 ?_
      rw [rounds_succ]
      go_wp2_with fail
      refine wp_loop_rounds 1 ?_
      rw [rounds_succ]
      go_wp2_with fail
      go_ret
      exact ⟨rfl, x, rfl⟩
end Go.Proofs.YtommpallecaadaaDoor
